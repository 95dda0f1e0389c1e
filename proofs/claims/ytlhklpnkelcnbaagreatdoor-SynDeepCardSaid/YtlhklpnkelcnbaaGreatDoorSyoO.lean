/- SynDeep walked. -/
import Derived.Test.YtlhklpnkelcnbaaGreatDoorSyoK0
import Derived.Test.YtlhklpnkelcnbaaGreatDoorSyoK1
import Derived.Test.YtlhklpnkelcnbaaGreatDoorSyoK2
import Derived.Test.YtlhklpnkelcnbaaGreatDoorSyoK3
import Derived.Test.YtlhklpnkelcnbaaGreatDoorSyoK4
import Derived.Test.YtlhklpnkelcnbaaGreatDoorGrH
import Derived.Test.YtlhklpnkelcnbaaGreatDoorGrI
namespace Go.Proofs.YtlhklpnkelcnbaaGreatDoor
open Go.RowKit

theorem deep_walk (n how : Int) (w : World) (ht : Kw w ∧ Tab w) (_h1 : (Lit.int .i64 n).wf = true) (_h2 : (Lit.int .i64 how).wf = true) : Calls Tryz.prog 4 #[.int .i64 n, .int .i64 how] w fun e w' => e = .returned (.bool true) ∧ Below w.heap.size w w' := by
  obtain ⟨r, hr, ea⟩ := among_det n 90 (by decide) (by decide)
  obtain ⟨h, hh, eb⟩ := among_det how 5 (by decide) (by decide)
  have hr' : r < 90 := by omega
  have hc : h = 0 ∨ h = 1 ∨ h = 2 ∨ h = 3 ∨ h = 4 := by omega
  rcases hc with rfl | rfl | rfl | rfl | rfl
  · exact deep0 ck0 n how r hr' ea eb w ht.1 ht.2
  · exact deep1 ck1 n how r hr' ea eb w ht.1 ht.2
  · exact deep2 ck2 n how r hr' ea eb w ht.1 ht.2
  · exact deep3 ck3 n how r hr' ea eb w ht.1 ht.2
  · exact deep4 ck4 n how r hr' ea eb w ht.1 ht.2
end Go.Proofs.YtlhklpnkelcnbaaGreatDoor
