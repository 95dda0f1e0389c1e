/- NumProducts: for any two integers of 64 bits, num's product is the reference's, digit by digit; and the fixed calls come out true. -/
import Derived.Test.YtdfcmecgefckdaaDoorRef2
import Derived.Test.YtdfcmecgefckdaaDoorKnown
namespace Go.Proofs.YtdfcmecgefckdaaDoor
open Go.RowKit

set_option maxHeartbeats 400000 in
theorem prods_walk (a b : Int) (w : World) (ht : Tab w) (_ : (Lit.int .i64 a).wf = true) (_ : (Lit.int .i64 b).wf = true) :
    Calls Tryd.prog 4 #[.int .i64 a, .int .i64 b] w fun e w' => e = .returned (.bool true) ∧ Below w.heap.size w w' := by
  have HT : Hid (Tab w) := ht
  clear ht
  go_enter Tryd.func4, Tryd.ntmps4
  go_wp2_with (go_at_call 16; go_in)
  refine (rmul_any a b w).mono ?_
  rintro e w1 ⟨rfl, b1⟩
  go_wp2_with fail
  refine (known_any w1 (HT.out.later b1 (Nat.le_refl _))).mono ?_
  rintro e w4 ⟨rfl, b4⟩
  go_wp2
  go_ret
  exact ⟨rfl, b1.trans (b4.mono b1.size)⟩
end Go.Proofs.YtdfcmecgefckdaaDoor
