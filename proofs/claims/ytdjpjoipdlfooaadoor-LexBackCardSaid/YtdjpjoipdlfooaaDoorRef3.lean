/- The reference's quotient and rest, bit by bit, are those of Go's own integers of 64 bits. -/
import Derived.Test.YtdjpjoipdlfooaaDoorRef2
import Derived.Test.YtdjpjoipdlfooaaDoorDivMod
import Derived.Test.YtdjpjoipdlfooaaDoorPart
namespace Go.Proofs.YtdjpjoipdlfooaaDoor
open Go.RowKit

set_option maxHeartbeats 400000 in
theorem size_any (a : Int) (w : World) (h0 : -9223372036854775808 ≤ a) (h1 : a ≤ 9223372036854775807) :
    Calls Tryd.prog 37 #[.int .i64 a] w fun e w' => e = .returned (.int .u64 (Pl.far a)) ∧ Below w.heap.size w w' := by
  by_cases h : a < 0
  · have HF : Hid (IntKind.wrap .u64 (wrap64 (-a)) = Pl.far a) := Pl.far_size_neg h h0
    go_enter Tryd.func37, Tryd.ntmps37
    go_wp2_with fail
    refine (rneg_any a w).mono ?_
    rintro e w1 ⟨rfl, b1⟩
    go_wp2
    go_ret
    rw [← HF.out]
    exact ⟨by go_num, b1⟩
  · have HF : Hid (Pl.far a = a) := Pl.far_pos h
    go_enter Tryd.func37, Tryd.ntmps37
    go_wp2
    go_ret
    rw [HF.out]
    exact ⟨rfl, Below.refl _ _⟩

end Go.Proofs.YtdjpjoipdlfooaaDoor
