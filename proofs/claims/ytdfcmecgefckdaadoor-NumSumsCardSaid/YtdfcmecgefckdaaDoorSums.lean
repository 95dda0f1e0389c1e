/- NumSums: for any two integers of 64 bits, num's sum, difference and Neg are the reference's, digit by digit; and the fixed calls come out true. -/
import Derived.Test.YtdfcmecgefckdaaDoorRef1
import Derived.Test.YtdfcmecgefckdaaDoorKnown
namespace Go.Proofs.YtdfcmecgefckdaaDoor
open Go.RowKit

theorem beq_self (x : Int) : (x == x) = true := beq_self_eq_true x
set_option maxHeartbeats 400000 in
theorem sums_walk (a b : Int) (w : World) (ht : Tab w) (_ : (Lit.int .i64 a).wf = true) (_ : (Lit.int .i64 b).wf = true) :
    Calls Tryd.prog 3 #[.int .i64 a, .int .i64 b] w fun e w' => e = .returned (.bool true) ∧ Below w.heap.size w w' := by
  have HT : Hid (Tab w) := ht
  clear ht
  go_enter Tryd.func3, Tryd.ntmps3
  go_wp2_with (go_at_call 9; go_in)
  refine (radd_any a b w).mono ?_
  rintro e w1 ⟨rfl, b1⟩
  go_wp2_with (go_at_call 11; go_in)
  refine (rsub_any a b w1).mono ?_
  rintro e w2 ⟨rfl, b2⟩
  go_wp2_with (go_at_call 13; go_in)
  refine (rneg_any a w2).mono ?_
  rintro e w3 ⟨rfl, b3⟩
  have q1 := b1.size
  have q2 := b2.size
  have q3 := b3.size
  have hb : Below w.heap.size w w3 := (b1.trans (b2.mono q1)).trans (b3.mono (Nat.le_trans q1 q2))
  clear b1 b2 b3
  go_wp2_with fail
  refine (known_any w3 (HT.out.later hb (Nat.le_refl _))).mono ?_
  rintro e w4 ⟨rfl, b4⟩
  go_wp2
  go_ret
  exact ⟨rfl, hb.trans (b4.mono (by omega))⟩
end Go.Proofs.YtdfcmecgefckdaaDoor
