/- NumRing: for any three integers of 64 bits, num's sums and products do not hang on the order and share out over one another, a difference undoes a sum, a number and its Neg sum to 0, and the fixed calls come out true. -/
import Derived.Test.YtdfcmecgefckdaaDoorKnown
namespace Go.Proofs.YtdfcmecgefckdaaDoor
open Go.RowKit

theorem beq_of {x y : Int} (h : x = y) : (x == y) = true := by rw [h]; exact beq_self_eq_true y

set_option maxHeartbeats 400000 in
theorem ring_walk (a b c : Int) (w : World) (ht : Tab w) (h0 : -9223372036854775808 ≤ a) (h1 : a ≤ 9223372036854775807) :
    Calls Tryd.prog 8 #[.int .i64 a, .int .i64 b, .int .i64 c] w fun e w' => e = .returned (.bool true) ∧ Below w.heap.size w w' := by
  have HT : Hid (Tab w) := ht
  clear ht
  have e1 : (wrap64 (a + b) == wrap64 (b + a)) = true := beq_of (by rw [Int.add_comm])
  have e2 : (wrap64 (a * b) == wrap64 (b * a)) = true := beq_of (by rw [Int.mul_comm])
  have e3 : (wrap64 (a * wrap64 (b + c)) == wrap64 (wrap64 (a * b) + wrap64 (a * c))) = true := beq_of (by rw [Pl.w_mul_r, Int.mul_add, Pl.w_add_l, Pl.w_add_r])
  have e4 : (wrap64 (wrap64 (a + b) + c) == wrap64 (a + wrap64 (b + c))) = true := beq_of (by rw [Pl.w_add_l, Pl.w_add_r, Int.add_assoc])
  have e5 : (wrap64 (wrap64 (a * b) * c) == wrap64 (a * wrap64 (b * c))) = true := beq_of (by rw [Pl.w_mul_l, Pl.w_mul_r, Int.mul_assoc])
  have e6 : (wrap64 (wrap64 (a + b) - b) == a) = true := beq_of (by rw [Pl.w_sub_l, Int.add_sub_cancel, Pl.w_id a h0 h1])
  have e7 : (wrap64 (a + wrap64 (-a)) == 0) = true := beq_of (by rw [Pl.w_add_r, Int.add_right_neg]; decide +kernel)
  clear h0 h1
  go_enter Tryd.func8, Tryd.ntmps8
  go_wp2_with (first | (go_at_call 9; go_in) | (go_at_call 16; go_in) | (go_at_call 11; go_in) | (go_at_call 13; go_in))
  refine (known_any w HT.out).mono ?_
  rintro e w1 ⟨rfl, hb⟩
  go_wp2
  go_ret
  exact ⟨rfl, hb⟩

theorem ring_walk' (a b c : Int) (w : World) (ht : Tab w) (wa : (Lit.int .i64 a).wf = true) (_ : (Lit.int .i64 b).wf = true) (_ : (Lit.int .i64 c).wf = true) :
    Calls Tryd.prog 8 #[.int .i64 a, .int .i64 b, .int .i64 c] w fun e w' => e = .returned (.bool true) ∧ Below w.heap.size w w' :=
  have h := Pl.bd_of_wf wa
  ring_walk a b c w ht h.1 h.2
end Go.Proofs.YtdfcmecgefckdaaDoor
