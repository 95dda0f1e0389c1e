/- Long division bit by bit: the steps, as plain mathematics. -/
import Derived.Test.YtdjpjoipdlfooaaDoorPlain
namespace Go.Proofs.YtdjpjoipdlfooaaDoor.Pl
open Go.RowKit

/-- The highest m of a's 64 binary digits, as a number. -/
def top (a : Int) (m : Nat) : Int := a / 2 ^ (64 - m)
theorem bt_eq (a : Int) (j : Nat) (ha : 0 ≤ a) : (a / 2 ^ j).tmod 2 = a / 2 ^ j % 2 := by
  have hp : (0 : Int) < 2 ^ j := Int.pow_pos (by decide)
  exact Int.tmod_eq_emod_of_nonneg (Int.ediv_nonneg ha (Int.le_of_lt hp))
theorem bt_bd (a : Int) (j : Nat) (ha : 0 ≤ a) : 0 ≤ (a / 2 ^ j).tmod 2 ∧ (a / 2 ^ j).tmod 2 ≤ 1 := by
  rw [bt_eq a j ha]; omega
theorem top_step (a : Int) (m j : Nat) (ha : 0 ≤ a) (hj : 63 - m = j) (hm : m < 64) : top a (m + 1) = top a m * 2 + (a / 2 ^ j).tmod 2 := by
  unfold top
  rw [bt_eq a j ha, show 64 - (m + 1) = j by omega, show 64 - m = j + 1 by omega, Int.pow_succ]
  have hp : (0 : Int) < 2 ^ j := Int.pow_pos (by decide)
  rw [← Int.ediv_ediv_of_nonneg (Int.le_of_lt hp)]
  omega
theorem top_le (a : Int) (m : Nat) (ha : 0 ≤ a) : top a m ≤ a := by
  unfold top
  exact Int.ediv_le_self _ ha
theorem top_zero (a : Int) (ha0 : 0 ≤ a) (ha1 : a ≤ 18446744073709551615) : top a 0 = 0 := by
  unfold top
  rw [show (2 : Int) ^ (64 - 0) = 18446744073709551616 from by decide]
  omega
theorem top_all (a : Int) : top a 64 = a := by
  unfold top
  rw [show (2 : Int) ^ (64 - 64) = 1 from by decide, Int.ediv_one]
theorem le_mul (q b : Int) (hq : 0 ≤ q) (hb : 1 ≤ b) : q ≤ q * b := by
  have := Int.mul_le_mul_of_nonneg_left hb hq
  rwa [Int.mul_one] at this

section
variable {a b q0 r0 : Int} {m j : Nat}
theorem q_bd (ha0 : 0 ≤ a) (ha1 : a ≤ 18446744073709551615) (hb0 : 1 ≤ b) (hq : 0 ≤ q0) (hr : 0 ≤ r0) (hj : 63 - m = j) (hm : m < 64) (T : top a m = q0 * b + r0) : q0 * 2 ≤ 18446744073709551615 := by
  have h1 := top_step a m j ha0 hj hm
  have h2 := top_le a (m + 1) ha0
  have h3 := bt_bd a j ha0
  have h4 := le_mul q0 b hq hb0
  omega
theorem two_mul_b (q b : Int) : q * 2 * b = q * b * 2 := by rw [Int.mul_assoc, Int.mul_comm 2 b, ← Int.mul_assoc]
theorem hit (ha0 : 0 ≤ a) (hj : 63 - m = j) (hm : m < 64) (T : top a m = q0 * b + r0) : top a (m + 1) = (q0 * 2 + 1) * b + (r0 * 2 + (a / 2 ^ j).tmod 2 - b) := by
  have e : (q0 * 2 + 1) * b = q0 * b * 2 + b := by rw [Int.add_mul, Int.one_mul, two_mul_b]
  rw [top_step a m j ha0 hj hm, T, e]
  omega
theorem miss (ha0 : 0 ≤ a) (hj : 63 - m = j) (hm : m < 64) (T : top a m = q0 * b + r0) : top a (m + 1) = q0 * 2 * b + (r0 * 2 + (a / 2 ^ j).tmod 2) := by
  rw [top_step a m j ha0 hj hm, T, two_mul_b]
  omega
theorem over_wrap {t : Int} (ho : 9223372036854775808 ≤ r0) (hr : r0 < b) (hb : b ≤ 18446744073709551615) (h0 : 0 ≤ t) (h1 : t ≤ 1) :
    IntKind.wrap .u64 (IntKind.wrap .u64 (IntKind.wrap .u64 (r0 * 2) + t) - b) = r0 * 2 + t - b ∧ 0 ≤ r0 * 2 + t - b ∧ r0 * 2 + t - b < b := by
  rw [u64w, u64w, u64w]
  omega
theorem all_parts (hb0 : 1 ≤ b) (hr : 0 ≤ r0) (hrb : r0 < b) (T : top a 64 = q0 * b + r0) : q0 = a / b ∧ r0 = a % b := by
  rw [top_all] at T
  have h1 : a / b = q0 := by
    rw [T, Int.add_comm, Int.add_mul_ediv_right _ _ (by omega), Int.ediv_eq_zero_of_lt hr hrb, Int.zero_add]
  have h2 : a % b = r0 := by
    rw [T, Int.add_comm, Int.add_mul_emod_self_right, Int.emod_eq_of_lt hr hrb]
  exact ⟨h1.symm, h2.symm⟩
end
theorem far_bd (a : Int) (h0 : -9223372036854775808 ≤ a) (h1 : a ≤ 9223372036854775807) : 0 ≤ far a ∧ far a ≤ 18446744073709551615 := by unfold far; omega
theorem far_one {b : Int} (h : ¬ b = 0) : 1 ≤ far b := by unfold far; omega
theorem far_size_neg {a : Int} (h : a < 0) (h0 : -9223372036854775808 ≤ a) : IntKind.wrap .u64 (wrap64 (-a)) = far a := by
  rw [u64w, far_neg h]; unfold wrap64; omega
theorem quot_same {a b : Int} (h : (a < 0 ∧ b < 0) ∨ (¬ a < 0 ∧ ¬ b < 0)) : wrap64 (far a / far b) = quot a b := by
  unfold quot
  rcases h with ⟨h1, h2⟩ | ⟨h1, h2⟩
  · have e : a.tdiv b = -a / -b := by
      have h3 : a.tdiv b = (-a).tdiv (-b) := by rw [Int.neg_tdiv, Int.tdiv_neg, Int.neg_neg]
      rw [h3, Int.tdiv_eq_ediv_of_nonneg (by omega)]
    rw [e, far_neg h1, far_neg h2]
  · rw [far_pos h1, far_pos h2, Int.tdiv_eq_ediv_of_nonneg (by omega)]
theorem quot_other {a b : Int} (h : (a < 0 ∧ ¬ b < 0) ∨ (¬ a < 0 ∧ b < 0)) : wrap64 (-wrap64 (far a / far b)) = quot a b := by
  have hw : ∀ x : Int, wrap64 (-wrap64 x) = wrap64 (-x) := fun x => by unfold wrap64; omega
  rw [hw]
  unfold quot
  rcases h with ⟨h1, h2⟩ | ⟨h1, h2⟩
  · have e : a.tdiv b = -(-a / b) := by
      have h3 : a.tdiv b = -((-a).tdiv b) := by rw [Int.neg_tdiv, Int.neg_neg]
      rw [h3, Int.tdiv_eq_ediv_of_nonneg (by omega)]
    rw [e, far_neg h1, far_pos h2]
  · have e : a.tdiv b = -(a / -b) := by
      have h3 : a.tdiv b = -(a.tdiv (-b)) := by rw [Int.tdiv_neg, Int.neg_neg]
      rw [h3, Int.tdiv_eq_ediv_of_nonneg (by omega)]
    rw [e, far_pos h1, far_neg h2]
theorem rest_eq {a b : Int} (hb : ¬ b = 0) (h2 : -9223372036854775808 ≤ b) (h3 : b ≤ 9223372036854775807) : wrap64 (a - wrap64 (quot a b * b)) = rest a b := by
  have h := tmod_bd a b hb h2 h3
  have e : a - a.tdiv b * b = rest a b := by
    unfold rest
    have := Int.mul_tdiv_add_tmod a b
    rw [Int.mul_comm] at this
    omega
  rw [w_sub_r]
  unfold quot
  rw [show a - wrap64 (a.tdiv b) * b = -(wrap64 (a.tdiv b) * b + -a) by omega]
  have hn : ∀ x : Int, wrap64 (-x) = wrap64 (-wrap64 x) := fun x => by unfold wrap64; omega
  rw [hn, w_mul_l_add, ← hn, show -(a.tdiv b * b + -a) = a - a.tdiv b * b by omega, e, w_id _ h.1 h.2]
end Go.Proofs.YtdjpjoipdlfooaaDoor.Pl
