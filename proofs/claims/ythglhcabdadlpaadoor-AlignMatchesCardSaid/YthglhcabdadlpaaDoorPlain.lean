/- The plain mathematics of layer 1: wraps of 64 bits, and the number that digits write up to a limit. No Go in sight; no condition. -/
import Derived.RowKit
import Derived.Lib.ItoaNum
namespace Go.Proofs.YthglhcabdadlpaaDoor.Pl
open Go.RowKit

theorem w_add_l (a b : Int) : wrap64 (wrap64 a + b) = wrap64 (a + b) := by unfold wrap64; omega
theorem w_add_r (a b : Int) : wrap64 (a + wrap64 b) = wrap64 (a + b) := by unfold wrap64; omega
theorem w_sub_l (a b : Int) : wrap64 (wrap64 a - b) = wrap64 (a - b) := by unfold wrap64; omega
theorem w_sub_r (a b : Int) : wrap64 (a - wrap64 b) = wrap64 (a - b) := by unfold wrap64; omega
theorem w_ex (a : Int) : ∃ k, wrap64 a = a + 18446744073709551616 * k := ⟨-((a + 9223372036854775808) / 18446744073709551616), by unfold wrap64; omega⟩
theorem w_cong (a k : Int) : wrap64 (a + 18446744073709551616 * k) = wrap64 a := by unfold wrap64; omega
theorem w_mul_l (a b : Int) : wrap64 (wrap64 a * b) = wrap64 (a * b) := by
  obtain ⟨k, hk⟩ := w_ex a
  rw [hk, Int.add_mul, Int.mul_assoc, w_cong]
theorem w_mul_l_add (a b c : Int) : wrap64 (wrap64 a * b + c) = wrap64 (a * b + c) := by
  rw [← w_add_l (wrap64 a * b) c, w_mul_l, w_add_l]
theorem w_mul_r (a b : Int) : wrap64 (a * wrap64 b) = wrap64 (a * b) := by
  rw [Int.mul_comm, w_mul_l, Int.mul_comm]
theorem w_id (a : Int) (h0 : -9223372036854775808 ≤ a) (h1 : a ≤ 9223372036854775807) : wrap64 a = a := by unfold wrap64; omega
theorem w_bd (a : Int) : -9223372036854775808 ≤ wrap64 a ∧ wrap64 a ≤ 9223372036854775807 := by unfold wrap64; omega

theorem u64w (n : Int) : IntKind.wrap .u64 n = n % 18446744073709551616 := by
  simp [IntKind.wrap, IntKind.signed, IntKind.bits]
theorem neg_u64w (a : Int) (h : a < 0) (h0 : -9223372036854775808 ≤ a) : IntKind.wrap .u64 (-IntKind.wrap .u64 a) = -a := by
  rw [u64w, u64w]; omega

/-- The quotient, cut towards 0 and begun anew; what is left. -/
def quot (a b : Int) : Int := wrap64 (a.tdiv b)
def rest (a b : Int) : Int := a.tmod b
theorem tdiv_back (a b : Int) (h0 : -9223372036854775808 ≤ a) (h1 : a ≤ 9223372036854775807) : wrap64 (wrap64 (quot a b * b) + rest a b) = a := by
  unfold quot rest
  rw [w_add_l, w_mul_l_add, Int.mul_comm, Int.mul_tdiv_add_tmod, w_id a h0 h1]
/-- How far a number is from 0. -/
def far (a : Int) : Int := (a.natAbs : Int)
theorem far_neg {a : Int} (h : a < 0) : far a = -a := by unfold far; omega
theorem far_pos {a : Int} (h : ¬ a < 0) : far a = a := by unfold far; omega
theorem tmod_lt (a b : Int) (hb : b ≠ 0) : far (rest a b) < far b := by
  unfold far rest
  have := Int.natAbs_tmod a b
  have h2 := Nat.mod_lt a.natAbs (Int.natAbs_pos.2 hb)
  omega
theorem tmod_bd (a b : Int) (hb : b ≠ 0) (h2 : -9223372036854775808 ≤ b) (h3 : b ≤ 9223372036854775807) : -9223372036854775808 ≤ rest a b ∧ rest a b ≤ 9223372036854775807 := by
  have := tmod_lt a b hb
  unfold far at this
  omega
theorem tmod_sign (a b : Int) (h : rest a b ≠ 0) : (a < 0 ∧ rest a b < 0) ∨ (¬ a < 0 ∧ ¬ rest a b < 0) := by
  unfold rest at *
  rcases Int.lt_or_le a 0 with ha | ha
  · left
    refine ⟨ha, ?_⟩
    have := Int.tmod_nonneg (a := -a) b (by omega)
    rw [Int.neg_tmod] at this
    omega
  · right
    have := Int.tmod_nonneg b ha
    omega

theorem bd_of_wf {n : Int} (h : (Lit.int .i64 n).wf = true) : -9223372036854775808 ≤ n ∧ n ≤ 9223372036854775807 := by
  simp only [Lit.wf, IntKind.min, IntKind.max, IntKind.signed, IntKind.bits, Bool.and_eq_true, decide_eq_true_eq, if_true] at h
  omega

/-- The j-th binary digit of what is left of n by 2 to the 64. -/
def bit (n : Int) (j : Nat) : Int := wrap64 ((IntKind.wrap .u64 n / 2 ^ j).tmod 2)

/-- The number that the digits write, if it is at most L: 'r' digits are behind us, they write 'n'. -/
def mag (L : Nat) : List UInt8 → Nat → Nat → Option Nat
  | [], r, n => if r = 0 then none else some n
  | c :: t, r, n => if 48 ≤ c.toNat ∧ c.toNat ≤ 57 ∧ ¬ (0 < r ∧ n = 0) ∧ n ≤ (L - (c.toNat - 48)) / 10 then mag L t (r + 1) (n * 10 + (c.toNat - 48)) else none

theorem mag_nil (L r n : Nat) : mag L [] r n = if r = 0 then none else some n := rfl
theorem mag_go {L : Nat} {c : UInt8} {t : List UInt8} {r n : Nat} (h1 : 48 ≤ c.toNat) (h2 : c.toNat ≤ 57) (h3 : ¬ (0 < r ∧ n = 0)) (h4 : n ≤ (L - (c.toNat - 48)) / 10) :
    mag L (c :: t) r n = mag L t (r + 1) (n * 10 + (c.toNat - 48)) := by
  rw [mag, if_pos ⟨h1, h2, h3, h4⟩]
theorem mag_no {L : Nat} {c : UInt8} {t : List UInt8} {r n : Nat} (h : c.toNat < 48 ∨ 57 < c.toNat ∨ (0 < r ∧ n = 0) ∨ (L - (c.toNat - 48)) / 10 < n) :
    mag L (c :: t) r n = none := by
  rw [mag, if_neg]
  rintro ⟨h1, h2, h3, h4⟩
  rcases h with h | h | h | h
  · omega
  · omega
  · exact h3 h
  · omega

theorem drop_at (s : ByteArray) (k : Nat) (h : k < s.size) : s.data.toList.drop k = s[k] :: s.data.toList.drop (k + 1) := by
  rw [List.drop_eq_getElem_cons (by simpa using h)]; rfl

theorem mag_stop {s : ByteArray} {L : Int} {k m : Nat} (h : k < s.size) (h9 : 9 ≤ L) (H : mag L.toNat s.data.toList 0 0 = mag L.toNat (s.data.toList.drop k) k m)
    (hc : (s[k].toNat : Int) < 48 ∨ 57 < (s[k].toNat : Int) ∨ (0 < k ∧ m = 0) ∨ (48 ≤ (s[k].toNat : Int) ∧ (s[k].toNat : Int) ≤ 57 ∧ (L - ((s[k].toNat : Int) - 48)) / 10 < m)) : mag L.toNat s.data.toList 0 0 = none := by
  rw [H, drop_at s k h]
  apply mag_no
  omega

theorem mag_step {s : ByteArray} {L : Int} {k m : Nat} (h : k < s.size) (h9 : 9 ≤ L) (H : mag L.toNat s.data.toList 0 0 = mag L.toNat (s.data.toList.drop k) k m)
    (h1 : 48 ≤ (s[k].toNat : Int)) (h2 : (s[k].toNat : Int) ≤ 57) (h3 : ¬ (0 < k ∧ m = 0)) (h4 : (m : Int) ≤ (L - ((s[k].toNat : Int) - 48)) / 10) :
    mag L.toNat s.data.toList 0 0 = mag L.toNat (s.data.toList.drop (k + 1)) (k + 1) (m * 10 + (s[k].toNat - 48)) := by
  rw [H, drop_at s k h]
  exact mag_go (by omega) (by omega) h3 (by omega)

theorem mag_end {s : ByteArray} {L k m : Nat} (h : ¬ k < s.size) (hk : k ≤ s.size) (H : mag L s.data.toList 0 0 = mag L (s.data.toList.drop k) k m) :
    mag L s.data.toList 0 0 = if k = 0 then none else some m := by
  rw [H, List.drop_eq_nil_of_le (by simp; omega), mag_nil]

/-- How far a number may lie from 0 (below it there is one more). -/
def lim (b : Bool) : Int := if b then 9223372036854775808 else 9223372036854775807
theorem lim_bd (b : Bool) : 9 ≤ lim b ∧ lim b ≤ 18446744073709551615 := by cases b <;> decide
theorem lim_bd' (b : Bool) : lim b ≤ 9223372036854775808 := by cases b <;> decide
theorem lim_pos : lim false ≤ 9223372036854775807 := by decide

theorem mag_le (L : Nat) (h9 : 9 ≤ L) : ∀ (l : List UInt8) (r n m : Nat), n ≤ L → mag L l r n = some m → m ≤ L
  | [], r, n, m, hn, h => by
    rw [mag_nil] at h
    split at h
    · cases h
    · cases h; exact hn
  | c :: t, r, n, m, hn, h => by
    rw [mag] at h
    split at h
    · rename_i hc
      exact mag_le L h9 t _ _ m (by omega) h
    · cases h

/-- What num.Parse answers: the number, if the text is one's. -/
def parse (l : List UInt8) : Option Int :=
  match l with
  | 45 :: t => (mag (lim true).toNat t 0 0).bind fun n : Nat => if n = 0 then none else some (-(n : Int))
  | l => (mag (lim false).toNat l 0 0).map fun n : Nat => (n : Int)

/-- The error's number beside it: 0, or 10 (no number). -/
def errno (o : Option Int) : Int := if o.isSome then 0 else 10
theorem errno_none : errno none = 10 := rfl
theorem errno_some (n : Int) : errno (some n) = 0 := rfl

theorem parse_neg (t : List UInt8) : parse (45 :: t) = (mag (lim true).toNat t 0 0).bind fun n : Nat => if n = 0 then none else some (-(n : Int)) := rfl
theorem parse_pos (l : List UInt8) (h : ∀ t, l ≠ 45 :: t) : parse l = (mag (lim false).toNat l 0 0).map fun n : Nat => (n : Int) := by
  unfold parse
  split
  · rename_i t; exact absurd rfl (h t)
  · rfl

end Go.Proofs.YthglhcabdadlpaaDoor.Pl
