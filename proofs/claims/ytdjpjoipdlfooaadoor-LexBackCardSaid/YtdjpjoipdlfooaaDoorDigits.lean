/- Binary digits: sums digit by digit, the number of 64 digits. Plain mathematics; the digits are 0 or 1. -/
import Derived.Test.YtdjpjoipdlfooaaDoorPlain
namespace Go.Proofs.YtdjpjoipdlfooaaDoor.Pl
open Go.RowKit

/-- What is carried to digit i of the sum of a, b and c; the sum's digit i. -/
def car (a b : Nat → Int) (c : Int) : Nat → Int
  | 0 => c
  | i + 1 => (a i + b i + car a b c i) / 2
def pls (a b : Nat → Int) (c : Int) (i : Nat) : Int := (a i + b i + car a b c i) % 2
/-- The number of the m highest of 64 digits. -/
def high (d : Nat → Int) : Nat → Int
  | 0 => 0
  | m + 1 => high d m * 2 + d (63 - m)
/-- The number of the k lowest digits. -/
def low (d : Nat → Int) : Nat → Int
  | 0 => 0
  | k + 1 => low d k + d k * 2 ^ k
/-- Every one of the 64 digits is 0 or 1. -/
def Dig (d : Nat → Int) : Prop := ∀ i, i < 64 → 0 ≤ d i ∧ d i ≤ 1

theorem car_01 {a b : Nat → Int} {c : Int} (ha : Dig a) (hb : Dig b) (h0 : 0 ≤ c) (h1 : c ≤ 1) : ∀ i, i ≤ 64 → 0 ≤ car a b c i ∧ car a b c i ≤ 1
  | 0, _ => ⟨h0, h1⟩
  | i + 1, hi => by
    have := car_01 ha hb h0 h1 i (by omega)
    have h2 := ha i (by omega)
    have h3 := hb i (by omega)
    show 0 ≤ (a i + b i + car a b c i) / 2 ∧ (a i + b i + car a b c i) / 2 ≤ 1
    omega
theorem pls_dig (a b : Nat → Int) (c : Int) : Dig (pls a b c) := by
  intro i _
  unfold pls
  omega
theorem high_bd {d : Nat → Int} (h : Dig d) : ∀ m, m ≤ 64 → 0 ≤ high d m ∧ high d m < 2 ^ m
  | 0, _ => by simp [high]
  | m + 1, hm => by
    have := high_bd h m (by omega)
    have h2 := h (63 - m) (by omega)
    have hp : (2 : Int) ^ (m + 1) = 2 ^ m * 2 := Int.pow_succ 2 m
    simp only [high]
    omega
theorem low_bd {d : Nat → Int} (h : Dig d) : ∀ m, m ≤ 64 → 0 ≤ low d m ∧ low d m < 2 ^ m
  | 0, _ => by simp [low]
  | m + 1, hm => by
    have := low_bd h m (by omega)
    have h2 := h m (by omega)
    have hp : (2 : Int) ^ (m + 1) = 2 ^ m * 2 := Int.pow_succ 2 m
    have hpos : (0 : Int) < 2 ^ m := Int.pow_pos (by decide)
    simp only [low]
    rcases (by omega : d m = 0 ∨ d m = 1) with e | e <;> rw [e] <;> omega

theorem pow_le (m n : Nat) (h : m ≤ n) : (2 : Int) ^ m ≤ 2 ^ n := by
  have := Nat.pow_le_pow_right (n := 2) (by decide) h
  exact_mod_cast this
theorem high_lt {d : Nat → Int} (h : Dig d) (m : Nat) (hm : m ≤ 63) : 0 ≤ high d m ∧ high d m ≤ 9223372036854775807 := by
  have h1 := high_bd h m (by omega)
  have h2 := pow_le m 63 hm
  have h3 : (2 : Int) ^ 63 = 9223372036854775808 := by decide
  omega
theorem high_low (d : Nat → Int) : ∀ m, m ≤ 64 → high d m * 2 ^ (64 - m) + low d (64 - m) = low d 64
  | 0, _ => by simp [high]
  | m + 1, hm => by
    have ih := high_low d m (by omega)
    obtain ⟨j, hj⟩ : ∃ j, 64 - m = j + 1 := ⟨63 - m, by omega⟩
    have e1 : 64 - (m + 1) = j := by omega
    have e2 : 63 - m = j := by omega
    rw [hj] at ih
    rw [← ih, e1]
    simp only [high, low, e2]
    rw [Int.pow_succ, Int.add_mul]
    generalize (2 : Int) ^ j = p
    have : high d m * 2 * p = high d m * (p * 2) := by rw [Int.mul_assoc, Int.mul_comm 2 p]
    omega
theorem high_all (d : Nat → Int) : high d 64 = low d 64 := by
  have := high_low d 64 (Nat.le_refl _)
  simpa [low] using this

theorem low_pls (a b : Nat → Int) (c : Int) : ∀ k, low (pls a b c) k + car a b c k * 2 ^ k = low a k + low b k + c
  | 0 => by simp [low, car]
  | k + 1 => by
    have ih := low_pls a b c k
    simp only [low, car, pls, Int.pow_succ]
    generalize hs : a k + b k + car a b c k = s
    have h1 : s % 2 + s / 2 * 2 = s := by omega
    generalize (2 : Int) ^ k = p at *
    have e1 : s % 2 * p + s / 2 * (p * 2) = s * p := by
      have : s / 2 * (p * 2) = s / 2 * 2 * p := by rw [Int.mul_comm p 2, ← Int.mul_assoc]
      rw [this, ← Int.add_mul, h1]
    have e2 : s * p = a k * p + b k * p + car a b c k * p := by rw [← hs, Int.add_mul, Int.add_mul]
    omega
theorem two64 : (2 : Int) ^ 64 = 18446744073709551616 := by decide
theorem low_sum {a b : Nat → Int} {c : Int} (ha : Dig a) (hb : Dig b) (h0 : 0 ≤ c) (h1 : c ≤ 1) : low (pls a b c) 64 = (low a 64 + low b 64 + c) % 18446744073709551616 := by
  have h := low_pls a b c 64
  have hc := car_01 ha hb h0 h1 64 (Nat.le_refl _)
  have hl := low_bd (pls_dig a b c) 64 (Nat.le_refl _)
  rw [two64] at *
  omega
theorem low_other {b : Nat → Int} : ∀ k, low (fun i => 1 - b i) k + low b k = 2 ^ k - 1
  | 0 => by simp [low]
  | k + 1 => by
    have ih := low_other (b := b) k
    simp only [low, Int.pow_succ, Int.sub_mul, Int.one_mul]
    generalize (2 : Int) ^ k = p at *
    omega

theorem bit_eq (n : Int) (j : Nat) : bit n j = n % 18446744073709551616 / 2 ^ j % 2 := by
  unfold bit
  rw [u64w]
  have hp : (0 : Int) < 2 ^ j := Int.pow_pos (by decide)
  have h0 : 0 ≤ n % 18446744073709551616 / 2 ^ j := Int.ediv_nonneg (by omega) (Int.le_of_lt hp)
  rw [Int.tmod_eq_emod_of_nonneg h0]
  exact w_id _ (by omega) (by omega)
theorem bit_dig (n : Int) : Dig (bit n) := by
  intro i _
  rw [bit_eq]
  omega
theorem mod_two (N p : Int) (hp : 0 < p) : N % p + N / p % 2 * p = N % (p * 2) := by
  have h1 := Int.mul_ediv_add_emod N p
  have h2 := Int.mul_ediv_add_emod (N / p) 2
  have h3 := Int.emod_nonneg N (Int.ne_of_gt hp)
  have h4 := Int.emod_lt_of_pos N hp
  generalize N % p = r at *
  generalize N / p = q at *
  generalize hq2 : q / 2 = q2 at *
  have h5 : q % 2 = 0 ∨ q % 2 = 1 := by omega
  have e : N = (r + q % 2 * p) + p * 2 * q2 := by
    have : p * q = p * 2 * q2 + q % 2 * p := by
      rw [← h2, Int.mul_add, Int.mul_assoc, Int.mul_comm p (q % 2)]
      congr 2
      omega
    omega
  have hr : (r + q % 2 * p) % (p * 2) = r + q % 2 * p := by
    apply Int.emod_eq_of_lt
    · rcases h5 with e | e <;> rw [e] <;> omega
    · rcases h5 with e | e <;> rw [e] <;> omega
  rw [e, Int.add_mul_emod_self_left, hr]
theorem low_bit (n : Int) : ∀ k, low (bit n) k = n % 18446744073709551616 % 2 ^ k
  | 0 => by simp [low, Int.emod_one]
  | k + 1 => by
    simp only [low]
    rw [low_bit n k, bit_eq, Int.pow_succ]
    exact mod_two _ _ (Int.pow_pos (by decide))
theorem low_bits (n : Int) : low (bit n) 64 = n % 18446744073709551616 := by
  rw [low_bit, two64]
  omega
end Go.Proofs.YtdjpjoipdlfooaaDoor.Pl
