/- Slices of ints that a call makes for itself: small facts. No condition. -/
/- The reference's 64 binary digits of any integer: a new row that holds them. -/
/- Binary digits: sums digit by digit, the number of 64 digits. Plain mathematics; the digits are 0 or 1. -/
/- The reference's digit by digit sums, turned digits, and the number of 64 digits: each for every rows of 64 digits that are 0 or 1. -/
/- The reference's sums and differences are those of Go's own integers of 64 bits. -/
/- The reference's product, digit by digit, is that of Go's own integers of 64 bits. -/
/- num.Div and num.Mod, for any two integers of 64 bits. -/
/- Long division bit by bit: the steps, as plain mathematics. -/
/- The reference's quotient and rest, bit by bit, are those of Go's own integers of 64 bits. -/
/- Texts of numbers: what is read is what was written, and the other way round. Plain mathematics. -/
/- The reference's text of any integer is its decimal numeral; the reference's reading of any text is that of num. -/
/- The reference's reading of any text is num's. -/
import Derived.Test.YtobiedmmjiedlaaRows
import Derived.WalkKit
import Derived.WalkSpells
import Derived.WalkLawsBesides
import Derived.Test.YtobiedmmjiedlaaZLexK
import Derived.Deep.QuietTactic
import Derived.BigQuiet
import Derived.Laws.BytesArg
namespace Go.Proofs.Ytobiedmmjiedlaa
open Go.RowKit

theorem infoInt : (Try.prog.info? 3).map (fun i => (i.zero, i.size, i.bytes)) = some (some (.int .i64 0), 1, 8) := by kernel_rfl

/-- The slice v is a row of the first n of the numbers d, among the blocks from base on. -/
def Own (w : World) (base : Nat) (v : Value) (n : Nat) (d : Nat → Int) : Prop := w.ownsRow base 3 1 v n ((List.range n).map fun j => Value.int .i64 (d j))
theorem Own.nil (w : World) (base : Nat) (d : Nat → Int) : Own w base (.slice none 0 0) 0 d := World.ownsRow_nil _ _ _ _
theorem Own.open {w : World} {base : Nat} {v : Value} {n : Nat} {d : Nat → Int} (h : Own w base v n d) (hn : n ≠ 0) :
    ∃ g cap, v = .slice (some ⟨g, 0, none⟩) n cap ∧ base ≤ g ∧ g < w.heap.size ∧ n ≤ cap ∧ ∀ j, j < n → w.cell? ⟨g, j, none⟩ = some (.int .i64 (d j)) := by
  have hc := @World.ownsRow.cells _ _ _ _ _ _ _ h
  have hl := h.lt
  rcases h.2 with ⟨_, h0⟩ | ⟨g, cap, cur, rfl, hb, _, hnc, _⟩
  · exact absurd h0 hn
  · refine ⟨g, cap, rfl, hb, (hl g rfl).2, hnc, fun j hj => ?_⟩
    have := @hc g rfl j (.int .i64 (d j)) (by simp [hj])
    cases j with
    | zero => simpa [Addr.add] using this
    | succ j => simpa [Addr.add] using this
theorem range_snoc (n : Nat) (d : Nat → Int) : ((List.range n).map fun j => Value.int .i64 (d j)) ++ [Value.int .i64 (d n)] = (List.range (n + 1)).map fun j => Value.int .i64 (d j) := by
  rw [List.range_succ, List.map_append]; rfl
theorem Own.later {w w' : World} {base : Nat} {v : Value} {n : Nat} {d : Nat → Int} (h : Own w base v n d) (hb : Below w.heap.size w w') : Own w' base v n d :=
  h.kept (row := none) ⟨hb.os, hb.tape, hb.output, hb.size, fun k hk _ => hb.block k hk⟩ (by
    rcases h.2 with ⟨rfl, _⟩ | ⟨g, cap, cur, rfl, _⟩
    · exact .inl rfl
    · exact .inr (by simp [Value.ownBlock]))
theorem Own.snoc {w wr w1 : World} {o : Obj} {B : Nat} {v v' : Value} {k : Nat} {d : Nat → Int} (hown : Own wr B v k d) (hnx : Below B w wr) (hB : B ≤ wr.heap.size)
    (h' : w1.ownsRow B 3 1 v' (k + 1) (((List.range k).map fun j => Value.int .i64 (d j)) ++ [.int .i64 (d k)])) (hg : (wr.alloc o).grownBy w1 v.ownBlock) : Own w1 B v' (k + 1) d ∧ Below B w w1 := by
  rw [range_snoc] at h'
  exact ⟨h', (hnx.alloc hB _).grown hg (by simp; omega) (fun g hg => (World.ownsRow.lt hown g hg).1)⟩
theorem one_cell (w : World) (x : Int) (t : TypeId) : ∀ (j : Nat) u, [Value.int .i64 x][j]? = some u → (w.alloc (.cells #[.int .i64 x] t)).cell? ((⟨w.heap.size, 0, none⟩ : Addr).add j) = some u := by
  intro j u hj
  match j, hj with
  | 0, hj => simp at hj; subst hj; simp [Addr.add]
theorem one_one (x : Int) : ∀ u ∈ [Value.int .i64 x], u.oneCell' = true := by
  intro u hu; simp at hu; subst hu; rfl
end Go.Proofs.Ytobiedmmjiedlaa

namespace Go.Proofs.Ytobiedmmjiedlaa
open Go.RowKit

set_option maxRecDepth 100000 in
set_option maxHeartbeats 400000 in
theorem bits_any (n : Int) (w : World) :
    Calls Try.prog 91 #[.int .i64 n] w fun e w' => ∃ v, e = .returned v ∧ Own w' w.heap.size v 64 (Pl.bit n) ∧ Below w.heap.size w w' := by
  obtain ⟨i0, hi, hz0, hz1, hz2⟩ := info_parts infoInt
  go_enter Try.func91, Try.ntmps91
  go_wp2
  go_loopw [3, 4] (fun v i wr => ∃ k : Nat, k ≤ 64 ∧ i = .int .i64 k ∧ Own wr w.heap.size v k (Pl.bit n) ∧ Below w.heap.size w wr) (fun _ i _ => 64 - (intOf i).toNat)
  case atStart => exact ⟨0, by omega, rfl, Own.nil _ _ _, Below.refl _ _⟩
  case round =>
    obtain ⟨k, hk, rfl, hown, hnx⟩ := hrel
    by_cases hlt : k < 64
    · go_wp2_with (at_builtin; refine wpList_append_own _ rfl _ _ 44 rfl w.heap.size 3 i0 (.int .i64 0) 1 8 Try.underlying44 hi hz0 hz1 hz2 rfl (by decide) _ _ _ rfl (World.ownsRow.alloc hown _) ⟨wr.heap.size, 0, none⟩ 1 1 [.int .i64 (Pl.bit n k)] rfl rfl ?c1 (one_one _) ?c3 ?c4 ?c5 ?_)
      case c1 => exact one_cell wr (Pl.bit n k) 3
      case c3 => unfold maxLen; omega
      case c4 => omega
      case c5 => have := hnx.size; simp; omega
      intro v' w1 hown' hgrow _
      obtain ⟨R, hb1⟩ := hown.snoc hnx hnx.size hown' hgrow
      clear hown' hgrow hown hnx
      go_wp2
      go_roundw
      case rel => exact ⟨k + 1, by omega, by go_num, R, hb1⟩
      case measure => simp [intOf]; omega
    · obtain rfl : k = 64 := by omega
      go_wp2
      go_ret
      exact ⟨_, rfl, hown, hnx⟩
end Go.Proofs.Ytobiedmmjiedlaa

namespace Go.Proofs.Ytobiedmmjiedlaa.Pl
open Go.RowKit

/-- What is carried to digit i of the sum of a, b and c; the sum's digit i. -/
def car (a b : Nat → Int) (c : Int) : Nat → Int
  | 0 => c
  | i + 1 => (a i + b i + car a b c i) / 2
def pls (a b : Nat → Int) (c : Int) (i : Nat) : Int := (a i + b i + car a b c i) % 2
/-- The number of the m highest of 64 digits. -/
def high (d : Nat → Int) : Nat → Int
  | 0 => 0
  | m + 1 => high d m * 2 + d (63 - m)
/-- The number of the k lowest digits. -/
def low (d : Nat → Int) : Nat → Int
  | 0 => 0
  | k + 1 => low d k + d k * 2 ^ k
/-- Every one of the 64 digits is 0 or 1. -/
def Dig (d : Nat → Int) : Prop := ∀ i, i < 64 → 0 ≤ d i ∧ d i ≤ 1

theorem car_01 {a b : Nat → Int} {c : Int} (ha : Dig a) (hb : Dig b) (h0 : 0 ≤ c) (h1 : c ≤ 1) : ∀ i, i ≤ 64 → 0 ≤ car a b c i ∧ car a b c i ≤ 1
  | 0, _ => ⟨h0, h1⟩
  | i + 1, hi => by
    have := car_01 ha hb h0 h1 i (by omega)
    have h2 := ha i (by omega)
    have h3 := hb i (by omega)
    show 0 ≤ (a i + b i + car a b c i) / 2 ∧ (a i + b i + car a b c i) / 2 ≤ 1
    omega
theorem pls_dig (a b : Nat → Int) (c : Int) : Dig (pls a b c) := by
  intro i _
  unfold pls
  omega
theorem high_bd {d : Nat → Int} (h : Dig d) : ∀ m, m ≤ 64 → 0 ≤ high d m ∧ high d m < 2 ^ m
  | 0, _ => by simp [high]
  | m + 1, hm => by
    have := high_bd h m (by omega)
    have h2 := h (63 - m) (by omega)
    have hp : (2 : Int) ^ (m + 1) = 2 ^ m * 2 := Int.pow_succ 2 m
    simp only [high]
    omega
theorem low_bd {d : Nat → Int} (h : Dig d) : ∀ m, m ≤ 64 → 0 ≤ low d m ∧ low d m < 2 ^ m
  | 0, _ => by simp [low]
  | m + 1, hm => by
    have := low_bd h m (by omega)
    have h2 := h m (by omega)
    have hp : (2 : Int) ^ (m + 1) = 2 ^ m * 2 := Int.pow_succ 2 m
    have hpos : (0 : Int) < 2 ^ m := Int.pow_pos (by decide)
    simp only [low]
    rcases (by omega : d m = 0 ∨ d m = 1) with e | e <;> rw [e] <;> omega

theorem pow_le (m n : Nat) (h : m ≤ n) : (2 : Int) ^ m ≤ 2 ^ n := by
  have := Nat.pow_le_pow_right (n := 2) (by decide) h
  exact_mod_cast this
theorem high_lt {d : Nat → Int} (h : Dig d) (m : Nat) (hm : m ≤ 63) : 0 ≤ high d m ∧ high d m ≤ 9223372036854775807 := by
  have h1 := high_bd h m (by omega)
  have h2 := pow_le m 63 hm
  have h3 : (2 : Int) ^ 63 = 9223372036854775808 := by decide
  omega
theorem high_low (d : Nat → Int) : ∀ m, m ≤ 64 → high d m * 2 ^ (64 - m) + low d (64 - m) = low d 64
  | 0, _ => by simp [high]
  | m + 1, hm => by
    have ih := high_low d m (by omega)
    obtain ⟨j, hj⟩ : ∃ j, 64 - m = j + 1 := ⟨63 - m, by omega⟩
    have e1 : 64 - (m + 1) = j := by omega
    have e2 : 63 - m = j := by omega
    rw [hj] at ih
    rw [← ih, e1]
    simp only [high, low, e2]
    rw [Int.pow_succ, Int.add_mul]
    generalize (2 : Int) ^ j = p
    have : high d m * 2 * p = high d m * (p * 2) := by rw [Int.mul_assoc, Int.mul_comm 2 p]
    omega
theorem high_all (d : Nat → Int) : high d 64 = low d 64 := by
  have := high_low d 64 (Nat.le_refl _)
  simpa [low] using this

theorem low_pls (a b : Nat → Int) (c : Int) : ∀ k, low (pls a b c) k + car a b c k * 2 ^ k = low a k + low b k + c
  | 0 => by simp [low, car]
  | k + 1 => by
    have ih := low_pls a b c k
    simp only [low, car, pls, Int.pow_succ]
    generalize hs : a k + b k + car a b c k = s
    have h1 : s % 2 + s / 2 * 2 = s := by omega
    generalize (2 : Int) ^ k = p at *
    have e1 : s % 2 * p + s / 2 * (p * 2) = s * p := by
      have : s / 2 * (p * 2) = s / 2 * 2 * p := by rw [Int.mul_comm p 2, ← Int.mul_assoc]
      rw [this, ← Int.add_mul, h1]
    have e2 : s * p = a k * p + b k * p + car a b c k * p := by rw [← hs, Int.add_mul, Int.add_mul]
    omega
theorem two64 : (2 : Int) ^ 64 = 18446744073709551616 := by decide
theorem low_sum {a b : Nat → Int} {c : Int} (ha : Dig a) (hb : Dig b) (h0 : 0 ≤ c) (h1 : c ≤ 1) : low (pls a b c) 64 = (low a 64 + low b 64 + c) % 18446744073709551616 := by
  have h := low_pls a b c 64
  have hc := car_01 ha hb h0 h1 64 (Nat.le_refl _)
  have hl := low_bd (pls_dig a b c) 64 (Nat.le_refl _)
  rw [two64] at *
  omega
theorem low_other {b : Nat → Int} : ∀ k, low (fun i => 1 - b i) k + low b k = 2 ^ k - 1
  | 0 => by simp [low]
  | k + 1 => by
    have ih := low_other (b := b) k
    simp only [low, Int.pow_succ, Int.sub_mul, Int.one_mul]
    generalize (2 : Int) ^ k = p at *
    omega

theorem bit_eq (n : Int) (j : Nat) : bit n j = n % 18446744073709551616 / 2 ^ j % 2 := by
  unfold bit
  rw [u64w]
  have hp : (0 : Int) < 2 ^ j := Int.pow_pos (by decide)
  have h0 : 0 ≤ n % 18446744073709551616 / 2 ^ j := Int.ediv_nonneg (by omega) (Int.le_of_lt hp)
  rw [Int.tmod_eq_emod_of_nonneg h0]
  exact w_id _ (by omega) (by omega)
theorem bit_dig (n : Int) : Dig (bit n) := by
  intro i _
  rw [bit_eq]
  omega
theorem mod_two (N p : Int) (hp : 0 < p) : N % p + N / p % 2 * p = N % (p * 2) := by
  have h1 := Int.mul_ediv_add_emod N p
  have h2 := Int.mul_ediv_add_emod (N / p) 2
  have h3 := Int.emod_nonneg N (Int.ne_of_gt hp)
  have h4 := Int.emod_lt_of_pos N hp
  generalize N % p = r at *
  generalize N / p = q at *
  generalize hq2 : q / 2 = q2 at *
  have h5 : q % 2 = 0 ∨ q % 2 = 1 := by omega
  have e : N = (r + q % 2 * p) + p * 2 * q2 := by
    have : p * q = p * 2 * q2 + q % 2 * p := by
      rw [← h2, Int.mul_add, Int.mul_assoc, Int.mul_comm p (q % 2)]
      congr 2
      omega
    omega
  have hr : (r + q % 2 * p) % (p * 2) = r + q % 2 * p := by
    apply Int.emod_eq_of_lt
    · rcases h5 with e | e <;> rw [e] <;> omega
    · rcases h5 with e | e <;> rw [e] <;> omega
  rw [e, Int.add_mul_emod_self_left, hr]
theorem low_bit (n : Int) : ∀ k, low (bit n) k = n % 18446744073709551616 % 2 ^ k
  | 0 => by simp [low, Int.emod_one]
  | k + 1 => by
    simp only [low]
    rw [low_bit n k, bit_eq, Int.pow_succ]
    exact mod_two _ _ (Int.pow_pos (by decide))
theorem low_bits (n : Int) : low (bit n) 64 = n % 18446744073709551616 := by
  rw [low_bit, two64]
  omega
end Go.Proofs.Ytobiedmmjiedlaa.Pl

namespace Go.Proofs.Ytobiedmmjiedlaa
open Go.RowKit

set_option maxRecDepth 100000 in
set_option maxHeartbeats 400000 in
theorem plus_any (ga gb ca cb : Nat) (a b : Nat → Int) (c : Int) (w : World) (hga : ga < w.heap.size) (hgb : gb < w.heap.size)
    (hca : ∀ j, j < 64 → w.cell? ⟨ga, j, none⟩ = some (.int .i64 (a j))) (hcb : ∀ j, j < 64 → w.cell? ⟨gb, j, none⟩ = some (.int .i64 (b j)))
    (da : Pl.Dig a) (db : Pl.Dig b) (h0 : 0 ≤ c) (h1 : c ≤ 1) :
    Calls Try.prog 90 #[.slice (some ⟨ga, 0, none⟩) 64 ca, .slice (some ⟨gb, 0, none⟩) 64 cb, .int .i64 c] w fun e w' => ∃ v, e = .returned v ∧ Own w' w.heap.size v 64 (Pl.pls a b c) ∧ Below w.heap.size w w' := by
  obtain ⟨i0, hi, hz0, hz1, hz2⟩ := info_parts infoInt
  have HA : Hid (∀ j, j < 64 → w.cell? ⟨ga, j, none⟩ = some (.int .i64 (a j))) := hca
  have HB : Hid (∀ j, j < 64 → w.cell? ⟨gb, j, none⟩ = some (.int .i64 (b j))) := hcb
  have HC : Hid (∀ i, i ≤ 64 → 0 ≤ Pl.car a b c i ∧ Pl.car a b c i ≤ 1) := Pl.car_01 da db h0 h1
  have DA : Hid (Pl.Dig a) := da
  have DB : Hid (Pl.Dig b) := db
  clear hca hcb da db
  go_enter Try.func90, Try.ntmps90
  go_wp2
  go_loopw [2, 7, 8] (fun x v i wr => ∃ k : Nat, k ≤ 64 ∧ i = .int .i64 k ∧ x = .int .i64 (Pl.car a b c k) ∧ Own wr w.heap.size v k (Pl.pls a b c) ∧ Below w.heap.size w wr) (fun _ _ i _ => 64 - (intOf i).toNat)
  case atStart => exact ⟨0, by omega, rfl, rfl, Own.nil _ _ _, Below.refl _ _⟩
  case round =>
    obtain ⟨k, hk, rfl, rfl, hown, hnx⟩ := hrel
    by_cases hlt : k < 64
    · have hA : wr.cell? ⟨ga, k, none⟩ = some (.int .i64 (a k)) := (hnx.cell (p := ⟨ga, k, none⟩) hga).trans (HA.out k hlt)
      have hB : wr.cell? ⟨gb, k, none⟩ = some (.int .i64 (b k)) := (hnx.cell (p := ⟨gb, k, none⟩) hgb).trans (HB.out k hlt)
      obtain ⟨ha0, ha1⟩ := DA.out k hlt
      obtain ⟨hb0, hb1⟩ := DB.out k hlt
      obtain ⟨hc0, hc1⟩ := HC.out k hk
      go_wp2_with fail
      go_quiet (fail)
      have hownq : Own (wr.drewN nq) w.heap.size _ k (Pl.pls a b c) := hown
      have hnxq : Below w.heap.size w (wr.drewN nq) := below_drewN hnx nq
      clear hown hnx hA hB
      generalize wr.drewN nq = wq at hownq hnxq ⊢
      go_wp2_with (at_builtin; refine wpList_append_own _ rfl _ _ 44 rfl w.heap.size 3 i0 (.int .i64 0) 1 8 Try.underlying44 hi hz0 hz1 hz2 rfl (by decide) _ _ _ rfl (World.ownsRow.alloc hownq _) ⟨wq.heap.size, 0, none⟩ 1 1 [.int .i64 (Pl.pls a b c k)] rfl rfl ?c1 (one_one _) ?c3 ?c4 ?c5 ?_)
      case c1 => exact one_cell wq (Pl.pls a b c k) 3
      case c3 => unfold maxLen; omega
      case c4 => omega
      case c5 => have := hnxq.size; simp; omega
      intro v' w1 hown' hgrow _
      obtain ⟨R, hb1⟩ := hownq.snoc hnxq hnxq.size hown' hgrow
      clear hown' hgrow hownq hnxq
      go_wp2
      go_roundw
      case rel => exact ⟨k + 1, by omega, by go_num, rfl, R, hb1⟩
      case measure => simp [intOf]; omega
    · obtain rfl : k = 64 := by omega
      go_wp2
      go_ret
      exact ⟨_, rfl, hown, hnx⟩

set_option maxRecDepth 100000 in
set_option maxHeartbeats 400000 in
theorem other_any (ga ca : Nat) (a : Nat → Int) (w : World) (hga : ga < w.heap.size) (hca : ∀ j, j < 64 → w.cell? ⟨ga, j, none⟩ = some (.int .i64 (a j))) (da : Pl.Dig a) :
    Calls Try.prog 92 #[.slice (some ⟨ga, 0, none⟩) 64 ca] w fun e w' => ∃ v, e = .returned v ∧ Own w' w.heap.size v 64 (fun i => 1 - a i) ∧ Below w.heap.size w w' := by
  obtain ⟨i0, hi, hz0, hz1, hz2⟩ := info_parts infoInt
  have HA : Hid (∀ j, j < 64 → w.cell? ⟨ga, j, none⟩ = some (.int .i64 (a j))) := hca
  have DA : Hid (Pl.Dig a) := da
  clear hca da
  go_enter Try.func92, Try.ntmps92
  go_wp2
  go_loopw [3, 4] (fun v i wr => ∃ k : Nat, k ≤ 64 ∧ i = .int .i64 k ∧ Own wr w.heap.size v k (fun i => 1 - a i) ∧ Below w.heap.size w wr) (fun _ i _ => 64 - (intOf i).toNat)
  case atStart => exact ⟨0, by omega, rfl, Own.nil _ _ _, Below.refl _ _⟩
  case round =>
    obtain ⟨k, hk, rfl, hown, hnx⟩ := hrel
    by_cases hlt : k < 64
    · have hA : wr.cell? ⟨ga, k, none⟩ = some (.int .i64 (a k)) := (hnx.cell (p := ⟨ga, k, none⟩) hga).trans (HA.out k hlt)
      obtain ⟨ha0, ha1⟩ := DA.out k hlt
      go_wp2_with (at_builtin; refine wpList_append_own _ rfl _ _ 44 rfl w.heap.size 3 i0 (.int .i64 0) 1 8 Try.underlying44 hi hz0 hz1 hz2 rfl (by decide) _ _ _ rfl (World.ownsRow.alloc hown _) ⟨wr.heap.size, 0, none⟩ 1 1 [.int .i64 (1 - a k)] rfl rfl ?c1 (one_one _) ?c3 ?c4 ?c5 ?_)
      case c1 => exact one_cell wr (1 - a k) 3
      case c3 => unfold maxLen; omega
      case c4 => omega
      case c5 => have := hnx.size; simp; omega
      intro v' w1 hown' hgrow _
      obtain ⟨R, hb1⟩ := hown.snoc hnx hnx.size hown' hgrow
      clear hown' hgrow hown hnx hA
      go_wp2
      go_roundw
      case rel => exact ⟨k + 1, by omega, by go_num, R, hb1⟩
      case measure => simp [intOf]; omega
    · obtain rfl : k = 64 := by omega
      go_wp2
      go_ret
      exact ⟨_, rfl, hown, hnx⟩

set_option maxRecDepth 100000 in
set_option maxHeartbeats 400000 in
theorem number_any (ga ca : Nat) (a : Nat → Int) (w : World) (hca : ∀ j, j < 64 → w.cell? ⟨ga, j, none⟩ = some (.int .i64 (a j))) (da : Pl.Dig a) :
    Calls Try.prog 89 #[.slice (some ⟨ga, 0, none⟩) 64 ca] w fun e w' => e = .returned (.int .i64 (wrap64 (Pl.high a 64))) ∧ w' = w := by
  have HA : Hid (∀ j, j < 64 → w.cell? ⟨ga, j, none⟩ = some (.int .i64 (a j))) := hca
  have HB : Hid (∀ m, m ≤ 63 → 0 ≤ Pl.high a m ∧ Pl.high a m ≤ 9223372036854775807) := Pl.high_lt da
  have DA : Hid (Pl.Dig a) := da
  clear hca da
  go_enter Try.func89, Try.ntmps89
  go_wp2
  go_loop [3, 4] (fun n i => ∃ m : Nat, m ≤ 64 ∧ i = .int .i64 (63 - (m : Int)) ∧ n = .int .u64 (Pl.high a m)) (fun _ i => (intOf i + 1).toNat)
  case atStart => exact ⟨0, by omega, rfl, rfl⟩
  case round =>
    obtain ⟨m, hm, rfl, rfl⟩ := hrel
    by_cases hlt : m < 64
    · obtain ⟨j, hj⟩ : ∃ j, 63 - m = j := ⟨_, rfl⟩
      have hji : (63 : Int) - (m : Int) = (j : Int) := by omega
      have hA : w.cell? ⟨ga, j, none⟩ = some (.int .i64 (a j)) := HA.out j (by omega)
      obtain ⟨ha0, ha1⟩ := DA.out j (by omega)
      obtain ⟨hd0, hd1⟩ := HB.out m (by omega)
      have hs : Hid (Pl.high a (m + 1) = Pl.high a m * 2 + a j) := by unfold Hid; rw [← hj]; rfl
      rw [hji]
      go_wp2
      exact ⟨⟨m + 1, by omega, congrArg (Value.int .i64) (by omega), by rw [hs.out]⟩, by simp [intOf]⟩
    · obtain rfl : m = 64 := by omega
      go_wp2
      go_ret
      exact ⟨rfl, rfl⟩
end Go.Proofs.Ytobiedmmjiedlaa

namespace Go.Proofs.Ytobiedmmjiedlaa
open Go.RowKit

/-- 64 digits d lie at block g, which is one of those from base on. -/
structure Dg (w : World) (base g : Nat) (d : Nat → Int) : Prop where
  ge : base ≤ g
  lt : g < w.heap.size
  get : ∀ j, j < 64 → w.cell? ⟨g, j, none⟩ = some (.int .i64 (d j))
theorem Dg.later {w w' : World} {base g : Nat} {d : Nat → Int} (h : Dg w base g d) (hb : Below w.heap.size w w') : Dg w' base g d :=
  ⟨h.ge, Nat.lt_of_lt_of_le h.lt hb.size, fun j hj => (hb.cell (p := ⟨g, j, none⟩) h.lt).trans (h.get j hj)⟩
theorem Own.dg {w : World} {base : Nat} {v : Value} {d : Nat → Int} (h : Own w base v 64 d) : ∃ g cap, v = .slice (some ⟨g, 0, none⟩) 64 cap ∧ Dg w base g d := by
  obtain ⟨g, cap, hv, h1, h2, _, h4⟩ := h.open (by decide)
  exact ⟨g, cap, hv, h1, h2, h4⟩

theorem bits_dg (n : Int) (w : World) : Calls Try.prog 91 #[.int .i64 n] w fun e w' => ∃ g cap, e = .returned (.slice (some ⟨g, 0, none⟩) 64 cap) ∧ Dg w' w.heap.size g (Pl.bit n) ∧ Below w.heap.size w w' := by
  refine (bits_any n w).mono ?_
  rintro e w' ⟨v, rfl, h, hb⟩
  obtain ⟨g, cap, rfl, hd⟩ := h.dg
  exact ⟨g, cap, rfl, hd, hb⟩
theorem plus_dg (ga gb ca cb ba bb : Nat) (a b : Nat → Int) (c : Int) (w : World) (ha : Dg w ba ga a) (hb : Dg w bb gb b) (da : Pl.Dig a) (db : Pl.Dig b) (h0 : 0 ≤ c) (h1 : c ≤ 1) :
    Calls Try.prog 90 #[.slice (some ⟨ga, 0, none⟩) 64 ca, .slice (some ⟨gb, 0, none⟩) 64 cb, .int .i64 c] w fun e w' => ∃ g cap, e = .returned (.slice (some ⟨g, 0, none⟩) 64 cap) ∧ Dg w' w.heap.size g (Pl.pls a b c) ∧ Below w.heap.size w w' := by
  refine (plus_any ga gb ca cb a b c w ha.lt hb.lt ha.get hb.get da db h0 h1).mono ?_
  rintro e w' ⟨v, rfl, h, hb⟩
  obtain ⟨g, cap, rfl, hd⟩ := h.dg
  exact ⟨g, cap, rfl, hd, hb⟩
theorem other_dg (ga ca ba : Nat) (a : Nat → Int) (w : World) (ha : Dg w ba ga a) (da : Pl.Dig a) :
    Calls Try.prog 92 #[.slice (some ⟨ga, 0, none⟩) 64 ca] w fun e w' => ∃ g cap, e = .returned (.slice (some ⟨g, 0, none⟩) 64 cap) ∧ Dg w' w.heap.size g (fun i => 1 - a i) ∧ Below w.heap.size w w' := by
  refine (other_any ga ca a w ha.lt ha.get da).mono ?_
  rintro e w' ⟨v, rfl, h, hb⟩
  obtain ⟨g, cap, rfl, hd⟩ := h.dg
  exact ⟨g, cap, rfl, hd, hb⟩
theorem other_dig {a : Nat → Int} (h : Pl.Dig a) : Pl.Dig (fun i => 1 - a i) := fun i hi => by have := h i hi; show 0 ≤ 1 - a i ∧ 1 - a i ≤ 1; omega

theorem sum_eq (a b : Int) : wrap64 (Pl.high (Pl.pls (Pl.bit a) (Pl.bit b) 0) 64) = wrap64 (a + b) := by
  rw [Pl.high_all, Pl.low_sum (Pl.bit_dig a) (Pl.bit_dig b) (by decide) (by decide), Pl.low_bits, Pl.low_bits]
  unfold wrap64
  omega
theorem diff_eq (a b : Int) : wrap64 (Pl.high (Pl.pls (Pl.bit a) (fun i => 1 - Pl.bit b i) 1) 64) = wrap64 (a - b) := by
  have h := Pl.low_other (b := Pl.bit b) 64
  rw [Pl.two64, Pl.low_bits] at h
  rw [Pl.high_all, Pl.low_sum (Pl.bit_dig a) (other_dig (Pl.bit_dig b)) (by decide) (by decide), Pl.low_bits]
  unfold wrap64
  omega

set_option maxHeartbeats 400000 in
theorem rsub_any (a b : Int) (w : World) : Calls Try.prog 80 #[.int .i64 a, .int .i64 b] w fun e w' => e = .returned (.int .i64 (wrap64 (a - b))) ∧ Below w.heap.size w w' := by
  have HS : Hid (wrap64 (Pl.high (Pl.pls (Pl.bit a) (fun i => 1 - Pl.bit b i) 1) 64) = wrap64 (a - b)) := diff_eq a b
  go_enter Try.func80, Try.ntmps80
  go_wp2_with fail
  refine (bits_dg a w).mono ?_
  rintro e w1 ⟨g1, c1, rfl, d1, b1⟩
  go_wp2_with fail
  refine (bits_dg b w1).mono ?_
  rintro e w2 ⟨g2, c2, rfl, d2, b2⟩
  go_wp2_with fail
  refine (other_dg g2 c2 _ _ w2 d2 (Pl.bit_dig b)).mono ?_
  rintro e w3 ⟨g3, c3, rfl, d3, b3⟩
  go_wp2_with fail
  refine (plus_dg g1 g3 c1 c3 _ _ _ _ _ w3 ((d1.later b2).later b3) d3 (Pl.bit_dig a) (other_dig (Pl.bit_dig b)) (by decide) (by decide)).mono ?_
  rintro e w4 ⟨g4, c4, rfl, d4, b4⟩
  go_wp2_with fail
  refine (number_any g4 c4 _ w4 d4.get (Pl.pls_dig _ _ _)).mono ?_
  rintro e w5 ⟨rfl, rfl⟩
  go_wp2
  go_ret
  have q1 := b1.size
  have q2 := b2.size
  have q3 := b3.size
  rw [HS.out]
  exact ⟨rfl, ((b1.trans (b2.mono q1)).trans (b3.mono (Nat.le_trans q1 q2))).trans (b4.mono (Nat.le_trans (Nat.le_trans q1 q2) q3))⟩

set_option maxHeartbeats 400000 in
theorem rneg_any (a : Int) (w : World) : Calls Try.prog 71 #[.int .i64 a] w fun e w' => e = .returned (.int .i64 (wrap64 (-a))) ∧ Below w.heap.size w w' := by
  go_enter Try.func71, Try.ntmps71
  go_wp2_with fail
  refine (rsub_any 0 a w).mono ?_
  rintro e w1 ⟨rfl, b1⟩
  go_wp2
  go_ret
  exact ⟨rfl, b1⟩
end Go.Proofs.Ytobiedmmjiedlaa

namespace Go.Proofs.Ytobiedmmjiedlaa
open Go.RowKit

theorem w_emod (x : Int) : wrap64 (x % 18446744073709551616) = wrap64 x := by unfold wrap64; omega
theorem mul_emod (a b : Int) : (a * (b % 18446744073709551616)) % 18446744073709551616 = (a * b) % 18446744073709551616 := by
  rw [Int.mul_emod, Int.emod_emod, ← Int.mul_emod]
theorem mul_yes {ds dx : Nat → Int} {a L P : Int} (hs : Pl.Dig ds) (hx : Pl.Dig dx) (h1 : Pl.low ds 64 = (a * L) % 18446744073709551616) (h2 : Pl.low dx 64 = (a * P) % 18446744073709551616) :
    Pl.low (Pl.pls ds dx 0) 64 = (a * (L + 1 * P)) % 18446744073709551616 := by
  rw [Pl.low_sum hs hx (by decide) (by decide), h1, h2, Int.one_mul, Int.mul_add]
  omega
theorem mul_dbl {dx : Nat → Int} {a P : Int} (hx : Pl.Dig dx) (h2 : Pl.low dx 64 = (a * P) % 18446744073709551616) :
    Pl.low (Pl.pls dx dx 0) 64 = (a * (P * 2)) % 18446744073709551616 := by
  rw [Pl.low_sum hx hx (by decide) (by decide), h2, ← Int.mul_assoc]
  omega
theorem low_zero : Pl.low (Pl.bit 0) 64 = 0 := by rw [Pl.low_bits]; rfl

theorem low_succ (d : Nat → Int) (k : Nat) : Pl.low d (k + 1) = Pl.low d k + d k * 2 ^ k := rfl
theorem start_s (a b : Int) : Pl.low (Pl.bit 0) 64 = (a * Pl.low (Pl.bit b) 0) % 18446744073709551616 := by
  rw [low_zero, show Pl.low (Pl.bit b) 0 = 0 from rfl, Int.mul_zero]; rfl
theorem start_x (a : Int) : Pl.low (Pl.bit a) 64 = (a * 2 ^ 0) % 18446744073709551616 := by
  rw [Pl.low_bits, show (2 : Int) ^ 0 = 1 from rfl, Int.mul_one]

/-- Where the loop stands behind k rounds. -/
structure MulAt (a b : Int) (w wr : World) (gy k gs gx : Nat) (ds dx : Nat → Int) : Prop where
  s : Dg wr w.heap.size gs ds
  x : Dg wr w.heap.size gx dx
  y : Dg wr w.heap.size gy (Pl.bit b)
  sd : Pl.Dig ds
  xd : Pl.Dig dx
  sv : Pl.low ds 64 = (a * Pl.low (Pl.bit b) k) % 18446744073709551616
  xv : Pl.low dx 64 = (a * 2 ^ k) % 18446744073709551616
  bel : Below w.heap.size w wr

theorem Dg.base {w : World} {B B' g : Nat} {d : Nat → Int} (h : Dg w B g d) (hb : B' ≤ B) : Dg w B' g d := ⟨Nat.le_trans hb h.ge, h.lt, h.get⟩

end Go.Proofs.Ytobiedmmjiedlaa

namespace Go.Proofs.Ytobiedmmjiedlaa
open Go.RowKit

end Go.Proofs.Ytobiedmmjiedlaa

namespace Go.Proofs.Ytobiedmmjiedlaa.Pl
open Go.RowKit

/-- The highest m of a's 64 binary digits, as a number. -/
def top (a : Int) (m : Nat) : Int := a / 2 ^ (64 - m)
theorem bt_eq (a : Int) (j : Nat) (ha : 0 ≤ a) : (a / 2 ^ j).tmod 2 = a / 2 ^ j % 2 := by
  have hp : (0 : Int) < 2 ^ j := Int.pow_pos (by decide)
  exact Int.tmod_eq_emod_of_nonneg (Int.ediv_nonneg ha (Int.le_of_lt hp))
theorem bt_bd (a : Int) (j : Nat) (ha : 0 ≤ a) : 0 ≤ (a / 2 ^ j).tmod 2 ∧ (a / 2 ^ j).tmod 2 ≤ 1 := by
  rw [bt_eq a j ha]; omega
theorem top_step (a : Int) (m j : Nat) (ha : 0 ≤ a) (hj : 63 - m = j) (hm : m < 64) : top a (m + 1) = top a m * 2 + (a / 2 ^ j).tmod 2 := by
  unfold top
  rw [bt_eq a j ha, show 64 - (m + 1) = j by omega, show 64 - m = j + 1 by omega, Int.pow_succ]
  have hp : (0 : Int) < 2 ^ j := Int.pow_pos (by decide)
  rw [← Int.ediv_ediv_of_nonneg (Int.le_of_lt hp)]
  omega
theorem top_le (a : Int) (m : Nat) (ha : 0 ≤ a) : top a m ≤ a := by
  unfold top
  exact Int.ediv_le_self _ ha
theorem top_zero (a : Int) (ha0 : 0 ≤ a) (ha1 : a ≤ 18446744073709551615) : top a 0 = 0 := by
  unfold top
  rw [show (2 : Int) ^ (64 - 0) = 18446744073709551616 from by decide]
  omega
theorem top_all (a : Int) : top a 64 = a := by
  unfold top
  rw [show (2 : Int) ^ (64 - 64) = 1 from by decide, Int.ediv_one]
theorem le_mul (q b : Int) (hq : 0 ≤ q) (hb : 1 ≤ b) : q ≤ q * b := by
  have := Int.mul_le_mul_of_nonneg_left hb hq
  rwa [Int.mul_one] at this

section
variable {a b q0 r0 : Int} {m j : Nat}
theorem q_bd (ha0 : 0 ≤ a) (ha1 : a ≤ 18446744073709551615) (hb0 : 1 ≤ b) (hq : 0 ≤ q0) (hr : 0 ≤ r0) (hj : 63 - m = j) (hm : m < 64) (T : top a m = q0 * b + r0) : q0 * 2 ≤ 18446744073709551615 := by
  have h1 := top_step a m j ha0 hj hm
  have h2 := top_le a (m + 1) ha0
  have h3 := bt_bd a j ha0
  have h4 := le_mul q0 b hq hb0
  omega
theorem two_mul_b (q b : Int) : q * 2 * b = q * b * 2 := by rw [Int.mul_assoc, Int.mul_comm 2 b, ← Int.mul_assoc]
theorem hit (ha0 : 0 ≤ a) (hj : 63 - m = j) (hm : m < 64) (T : top a m = q0 * b + r0) : top a (m + 1) = (q0 * 2 + 1) * b + (r0 * 2 + (a / 2 ^ j).tmod 2 - b) := by
  have e : (q0 * 2 + 1) * b = q0 * b * 2 + b := by rw [Int.add_mul, Int.one_mul, two_mul_b]
  rw [top_step a m j ha0 hj hm, T, e]
  omega
theorem miss (ha0 : 0 ≤ a) (hj : 63 - m = j) (hm : m < 64) (T : top a m = q0 * b + r0) : top a (m + 1) = q0 * 2 * b + (r0 * 2 + (a / 2 ^ j).tmod 2) := by
  rw [top_step a m j ha0 hj hm, T, two_mul_b]
  omega
theorem over_wrap {t : Int} (ho : 9223372036854775808 ≤ r0) (hr : r0 < b) (hb : b ≤ 18446744073709551615) (h0 : 0 ≤ t) (h1 : t ≤ 1) :
    IntKind.wrap .u64 (IntKind.wrap .u64 (IntKind.wrap .u64 (r0 * 2) + t) - b) = r0 * 2 + t - b ∧ 0 ≤ r0 * 2 + t - b ∧ r0 * 2 + t - b < b := by
  rw [u64w, u64w, u64w]
  omega
theorem all_parts (hb0 : 1 ≤ b) (hr : 0 ≤ r0) (hrb : r0 < b) (T : top a 64 = q0 * b + r0) : q0 = a / b ∧ r0 = a % b := by
  rw [top_all] at T
  have h1 : a / b = q0 := by
    rw [T, Int.add_comm, Int.add_mul_ediv_right _ _ (by omega), Int.ediv_eq_zero_of_lt hr hrb, Int.zero_add]
  have h2 : a % b = r0 := by
    rw [T, Int.add_comm, Int.add_mul_emod_self_right, Int.emod_eq_of_lt hr hrb]
  exact ⟨h1.symm, h2.symm⟩
end
theorem far_bd (a : Int) (h0 : -9223372036854775808 ≤ a) (h1 : a ≤ 9223372036854775807) : 0 ≤ far a ∧ far a ≤ 18446744073709551615 := by unfold far; omega
theorem far_one {b : Int} (h : ¬ b = 0) : 1 ≤ far b := by unfold far; omega
theorem far_size_neg {a : Int} (h : a < 0) (h0 : -9223372036854775808 ≤ a) : IntKind.wrap .u64 (wrap64 (-a)) = far a := by
  rw [u64w, far_neg h]; unfold wrap64; omega
theorem quot_same {a b : Int} (h : (a < 0 ∧ b < 0) ∨ (¬ a < 0 ∧ ¬ b < 0)) : wrap64 (far a / far b) = quot a b := by
  unfold quot
  rcases h with ⟨h1, h2⟩ | ⟨h1, h2⟩
  · have e : a.tdiv b = -a / -b := by
      have h3 : a.tdiv b = (-a).tdiv (-b) := by rw [Int.neg_tdiv, Int.tdiv_neg, Int.neg_neg]
      rw [h3, Int.tdiv_eq_ediv_of_nonneg (by omega)]
    rw [e, far_neg h1, far_neg h2]
  · rw [far_pos h1, far_pos h2, Int.tdiv_eq_ediv_of_nonneg (by omega)]
theorem quot_other {a b : Int} (h : (a < 0 ∧ ¬ b < 0) ∨ (¬ a < 0 ∧ b < 0)) : wrap64 (-wrap64 (far a / far b)) = quot a b := by
  have hw : ∀ x : Int, wrap64 (-wrap64 x) = wrap64 (-x) := fun x => by unfold wrap64; omega
  rw [hw]
  unfold quot
  rcases h with ⟨h1, h2⟩ | ⟨h1, h2⟩
  · have e : a.tdiv b = -(-a / b) := by
      have h3 : a.tdiv b = -((-a).tdiv b) := by rw [Int.neg_tdiv, Int.neg_neg]
      rw [h3, Int.tdiv_eq_ediv_of_nonneg (by omega)]
    rw [e, far_neg h1, far_pos h2]
  · have e : a.tdiv b = -(a / -b) := by
      have h3 : a.tdiv b = -(a.tdiv (-b)) := by rw [Int.tdiv_neg, Int.neg_neg]
      rw [h3, Int.tdiv_eq_ediv_of_nonneg (by omega)]
    rw [e, far_pos h1, far_neg h2]
theorem rest_eq {a b : Int} (hb : ¬ b = 0) (h2 : -9223372036854775808 ≤ b) (h3 : b ≤ 9223372036854775807) : wrap64 (a - wrap64 (quot a b * b)) = rest a b := by
  have h := tmod_bd a b hb h2 h3
  have e : a - a.tdiv b * b = rest a b := by
    unfold rest
    have := Int.mul_tdiv_add_tmod a b
    rw [Int.mul_comm] at this
    omega
  rw [w_sub_r]
  unfold quot
  rw [show a - wrap64 (a.tdiv b) * b = -(wrap64 (a.tdiv b) * b + -a) by omega]
  have hn : ∀ x : Int, wrap64 (-x) = wrap64 (-wrap64 x) := fun x => by unfold wrap64; omega
  rw [hn, w_mul_l_add, ← hn, show -(a.tdiv b * b + -a) = a - a.tdiv b * b by omega, e, w_id _ h.1 h.2]
end Go.Proofs.Ytobiedmmjiedlaa.Pl

namespace Go.Proofs.Ytobiedmmjiedlaa
open Go.RowKit

set_option maxHeartbeats 400000 in
theorem size_any (a : Int) (w : World) (h0 : -9223372036854775808 ≤ a) (h1 : a ≤ 9223372036854775807) :
    Calls Try.prog 81 #[.int .i64 a] w fun e w' => e = .returned (.int .u64 (Pl.far a)) ∧ Below w.heap.size w w' := by
  by_cases h : a < 0
  · have HF : Hid (IntKind.wrap .u64 (wrap64 (-a)) = Pl.far a) := Pl.far_size_neg h h0
    go_enter Try.func81, Try.ntmps81
    go_wp2_with fail
    refine (rneg_any a w).mono ?_
    rintro e w1 ⟨rfl, b1⟩
    go_wp2
    go_ret
    rw [← HF.out]
    exact ⟨by go_num, b1⟩
  · have HF : Hid (Pl.far a = a) := Pl.far_pos h
    go_enter Try.func81, Try.ntmps81
    go_wp2
    go_ret
    rw [HF.out]
    exact ⟨rfl, Below.refl _ _⟩

end Go.Proofs.Ytobiedmmjiedlaa

namespace Go.Proofs.Ytobiedmmjiedlaa.Pl
open Go.RowKit

theorem dec_small {u : Nat} (h : u < 10) : Lib.decDigits u = [UInt8.ofNat (48 + u)] := by rw [Lib.decDigits, dif_pos h]
theorem dec_big {u : Nat} (h : ¬ u < 10) : Lib.decDigits u = Lib.decDigits (u / 10) ++ [UInt8.ofNat (48 + u % 10)] := by rw [Lib.decDigits, dif_neg h]
theorem dig_toNat {d : Nat} (h : d < 10) : (UInt8.ofNat (48 + d)).toNat = 48 + d := by
  rw [UInt8.toNat_ofNat']; omega
theorem dig_of {c : UInt8} (h1 : 48 ≤ c.toNat) : UInt8.ofNat (48 + (c.toNat - 48)) = c := by
  rw [show 48 + (c.toNat - 48) = c.toNat by omega]; exact UInt8.ofNat_toNat

theorem dec_digit : ∀ (u : Nat) (c : UInt8), c ∈ Lib.decDigits u → 48 ≤ c.toNat ∧ c.toNat ≤ 57 := by
  intro u
  induction u using Nat.strongRecOn with
  | _ u ih =>
    intro c hc
    by_cases h : u < 10
    · rw [dec_small h] at hc
      simp only [List.mem_singleton] at hc
      rw [hc, dig_toNat h]; omega
    · rw [dec_big h, List.mem_append] at hc
      rcases hc with hc | hc
      · exact ih (u / 10) (by omega) c hc
      · simp only [List.mem_singleton] at hc
        rw [hc, dig_toNat (by omega)]; omega

theorem mag_dec (L : Nat) (h9 : 9 ≤ L) : ∀ (u : Nat), u ≤ L → ∀ t, mag L (Lib.decDigits u ++ t) 0 0 = mag L t (Lib.nDigits u) u := by
  intro u
  induction u using Nat.strongRecOn with
  | _ u ih =>
    intro hu t
    by_cases h : u < 10
    · rw [dec_small h, Lib.nDigits_small h]
      rw [List.singleton_append, mag_go (by rw [dig_toNat h]; omega) (by rw [dig_toNat h]; omega) (by omega) (by omega), dig_toNat h]
      rw [show 0 * 10 + (48 + u - 48) = u by omega]
    · rw [dec_big h, Lib.nDigits_big h, List.append_assoc, ih (u / 10) (by omega) (by omega), List.singleton_append]
      have hd : u % 10 < 10 := by omega
      rw [mag_go (by rw [dig_toNat hd]; omega) (by rw [dig_toNat hd]; omega) (by omega) (by rw [dig_toNat hd]; omega), dig_toNat hd]
      rw [show u / 10 * 10 + (48 + u % 10 - 48) = u by omega]
theorem mag_dec' (L : Nat) (h9 : 9 ≤ L) (u : Nat) (hu : u ≤ L) : mag L (Lib.decDigits u) 0 0 = some u := by
  have := mag_dec L h9 u hu []
  rw [List.append_nil] at this
  rw [this, mag_nil, if_neg (by have := Lib.nDigits_pos u; omega)]

theorem mag_back (L : Nat) : ∀ (l p : List UInt8) (r n m : Nat), mag L l r n = some m → ((r = 0 ∧ p = [] ∧ n = 0) ∨ (0 < r ∧ p = Lib.decDigits n)) → p ++ l = Lib.decDigits m
  | [], p, r, n, m, h, hp => by
    rw [mag_nil] at h
    rcases hp with ⟨rfl, _⟩ | ⟨hr, rfl⟩
    · simp at h
    · rw [if_neg (by omega)] at h
      cases h
      simp
  | c :: t, p, r, n, m, h, hp => by
    rw [mag] at h
    split at h
    · rename_i hc
      obtain ⟨h1, h2, h3, h4⟩ := hc
      have hd : c.toNat - 48 < 10 := by omega
      have := mag_back L t (p ++ [c]) (r + 1) (n * 10 + (c.toNat - 48)) m h (.inr ⟨by omega, by
        rcases hp with ⟨rfl, rfl, rfl⟩ | ⟨hr, rfl⟩
        · rw [show 0 * 10 + (c.toNat - 48) = c.toNat - 48 by omega, dec_small hd, dig_of h1]; rfl
        · have hn : ¬ n = 0 := by omega
          rw [dec_big (u := n * 10 + (c.toNat - 48)) (by omega), show (n * 10 + (c.toNat - 48)) / 10 = n by omega, show (n * 10 + (c.toNat - 48)) % 10 = c.toNat - 48 by omega, dig_of h1]⟩)
      rw [List.append_assoc] at this
      exact this
    · cases h

theorem lim_true : (lim true).toNat = 9223372036854775808 := rfl
theorem lim_false : (lim false).toNat = 9223372036854775807 := rfl

theorem parse_itoa (a : Int) (h0 : -9223372036854775808 ≤ a) (h1 : a ≤ 9223372036854775807) : parse (Lib.itoa a) = some a := by
  unfold Lib.itoa
  by_cases h : a < 0
  · rw [if_pos h, parse_neg, lim_true, mag_dec' _ (by decide) _ (by omega)]
    simp only [Option.bind_some]
    rw [if_neg (by omega)]
    congr 1
    omega
  · rw [if_neg h, parse_pos _ (fun t ht => by
      have := dec_digit a.toNat 45 (by rw [ht]; simp)
      exact absurd this.1 (by decide)), lim_false, mag_dec' _ (by decide) _ (by omega)]
    simp only [Option.map_some]
    congr 1
    omega
theorem itoa_parse {l : List UInt8} {n : Int} (h : parse l = some n) : Lib.itoa n = l := by
  by_cases hl : ∃ t, l = 45 :: t
  · obtain ⟨t, rfl⟩ := hl
    rw [parse_neg] at h
    cases hm : mag (lim true).toNat t 0 0 with
    | none => rw [hm] at h; cases h
    | some m =>
      rw [hm] at h
      simp only [Option.bind_some] at h
      split at h
      · cases h
      · rename_i h0
        cases h
        have := mag_back _ t [] 0 0 m hm (.inl ⟨rfl, rfl, rfl⟩)
        unfold Lib.itoa
        rw [if_pos (by omega), show (-(m : Int)).natAbs = m by omega, ← this]
        rfl
  · have hne : ∀ t, l ≠ 45 :: t := fun t ht => hl ⟨t, ht⟩
    rw [parse_pos l hne] at h
    cases hm : mag (lim false).toNat l 0 0 with
    | none => rw [hm] at h; cases h
    | some m =>
      rw [hm] at h
      simp only [Option.map_some, Option.some.injEq] at h
      subst h
      have := mag_back _ l [] 0 0 m hm (.inl ⟨rfl, rfl, rfl⟩)
      unfold Lib.itoa
      rw [if_neg (by omega), Int.toNat_natCast, ← this]
      rfl
theorem parse_bd {l : List UInt8} {n : Int} (h : parse l = some n) : -9223372036854775808 ≤ n ∧ n ≤ 9223372036854775807 := by
  by_cases hl : ∃ t, l = 45 :: t
  · obtain ⟨t, rfl⟩ := hl
    rw [parse_neg] at h
    cases hm : mag (lim true).toNat t 0 0 with
    | none => rw [hm] at h; cases h
    | some m =>
      rw [hm] at h
      simp only [Option.bind_some] at h
      split at h
      · cases h
      · cases h
        have := mag_le _ (by decide) t 0 0 m (Nat.zero_le _) hm
        rw [lim_true] at this
        omega
  · have hne : ∀ t, l ≠ 45 :: t := fun t ht => hl ⟨t, ht⟩
    rw [parse_pos l hne] at h
    cases hm : mag (lim false).toNat l 0 0 with
    | none => rw [hm] at h; cases h
    | some m =>
      rw [hm] at h
      simp only [Option.map_some, Option.some.injEq] at h
      subst h
      have := mag_le _ (by decide) l 0 0 m (Nat.zero_le _) hm
      rw [lim_false] at this
      omega
theorem nd_le : ∀ (k u : Nat), 1 ≤ k → u < 10 ^ k → Lib.nDigits u ≤ k
  | 0, _, h, _ => by omega
  | k + 1, u, _, h => by
    by_cases hu : u < 10
    · rw [Lib.nDigits_small hu]; omega
    · rw [Lib.nDigits_big hu]
      rw [Nat.pow_succ] at h
      have hk : 1 ≤ k := by
        rcases Nat.eq_zero_or_pos k with e | e
        · subst e; omega
        · exact e
      have := nd_le k (u / 10) hk (by omega)
      omega
theorem itoa_len (a : Int) (h0 : -9223372036854775808 ≤ a) (h1 : a ≤ 9223372036854775807) : (Lib.itoa a).length ≤ 21 := by
  unfold Lib.itoa
  have e : (10 : Nat) ^ 20 = 100000000000000000000 := by decide
  split
  · have := nd_le 20 a.natAbs (by decide) (by omega)
    rw [List.length_cons, Lib.decDigits_length]; omega
  · have := nd_le 20 a.toNat (by decide) (by omega)
    rw [Lib.decDigits_length]; omega
/-- The digits that are still to be written: none of 0. -/
def pre (n : Nat) : List UInt8 := if n = 0 then [] else Lib.decDigits n
theorem dec_pre (n : Nat) : Lib.decDigits n = pre (n / 10) ++ [UInt8.ofNat (48 + n % 10)] := by
  by_cases h : n < 10
  · rw [dec_small h, show n / 10 = 0 by omega, show n % 10 = n by omega]; rfl
  · rw [dec_big h]
    unfold pre
    rw [if_neg (by omega)]
/-- Where the writing of N's digits stands: s is written, n is left. -/
def Wr (N n : Nat) (s : List UInt8) : Prop := (s = [] ∧ n = N) ∨ (s ≠ [] ∧ Lib.decDigits N = pre n ++ s)
theorem Wr.step {N n : Nat} {s : List UInt8} (h : Wr N n s) (hn : s = [] ∨ 0 < n) : Wr N (n / 10) (UInt8.ofNat (48 + n % 10) :: s) := by
  right
  refine ⟨by simp, ?_⟩
  rcases h with ⟨rfl, rfl⟩ | ⟨h1, h2⟩
  · exact dec_pre _
  · have hn0 : 0 < n := by rcases hn with h | h; exact absurd h h1; exact h
    rw [h2]
    unfold pre
    rw [if_neg (by omega), dec_pre n]
    unfold pre
    simp
theorem Wr.done {N n : Nat} {s : List UInt8} (h : Wr N n s) (h0 : n = 0) (hs : s ≠ []) : s = Lib.decDigits N := by
  rcases h with ⟨h1, _⟩ | ⟨_, h2⟩
  · exact absurd h1 hs
  · rw [h2, h0]; rfl
theorem Wr.len {N n : Nat} {s : List UInt8} (h : Wr N n s) (hN : N < 100000000000000000000) : s.length ≤ 20 := by
  rcases h with ⟨rfl, _⟩ | ⟨_, h2⟩
  · simp
  · have h3 := congrArg List.length h2
    rw [List.length_append, Lib.decDigits_length] at h3
    have := nd_le 20 N (by decide) (by rw [show (10 : Nat) ^ 20 = 100000000000000000000 from by decide]; exact hN)
    omega
/-- One byte more is read: a digit counts, another byte does not. -/
def fd (n : Int) (c : UInt8) : Int := if 48 ≤ c.toNat ∧ c.toNat ≤ 57 then wrap64 (wrap64 (n * 10) + ((c.toNat : Int) - 48)) else n
def fds (l : List UInt8) : Int := l.foldl fd 0
theorem fds_snoc (l : List UInt8) (c : UInt8) : fds (l ++ [c]) = fd (fds l) c := by unfold fds; rw [List.foldl_append]; rfl
theorem fd_yes {n : Int} {c : UInt8} (h1 : 48 ≤ (c.toNat : Int)) (h2 : (c.toNat : Int) ≤ 57) : fd n c = wrap64 (wrap64 (n * 10) + ((c.toNat : Int) - 48)) := by unfold fd; rw [if_pos (by omega)]
theorem fd_no {n : Int} {c : UInt8} (h : ¬ (48 ≤ (c.toNat : Int) ∧ (c.toNat : Int) ≤ 57)) : fd n c = n := by unfold fd; rw [if_neg (by omega)]
theorem fds_dec (u : Nat) : (Lib.decDigits u).foldl fd 0 = wrap64 (u : Int) := by
  induction u using Nat.strongRecOn with
  | _ u ih =>
    by_cases h : u < 10
    · rw [dec_small h]
      simp only [List.foldl_cons, List.foldl_nil]
      rw [fd_yes (by rw [dig_toNat h]; omega) (by rw [dig_toNat h]; omega), dig_toNat h]
      unfold wrap64
      omega
    · have hd : u % 10 < 10 := by omega
      rw [dec_big h, List.foldl_append, ih (u / 10) (by omega)]
      simp only [List.foldl_cons, List.foldl_nil]
      rw [fd_yes (by rw [dig_toNat hd]; omega) (by rw [dig_toNat hd]; omega), dig_toNat hd]
      unfold wrap64
      omega
/-- The number that the reference makes of a text. -/
def made (l : List UInt8) : Int := if l.head? = some 45 then wrap64 (-fds (l.take 25)) else fds (l.take 25)
theorem made_parse {l : List UInt8} {m : Int} (h : parse l = some m) : made l = m := by
  have hb := parse_bd h
  have hl := itoa_parse h
  have hlen := itoa_len m hb.1 hb.2
  rw [hl] at hlen
  unfold made
  rw [List.take_of_length_le (by omega), ← hl]
  unfold Lib.itoa fds
  by_cases hm : m < 0
  · rw [if_pos hm, List.head?_cons, if_pos rfl, List.foldl_cons, show fd 0 45 = 0 from rfl, fds_dec]
    unfold wrap64
    omega
  · rw [if_neg hm]
    have hh : ¬ (Lib.decDigits m.toNat).head? = some 45 := by
      intro e
      have := dec_digit m.toNat 45 (List.mem_of_mem_head? e)
      exact absurd this.1 (by decide)
    rw [if_neg hh, fds_dec]
    unfold wrap64
    omega
theorem made_bd (l : List UInt8) : -9223372036854775808 ≤ made l ∧ made l ≤ 9223372036854775807 := by
  have hf : ∀ (t : List UInt8) (n : Int), -9223372036854775808 ≤ n → n ≤ 9223372036854775807 → -9223372036854775808 ≤ t.foldl fd n ∧ t.foldl fd n ≤ 9223372036854775807 := by
    intro t
    induction t with
    | nil => intro n h0 h1; exact ⟨h0, h1⟩
    | cons c t ih =>
      intro n h0 h1
      rw [List.foldl_cons]
      have : -9223372036854775808 ≤ fd n c ∧ fd n c ≤ 9223372036854775807 := by
        unfold fd
        split
        · exact w_bd _
        · exact ⟨h0, h1⟩
      exact ih _ this.1 this.2
  unfold made
  split
  · exact w_bd _
  · exact hf _ 0 (by decide) (by decide)
theorem made_none {l : List UInt8} (h : parse l = none) : Lib.itoa (made l) ≠ l := by
  intro e
  have hb := made_bd l
  have := parse_itoa (made l) hb.1 hb.2
  rw [e, h] at this
  cases this
end Go.Proofs.Ytobiedmmjiedlaa.Pl

namespace Go.Proofs.Ytobiedmmjiedlaa
open Go.RowKit

theorem conv_one (W : World) (x : Int) : (convert 136 9 (.slice (some ⟨W.heap.size, 0, none⟩) 1 1)).run Try.prog (W.alloc (.cells #[.int .u8 x] 5)) = .ok (.string (strOfNums [x])) (W.alloc (.cells #[.int .u8 x] 5)) := by
  refine run_convert_bytes_arg _ 136 5 Try.underlying136 Try.underlying5 W.heap.size 0 1 1 [x] rfl ?_ 9 Try.underlying9
  intro i hi
  match i, hi with
  | 0, _ => simp

/-- One more round while nothing is written. -/
def emp (v : Value) : Nat := match v with | .string s => if s.size = 0 then 1 else 0 | _ => 0
theorem strOf_cons (x : Nat) (s : ByteArray) : (strOfNums [48 + (x : Int) % 10] ++ s).data.toList = UInt8.ofNat (48 + x % 10) :: s.data.toList := by
  have e : ((48 : Int) + (x : Int) % 10).toNat = 48 + x % 10 := by omega
  simp [strOfNums, e]
theorem itoa_far_pos {a : Int} (h : ¬ a < 0) : Lib.itoa a = Lib.decDigits (Pl.far a).toNat := by
  unfold Lib.itoa; rw [if_neg h, Pl.far_pos h]
theorem itoa_far_neg {a : Int} (h : a < 0) : Lib.itoa a = 45 :: Lib.decDigits (Pl.far a).toNat := by
  unfold Lib.itoa; rw [if_pos h, Pl.far_neg h]
  congr 2
  omega
theorem str_eq {s : ByteArray} {l : List UInt8} (h : s.data.toList = l) : Value.string s = .string ⟨l.toArray⟩ := by
  subst h; rfl
theorem str_ne {s : ByteArray} (h : s.data.toList ≠ []) : s.size ≠ 0 := by
  intro e
  apply h
  rw [← List.length_eq_zero_iff, Array.length_toList, ByteArray.size_data]; exact e

set_option maxRecDepth 100000 in
set_option maxHeartbeats 400000 in
theorem rtext_any (a : Int) (w : World) (h0 : -9223372036854775808 ≤ a) (h1 : a ≤ 9223372036854775807) :
    Calls Try.prog 72 #[.int .i64 a] w fun e w' => e = .returned (.string ⟨(Lib.itoa a).toArray⟩) ∧ Below w.heap.size w w' := by
  have kc := conv_one
  have ks := strOfNums_size
  obtain ⟨f0, f1⟩ := Pl.far_bd a h0 h1
  obtain ⟨N, hN⟩ : ∃ N : Nat, (N : Int) = Pl.far a := ⟨(Pl.far a).toNat, by omega⟩
  have HN : Hid ((N : Int) = Pl.far a) := hN
  have hNb : N ≤ 18446744073709551615 := by omega
  clear hN f0 f1
  go_enter Try.func72, Try.ntmps72
  go_wp2_with fail
  refine (size_any a w h0 h1).mono ?_
  rintro e w1 ⟨rfl, b1⟩
  rw [← HN.out]
  go_wp2
  go_loopw [3, 4] (fun s u wr => ∃ (t : ByteArray) (n : Nat), s = .string t ∧ u = .int .u64 (n : Int) ∧ n ≤ 18446744073709551615 ∧ Hid (Pl.Wr N n t.data.toList) ∧ Below w.heap.size w wr) (fun s u _ => (intOf u).toNat + emp s)
  case atStart => exact ⟨⟨#[]⟩, N, rfl, rfl, hNb, .inl ⟨rfl, rfl⟩, b1⟩
  case round =>
    obtain ⟨t, n, rfl, rfl, hn, W, hb⟩ := hrel
    have htl : t.size ≤ 20 := by
      have := W.out.len (by omega)
      rwa [Array.length_toList, ByteArray.size_data] at this
    by_cases hl0 : t.data.toList = []
    · obtain rfl : t = ⟨#[]⟩ := by
        obtain ⟨⟨l⟩⟩ := t
        simp at hl0
        subst hl0
        rfl
      go_wp2
      go_roundw
      case rel => exact ⟨_, n / 10, rfl, by go_num, by omega, by unfold Hid; rw [strOf_cons]; exact W.out.step (.inl rfl), hb.alloc hb.size _⟩
      case measure => rw [show emp (.string ⟨#[]⟩) = 1 from rfl]; simp [intOf, emp, ks]; omega
    · have hle2 : ¬ t.toList = [] := by rw [ByteArray.toList_eq]; exact hl0
      have hle : t.toList.isEmpty = false := by simpa using hle2
      have he0 : emp (.string t) = 0 := by unfold emp; simp [str_ne hl0]
      have HE : Hid (emp (.string t) = 0) := he0
      have HL : Hid (t.data.toList ≠ []) := hl0
      clear he0 hl0
      by_cases hn0 : 0 < n
      · go_wp2
        go_roundw
        case rel => exact ⟨_, n / 10, rfl, by go_num, by omega, by unfold Hid; rw [strOf_cons]; exact W.out.step (.inr hn0), hb.alloc hb.size _⟩
        case measure => rw [HE.out]; simp [intOf, emp, ks]; omega
      · have D : Hid (t.data.toList = Lib.decDigits N) := W.out.done (by omega) HL.out
        have HN2 : Hid ((Pl.far a).toNat = N) := by have := HN.out; unfold Hid; omega
        by_cases ha : a < 0
        · go_wp2
          go_ret
          exact ⟨congrArg Ending.returned (str_eq (by rw [itoa_far_neg ha, HN2.out, ← D.out]; simp)), hb⟩
        · go_wp2
          go_ret
          exact ⟨congrArg Ending.returned (str_eq (by rw [itoa_far_pos (by omega : ¬ a < 0), HN2.out, ← D.out])), hb⟩
end Go.Proofs.Ytobiedmmjiedlaa

namespace Go.Proofs.Ytobiedmmjiedlaa
open Go.RowKit

theorem take_one (s : ByteArray) (k : Nat) (h : k < s.size) : s.data.toList.take (k + 1) = s.data.toList.take k ++ [s[k]] := by
  rw [List.take_succ_eq_append_getElem (by simpa using h)]; rfl

def pk (o : Bool) (a b : Int) : Int := if o then a else b
/-- What the reference's Text makes of the number that it made of s: s itself, or another text. -/
def TextIs (s : ByteArray) (o : Bool) : Prop := ∀ w : World, Calls Try.prog 72 #[.int .i64 (Pl.made s.data.toList)] w fun e w' => ∃ t : ByteArray, e = .returned (.string t) ∧ (t.toList == s.toList) = o ∧ Below w.heap.size w w'
theorem made_none (s : ByteArray) (h : s.size = 0) : Pl.fds (s.data.toList.take 25) = Pl.made s.data.toList := by
  have : s.data.toList = [] := by rw [← List.length_eq_zero_iff, Array.length_toList, ByteArray.size_data]; exact h
  rw [this]; rfl
theorem head_at (s : ByteArray) (h : 0 < s.size) : s.data.toList.head? = some s[0] := by
  rw [List.head?_eq_getElem?, List.getElem?_eq_getElem (by simpa using h)]; rfl
theorem made_minus (s : ByteArray) (h : 0 < s.size) (h45 : (s[0].toNat : Int) = 45) : wrap64 (-Pl.fds (s.data.toList.take 25)) = Pl.made s.data.toList := by
  unfold Pl.made
  have : s[0] = 45 := UInt8.toNat_inj.1 (by simpa using (by omega : s[0].toNat = 45))
  rw [head_at s h, this, if_pos rfl]
theorem made_plus (s : ByteArray) (h : 0 < s.size) (h45 : ¬ (s[0].toNat : Int) = 45) : Pl.fds (s.data.toList.take 25) = Pl.made s.data.toList := by
  unfold Pl.made
  rw [head_at s h, if_neg]
  intro e
  apply h45
  rw [Option.some.inj e]; rfl

set_option maxRecDepth 100000 in
set_option maxHeartbeats 400000 in
theorem rparse_core (s : ByteArray) (w : World) (hs : s.size ≤ 140737488351232) (o : Bool) (HT : Hid (TextIs s o)) :
    Calls Try.prog 49 #[.string s] w fun e w' => e = .returned (.tuple #[.int .i64 (pk o (Pl.made s.data.toList) 0), .int .i64 (pk o 0 10)]) ∧ Below w.heap.size w w' := by
  go_enter Try.func49, Try.ntmps49
  go_wp2
  go_loop [4, 5] (fun n i => ∃ k : Nat, k ≤ s.size ∧ k ≤ 25 ∧ i = .int .i64 k ∧ n = .int .i64 (Pl.fds (s.data.toList.take k))) (fun _ i => s.size - (intOf i).toNat)
  case atStart => exact ⟨0, by omega, by omega, rfl, rfl⟩
  case round =>
    obtain ⟨k, hk, hk2, rfl, rfl⟩ := hrel
    by_cases hlt : k < s.size
    · by_cases hlt2 : k < 25
      · have HS : Hid (Pl.fds (s.data.toList.take (k + 1)) = Pl.fd (Pl.fds (s.data.toList.take k)) s[k]) := by unfold Hid; rw [take_one s k hlt, Pl.fds_snoc]
        by_cases hd : 48 ≤ (s[k].toNat : Int)
        · by_cases hd2 : (s[k].toNat : Int) ≤ 57
          · go_wp2
            exact ⟨⟨k + 1, by omega, by omega, by go_num, by rw [HS.out, Pl.fd_yes hd hd2]⟩, by simp [intOf]; omega⟩
          · go_wp2
            exact ⟨⟨k + 1, by omega, by omega, by go_num, by rw [HS.out, Pl.fd_no (by omega)]⟩, by simp [intOf]; omega⟩
        · go_wp2
          exact ⟨⟨k + 1, by omega, by omega, by go_num, by rw [HS.out, Pl.fd_no (by omega)]⟩, by simp [intOf]; omega⟩
      · have HV : Hid (Pl.fds (s.data.toList.take k) = Pl.fds (s.data.toList.take 25)) := by unfold Hid; rw [show k = 25 by omega]
        rw [HV.out]
        have hz' : 0 < s.size := by omega
        by_cases h45 : (s[0].toNat : Int) = 45
        · have h45b : ((s[0].toNat : Int) == 45) = true := by rw [h45]; rfl
          have HM : Hid (wrap64 (-Pl.fds (s.data.toList.take 25)) = Pl.made s.data.toList) := made_minus s hz' h45
          clear h45
          go_wp2_with fail
          refine (rneg_any _ w).mono ?_
          rintro e w1 ⟨rfl, b1⟩
          rw [HM.out]
          go_wp2_with fail
          refine (HT.out _).mono ?_
          rintro e w2 ⟨t, rfl, ho, b2⟩
          cases o
          all_goals
            go_wp2
            go_ret2
            exact ⟨rfl, b1.trans (b2.mono b1.size)⟩
        · have h45b : ((s[0].toNat : Int) == 45) = false := by simpa using h45
          have HM : Hid (Pl.fds (s.data.toList.take 25) = Pl.made s.data.toList) := made_plus s hz' h45
          clear h45
          rw [HM.out]
          go_wp2_with fail
          refine (HT.out _).mono ?_
          rintro e w2 ⟨t, rfl, ho, b2⟩
          cases o
          all_goals
            go_wp2
            go_ret2
            exact ⟨rfl, b2⟩
    · have HV : Hid (Pl.fds (s.data.toList.take k) = Pl.fds (s.data.toList.take 25)) := by unfold Hid; rw [List.take_of_length_le (by simp; omega), List.take_of_length_le (by simp; omega)]
      rw [HV.out]
      by_cases hz : s.size = 0
      · have HM : Hid (Pl.fds (s.data.toList.take 25) = Pl.made s.data.toList) := made_none s hz
        rw [HM.out]
        go_wp2_with fail
        refine (HT.out _).mono ?_
        rintro e w2 ⟨t, rfl, ho, b2⟩
        cases o
        all_goals
          go_wp2
          go_ret2
          exact ⟨rfl, b2⟩
      · have hz' : 0 < s.size := by omega
        by_cases h45 : (s[0].toNat : Int) = 45
        · have h45b : ((s[0].toNat : Int) == 45) = true := by rw [h45]; rfl
          have HM : Hid (wrap64 (-Pl.fds (s.data.toList.take 25)) = Pl.made s.data.toList) := made_minus s hz' h45
          clear h45
          go_wp2_with fail
          refine (rneg_any _ w).mono ?_
          rintro e w1 ⟨rfl, b1⟩
          rw [HM.out]
          go_wp2_with fail
          refine (HT.out _).mono ?_
          rintro e w2 ⟨t, rfl, ho, b2⟩
          cases o
          all_goals
            go_wp2
            go_ret2
            exact ⟨rfl, b1.trans (b2.mono b1.size)⟩
        · have h45b : ((s[0].toNat : Int) == 45) = false := by simpa using h45
          have HM : Hid (Pl.fds (s.data.toList.take 25) = Pl.made s.data.toList) := made_plus s hz' h45
          clear h45
          rw [HM.out]
          go_wp2_with fail
          refine (HT.out _).mono ?_
          rintro e w2 ⟨t, rfl, ho, b2⟩
          cases o
          all_goals
            go_wp2
            go_ret2
            exact ⟨rfl, b2⟩

theorem rparse_any (s : ByteArray) (w : World) (hs : s.size ≤ 140737488351232) :
    Calls Try.prog 49 #[.string s] w fun e w' => e = .returned (.tuple #[.int .i64 ((Pl.parse s.data.toList).getD 0), .int .i64 (Pl.errno (Pl.parse s.data.toList))]) ∧ Below w.heap.size w w' := by
  have hb := Pl.made_bd s.data.toList
  cases hp : Pl.parse s.data.toList with
  | none =>
    refine (rparse_core s w hs false ?_).mono ?_
    · intro w
      refine (rtext_any _ w hb.1 hb.2).mono ?_
      rintro e w' ⟨rfl, b⟩
      refine ⟨_, rfl, ?_, b⟩
      rw [ByteArray.toList_eq, ByteArray.toList_eq, List.toList_toArray]
      simpa using Pl.made_none hp
    · rintro e w' ⟨rfl, b⟩
      exact ⟨rfl, b⟩
  | some m =>
    have hm := Pl.made_parse hp
    refine (rparse_core s w hs true ?_).mono ?_
    · intro w
      refine (rtext_any _ w hb.1 hb.2).mono ?_
      rintro e w' ⟨rfl, b⟩
      refine ⟨_, rfl, ?_, b⟩
      rw [ByteArray.toList_eq, ByteArray.toList_eq, List.toList_toArray, hm, Pl.itoa_parse hp]
      simp
    · rintro e w' ⟨rfl, b⟩
      exact ⟨ret_pair hm rfl, b⟩
end Go.Proofs.Ytobiedmmjiedlaa
