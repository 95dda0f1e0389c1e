/- The plain mathematics of layer 1: wraps of 64 bits, and the number that digits write up to a limit. No Go in sight; no condition. -/
/- The words of layer 2, as plain functions on bytes: which bytes are letters, digits; key words and signs; blanks; names; the first token of a text. -/
/- num.magnitude answers, for every text and every limit from 9 to 2^64 - 1, the number that the digits write if it is at most the limit, and whether there is one. -/
/- An empty text of mine: what is imported where no shelf is laid. -/
/- num's inner calls, each for every argument: Parse answers Pl.parse, Text the decimal numeral; and the statements' own fixed calls (known) come out true wherever the table of powers of ten is as the library lays it. -/
/- lex's small functions, each for every argument. -/
/- lex's IsName and the first word or integer of a text, each for every text. -/
/- The first token of a text: a word, an integer, a sign: each for every text. -/
/- The first sign of a text, and its first token, each for every text. -/
/- Scan, as a plain function on bytes; the lengths of first tokens. -/
/- Scan, for every text. -/
/- rightToken and Right, for every tokens. -/
/- Right, for every tokens. -/
/- Layer 3: the reader of tokens (what it holds in memory), and its small calls, each for every state. -/
/- Layer 3: reading an expression from tokens, as a plain function (with fuel). -/
/- Layer 3: which signs bind, with which tokens expressions begin; taking the first token of a part. -/
/- Layer 3: expressions in memory; what reading one comes to. -/
/- Statements, procedures and programs: plain, and as they lie in memory. -/
/- Layer 5: what expressions are worth, which may trap, what folding makes of them: plain functions, as the program reckons. -/
/- The statements' own fixed calls (known) come out true wherever the table of powers of ten is as the library lays it. -/
/- The statements' own guard 'long': of any texts, whether their bytes and their number together are more than 3000. -/
/- Words of a text, and joined ones: plain mathematics. -/
/- Slices of texts: the reference's Same, Words and Join, for every texts of at most some thousand bytes. -/
/- Print, for every tokens whose text is not beyond all bounds. -/
/- The fixed calls of layer 2's statements (known) come out true. -/
import Derived.RowKit
import Derived.Lib.ItoaNum
import Derived.Test.YtobiedmmjiedlaaRows
import Derived.WalkKit
import Derived.WalkMore
import Derived.WalkSpells
import Derived.WalkLawsBesides
import Derived.Shelf.Strings.Builder1
import Derived.Shelf.Strings.Builder2
import Derived.Shelf.Strings.OnBuilder
import Derived.Shelf.Small.Wraps
import Derived.Shelf.Strings.Prefix
import Derived.Test.YtobiedmmjiedlaaProg
import Derived.Laws.Rows
import Derived.Lib.IndexBytes
import Derived.BigRegion
import Derived.RegionTactic
import Derived.Deep.RegionHeld3
import Derived.Deep.RegionWith
import Derived.Deep.DeepCutAuto
import Derived.Handy
import Derived.Lib.AppendIntMem
import Derived.Lib.Split
import Derived.Lib.Join
import Derived.Deep.QuietTactic
import Derived.BigQuiet
namespace Go.Proofs.Ytobiedmmjiedlaa.Pl
open Go.RowKit

theorem w_add_l (a b : Int) : wrap64 (wrap64 a + b) = wrap64 (a + b) := by unfold wrap64; omega
theorem w_add_r (a b : Int) : wrap64 (a + wrap64 b) = wrap64 (a + b) := by unfold wrap64; omega
theorem w_sub_l (a b : Int) : wrap64 (wrap64 a - b) = wrap64 (a - b) := by unfold wrap64; omega
theorem w_sub_r (a b : Int) : wrap64 (a - wrap64 b) = wrap64 (a - b) := by unfold wrap64; omega
theorem w_ex (a : Int) : ∃ k, wrap64 a = a + 18446744073709551616 * k := ⟨-((a + 9223372036854775808) / 18446744073709551616), by unfold wrap64; omega⟩
theorem w_cong (a k : Int) : wrap64 (a + 18446744073709551616 * k) = wrap64 a := by unfold wrap64; omega
theorem w_mul_l (a b : Int) : wrap64 (wrap64 a * b) = wrap64 (a * b) := by
  obtain ⟨k, hk⟩ := w_ex a
  rw [hk, Int.add_mul, Int.mul_assoc, w_cong]
theorem w_mul_l_add (a b c : Int) : wrap64 (wrap64 a * b + c) = wrap64 (a * b + c) := by
  rw [← w_add_l (wrap64 a * b) c, w_mul_l, w_add_l]
theorem w_mul_r (a b : Int) : wrap64 (a * wrap64 b) = wrap64 (a * b) := by
  rw [Int.mul_comm, w_mul_l, Int.mul_comm]
theorem w_id (a : Int) (h0 : -9223372036854775808 ≤ a) (h1 : a ≤ 9223372036854775807) : wrap64 a = a := by unfold wrap64; omega
theorem w_bd (a : Int) : -9223372036854775808 ≤ wrap64 a ∧ wrap64 a ≤ 9223372036854775807 := by unfold wrap64; omega

theorem u64w (n : Int) : IntKind.wrap .u64 n = n % 18446744073709551616 := by
  simp [IntKind.wrap, IntKind.signed, IntKind.bits]
theorem neg_u64w (a : Int) (h : a < 0) (h0 : -9223372036854775808 ≤ a) : IntKind.wrap .u64 (-IntKind.wrap .u64 a) = -a := by
  rw [u64w, u64w]; omega

/-- The quotient, cut towards 0 and begun anew; what is left. -/
def quot (a b : Int) : Int := wrap64 (a.tdiv b)
def rest (a b : Int) : Int := a.tmod b
theorem tdiv_back (a b : Int) (h0 : -9223372036854775808 ≤ a) (h1 : a ≤ 9223372036854775807) : wrap64 (wrap64 (quot a b * b) + rest a b) = a := by
  unfold quot rest
  rw [w_add_l, w_mul_l_add, Int.mul_comm, Int.mul_tdiv_add_tmod, w_id a h0 h1]
/-- How far a number is from 0. -/
def far (a : Int) : Int := (a.natAbs : Int)
theorem far_neg {a : Int} (h : a < 0) : far a = -a := by unfold far; omega
theorem far_pos {a : Int} (h : ¬ a < 0) : far a = a := by unfold far; omega
theorem tmod_lt (a b : Int) (hb : b ≠ 0) : far (rest a b) < far b := by
  unfold far rest
  have := Int.natAbs_tmod a b
  have h2 := Nat.mod_lt a.natAbs (Int.natAbs_pos.2 hb)
  omega
theorem tmod_bd (a b : Int) (hb : b ≠ 0) (h2 : -9223372036854775808 ≤ b) (h3 : b ≤ 9223372036854775807) : -9223372036854775808 ≤ rest a b ∧ rest a b ≤ 9223372036854775807 := by
  have := tmod_lt a b hb
  unfold far at this
  omega
theorem tmod_sign (a b : Int) (h : rest a b ≠ 0) : (a < 0 ∧ rest a b < 0) ∨ (¬ a < 0 ∧ ¬ rest a b < 0) := by
  unfold rest at *
  rcases Int.lt_or_le a 0 with ha | ha
  · left
    refine ⟨ha, ?_⟩
    have := Int.tmod_nonneg (a := -a) b (by omega)
    rw [Int.neg_tmod] at this
    omega
  · right
    have := Int.tmod_nonneg b ha
    omega

theorem bd_of_wf {n : Int} (h : (Lit.int .i64 n).wf = true) : -9223372036854775808 ≤ n ∧ n ≤ 9223372036854775807 := by
  simp only [Lit.wf, IntKind.min, IntKind.max, IntKind.signed, IntKind.bits, Bool.and_eq_true, decide_eq_true_eq, if_true] at h
  omega

/-- The j-th binary digit of what is left of n by 2 to the 64. -/
def bit (n : Int) (j : Nat) : Int := wrap64 ((IntKind.wrap .u64 n / 2 ^ j).tmod 2)

/-- The number that the digits write, if it is at most L: 'r' digits are behind us, they write 'n'. -/
def mag (L : Nat) : List UInt8 → Nat → Nat → Option Nat
  | [], r, n => if r = 0 then none else some n
  | c :: t, r, n => if 48 ≤ c.toNat ∧ c.toNat ≤ 57 ∧ ¬ (0 < r ∧ n = 0) ∧ n ≤ (L - (c.toNat - 48)) / 10 then mag L t (r + 1) (n * 10 + (c.toNat - 48)) else none

theorem mag_nil (L r n : Nat) : mag L [] r n = if r = 0 then none else some n := rfl
theorem mag_go {L : Nat} {c : UInt8} {t : List UInt8} {r n : Nat} (h1 : 48 ≤ c.toNat) (h2 : c.toNat ≤ 57) (h3 : ¬ (0 < r ∧ n = 0)) (h4 : n ≤ (L - (c.toNat - 48)) / 10) :
    mag L (c :: t) r n = mag L t (r + 1) (n * 10 + (c.toNat - 48)) := by
  rw [mag, if_pos ⟨h1, h2, h3, h4⟩]
theorem mag_no {L : Nat} {c : UInt8} {t : List UInt8} {r n : Nat} (h : c.toNat < 48 ∨ 57 < c.toNat ∨ (0 < r ∧ n = 0) ∨ (L - (c.toNat - 48)) / 10 < n) :
    mag L (c :: t) r n = none := by
  rw [mag, if_neg]
  rintro ⟨h1, h2, h3, h4⟩
  rcases h with h | h | h | h
  · omega
  · omega
  · exact h3 h
  · omega

theorem drop_at (s : ByteArray) (k : Nat) (h : k < s.size) : s.data.toList.drop k = s[k] :: s.data.toList.drop (k + 1) := by
  rw [List.drop_eq_getElem_cons (by simpa using h)]; rfl

theorem mag_stop {s : ByteArray} {L : Int} {k m : Nat} (h : k < s.size) (h9 : 9 ≤ L) (H : mag L.toNat s.data.toList 0 0 = mag L.toNat (s.data.toList.drop k) k m)
    (hc : (s[k].toNat : Int) < 48 ∨ 57 < (s[k].toNat : Int) ∨ (0 < k ∧ m = 0) ∨ (48 ≤ (s[k].toNat : Int) ∧ (s[k].toNat : Int) ≤ 57 ∧ (L - ((s[k].toNat : Int) - 48)) / 10 < m)) : mag L.toNat s.data.toList 0 0 = none := by
  rw [H, drop_at s k h]
  apply mag_no
  omega

theorem mag_step {s : ByteArray} {L : Int} {k m : Nat} (h : k < s.size) (h9 : 9 ≤ L) (H : mag L.toNat s.data.toList 0 0 = mag L.toNat (s.data.toList.drop k) k m)
    (h1 : 48 ≤ (s[k].toNat : Int)) (h2 : (s[k].toNat : Int) ≤ 57) (h3 : ¬ (0 < k ∧ m = 0)) (h4 : (m : Int) ≤ (L - ((s[k].toNat : Int) - 48)) / 10) :
    mag L.toNat s.data.toList 0 0 = mag L.toNat (s.data.toList.drop (k + 1)) (k + 1) (m * 10 + (s[k].toNat - 48)) := by
  rw [H, drop_at s k h]
  exact mag_go (by omega) (by omega) h3 (by omega)

theorem mag_end {s : ByteArray} {L k m : Nat} (h : ¬ k < s.size) (hk : k ≤ s.size) (H : mag L s.data.toList 0 0 = mag L (s.data.toList.drop k) k m) :
    mag L s.data.toList 0 0 = if k = 0 then none else some m := by
  rw [H, List.drop_eq_nil_of_le (by simp; omega), mag_nil]

/-- How far a number may lie from 0 (below it there is one more). -/
def lim (b : Bool) : Int := if b then 9223372036854775808 else 9223372036854775807
theorem lim_bd (b : Bool) : 9 ≤ lim b ∧ lim b ≤ 18446744073709551615 := by cases b <;> decide
theorem lim_bd' (b : Bool) : lim b ≤ 9223372036854775808 := by cases b <;> decide
theorem lim_pos : lim false ≤ 9223372036854775807 := by decide

theorem mag_le (L : Nat) (h9 : 9 ≤ L) : ∀ (l : List UInt8) (r n m : Nat), n ≤ L → mag L l r n = some m → m ≤ L
  | [], r, n, m, hn, h => by
    rw [mag_nil] at h
    split at h
    · cases h
    · cases h; exact hn
  | c :: t, r, n, m, hn, h => by
    rw [mag] at h
    split at h
    · rename_i hc
      exact mag_le L h9 t _ _ m (by omega) h
    · cases h

/-- What num.Parse answers: the number, if the text is one's. -/
def parse (l : List UInt8) : Option Int :=
  match l with
  | 45 :: t => (mag (lim true).toNat t 0 0).bind fun n : Nat => if n = 0 then none else some (-(n : Int))
  | l => (mag (lim false).toNat l 0 0).map fun n : Nat => (n : Int)

/-- The error's number beside it: 0, or 10 (no number). -/
def errno (o : Option Int) : Int := if o.isSome then 0 else 10
theorem errno_none : errno none = 10 := rfl
theorem errno_some (n : Int) : errno (some n) = 0 := rfl

theorem parse_neg (t : List UInt8) : parse (45 :: t) = (mag (lim true).toNat t 0 0).bind fun n : Nat => if n = 0 then none else some (-(n : Int)) := rfl
theorem parse_pos (l : List UInt8) (h : ∀ t, l ≠ 45 :: t) : parse l = (mag (lim false).toNat l 0 0).map fun n : Nat => (n : Int) := by
  unfold parse
  split
  · rename_i t; exact absurd rfl (h t)
  · rfl

end Go.Proofs.Ytobiedmmjiedlaa.Pl

namespace Go.Proofs.Ytobiedmmjiedlaa.Lx
open Go.RowKit

def let1 (c : Nat) : Bool := decide (65 ≤ c ∧ c ≤ 90) || decide (97 ≤ c ∧ c ≤ 122)
def dig1 (c : Nat) : Bool := decide (48 ≤ c ∧ c ≤ 57)
def inn1 (c : Nat) : Bool := let1 c || dig1 c || decide (c = 95)
def keys : List (List UInt8) := [[112, 114, 111, 99], [118, 97, 114], [105, 102], [101, 108, 115, 101], [119, 104, 105, 108, 101], [114, 101, 116, 117, 114, 110], [112, 114, 105, 110, 116], [114, 101, 97, 100], [97, 115, 115, 101, 114, 116], [105, 110, 116], [98, 111, 111, 108], [116, 114, 117, 101], [102, 97, 108, 115, 101]]
def signs : List (List UInt8) := [[40], [41], [123], [125], [91], [93], [44], [59], [61], [61, 61], [33, 61], [60], [60, 61], [38, 38], [124, 124], [33], [43], [45], [42], [47], [37]]
def isKey (l : List UInt8) : Bool := keys.contains l
def isSign (l : List UInt8) : Bool := signs.contains l
/-- How many bytes a text begins with that hold p. -/
def run (p : Nat → Bool) : List UInt8 → Nat
  | [] => 0
  | c :: t => if p c.toNat then run p t + 1 else 0
theorem run_le (p : Nat → Bool) : ∀ l : List UInt8, run p l ≤ l.length
  | [] => Nat.le_refl _
  | c :: t => by
    have := run_le p t
    unfold run
    split <;> simp <;> omega
theorem run_drop (p : Nat → Bool) : ∀ (l : List UInt8) (k : Nat), k < run p l → ∃ c, l[k]? = some c ∧ p c.toNat = true
  | [], k, h => by simp [run] at h
  | c :: t, k, h => by
    unfold run at h
    split at h
    · rename_i hc
      cases k with
      | zero => exact ⟨c, rfl, hc⟩
      | succ k =>
        obtain ⟨d, hd, hp⟩ := run_drop p t k (by omega)
        exact ⟨d, by simpa using hd, hp⟩
    · omega
theorem run_stop (p : Nat → Bool) : ∀ (l : List UInt8) (c : UInt8), l[run p l]? = some c → p c.toNat = false
  | [], c, h => by simp [run] at h
  | d :: t, c, h => by
    unfold run at h
    split at h
    · rename_i hd
      exact run_stop p t c (by simpa using h)
    · rename_i hd
      simp at h
      subst h
      simpa using hd
/-- How many bytes of blanks a text begins with; rem: within a remark. -/
def blank (rem : Bool) : List UInt8 → Nat
  | [] => 0
  | c :: t => if c = 10 then blank false t + 1 else if c = 35 then blank true t + 1 else if ¬ c = 32 ∧ rem = false then 0 else blank rem t + 1
theorem blank_le : ∀ (rem : Bool) (l : List UInt8), blank rem l ≤ l.length
  | _, [] => Nat.le_refl _
  | rem, c :: t => by
    have h1 := blank_le false t
    have h2 := blank_le true t
    have h3 := blank_le rem t
    unfold blank
    split
    · simp; omega
    · split
      · simp; omega
      · split
        · simp
        · simp; omega
def isName (l : List UInt8) : Bool := !l.isEmpty && let1 (l.headD 0).toNat && decide (run inn1 l = l.length) && decide (l.length ≤ 40) && !isKey l
/-- A token without its place. -/
structure Tk where
  kind : Int
  text : List UInt8
  num : Int
/-- The word, the integer, the sign that a text begins with, and its length. -/
def fword (l : List UInt8) : Option (Tk × Nat) :=
  if isKey (l.take (run inn1 l)) then some (⟨3, l.take (run inn1 l), 0⟩, run inn1 l)
  else if isName (l.take (run inn1 l)) then some (⟨1, l.take (run inn1 l), 0⟩, run inn1 l) else none
/-- Does a letter stand at place k? -/
def letAt (l : List UInt8) (k : Nat) : Bool := match l[k]? with | some c => let1 c.toNat | none => false
def fint (l : List UInt8) : Option (Tk × Nat) :=
  match Pl.parse (l.take (run dig1 l)) with
  | none => none
  | some n => if letAt l (run dig1 l) then none else some (⟨2, [], n⟩, run dig1 l)
def signBy (n : Nat) (l : List UInt8) : Option (List UInt8) := signs.find? fun g => decide (g.length = n) && g.isPrefixOf l
def fsign (l : List UInt8) : Option (Tk × Nat) :=
  match signBy 2 l with
  | some g => some (⟨4, g, 0⟩, g.length)
  | none => match signBy 1 l with
    | some g => some (⟨4, g, 0⟩, g.length)
    | none => none
def first (l : List UInt8) : Option (Tk × Nat) :=
  match l with
  | [] => some (⟨0, [], 0⟩, 0)
  | c :: t => if let1 c.toNat then fword (c :: t) else if dig1 c.toNat then fint (c :: t) else fsign (c :: t)
end Go.Proofs.Ytobiedmmjiedlaa.Lx

namespace Go.Proofs.Ytobiedmmjiedlaa
open Go.RowKit

theorem ret_none {x : Option Nat} (h : x = none) : Ending.returned (.tuple #[.int .u64 0, .bool false]) = .returned (.tuple #[.int .u64 ((x.getD 0 : Nat) : Int), .bool x.isSome]) := by rw [h]; rfl
theorem ret_some {x : Option Nat} {m : Nat} (h : x = some m) : Ending.returned (.tuple #[.int .u64 (m : Int), .bool true]) = .returned (.tuple #[.int .u64 ((x.getD 0 : Nat) : Int), .bool x.isSome]) := by rw [h]; rfl

end Go.Proofs.Ytobiedmmjiedlaa

namespace Go.Proofs.Ytobiedmmjiedlaa
end Go.Proofs.Ytobiedmmjiedlaa

namespace Go.Proofs.Ytobiedmmjiedlaa
open Go.RowKit

theorem ret_pair {k l : IntKind} {a b c d : Int} (h1 : a = c) (h2 : b = d) : Ending.returned (.tuple #[.int k a, .int l b]) = .returned (.tuple #[.int k c, .int l d]) := by rw [h1, h2]

end Go.Proofs.Ytobiedmmjiedlaa

namespace Go.Proofs.Ytobiedmmjiedlaa
open Go.RowKit

/-- The arrays of key words and of signs, as values. -/
def keysA : Array Value := (Lx.keys.map fun l => Value.string ⟨l.toArray⟩).toArray
def signsA : Array Value := (Lx.signs.map fun l => Value.string ⟨l.toArray⟩).toArray
def keyAt (k : Nat) : ByteArray := ⟨(Lx.keys.getD k []).toArray⟩
def signAt (k : Nat) : ByteArray := ⟨(Lx.signs.getD k []).toArray⟩
theorem key_lists (k : Nat) : (keyAt k).toList = Lx.keys.getD k [] := by rw [ByteArray.toList_eq]; simp [keyAt]
theorem sign_lists (k : Nat) : (signAt k).toList = Lx.signs.getD k [] := by rw [ByteArray.toList_eq]; simp [signAt]
theorem contains_of {l : List UInt8} {L : List (List UInt8)} {k : Nat} (hk : k < L.length) (h : l = L.getD k []) : L.contains l = true := by
  rw [List.contains_iff_mem, h, List.getD_eq_getElem?_getD, List.getElem?_eq_getElem hk]
  exact List.getElem_mem hk
theorem not_contains {l : List UInt8} {L : List (List UInt8)} (h : ∀ k, k < L.length → l ≠ L.getD k []) : L.contains l = false := by
  rw [Bool.eq_false_iff]
  intro e
  obtain ⟨k, hk, he⟩ := List.mem_iff_getElem.1 (List.contains_iff_mem.1 e)
  apply h k hk
  rw [List.getD_eq_getElem?_getD, List.getElem?_eq_getElem hk, ← he]; rfl

theorem run_step (p : Nat → Bool) (s : ByteArray) (k : Nat) (h : k < s.size) : Lx.run p (s.data.toList.drop k) = if p s[k].toNat then Lx.run p (s.data.toList.drop (k + 1)) + 1 else 0 := by
  rw [Pl.drop_at s k h]; rfl
theorem run_yes {p : Nat → Bool} {s : ByteArray} {k r : Nat} (h : k < s.size) (H : r = k + Lx.run p (s.data.toList.drop k)) (hp : p s[k].toNat = true) : r = (k + 1) + Lx.run p (s.data.toList.drop (k + 1)) := by
  rw [run_step p s k h, if_pos hp] at H; omega
theorem run_no {p : Nat → Bool} {s : ByteArray} {k r : Nat} (h : k < s.size) (H : r = k + Lx.run p (s.data.toList.drop k)) (hp : p s[k].toNat = false) : r = k := by
  rw [run_step p s k h, if_neg (by simp [hp])] at H; omega
theorem run_end {p : Nat → Bool} {s : ByteArray} {k r : Nat} (h : ¬ k < s.size) (H : r = k + Lx.run p (s.data.toList.drop k)) : r = k := by
  rw [List.drop_eq_nil_of_le (by simp; omega)] at H
  exact H
theorem ret_i64 {a b : Int} (h : a = b) : Ending.returned (.int .i64 a) = .returned (.int .i64 b) := by rw [h]

theorem blank_step (r : Bool) (s : ByteArray) (k : Nat) (h : k < s.size) : Lx.blank r (s.data.toList.drop k) = if s[k] = 10 then Lx.blank false (s.data.toList.drop (k + 1)) + 1 else if s[k] = 35 then Lx.blank true (s.data.toList.drop (k + 1)) + 1 else if ¬ s[k] = 32 ∧ r = false then 0 else Lx.blank r (s.data.toList.drop (k + 1)) + 1 := by
  rw [Pl.drop_at s k h]; rfl
theorem u8_eq {c : UInt8} {n : Nat} (h : c.toNat = n) (hn : n < 256) : c = UInt8.ofNat n := UInt8.toNat_inj.1 (by rw [h, UInt8.toNat_ofNat']; omega)
theorem u8_ne {c : UInt8} {n : Nat} (h : ¬ c.toNat = n) (hn : n < 256) : ¬ c = UInt8.ofNat n := fun e => h (by rw [e, UInt8.toNat_ofNat']; omega)
end Go.Proofs.Ytobiedmmjiedlaa

namespace Go.Proofs.Ytobiedmmjiedlaa
open Go.RowKit

theorem size_len' (s : ByteArray) : s.data.toList.length = s.size := by rw [Array.length_toList, ByteArray.size_data]
theorem head_is (s : ByteArray) (h : 0 < s.size) : s.data.toList.headD 0 = s[0] := by
  have := Pl.drop_at s 0 h
  rw [List.drop_zero] at this
  rw [this]; rfl
theorem empty_list {s : ByteArray} (h : s.size = 0) : s.data.toList = [] := by rw [← List.length_eq_zero_iff, size_len']; exact h
theorem isEmpty_no {s : ByteArray} (h : 0 < s.size) : s.data.toList.isEmpty = false := by
  cases hl : s.data.toList with
  | nil => have := size_len' s; rw [hl] at this; simp at this; omega
  | cons => rfl
theorem isName_eq (s : ByteArray) (h : 0 < s.size) : Lx.isName s.data.toList = (Lx.let1 s[0].toNat && decide (Lx.run Lx.inn1 s.data.toList = s.size) && decide (s.size ≤ 40) && !Lx.isKey s.data.toList) := by
  unfold Lx.isName
  rw [isEmpty_no h, head_is s h, size_len']
  simp

end Go.Proofs.Ytobiedmmjiedlaa

namespace Go.Proofs.Ytobiedmmjiedlaa
open Go.RowKit

/-- A token as Go's value; what first and its parts answer. -/
def tokV (t : Lx.Tk) (at' : Int) : Value := .agg #[.int .i64 t.kind, .string ⟨t.text.toArray⟩, .int .i64 t.num, .int .i64 at']
def tokR : Option (Lx.Tk × Nat) → Value
  | none => .tuple #[.agg #[.int .i64 0, .string ⟨#[]⟩, .int .i64 0, .int .i64 0], .int .i64 0, .int .i64 20]
  | some (t, n) => .tuple #[tokV t 0, .int .i64 n, .int .i64 0]
theorem ext_take (s : ByteArray) (n : Nat) : s.extract 0 n = ⟨(s.data.toList.take n).toArray⟩ := by
  have h : (s.extract 0 n).data.toList = s.data.toList.take n := by rw [Lib.extract_data]; simp
  obtain ⟨⟨l⟩⟩ := s
  rw [← h]
theorem ext_list (s : ByteArray) (n : Nat) : (s.extract 0 n).data.toList = s.data.toList.take n := by rw [Lib.extract_data]; simp

theorem letAt_no {s : ByteArray} {k : Nat} (h : ¬ k < s.size) : Lx.letAt s.data.toList k = false := by
  unfold Lx.letAt
  rw [List.getElem?_eq_none (by rw [size_len']; omega)]
theorem letAt_at {s : ByteArray} {k : Nat} (h : k < s.size) : Lx.letAt s.data.toList k = Lx.let1 s[k].toNat := by
  unfold Lx.letAt
  rw [List.getElem?_eq_getElem (by rw [size_len']; exact h)]; rfl

end Go.Proofs.Ytobiedmmjiedlaa

namespace Go.Proofs.Ytobiedmmjiedlaa
open Go.RowKit

theorem find_at {L : List (List UInt8)} {p : List UInt8 → Bool} : ∀ {k : Nat}, (∀ j, j < k → p (L.getD j []) = false) → k < L.length → p (L.getD k []) = true → L.find? p = some (L.getD k []) := by
  induction L with
  | nil => intro k _ h; simp at h
  | cons a r ih =>
    intro k h1 h2 h3
    cases k with
    | zero => rw [List.find?_cons]; rw [List.getD_cons_zero] at h3 ⊢; rw [h3]
    | succ k =>
      have h0 := h1 0 (by omega)
      rw [List.getD_cons_zero] at h0
      rw [List.find?_cons, h0, List.getD_cons_succ]
      rw [List.getD_cons_succ] at h3
      exact ih (fun j hj => by have := h1 (j + 1) (by omega); rwa [List.getD_cons_succ] at this) (by simpa using h2) h3
theorem find_none {L : List (List UInt8)} {p : List UInt8 → Bool} (h : ∀ j, j < L.length → p (L.getD j []) = false) : L.find? p = none := by
  rw [List.find?_eq_none]
  intro x hx
  obtain ⟨j, hj, rfl⟩ := List.mem_iff_getElem.1 hx
  have := h j hj
  rw [List.getD_eq_getElem?_getD, List.getElem?_eq_getElem hj] at this
  simpa using this
theorem signAt_size (k : Nat) : (signAt k).size = (Lx.signs.getD k []).length := by rw [← size_len']; simp [signAt]
/-- The sign k has z bytes, and the text begins with it. -/
def sg (z : Nat) (l : List UInt8) (g : List UInt8) : Bool := decide (g.length = z) && g.isPrefixOf l
theorem signBy_eq (z : Nat) (l : List UInt8) : Lx.signBy z l = Lx.signs.find? (sg z l) := rfl
theorem sign_ne : ∀ k, k < 21 → ¬ Lx.signs.getD k [] = [] := by decide

theorem list_cons (s : ByteArray) (h : 0 < s.size) : s.data.toList = s[0] :: s.data.toList.drop 1 := by
  have := Pl.drop_at s 0 h
  rwa [List.drop_zero] at this
theorem first_eq (s : ByteArray) (h : 0 < s.size) : Lx.first s.data.toList = if Lx.let1 s[0].toNat then Lx.fword s.data.toList else if Lx.dig1 s[0].toNat then Lx.fint s.data.toList else Lx.fsign s.data.toList := by
  have e := list_cons s h
  generalize hl : s.data.toList = l at *
  rw [e]
  rfl
/-- The parts of what first's parts answer. -/
def part0 (o : Option (Lx.Tk × Nat)) : Value := match o with | none => .agg #[.int .i64 0, .string ⟨#[]⟩, .int .i64 0, .int .i64 0] | some (t, _) => tokV t 0
def tkK (o : Option (Lx.Tk × Nat)) : Int := match o with | none => 0 | some (t, _) => t.kind
def tkT (o : Option (Lx.Tk × Nat)) : ByteArray := match o with | none => ⟨#[]⟩ | some (t, _) => ⟨t.text.toArray⟩
def tkN (o : Option (Lx.Tk × Nat)) : Int := match o with | none => 0 | some (t, _) => t.num
def tkS (o : Option (Lx.Tk × Nat)) : Int := match o with | none => 0 | some (_, n) => n
def tkE (o : Option (Lx.Tk × Nat)) : Int := match o with | none => 20 | some _ => 0
theorem tokR_eq (o : Option (Lx.Tk × Nat)) : tokR o = .tuple #[.agg #[.int .i64 (tkK o), .string (tkT o), .int .i64 (tkN o), .int .i64 0], .int .i64 (tkS o), .int .i64 (tkE o)] := by
  cases o with
  | none => rfl
  | some x => rfl

/-- Behind a call the box that was laid ahead of it is as it was. -/
theorem box_facts {w w1 : World} {t : TypeId} (b1 : Below (w.alloc (.cells #[.int .i64 0, .string ⟨#[]⟩, .int .i64 0, .int .i64 0] t)).heap.size (w.alloc (.cells #[.int .i64 0, .string ⟨#[]⟩, .int .i64 0, .int .i64 0] t)) w1) :
    (w1.cell? ⟨w.heap.size, 0, none⟩ = some (.int .i64 0) ∧ w1.cell? ⟨w.heap.size, 1, none⟩ = some (.string ⟨#[]⟩) ∧ w1.cell? ⟨w.heap.size, 2, none⟩ = some (.int .i64 0) ∧ w1.cell? ⟨w.heap.size, 3, none⟩ = some (.int .i64 0)) ∧
    (w1.frozen? ⟨w.heap.size, 0, none⟩ = false ∧ w1.frozen? ⟨w.heap.size, 1, none⟩ = false ∧ w1.frozen? ⟨w.heap.size, 2, none⟩ = false ∧ w1.frozen? ⟨w.heap.size, 3, none⟩ = false) ∧ w.heap.size < w1.heap.size ∧ Below w.heap.size w w1 := by
  have hz := b1.size
  simp at hz
  have b0 : Below w.heap.size w (w.alloc (.cells #[.int .i64 0, .string ⟨#[]⟩, .int .i64 0, .int .i64 0] t)) := (Below.refl _ _).alloc (Nat.le_refl _) _
  refine ⟨⟨?_, ?_, ?_, ?_⟩, ⟨?_, ?_, ?_, ?_⟩, by omega, b0.trans (b1.mono (by simp))⟩
  all_goals first | (rw [b1.cell (by simp)]; simp [go_sem]) | (rw [b1.frozen (by simp)]; exact World.frozen?_alloc_at _ _ _ _ rfl)

end Go.Proofs.Ytobiedmmjiedlaa

namespace Go.Proofs.Ytobiedmmjiedlaa.Lx
open Go.RowKit

/-- Where the next token may begin. -/
def skip (l : List UInt8) (at' : Nat) : Nat := at' + blank false (l.drop at')
/-- Scan from a place on, with the tokens that were found: tokens with their places, a place, an error's number. -/
def scanF (l : List UInt8) : Nat → Nat → List (Tk × Nat) → List (Tk × Nat) × Nat × Int
  | 0, _, _ => ([], 0, 0)
  | f + 1, at', ts =>
    match first (l.drop (skip l at')) with
    | none => ([], skip l at', 20)
    | some (t, n) => if ts.length = 4000 then ([], skip l at', 2) else if t.kind = 0 then (ts ++ [(t, skip l at')], 0, 0) else scanF l f (skip l at' + n) (ts ++ [(t, skip l at')])
def scan (l : List UInt8) : List (Tk × Nat) × Nat × Int := if 16384 < l.length then ([], 0, 2) else scanF l (l.length + 1) 0 []

theorem fsign_len {l : List UInt8} {t : Tk} {n : Nat} (h : fsign l = some (t, n)) : t.kind = 4 ∧ 1 ≤ n ∧ n ≤ l.length := by
  have key : ∀ z g, 1 ≤ z → signBy z l = some g → 1 ≤ g.length ∧ g.length ≤ l.length := by
    intro z g hz hg
    have := List.find?_some hg
    simp only [Bool.and_eq_true, decide_eq_true_eq] at this
    have h2 := List.IsPrefix.length_le (List.isPrefixOf_iff_prefix.1 this.2)
    omega
  unfold fsign at h
  split at h
  · rename_i g hg
    have := key 2 g (by omega) hg
    cases h
    exact ⟨rfl, this.1, this.2⟩
  · split at h
    · rename_i g hg
      have := key 1 g (by omega) hg
      cases h
      exact ⟨rfl, this.1, this.2⟩
    · cases h
theorem run_pos {p : Nat → Bool} {c : UInt8} {t : List UInt8} (h : p c.toNat = true) : 1 ≤ run p (c :: t) := by
  unfold run; rw [if_pos h]; omega
theorem first_len {l : List UInt8} {t : Tk} {n : Nat} (h : first l = some (t, n)) : (l = [] ∧ t = ⟨0, [], 0⟩ ∧ n = 0) ∨ (t.kind ≠ 0 ∧ 1 ≤ n ∧ n ≤ l.length) := by
  cases l with
  | nil => unfold first at h; cases h; exact .inl ⟨rfl, rfl, rfl⟩
  | cons c r =>
    right
    have h : (if let1 c.toNat then fword (c :: r) else if dig1 c.toNat then fint (c :: r) else fsign (c :: r)) = some (t, n) := h
    split at h
    · rename_i hc
      have h1 : 1 ≤ run inn1 (c :: r) := run_pos (by unfold inn1; rw [hc]; rfl)
      have h2 := run_le inn1 (c :: r)
      unfold fword at h
      split at h
      · cases h; exact ⟨by simp, h1, h2⟩
      · split at h
        · cases h; exact ⟨by simp, h1, h2⟩
        · cases h
    · split at h
      · rename_i hd
        have h1 : 1 ≤ run dig1 (c :: r) := run_pos hd
        have h2 := run_le dig1 (c :: r)
        unfold fint at h
        split at h
        · cases h
        · split at h
          · cases h
          · cases h; exact ⟨by simp, h1, h2⟩
      · have := fsign_len h
        exact ⟨by omega, this.2⟩
theorem skip_le (l : List UInt8) (at' : Nat) (h : at' ≤ l.length) : skip l at' ≤ l.length := by
  have := blank_le false (l.drop at')
  rw [List.length_drop] at this
  unfold skip; omega
end Go.Proofs.Ytobiedmmjiedlaa.Lx

namespace Go.Proofs.Ytobiedmmjiedlaa
open Go.RowKit

theorem infoTok : (Try.prog.info? 88).map (fun i => (i.zero, i.size, i.bytes)) = some (some (.agg #[.int .i64 0, .string ⟨#[]⟩, .int .i64 0, .int .i64 0]), 4, 40) := by kernel_rfl
/-- The cells of a token at place a. -/
def cellsT (x : Lx.Tk × Nat) : List Value := [.int .i64 x.1.kind, .string ⟨x.1.text.toArray⟩, .int .i64 x.1.num, .int .i64 (x.2 : Int)]
/-- The slice v is a row of the tokens ts, among the blocks from base on. -/
def OwnT (w : World) (base : Nat) (v : Value) (ts : List (Lx.Tk × Nat)) : Prop := w.ownsRow base 88 4 v ts.length (ts.flatMap cellsT)

theorem OwnT.nil (w : World) (base : Nat) : OwnT w base (.slice none 0 0) [] := World.ownsRow_nil _ _ _ _
theorem OwnT.shape {w : World} {base : Nat} {v : Value} {ts : List (Lx.Tk × Nat)} (h : OwnT w base v ts) : ∃ ao cap, v = .slice ao ts.length cap := by
  rcases h.2 with ⟨rfl, h0⟩ | ⟨g, cap, cur, rfl, _⟩
  · exact ⟨none, 0, by rw [h0]⟩
  · exact ⟨_, cap, rfl⟩
theorem OwnT.later {w w' : World} {base : Nat} {v : Value} {ts : List (Lx.Tk × Nat)} (h : OwnT w base v ts) (hb : Below w.heap.size w w') : OwnT w' base v ts :=
  World.ownsRow.kept h (row := none) ⟨hb.os, hb.tape, hb.output, hb.size, fun k hk _ => hb.block k hk⟩ (by
    rcases h.2 with ⟨rfl, _⟩ | ⟨g, cap, cur, rfl, _⟩
    · exact .inl rfl
    · exact .inr (by simp [Value.ownBlock]))
theorem ext_end (s : ByteArray) (a : Nat) : (s.extract a s.size).data.toList = s.data.toList.drop a := Lib.extract_to_end s a
theorem four_cells (w : World) (c0 c1 c2 c3 : Value) (t : TypeId) : ∀ (j : Nat) u, [c0, c1, c2, c3][j]? = some u → (w.alloc (.cells #[c0, c1, c2, c3] t)).cell? ((⟨w.heap.size, 0, none⟩ : Addr).add j) = some u := by
  intro j u hj
  match j, hj with
  | 0, hj => simp at hj; subst hj; simp [Addr.add]
  | 1, hj => simp at hj; subst hj; simp [Addr.add]
  | 2, hj => simp at hj; subst hj; simp [Addr.add]
  | 3, hj => simp at hj; subst hj; simp [Addr.add]
  | n + 4, hj => simp at hj
theorem four_one (x : Lx.Tk × Nat) : ∀ u ∈ cellsT x, u.oneCell' = true := by
  intro u hu
  simp [cellsT] at hu
  rcases hu with rfl | rfl | rfl | rfl <;> rfl
theorem ret3 {v : Value} {a b c d : Int} (h1 : a = c) (h2 : b = d) : Ending.returned (.tuple #[v, .int .i64 a, .int .i64 b]) = .returned (.tuple #[v, .int .i64 c, .int .i64 d]) := by rw [h1, h2]

theorem tok_snoc {w w1 w2 : World} {B : Nat} {v v' : Value} {ts : List (Lx.Tk × Nat)} {x : Lx.Tk × Nat} {c1 c2 c3 : Value} {k : Int} {T : TypeId} (O1 : OwnT w1 B v ts) (hb : Below B w w1) (hB : B ≤ w1.heap.size)
    (h' : w2.ownsRow B 88 4 v' (ts.length + 1) (ts.flatMap cellsT ++ cellsT x)) (hg : ((w1.alloc (.cells #[.int .i64 k, c1, c2, c3] T)).alloc (.cells #[.int .i64 k, c1, c2, c3] T)).grownBy w2 v.ownBlock) :
    OwnT w2 B v' (ts ++ [x]) ∧ Below B w w2 ∧ w2.cell? ⟨w1.heap.size, 0, none⟩ = some (.int .i64 k) := by
  have hl := World.ownsRow.lt O1
  refine ⟨?_, ((hb.alloc hB _).alloc (by simp; omega) _).grown hg (by simp; omega) (fun g hg => (hl g hg).1), ?_⟩
  · unfold OwnT
    rw [List.length_append, List.flatMap_append]
    simpa using h'
  · refine hg.cell (a := ⟨w1.heap.size, 0, none⟩) ?_ ?_
    · rw [World.cell?_alloc_past _ _ _ (by simp), World.cell?_alloc_at _ _ _ _ rfl]; rfl
    · intro e
      have := (hl _ e.symm).2
      simp at this

/-- What Scan answers of a text, as a slice in new memory. -/
def ScanIs (l : List UInt8) (w : World) (e : Ending) (w' : World) : Prop :=
  ∃ v, e = .returned (.tuple #[v, .int .i64 ((Lx.scan l).2.1 : Int), .int .i64 (Lx.scan l).2.2]) ∧ OwnT w' w.heap.size v (Lx.scan l).1 ∧ Below w.heap.size w w'

end Go.Proofs.Ytobiedmmjiedlaa

namespace Go.Proofs.Ytobiedmmjiedlaa
open Go.RowKit

/-- Are a token's Text and Num those of its kind? -/
def rtk (t : Lx.Tk) : Bool :=
  if t.kind = 0 then t.text.isEmpty && decide (t.num = 0)
  else if t.kind = 1 then Lx.isName t.text && decide (t.num = 0)
  else if t.kind = 3 then Lx.isKey t.text && decide (t.num = 0)
  else if t.kind = 2 then t.text.isEmpty && decide (0 ≤ t.num)
  else if t.kind = 4 then Lx.isSign t.text && decide (t.num = 0)
  else false
theorem emp_true {l : List UInt8} (h : l.isEmpty = true) : (⟨l.toArray⟩ : ByteArray).toList.isEmpty = true := by rw [ByteArray.toList_eq]; simpa using h
theorem emp_false {l : List UInt8} (h : l.isEmpty = false) : (⟨l.toArray⟩ : ByteArray).toList.isEmpty = false := by rw [ByteArray.toList_eq]; simpa using h
theorem text_list (l : List UInt8) : (⟨l.toArray⟩ : ByteArray).data.toList = l := by simp
theorem box_below (w : World) (o : Obj) : Below w.heap.size w (w.alloc o) := (Below.refl _ _).alloc (Nat.le_refl _) _

end Go.Proofs.Ytobiedmmjiedlaa

namespace Go.Proofs.Ytobiedmmjiedlaa
open Go.RowKit

abbrev Tok := Lx.Tk × Int
def tok0 : Tok := (⟨0, [], 0⟩, 0)
/-- The tokens ts lie from place o of block b on. -/
structure Ta (w : World) (b o : Nat) (ts : List Tok) : Prop where
  lt : b < w.heap.size
  c0 : ∀ j, j < ts.length → w.cell? ⟨b, o + j * 4, none⟩ = some (.int .i64 (ts.getD j tok0).1.kind)
  c1 : ∀ j, j < ts.length → w.cell? ⟨b, o + j * 4 + 1, none⟩ = some (.string ⟨(ts.getD j tok0).1.text.toArray⟩)
  c2 : ∀ j, j < ts.length → w.cell? ⟨b, o + j * 4 + 2, none⟩ = some (.int .i64 (ts.getD j tok0).1.num)
  c3 : ∀ j, j < ts.length → w.cell? ⟨b, o + j * 4 + 3, none⟩ = some (.int .i64 (ts.getD j tok0).2)
theorem Ta.later {w w' : World} {b o : Nat} {ts : List Tok} (h : Ta w b o ts) (hb : Below w.heap.size w w') : Ta w' b o ts :=
  ⟨Nat.lt_of_lt_of_le h.lt hb.size, fun j hj => (hb.cell (p := ⟨b, o + j * 4, none⟩) h.lt).trans (h.c0 j hj), fun j hj => (hb.cell (p := ⟨b, o + j * 4 + 1, none⟩) h.lt).trans (h.c1 j hj),
   fun j hj => (hb.cell (p := ⟨b, o + j * 4 + 2, none⟩) h.lt).trans (h.c2 j hj), fun j hj => (hb.cell (p := ⟨b, o + j * 4 + 3, none⟩) h.lt).trans (h.c3 j hj)⟩
/-- A token that may stand ahead of the end. -/
def midTk (x : Tok) : Bool := decide (¬ x.1.kind = 0) && rtk x.1
/-- Are the tokens right? -/
def rightL (ts : List Tok) : Bool := if ts.length = 0 then false else (List.range (ts.length - 1)).all (fun j => midTk (ts.getD j tok0)) && (decide ((ts.getD (ts.length - 1) tok0).1.kind = 0) && rtk (ts.getD (ts.length - 1) tok0).1)

theorem rightL_no {ts : List Tok} {m k : Nat} (hm : ts.length = m + 1) (hk : k < m) (h : midTk (ts.getD k tok0) = false) : rightL ts = false := by
  unfold rightL
  rw [if_neg (by omega)]
  have : (List.range (ts.length - 1)).all (fun j => midTk (ts.getD j tok0)) = false := by
    rw [Bool.eq_false_iff]
    intro e
    have := List.all_eq_true.1 e k (by rw [List.mem_range]; omega)
    rw [h] at this
    cases this
  rw [this]; rfl
theorem rightL_end {ts : List Tok} {m : Nat} (hm : ts.length = m + 1) (h : ∀ j, j < m → midTk (ts.getD j tok0) = true) : rightL ts = (decide ((ts.getD m tok0).1.kind = 0) && rtk (ts.getD m tok0).1) := by
  unfold rightL
  rw [if_neg (by omega)]
  have : (List.range (ts.length - 1)).all (fun j => midTk (ts.getD j tok0)) = true := by
    rw [List.all_eq_true]
    intro j hj
    rw [List.mem_range] at hj
    exact h j (by omega)
  rw [this, show ts.length - 1 = m by omega]; rfl

end Go.Proofs.Ytobiedmmjiedlaa

namespace Go.Proofs.Ytobiedmmjiedlaa
open Go.RowKit

def tokA (x : Tok) : Value := .agg #[.int .i64 x.1.kind, .string ⟨x.1.text.toArray⟩, .int .i64 x.1.num, .int .i64 x.2]
/-- The reader in block p stands at token number k of the tokens ts. -/
structure Rd (w : World) (p b o cap : Nat) (ts : List Tok) (k : Nat) : Prop where
  row : w.cell? ⟨p, 0, none⟩ = some (.slice (some ⟨b, o, none⟩) ts.length cap)
  nx : w.cell? ⟨p, 1, none⟩ = some (.int .i64 (k : Int))
  fz : w.frozen? ⟨p, 1, none⟩ = false
  ta : Ta w b o ts
  ne : b ≠ p
  lt : p < w.heap.size
/-- Nothing that was there has changed but the number in block p. -/
structure Mov (p : Nat) (w w' : World) : Prop where
  os : w'.os = w.os
  tape : w'.tape = w.tape
  output : w'.output = w.output
  size : w.heap.size ≤ w'.heap.size
  block : ∀ k, k < w.heap.size → k ≠ p → w'.heap[k]? = w.heap[k]?
  cell : ∀ q : Addr, q.block < w.heap.size → q ≠ ⟨p, 1, none⟩ → w'.cell? q = w.cell? q
  frozen : ∀ q : Addr, q.block < w.heap.size → w'.frozen? q = w.frozen? q
theorem Mov.refl (p : Nat) (w : World) : Mov p w w := ⟨rfl, rfl, rfl, Nat.le_refl _, fun _ _ _ => rfl, fun _ _ _ => rfl, fun _ _ => rfl⟩
theorem Mov.trans {p : Nat} {a b c : World} (h : Mov p a b) (k : Mov p b c) : Mov p a c :=
  ⟨k.os.trans h.os, k.tape.trans h.tape, k.output.trans h.output, Nat.le_trans h.size k.size,
   fun i hi hp => (k.block i (Nat.lt_of_lt_of_le hi h.size) hp).trans (h.block i hi hp),
   fun q hq hp => (k.cell q (Nat.lt_of_lt_of_le hq h.size) hp).trans (h.cell q hq hp),
   fun q hq => (k.frozen q (Nat.lt_of_lt_of_le hq h.size)).trans (h.frozen q hq)⟩
theorem Mov.of_below {p : Nat} {w w' : World} (h : Below w.heap.size w w') : Mov p w w' :=
  ⟨h.os, h.tape, h.output, h.size, fun k hk _ => h.block k hk, fun _ hq _ => h.cell hq, fun _ hq => h.frozen hq⟩
theorem Mov.alloc {p : Nat} {w w' : World} (h : Mov p w w') (x : Obj) : Mov p w (w'.alloc x) := h.trans (.of_below (box_below w' x))
theorem Ta.mov {w w' : World} {p b o : Nat} {ts : List Tok} (h : Ta w b o ts) (m : Mov p w w') (hb : b ≠ p) : Ta w' b o ts := by
  have key : ∀ n, (⟨b, n, none⟩ : Addr) ≠ ⟨p, 1, none⟩ := fun n e => hb (congrArg Addr.block e)
  exact ⟨Nat.lt_of_lt_of_le h.lt m.size, fun j hj => (m.cell _ h.lt (key _)).trans (h.c0 j hj), fun j hj => (m.cell _ h.lt (key _)).trans (h.c1 j hj), fun j hj => (m.cell _ h.lt (key _)).trans (h.c2 j hj), fun j hj => (m.cell _ h.lt (key _)).trans (h.c3 j hj)⟩
theorem Rd.later {w w' : World} {p b o cap : Nat} {ts : List Tok} {k : Nat} (h : Rd w p b o cap ts k) (hb : Below w.heap.size w w') : Rd w' p b o cap ts k :=
  ⟨(hb.cell (p := ⟨p, 0, none⟩) h.lt).trans h.row, (hb.cell (p := ⟨p, 1, none⟩) h.lt).trans h.nx, (hb.frozen (p := ⟨p, 1, none⟩) h.lt).trans h.fz, h.ta.later hb, h.ne, Nat.lt_of_lt_of_le h.lt hb.size⟩

/-- And that token is x. -/
structure Rn (w : World) (p b o cap : Nat) (ts : List Tok) (k : Nat) (x : Tok) : Prop where
  rd : Rd w p b o cap ts k
  hk : k < ts.length
  tk : ts.getD k tok0 = x
theorem Rn.later {w w' : World} {p b o cap : Nat} {ts : List Tok} {k : Nat} {x : Tok} (h : Rn w p b o cap ts k x) (hb : Below w.heap.size w w') : Rn w' p b o cap ts k x := ⟨h.rd.later hb, h.hk, h.tk⟩

theorem ret_bool {a b : Bool} (h : a = b) : Ending.returned (.bool a) = .returned (.bool b) := by rw [h]
theorem beq_dec (a b : List UInt8) : (a == b) = decide (a = b) := by
  by_cases e : a = b
  · subst e; simp
  · rw [decide_eq_false e]; simpa using e
theorem fldT (a0 a1 a2 a3 : Value) (w : World) : (Instr.field 88 (.agg #[a0, a1, a2, a3]) 1).run Try.prog w = .ok a1 w := by kernel_rfl
theorem fldA (a0 a1 a2 a3 : Value) (w : World) : (Instr.field 88 (.agg #[a0, a1, a2, a3]) 3).run Try.prog w = .ok a3 w := by kernel_rfl
/-- What is thrown. -/
def fltV (a e : Int) : Value := .agg #[.int .i64 a, .int .i64 e]
/-- The reader went on by one. -/
theorem Rd.step {w : World} {p b o cap : Nat} {ts : List Tok} {k : Nat} (h : Rd w p b o cap ts k) : Rd (w.setCell ⟨p, 1, none⟩ (.int .i64 ((k : Int) + 1))) p b o cap ts (k + 1) ∧ Mov p w (w.setCell ⟨p, 1, none⟩ (.int .i64 ((k : Int) + 1))) := by
  have m : Mov p w (w.setCell ⟨p, 1, none⟩ (.int .i64 ((k : Int) + 1))) :=
    ⟨rfl, rfl, rfl, by simp, fun i _ hi => heap_setCell_other w _ i _ hi, fun q _ hq => World.cell?_setCell_other _ _ _ _ (Ne.symm hq), fun q _ => by simp⟩
  refine ⟨⟨(m.cell _ h.lt (by simp)).trans h.row, World.cell?_setCell_same _ _ _ h.nx, (m.frozen _ h.lt).trans h.fz, h.ta.mov m h.ne, h.ne, Nat.lt_of_lt_of_le h.lt m.size⟩, m⟩
theorem Mov.set {p : Nat} {w w' : World} (h : Mov p w w') {a : Addr} (ha : w.heap.size ≤ a.block) (v : Value) : Mov p w (w'.setCell a v) :=
  ⟨h.os, h.tape, h.output, by simpa using h.size, fun i hi hp => (heap_setCell_other w' _ i _ (by omega)).trans (h.block i hi hp),
   fun q hq hp => (World.cell?_setCell_other _ _ _ _ (fun e => by subst e; omega)).trans (h.cell q hq hp), fun q hq => by rw [World.frozen?_setCell]; exact h.frozen q hq⟩
theorem Ta.set {w : World} {b o : Nat} {ts : List Tok} (h : Ta w b o ts) {a : Addr} (ha : a.block ≠ b) (v : Value) : Ta (w.setCell a v) b o ts := by
  have key : ∀ n, a ≠ (⟨b, n, none⟩ : Addr) := fun n e => ha (congrArg Addr.block e)
  exact ⟨by simpa using h.lt, fun j hj => (World.cell?_setCell_other _ _ _ _ (key _)).trans (h.c0 j hj), fun j hj => (World.cell?_setCell_other _ _ _ _ (key _)).trans (h.c1 j hj), fun j hj => (World.cell?_setCell_other _ _ _ _ (key _)).trans (h.c2 j hj), fun j hj => (World.cell?_setCell_other _ _ _ _ (key _)).trans (h.c3 j hj)⟩
theorem Rd.set {w : World} {p b o cap : Nat} {ts : List Tok} {k : Nat} (h : Rd w p b o cap ts k) {a : Addr} (hp : a.block ≠ p) (hb : a.block ≠ b) (v : Value) : Rd (w.setCell a v) p b o cap ts k := by
  have key : ∀ n, a ≠ (⟨p, n, none⟩ : Addr) := fun n e => hp (congrArg Addr.block e)
  exact ⟨(World.cell?_setCell_other _ _ _ _ (key _)).trans h.row, (World.cell?_setCell_other _ _ _ _ (key _)).trans h.nx, by rw [World.frozen?_setCell]; exact h.fz, h.ta.set hb v, h.ne, by simpa using h.lt⟩
end Go.Proofs.Ytobiedmmjiedlaa

namespace Go.Proofs.Ytobiedmmjiedlaa.Sx
open Go.RowKit

/-- An expression. -/
inductive Ex
  | mk (kind : Int) (name : List UInt8) (num : Int) (l : List Ex)
def bindsB (s : List UInt8) : Nat :=
  if s = [124, 124] then 1 else if s = [38, 38] then 2
  else if s = [61, 61] then 3 else if s = [33, 61] then 3 else if s = [60] then 3 else if s = [60, 61] then 3
  else if s = [43] then 4 else if s = [45] then 4
  else if s = [42] then 5 else if s = [47] then 5 else if s = [37] then 5 else 0
def isUn (s : List UInt8) : Bool := decide (s = [45]) || decide (s = [33])
def begE (t : Tok) : Bool := decide (t.1.kind = 2) || decide (t.1.kind = 1) || decide (t.1.text = [116, 114, 117, 101]) || decide (t.1.text = [102, 97, 108, 115, 101]) || decide (t.1.text = [40]) || isUn t.1.text
/-- What came of reading: an expression and the token behind it; or a place and an error. -/
inductive Rs
  | ok (x : Ex) (k : Nat)
  | bad (a e : Int)
def tx (ts : List Tok) (k : Nat) : List UInt8 := (ts.getD k tok0).1.text
def pl (ts : List Tok) (k : Nat) : Int := (ts.getD k tok0).2
/-- Behind what was read the text s must stand. -/
def shut (ts : List Tok) (s : List UInt8) (g : Ex → Ex) : Option Rs → Option Rs
  | some (.ok x k) => if tx ts k = s then some (.ok (g x) (k + 1)) else some (.bad (pl ts k) 30)
  | r => r
mutual
def un (ts : List Tok) : Nat → Nat → Nat → Option Rs
  | 0, _, _ => none
  | f + 1, d, k =>
    if begE (ts.getD k tok0) = false then some (.bad (pl ts k) 30)
    else if 60 < d then some (.bad (pl ts k) 31)
    else if (ts.getD k tok0).1.kind = 2 then some (.ok (.mk 1 [] (ts.getD k tok0).1.num []) (k + 1))
    else if (ts.getD k tok0).1.kind = 1 then
      (if tx ts (k + 1) = [91] then shut ts [93] (fun x => .mk 4 (tx ts k) 0 [x]) (bd ts f 1 (d + 1) (k + 2)) else some (.ok (.mk 3 (tx ts k) 0 []) (k + 1)))
    else if tx ts k = [116, 114, 117, 101] then some (.ok (.mk 2 [] 1 []) (k + 1))
    else if tx ts k = [102, 97, 108, 115, 101] then some (.ok (.mk 2 [] 0 []) (k + 1))
    else if tx ts k = [40] then shut ts [41] (fun x => x) (bd ts f 1 (d + 1) (k + 1))
    else match un ts f (d + 1) (k + 1) with
      | some (.ok x k') => some (.ok (.mk 5 (tx ts k) 0 [x]) k')
      | r => r
def bd (ts : List Tok) : Nat → Nat → Nat → Nat → Option Rs
  | 0, _, _, _ => none
  | f + 1, q, d, k =>
    if 5 < q then un ts f d k
    else match bd ts f (q + 1) d k with
      | some (.ok x k') => lp ts f q d x k'
      | r => r
def lp (ts : List Tok) : Nat → Nat → Nat → Ex → Nat → Option Rs
  | 0, _, _, _, _ => none
  | f + 1, q, d, x, k =>
    if bindsB (tx ts k) = q then
      match bd ts f (q + 1) d (k + 1) with
      | some (.ok y k') => if q = 3 then some (.ok (.mk 6 (tx ts k) 0 [x, y]) k') else lp ts f q d (.mk 6 (tx ts k) 0 [x, y]) k'
      | r => r
    else some (.ok x k)
end
end Go.Proofs.Ytobiedmmjiedlaa.Sx

namespace Go.Proofs.Ytobiedmmjiedlaa
open Go.RowKit

theorem text_t {a b : List UInt8} (h : a = b) : (a == b) = true := by subst h; simp
theorem text_f {a b : List UInt8} (h : ¬ a = b) : (a == b) = false := by simpa using h
end Go.Proofs.Ytobiedmmjiedlaa

namespace Go.Proofs.Ytobiedmmjiedlaa
open Go.RowKit

mutual
/-- The expressions of a list lie from place o of block g on. -/
inductive ExC (A : Nat → Prop) (w : World) : Nat → Nat → List Sx.Ex → Prop
  | nil (g o : Nat) : ExC A w g o []
  | cons (g o : Nat) (k : Int) (n : List UInt8) (m : Int) (sl : Value) (l r : List Sx.Ex) (c0 : w.cell? ⟨g, o, none⟩ = some (.int .i64 k)) (c1 : w.cell? ⟨g, o + 1, none⟩ = some (.string ⟨n.toArray⟩)) (c2 : w.cell? ⟨g, o + 2, none⟩ = some (.int .i64 m)) (c3 : w.cell? ⟨g, o + 3, none⟩ = some sl)
      (hs : ExS A w sl l) (hr : ExC A w g (o + 4) r) : ExC A w g o (.mk k n m l :: r)
/-- A slice of expressions, in blocks of A. -/
inductive ExS (A : Nat → Prop) (w : World) : Value → List Sx.Ex → Prop
  | nil (a : Option Addr) (cap : Nat) : ExS A w (.slice a 0 cap) []
  | some (g o cap len : Nat) (l : List Sx.Ex) (hl : len = l.length) (h0 : 0 < l.length) (hc : l.length ≤ cap) (ha : A g) (hg : g < w.heap.size) (h : ExC A w g o l) : ExS A w (.slice (some ⟨g, o, none⟩) len cap) l
end
theorem ExS.keep {A A' : Nat → Prop} {w w' : World} (hA : ∀ g, g < w.heap.size → A g → A' g) (hc : ∀ q : Addr, A q.block → q.block < w.heap.size → w'.cell? q = w.cell? q) (hz : w.heap.size ≤ w'.heap.size) {sl : Value} {l : List Sx.Ex} (h : ExS A w sl l) : ExS A' w' sl l := by
  refine ExS.rec (motive_1 := fun g o l _ => A g → g < w.heap.size → ExC A' w' g o l) (motive_2 := fun sl l _ => ExS A' w' sl l) ?_ ?_ ?_ ?_ h
  · exact fun g o _ _ => .nil g o
  · intro g o k n m' sl l r c0 c1 c2 c3 _ _ ih1 ih2 ha hg
    exact .cons g o k n m' sl l r ((hc _ ha hg).trans c0) ((hc _ ha hg).trans c1) ((hc _ ha hg).trans c2) ((hc _ ha hg).trans c3) ih1 (ih2 ha hg)
  · exact fun a cap => .nil a cap
  · intro g o cap len l hl h0 hc' ha hg _ ih
    exact .some g o cap len l hl h0 hc' (hA g hg ha) (Nat.lt_of_lt_of_le hg hz) (ih ha hg)
theorem ExS.mov {A : Nat → Prop} {p : Nat} {w w' : World} {sl : Value} {l : List Sx.Ex} (h : ExS A w sl l) (m : Mov p w w') (hp : ¬ A p) : ExS A w' sl l :=
  h.keep (fun _ _ a => a) (fun q ha hq => m.cell q hq (fun e => hp (by rw [e] at ha; exact ha))) m.size
theorem ExS.later {A : Nat → Prop} {n : Nat} {w w' : World} {sl : Value} {l : List Sx.Ex} (h : ExS A w sl l) (m : Below n w w') (hn : w.heap.size ≤ n) : ExS A w' sl l :=
  h.keep (fun _ _ a => a) (fun _ _ hq => m.cell (Nat.lt_of_lt_of_le hq hn)) m.size
theorem ExS.set {A : Nat → Prop} {w : World} {sl : Value} {l : List Sx.Ex} (h : ExS A w sl l) {a : Addr} (ha : ¬ A a.block) (v : Value) : ExS A (w.setCell a v) sl l :=
  h.keep (fun _ _ x => x) (fun _ hA _ => World.cell?_setCell_other _ _ _ _ (fun e => ha (by rw [e]; exact hA))) (by simp)
theorem ExS.mono {A A' : Nat → Prop} {w : World} {sl : Value} {l : List Sx.Ex} (h : ExS A w sl l) (hA : ∀ g, g < w.heap.size → A g → A' g) : ExS A' w sl l :=
  h.keep hA (fun _ _ _ => rfl) (Nat.le_refl _)
theorem ExS.form {A : Nat → Prop} {w : World} {sl : Value} {l : List Sx.Ex} (h : ExS A w sl l) : ∃ a n c, sl = .slice a n c := by
  cases h with
  | nil a cap => exact ⟨_, _, _, rfl⟩
  | some g o cap len l hl h0 hc ha hg h => exact ⟨_, _, _, rfl⟩
theorem ExS.one {A : Nat → Prop} {w : World} {sl : Value} {l : List Sx.Ex} (h : ExS A w sl l) (hA : A w.heap.size) (k : Int) (n : List UInt8) (m : Int) (t : TypeId) :
    ExS A (w.alloc (.cells #[.int .i64 k, .string ⟨n.toArray⟩, .int .i64 m, sl] t)) (.slice (Option.some ⟨w.heap.size, 0, Option.none⟩) 1 1) [.mk k n m l] :=
  .some _ _ _ _ _ rfl (by simp) (by simp) hA (by simp) (.cons _ _ _ _ _ _ _ _ (by simp [go_sem]) (by simp [go_sem]) (by simp [go_sem]) (by simp [go_sem]) (h.later (box_below _ _) (Nat.le_refl _)) (.nil _ _))
theorem ExS.two {A : Nat → Prop} {w : World} {sl sl' : Value} {l l' : List Sx.Ex} (h : ExS A w sl l) (h' : ExS A w sl' l') (hA : A w.heap.size) (k k' : Int) (n n' : List UInt8) (m m' : Int) (t : TypeId) :
    ExS A (w.alloc (.cells #[.int .i64 k, .string ⟨n.toArray⟩, .int .i64 m, sl, .int .i64 k', .string ⟨n'.toArray⟩, .int .i64 m', sl'] t)) (.slice (Option.some ⟨w.heap.size, 0, Option.none⟩) 2 2) [.mk k n m l, .mk k' n' m' l'] :=
  .some _ _ _ _ _ rfl (by simp) (by simp) hA (by simp) (.cons _ _ _ _ _ _ _ _ (by simp [go_sem]) (by simp [go_sem]) (by simp [go_sem]) (by simp [go_sem]) (h.later (box_below _ _) (Nat.le_refl _)) (.cons _ _ _ _ _ _ _ _ (by simp [go_sem]) (by simp [go_sem]) (by simp [go_sem]) (by simp [go_sem]) (h'.later (box_below _ _) (Nat.le_refl _)) (.nil _ _)))
/-- The value v is the expression x. -/
def IsEx (A : Nat → Prop) (w : World) (v : Value) : Sx.Ex → Prop
  | .mk k n m l => ∃ sl, v = .agg #[.int .i64 k, .string ⟨n.toArray⟩, .int .i64 m, sl] ∧ ExS A w sl l
/-- A box of four cells. -/
structure Bx (w : World) (g : Nat) (a0 a1 a2 a3 : Value) : Prop where
  c0 : w.cell? ⟨g, 0, none⟩ = some a0
  c1 : w.cell? ⟨g, 1, none⟩ = some a1
  c2 : w.cell? ⟨g, 2, none⟩ = some a2
  c3 : w.cell? ⟨g, 3, none⟩ = some a3
  f0 : w.frozen? ⟨g, 0, none⟩ = false
  f1 : w.frozen? ⟨g, 1, none⟩ = false
  f2 : w.frozen? ⟨g, 2, none⟩ = false
  f3 : w.frozen? ⟨g, 3, none⟩ = false
  lt : g < w.heap.size
theorem Bx.later {w w' : World} {g n : Nat} {a0 a1 a2 a3 : Value} (h : Bx w g a0 a1 a2 a3) (b : Below n w w') (hn : g < n) : Bx w' g a0 a1 a2 a3 :=
  ⟨(b.cell (p := ⟨g, 0, none⟩) hn).trans h.c0, (b.cell (p := ⟨g, 1, none⟩) hn).trans h.c1, (b.cell (p := ⟨g, 2, none⟩) hn).trans h.c2, (b.cell (p := ⟨g, 3, none⟩) hn).trans h.c3,
   (b.frozen (p := ⟨g, 0, none⟩) hn).trans h.f0, (b.frozen (p := ⟨g, 1, none⟩) hn).trans h.f1, (b.frozen (p := ⟨g, 2, none⟩) hn).trans h.f2, (b.frozen (p := ⟨g, 3, none⟩) hn).trans h.f3, Nat.lt_of_lt_of_le h.lt b.size⟩
theorem Bx.mov {w w' : World} {p g : Nat} {a0 a1 a2 a3 : Value} (h : Bx w g a0 a1 a2 a3) (m : Mov p w w') (hp : g ≠ p) : Bx w' g a0 a1 a2 a3 := by
  have key : ∀ n, (⟨g, n, none⟩ : Addr) ≠ ⟨p, 1, none⟩ := fun n e => hp (congrArg Addr.block e)
  exact ⟨(m.cell _ h.lt (key 0)).trans h.c0, (m.cell _ h.lt (key 1)).trans h.c1, (m.cell _ h.lt (key 2)).trans h.c2, (m.cell _ h.lt (key 3)).trans h.c3,
   (m.frozen _ h.lt).trans h.f0, (m.frozen _ h.lt).trans h.f1, (m.frozen _ h.lt).trans h.f2, (m.frozen _ h.lt).trans h.f3, Nat.lt_of_lt_of_le h.lt m.size⟩
theorem Bx.new (w : World) (t : TypeId) (a0 a1 a2 a3 : Value) : Bx (w.alloc (.cells #[a0, a1, a2, a3] t)) w.heap.size a0 a1 a2 a3 :=
  ⟨by simp [go_sem], by simp [go_sem], by simp [go_sem], by simp [go_sem], World.frozen?_alloc_at _ _ _ _ rfl, World.frozen?_alloc_at _ _ _ _ rfl, World.frozen?_alloc_at _ _ _ _ rfl, World.frozen?_alloc_at _ _ _ _ rfl, by simp⟩
/-- A box is filled anew. -/
def fill (w : World) (g : Nat) (a0 a1 a2 a3 : Value) : World := (((w.setCell ⟨g, 0, none⟩ a0).setCell ⟨g, 1, none⟩ a1).setCell ⟨g, 2, none⟩ a2).setCell ⟨g, 3, none⟩ a3
theorem Bx.fill {w : World} {g : Nat} {a0 a1 a2 a3 : Value} (h : Bx w g a0 a1 a2 a3) (b0 b1 b2 b3 : Value) : Bx (fill w g b0 b1 b2 b3) g b0 b1 b2 b3 := by
  unfold Go.Proofs.Ytobiedmmjiedlaa.fill
  refine ⟨?_, ?_, ?_, ?_, ?_, ?_, ?_, ?_, ?_⟩
  all_goals simp [h.c0, h.c1, h.c2, h.c3, h.f0, h.f1, h.f2, h.f3, h.lt, go_sem]
theorem Bx.set {w : World} {g : Nat} {a0 a1 a2 a3 : Value} (h : Bx w g a0 a1 a2 a3) {a : Addr} (ha : a.block ≠ g) (v : Value) : Bx (w.setCell a v) g a0 a1 a2 a3 := by
  have key : ∀ n, a ≠ (⟨g, n, none⟩ : Addr) := fun n e => ha (congrArg Addr.block e)
  exact ⟨(World.cell?_setCell_other _ _ _ _ (key 0)).trans h.c0, (World.cell?_setCell_other _ _ _ _ (key 1)).trans h.c1, (World.cell?_setCell_other _ _ _ _ (key 2)).trans h.c2, (World.cell?_setCell_other _ _ _ _ (key 3)).trans h.c3,
   by rw [World.frozen?_setCell]; exact h.f0, by rw [World.frozen?_setCell]; exact h.f1, by rw [World.frozen?_setCell]; exact h.f2, by rw [World.frozen?_setCell]; exact h.f3, by simpa using h.lt⟩
theorem Mov.fill {p : Nat} {w w' : World} (h : Mov p w w') {g : Nat} (hg : w.heap.size ≤ g) (b0 b1 b2 b3 : Value) : Mov p w (fill w' g b0 b1 b2 b3) := (((h.set (a := ⟨g, 0, none⟩) hg _).set (a := ⟨g, 1, none⟩) hg _).set (a := ⟨g, 2, none⟩) hg _).set (a := ⟨g, 3, none⟩) hg _
theorem Rd.fill {w : World} {p b o cap : Nat} {ts : List Tok} {k : Nat} (h : Rd w p b o cap ts k) {g : Nat} (hp : g ≠ p) (hb : g ≠ b) (b0 b1 b2 b3 : Value) : Rd (fill w g b0 b1 b2 b3) p b o cap ts k := (((h.set (a := ⟨g, 0, none⟩) hp hb _).set (a := ⟨g, 1, none⟩) hp hb _).set (a := ⟨g, 2, none⟩) hp hb _).set (a := ⟨g, 3, none⟩) hp hb _
theorem Bx.filled {w : World} {g g' : Nat} {a0 a1 a2 a3 : Value} (h : Bx w g a0 a1 a2 a3) (hg : g' ≠ g) (b0 b1 b2 b3 : Value) : Bx (Go.Proofs.Ytobiedmmjiedlaa.fill w g' b0 b1 b2 b3) g a0 a1 a2 a3 := (((h.set (a := ⟨g', 0, none⟩) hg _).set (a := ⟨g', 1, none⟩) hg _).set (a := ⟨g', 2, none⟩) hg _).set (a := ⟨g', 3, none⟩) hg _
theorem ExS.fill {A : Nat → Prop} {w : World} {sl : Value} {l : List Sx.Ex} (h : ExS A w sl l) {g : Nat} (ha : ¬ A g) (b0 b1 b2 b3 : Value) : ExS A (fill w g b0 b1 b2 b3) sl l := (((h.set (a := ⟨g, 0, none⟩) ha _).set (a := ⟨g, 1, none⟩) ha _).set (a := ⟨g, 2, none⟩) ha _).set (a := ⟨g, 3, none⟩) ha _
theorem fill_size (w : World) (g : Nat) (b0 b1 b2 b3 : Value) : (fill w g b0 b1 b2 b3).heap.size = w.heap.size := by simp [fill]
theorem ExS.one' {A : Nat → Prop} {w : World} {sl : Value} {l : List Sx.Ex} (h : ExS A w sl l) (hA : A w.heap.size) {g : Nat} (hg : ¬ A g) (b0 b1 b2 b3 : Value) (k : Int) (n : List UInt8) (m : Int) (t : TypeId) :
    ExS A ((Go.Proofs.Ytobiedmmjiedlaa.fill w g b0 b1 b2 b3).alloc (.cells #[.int .i64 k, .string ⟨n.toArray⟩, .int .i64 m, sl] t)) (.slice (Option.some ⟨w.heap.size, 0, Option.none⟩) 1 1) [.mk k n m l] := by
  have e := (h.fill hg b0 b1 b2 b3).one (by rw [fill_size]; exact hA) k n m t
  rw [fill_size] at e
  exact e
theorem ExS.two' {A : Nat → Prop} {w : World} {sl sl' : Value} {l l' : List Sx.Ex} (h : ExS A w sl l) (h' : ExS A w sl' l') (hA : A w.heap.size) {g : Nat} (hg : ¬ A g) (b0 b1 b2 b3 : Value) (k k' : Int) (n n' : List UInt8) (m m' : Int) (t : TypeId) :
    ExS A ((Go.Proofs.Ytobiedmmjiedlaa.fill w g b0 b1 b2 b3).alloc (.cells #[.int .i64 k, .string ⟨n.toArray⟩, .int .i64 m, sl, .int .i64 k', .string ⟨n'.toArray⟩, .int .i64 m', sl'] t)) (.slice (Option.some ⟨w.heap.size, 0, Option.none⟩) 2 2) [.mk k n m l, .mk k' n' m' l'] := by
  have e := (h.fill hg b0 b1 b2 b3).two (h'.fill hg b0 b1 b2 b3) (by rw [fill_size]; exact hA) k k' n n' m m' t
  rw [fill_size] at e
  exact e
/-- Tokens that may be read: the last one is the end, and no other. -/
structure Good (ts : List Tok) : Prop where
  pos : 0 < ts.length
  len : ts.length ≤ 1000000
  last : (ts.getD (ts.length - 1) tok0).1 = ⟨0, [], 0⟩
theorem Good.next {ts : List Tok} (h : Good ts) {k : Nat} (hk : k < ts.length) (hn : ¬ (ts.getD k tok0).1 = ⟨0, [], 0⟩) : k + 1 < ts.length := by
  by_cases e : k = ts.length - 1
  · exact absurd (by rw [e]; exact h.last) hn
  · have := h.pos; omega
/-- A call that panics, where the tactic for regions wants a way on: the way on is shut (False). -/
theorem shutWay {P : Program} {n : FuncId} {args : Array Value} {w : World} {R C : Ending → World → Prop} (hc : Calls P n args w C) (hp : ∀ e w', C e w' → R e w') (v : Value) (_hf : Hid (∀ q : Prop, q) → R (.returned v) w) : Calls P n args w R := hc.mono hp
theorem Mov.below {p : Nat} {w W w' : World} (m : Mov p w W) (b : Below W.heap.size W w') : Mov p w w' := m.trans (.of_below b)
end Go.Proofs.Ytobiedmmjiedlaa

namespace Go.Proofs.Ytobiedmmjiedlaa
open Go.RowKit

namespace Sy
/-- A statement. -/
inductive St
  | mk (kind : Int) (name proc : List UInt8) (num : Int) (e : List Sx.Ex) (body els : List St)
/-- A parameter. -/
structure Pa where
  name : List UInt8
  type : Int
/-- A procedure. -/
structure Pc where
  name : List UInt8
  params : List Pa
  type : Int
  body : List St
/-- An induction over statements. -/
theorem ind {P : St → Prop} (h : ∀ k n p m e b l, (∀ x, x ∈ b → P x) → (∀ x, x ∈ l → P x) → P (.mk k n p m e b l)) (x : St) : P x :=
  St.rec (motive_1 := P) (motive_2 := fun l => ∀ x, x ∈ l → P x) (fun k n p m e b l hb hl => h k n p m e b l hb hl) (fun _ hx => by cases hx) (fun a l ha hl x hx => by
    rcases List.mem_cons.1 hx with rfl | hx
    · exact ha
    · exact hl x hx) x
end Sy
mutual
/-- The statements of a list lie from place o of block g on. -/
inductive SmC (A : Nat → Prop) (w : World) : Nat → Nat → List Sy.St → Prop
  | nil (g o : Nat) : SmC A w g o []
  | cons (g o : Nat) (k : Int) (n p : List UInt8) (m : Int) (se sb sl : Value) (e : List Sx.Ex) (b l r : List Sy.St) (c0 : w.cell? ⟨g, o, none⟩ = some (.int .i64 k)) (c1 : w.cell? ⟨g, o + 1, none⟩ = some (.string ⟨n.toArray⟩)) (c2 : w.cell? ⟨g, o + 2, none⟩ = some (.string ⟨p.toArray⟩)) (c3 : w.cell? ⟨g, o + 3, none⟩ = some (.int .i64 m)) (c4 : w.cell? ⟨g, o + 4, none⟩ = some se) (c5 : w.cell? ⟨g, o + 5, none⟩ = some sb) (c6 : w.cell? ⟨g, o + 6, none⟩ = some sl)
      (he : ExS A w se e) (hb : SmS A w sb b) (hl : SmS A w sl l) (hr : SmC A w g (o + 7) r) : SmC A w g o (.mk k n p m e b l :: r)
/-- A slice of statements, in blocks of A. -/
inductive SmS (A : Nat → Prop) (w : World) : Value → List Sy.St → Prop
  | nil (a : Option Addr) (cap : Nat) : SmS A w (.slice a 0 cap) []
  | some (g o cap len : Nat) (l : List Sy.St) (hl : len = l.length) (h0 : 0 < l.length) (hc : l.length ≤ cap) (ha : A g) (hg : g < w.heap.size) (h : SmC A w g o l) : SmS A w (.slice (some ⟨g, o, none⟩) len cap) l
end
theorem SmS.keep {A A' : Nat → Prop} {w w' : World} (hA : ∀ g, g < w.heap.size → A g → A' g) (hc : ∀ q : Addr, A q.block → q.block < w.heap.size → w'.cell? q = w.cell? q) (hz : w.heap.size ≤ w'.heap.size) {sl : Value} {l : List Sy.St} (h : SmS A w sl l) : SmS A' w' sl l := by
  refine SmS.rec (motive_1 := fun g o l _ => A g → g < w.heap.size → SmC A' w' g o l) (motive_2 := fun sl l _ => SmS A' w' sl l) ?_ ?_ ?_ ?_ h
  · exact fun g o _ _ => .nil g o
  · intro g o k n p m' se sb sl e b l r c0 c1 c2 c3 c4 c5 c6 he _ _ _ ihb ihl ihr ha hg
    exact .cons g o k n p m' se sb sl e b l r ((hc _ ha hg).trans c0) ((hc _ ha hg).trans c1) ((hc _ ha hg).trans c2) ((hc _ ha hg).trans c3) ((hc _ ha hg).trans c4) ((hc _ ha hg).trans c5) ((hc _ ha hg).trans c6) (he.keep hA hc hz) ihb ihl (ihr ha hg)
  · exact fun a cap => .nil a cap
  · intro g o cap len l hl h0 hc' ha hg _ ih
    exact .some g o cap len l hl h0 hc' (hA g hg ha) (Nat.lt_of_lt_of_le hg hz) (ih ha hg)
theorem SmS.later {A : Nat → Prop} {n : Nat} {w w' : World} {sl : Value} {l : List Sy.St} (h : SmS A w sl l) (m : Below n w w') (hn : w.heap.size ≤ n) : SmS A w' sl l :=
  h.keep (fun _ _ a => a) (fun _ _ hq => m.cell (Nat.lt_of_lt_of_le hq hn)) m.size
theorem SmS.mono {A A' : Nat → Prop} {w : World} {sl : Value} {l : List Sy.St} (h : SmS A w sl l) (hA : ∀ g, g < w.heap.size → A g → A' g) : SmS A' w sl l :=
  h.keep hA (fun _ _ _ => rfl) (Nat.le_refl _)
theorem SmS.len {A : Nat → Prop} {w : World} {a : Option Addr} {n c : Nat} {l : List Sy.St} (h : SmS A w (.slice a n c) l) : n = l.length := by
  cases h with
  | nil a cap => rfl
  | some g o cap len l hl h0 hc ha hg h => exact hl
theorem SmS.form {A : Nat → Prop} {w : World} {sl : Value} {l : List Sy.St} (h : SmS A w sl l) : ∃ a c, sl = .slice a l.length c := by
  cases h with
  | nil a cap => exact ⟨_, _, rfl⟩
  | some g o cap len l hl h0 hc ha hg h => exact ⟨_, _, by rw [hl]⟩
/-- The fields of a statement, as they lie from a place on. -/
structure SmAt (A : Nat → Prop) (w : World) (g o : Nat) (k : Int) (n p : List UInt8) (m : Int) (sa : Option Addr) (sc : Nat) (ba : Option Addr) (bc : Nat) (la : Option Addr) (lc : Nat) (e : List Sx.Ex) (b l : List Sy.St) : Prop where
  c0 : w.cell? ⟨g, o, none⟩ = some (.int .i64 k)
  c1 : w.cell? ⟨g, o + 1, none⟩ = some (.string ⟨n.toArray⟩)
  c2 : w.cell? ⟨g, o + 2, none⟩ = some (.string ⟨p.toArray⟩)
  c3 : w.cell? ⟨g, o + 3, none⟩ = some (.int .i64 m)
  c4 : w.cell? ⟨g, o + 4, none⟩ = some (.slice sa e.length sc)
  c5 : w.cell? ⟨g, o + 5, none⟩ = some (.slice ba b.length bc)
  c6 : w.cell? ⟨g, o + 6, none⟩ = some (.slice la l.length lc)
  he : ExS A w (.slice sa e.length sc) e
  hb : SmS A w (.slice ba b.length bc) b
  hl : SmS A w (.slice la l.length lc) l
theorem ExS.form2 {A : Nat → Prop} {w : World} {sl : Value} {l : List Sx.Ex} (h : ExS A w sl l) : ∃ a c, sl = .slice a l.length c := by
  cases h with
  | nil a cap => exact ⟨_, _, rfl⟩
  | some g o cap len l hl h0 hc ha hg h => exact ⟨_, _, by rw [hl]⟩
theorem SmC.get {A : Nat → Prop} {w : World} {g : Nat} : ∀ {l : List Sy.St} {o : Nat}, SmC A w g o l → ∀ j, j < l.length → ∃ k n p m sa sc ba bc la lc e b ll, l[j]? = Option.some (.mk k n p m e b ll) ∧ SmAt A w g (o + j * 7) k n p m sa sc ba bc la lc e b ll
  | [], o, _, j, hj => absurd hj (Nat.not_lt_zero j)
  | s :: r, o, h, j, hj => by
    cases h with
    | cons _ _ k n p m se sb sl e b l _ c0 c1 c2 c3 c4 c5 c6 he hb hl hr =>
      cases j with
      | zero =>
        obtain ⟨sa, sc, rfl⟩ := he.form2
        obtain ⟨ba, bc, rfl⟩ := hb.form
        obtain ⟨la, lc, rfl⟩ := hl.form
        refine ⟨k, n, p, m, sa, sc, ba, bc, la, lc, e, b, l, rfl, ?_⟩
        rw [Nat.zero_mul, Nat.add_zero]
        exact ⟨c0, c1, c2, c3, c4, c5, c6, he, hb, hl⟩
      | succ j =>
        obtain ⟨k, n, p, m, sa, sc, ba, bc, la, lc, e, b, ll, e1, h1⟩ := SmC.get hr j (by simpa using hj)
        refine ⟨k, n, p, m, sa, sc, ba, bc, la, lc, e, b, ll, by simpa using e1, ?_⟩
        have q : o + (j + 1) * 7 = o + 7 + j * 7 := by omega
        rw [q]
        exact h1
theorem SmC.of_cells {A : Nat → Prop} {w : World} {g : Nat} : ∀ (ys : List Sy.St) (o : Nat), (∀ q, q < ys.length → ∃ k n p m sa sc ba bc la lc e b ll, ys[q]? = Option.some (.mk k n p m e b ll) ∧ SmAt A w g (o + q * 7) k n p m sa sc ba bc la lc e b ll) → SmC A w g o ys
  | [], o, _ => .nil g o
  | y :: r, o, h => by
    obtain ⟨k, n, p, m, sa, sc, ba, bc, la, lc, e, b, ll, e1, h1⟩ := h 0 (by simp)
    have ey : y = .mk k n p m e b ll := by simpa using e1
    subst ey
    rw [Nat.zero_mul, Nat.add_zero] at h1
    refine .cons g o k n p m _ _ _ e b ll r h1.c0 h1.c1 h1.c2 h1.c3 h1.c4 h1.c5 h1.c6 h1.he h1.hb h1.hl (SmC.of_cells r (o + 7) fun q hq => ?_)
    obtain ⟨k, n, p, m, sa, sc, ba, bc, la, lc, e, b, ll, e2, h2⟩ := h (q + 1) (by simp; omega)
    have q7 : o + (q + 1) * 7 = o + 7 + q * 7 := by omega
    rw [q7] at h2
    exact ⟨k, n, p, m, sa, sc, ba, bc, la, lc, e, b, ll, by simpa using e2, h2⟩
/-- The parts of a block, as they lie. -/
theorem SmS.part {A : Nat → Prop} {w : World} {sa : Option Addr} {sn sc : Nat} {l : List Sy.St} (h : SmS A w (.slice sa sn sc) l) (j : Nat) (hj : j < l.length) : ∃ g o k n p m ea ec ba bc la lc e b ll, sa = Option.some ⟨g, o, Option.none⟩ ∧ A g ∧ g < w.heap.size ∧ l[j]? = Option.some (.mk k n p m e b ll) ∧ SmAt A w g (o + j * 7) k n p m ea ec ba bc la lc e b ll := by
  cases h with
  | nil a cap => exact absurd hj (Nat.not_lt_zero j)
  | some g o cap len l hl h0 hc ha hg h =>
    obtain ⟨k, n, p, m, sa, sc, ba, bc, la, lc, e, b, ll, e1, h1⟩ := h.get j hj
    exact ⟨g, o, k, n, p, m, sa, sc, ba, bc, la, lc, e, b, ll, rfl, ha, hg, e1, h1⟩
/-- A slice of parameters. -/
def PaS (A : Nat → Prop) (w : World) (v : Value) (l : List Sy.Pa) : Prop := ∃ a c, v = .slice a l.length c ∧ (0 < l.length → ∃ g o, a = some ⟨g, o, none⟩ ∧ A g ∧ g < w.heap.size ∧ ∀ j, j < l.length → ∃ x, l[j]? = some x ∧ w.cell? ⟨g, o + j * 2, none⟩ = some (.string ⟨(Sy.Pa.name x).toArray⟩) ∧ w.cell? ⟨g, o + j * 2 + 1, none⟩ = some (.int .i64 x.type))
theorem PaS.keep {A A' : Nat → Prop} {w w' : World} (hA : ∀ g, g < w.heap.size → A g → A' g) (hc : ∀ q : Addr, A q.block → q.block < w.heap.size → w'.cell? q = w.cell? q) (hz : w.heap.size ≤ w'.heap.size) {v : Value} {l : List Sy.Pa} (h : PaS A w v l) : PaS A' w' v l := by
  obtain ⟨a, c, e, h⟩ := h
  refine ⟨a, c, e, fun h0 => ?_⟩
  obtain ⟨g, o, ea, ha, hg, h⟩ := h h0
  refine ⟨g, o, ea, hA g hg ha, Nat.lt_of_lt_of_le hg hz, fun j hj => ?_⟩
  obtain ⟨x, e1, e2, e3⟩ := h j hj
  exact ⟨x, e1, (hc _ ha hg).trans e2, (hc _ ha hg).trans e3⟩
/-- A procedure's fields, as they lie from a place on. -/
structure PcAt (A : Nat → Prop) (w : World) (g o : Nat) (x : Sy.Pc) (pa : Option Addr) (pc : Nat) (ba : Option Addr) (bc : Nat) : Prop where
  c0 : w.cell? ⟨g, o, none⟩ = some (.string ⟨x.name.toArray⟩)
  c1 : w.cell? ⟨g, o + 1, none⟩ = some (.slice pa x.params.length pc)
  c2 : w.cell? ⟨g, o + 2, none⟩ = some (.int .i64 x.type)
  c3 : w.cell? ⟨g, o + 3, none⟩ = some (.slice ba x.body.length bc)
  hp : PaS A w (.slice pa x.params.length pc) x.params
  hb : SmS A w (.slice ba x.body.length bc) x.body
theorem PcAt.keep {A A' : Nat → Prop} {w w' : World} (hA : ∀ g, g < w.heap.size → A g → A' g) (hc : ∀ q : Addr, A q.block → q.block < w.heap.size → w'.cell? q = w.cell? q) (hz : w.heap.size ≤ w'.heap.size) {g o : Nat} {x : Sy.Pc} {pa : Option Addr} {pc : Nat} {ba : Option Addr} {bc : Nat} (ha : A g) (hg : g < w.heap.size) (h : PcAt A w g o x pa pc ba bc) : PcAt A' w' g o x pa pc ba bc :=
  ⟨(hc _ ha hg).trans h.c0, (hc _ ha hg).trans h.c1, (hc _ ha hg).trans h.c2, (hc _ ha hg).trans h.c3, h.hp.keep hA hc hz, h.hb.keep hA hc hz⟩
/-- A slice of procedures. -/
def PcS (A : Nat → Prop) (w : World) (v : Value) (l : List Sy.Pc) : Prop := ∃ a c, v = .slice a l.length c ∧ (0 < l.length → ∃ g o, a = some ⟨g, o, none⟩ ∧ A g ∧ g < w.heap.size ∧ ∀ j, j < l.length → ∃ x pa pc ba bc, l[j]? = some x ∧ PcAt A w g (o + j * 4) x pa pc ba bc)
theorem PcS.keep {A A' : Nat → Prop} {w w' : World} (hA : ∀ g, g < w.heap.size → A g → A' g) (hc : ∀ q : Addr, A q.block → q.block < w.heap.size → w'.cell? q = w.cell? q) (hz : w.heap.size ≤ w'.heap.size) {v : Value} {l : List Sy.Pc} (h : PcS A w v l) : PcS A' w' v l := by
  obtain ⟨a, c, e, h⟩ := h
  refine ⟨a, c, e, fun h0 => ?_⟩
  obtain ⟨g, o, ea, ha, hg, h⟩ := h h0
  refine ⟨g, o, ea, hA g hg ha, Nat.lt_of_lt_of_le hg hz, fun j hj => ?_⟩
  obtain ⟨x, pa, pc, ba, bc, e1, e2⟩ := h j hj
  exact ⟨x, pa, pc, ba, bc, e1, e2.keep hA hc hz ha hg⟩
theorem PcS.later {A : Nat → Prop} {n : Nat} {w w' : World} {v : Value} {l : List Sy.Pc} (h : PcS A w v l) (m : Below n w w') (hn : w.heap.size ≤ n) : PcS A w' v l :=
  h.keep (fun _ _ a => a) (fun _ _ hq => m.cell (Nat.lt_of_lt_of_le hq hn)) m.size
theorem PaS.later {A : Nat → Prop} {n : Nat} {w w' : World} {v : Value} {l : List Sy.Pa} (h : PaS A w v l) (m : Below n w w') (hn : w.heap.size ≤ n) : PaS A w' v l :=
  h.keep (fun _ _ a => a) (fun _ _ hq => m.cell (Nat.lt_of_lt_of_le hq hn)) m.size
end Go.Proofs.Ytobiedmmjiedlaa

namespace Go.Proofs.Ytobiedmmjiedlaa.Fo
open Go.RowKit Sx

/-- An induction over expressions. -/
theorem ind {P : Ex → Prop} (h : ∀ k n m l, (∀ x, x ∈ l → P x) → P (.mk k n m l)) (x : Ex) : P x :=
  Ex.rec (motive_1 := P) (motive_2 := fun l => ∀ x, x ∈ l → P x) (fun k n m l ih => h k n m l ih) (fun _ hx => by cases hx) (fun a l ha hl x hx => by
    rcases List.mem_cons.1 hx with rfl | hx
    · exact ha
    · exact hl x hx) x
def isRe (s : List UInt8) : Bool := decide (s = [43]) || decide (s = [45]) || decide (s = [42]) || decide (s = [47]) || decide (s = [37])
def isTe (s : List UInt8) : Bool := decide (s = [61, 61]) || decide (s = [33, 61]) || decide (s = [60]) || decide (s = [60, 61]) || decide (s = [38, 38]) || decide (s = [124, 124])
def built (k : Int) (n : List UInt8) (c : Nat) : Bool :=
  if k = 1 then decide (c = 0) else if k = 2 then decide (c = 0) else if k = 3 then decide (c = 0)
  else if k = 4 then decide (c = 1)
  else if k = 5 then decide (c = 1) && isUn n
  else if k = 6 then decide (c = 2) && (isRe n || isTe n)
  else false
def bI (b : Bool) : Int := if b then 1 else 0
/-- Two numbers with a sign between. -/
def re (a : Int) (s : List UInt8) (b : Int) : Int × Int :=
  if s = [43] then (wrap64 (a + b), 0) else if s = [45] then (wrap64 (a - b), 0) else if s = [42] then (wrap64 (a * b), 0)
  else if s = [47] then (if b = 0 then (0, 1) else (Pl.quot a b, 0))
  else if s = [37] then (if b = 0 then (0, 1) else (Pl.rest a b, 0))
  else if s = [60] then (bI (decide (a < b)), 0) else if s = [60, 61] then (bI (decide (a ≤ b)), 0)
  else if s = [61, 61] then (bI (decide (a = b)), 0) else if s = [33, 61] then (bI (decide (¬ a = b)), 0)
  else (bI (decide (¬ b = 0)), 0)
/-- What an expression is worth, and its trap; T: names' numbers and lists. -/
def wo (T : List UInt8 → Int × List Int) : Ex → Int × Int
  | .mk k n m l =>
    if built k n l.length = false then (0, 0)
    else if k = 1 then (m, 0)
    else if k = 2 then (bI (decide (m = 1)), 0)
    else if k = 3 then ((T n).1, 0)
    else match l with
      | [] => (0, 0)
      | [a] => if ¬ (wo T a).2 = 0 then (0, (wo T a).2)
        else if k = 4 then (if 0 ≤ (wo T a).1 ∧ (wo T a).1 < ((T n).2.length : Int) then ((T n).2.getD (wo T a).1.toNat 0, 0) else (0, 2))
        else if n = [33] then (bI (decide ((wo T a).1 = 0)), 0) else (wrap64 (-(wo T a).1), 0)
      | a :: b :: _ => if ¬ (wo T a).2 = 0 then (0, (wo T a).2)
        else if (n = [38, 38] ∧ (wo T a).1 = 0) ∨ (n = [124, 124] ∧ ¬ (wo T a).1 = 0) then (bI (decide (¬ (wo T a).1 = 0)), 0)
        else if ¬ (wo T b).2 = 0 then (0, (wo T b).2) else re (wo T a).1 n (wo T b).1
theorem wo_no {T : List UInt8 → Int × List Int} {k : Int} {n : List UInt8} {m : Int} {l : List Ex} (h : built k n l.length = false) : wo T (.mk k n m l) = (0, 0) := by
  match l, h with
  | [], h => rw [wo, if_pos h]
  | [a], h => rw [wo, if_pos h]
  | a :: b :: r, h => rw [wo, if_pos h]
theorem wo_int {T : List UInt8 → Int × List Int} {n : List UInt8} {m : Int} {l : List Ex} (h : ¬ built 1 n l.length = false) : wo T (.mk 1 n m l) = (m, 0) := by
  match l, h with
  | [], h => rw [wo, if_neg h, if_pos rfl]
  | [a], h => rw [wo, if_neg h, if_pos rfl]
  | a :: b :: r, h => rw [wo, if_neg h, if_pos rfl]
theorem wo_bool {T : List UInt8 → Int × List Int} {n : List UInt8} {m : Int} {l : List Ex} (h : ¬ built 2 n l.length = false) : wo T (.mk 2 n m l) = (bI (decide (m = 1)), 0) := by
  match l, h with
  | [], h => rw [wo, if_neg h, if_neg (by decide), if_pos rfl]
  | [a], h => rw [wo, if_neg h, if_neg (by decide), if_pos rfl]
  | a :: b :: r, h => rw [wo, if_neg h, if_neg (by decide), if_pos rfl]
theorem wo_var {T : List UInt8 → Int × List Int} {n : List UInt8} {m : Int} {l : List Ex} (h : ¬ built 3 n l.length = false) : wo T (.mk 3 n m l) = ((T n).1, 0) := by
  match l, h with
  | [], h => rw [wo, if_neg h, if_neg (by decide), if_neg (by decide), if_pos rfl]
  | [a], h => rw [wo, if_neg h, if_neg (by decide), if_neg (by decide), if_pos rfl]
  | a :: b :: r, h => rw [wo, if_neg h, if_neg (by decide), if_neg (by decide), if_pos rfl]
theorem len_two {α : Type} {l : List α} (h : l.length = 2) : ∃ a b, l = [a, b] := by
  match l, h with
  | [a, b], _ => exact ⟨a, b, rfl⟩
end Go.Proofs.Ytobiedmmjiedlaa.Fo

namespace Go.Proofs.Ytobiedmmjiedlaa
open Go.RowKit

theorem mag_big : Pl.parse [57, 50, 50, 51, 51, 55, 50, 48, 51, 54, 56, 53, 52, 55, 55, 53, 56, 48, 56] = none := by decide +kernel
theorem mag_least : Pl.parse [45, 57, 50, 50, 51, 51, 55, 50, 48, 51, 54, 56, 53, 52, 55, 55, 53, 56, 48, 56] = some (-9223372036854775808) := by decide +kernel
theorem itoa_least : Lib.itoa (-9223372036854775808) = [45, 57, 50, 50, 51, 51, 55, 50, 48, 51, 54, 56, 53, 52, 55, 55, 53, 56, 48, 56] := by decide +kernel

end Go.Proofs.Ytobiedmmjiedlaa

namespace Go.Proofs.Ytobiedmmjiedlaa
open Go.RowKit

/-- Bytes and number of the first k texts. -/
def tot (xs : List ByteArray) (k : Nat) : Nat := ((xs.take k).map fun s => s.size + 1).sum
theorem tot_zero (xs : List ByteArray) : tot xs 0 = 0 := by simp [tot]
theorem tot_succ (xs : List ByteArray) (k : Nat) (h : k < xs.length) : tot xs (k + 1) = tot xs k + ((xs.getD k ByteArray.empty).size + 1) := by
  unfold tot
  rw [List.take_succ_eq_append_getElem h, List.map_append, List.sum_append]
  simp [List.getD, h]
theorem tot_mono (xs : List ByteArray) (k n : Nat) (h : k ≤ n) : tot xs k ≤ tot xs n := by
  induction n with
  | zero => have : k = 0 := by omega
            subst this; exact Nat.le_refl _
  | succ n ih =>
    by_cases e : k = n + 1
    · subst e; exact Nat.le_refl _
    · have h1 := ih (by omega)
      by_cases hn : n < xs.length
      · rw [tot_succ xs n hn]; omega
      · have : tot xs (n + 1) = tot xs n := by unfold tot; rw [List.take_of_length_le (by omega), List.take_of_length_le (by omega)]
        omega
/-- Are the texts more than the statements look at? -/
def longB (xs : List ByteArray) : Bool := decide (3000 < tot xs xs.length)

end Go.Proofs.Ytobiedmmjiedlaa

namespace Go.Proofs.Ytobiedmmjiedlaa.Pl
open Go.RowKit

/-- A byte more at the head of the first word. -/
def onHead (c : UInt8) : List (List UInt8) → List (List UInt8)
  | [] => [[c]]
  | h :: r => (c :: h) :: r
/-- The words of a text: each blank ends one and begins the next. -/
def ws : List UInt8 → List (List UInt8)
  | [] => [[]]
  | c :: t => if c = 32 then [] :: ws t else onHead c (ws t)
theorem ws_ne (l : List UInt8) : ws l ≠ [] := by
  cases l with
  | nil => simp [ws]
  | cons c t =>
    unfold ws
    split
    · simp
    · cases h : ws t <;> simp [onHead]
def pre1 (w : List UInt8) : List (List UInt8) → List (List UInt8)
  | [] => [w]
  | h :: r => (w ++ h) :: r
theorem pre1_onHead (w : List UInt8) (c : UInt8) (l : List (List UInt8)) : pre1 w (onHead c l) = pre1 (w ++ [c]) l := by
  cases l <;> simp [pre1, onHead]

theorem index_blank_cons (t : List UInt8) : Lib.index (32 :: t) [32] = 0 := by
  unfold Lib.index; rw [if_pos (by simp [List.isPrefixOf])]
theorem index_other_cons {c : UInt8} (h : ¬ c = 32) (t : List UInt8) : Lib.index (c :: t) [32] = if Lib.index t [32] == -1 then -1 else Lib.index t [32] + 1 := by
  conv => lhs; unfold Lib.index
  rw [if_neg (by simp [List.isPrefixOf, Ne.symm h])]
theorem split_ws : ∀ l : List UInt8, Lib.split l [32] = ws l
  | [] => rfl
  | c :: t => by
    have ih := split_ws t
    unfold Lib.split at ih ⊢
    by_cases h : c = 32
    · subst h
      have h0 := index_blank_cons t
      have hc := Lib.count_hit (s := 32 :: t) (sub := [32]) (i := 0) (by simp) h0
      rw [hc, show (1 + Lib.count (List.drop (0 + [(32 : UInt8)].length) (32 :: t)) [32]) = Lib.count t [32] + 1 by simp [Nat.add_comm]]
      unfold Lib.splitK
      rw [if_neg (by rw [h0]; decide), h0]
      unfold ws
      rw [if_pos rfl]
      simpa using ih
    · unfold ws
      rw [if_neg h, ← ih]
      have hi := index_other_cons h t
      have hge := Lib.index_ge t [32]
      by_cases hm : Lib.index t [32] = -1
      · rw [if_pos (by rw [hm]; rfl)] at hi
        rw [Lib.count_miss hi, Lib.count_miss hm]
        rfl
      · obtain ⟨i, hi0⟩ : ∃ i : Nat, Lib.index t [32] = i := ⟨(Lib.index t [32]).toNat, by omega⟩
        have hi1 : Lib.index (c :: t) [32] = ((i + 1 : Nat) : Int) := by
          rw [hi, if_neg (by simpa using hm), hi0]; simp
        rw [Lib.count_hit (by simp) hi1, Lib.count_hit (by simp) hi0]
        rw [show List.drop (i + 1 + [(32 : UInt8)].length) (c :: t) = List.drop (i + [(32 : UInt8)].length) t by simp]
        generalize hk : Lib.count (List.drop (i + [(32 : UInt8)].length) t) [32] = k
        rw [Nat.add_comm 1 k]
        unfold Lib.splitK
        rw [if_neg (by rw [hi1]; simp; omega), if_neg (by rw [hi0]; simp), hi1, hi0]
        simp [onHead]

theorem count_ws : ∀ l : List UInt8, Lib.count l [32] + 1 = (ws l).length
  | [] => rfl
  | c :: t => by
    have ih := count_ws t
    by_cases h : c = 32
    · subst h
      rw [Lib.count_hit (s := 32 :: t) (sub := [32]) (i := 0) (by simp) (index_blank_cons t)]
      unfold ws
      rw [if_pos rfl]
      simp
      omega
    · unfold ws
      rw [if_neg h]
      have e : (onHead c (ws t)).length = (ws t).length := by
        cases h2 : ws t with
        | nil => exact absurd h2 (ws_ne t)
        | cons a r => rfl
      rw [e, ← ih]
      have hi := index_other_cons h t
      have hge := Lib.index_ge t [32]
      by_cases hm : Lib.index t [32] = -1
      · rw [if_pos (by rw [hm]; rfl)] at hi
        rw [Lib.count_miss hi, Lib.count_miss hm]
      · obtain ⟨i, hi0⟩ : ∃ i : Nat, Lib.index t [32] = i := ⟨(Lib.index t [32]).toNat, by omega⟩
        have hi1 : Lib.index (c :: t) [32] = ((i + 1 : Nat) : Int) := by
          rw [hi, if_neg (by simpa using hm), hi0]; simp
        rw [Lib.count_hit (by simp) hi1, Lib.count_hit (by simp) hi0]
        rw [show List.drop (i + 1 + [(32 : UInt8)].length) (c :: t) = List.drop (i + [(32 : UInt8)].length) t by simp]

/-- Where the reference's cutting stands: the word that is begun, and what is left. -/
def wsAt (w l : List UInt8) : List (List UInt8) := pre1 w (ws l)
theorem wsAt_nil (w : List UInt8) : wsAt w [] = [w] := by simp [wsAt, ws, pre1]
theorem wsAt_blank (w t : List UInt8) : wsAt w (32 :: t) = w :: wsAt [] t := by
  unfold wsAt
  rw [ws, if_pos rfl]
  cases h : ws t with
  | nil => exact absurd h (ws_ne t)
  | cons a r => simp [pre1]
theorem wsAt_other (w : List UInt8) {c : UInt8} (h : ¬ c = 32) (t : List UInt8) : wsAt w (c :: t) = wsAt (w ++ [c]) t := by
  unfold wsAt
  rw [ws, if_neg h, pre1_onHead]
theorem wsAt_all (l : List UInt8) : wsAt [] l = ws l := by
  unfold wsAt
  cases h : ws l with
  | nil => exact absurd h (ws_ne l)
  | cons a r => simp [pre1]

theorem ws_len (l : List UInt8) : (ws l).length ≤ l.length + 1 := by
  induction l with
  | nil => simp [ws]
  | cons c t ih =>
    unfold ws
    split
    · simp; omega
    · cases h : ws t with
      | nil => simp [onHead]
      | cons a r => rw [h] at ih; simp [onHead] at ih ⊢; omega

theorem join_snoc (xs : List (List UInt8)) (x : List UInt8) (h : xs ≠ []) : Lib.join (xs ++ [x]) [32] = Lib.join xs [32] ++ [32] ++ x := by
  cases xs with
  | nil => exact absurd rfl h
  | cons a r =>
    rw [List.cons_append, Lib.join_cons, Lib.join_cons]
    simp [Lib.joinTail]
theorem join_cons2 (x y : List UInt8) (r : List (List UInt8)) : Lib.join (x :: y :: r) [32] = x ++ 32 :: Lib.join (y :: r) [32] := by
  rw [Lib.join_cons, Lib.join_cons]
  simp [Lib.joinTail]
theorem join_ws : ∀ l : List UInt8, Lib.join (ws l) [32] = l
  | [] => rfl
  | c :: t => by
    have ih := join_ws t
    unfold ws
    cases hw : ws t with
    | nil => exact absurd hw (ws_ne t)
    | cons a r =>
      rw [hw] at ih
      split
      · rename_i h
        rw [join_cons2, ih, h]; rfl
      · show Lib.join ((c :: a) :: r) [32] = c :: t
        rw [Lib.join_cons] at ih ⊢
        rw [List.cons_append, ih]
theorem ws_plain : ∀ x : List UInt8, 32 ∉ x → ws x = [x]
  | [], _ => rfl
  | c :: t, h => by
    have h1 : ¬ c = 32 := fun e => h (by rw [e]; exact List.mem_cons_self)
    unfold ws
    rw [if_neg h1, ws_plain t (fun e => h (List.mem_cons_of_mem _ e))]
    rfl
theorem ws_append : ∀ (x t : List UInt8), 32 ∉ x → ws (x ++ 32 :: t) = x :: ws t
  | [], t, _ => by rw [List.nil_append, ws, if_pos rfl]
  | c :: x, t, h => by
    have h1 : ¬ c = 32 := fun e => h (by rw [e]; exact List.mem_cons_self)
    rw [List.cons_append, ws, if_neg h1, ws_append x t (fun e => h (List.mem_cons_of_mem _ e))]
    rfl
theorem ws_join : ∀ xs : List (List UInt8), xs ≠ [] → (∀ x ∈ xs, 32 ∉ x) → ws (Lib.join xs [32]) = xs
  | [], h, _ => absurd rfl h
  | [x], _, h => by rw [Lib.join_one]; exact ws_plain x (h x List.mem_cons_self)
  | x :: y :: r, _, h => by
    rw [join_cons2, ws_append _ _ (h x List.mem_cons_self), ws_join (y :: r) (by simp) (fun z hz => h z (List.mem_cons_of_mem _ hz))]
theorem bytes_inj {a b : ByteArray} (h : a.data.toList = b.data.toList) : a = b := by
  obtain ⟨⟨l⟩⟩ := a
  obtain ⟨⟨m⟩⟩ := b
  simp at h
  subst h
  rfl
theorem map_inj {xs ys : List ByteArray} (h : xs.map (·.data.toList) = ys.map (·.data.toList)) : xs = ys := by
  induction xs generalizing ys with
  | nil => cases ys with
    | nil => rfl
    | cons y r => simp at h
  | cons x t ih => cases ys with
    | nil => simp at h
    | cons y r =>
      simp only [List.map_cons, List.cons.injEq] at h
      rw [bytes_inj h.1, ih h.2]
end Go.Proofs.Ytobiedmmjiedlaa.Pl

namespace Go.Proofs.Ytobiedmmjiedlaa
open Go.RowKit

theorem infoStr : (Try.prog.info? 9).map (fun i => (i.zero, i.size, i.bytes)) = some (some (.string ⟨#[]⟩), 1, 16) := by kernel_rfl

/-- The texts xs lie from place o of block b on. -/
structure Sa (w : World) (b o : Nat) (xs : List ByteArray) : Prop where
  lt : b < w.heap.size
  get : ∀ j, j < xs.length → w.cell? ⟨b, o + j, none⟩ = some (.string (xs.getD j ByteArray.empty))
theorem Sa.later {w w' : World} {b o : Nat} {xs : List ByteArray} (h : Sa w b o xs) (hb : Below w.heap.size w w') : Sa w' b o xs :=
  ⟨Nat.lt_of_lt_of_le h.lt hb.size, fun j hj => (hb.cell (p := ⟨b, o + j, none⟩) h.lt).trans (h.get j hj)⟩

/-- The slice v is a row of the texts xs, among the blocks from base on. -/
def OwnS (w : World) (base : Nat) (v : Value) (xs : List ByteArray) : Prop := w.ownsRow base 9 1 v xs.length (xs.map Value.string)
theorem OwnS.nil (w : World) (base : Nat) : OwnS w base (.slice none 0 0) [] := World.ownsRow_nil _ _ _ _
theorem OwnS.snoc {w wr w1 : World} {o : Obj} {B : Nat} {v v' : Value} {xs : List ByteArray} {s : ByteArray} (hown : OwnS wr B v xs) (hnx : Below B w wr) (hB : B ≤ wr.heap.size)
    (h' : w1.ownsRow B 9 1 v' (xs.length + 1) (xs.map Value.string ++ [.string s])) (hg : (wr.alloc o).grownBy w1 v.ownBlock) : OwnS w1 B v' (xs ++ [s]) ∧ Below B w w1 := by
  refine ⟨?_, (hnx.alloc hB _).grown hg (by simp; omega) (fun g hg => (World.ownsRow.lt hown g hg).1)⟩
  unfold OwnS
  rw [List.length_append, List.map_append]
  exact h'
theorem OwnS.sa {w : World} {base : Nat} {v : Value} {xs : List ByteArray} (h : OwnS w base v xs) (hn : xs ≠ []) :
    ∃ g cap, v = .slice (some ⟨g, 0, none⟩) xs.length cap ∧ xs.length ≤ cap ∧ Sa w g 0 xs := by
  have hc := @World.ownsRow.cells _ _ _ _ _ _ _ h
  have hl := World.ownsRow.lt h
  rcases h.2 with ⟨_, h0⟩ | ⟨g, cap, cur, rfl, hb, _, hnc, _⟩
  · exact absurd (List.length_eq_zero_iff.1 h0) hn
  · refine ⟨g, cap, rfl, hnc, (hl g rfl).2, fun j hj => ?_⟩
    have := @hc g rfl j (.string (xs.getD j ByteArray.empty)) (by simp [hj])
    cases j with
    | zero => simpa [Addr.add] using this
    | succ j => simpa [Addr.add] using this
theorem one_cell_s (w : World) (x : ByteArray) (t : TypeId) : ∀ (j : Nat) u, [Value.string x][j]? = some u → (w.alloc (.cells #[.string x] t)).cell? ((⟨w.heap.size, 0, none⟩ : Addr).add j) = some u := by
  intro j u hj
  match j, hj with
  | 0, hj => simp at hj; subst hj; simp [Addr.add]
theorem one_one_s (x : ByteArray) : ∀ u ∈ [Value.string x], u.oneCell' = true := by
  intro u hu; simp at hu; subst hu; rfl
theorem cut_one (s : ByteArray) (k : Nat) (h : k < s.size) (t : ByteArray) : (t ++ s.extract k (k + 1)).data.toList = t.data.toList ++ [s[k]] := by
  have h1 : (s.extract k (k + 1)).data.toList = [s[k]] := by
    rw [Lib.extract_data, Pl.drop_at s k h, show k + 1 - k = 1 by omega]; rfl
  rw [← h1]
  simp

theorem map_take_succ (xs : List ByteArray) (k : Nat) (h : k < xs.length) : (xs.take (k + 1)).map (·.data.toList) = (xs.take k).map (·.data.toList) ++ [(xs.getD k ByteArray.empty).data.toList] := by
  rw [List.take_succ_eq_append_getElem h, List.map_append]
  simp [List.getD, h]
theorem join_len (xs : List ByteArray) : ∀ k, k ≤ xs.length → (Lib.join ((xs.take k).map (·.data.toList)) [32]).length ≤ tot xs k
  | 0, _ => by simp [Lib.join_nil]
  | k + 1, h => by
    have ih := join_len xs k (by omega)
    rw [map_take_succ xs k (by omega), tot_succ xs k (by omega)]
    have hsz : (xs.getD k ByteArray.empty).data.toList.length = (xs.getD k ByteArray.empty).size := by rw [Array.length_toList, ByteArray.size_data]
    by_cases hk : k = 0
    · subst hk
      rw [List.take_zero, List.map_nil, List.nil_append, Lib.join_one, hsz]; omega
    · rw [Pl.join_snoc _ _ (by
        intro e
        have := congrArg List.length e
        rw [List.length_map, List.length_take, List.length_nil] at this
        omega)]
      simp only [List.length_append, List.length_singleton, hsz]
      omega

end Go.Proofs.Ytobiedmmjiedlaa

namespace Go.Proofs.Ytobiedmmjiedlaa
open Go.RowKit

/-- A token's text: an integer's digits. -/
def txt (x : Tok) : List UInt8 := if x.1.kind = 2 then Lib.itoa x.1.num else x.1.text
def texts (ts : List Tok) (k : Nat) : List (List UInt8) := (List.range k).map fun j => txt (ts.getD j tok0)
theorem texts_succ (ts : List Tok) (k : Nat) : texts ts (k + 1) = texts ts k ++ [txt (ts.getD k tok0)] := by
  unfold texts; rw [List.range_succ, List.map_append]; rfl
/-- What Print writes: nothing of the end. -/
def printL (ts : List Tok) : List UInt8 := Lib.join (texts ts (ts.length - 1)) [32]
theorem OwnS.shape {w : World} {base : Nat} {v : Value} {xs : List ByteArray} (h : OwnS w base v xs) : ∃ ao cap, v = .slice ao xs.length cap := by
  rcases h.2 with ⟨rfl, h0⟩ | ⟨g, cap, cur, rfl, _⟩
  · exact ⟨none, 0, by rw [h0]⟩
  · exact ⟨_, cap, rfl⟩
theorem OwnS.later {w w' : World} {base : Nat} {v : Value} {xs : List ByteArray} (h : OwnS w base v xs) (hb : Below w.heap.size w w') : OwnS w' base v xs :=
  World.ownsRow.kept h (row := none) ⟨hb.os, hb.tape, hb.output, hb.size, fun k hk _ => hb.block k hk⟩ (by
    rcases h.2 with ⟨rfl, _⟩ | ⟨g, cap, cur, rfl, _⟩
    · exact .inl rfl
    · exact .inr (by simp [Value.ownBlock]))
theorem snoc_plain {w wr w1 : World} {o : Obj} {B : Nat} {v v' : Value} {xs : List ByteArray} {s : ByteArray} (hown : OwnS wr B v xs) (hnx : Below B w wr) (hB : B ≤ wr.heap.size)
    (h' : w1.ownsRow B 9 1 v' (xs.length + 1) (xs.map Value.string ++ [.string s])) (hg : (wr.alloc o).grownBy w1 v.ownBlock) : OwnS w1 B v' (xs ++ [s]) ∧ Below B w w1 := hown.snoc hnx hB h' hg

end Go.Proofs.Ytobiedmmjiedlaa

namespace Go.Proofs.Ytobiedmmjiedlaa
open Go.RowKit

theorem flat_at (i : Nat) (hi : i < 4) : ∀ (ts : List (Lx.Tk × Nat)) (j : Nat), (ts.flatMap cellsT)[j * 4 + i]? = (ts[j]?).bind fun x => (cellsT x)[i]?
  | [], j => by simp
  | x :: r, 0 => by
    rw [List.flatMap_cons, List.getElem?_append_left (by simp [cellsT]; omega)]
    simp
  | x :: r, j + 1 => by
    rw [List.flatMap_cons, List.getElem?_append_right (by simp [cellsT]; omega), show (j + 1) * 4 + i - (cellsT x).length = j * 4 + i by simp [cellsT]; omega, flat_at i hi r j]
    simp
/-- A token with its place as a number. -/
def tkI (x : Lx.Tk × Nat) : Tok := (x.1, (x.2 : Int))
theorem OwnT.ta {w : World} {base : Nat} {v : Value} {ts : List (Lx.Tk × Nat)} (h : OwnT w base v ts) (hn : ts ≠ []) :
    ∃ g cap, v = .slice (some ⟨g, 0, none⟩) ts.length cap ∧ ts.length ≤ cap ∧ base ≤ g ∧ Ta w g 0 (ts.map tkI) := by
  have hc := @World.ownsRow.cells _ _ _ _ _ _ _ h
  have hl := World.ownsRow.lt h
  rcases h.2 with ⟨_, h0⟩ | ⟨g, cap, cur, rfl, hb, _, hnc, _⟩
  · exact absurd (List.length_eq_zero_iff.1 h0) hn
  · have key : ∀ (j i : Nat) (u : Value), j < ts.length → i < 4 → ((ts[j]?).bind fun x => (cellsT x)[i]?) = some u → w.cell? ⟨g, 0 + j * 4 + i, none⟩ = some u := by
      intro j i u hj hi hu
      have := @hc g rfl (j * 4 + i) u (by rw [flat_at i hi]; exact hu)
      have e : (⟨g, 0, none⟩ : Addr).add (j * 4 + i) = ⟨g, 0 + j * 4 + i, none⟩ := by unfold Addr.add; split <;> simp_all
      rw [e] at this
      exact this
    refine ⟨g, cap, rfl, hnc, (hl g rfl).1, (hl g rfl).2, ?_, ?_, ?_, ?_⟩
    all_goals
      intro j hj
      rw [List.length_map] at hj
      first
        | exact key j 0 _ hj (by omega) (by simp [hj, cellsT, tkI])
        | exact key j 1 _ hj (by omega) (by simp [hj, cellsT, tkI])
        | exact key j 2 _ hj (by omega) (by simp [hj, cellsT, tkI])
        | exact key j 3 _ hj (by omega) (by simp [hj, cellsT, tkI])

theorem k_x : Lx.scan [120, 61, 49, 35, 121] = ([(⟨1, [120], 0⟩, 0), (⟨4, [61], 0⟩, 1), (⟨2, [], 1⟩, 2), (⟨0, [], 0⟩, 5)], 0, 0) := by kernel_rfl
theorem k_a : Lx.scan [97, 32, 64, 32, 98] = ([], 2, 20) := by kernel_rfl
theorem k_3 : Lx.scan [51, 120] = ([], 0, 20) := by kernel_rfl
def kTs : List Tok := [(⟨1, [97], 0⟩, 0), (⟨4, [60, 61], 0⟩, 0), (⟨2, [], 7⟩, 0), (⟨0, [], 0⟩, 0)]
theorem k_r : rightL kTs = true := by kernel_rfl
theorem k_p : printL kTs = [97, 32, 60, 61, 32, 55] := by kernel_rfl

theorem kTa (w : World) (t : TypeId) : Ta (w.alloc (.cells #[.int .i64 1, .string ⟨#[97]⟩, .int .i64 0, .int .i64 0, .int .i64 4, .string ⟨#[60, 61]⟩, .int .i64 0, .int .i64 0, .int .i64 2, .string ⟨#[]⟩, .int .i64 7, .int .i64 0, .int .i64 0, .string ⟨#[]⟩, .int .i64 0, .int .i64 0] t)) w.heap.size 0 kTs := by
  refine ⟨by simp, ?_, ?_, ?_, ?_⟩
  all_goals
    intro j hj
    match j, hj with
    | 0, _ => simp [kTs, tok0]
    | 1, _ => simp [kTs, tok0]
    | 2, _ => simp [kTs, tok0]
    | 3, _ => simp [kTs, tok0]
    | n + 4, h => simp [kTs] at h; omega
end Go.Proofs.Ytobiedmmjiedlaa
