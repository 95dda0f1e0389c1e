/- The words of layer 2, as plain functions on bytes: which bytes are letters, digits; key words and signs; blanks; names; the first token of a text. -/
import Derived.Test.YtlhklpnkelcnbaaGreatDoorPlain
namespace Go.Proofs.YtlhklpnkelcnbaaGreatDoor.Lx
open Go.RowKit

def let1 (c : Nat) : Bool := decide (65 ≤ c ∧ c ≤ 90) || decide (97 ≤ c ∧ c ≤ 122)
def dig1 (c : Nat) : Bool := decide (48 ≤ c ∧ c ≤ 57)
def inn1 (c : Nat) : Bool := let1 c || dig1 c || decide (c = 95)
def keys : List (List UInt8) := [[112, 114, 111, 99], [118, 97, 114], [105, 102], [101, 108, 115, 101], [119, 104, 105, 108, 101], [114, 101, 116, 117, 114, 110], [112, 114, 105, 110, 116], [114, 101, 97, 100], [97, 115, 115, 101, 114, 116], [105, 110, 116], [98, 111, 111, 108], [116, 114, 117, 101], [102, 97, 108, 115, 101]]
def signs : List (List UInt8) := [[40], [41], [123], [125], [91], [93], [44], [59], [61], [61, 61], [33, 61], [60], [60, 61], [38, 38], [124, 124], [33], [43], [45], [42], [47], [37]]
def isKey (l : List UInt8) : Bool := keys.contains l
def isSign (l : List UInt8) : Bool := signs.contains l
/-- How many bytes a text begins with that hold p. -/
def run (p : Nat → Bool) : List UInt8 → Nat
  | [] => 0
  | c :: t => if p c.toNat then run p t + 1 else 0
theorem run_le (p : Nat → Bool) : ∀ l : List UInt8, run p l ≤ l.length
  | [] => Nat.le_refl _
  | c :: t => by
    have := run_le p t
    unfold run
    split <;> simp <;> omega
theorem run_drop (p : Nat → Bool) : ∀ (l : List UInt8) (k : Nat), k < run p l → ∃ c, l[k]? = some c ∧ p c.toNat = true
  | [], k, h => by simp [run] at h
  | c :: t, k, h => by
    unfold run at h
    split at h
    · rename_i hc
      cases k with
      | zero => exact ⟨c, rfl, hc⟩
      | succ k =>
        obtain ⟨d, hd, hp⟩ := run_drop p t k (by omega)
        exact ⟨d, by simpa using hd, hp⟩
    · omega
theorem run_stop (p : Nat → Bool) : ∀ (l : List UInt8) (c : UInt8), l[run p l]? = some c → p c.toNat = false
  | [], c, h => by simp [run] at h
  | d :: t, c, h => by
    unfold run at h
    split at h
    · rename_i hd
      exact run_stop p t c (by simpa using h)
    · rename_i hd
      simp at h
      subst h
      simpa using hd
/-- How many bytes of blanks a text begins with; rem: within a remark. -/
def blank (rem : Bool) : List UInt8 → Nat
  | [] => 0
  | c :: t => if c = 10 then blank false t + 1 else if c = 35 then blank true t + 1 else if ¬ c = 32 ∧ rem = false then 0 else blank rem t + 1
theorem blank_le : ∀ (rem : Bool) (l : List UInt8), blank rem l ≤ l.length
  | _, [] => Nat.le_refl _
  | rem, c :: t => by
    have h1 := blank_le false t
    have h2 := blank_le true t
    have h3 := blank_le rem t
    unfold blank
    split
    · simp; omega
    · split
      · simp; omega
      · split
        · simp
        · simp; omega
def isName (l : List UInt8) : Bool := !l.isEmpty && let1 (l.headD 0).toNat && decide (run inn1 l = l.length) && decide (l.length ≤ 40) && !isKey l
/-- A token without its place. -/
structure Tk where
  kind : Int
  text : List UInt8
  num : Int
/-- The word, the integer, the sign that a text begins with, and its length. -/
def fword (l : List UInt8) : Option (Tk × Nat) :=
  if isKey (l.take (run inn1 l)) then some (⟨3, l.take (run inn1 l), 0⟩, run inn1 l)
  else if isName (l.take (run inn1 l)) then some (⟨1, l.take (run inn1 l), 0⟩, run inn1 l) else none
/-- Does a letter stand at place k? -/
def letAt (l : List UInt8) (k : Nat) : Bool := match l[k]? with | some c => let1 c.toNat | none => false
def fint (l : List UInt8) : Option (Tk × Nat) :=
  match Pl.parse (l.take (run dig1 l)) with
  | none => none
  | some n => if letAt l (run dig1 l) then none else some (⟨2, [], n⟩, run dig1 l)
def signBy (n : Nat) (l : List UInt8) : Option (List UInt8) := signs.find? fun g => decide (g.length = n) && g.isPrefixOf l
def fsign (l : List UInt8) : Option (Tk × Nat) :=
  match signBy 2 l with
  | some g => some (⟨4, g, 0⟩, g.length)
  | none => match signBy 1 l with
    | some g => some (⟨4, g, 0⟩, g.length)
    | none => none
def first (l : List UInt8) : Option (Tk × Nat) :=
  match l with
  | [] => some (⟨0, [], 0⟩, 0)
  | c :: t => if let1 c.toNat then fword (c :: t) else if dig1 c.toNat then fint (c :: t) else fsign (c :: t)
end Go.Proofs.YtlhklpnkelcnbaaGreatDoor.Lx
