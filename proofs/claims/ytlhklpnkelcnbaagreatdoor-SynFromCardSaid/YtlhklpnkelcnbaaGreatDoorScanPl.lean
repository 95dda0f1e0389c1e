/- Scan, as a plain function on bytes; the lengths of first tokens. -/
import Derived.Test.YtlhklpnkelcnbaaGreatDoorLexPl
namespace Go.Proofs.YtlhklpnkelcnbaaGreatDoor.Lx
open Go.RowKit

/-- Where the next token may begin. -/
def skip (l : List UInt8) (at' : Nat) : Nat := at' + blank false (l.drop at')
/-- Scan from a place on, with the tokens that were found: tokens with their places, a place, an error's number. -/
def scanF (l : List UInt8) : Nat → Nat → List (Tk × Nat) → List (Tk × Nat) × Nat × Int
  | 0, _, _ => ([], 0, 0)
  | f + 1, at', ts =>
    match first (l.drop (skip l at')) with
    | none => ([], skip l at', 20)
    | some (t, n) => if ts.length = 4000 then ([], skip l at', 2) else if t.kind = 0 then (ts ++ [(t, skip l at')], 0, 0) else scanF l f (skip l at' + n) (ts ++ [(t, skip l at')])
def scan (l : List UInt8) : List (Tk × Nat) × Nat × Int := if 16384 < l.length then ([], 0, 2) else scanF l (l.length + 1) 0 []

theorem fsign_len {l : List UInt8} {t : Tk} {n : Nat} (h : fsign l = some (t, n)) : t.kind = 4 ∧ 1 ≤ n ∧ n ≤ l.length := by
  have key : ∀ z g, 1 ≤ z → signBy z l = some g → 1 ≤ g.length ∧ g.length ≤ l.length := by
    intro z g hz hg
    have := List.find?_some hg
    simp only [Bool.and_eq_true, decide_eq_true_eq] at this
    have h2 := List.IsPrefix.length_le (List.isPrefixOf_iff_prefix.1 this.2)
    omega
  unfold fsign at h
  split at h
  · rename_i g hg
    have := key 2 g (by omega) hg
    cases h
    exact ⟨rfl, this.1, this.2⟩
  · split at h
    · rename_i g hg
      have := key 1 g (by omega) hg
      cases h
      exact ⟨rfl, this.1, this.2⟩
    · cases h
theorem run_pos {p : Nat → Bool} {c : UInt8} {t : List UInt8} (h : p c.toNat = true) : 1 ≤ run p (c :: t) := by
  unfold run; rw [if_pos h]; omega
theorem first_len {l : List UInt8} {t : Tk} {n : Nat} (h : first l = some (t, n)) : (l = [] ∧ t = ⟨0, [], 0⟩ ∧ n = 0) ∨ (t.kind ≠ 0 ∧ 1 ≤ n ∧ n ≤ l.length) := by
  cases l with
  | nil => unfold first at h; cases h; exact .inl ⟨rfl, rfl, rfl⟩
  | cons c r =>
    right
    have h : (if let1 c.toNat then fword (c :: r) else if dig1 c.toNat then fint (c :: r) else fsign (c :: r)) = some (t, n) := h
    split at h
    · rename_i hc
      have h1 : 1 ≤ run inn1 (c :: r) := run_pos (by unfold inn1; rw [hc]; rfl)
      have h2 := run_le inn1 (c :: r)
      unfold fword at h
      split at h
      · cases h; exact ⟨by simp, h1, h2⟩
      · split at h
        · cases h; exact ⟨by simp, h1, h2⟩
        · cases h
    · split at h
      · rename_i hd
        have h1 : 1 ≤ run dig1 (c :: r) := run_pos hd
        have h2 := run_le dig1 (c :: r)
        unfold fint at h
        split at h
        · cases h
        · split at h
          · cases h
          · cases h; exact ⟨by simp, h1, h2⟩
      · have := fsign_len h
        exact ⟨by omega, this.2⟩
theorem skip_le (l : List UInt8) (at' : Nat) (h : at' ≤ l.length) : skip l at' ≤ l.length := by
  have := blank_le false (l.drop at')
  rw [List.length_drop] at this
  unfold skip; omega
end Go.Proofs.YtlhklpnkelcnbaaGreatDoor.Lx
