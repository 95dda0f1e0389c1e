/- Scan of a text that is cut off where an error was told (plain). -/
import Derived.Test.YtlhklpnkelcnbaaGreatDoorScanPl
namespace Go.Proofs.YtlhklpnkelcnbaaGreatDoor.Lx
open Go.RowKit

theorem run_take (p : Nat → Bool) : ∀ (l : List UInt8) (m : Nat), run p (l.take m) = min m (run p l)
  | [], m => by simp [run]
  | c :: t, 0 => by simp [run]
  | c :: t, m + 1 => by
    rw [List.take_succ_cons]
    unfold run
    split
    · rw [run_take p t m]; omega
    · simp
theorem blank_take : ∀ (rem : Bool) (l : List UInt8) (m : Nat), blank rem (l.take m) = min m (blank rem l)
  | _, [], m => by simp [blank]
  | _, c :: t, 0 => by simp [blank]
  | rem, c :: t, m + 1 => by
    rw [List.take_succ_cons]
    unfold blank
    split
    · rw [blank_take false t m]; omega
    · split
      · rw [blank_take true t m]; omega
      · split
        · simp
        · rw [blank_take rem t m]; omega
theorem prefix_take {g l : List UInt8} {m : Nat} (h : g.length ≤ m) : g.isPrefixOf (l.take m) = g.isPrefixOf l := by
  rw [Bool.eq_iff_iff, List.isPrefixOf_iff_prefix, List.isPrefixOf_iff_prefix]
  constructor
  · exact fun hp => hp.trans (List.take_prefix m l)
  · intro hp
    rw [List.prefix_take_iff]
    exact ⟨hp, h⟩
theorem signBy_take {l : List UInt8} {n m : Nat} (h : n ≤ m) : signBy n (l.take m) = signBy n l := by
  unfold signBy
  congr 1
  funext g
  by_cases hg : g.length = n
  · rw [prefix_take (by omega)]
  · rw [decide_eq_false hg]; rfl
theorem signBy_take_none {l : List UInt8} {n m : Nat} (h : signBy n l = none) : signBy n (l.take m) = none := by
  unfold signBy at *
  rw [List.find?_eq_none] at *
  intro g hg hp
  apply h g hg
  rw [Bool.and_eq_true] at *
  exact ⟨hp.1, List.isPrefixOf_iff_prefix.2 ((List.isPrefixOf_iff_prefix.1 hp.2).trans (List.take_prefix m l))⟩
theorem signBy_len {l g : List UInt8} {n : Nat} (h : signBy n l = some g) : g.length = n := by
  have := List.find?_some h
  simp only [Bool.and_eq_true, decide_eq_true_eq] at this
  exact this.1
theorem fsign_take {l : List UInt8} {t : Tk} {n m : Nat} (h : fsign l = some (t, n)) (hm : n ≤ m) : fsign (l.take m) = some (t, n) := by
  unfold fsign at *
  cases h2 : signBy 2 l with
  | some g =>
    rw [h2] at h
    have := signBy_len h2
    cases h
    rw [signBy_take (by omega), h2]
  | none =>
    rw [h2] at h
    rw [signBy_take_none h2]
    cases h1 : signBy 1 l with
    | some g =>
      rw [h1] at h
      have := signBy_len h1
      cases h
      simp only
      rw [signBy_take (by omega), h1]
    | none => rw [h1] at h; cases h
theorem fword_take {l : List UInt8} {t : Tk} {n m : Nat} (h : fword l = some (t, n)) (hm : n ≤ m) : fword (l.take m) = some (t, n) := by
  have hn : n = run inn1 l := by
    unfold fword at h
    split at h
    · cases h; rfl
    · split at h
      · cases h; rfl
      · cases h
  have hr : run inn1 (l.take m) = run inn1 l := by rw [run_take]; omega
  have ht : (l.take m).take (run inn1 l) = l.take (run inn1 l) := by rw [List.take_take]; congr 1; omega
  unfold fword at *
  rw [hr, ht]
  exact h
theorem letAt_take {l : List UInt8} {k m : Nat} (h : letAt l k = false) : letAt (l.take m) k = false := by
  unfold letAt at *
  rw [List.getElem?_take]
  split
  · rename_i hk
    split at hk
    · rw [hk] at h; exact h
    · cases hk
  · rfl
theorem fint_take {l : List UInt8} {t : Tk} {n m : Nat} (h : fint l = some (t, n)) (hm : n ≤ m) : fint (l.take m) = some (t, n) := by
  unfold fint at h
  split at h
  · cases h
  · rename_i x hx
    split at h
    · cases h
    · rename_i hl
      cases h
      have hr : run dig1 (l.take m) = run dig1 l := by rw [run_take]; omega
      have ht : (l.take m).take (run dig1 l) = l.take (run dig1 l) := by rw [List.take_take]; congr 1; omega
      unfold fint
      rw [hr, ht, hx]
      simp only
      rw [if_neg (by rw [letAt_take (by simpa using hl)]; simp)]
theorem first_take {l : List UInt8} {t : Tk} {n m : Nat} (h : first l = some (t, n)) (hk : t.kind ≠ 0) (hm : n ≤ m) : first (l.take m) = some (t, n) := by
  rcases first_len h with ⟨_, rfl, _⟩ | ⟨_, hn, _⟩
  · exact absurd rfl hk
  · cases l with
    | nil => unfold first at h; cases h; exact absurd rfl hk
    | cons c r =>
      obtain ⟨m, rfl⟩ : ∃ q, m = q + 1 := ⟨m - 1, by omega⟩
      have e : (c :: r).take (m + 1) = c :: r.take m := List.take_succ_cons
      have h' : (if let1 c.toNat then fword (c :: r) else if dig1 c.toNat then fint (c :: r) else fsign (c :: r)) = some (t, n) := h
      rw [e]
      show (if let1 c.toNat then fword (c :: r.take m) else if dig1 c.toNat then fint (c :: r.take m) else fsign (c :: r.take m)) = some (t, n)
      rw [← e]
      by_cases c1 : let1 c.toNat
      · rw [if_pos c1] at h' ⊢; exact fword_take h' hm
      · rw [if_neg c1] at h' ⊢
        by_cases c2 : dig1 c.toNat
        · rw [if_pos c2] at h' ⊢; exact fint_take h' hm
        · rw [if_neg c2] at h' ⊢; exact fsign_take h' hm
theorem skip_take {l : List UInt8} {at' a : Nat} (h : skip l at' ≤ a) : skip (l.take a) at' = skip l at' := by
  unfold skip at *
  rw [List.drop_take, blank_take]
  omega
theorem scan_cut (l : List UInt8) (hl : l.length < 4000) : ∀ (f at' : Nat) (ts : List (Tk × Nat)), ts.length ≤ at' → at' ≤ l.length → l.length < f + at' →
    ((scanF l f at' ts).2.2 = 0 ∧ (scanF l f at' ts).2.1 = 0) ∨
    ∃ a, scanF l f at' ts = ([], a, 20) ∧ at' ≤ a ∧ a ≤ l.length ∧ ∀ f', a < f' + at' → ∃ r, scanF (l.take a) f' at' ts = (r ++ [(⟨0, [], 0⟩, a)], 0, 0)
  | 0, at', ts, h1, h2, h3 => absurd h3 (by omega)
  | f + 1, at', ts, h1, h2, h3 => by
    have hs := skip_le l at' h2
    have hs1 : at' ≤ skip l at' := Nat.le_add_right _ _
    rw [scanF]
    cases hF : first (l.drop (skip l at')) with
    | none =>
      refine .inr ⟨skip l at', rfl, hs1, hs, fun f' hf => ?_⟩
      obtain ⟨g, rfl⟩ : ∃ g, f' = g + 1 := ⟨f' - 1, by omega⟩
      refine ⟨ts, ?_⟩
      rw [scanF, skip_take (Nat.le_refl _), List.drop_take, Nat.sub_self, List.take_zero]
      simp only [first]
      rw [if_neg (by omega), if_pos trivial]
    | some x =>
      obtain ⟨t, n⟩ := x
      simp only
      rw [if_neg (by omega)]
      by_cases hk : t.kind = 0
      · rw [if_pos hk]; exact .inl ⟨rfl, rfl⟩
      · rw [if_neg hk]
        have hn : 1 ≤ n ∧ n ≤ l.length - skip l at' := by
          rcases first_len hF with ⟨_, h, _⟩ | ⟨_, h, h'⟩
          · exact absurd (by rw [h]) hk
          · rw [List.length_drop] at h'; exact ⟨h, h'⟩
        rcases scan_cut l hl f (skip l at' + n) (ts ++ [(t, skip l at')]) (by simp; omega) (by omega) (by omega) with h | ⟨a, ha, h4, h5, h6⟩
        · exact .inl h
        · refine .inr ⟨a, ha, by omega, h5, fun f' hf => ?_⟩
          obtain ⟨g, rfl⟩ : ∃ g, f' = g + 1 := ⟨f' - 1, by omega⟩
          obtain ⟨r, hr⟩ := h6 g (by omega)
          refine ⟨r, ?_⟩
          rw [scanF, skip_take (by omega), List.drop_take, first_take hF hk (by omega)]
          simp only
          rw [if_neg (by omega), if_neg hk]
          exact hr
/-- The source up to the place of an error has no other one. -/
theorem scan_first {l : List UInt8} (hl : l.length ≤ 3000) : ((scan l).2.2 = 0 ∧ (scan l).2.1 = 0) ∨ ∃ a, scan l = ([], a, 20) ∧ a ≤ l.length ∧ ∃ r, scan (l.take a) = (r ++ [(⟨0, [], 0⟩, a)], 0, 0) := by
  have e : scan l = scanF l (l.length + 1) 0 [] := by unfold scan; rw [if_neg (by omega)]
  rw [e]
  rcases scan_cut l (by omega) (l.length + 1) 0 [] (by simp) (by omega) (by omega) with h | ⟨a, h1, _, h3, h4⟩
  · exact .inl h
  · refine .inr ⟨a, h1, h3, ?_⟩
    have ea : (l.take a).length = a := by rw [List.length_take]; omega
    obtain ⟨r, hr⟩ := h4 (a + 1) (by omega)
    refine ⟨r, ?_⟩
    unfold scan
    rw [if_neg (by omega), ea, hr]
end Go.Proofs.YtlhklpnkelcnbaaGreatDoor.Lx
