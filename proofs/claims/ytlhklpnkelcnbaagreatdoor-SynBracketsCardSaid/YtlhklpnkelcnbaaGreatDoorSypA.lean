/- Layer 3: reading an expression always comes to something: fuel, how far reading goes. Plain. -/
import Derived.Test.YtlhklpnkelcnbaaGreatDoorSynPl
namespace Go.Proofs.YtlhklpnkelcnbaaGreatDoor.Sx
open Go.RowKit

theorem shut_ok (ts : List Tok) (s : List UInt8) (g : Ex → Ex) (x : Ex) (k : Nat) : shut ts s g (some (.ok x k)) = if tx ts k = s then some (.ok (g x) (k + 1)) else some (.bad (pl ts k) 30) := rfl
theorem shut_some {ts : List Tok} {s : List UInt8} {g : Ex → Ex} {A : Option Rs} {z : Rs} (h : shut ts s g A = some z) : ∃ w, A = some w := by
  cases A with
  | none => cases h
  | some w => exact ⟨w, rfl⟩
theorem fuel_up (ts : List Tok) : ∀ f, (∀ d k r, un ts f d k = some r → un ts (f + 1) d k = some r) ∧ (∀ q d k r, bd ts f q d k = some r → bd ts (f + 1) q d k = some r) ∧ (∀ q d x k r, lp ts f q d x k = some r → lp ts (f + 1) q d x k = some r)
  | 0 => ⟨fun d k r h => (by rw [un] at h; cases h), fun q d k r h => (by rw [bd] at h; cases h), fun q d x k r h => (by rw [lp] at h; cases h)⟩
  | f + 1 => by
    obtain ⟨hu, hb, hl⟩ := fuel_up ts f
    refine ⟨fun d k r h => ?_, fun q d k r h => ?_, fun q d x k r h => ?_⟩
    · rw [un] at h ⊢
      by_cases c1 : begE (ts.getD k tok0) = false
      · rw [if_pos c1] at h ⊢; exact h
      rw [if_neg c1] at h ⊢
      by_cases c2 : 60 < d
      · rw [if_pos c2] at h ⊢; exact h
      rw [if_neg c2] at h ⊢
      by_cases c3 : (ts.getD k tok0).1.kind = 2
      · rw [if_pos c3] at h ⊢; exact h
      rw [if_neg c3] at h ⊢
      by_cases c4 : (ts.getD k tok0).1.kind = 1
      · rw [if_pos c4] at h ⊢
        by_cases c5 : tx ts (k + 1) = [91]
        · rw [if_pos c5] at h ⊢
          obtain ⟨w, hw⟩ := shut_some h
          rw [hb _ _ _ _ hw]; rw [hw] at h; exact h
        · rw [if_neg c5] at h ⊢; exact h
      rw [if_neg c4] at h ⊢
      by_cases c6 : tx ts k = [116, 114, 117, 101]
      · rw [if_pos c6] at h ⊢; exact h
      rw [if_neg c6] at h ⊢
      by_cases c7 : tx ts k = [102, 97, 108, 115, 101]
      · rw [if_pos c7] at h ⊢; exact h
      rw [if_neg c7] at h ⊢
      by_cases c8 : tx ts k = [40]
      · rw [if_pos c8] at h ⊢
        obtain ⟨w, hw⟩ := shut_some h
        rw [hb _ _ _ _ hw]; rw [hw] at h; exact h
      rw [if_neg c8] at h ⊢
      cases hw : un ts f (d + 1) (k + 1) with
      | none => rw [hw] at h; cases h
      | some w => rw [hw] at h; rw [hu _ _ _ hw]; exact h
    · rw [bd] at h ⊢
      by_cases c1 : 5 < q
      · rw [if_pos c1] at h ⊢; exact hu _ _ _ h
      rw [if_neg c1] at h ⊢
      cases hw : bd ts f (q + 1) d k with
      | none => rw [hw] at h; cases h
      | some w =>
        rw [hw] at h; rw [hb _ _ _ _ hw]
        cases w with
        | ok x k' => exact hl _ _ _ _ _ h
        | bad a e => exact h
    · rw [lp] at h ⊢
      by_cases c1 : bindsB (tx ts k) = q
      · rw [if_pos c1] at h ⊢
        cases hw : bd ts f (q + 1) d (k + 1) with
        | none => rw [hw] at h; cases h
        | some w =>
          rw [hw] at h; rw [hb _ _ _ _ hw]
          cases w with
          | ok x k' =>
            simp only at h ⊢
            by_cases c2 : q = 3
            · rw [if_pos c2] at h ⊢; exact h
            · rw [if_neg c2] at h ⊢; exact hl _ _ _ _ _ h
          | bad a e => exact h
      · rw [if_neg c1] at h ⊢; exact h
theorem un_le {ts : List Tok} {f g d k : Nat} {r : Rs} (hg : f ≤ g) (h : un ts f d k = some r) : un ts g d k = some r := by
  induction hg with
  | refl => exact h
  | step _ ih => exact (fuel_up ts _).1 _ _ _ ih
theorem bd_le {ts : List Tok} {f g q d k : Nat} {r : Rs} (hg : f ≤ g) (h : bd ts f q d k = some r) : bd ts g q d k = some r := by
  induction hg with
  | refl => exact h
  | step _ ih => exact (fuel_up ts _).2.1 _ _ _ _ ih
theorem lp_le {ts : List Tok} {f g q d k : Nat} {x : Ex} {r : Rs} (hg : f ≤ g) (h : lp ts f q d x k = some r) : lp ts g q d x k = some r := by
  induction hg with
  | refl => exact h
  | step _ ih => exact (fuel_up ts _).2.2 _ _ _ _ _ ih
/-- From L on nothing stands. -/
def Ends (ts : List Tok) (L : Nat) : Prop := ∀ j, L ≤ j → (ts.getD j tok0).1 = ⟨0, [], 0⟩
theorem Ends.beg {ts : List Tok} {L k : Nat} (h : Ends ts L) (hb : ¬ begE (ts.getD k tok0) = false) : k < L := by
  by_cases c : k < L
  · exact c
  · exfalso
    apply hb
    unfold begE
    rw [h k (by omega)]
    decide
theorem Ends.txt {ts : List Tok} {L k : Nat} (h : Ends ts L) (hb : ¬ tx ts k = []) : k < L := by
  by_cases c : k < L
  · exact c
  · exfalso
    apply hb
    unfold tx
    rw [h k (by omega)]
theorem Ends.binds {ts : List Tok} {L k : Nat} (h : Ends ts L) (hb : ¬ bindsB (tx ts k) = 0) : k < L := by
  refine h.txt fun e => hb ?_
  rw [e]; decide
theorem shut_in {ts : List Tok} {L : Nat} (hL : Ends ts L) {s : List UInt8} {g : Ex → Ex} {A : Option Rs} {x : Ex} {k' : Nat} (hs : s ≠ []) (h : shut ts s g A = some (.ok x k')) : ∃ y k, A = some (.ok y k) ∧ k' = k + 1 ∧ k < L ∧ tx ts k = s ∧ x = g y := by
  match A, h with
  | some (.ok y k), h =>
    rw [shut_ok] at h
    by_cases c : tx ts k = s
    · rw [if_pos c] at h
      cases h
      exact ⟨y, k, rfl, rfl, hL.txt (by rw [c]; exact hs), c, rfl⟩
    · rw [if_neg c] at h; cases h
  | some (.bad a e), h => cases h
  | none, h => cases h
theorem ok_in {ts : List Tok} {L : Nat} (hL : Ends ts L) : ∀ f, (∀ d k x k', un ts f d k = some (.ok x k') → k < k' ∧ k' ≤ L) ∧ (∀ q d k x k', bd ts f q d k = some (.ok x k') → k < k' ∧ k' ≤ L) ∧ (∀ q d y k x k', k ≤ L → lp ts f q d y k = some (.ok x k') → k ≤ k' ∧ k' ≤ L)
  | 0 => ⟨fun d k x k' h => (by rw [un] at h; cases h), fun q d k x k' h => (by rw [bd] at h; cases h), fun q d y k x k' _ h => (by rw [lp] at h; cases h)⟩
  | f + 1 => by
    obtain ⟨hu, hb, hl⟩ := ok_in hL f
    refine ⟨fun d k x k' h => ?_, fun q d k x k' h => ?_, fun q d y k x k' hk h => ?_⟩
    · rw [un] at h
      by_cases c1 : begE (ts.getD k tok0) = false
      · rw [if_pos c1] at h; cases h
      rw [if_neg c1] at h
      have hk := hL.beg c1
      by_cases c2 : 60 < d
      · rw [if_pos c2] at h; cases h
      rw [if_neg c2] at h
      by_cases c3 : (ts.getD k tok0).1.kind = 2
      · rw [if_pos c3] at h; cases h; exact ⟨by omega, by omega⟩
      rw [if_neg c3] at h
      by_cases c4 : (ts.getD k tok0).1.kind = 1
      · rw [if_pos c4] at h
        by_cases c5 : tx ts (k + 1) = [91]
        · rw [if_pos c5] at h
          obtain ⟨y, j, hj, rfl, h2, _, _⟩ := shut_in hL (by simp) h
          have := hb _ _ _ _ _ hj
          exact ⟨by omega, by omega⟩
        · rw [if_neg c5] at h; cases h; exact ⟨by omega, by omega⟩
      rw [if_neg c4] at h
      by_cases c6 : tx ts k = [116, 114, 117, 101]
      · rw [if_pos c6] at h; cases h; exact ⟨by omega, by omega⟩
      rw [if_neg c6] at h
      by_cases c7 : tx ts k = [102, 97, 108, 115, 101]
      · rw [if_pos c7] at h; cases h; exact ⟨by omega, by omega⟩
      rw [if_neg c7] at h
      by_cases c8 : tx ts k = [40]
      · rw [if_pos c8] at h
        obtain ⟨y, j, hj, rfl, h2, _, _⟩ := shut_in hL (by simp) h
        have := hb _ _ _ _ _ hj
        exact ⟨by omega, by omega⟩
      rw [if_neg c8] at h
      cases hw : un ts f (d + 1) (k + 1) with
      | none => rw [hw] at h; cases h
      | some w =>
        rw [hw] at h
        cases w with
        | ok y j => cases h; have := hu _ _ _ _ hw; exact ⟨by omega, by omega⟩
        | bad a e => cases h
    · rw [bd] at h
      by_cases c1 : 5 < q
      · rw [if_pos c1] at h; exact hu _ _ _ _ h
      rw [if_neg c1] at h
      cases hw : bd ts f (q + 1) d k with
      | none => rw [hw] at h; cases h
      | some w =>
        rw [hw] at h
        cases w with
        | ok y j =>
          have e1 := hb _ _ _ _ _ hw
          have e2 := hl _ _ _ _ _ _ e1.2 h
          exact ⟨by omega, by omega⟩
        | bad a e => cases h
    · rw [lp] at h
      by_cases c1 : bindsB (tx ts k) = q
      · rw [if_pos c1] at h
        cases hw : bd ts f (q + 1) d (k + 1) with
        | none => rw [hw] at h; cases h
        | some w =>
          rw [hw] at h
          cases w with
          | ok z j =>
            have e1 := hb _ _ _ _ _ hw
            simp only at h
            by_cases c2 : q = 3
            · rw [if_pos c2] at h; cases h; exact ⟨by omega, by omega⟩
            · rw [if_neg c2] at h
              have e2 := hl _ _ _ _ _ _ e1.2 h
              exact ⟨by omega, by omega⟩
          | bad a e => cases h
      · rw [if_neg c1] at h; cases h; exact ⟨by omega, by omega⟩
theorem lp_end {ts : List Tok} {q d k : Nat} {x : Ex} (h : ¬ bindsB (tx ts k) = q) (f : Nat) : lp ts (f + 1) q d x k = some (.ok x k) := by rw [lp, if_neg h]
theorem bd_some {ts : List Tok} {L : Nat} (hL : Ends ts L) {d k : Nat} (hu : ∃ f r, un ts f d k = some r) (hl : ∀ k', k < k' → ∀ q x, 1 ≤ q → ∃ f r, lp ts f q d x k' = some r) : ∀ j q, 1 ≤ q → 6 ≤ q + j → ∃ f r, bd ts f q d k = some r
  | 0, q, _, h => by
    obtain ⟨f, r, e⟩ := hu
    exact ⟨f + 1, r, by rw [bd, if_pos (by omega)]; exact e⟩
  | j + 1, q, h1, h => by
    by_cases c : 5 < q
    · obtain ⟨f, r, e⟩ := hu
      exact ⟨f + 1, r, by rw [bd, if_pos c]; exact e⟩
    · obtain ⟨f, r, e⟩ := bd_some hL hu hl j (q + 1) (by omega) (by omega)
      cases r with
      | bad a er => exact ⟨f + 1, .bad a er, by rw [bd, if_neg c, e]⟩
      | ok x k' =>
        obtain ⟨g, r', e'⟩ := hl k' ((ok_in hL f).2.1 _ _ _ _ _ e).1 q x h1
        refine ⟨f + g + 1, r', ?_⟩
        rw [bd, if_neg c, bd_le (g := f + g) (by omega) e]
        exact lp_le (by omega) e'
theorem shut_tot {ts : List Tok} {s : List UInt8} {g : Ex → Ex} {w : Rs} : ∃ r, shut ts s g (some w) = some r := by
  cases w with
  | ok x k =>
    rw [shut_ok]
    by_cases c : tx ts k = s
    · exact ⟨_, if_pos c⟩
    · exact ⟨_, if_neg c⟩
  | bad a e => exact ⟨_, rfl⟩
theorem total {ts : List Tok} {L : Nat} (hL : Ends ts L) : ∀ m k, L ≤ k + m → (∀ d, ∃ f r, un ts f d k = some r) ∧ (∀ q d, 1 ≤ q → ∃ f r, bd ts f q d k = some r) ∧ (∀ q d x, 1 ≤ q → ∃ f r, lp ts f q d x k = some r) := by
  intro m
  induction m with
  | zero =>
    intro k hk
    have un0 : ∀ d j, k ≤ j → ∃ f r, un ts f d j = some r := fun d j hj => ⟨1, _, by
      rw [un, if_pos]
      by_cases c : begE (ts.getD j tok0) = false
      · exact c
      · have := hL.beg c; omega⟩
    have lp0 : ∀ q d x j, k ≤ j → 1 ≤ q → ∃ f r, lp ts f q d x j = some r := fun q d x j hj hq => ⟨1, _, lp_end (fun e => by have := hL.binds (k := j) (by omega); omega) 0⟩
    exact ⟨fun d => un0 d k (Nat.le_refl _), fun q d hq => bd_some hL (un0 d k (Nat.le_refl _)) (fun k' hk' q x hq => lp0 q d x k' (by omega) hq) 6 q hq (by omega), fun q d x hq => lp0 q d x k (Nat.le_refl _) hq⟩
  | succ m ih =>
    intro k hk
    have hu : ∀ d, ∃ f r, un ts f d k = some r := by
      intro d
      obtain ⟨f1, r1, e1⟩ := (ih (k + 1) (by omega)).2.1 1 (d + 1) (by omega)
      obtain ⟨f2, r2, e2⟩ := (ih (k + 2) (by omega)).2.1 1 (d + 1) (by omega)
      obtain ⟨f3, r3, e3⟩ := (ih (k + 1) (by omega)).1 (d + 1)
      obtain ⟨s1, t1⟩ := shut_tot (ts := ts) (s := [41]) (g := fun x => x) (w := r1)
      obtain ⟨s2, t2⟩ := shut_tot (ts := ts) (s := [93]) (g := fun x => .mk 4 (tx ts k) 0 [x]) (w := r2)
      have q1 : bd ts (f1 + f2 + f3) 1 (d + 1) (k + 1) = some r1 := bd_le (by omega) e1
      have q2 : bd ts (f1 + f2 + f3) 1 (d + 1) (k + 2) = some r2 := bd_le (by omega) e2
      have q3 : un ts (f1 + f2 + f3) (d + 1) (k + 1) = some r3 := un_le (by omega) e3
      refine ⟨f1 + f2 + f3 + 1, ?_⟩
      rw [un, q1, q2, q3, t1, t2]
      split
      · exact ⟨_, rfl⟩
      split
      · exact ⟨_, rfl⟩
      split
      · exact ⟨_, rfl⟩
      split
      · split
        · exact ⟨_, rfl⟩
        · exact ⟨_, rfl⟩
      split
      · exact ⟨_, rfl⟩
      split
      · exact ⟨_, rfl⟩
      split
      · exact ⟨_, rfl⟩
      cases r3 <;> exact ⟨_, rfl⟩
    have hl : ∀ k', k < k' → ∀ d q x, 1 ≤ q → ∃ f r, lp ts f q d x k' = some r := fun k' hk' d q x hq => (ih k' (by omega)).2.2 q d x hq
    refine ⟨hu, fun q d hq => bd_some hL (hu d) (fun k' hk' q x hq => hl k' hk' d q x hq) 6 q hq (by omega), fun q d x hq => ?_⟩
    by_cases c : bindsB (tx ts k) = q
    · obtain ⟨f1, r1, e1⟩ := (ih (k + 1) (by omega)).2.1 (q + 1) d (by omega)
      cases r1 with
      | bad a er => exact ⟨f1 + 1, .bad a er, by rw [lp, if_pos c, e1]⟩
      | ok y j =>
        by_cases c3 : q = 3
        · exact ⟨f1 + 1, _, by rw [lp, if_pos c, e1]; exact if_pos c3⟩
        · have := ((ok_in hL f1).2.1 _ _ _ _ _ e1).1
          obtain ⟨f2, r2, e2⟩ := hl j (by omega) d q (.mk 6 (tx ts k) 0 [x, y]) hq
          refine ⟨f1 + f2 + 1, r2, ?_⟩
          rw [lp, if_pos c, bd_le (g := f1 + f2) (by omega) e1]
          exact (if_neg c3).trans (lp_le (by omega) e2)
    · exact ⟨1, _, lp_end c 0⟩
/-- Reading from any token on comes to something. -/
theorem bd_tot {ts : List Tok} {L : Nat} (hL : Ends ts L) (d k : Nat) : ∃ f r, bd ts f 1 d k = some r := (total hL L k (by omega)).2.1 1 d (by omega)
end Go.Proofs.YtlhklpnkelcnbaaGreatDoor.Sx
