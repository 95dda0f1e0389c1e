/- Layer 3: reading an expression always comes to something: fuel, how far reading goes. Plain. -/
/- Layer 3: the document's reader of expressions: what is asked of it; where an error was noted; operands of one token. -/
import Derived.Test.YtobiedmmjiedlaaZLexK
import Derived.Test.YtobiedmmjiedlaaZSypG
import Derived.Test.YtobiedmmjiedlaaZSynH
namespace Go.Proofs.Ytobiedmmjiedlaa.Sx
open Go.RowKit

theorem shut_ok (ts : List Tok) (s : List UInt8) (g : Ex → Ex) (x : Ex) (k : Nat) : shut ts s g (some (.ok x k)) = if tx ts k = s then some (.ok (g x) (k + 1)) else some (.bad (pl ts k) 30) := rfl
theorem shut_some {ts : List Tok} {s : List UInt8} {g : Ex → Ex} {A : Option Rs} {z : Rs} (h : shut ts s g A = some z) : ∃ w, A = some w := by
  cases A with
  | none => cases h
  | some w => exact ⟨w, rfl⟩
theorem fuel_up (ts : List Tok) : ∀ f, (∀ d k r, un ts f d k = some r → un ts (f + 1) d k = some r) ∧ (∀ q d k r, bd ts f q d k = some r → bd ts (f + 1) q d k = some r) ∧ (∀ q d x k r, lp ts f q d x k = some r → lp ts (f + 1) q d x k = some r)
  | 0 => ⟨fun d k r h => (by rw [un] at h; cases h), fun q d k r h => (by rw [bd] at h; cases h), fun q d x k r h => (by rw [lp] at h; cases h)⟩
  | f + 1 => by
    obtain ⟨hu, hb, hl⟩ := fuel_up ts f
    refine ⟨fun d k r h => ?_, fun q d k r h => ?_, fun q d x k r h => ?_⟩
    · rw [un] at h ⊢
      by_cases c1 : begE (ts.getD k tok0) = false
      · rw [if_pos c1] at h ⊢; exact h
      rw [if_neg c1] at h ⊢
      by_cases c2 : 60 < d
      · rw [if_pos c2] at h ⊢; exact h
      rw [if_neg c2] at h ⊢
      by_cases c3 : (ts.getD k tok0).1.kind = 2
      · rw [if_pos c3] at h ⊢; exact h
      rw [if_neg c3] at h ⊢
      by_cases c4 : (ts.getD k tok0).1.kind = 1
      · rw [if_pos c4] at h ⊢
        by_cases c5 : tx ts (k + 1) = [91]
        · rw [if_pos c5] at h ⊢
          obtain ⟨w, hw⟩ := shut_some h
          rw [hb _ _ _ _ hw]; rw [hw] at h; exact h
        · rw [if_neg c5] at h ⊢; exact h
      rw [if_neg c4] at h ⊢
      by_cases c6 : tx ts k = [116, 114, 117, 101]
      · rw [if_pos c6] at h ⊢; exact h
      rw [if_neg c6] at h ⊢
      by_cases c7 : tx ts k = [102, 97, 108, 115, 101]
      · rw [if_pos c7] at h ⊢; exact h
      rw [if_neg c7] at h ⊢
      by_cases c8 : tx ts k = [40]
      · rw [if_pos c8] at h ⊢
        obtain ⟨w, hw⟩ := shut_some h
        rw [hb _ _ _ _ hw]; rw [hw] at h; exact h
      rw [if_neg c8] at h ⊢
      cases hw : un ts f (d + 1) (k + 1) with
      | none => rw [hw] at h; cases h
      | some w => rw [hw] at h; rw [hu _ _ _ hw]; exact h
    · rw [bd] at h ⊢
      by_cases c1 : 5 < q
      · rw [if_pos c1] at h ⊢; exact hu _ _ _ h
      rw [if_neg c1] at h ⊢
      cases hw : bd ts f (q + 1) d k with
      | none => rw [hw] at h; cases h
      | some w =>
        rw [hw] at h; rw [hb _ _ _ _ hw]
        cases w with
        | ok x k' => exact hl _ _ _ _ _ h
        | bad a e => exact h
    · rw [lp] at h ⊢
      by_cases c1 : bindsB (tx ts k) = q
      · rw [if_pos c1] at h ⊢
        cases hw : bd ts f (q + 1) d (k + 1) with
        | none => rw [hw] at h; cases h
        | some w =>
          rw [hw] at h; rw [hb _ _ _ _ hw]
          cases w with
          | ok x k' =>
            simp only at h ⊢
            by_cases c2 : q = 3
            · rw [if_pos c2] at h ⊢; exact h
            · rw [if_neg c2] at h ⊢; exact hl _ _ _ _ _ h
          | bad a e => exact h
      · rw [if_neg c1] at h ⊢; exact h
theorem un_le {ts : List Tok} {f g d k : Nat} {r : Rs} (hg : f ≤ g) (h : un ts f d k = some r) : un ts g d k = some r := by
  induction hg with
  | refl => exact h
  | step _ ih => exact (fuel_up ts _).1 _ _ _ ih
theorem bd_le {ts : List Tok} {f g q d k : Nat} {r : Rs} (hg : f ≤ g) (h : bd ts f q d k = some r) : bd ts g q d k = some r := by
  induction hg with
  | refl => exact h
  | step _ ih => exact (fuel_up ts _).2.1 _ _ _ _ ih
theorem lp_le {ts : List Tok} {f g q d k : Nat} {x : Ex} {r : Rs} (hg : f ≤ g) (h : lp ts f q d x k = some r) : lp ts g q d x k = some r := by
  induction hg with
  | refl => exact h
  | step _ ih => exact (fuel_up ts _).2.2 _ _ _ _ _ ih
/-- From L on nothing stands. -/
def Ends (ts : List Tok) (L : Nat) : Prop := ∀ j, L ≤ j → (ts.getD j tok0).1 = ⟨0, [], 0⟩
theorem Ends.beg {ts : List Tok} {L k : Nat} (h : Ends ts L) (hb : ¬ begE (ts.getD k tok0) = false) : k < L := by
  by_cases c : k < L
  · exact c
  · exfalso
    apply hb
    unfold begE
    rw [h k (by omega)]
    decide
theorem Ends.txt {ts : List Tok} {L k : Nat} (h : Ends ts L) (hb : ¬ tx ts k = []) : k < L := by
  by_cases c : k < L
  · exact c
  · exfalso
    apply hb
    unfold tx
    rw [h k (by omega)]
theorem Ends.binds {ts : List Tok} {L k : Nat} (h : Ends ts L) (hb : ¬ bindsB (tx ts k) = 0) : k < L := by
  refine h.txt fun e => hb ?_
  rw [e]; decide
theorem shut_in {ts : List Tok} {L : Nat} (hL : Ends ts L) {s : List UInt8} {g : Ex → Ex} {A : Option Rs} {x : Ex} {k' : Nat} (hs : s ≠ []) (h : shut ts s g A = some (.ok x k')) : ∃ y k, A = some (.ok y k) ∧ k' = k + 1 ∧ k < L ∧ tx ts k = s ∧ x = g y := by
  match A, h with
  | some (.ok y k), h =>
    rw [shut_ok] at h
    by_cases c : tx ts k = s
    · rw [if_pos c] at h
      cases h
      exact ⟨y, k, rfl, rfl, hL.txt (by rw [c]; exact hs), c, rfl⟩
    · rw [if_neg c] at h; cases h
  | some (.bad a e), h => cases h
  | none, h => cases h
theorem ok_in {ts : List Tok} {L : Nat} (hL : Ends ts L) : ∀ f, (∀ d k x k', un ts f d k = some (.ok x k') → k < k' ∧ k' ≤ L) ∧ (∀ q d k x k', bd ts f q d k = some (.ok x k') → k < k' ∧ k' ≤ L) ∧ (∀ q d y k x k', k ≤ L → lp ts f q d y k = some (.ok x k') → k ≤ k' ∧ k' ≤ L)
  | 0 => ⟨fun d k x k' h => (by rw [un] at h; cases h), fun q d k x k' h => (by rw [bd] at h; cases h), fun q d y k x k' _ h => (by rw [lp] at h; cases h)⟩
  | f + 1 => by
    obtain ⟨hu, hb, hl⟩ := ok_in hL f
    refine ⟨fun d k x k' h => ?_, fun q d k x k' h => ?_, fun q d y k x k' hk h => ?_⟩
    · rw [un] at h
      by_cases c1 : begE (ts.getD k tok0) = false
      · rw [if_pos c1] at h; cases h
      rw [if_neg c1] at h
      have hk := hL.beg c1
      by_cases c2 : 60 < d
      · rw [if_pos c2] at h; cases h
      rw [if_neg c2] at h
      by_cases c3 : (ts.getD k tok0).1.kind = 2
      · rw [if_pos c3] at h; cases h; exact ⟨by omega, by omega⟩
      rw [if_neg c3] at h
      by_cases c4 : (ts.getD k tok0).1.kind = 1
      · rw [if_pos c4] at h
        by_cases c5 : tx ts (k + 1) = [91]
        · rw [if_pos c5] at h
          obtain ⟨y, j, hj, rfl, h2, _, _⟩ := shut_in hL (by simp) h
          have := hb _ _ _ _ _ hj
          exact ⟨by omega, by omega⟩
        · rw [if_neg c5] at h; cases h; exact ⟨by omega, by omega⟩
      rw [if_neg c4] at h
      by_cases c6 : tx ts k = [116, 114, 117, 101]
      · rw [if_pos c6] at h; cases h; exact ⟨by omega, by omega⟩
      rw [if_neg c6] at h
      by_cases c7 : tx ts k = [102, 97, 108, 115, 101]
      · rw [if_pos c7] at h; cases h; exact ⟨by omega, by omega⟩
      rw [if_neg c7] at h
      by_cases c8 : tx ts k = [40]
      · rw [if_pos c8] at h
        obtain ⟨y, j, hj, rfl, h2, _, _⟩ := shut_in hL (by simp) h
        have := hb _ _ _ _ _ hj
        exact ⟨by omega, by omega⟩
      rw [if_neg c8] at h
      cases hw : un ts f (d + 1) (k + 1) with
      | none => rw [hw] at h; cases h
      | some w =>
        rw [hw] at h
        cases w with
        | ok y j => cases h; have := hu _ _ _ _ hw; exact ⟨by omega, by omega⟩
        | bad a e => cases h
    · rw [bd] at h
      by_cases c1 : 5 < q
      · rw [if_pos c1] at h; exact hu _ _ _ _ h
      rw [if_neg c1] at h
      cases hw : bd ts f (q + 1) d k with
      | none => rw [hw] at h; cases h
      | some w =>
        rw [hw] at h
        cases w with
        | ok y j =>
          have e1 := hb _ _ _ _ _ hw
          have e2 := hl _ _ _ _ _ _ e1.2 h
          exact ⟨by omega, by omega⟩
        | bad a e => cases h
    · rw [lp] at h
      by_cases c1 : bindsB (tx ts k) = q
      · rw [if_pos c1] at h
        cases hw : bd ts f (q + 1) d (k + 1) with
        | none => rw [hw] at h; cases h
        | some w =>
          rw [hw] at h
          cases w with
          | ok z j =>
            have e1 := hb _ _ _ _ _ hw
            simp only at h
            by_cases c2 : q = 3
            · rw [if_pos c2] at h; cases h; exact ⟨by omega, by omega⟩
            · rw [if_neg c2] at h
              have e2 := hl _ _ _ _ _ _ e1.2 h
              exact ⟨by omega, by omega⟩
          | bad a e => cases h
      · rw [if_neg c1] at h; cases h; exact ⟨by omega, by omega⟩
theorem lp_end {ts : List Tok} {q d k : Nat} {x : Ex} (h : ¬ bindsB (tx ts k) = q) (f : Nat) : lp ts (f + 1) q d x k = some (.ok x k) := by rw [lp, if_neg h]
theorem bd_some {ts : List Tok} {L : Nat} (hL : Ends ts L) {d k : Nat} (hu : ∃ f r, un ts f d k = some r) (hl : ∀ k', k < k' → ∀ q x, 1 ≤ q → ∃ f r, lp ts f q d x k' = some r) : ∀ j q, 1 ≤ q → 6 ≤ q + j → ∃ f r, bd ts f q d k = some r
  | 0, q, _, h => by
    obtain ⟨f, r, e⟩ := hu
    exact ⟨f + 1, r, by rw [bd, if_pos (by omega)]; exact e⟩
  | j + 1, q, h1, h => by
    by_cases c : 5 < q
    · obtain ⟨f, r, e⟩ := hu
      exact ⟨f + 1, r, by rw [bd, if_pos c]; exact e⟩
    · obtain ⟨f, r, e⟩ := bd_some hL hu hl j (q + 1) (by omega) (by omega)
      cases r with
      | bad a er => exact ⟨f + 1, .bad a er, by rw [bd, if_neg c, e]⟩
      | ok x k' =>
        obtain ⟨g, r', e'⟩ := hl k' ((ok_in hL f).2.1 _ _ _ _ _ e).1 q x h1
        refine ⟨f + g + 1, r', ?_⟩
        rw [bd, if_neg c, bd_le (g := f + g) (by omega) e]
        exact lp_le (by omega) e'
theorem shut_tot {ts : List Tok} {s : List UInt8} {g : Ex → Ex} {w : Rs} : ∃ r, shut ts s g (some w) = some r := by
  cases w with
  | ok x k =>
    rw [shut_ok]
    by_cases c : tx ts k = s
    · exact ⟨_, if_pos c⟩
    · exact ⟨_, if_neg c⟩
  | bad a e => exact ⟨_, rfl⟩
theorem total {ts : List Tok} {L : Nat} (hL : Ends ts L) : ∀ m k, L ≤ k + m → (∀ d, ∃ f r, un ts f d k = some r) ∧ (∀ q d, 1 ≤ q → ∃ f r, bd ts f q d k = some r) ∧ (∀ q d x, 1 ≤ q → ∃ f r, lp ts f q d x k = some r) := by
  intro m
  induction m with
  | zero =>
    intro k hk
    have un0 : ∀ d j, k ≤ j → ∃ f r, un ts f d j = some r := fun d j hj => ⟨1, _, by
      rw [un, if_pos]
      by_cases c : begE (ts.getD j tok0) = false
      · exact c
      · have := hL.beg c; omega⟩
    have lp0 : ∀ q d x j, k ≤ j → 1 ≤ q → ∃ f r, lp ts f q d x j = some r := fun q d x j hj hq => ⟨1, _, lp_end (fun e => by have := hL.binds (k := j) (by omega); omega) 0⟩
    exact ⟨fun d => un0 d k (Nat.le_refl _), fun q d hq => bd_some hL (un0 d k (Nat.le_refl _)) (fun k' hk' q x hq => lp0 q d x k' (by omega) hq) 6 q hq (by omega), fun q d x hq => lp0 q d x k (Nat.le_refl _) hq⟩
  | succ m ih =>
    intro k hk
    have hu : ∀ d, ∃ f r, un ts f d k = some r := by
      intro d
      obtain ⟨f1, r1, e1⟩ := (ih (k + 1) (by omega)).2.1 1 (d + 1) (by omega)
      obtain ⟨f2, r2, e2⟩ := (ih (k + 2) (by omega)).2.1 1 (d + 1) (by omega)
      obtain ⟨f3, r3, e3⟩ := (ih (k + 1) (by omega)).1 (d + 1)
      obtain ⟨s1, t1⟩ := shut_tot (ts := ts) (s := [41]) (g := fun x => x) (w := r1)
      obtain ⟨s2, t2⟩ := shut_tot (ts := ts) (s := [93]) (g := fun x => .mk 4 (tx ts k) 0 [x]) (w := r2)
      have q1 : bd ts (f1 + f2 + f3) 1 (d + 1) (k + 1) = some r1 := bd_le (by omega) e1
      have q2 : bd ts (f1 + f2 + f3) 1 (d + 1) (k + 2) = some r2 := bd_le (by omega) e2
      have q3 : un ts (f1 + f2 + f3) (d + 1) (k + 1) = some r3 := un_le (by omega) e3
      refine ⟨f1 + f2 + f3 + 1, ?_⟩
      rw [un, q1, q2, q3, t1, t2]
      split
      · exact ⟨_, rfl⟩
      split
      · exact ⟨_, rfl⟩
      split
      · exact ⟨_, rfl⟩
      split
      · split
        · exact ⟨_, rfl⟩
        · exact ⟨_, rfl⟩
      split
      · exact ⟨_, rfl⟩
      split
      · exact ⟨_, rfl⟩
      split
      · exact ⟨_, rfl⟩
      cases r3 <;> exact ⟨_, rfl⟩
    have hl : ∀ k', k < k' → ∀ d q x, 1 ≤ q → ∃ f r, lp ts f q d x k' = some r := fun k' hk' d q x hq => (ih k' (by omega)).2.2 q d x hq
    refine ⟨hu, fun q d hq => bd_some hL (hu d) (fun k' hk' q x hq => hl k' hk' d q x hq) 6 q hq (by omega), fun q d x hq => ?_⟩
    by_cases c : bindsB (tx ts k) = q
    · obtain ⟨f1, r1, e1⟩ := (ih (k + 1) (by omega)).2.1 (q + 1) d (by omega)
      cases r1 with
      | bad a er => exact ⟨f1 + 1, .bad a er, by rw [lp, if_pos c, e1]⟩
      | ok y j =>
        by_cases c3 : q = 3
        · exact ⟨f1 + 1, _, by rw [lp, if_pos c, e1]; exact if_pos c3⟩
        · have := ((ok_in hL f1).2.1 _ _ _ _ _ e1).1
          obtain ⟨f2, r2, e2⟩ := hl j (by omega) d q (.mk 6 (tx ts k) 0 [x, y]) hq
          refine ⟨f1 + f2 + 1, r2, ?_⟩
          rw [lp, if_pos c, bd_le (g := f1 + f2) (by omega) e1]
          exact (if_neg c3).trans (lp_le (by omega) e2)
    · exact ⟨1, _, lp_end c 0⟩
/-- Reading from any token on comes to something. -/
theorem bd_tot {ts : List Tok} {L : Nat} (hL : Ends ts L) (d k : Nat) : ∃ f r, bd ts f 1 d k = some r := (total hL L k (by omega)).2.1 1 d (by omega)
end Go.Proofs.Ytobiedmmjiedlaa.Sx
namespace Go.Proofs.Ytobiedmmjiedlaa.Sx
open Go.RowKit

/-- From x, read up to the token k, the loops of the levels m, m - 1, .. n come to r (fuel below F). -/
def Ch (ts : List Tok) (F d n : Nat) : Nat → Ex → Nat → Rs → Prop
  | 0, x, k, r => r = .ok x k
  | m + 1, x, k, r => (m + 1 < n ∧ r = .ok x k) ∨ (n ≤ m + 1 ∧ ∃ g r1, g < F ∧ lp ts g (m + 1) d x k = some r1 ∧ ((∃ x' k', r1 = .ok x' k' ∧ Ch ts F d n m x' k' r) ∨ (∃ a e, r1 = .bad a e ∧ r = .bad a e)))
theorem Ch.low {ts : List Tok} {F d n : Nat} : ∀ {m : Nat} {x : Ex} {k : Nat}, m < n → Ch ts F d n m x k (.ok x k)
  | 0, _, _, _ => rfl
  | _ + 1, _, _, h => .inl ⟨h, rfl⟩
theorem Ch.snoc {ts : List Tok} {F d q : Nat} {x1 : Ex} {k1 g : Nat} {r : Rs} (hq : 1 ≤ q) (hg : g < F) (hl : lp ts g q d x1 k1 = some r) : ∀ {m : Nat} {x : Ex} {k : Nat}, q ≤ m → Ch ts F d (q + 1) m x k (.ok x1 k1) → Ch ts F d q m x k r
  | 0, x, k, h, _ => by omega
  | m + 1, x, k, h, hc => by
    rcases hc with ⟨h1, h2⟩ | ⟨h1, g', r1, h2, h3, h4⟩
    · have e : m + 1 = q := by omega
      cases h2
      refine .inr ⟨by omega, g, r, hg, by rw [e]; exact hl, ?_⟩
      cases r with
      | ok x' k' => exact .inl ⟨x', k', rfl, Ch.low (by omega)⟩
      | bad a e => exact .inr ⟨a, e, rfl, rfl⟩
    · refine .inr ⟨by omega, g', r1, h2, h3, ?_⟩
      rcases h4 with ⟨x', k', e1, h5⟩ | ⟨a, e, e1, h5⟩
      · exact .inl ⟨x', k', e1, Ch.snoc hq hg hl (by omega) h5⟩
      · cases h5
theorem Ch.bad {ts : List Tok} {F d q : Nat} {a e : Int} : ∀ {m : Nat} {x : Ex} {k : Nat}, Ch ts F d (q + 1) m x k (.bad a e) → Ch ts F d q m x k (.bad a e)
  | 0, x, k, hc => by cases hc
  | m + 1, x, k, hc => by
    rcases hc with ⟨h1, h2⟩ | ⟨h1, g', r1, h2, h3, h4⟩
    · cases h2
    · refine .inr ⟨by omega, g', r1, h2, h3, ?_⟩
      rcases h4 with ⟨x', k', e1, h5⟩ | ⟨a, e, e1, h5⟩
      · exact .inl ⟨x', k', e1, Ch.bad h5⟩
      · exact .inr ⟨a, e, e1, h5⟩
theorem Ch.more {ts : List Tok} {F G d q : Nat} {r : Rs} (hF : F ≤ G) : ∀ {m : Nat} {x : Ex} {k : Nat}, Ch ts F d q m x k r → Ch ts G d q m x k r
  | 0, x, k, hc => hc
  | m + 1, x, k, hc => by
    rcases hc with h | ⟨h1, g', r1, h2, h3, h4⟩
    · exact .inl h
    · refine .inr ⟨h1, g', r1, by omega, h3, ?_⟩
      rcases h4 with ⟨x', k', e1, h5⟩ | h5
      · exact .inl ⟨x', k', e1, Ch.more hF h5⟩
      · exact .inr h5
/-- A reading by levels is one operand, and the loops. -/
theorem bd_chain {ts : List Tok} {d k : Nat} : ∀ (j f q : Nat) (r : Rs), 1 ≤ q → q + j = 6 → bd ts f q d k = some r → ∃ g r0, g < f ∧ un ts g d k = some r0 ∧ ((∃ x k', r0 = .ok x k' ∧ Ch ts f d q 5 x k' r) ∨ (∃ a e, r0 = .bad a e ∧ r = .bad a e))
  | _, 0, _, _, _, _, h => by rw [bd] at h; cases h
  | 0, f + 1, q, r, h1, h6, h => by
    rw [bd, if_pos (by omega)] at h
    refine ⟨f, r, Nat.lt_succ_self _, h, ?_⟩
    cases r with
    | ok x k' => exact .inl ⟨x, k', rfl, Ch.low (by omega)⟩
    | bad a e => exact .inr ⟨a, e, rfl, rfl⟩
  | j + 1, f + 1, q, r, h1, h6, h => by
    rw [bd, if_neg (by omega)] at h
    cases hw : bd ts f (q + 1) d k with
    | none => rw [hw] at h; cases h
    | some w =>
      rw [hw] at h
      obtain ⟨g, r0, hg, hu, hor⟩ := bd_chain j f (q + 1) w (by omega) (by omega) hw
      refine ⟨g, r0, by omega, hu, ?_⟩
      rcases hor with ⟨x, k', e1, h5⟩ | ⟨a, e, e1, h5⟩
      · refine .inl ⟨x, k', e1, ?_⟩
        cases w with
        | ok x1 k1 => exact Ch.snoc h1 (Nat.lt_succ_self _) h (by omega) (h5.more (Nat.le_succ _))
        | bad a e => cases h; exact (h5.bad).more (Nat.le_succ _)
      · subst h5
        cases h
        exact .inr ⟨a, e, e1, rfl⟩
/-- Behind x stands no sign of these levels. -/
theorem Ch.stop {ts : List Tok} {F d n : Nat} {r : Rs} : ∀ {m : Nat} {x : Ex} {k : Nat}, (bindsB (tx ts k) < n ∨ m < bindsB (tx ts k)) → Ch ts F d n m x k r → r = .ok x k
  | 0, x, k, _, hc => hc
  | m + 1, x, k, hs, hc => by
    rcases hc with h | ⟨h1, g, r1, h2, h3, h4⟩
    · exact h.2
    · cases g with
      | zero => rw [lp] at h3; cases h3
      | succ g =>
        rw [lp, if_neg (by omega)] at h3
        cases h3
        rcases h4 with ⟨x', k', e1, h5⟩ | ⟨a, e, e1, _⟩
        · cases e1
          exact Ch.stop (by omega) h5
        · cases e1
/-- Behind x stands a sign of these levels. -/
theorem Ch.go {ts : List Tok} {F d n : Nat} {r : Rs} : ∀ {m : Nat} {x : Ex} {k : Nat}, n ≤ bindsB (tx ts k) → bindsB (tx ts k) ≤ m → 1 ≤ n → Ch ts F d n m x k r →
    ∃ g r1, g + 1 < F ∧ bd ts g (bindsB (tx ts k) + 1) d (k + 1) = some r1 ∧ ((∃ y k', r1 = .ok y k' ∧ Ch ts F d n (if bindsB (tx ts k) = 3 then 2 else bindsB (tx ts k)) (.mk 6 (tx ts k) 0 [x, y]) k' r) ∨ (∃ a e, r1 = .bad a e ∧ r = .bad a e))
  | 0, x, k, h1, h2, h3, hc => by omega
  | m + 1, x, k, h1, h2, h3, hc => by
    rcases hc with h | ⟨h4, g, r1, h5, h6, h7⟩
    · omega
    · cases g with
      | zero => rw [lp] at h6; cases h6
      | succ g =>
        rw [lp] at h6
        by_cases c : bindsB (tx ts k) = m + 1
        · rw [if_pos c] at h6
          rw [c]
          cases hw : bd ts g (m + 1 + 1) d (k + 1) with
          | none => rw [hw] at h6; cases h6
          | some w =>
            rw [hw] at h6
            refine ⟨g, w, h5, hw, ?_⟩
            cases w with
            | bad a e =>
              cases h6
              rcases h7 with ⟨x', k', e1, _⟩ | ⟨a, e, e1, h8⟩
              · cases e1
              · cases e1; exact .inr ⟨_, _, rfl, h8⟩
            | ok y k' =>
              refine .inl ⟨y, k', rfl, ?_⟩
              simp only at h6
              by_cases c3 : m + 1 = 3
              · rw [if_pos c3] at h6 ⊢
                cases h6
                rcases h7 with ⟨x', k', e1, h8⟩ | ⟨a, e, e1, h8⟩
                · cases e1
                  obtain rfl : m = 2 := by omega
                  exact h8
                · cases e1
              · rw [if_neg c3] at h6 ⊢
                exact .inr ⟨h4, g, r1, by omega, h6, h7⟩
        · rw [if_neg c] at h6
          cases h6
          rcases h7 with ⟨x', k', e1, h8⟩ | ⟨a, e, e1, h8⟩
          · cases e1
            exact Ch.go h1 (by omega) h3 h8
          · cases e1
end Go.Proofs.Ytobiedmmjiedlaa.Sx
namespace Go.Proofs.Ytobiedmmjiedlaa
open Go.RowKit

/-- What the errors of reading are. -/
theorem Sx.errs (ts : List Tok) : ∀ f, (∀ d k a er, Sx.un ts f d k = some (.bad a er) → er = 30 ∨ er = 31) ∧ (∀ q d k a er, Sx.bd ts f q d k = some (.bad a er) → er = 30 ∨ er = 31) ∧ (∀ q d y k a er, Sx.lp ts f q d y k = some (.bad a er) → er = 30 ∨ er = 31)
  | 0 => ⟨fun d k x k' h => (by rw [Sx.un] at h; cases h), fun q d k x k' h => (by rw [Sx.bd] at h; cases h), fun q d y k x k' h => (by rw [Sx.lp] at h; cases h)⟩
  | f + 1 => by
    obtain ⟨hu, hb, hl⟩ := Sx.errs ts f
    have sh : ∀ (s : List UInt8) (g : Sx.Ex → Sx.Ex) (A : Option Sx.Rs) (a er : Int), (∀ a er, A = some (.bad a er) → er = 30 ∨ er = 31) → Sx.shut ts s g A = some (.bad a er) → er = 30 ∨ er = 31 := by
      intro s g A a er hA h
      match A, h, hA with
      | some (.ok y k), h, _ =>
        rw [Sx.shut_ok] at h
        by_cases c : Sx.tx ts k = s
        · rw [if_pos c] at h; cases h
        · rw [if_neg c] at h; cases h; exact .inl rfl
      | some (.bad a' e'), h, hA => cases h; exact hA _ _ rfl
      | none, h, _ => cases h
    refine ⟨fun d k a er h => ?_, fun q d k a er h => ?_, fun q d y k a er h => ?_⟩
    · rw [Sx.un] at h
      by_cases c1 : Sx.begE (ts.getD k tok0) = false
      · rw [if_pos c1] at h; cases h; exact .inl rfl
      rw [if_neg c1] at h
      by_cases c2 : 60 < d
      · rw [if_pos c2] at h; cases h; exact .inr rfl
      rw [if_neg c2] at h
      by_cases c3 : (ts.getD k tok0).1.kind = 2
      · rw [if_pos c3] at h; cases h
      rw [if_neg c3] at h
      by_cases c4 : (ts.getD k tok0).1.kind = 1
      · rw [if_pos c4] at h
        by_cases c5 : Sx.tx ts (k + 1) = [91]
        · rw [if_pos c5] at h
          exact sh _ _ _ _ _ (fun a er e => hb _ _ _ _ _ e) h
        · rw [if_neg c5] at h; cases h
      rw [if_neg c4] at h
      by_cases c6 : Sx.tx ts k = [116, 114, 117, 101]
      · rw [if_pos c6] at h; cases h
      rw [if_neg c6] at h
      by_cases c7 : Sx.tx ts k = [102, 97, 108, 115, 101]
      · rw [if_pos c7] at h; cases h
      rw [if_neg c7] at h
      by_cases c8 : Sx.tx ts k = [40]
      · rw [if_pos c8] at h
        exact sh _ _ _ _ _ (fun a er e => hb _ _ _ _ _ e) h
      rw [if_neg c8] at h
      cases hw : Sx.un ts f (d + 1) (k + 1) with
      | none => rw [hw] at h; cases h
      | some w =>
        rw [hw] at h
        cases w with
        | ok y j => cases h
        | bad a e => cases h; exact hu _ _ _ _ hw
    · rw [Sx.bd] at h
      by_cases c1 : 5 < q
      · rw [if_pos c1] at h; exact hu _ _ _ _ h
      rw [if_neg c1] at h
      cases hw : Sx.bd ts f (q + 1) d k with
      | none => rw [hw] at h; cases h
      | some w =>
        rw [hw] at h
        cases w with
        | ok y j => exact hl _ _ _ _ _ _ h
        | bad a e => cases h; exact hb _ _ _ _ _ hw
    · rw [Sx.lp] at h
      by_cases c1 : Sx.bindsB (Sx.tx ts k) = q
      · rw [if_pos c1] at h
        cases hw : Sx.bd ts f (q + 1) d (k + 1) with
        | none => rw [hw] at h; cases h
        | some w =>
          rw [hw] at h
          cases w with
          | ok z j =>
            simp only at h
            by_cases c2 : q = 3
            · rw [if_pos c2] at h; cases h
            · rw [if_neg c2] at h; exact hl _ _ _ _ _ _ h
          | bad a e => cases h; exact hb _ _ _ _ _ hw
      · rw [if_neg c1] at h; cases h
end Go.Proofs.Ytobiedmmjiedlaa

namespace Go.Proofs.Ytobiedmmjiedlaa
open Go.RowKit

/-- What the document's reading has come to. -/
def PostR (p b o cap : Nat) (ts : List Tok) (w : World) : Sx.Rs → Ending → World → Prop
  | .ok x k', e, w' => ∃ kk nn mm sa sn sc ll, x = .mk kk nn mm ll ∧ e = .returned (.agg #[.int .i64 kk, .string ⟨(nn : List UInt8).toArray⟩, .int .i64 mm, .slice sa sn sc]) ∧ ExS (fun g => w.heap.size ≤ g) w' (.slice sa sn sc) ll ∧ Ri w' p b o cap ts k' 0 0 ∧ Kp p w w'
  | .bad a er, e, w' => ∃ kk nn mm sa sn sc k', e = .returned (.agg #[.int .i64 kk, .string ⟨(nn : List UInt8).toArray⟩, .int .i64 mm, .slice sa sn sc]) ∧ Ri w' p b o cap ts k' er a ∧ Kp p w w'
theorem Kp.fill {p : Nat} {w w' : World} (h : Kp p w w') {g : Nat} (hg : w.heap.size ≤ g) (b0 b1 b2 b3 : Value) : Kp p w (Go.Proofs.Ytobiedmmjiedlaa.fill w' g b0 b1 b2 b3) := (((h.set (a := ⟨g, 0, none⟩) (.inl hg) _).set (a := ⟨g, 1, none⟩) (.inl hg) _).set (a := ⟨g, 2, none⟩) (.inl hg) _).set (a := ⟨g, 3, none⟩) (.inl hg) _
theorem PostR.of_fill {w wc : World} {p b o cap : Nat} {ts : List Tok} {k' : Nat} {kk m : Int} {n : List UInt8} {sa : Option Addr} {sn sc : Nat} {l : List Sx.Ex} (M : Kp p w wc) (RD : Ri wc p b o cap ts k' 0 0) (hp : p < w.heap.size) (hb : b < w.heap.size) (hs : ExS (fun g => w.heap.size < g) wc (.slice sa sn sc) l) :
    PostR p b o cap ts w (.ok (.mk kk n m l) k') (.returned (.agg #[.int .i64 kk, .string ⟨n.toArray⟩, .int .i64 m, .slice sa sn sc])) (fill wc w.heap.size (.int .i64 kk) (.string ⟨n.toArray⟩) (.int .i64 m) (.slice sa sn sc)) :=
  ⟨_, _, _, _, _, _, _, rfl, rfl, (hs.fill (Nat.lt_irrefl _) _ _ _ _).mono (fun _ _ h => Nat.le_of_lt h), RD.fill (by omega) (by omega) _ _ _ _, M.fill (Nat.le_refl _) _ _ _ _⟩
theorem PostR.of_fillA {w wc : World} {p b o cap : Nat} {ts : List Tok} {k' : Nat} {kk m : Int} {n : List UInt8} {sa : Option Addr} {sn sc : Nat} {l : List Sx.Ex} {blk : Obj} (M : Kp p w wc) (RD : Ri wc p b o cap ts k' 0 0) (hp : p < w.heap.size) (hb : b < w.heap.size)
    (hs : ExS (fun g => w.heap.size < g) ((fill wc w.heap.size (.int .i64 kk) (.string ⟨n.toArray⟩) (.int .i64 m) (.slice sa sn sc)).alloc blk) (.slice sa sn sc) l) :
    PostR p b o cap ts w (.ok (.mk kk n m l) k') (.returned (.agg #[.int .i64 kk, .string ⟨n.toArray⟩, .int .i64 m, .slice sa sn sc])) ((fill wc w.heap.size (.int .i64 kk) (.string ⟨n.toArray⟩) (.int .i64 m) (.slice sa sn sc)).alloc blk) :=
  ⟨_, _, _, _, _, _, _, rfl, rfl, hs.mono (fun _ _ h => Nat.le_of_lt h), (RD.fill (by omega) (by omega) _ _ _ _).later (box_below _ _), (M.fill (Nat.le_refl _) _ _ _ _).alloc _⟩
theorem PostR.bad_fill {w wc : World} {p b o cap : Nat} {ts : List Tok} {k' : Nat} {kk m er a : Int} {n : List UInt8} {sa : Option Addr} {sn sc : Nat} (M : Kp p w wc) (RD : Ri wc p b o cap ts k' er a) (hp : p < w.heap.size) (hb : b < w.heap.size) :
    PostR p b o cap ts w (.bad a er) (.returned (.agg #[.int .i64 kk, .string ⟨n.toArray⟩, .int .i64 m, .slice sa sn sc])) (fill wc w.heap.size (.int .i64 kk) (.string ⟨n.toArray⟩) (.int .i64 m) (.slice sa sn sc)) :=
  ⟨_, _, _, _, _, _, _, rfl, RD.fill (by omega) (by omega) _ _ _ _, M.fill (Nat.le_refl _) _ _ _ _⟩
theorem PostR.bad_fillA {w wc : World} {p b o cap : Nat} {ts : List Tok} {k' : Nat} {kk m er a : Int} {n : List UInt8} {sa : Option Addr} {sn sc : Nat} {blk : Obj} (M : Kp p w wc) (RD : Ri wc p b o cap ts k' er a) (hp : p < w.heap.size) (hb : b < w.heap.size) :
    PostR p b o cap ts w (.bad a er) (.returned (.agg #[.int .i64 kk, .string ⟨n.toArray⟩, .int .i64 m, .slice sa sn sc])) ((fill wc w.heap.size (.int .i64 kk) (.string ⟨n.toArray⟩) (.int .i64 m) (.slice sa sn sc)).alloc blk) :=
  ⟨_, _, _, _, _, _, _, rfl, (RD.fill (by omega) (by omega) _ _ _ _).later (box_below _ _), (M.fill (Nat.le_refl _) _ _ _ _).alloc _⟩
/-- What is asked of one, tight, expr. -/
def UCr (p b o cap : Nat) (ts : List Tok) (f : Nat) : Prop := ∀ (d k : Nat) (r : Sx.Rs) (w : World), d ≤ 60 → Ri w p b o cap ts k 0 0 → Sx.un ts f d k = some r →
  Calls Try.prog 99 #[.pointer (some ⟨p, 0, none⟩), .int .i64 (d : Int)] w (PostR p b o cap ts w r)
def TCr (p b o cap : Nat) (ts : List Tok) (f : Nat) : Prop := ∀ (n d k : Nat) (r : Sx.Rs) (w : World), 1 ≤ n → n ≤ 6 → d ≤ 60 → Ri w p b o cap ts k 0 0 → Sx.bd ts f n d k = some r →
  Calls Try.prog 98 #[.pointer (some ⟨p, 0, none⟩), .int .i64 (n : Int), .int .i64 (d : Int)] w (PostR p b o cap ts w r)
def ECr (p b o cap : Nat) (ts : List Tok) (f : Nat) : Prop := ∀ (d k : Nat) (r : Sx.Rs) (w : World), d ≤ 61 → Ri w p b o cap ts k 0 0 → Sx.bd ts f 1 d k = some r →
  Calls Try.prog 93 #[.pointer (some ⟨p, 0, none⟩), .int .i64 (d : Int)] w (PostR p b o cap ts w r)
set_option maxRecDepth 100000 in
set_option maxHeartbeats 1000000 in
theorem rone_err (w : World) (p b o cap : Nat) (ts : List Tok) (k : Nat) (er a d : Int) (h : Ri w p b o cap ts k er a) (he : ¬ er = 0) :
    Calls Try.prog 99 #[.pointer (some ⟨p, 0, none⟩), .int .i64 d] w fun e w' => e = .returned (.agg #[.int .i64 0, .string ⟨#[]⟩, .int .i64 0, .slice none 0 0]) ∧ Below w.heap.size w w' := by
  have r2 := h.ce
  have hp := h.lt
  have be : (er == 0) = false := beq_eq_false_iff_ne.2 he
  clear h he
  go_enter Try.func99, Try.ntmps99
  go_wp2_with fail
  refine bodyPost_ret (v := .agg #[.int .i64 0, .string ⟨#[]⟩, .int .i64 0, .slice none 0 0]) (by simp [results, Try.results99, go_sem]) rfl ⟨rfl, ?_⟩
  go_grown
set_option maxRecDepth 100000 in
set_option maxHeartbeats 1000000 in
theorem rtight_err (w : World) (p b o cap : Nat) (ts : List Tok) (k : Nat) (er a n d : Int) (h : Ri w p b o cap ts k er a) (he : ¬ er = 0) :
    Calls Try.prog 98 #[.pointer (some ⟨p, 0, none⟩), .int .i64 n, .int .i64 d] w fun e w' => e = .returned (.agg #[.int .i64 0, .string ⟨#[]⟩, .int .i64 0, .slice none 0 0]) ∧ Below w.heap.size w w' := by
  have H : Hid _ := h
  have E1 : Hid (∀ W, Below w.heap.size w W → _) := fun W hW => rone_err W p b o cap ts k er a d (h.later hW) he
  have be : (er == 0) = false := beq_eq_false_iff_ne.2 he
  clear h he
  go_enter Try.func98, Try.ntmps98
  go_wp2_with fail
  refine Calls.mono (E1.out _ (box_below w _)) ?_
  rintro e w1 ⟨rfl, b1⟩
  have B1 := (Bx.new w 54 (.int .i64 0) (.string ⟨#[]⟩) (.int .i64 0) (.slice none 0 0)).later b1 (by simp)
  have bw := (box_below w zE).trans (b1.mono (by simp))
  have H1 := (H.out.later bw)
  have r0 := H1.row
  have r1 := H1.nx
  have r2 := H1.ce
  have hp := H1.lt
  have hb := H1.ta.lt
  have c0 := H1.ta.c0 k H1.hk
  have hki : (k : Int) < (ts.length : Int) := by have := H1.hk; omega
  have hk0 : (0 : Int) ≤ (k : Int) := by omega
  have z1 : w1.heap.size < (w1.alloc zE).heap.size := by simp
  have KEY : Hid (∀ n : Nat, Bx ((w1.alloc zE).drewN n) w.heap.size (.int .i64 0) (.string ⟨#[]⟩) (.int .i64 0) (.slice none 0 0) ∧ Bx ((w1.alloc zE).drewN n) w1.heap.size (.int .i64 0) (.string ⟨#[]⟩) (.int .i64 0) (.slice none 0 0) ∧ Below w.heap.size w ((w1.alloc zE).drewN n)) := fun n =>
    ⟨(B1.later (box_below w1 zE) B1.lt).later (below_drewN (Below.refl (w1.alloc zE).heap.size _) n) (Nat.lt_trans B1.lt z1), (Bx.new w1 54 _ _ _ _).later (below_drewN (Below.refl (w1.alloc zE).heap.size _) n) z1, below_drewN (bw.trans ((box_below w1 zE).mono bw.size)) n⟩
  have nw : ¬ w1.heap.size = w.heap.size := Nat.ne_of_gt B1.lt
  have nw' : ¬ w.heap.size = w1.heap.size := Nat.ne_of_lt B1.lt
  clear b1 H1 bw B1
  go_wp2_with fail
  refine wp_loop_rounds 1 ?_
  rw [rounds_succ]
  go_wp2_with fail
  go_quiet (fail)
  obtain ⟨⟨d0, d1, d2, d3, e0, e1, e2, e3, zr⟩, ⟨g0, g1, g2, g3, h0, h1, h2, h3, zx⟩, q3⟩ := KEY.out nq
  generalize (w1.alloc zE).drewN nq = W at *
  go_wp2_with fail
  refine bodyPost_ret (v := .agg #[.int .i64 0, .string ⟨#[]⟩, .int .i64 0, .slice none 0 0]) (by simp [results, Try.results98, go_sem, d0, d1, d2, d3]) rfl ⟨rfl, ?_⟩
  exact (((q3.setCell (by simp) _).setCell (by simp) _).setCell (by simp) _).setCell (by simp) _
/-- The token at hand lies in a box of its own; the box for the answer is empty. -/
def OneRel (w : World) (p b o cap : Nat) (ts : List Tok) (k : Nat) (x : Tok) (s : Value) (wc : World) : Prop :=
  s = .pointer (some ⟨w.heap.size + 1, 0, none⟩) ∧ Bx wc (w.heap.size + 1) (.int .i64 x.1.kind) (.string ⟨x.1.text.toArray⟩) (.int .i64 x.1.num) (.int .i64 x.2) ∧ Bx wc w.heap.size (.int .i64 0) (.string ⟨#[]⟩) (.int .i64 0) (.slice none 0 0) ∧ Ri wc p b o cap ts k 0 0 ∧ Below w.heap.size w wc
theorem OneRel.of {w : World} {p b o cap : Nat} {ts : List Tok} {k : Nat} {x : Tok} (h : Ri w p b o cap ts k 0 0) (t : TypeId) : OneRel w p b o cap ts k x (.pointer (some ⟨w.heap.size + 1, 0, none⟩)) ((w.alloc zE).alloc (.cells #[.int .i64 x.1.kind, .string ⟨x.1.text.toArray⟩, .int .i64 x.1.num, .int .i64 x.2] t)).drew := by
  have b0 : Below w.heap.size w ((w.alloc zE).alloc (.cells #[.int .i64 x.1.kind, .string ⟨x.1.text.toArray⟩, .int .i64 x.1.num, .int .i64 x.2] t)).drew := by go_grown
  have b1 : Below (w.heap.size + 1) (w.alloc zE) ((w.alloc zE).alloc (.cells #[.int .i64 x.1.kind, .string ⟨x.1.text.toArray⟩, .int .i64 x.1.num, .int .i64 x.2] t)).drew := by go_grown
  have e : (w.alloc zE).heap.size = w.heap.size + 1 := by simp
  have B := Bx.new (w.alloc zE) t (.int .i64 x.1.kind) (.string ⟨x.1.text.toArray⟩) (.int .i64 x.1.num) (.int .i64 x.2)
  rw [e] at B
  exact ⟨rfl, B.later (Below.refl _ _).drew B.lt, (Bx.new w 54 _ _ _ _).later b1 (by omega), h.later b0, b0⟩
theorem Sx.un_form {ts : List Tok} {f d k : Nat} {r : Sx.Rs} (hb : Sx.begE (ts.getD k tok0) = false) (h : Sx.un ts f d k = some r) : r = .bad (ts.getD k tok0).2 30 := by
  cases f with
  | zero => rw [Sx.un] at h; cases h
  | succ f => rw [Sx.un, if_pos hb] at h; exact (Option.some.inj h).symm
theorem Sx.un_deep {ts : List Tok} {f d k : Nat} {r : Sx.Rs} (hb : Sx.begE (ts.getD k tok0) = true) (hd : 60 < d) (h : Sx.un ts f d k = some r) : r = .bad (ts.getD k tok0).2 31 := by
  cases f with
  | zero => rw [Sx.un] at h; cases h
  | succ f => rw [Sx.un, if_neg (by rw [hb]; decide), if_pos hd] at h; exact (Option.some.inj h).symm
end Go.Proofs.Ytobiedmmjiedlaa
namespace Go.Proofs.Ytobiedmmjiedlaa
open Go.RowKit

theorem Good.ends {ts : List Tok} (h : Good ts) : Sx.Ends ts (ts.length - 1) := by
  intro j hj
  by_cases c : j = ts.length - 1
  · rw [c]; exact h.last
  · have : ts.getD j tok0 = tok0 := by rw [List.getD_eq_getElem?_getD, List.getElem?_eq_none (by omega)]; rfl
    rw [this]; rfl
theorem Sx.bd_un {ts : List Tok} {f d k : Nat} {r : Sx.Rs} (h : Sx.bd ts f 1 d k = some r) : ∃ g r0, Sx.un ts g d k = some r0 ∧ (∀ a e, r0 = .bad a e → r = .bad a e) := by
  obtain ⟨g, r0, _, hu, hor⟩ := Sx.bd_chain 5 f 1 r (by omega) (by omega) h
  refine ⟨g, r0, hu, fun a e h0 => ?_⟩
  rcases hor with ⟨x, k', e1, _⟩ | ⟨a', e', e1, h5⟩
  · rw [e1] at h0; cases h0
  · rw [e1] at h0; cases h0; exact h5
/-- What came of tight is ready to be laid into its box. -/
def EReady (w : World) (p b o cap : Nat) (ts : List Tok) (r : Sx.Rs) (kk : Int) (nn : List UInt8) (mm : Int) (sa : Option Addr) (sn sc : Nat) (w5 : World) : Prop :=
  PostR p b o cap ts w r (.returned (.agg #[.int .i64 kk, .string ⟨nn.toArray⟩, .int .i64 mm, .slice sa sn sc])) (fill w5 w.heap.size (.int .i64 kk) (.string ⟨nn.toArray⟩) (.int .i64 mm) (.slice sa sn sc))
theorem EReady.of {w w4 : World} {p b o cap : Nat} {ts : List Tok} {k d f : Nat} {r : Sx.Rs} (hT : TCr p b o cap ts f) (hp : p < w.heap.size) (hb : b < w.heap.size) (hz : w.heap.size < w4.heap.size) (M : Kp p w w4) (hr : Sx.bd ts f 1 d k = some r)
    (hor : (Sx.begE (ts.getD k tok0) = false ∧ Ri w4 p b o cap ts k 30 (ts.getD k tok0).2) ∨ (Sx.begE (ts.getD k tok0) = true ∧ 60 < d ∧ Ri w4 p b o cap ts k 31 (ts.getD k tok0).2) ∨ (Sx.begE (ts.getD k tok0) = true ∧ d ≤ 60 ∧ Ri w4 p b o cap ts k 0 0)) :
    Calls Try.prog 98 #[.pointer (some ⟨p, 0, none⟩), .int .i64 1, .int .i64 (d : Int)] w4 fun e w5 => ∃ kk nn mm sa sn sc, e = .returned (.agg #[.int .i64 kk, .string ⟨(nn : List UInt8).toArray⟩, .int .i64 mm, .slice sa sn sc]) ∧ Kp p w4 w5 ∧ EReady w p b o cap ts r kk nn mm sa sn sc w5 := by
  rcases hor with ⟨h1, RI⟩ | ⟨h1, h2, RI⟩ | ⟨h1, h2, RI⟩
  · obtain ⟨g, r0, hu, hbad⟩ := Sx.bd_un hr
    have e2 := hbad _ _ (Sx.un_form h1 hu)
    subst e2
    refine (rtight_err w4 p b o cap ts k 30 _ _ _ RI (by decide)).mono ?_
    rintro e w5 ⟨rfl, b5⟩
    exact ⟨0, [], 0, none, 0, 0, rfl, .of_below b5 (Nat.le_refl _), PostR.bad_fill (M.trans (.of_below b5 (Nat.le_refl _))) (RI.later b5) hp hb⟩
  · obtain ⟨g, r0, hu, hbad⟩ := Sx.bd_un hr
    have e2 := hbad _ _ (Sx.un_deep h1 h2 hu)
    subst e2
    refine (rtight_err w4 p b o cap ts k 31 _ _ _ RI (by decide)).mono ?_
    rintro e w5 ⟨rfl, b5⟩
    exact ⟨0, [], 0, none, 0, 0, rfl, .of_below b5 (Nat.le_refl _), PostR.bad_fill (M.trans (.of_below b5 (Nat.le_refl _))) (RI.later b5) hp hb⟩
  · refine Calls.mono (hT 1 d k r w4 (by omega) (by omega) h2 RI hr) ?_
    cases r with
    | bad a er =>
      rintro e w5 ⟨kk, nn, mm, sa, sn, sc, k', rfl, RI5, k5⟩
      exact ⟨kk, nn, mm, sa, sn, sc, rfl, k5, PostR.bad_fill (M.trans k5) RI5 hp hb⟩
    | ok y k' =>
      rintro e w5 ⟨kk, nn, mm, sa, sn, sc, ll, rfl, rfl, X, RI5, k5⟩
      exact ⟨kk, nn, mm, sa, sn, sc, rfl, k5, PostR.of_fill (M.trans k5) RI5 hp hb (X.mono fun g _ hg => Nat.lt_of_lt_of_le hz hg)⟩
set_option maxRecDepth 100000 in
set_option maxHeartbeats 1000000 in
theorem rexpr_any (p b o cap : Nat) (ts : List Tok) (rt : RT ts) (f : Nat) (hT : TCr p b o cap ts f) : ECr p b o cap ts f := by
  intro d k r w hd h hr
  have H : Hid _ := h
  have hp : Hid (p < w.heap.size) := h.lt
  have hb : Hid (b < w.heap.size) := h.ta.lt
  have pz' : ¬ w.heap.size = p := Nat.ne_of_gt h.lt
  have E1 : Hid (∀ W, Below w.heap.size w W → _) := fun W hW => ropens_any W p b o cap ts k 0 rt (h.later hW)
  have HT : Hid (TCr p b o cap ts f) := hT
  have HR : Hid _ := hr
  have HD : Hid (d ≤ 61) := hd
  clear h rt hT hr hd
  go_enter Try.func93, Try.ntmps93
  go_wp2_with fail
  refine Calls.mono (E1.out _ (box_below w _)) ?_
  rintro e w1 ⟨rfl, b1⟩
  have R1 := (Bx.new w 54 (.int .i64 0) (.string ⟨#[]⟩) (.int .i64 0) (.slice none 0 0)).later b1 (by simp)
  have bw := (box_below w zE).trans (b1.mono (by simp))
  have E2 : Hid _ := rpart_any w1 p b o cap ts k (Sx.begE (ts.getD k tok0)) d (by have := HD.out; omega) (H.out.later bw)
  have RR : Hid _ := R1
  have BW : Hid _ := bw
  clear b1 R1 bw
  go_wp2_with fail
  refine Calls.mono E2.out ?_
  rintro e w2 ⟨rfl, k2, hor⟩
  have R2 := RR.out.kp k2 pz'
  have E3 : Hid _ := EReady.of HT.out hp.out hb.out R2.lt ((Keep.of_below BW.out (Nat.le_refl _)).trans k2) HR.out hor
  have RR2 : Hid _ := R2
  clear hor k2 R2
  go_wp2_with fail
  refine Calls.mono E3.out ?_
  rintro e w5 ⟨kk, nn, mm, sa, sn, sc, rfl, m5, ur⟩
  have UR : Hid _ := ur
  obtain ⟨d0, d1, d2, d3, e0, e1, e2, e3, zr⟩ := RR2.out.kp m5 pz'
  clear ur m5
  go_wp2_with fail
  refine bodyPost_ret (v := .agg #[.int .i64 kk, .string ⟨nn.toArray⟩, .int .i64 mm, .slice sa sn sc]) (by simp [results, Try.results93, go_sem, d0, d1, d2, d3]) rfl ?_
  exact UR.out
end Go.Proofs.Ytobiedmmjiedlaa
