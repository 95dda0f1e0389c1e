/- Layer 3: the same tokens elsewhere, and deeper, are read the same, or are too deep; brackets around. Plain. -/
import Derived.Test.YtlhklpnkelcnbaaGreatDoorSypA
namespace Go.Proofs.YtlhklpnkelcnbaaGreatDoor.Sx
open Go.RowKit

/-- r: what was read; r': what is read of the same tokens, c tokens later, and deeper. -/
def Rel (c : Nat) (r r' : Option Rs) : Prop := (∀ x k, r = some (.ok x k) → r' = some (.ok x (k + c)) ∨ ∃ a, r' = some (.bad a 31)) ∧ (∀ a, r = some (.bad a 31) → ∃ a', r' = some (.bad a' 31))
theorem Rel.bad30 {c : Nat} {a : Int} {r' : Option Rs} : Rel c (some (.bad a 30)) r' := ⟨fun _ _ h => (by cases h), fun _ h => (by cases h)⟩
theorem Rel.none {c : Nat} {r' : Option Rs} : Rel c none r' := ⟨fun _ _ h => (by cases h), fun _ h => (by cases h)⟩
theorem Rel.deep {c : Nat} {a : Int} {r : Option Rs} : Rel c r (some (.bad a 31)) := ⟨fun _ _ _ => .inr ⟨a, rfl⟩, fun _ _ => ⟨a, rfl⟩⟩
theorem Rel.ok {c : Nat} {x : Ex} {k j : Nat} (h : j = k + c) : Rel c (some (.ok x k)) (some (.ok x j)) := ⟨fun y i e => (by cases e; exact .inl (by rw [h])), fun _ h => (by cases h)⟩
/-- The same tokens: from c on in U those that stand in T ahead of L; what stands in U behind them goes on with no expression. -/
structure Same (T U : List Tok) (L c : Nat) : Prop where
  ends : Ends T L
  tok : ∀ j, j < L → (U.getD (j + c) tok0).1 = (T.getD j tok0).1
  bind : bindsB (tx U (L + c)) = 0
  idx : ¬ tx U (L + c) = [91]
theorem Same.tx {T U : List Tok} {L c : Nat} (h : Same T U L c) {j : Nat} (hj : j < L) : tx U (j + c) = tx T j := by unfold Sx.tx; rw [h.tok j hj]
theorem Rel.shut {T U : List Tok} {L c : Nat} (h : Same T U L c) {s : List UInt8} (hs : s ≠ []) {g g' : Ex → Ex} (hg : g' = g) {A A' : Option Rs} (r : Rel c A A') : Rel c (shut T s g A) (shut U s g' A') := by
  subst hg
  match A, r with
  | .none, r => exact Rel.none
  | some (.bad a e), r =>
    by_cases c1 : e = 31
    · subst c1
      obtain ⟨a', e'⟩ := r.2 a rfl
      rw [e']
      exact Rel.deep
    · exact ⟨fun _ _ h => (by cases h), fun _ h => (by cases h; exact absurd rfl c1)⟩
  | some (.ok x k), r =>
    by_cases c1 : Sx.tx T k = s
    · have hk : k < L := h.ends.txt (by rw [c1]; exact hs)
      rcases r.1 x k rfl with e | ⟨a, e⟩
      · rw [e]
        rw [shut_ok, shut_ok, if_pos c1, if_pos ((h.tx hk).trans c1)]
        exact Rel.ok (by omega)
      · rw [e]; exact Rel.deep
    · rw [shut_ok, if_neg c1]
      exact Rel.bad30
theorem moved {T U : List Tok} {L c e : Nat} (h : Same T U L c) : ∀ f, (∀ d k, Rel c (un T f d k) (un U f (d + e) (k + c))) ∧ (∀ q d k, 1 ≤ q → Rel c (bd T f q d k) (bd U f q (d + e) (k + c))) ∧ (∀ q d x k, 1 ≤ q → k ≤ L → Rel c (lp T f q d x k) (lp U f q (d + e) x (k + c)))
  | 0 => ⟨fun d k => (by rw [un]; exact Rel.none), fun q d k _ => (by rw [bd]; exact Rel.none), fun q d x k _ _ => (by rw [lp]; exact Rel.none)⟩
  | f + 1 => by
    obtain ⟨hu, hb, hl⟩ := moved (e := e) h f
    refine ⟨fun d k => ?_, fun q d k hq => ?_, fun q d x k hq hk => ?_⟩
    · rw [un, un]
      by_cases c1 : begE (T.getD k tok0) = false
      · rw [if_pos c1]; exact Rel.bad30
      have hk := h.ends.beg c1
      have ht := h.tok k hk
      have hx := h.tx hk
      have hbe : begE (U.getD (k + c) tok0) = begE (T.getD k tok0) := by unfold begE; rw [ht]
      rw [if_neg c1, hbe, if_neg c1, ht, hx]
      by_cases c2 : 60 < d + e
      · rw [if_pos c2]; exact Rel.deep
      rw [if_neg c2, if_neg (by omega)]
      by_cases c3 : (T.getD k tok0).1.kind = 2
      · rw [if_pos c3, if_pos c3]; exact Rel.ok (by omega)
      rw [if_neg c3, if_neg c3]
      by_cases c4 : (T.getD k tok0).1.kind = 1
      · rw [if_pos c4, if_pos c4]
        have h1 : (Sx.tx U (k + c + 1) = [91]) ↔ (Sx.tx T (k + 1) = [91]) := by
          by_cases c5 : k + 1 < L
          · have := h.tx c5
            rw [show k + c + 1 = k + 1 + c by omega, this]
          · have e1 : k + 1 = L := by omega
            have e2 : Sx.tx T (k + 1) = [] := by unfold Sx.tx; rw [h.ends (k + 1) (by omega)]
            rw [e2, show k + c + 1 = L + c by omega]
            exact ⟨fun e => absurd e h.idx, fun e => by cases e⟩
        by_cases c5 : Sx.tx T (k + 1) = [91]
        · rw [if_pos c5, if_pos (h1.2 c5)]
          have := hb 1 (d + 1) (k + 2) (by omega)
          rw [show d + 1 + e = d + e + 1 by omega, show k + 2 + c = k + c + 2 by omega] at this
          exact this.shut h (by simp) rfl
        · rw [if_neg c5, if_neg (fun e => c5 (h1.1 e))]; exact Rel.ok (by omega)
      rw [if_neg c4, if_neg c4]
      by_cases c6 : Sx.tx T k = [116, 114, 117, 101]
      · rw [if_pos c6, if_pos c6]; exact Rel.ok (by omega)
      rw [if_neg c6, if_neg c6]
      by_cases c7 : Sx.tx T k = [102, 97, 108, 115, 101]
      · rw [if_pos c7, if_pos c7]; exact Rel.ok (by omega)
      rw [if_neg c7, if_neg c7]
      by_cases c8 : Sx.tx T k = [40]
      · rw [if_pos c8, if_pos c8]
        have := hb 1 (d + 1) (k + 1) (by omega)
        rw [show d + 1 + e = d + e + 1 by omega, show k + 1 + c = k + c + 1 by omega] at this
        exact this.shut h (by simp) rfl
      rw [if_neg c8, if_neg c8]
      have hr := hu (d + 1) (k + 1)
      rw [show d + 1 + e = d + e + 1 by omega, show k + 1 + c = k + c + 1 by omega] at hr
      generalize un T f (d + 1) (k + 1) = A at hr ⊢
      match A, hr with
      | .none, hr => exact Rel.none
      | some (.ok x k'), hr =>
        rcases hr.1 x k' rfl with e1 | ⟨a, e1⟩
        · rw [e1]; exact Rel.ok rfl
        · rw [e1]; exact Rel.deep
      | some (.bad a er), hr =>
        by_cases c9 : er = 31
        · subst c9
          obtain ⟨a', e'⟩ := hr.2 a rfl
          rw [e']; exact Rel.deep
        · exact ⟨fun _ _ h => (by cases h), fun _ h => (by cases h; exact absurd rfl c9)⟩
    · rw [bd, bd]
      by_cases c1 : 5 < q
      · rw [if_pos c1, if_pos c1]; exact hu d k
      rw [if_neg c1, if_neg c1]
      have hr := hb (q + 1) d k (by omega)
      cases hA : bd T f (q + 1) d k with
      | none => exact Rel.none
      | some A =>
        rw [hA] at hr
        cases A with
        | ok x k' =>
          have hin := (ok_in h.ends f).2.1 _ _ _ _ _ hA
          rcases hr.1 x k' rfl with e1 | ⟨a, e1⟩
          · rw [e1]; exact hl q d x k' hq hin.2
          · rw [e1]; exact Rel.deep
        | bad a er =>
          by_cases c9 : er = 31
          · subst c9
            obtain ⟨a', e'⟩ := hr.2 a rfl
            rw [e']; exact Rel.deep
          · exact ⟨fun _ _ h => (by cases h), fun _ h => (by cases h; exact absurd rfl c9)⟩
    · rw [lp, lp]
      by_cases c1 : bindsB (Sx.tx T k) = q
      · have hk' : k < L := h.ends.binds (by omega)
        rw [h.tx hk', if_pos c1, if_pos c1]
        have hr := hb (q + 1) d (k + 1) (by omega)
        rw [show k + 1 + c = k + c + 1 by omega] at hr
        cases hA : bd T f (q + 1) d (k + 1) with
        | none => exact Rel.none
        | some A =>
          rw [hA] at hr
          cases A with
          | ok y k' =>
            have hin := (ok_in h.ends f).2.1 _ _ _ _ _ hA
            rcases hr.1 y k' rfl with e1 | ⟨a, e1⟩
            · rw [e1]
              simp only
              by_cases c2 : q = 3
              · rw [if_pos c2, if_pos c2]; exact Rel.ok rfl
              · rw [if_neg c2, if_neg c2]; exact hl q d _ k' hq hin.2
            · rw [e1]; exact Rel.deep
          | bad a er =>
            by_cases c9 : er = 31
            · subst c9
              obtain ⟨a', e'⟩ := hr.2 a rfl
              rw [e']; exact Rel.deep
            · exact ⟨fun _ _ h => (by cases h), fun _ h => (by cases h; exact absurd rfl c9)⟩
      · rw [if_neg c1]
        have e1 : ¬ bindsB (Sx.tx U (k + c)) = q := by
          by_cases c5 : k < L
          · rw [h.tx c5]; exact c1
          · rw [show k = L by omega, h.bind]; omega
        rw [if_neg e1]; exact Rel.ok rfl
/-- One operand, and no sign behind it. -/
theorem bd_wrap {U : List Tok} {f d k k' : Nat} {x : Ex} (h : un U f d k = some (.ok x k')) (hb : bindsB (tx U k') = 0) : bd U (f + 7) 1 d k = some (.ok x k') := by
  have e6 : bd U (f + 2) 6 d k = some (.ok x k') := by rw [bd, if_pos (by omega)]; exact un_le (by omega) h
  have e5 : bd U (f + 3) 5 d k = some (.ok x k') := by rw [bd, if_neg (by omega), e6]; exact lp_end (by omega) _
  have e4 : bd U (f + 4) 4 d k = some (.ok x k') := by rw [bd, if_neg (by omega), e5]; exact lp_end (by omega) _
  have e3 : bd U (f + 5) 3 d k = some (.ok x k') := by rw [bd, if_neg (by omega), e4]; exact lp_end (by omega) _
  have e2 : bd U (f + 6) 2 d k = some (.ok x k') := by rw [bd, if_neg (by omega), e3]; exact lp_end (by omega) _
  rw [bd, if_neg (by omega), e2]; exact lp_end (by omega) _
theorem bd_bad {U : List Tok} {f d k : Nat} {a er : Int} (h : un U f d k = some (.bad a er)) : bd U (f + 7) 1 d k = some (.bad a er) := by
  have e6 : bd U (f + 2) 6 d k = some (.bad a er) := by rw [bd, if_pos (by omega)]; exact un_le (by omega) h
  have e5 : bd U (f + 3) 5 d k = some (.bad a er) := by rw [bd, if_neg (by omega), e6]
  have e4 : bd U (f + 4) 4 d k = some (.bad a er) := by rw [bd, if_neg (by omega), e5]
  have e3 : bd U (f + 5) 3 d k = some (.bad a er) := by rw [bd, if_neg (by omega), e4]
  have e2 : bd U (f + 6) 2 d k = some (.bad a er) := by rw [bd, if_neg (by omega), e3]
  rw [bd, if_neg (by omega), e2]
/-- n brackets around the tokens of T. -/
structure Nest (T U : List Tok) (L n : Nat) : Prop where
  ends : Ends T L
  opn : ∀ j, j < n → (U.getD j tok0).1 = ⟨4, [40], 0⟩
  tok : ∀ j, j < L → (U.getD (j + n) tok0).1 = (T.getD j tok0).1
  shu : ∀ j, j < n → (U.getD (L + n + j) tok0).1 = ⟨4, [41], 0⟩
  stop : (U.getD (L + n + n) tok0).1 = ⟨0, [], 0⟩
theorem Nest.behind {T U : List Tok} {L n : Nat} (h : Nest T U L n) {j : Nat} (hj : j ≤ n) : bindsB (tx U (L + n + j)) = 0 ∧ ¬ tx U (L + n + j) = [91] := by
  unfold tx
  by_cases c : j < n
  · rw [h.shu j c]; exact ⟨by decide, by decide⟩
  · rw [show j = n by omega, h.stop]; exact ⟨by decide, by decide⟩
theorem Nest.same {T U : List Tok} {L n : Nat} (h : Nest T U L n) : Same T U L n :=
  ⟨h.ends, h.tok, (h.behind (j := 0) (by omega)).1, (h.behind (j := 0) (by omega)).2⟩
theorem Nest.ok {T U : List Tok} {L n : Nat} (h : Nest T U L n) (hn : n ≤ 50) {f : Nat} {x : Ex} (hx : bd T f 1 1 0 = some (.ok x L)) : ∀ m, m ≤ n → ∃ F, (bd U F 1 (1 + (n - m)) (n - m) = some (.ok x (L + n + m)) ∨ ∃ a, bd U F 1 (1 + (n - m)) (n - m) = some (.bad a 31))
  | 0, _ => by
    have hr := (moved (e := n) h.same f).2.1 1 1 0 (by omega)
    rw [hx] at hr
    have := hr.1 x L rfl
    rw [Nat.zero_add] at this
    exact ⟨f, this⟩
  | m + 1, hm => by
    obtain ⟨F, hF⟩ := Nest.ok h hn hx m (by omega)
    rw [show n - m = n - (m + 1) + 1 by omega] at hF
    have ht := h.opn (n - (m + 1)) (by omega)
    have hu : un U (F + 1) (1 + (n - (m + 1))) (n - (m + 1)) = shut U [41] (fun x => x) (bd U F 1 (1 + (n - (m + 1) + 1)) (n - (m + 1) + 1)) := by
      rw [un]
      unfold tx begE
      rw [ht]
      rw [if_neg (by decide), if_neg (by omega), if_neg (by decide), if_neg (by decide), if_neg (by decide), if_neg (by decide), if_pos (by decide)]
      rfl
    rcases hF with e | ⟨a, e⟩
    · rw [e] at hu
      have hs := h.shu m (by omega)
      have hu2 : un U (F + 1) (1 + (n - (m + 1))) (n - (m + 1)) = some (.ok x (L + n + m + 1)) := by
        rw [hu, shut_ok]
        unfold tx
        rw [hs]
        exact if_pos rfl
      exact ⟨F + 1 + 7, .inl (bd_wrap hu2 (h.behind (j := m + 1) hm).1)⟩
    · rw [e] at hu
      exact ⟨F + 1 + 7, .inr ⟨a, bd_bad hu⟩⟩
theorem Nest.deep {T U : List Tok} {L n : Nat} (h : Nest T U L n) (hn : n ≤ 50) {f : Nat} {b : Int} (hx : bd T f 1 1 0 = some (.bad b 31)) : ∀ m, m ≤ n → ∃ F a, bd U F 1 (1 + (n - m)) (n - m) = some (.bad a 31)
  | 0, _ => by
    have hr := (moved (e := n) h.same f).2.1 1 1 0 (by omega)
    rw [hx] at hr
    have := hr.2 b rfl
    rw [Nat.zero_add] at this
    exact ⟨f, this⟩
  | m + 1, hm => by
    obtain ⟨F, a, hF⟩ := Nest.deep h hn hx m (by omega)
    rw [show n - m = n - (m + 1) + 1 by omega] at hF
    have ht := h.opn (n - (m + 1)) (by omega)
    have hu : un U (F + 1) (1 + (n - (m + 1))) (n - (m + 1)) = shut U [41] (fun x => x) (bd U F 1 (1 + (n - (m + 1) + 1)) (n - (m + 1) + 1)) := by
      rw [un]
      unfold tx begE
      rw [ht]
      rw [if_neg (by decide), if_neg (by omega), if_neg (by decide), if_neg (by decide), if_neg (by decide), if_neg (by decide), if_pos (by decide)]
      rfl
    rw [hF] at hu
    exact ⟨F + 1 + 7, a, bd_bad hu⟩
end Go.Proofs.YtlhklpnkelcnbaaGreatDoor.Sx
