/- Layer 13, plain: traces' tapes, read. -/
import Derived.Test.YtgonadilbjfpkaaTtPl
namespace Go.Proofs.Ytgonadilbjfpkaa.Tp
open Go.RowKit
set_option linter.unusedVariables false
/-- A tick's number. -/
def tnum (b : List Int) (lo k : Nat) : Res Nat := match rdF 0 0 (b.drop k) with
  | .inr e => .bad k e
  | .inl (z, u) => if lo ≤ z ∧ z ≤ 2147483647 then .good z (k + u) else .bad k 110
/-- One record. -/
inductive Stp where
  | fin (k : Nat)
  | more (t : Tr) (k : Nat)
  | bad (k : Nat) (e : Int)
def stepT (b : List Int) (k : Nat) (t : Tr) (c : Int) : Stp := match tnum b 0 (k + 1) with
  | .bad j e => .bad j e
  | .good p k1 => match tnum b 0 k1 with
    | .bad j e => .bad j e
    | .good m k2 => match tnum b 1 k2 with
      | .bad j e => .bad j e
      | .good d k3 => .more ⟨t.ticks ++ [⟨c, p, m, d⟩], t.counts ++ [(t.events.length : Int)], t.events⟩ k3
def stepE (b : List Int) (k : Nat) (t : Tr) (c : Int) : Stp :=
  if hasN (c - 16) then match rdF 0 0 (b.drop (k + 1)) with
    | .inr e => .bad (k + 1) e
    | .inl (z, u) => .more ⟨t.ticks, t.counts, t.events ++ [⟨c - 16, zag z⟩]⟩ (k + 1 + u)
  else .more ⟨t.ticks, t.counts, t.events ++ [⟨c - 16, 0⟩]⟩ (k + 1)
def step (b : List Int) (k : Nat) (t : Tr) : Stp := match b[k]? with
  | none => .bad k 112
  | some c => if c = 0 then .fin (k + 1) else if bet 1 c 3 then stepT b k t c else if bet 1 (c - 16) 5 then stepE b k t c else .bad k 110
/-- What is read: the trace, the place behind its last record, the place behind the 0; or what was, and what is wrong, and where. -/
inductive TRes where
  | good (t : Tr) (s k : Nat)
  | bad (t : Tr) (s k : Nat) (e : Int)
def rds (b : List Int) : Nat → Nat → Tr → TRes
  | 0, k, t => .bad t k k 0
  | f + 1, k, t => match step b k t with
    | .fin j => .good t k j
    | .more t' j => rds b f j t'
    | .bad j e => .bad t k j e
def tr0 : Tr := ⟨[], [], []⟩
def rtB (b : List Int) : TRes := match hd 0 (head 2) b with
  | some (i, e) => .bad tr0 0 i e
  | none => match rds b b.length 5 tr0 with
    | .bad t s k e => .bad t s k e
    | .good t s k => match ends b k with
      | some (i, e) => .bad t s i e
      | none => .good t s k
theorem tnum_le (b : List Int) (hb : Byt b) (lo k z j : Nat) (h : tnum b lo k = .good z j) (hk : k ≤ b.length) : k < j ∧ j ≤ b.length ∧ lo ≤ z ∧ z ≤ 2147483647 := by
  unfold tnum at h
  cases hr : rdF 0 0 (b.drop k) with
  | inr e => rw [hr] at h; cases h
  | inl p =>
    rw [hr] at h
    dsimp only at h
    split at h
    · rename_i hz
      cases h
      obtain ⟨h1, h2, _, _⟩ := rd_back _ _ _ (hb.drop k) hr
      rw [List.length_drop] at h2
      exact ⟨by omega, by omega, hz.1, hz.2⟩
    · cases h
theorem tnum_err (b : List Int) (lo k j : Nat) (e : Int) (h : tnum b lo k = .bad j e) : e ≠ 0 ∧ j = k := by
  unfold tnum at h
  cases hr : rdF 0 0 (b.drop k) with
  | inr x => rw [hr] at h; cases h; have := rdF_err _ _ _ _ hr; exact ⟨by omega, rfl⟩
  | inl p =>
    rw [hr] at h
    dsimp only at h
    split at h
    · cases h
    · cases h; exact ⟨by decide, rfl⟩
/-- How far a record brings one, and how much it adds. -/
theorem step_more (b : List Int) (hb : Byt b) (k : Nat) (t t' : Tr) (j : Nat) (h : step b k t = .more t' j) : k < j ∧ j ≤ b.length ∧ ((t'.ticks.length = t.ticks.length + 1 ∧ t'.counts.length = t.counts.length + 1 ∧ t'.events = t.events) ∨ (t'.ticks = t.ticks ∧ t'.counts = t.counts ∧ t'.events.length = t.events.length + 1)) := by
  unfold step at h
  cases hk : b[k]? with
  | none => rw [hk] at h; cases h
  | some c =>
    have hkl : k < b.length := (List.getElem?_eq_some_iff.1 hk).1
    rw [hk] at h
    dsimp only at h
    split at h
    · cases h
    · split at h
      · unfold stepT at h
        cases h1 : tnum b 0 (k + 1) with
        | bad j e => rw [h1] at h; cases h
        | good p k1 =>
          rw [h1] at h
          dsimp only at h
          cases h2 : tnum b 0 k1 with
          | bad j e => rw [h2] at h; cases h
          | good m k2 =>
            rw [h2] at h
            dsimp only at h
            cases h3 : tnum b 1 k2 with
            | bad j e => rw [h3] at h; cases h
            | good d k3 =>
              rw [h3] at h
              cases h
              have a1 := tnum_le b hb _ _ _ _ h1 (by omega)
              have a2 := tnum_le b hb _ _ _ _ h2 (by omega)
              have a3 := tnum_le b hb _ _ _ _ h3 (by omega)
              exact ⟨by omega, by omega, .inl ⟨by simp, by simp, rfl⟩⟩
      · split at h
        · unfold stepE at h
          split at h
          · cases hr : rdF 0 0 (b.drop (k + 1)) with
            | inr e => rw [hr] at h; cases h
            | inl p =>
              rw [hr] at h
              cases h
              obtain ⟨h1, h2, _, _⟩ := rd_back _ _ _ (hb.drop (k + 1)) hr
              rw [List.length_drop] at h2
              exact ⟨by omega, by omega, .inr ⟨rfl, rfl, by simp⟩⟩
          · cases h
            exact ⟨by omega, by omega, .inr ⟨rfl, rfl, by simp⟩⟩
        · cases h
theorem step_fin (b : List Int) (k : Nat) (t : Tr) (j : Nat) (h : step b k t = .fin j) : j = k + 1 ∧ b[k]? = some 0 := by
  unfold step at h
  cases hk : b[k]? with
  | none => rw [hk] at h; cases h
  | some c =>
    rw [hk] at h
    dsimp only at h
    split at h
    · rename_i h0; cases h; subst h0; exact ⟨rfl, rfl⟩
    · split at h
      · unfold stepT at h
        repeat' split at h
        all_goals cases h
      · split at h
        · unfold stepE at h
          repeat' split at h
          all_goals cases h
        · cases h
end Go.Proofs.Ytgonadilbjfpkaa.Tp
