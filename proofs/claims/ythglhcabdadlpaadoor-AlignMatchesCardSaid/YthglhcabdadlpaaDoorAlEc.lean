/- Layer 15: the document's least matching, plain. -/
import Derived.Test.YthglhcabdadlpaaDoorAlEb
namespace Go.Proofs.YthglhcabdadlpaaDoor.Al
set_option linter.unusedVariables false
set_option linter.unusedSimpArgs false
/-- What the search for an index of b has found up to h. -/
def FN (T : Option Nat) (e : Ev) (a : List Ev) (L : Nat) (m : List Ev) (y h : Nat) (F : Int) : Prop :=
  (F = -1 ∧ y ≤ h ∧ T = (fnd e a L (m.drop h)).map (· + (h - y))) ∨ (∃ k, F = ((y + k : Nat) : Int) ∧ T = some k ∧ y + k < m.length)
theorem FN.start (e : Ev) (a : List Ev) (L : Nat) (m : List Ev) (y : Nat) : FN (fnd e a L (m.drop y)) e a L m y y (-1) :=
  .inl ⟨rfl, Nat.le_refl _, by rw [Nat.sub_self]; cases fnd e a L (m.drop y) <;> rfl⟩
theorem FN.none {T : Option Nat} {e : Ev} {a : List Ev} {L : Nat} {m : List Ev} {y : Nat} (h : FN T e a L m y m.length (-1)) : T = none := by
  rcases h with ⟨-, -, h⟩ | ⟨k, h, -⟩
  · rw [h, List.drop_eq_nil_of_le (Nat.le_refl _)]
    rfl
  · omega
theorem FN.hit {T : Option Nat} {e yv : Ev} {a : List Ev} {L : Nat} {m : List Ev} {y h : Nat} (hF : FN T e a L m y h (-1)) (hy : m[h]? = some yv) (he : e = yv) (hL : lcs a (m.drop (h + 1)) + 1 = L) : FN T e a L m y (h + 1) (h : Int) := by
  rcases hF with ⟨-, h1, h2⟩ | ⟨k, h, -⟩
  · refine .inr ⟨h - y, by omega, ?_, ?_⟩
    · rw [h2, drop_get hy]
      unfold fnd
      rw [if_pos ⟨he, hL⟩]
      simp
    · obtain ⟨h3, -⟩ := List.getElem?_eq_some_iff.1 hy
      omega
  · omega
theorem FN.miss {T : Option Nat} {e yv : Ev} {a : List Ev} {L : Nat} {m : List Ev} {y h : Nat} (hF : FN T e a L m y h (-1)) (hy : m[h]? = some yv) (hn : ¬ (e = yv ∧ lcs a (m.drop (h + 1)) + 1 = L)) : FN T e a L m y (h + 1) (-1) := by
  rcases hF with ⟨-, h1, h2⟩ | ⟨k, h, -⟩
  · refine .inl ⟨rfl, by omega, ?_⟩
    have hs : fnd e a L (yv :: m.drop (h + 1)) = (fnd e a L (m.drop (h + 1))).map (· + 1) := by
      rw [fnd, if_neg hn]
    rw [h2, drop_get hy, hs]
    cases fnd e a L (m.drop (h + 1)) with
    | none => rfl
    | some k => simp; omega
  · omega
/-- One index of a. -/
theorem mtR_step {i j x y : Nat} {l m : List Ev} {e : Ev} (he : l[x]? = some e) (h0 : lcs (l.drop x) (m.drop y) ≠ 0) :
    mtR (i + x) (j + y) (l.drop x) (m.drop y) = match fnd e (l.drop (x + 1)) (lcs (l.drop x) (m.drop y)) (m.drop y) with
      | some k => (i + x, j + (y + k)) :: mtR (i + (x + 1)) (j + (y + k + 1)) (l.drop (x + 1)) (m.drop (y + k + 1))
      | none => mtR (i + (x + 1)) (j + y) (l.drop (x + 1)) (m.drop y) := by
  rw [drop_get he] at h0 ⊢
  rw [mtR, if_neg h0]
  cases fnd e (l.drop (x + 1)) (lcs (e :: l.drop (x + 1)) (m.drop y)) (m.drop y) with
  | none => rfl
  | some k =>
    simp only [List.drop_drop]
    rw [show j + y + k = j + (y + k) from by omega, show i + x + 1 = i + (x + 1) from rfl, show j + (y + k) + 1 = j + (y + k + 1) from by omega, show y + (k + 1) = y + k + 1 from by omega]
theorem mtR_two {i j x y : Nat} {l m : List Ev} {e : Ev} (he : l[x]? = some e) (h0 : lcs (l.drop x) (m.drop y) ≠ 0) :
    (∀ k, fnd e (l.drop (x + 1)) (lcs (l.drop x) (m.drop y)) (m.drop y) = some k → mtR (i + x) (j + y) (l.drop x) (m.drop y) = (i + x, j + (y + k)) :: mtR (i + (x + 1)) (j + (y + k + 1)) (l.drop (x + 1)) (m.drop (y + k + 1))) ∧
    (fnd e (l.drop (x + 1)) (lcs (l.drop x) (m.drop y)) (m.drop y) = none → mtR (i + x) (j + y) (l.drop x) (m.drop y) = mtR (i + (x + 1)) (j + y) (l.drop (x + 1)) (m.drop y)) := by
  have h := mtR_step (i := i) (j := j) he h0
  constructor
  · intro k hk
    rw [hk] at h
    exact h
  · intro hk
    rw [hk] at h
    exact h
theorem mtR_no {i j x y : Nat} {l m : List Ev} (h0 : lcs (l.drop x) (m.drop y) = 0) : mtR (i + x) (j + y) (l.drop x) (m.drop y) = [] := by
  cases hx : l.drop x with
  | nil => rfl
  | cons e a =>
    rw [hx] at h0
    rw [mtR, if_pos h0]
end Go.Proofs.YthglhcabdadlpaaDoor.Al
