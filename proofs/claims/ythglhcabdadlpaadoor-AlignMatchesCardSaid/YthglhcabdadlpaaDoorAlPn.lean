/- Layer 15, plain: sizes of greatest matchings reckoned from the front (the document's Size), and the document's search for the least one. -/
import Derived.Test.YthglhcabdadlpaaDoorAlPm
namespace Go.Proofs.YthglhcabdadlpaaDoor.Al
set_option linter.unusedVariables false
set_option linter.unusedSimpArgs false
theorem lcs_one_ne {x y : Ev} (h : x ≠ y) : ∀ b : List Ev, lcs [x] (b ++ [y]) = lcs [x] b
  | [] => by simp [lcs_cons, lcs_nil, lcs_nilr, h]
  | z :: b => by
    rw [List.cons_append, lcs_cons, lcs_cons, lcs_one_ne h b]
    simp only [lcs_nil]
theorem lcs_snoc_ne {x y : Ev} (h : x ≠ y) : ∀ a b : List Ev, lcs (a ++ [x]) (b ++ [y]) = max (lcs a (b ++ [y])) (lcs (a ++ [x]) b)
  | [], b => by rw [List.nil_append, lcs_one_ne h, lcs_nil]; omega
  | p :: a, [] => by
    rw [List.nil_append, lcs_comm _ [y], lcs_one_ne (Ne.symm h), lcs_comm _ [y], lcs_nilr]
    omega
  | p :: a, q :: b => by
    rw [List.cons_append, List.cons_append, lcs_cons, lcs_cons]
    have h1 := lcs_snoc_ne h a b
    have h2 := lcs_snoc_ne h a (q :: b)
    have h3 := lcs_snoc_ne h (p :: a) b
    rw [List.cons_append] at h2 h3
    rw [lcs_cons p q (a ++ [x]) b]
    split <;> omega
  termination_by a b => a.length + b.length
theorem lcs_snoc_le (a b : List Ev) (x y : Ev) : lcs a (b ++ [y]) ≤ lcs a b + 1 := by
  have : ∀ a b : List Ev, lcs a (b ++ [y]) ≤ lcs a b + 1 := fun a => by
    induction a with
    | nil => intro b; simp [lcs_nil]
    | cons p a ih =>
      intro b
      induction b with
      | nil =>
        have := (lcs_bd (p :: a) [y]).2
        rw [List.nil_append, lcs_nilr]
        simpa using this
      | cons q b ih2 =>
        have h1 := ih b
        have h2 := ih (q :: b)
        rw [List.cons_append] at h2 ⊢
        rw [lcs_cons, lcs_cons]
        split <;> omega
  exact this a b
/-- The step of the document's Size. -/
def stp (x y : Ev) (u l d : Nat) : Nat :=
  let n := if u < l then l else u
  if x = y ∧ n < d + 1 then d + 1 else n
theorem lcs_stp (a b : List Ev) (x y : Ev) : lcs (a ++ [x]) (b ++ [y]) = stp x y (lcs a (b ++ [y])) (lcs (a ++ [x]) b) (lcs a b) := by
  unfold stp
  have h1 := lcs_snoc_le a b x y
  have h2 : lcs (a ++ [x]) b ≤ lcs a b + 1 := by
    rw [lcs_comm, lcs_comm a]
    exact lcs_snoc_le b a y x
  by_cases e : x = y
  · subst e
    rw [lcs_snoc]
    simp only [true_and]
    (repeat' split) <;> omega
  · rw [lcs_snoc_ne e]
    simp only [e, false_and, if_false]
    split <;> omega
/-- The step of the document's Sizes. -/
theorem lcs_stb (a b : List Ev) (x y : Ev) : lcs (x :: a) (y :: b) = (let n := if lcs a (y :: b) < lcs (x :: a) b then lcs (x :: a) b else lcs a (y :: b); if x = y ∧ n < lcs a b + 1 then lcs a b + 1 else n) := by
  have h1 := ((lcs_step a b).1 x).2
  have h2 := ((lcs_step a b).2 y).2
  rw [lcs_cons]
  by_cases e : x = y
  · simp only [e, true_and, if_true]
    subst e
    (repeat' split) <;> omega
  · simp only [e, false_and, if_false]
    split <;> omega
/-- The first index at which the event stands and nothing is lost behind it. -/
def fnd (e : Ev) (a : List Ev) (L : Nat) : List Ev → Option Nat
  | [] => none
  | y :: b => if e = y ∧ lcs a b + 1 = L then some 0 else (fnd e a L b).map (· + 1)
theorem fnd_low (e : Ev) (a : List Ev) (L : Nat) : ∀ b : List Ev, lcs a b + 1 < L → fnd e a L b = none
  | [], _ => rfl
  | y :: b, h => by
    have h1 := ((lcs_step a b).2 y).1
    unfold fnd
    rw [if_neg (fun c => by omega), fnd_low e a L b (by omega)]
    rfl
theorem fnd_idx (e : Ev) (a : List Ev) (L : Nat) : ∀ b : List Ev, lcs (e :: a) b ≤ L → fnd e a L b = match idx e b with | some k => if lcs a (b.drop (k + 1)) + 1 = L then some k else none | none => none
  | [], _ => rfl
  | y :: b, h => by
    have h1 := ((lcs_step (e :: a) b).2 y).1
    unfold fnd idx
    by_cases c : e = y
    · subst c
      rw [lcs_cons, if_pos rfl] at h
      simp only [true_and, if_true, Nat.zero_add, List.drop_succ_cons, List.drop_zero]
      split
      · rfl
      · rw [fnd_low e a L b (by omega)]
        rfl
    · rw [if_neg (fun h => c h.1), if_neg c, fnd_idx e a L b (by omega)]
      cases idx e b with
      | none => rfl
      | some k =>
        simp only [Option.map_some, List.drop_succ_cons]
        split <;> rfl
/-- The document's least one. -/
def mtR : Nat → Nat → List Ev → List Ev → List (Nat × Nat)
  | _, _, [], _ => []
  | i, j, e :: a, b => if lcs (e :: a) b = 0 then [] else
    match fnd e a (lcs (e :: a) b) b with
    | some k => (i, j + k) :: mtR (i + 1) (j + k + 1) a (b.drop (k + 1))
    | none => mtR (i + 1) j a b
theorem mtR_eq : ∀ (i j : Nat) (a b : List Ev), mtR i j a b = mt i j a b
  | _, _, [], b => rfl
  | i, j, e :: a, b => by
    simp only [mtR, mt]
    split
    · rfl
    · rw [fnd_idx e a _ b (Nat.le_refl _)]
      cases idx e b with
      | none => exact mtR_eq (i + 1) j a b
      | some k =>
        by_cases c : lcs a (b.drop (k + 1)) + 1 = lcs (e :: a) b
        · simp only [c, if_true]
          exact congrArg _ (mtR_eq (i + 1) (j + k + 1) a (b.drop (k + 1)))
        · simp only [c, if_false]
          exact mtR_eq (i + 1) j a b
/-- The document's Rises: each pair for itself, and against the one ahead of it. -/
def ris (n m : Int) (l : List Ev) : Prop := ∀ (i : Nat) (p : Ev), l[i]? = some p → (0 ≤ p.1 ∧ 0 ≤ p.2 ∧ p.1 < n ∧ p.2 < m) ∧ ∀ q : Ev, 0 < i → l[i - 1]? = some q → q.1 < p.1 ∧ q.2 < p.2
theorem rise_ris {n m : Int} : ∀ (q : Ev) (l : List Ev), -1 ≤ q.1 → -1 ≤ q.2 → (rise n m q l = true ↔ ris n m l ∧ ∀ p, l[0]? = some p → q.1 < p.1 ∧ q.2 < p.2)
  | q, [], _, _ => by simp [rise, ris]
  | q, p :: l, h1, h2 => by
    constructor
    · intro h
      obtain ⟨a, b, c, d, e⟩ := rise_cons h
      have ih := (rise_ris (n := n) (m := m) p l (by omega) (by omega)).1 e
      refine ⟨fun i x hx => ?_, fun x hx => by simp at hx; subst hx; exact ⟨a, c⟩⟩
      cases i with
      | zero =>
        simp at hx; subst hx
        exact ⟨⟨by omega, by omega, b, d⟩, fun y hy => absurd hy (Nat.lt_irrefl 0)⟩
      | succ i =>
        have hx' : l[i]? = some x := by simpa using hx
        refine ⟨(ih.1 i x hx').1, fun y _ hy => ?_⟩
        cases i with
        | zero => simp at hy; subst hy; exact ih.2 x hx'
        | succ i => exact (ih.1 (i + 1) x hx').2 y (Nat.succ_pos i) (by simpa using hy)
    · rintro ⟨h, k⟩
      have hp := h 0 p rfl
      have kp := k p rfl
      refine rise_mk kp.1 hp.1.2.2.1 kp.2 hp.1.2.2.2 ((rise_ris p l (by omega) (by omega)).2 ⟨fun i x hx => ?_, fun x hx => ?_⟩)
      · have := h (i + 1) x (by simpa using hx)
        refine ⟨this.1, fun y hi hy => this.2 y (Nat.succ_pos i) ?_⟩
        obtain ⟨i, rfl⟩ : ∃ j, i = j + 1 := ⟨i - 1, by omega⟩
        simpa using hy
      · exact (h 1 x (by simpa using hx)).2 p (Nat.succ_pos 0) rfl
end Go.Proofs.YthglhcabdadlpaaDoor.Al
