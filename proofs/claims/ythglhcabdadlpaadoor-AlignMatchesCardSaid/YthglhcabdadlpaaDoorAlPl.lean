/- Layer 15, plain: where two rows part, sizes of greatest matchings, the least one of them. -/
import Derived.KernelRfl
namespace Go.Proofs.YthglhcabdadlpaaDoor.Al
set_option linter.unusedVariables false
set_option linter.unusedSimpArgs false
/-- An event: its kind and its number. -/
abbrev Ev := Int × Int
/-- How many events two rows begin with alike. -/
def tog : List Ev → List Ev → Nat
  | x :: a, y :: b => if x = y then tog a b + 1 else 0
  | _, _ => 0
theorem tog_le : ∀ a b : List Ev, tog a b ≤ a.length ∧ tog a b ≤ b.length
  | [], b => by simp [tog]
  | _ :: _, [] => by simp [tog]
  | x :: a, y :: b => by
    have := tog_le a b
    simp only [tog]
    split <;> simp <;> omega
theorem tog_get : ∀ (a b : List Ev) (i : Nat), i < tog a b → a[i]? = b[i]?
  | [], b, i, h => by simp [tog] at h
  | _ :: _, [], i, h => by simp [tog] at h
  | x :: a, y :: b, i, h => by
    simp only [tog] at h
    split at h
    · rename_i e
      subst e
      cases i with
      | zero => rfl
      | succ i => simpa using tog_get a b i (by omega)
    · omega
theorem tog_ne : ∀ (a b : List Ev) (x y : Ev), a[tog a b]? = some x → b[tog a b]? = some y → x ≠ y
  | [], b, x, y, h, _ => by simp [tog] at h
  | _ :: _, [], x, y, _, h => by simp [tog] at h
  | p :: a, q :: b, x, y, h, k => by
    simp only [tog] at h k
    split at h
    · rename_i e
      rw [if_pos e] at k
      exact tog_ne a b x y (by simpa using h) (by simpa using k)
    · rename_i e
      rw [if_neg e] at k
      simp at h k
      subst h k
      exact e
/-- It is the one place of this kind. -/
theorem tog_is (a b : List Ev) (k : Nat) (ha : k ≤ a.length) (hb : k ≤ b.length) (h : ∀ i, i < k → a[i]? = b[i]?) (e : k = a.length ∨ k = b.length ∨ a[k]? ≠ b[k]?) : tog a b = k := by
  have h1 := tog_le a b
  rcases Nat.lt_trichotomy (tog a b) k with c | c | c
  · obtain ⟨x, hx⟩ : ∃ x, a[tog a b]? = some x := ⟨_, List.getElem?_eq_getElem (by omega)⟩
    have h2 := h _ c
    exact absurd rfl (tog_ne a b x x hx (by rw [← h2]; exact hx))
  · exact c
  · rcases e with e | e | e
    · omega
    · omega
    · exact absurd (tog_get a b k c) e
theorem tog_comm : ∀ a b : List Ev, tog a b = tog b a
  | [], [] => rfl
  | [], _ :: _ => rfl
  | _ :: _, [] => rfl
  | x :: a, y :: b => by
    simp only [tog]
    rw [tog_comm a b]
    by_cases e : x = y
    · rw [if_pos e, if_pos e.symm]
    · rw [if_neg e, if_neg (fun h => e h.symm)]
/-- The parting. -/
def part (a b : List Ev) : Int := if tog a b = a.length ∧ tog a b = b.length then -1 else (tog a b : Int)
/-- Sizes of greatest matchings. -/
def row (x : Ev) (f : List Ev → Nat) : List Ev → Nat
  | [] => 0
  | y :: b => if x = y then f b + 1 else max (f (y :: b)) (row x f b)
def lcs : List Ev → List Ev → Nat
  | [] => fun _ => 0
  | x :: a => row x (lcs a)
theorem lcs_nil (b : List Ev) : lcs [] b = 0 := rfl
theorem lcs_nilr : ∀ a : List Ev, lcs a [] = 0
  | [] => rfl
  | _ :: _ => rfl
theorem lcs_cons (x y : Ev) (a b : List Ev) : lcs (x :: a) (y :: b) = if x = y then lcs a b + 1 else max (lcs a (y :: b)) (lcs (x :: a) b) := rfl
theorem lcs_bd : ∀ a b : List Ev, lcs a b ≤ a.length ∧ lcs a b ≤ b.length
  | [], b => by simp [lcs_nil]
  | x :: a, [] => by simp [lcs_nilr]
  | x :: a, y :: b => by
    rw [lcs_cons]
    have h1 := lcs_bd a b
    have h2 := lcs_bd a (y :: b)
    have h3 := lcs_bd (x :: a) b
    simp only [List.length_cons] at h2 h3 ⊢
    split <;> omega
  termination_by a b => a.length + b.length
/-- A row shorter by one loses at most one. -/
theorem lcs_step : ∀ (a b : List Ev), (∀ x, lcs a b ≤ lcs (x :: a) b ∧ lcs (x :: a) b ≤ lcs a b + 1) ∧ (∀ y, lcs a b ≤ lcs a (y :: b) ∧ lcs a (y :: b) ≤ lcs a b + 1)
  | [], b => by
    refine ⟨fun x => ?_, fun y => by simp [lcs_nil]⟩
    induction b with
    | nil => simp [lcs_nil, lcs_nilr]
    | cons z b ih =>
      rw [lcs_cons, lcs_nil, lcs_nil]
      rw [lcs_nil] at ih
      split <;> omega
  | p :: a, b => by
    have hr : ∀ y, lcs (p :: a) b ≤ lcs (p :: a) (y :: b) ∧ lcs (p :: a) (y :: b) ≤ lcs (p :: a) b + 1 := fun y => by
      have h1 := (lcs_step a b).1 p
      have h2 := (lcs_step a b).2 y
      rw [lcs_cons]
      split <;> omega
    refine ⟨fun x => ?_, hr⟩
    cases b with
    | nil => simp [lcs_nilr]
    | cons z b =>
      have h1 := lcs_step (p :: a) b
      have h2 := h1.1 x
      have h3 := h1.2 z
      rw [lcs_cons x z]
      split <;> omega
  termination_by a b => a.length + b.length
theorem lcs_comm : ∀ a b : List Ev, lcs a b = lcs b a
  | [], b => by rw [lcs_nil, lcs_nilr]
  | x :: a, [] => by rw [lcs_nil, lcs_nilr]
  | x :: a, y :: b => by
    rw [lcs_cons, lcs_cons, lcs_comm a b, lcs_comm a (y :: b), lcs_comm (x :: a) b]
    by_cases e : x = y
    · rw [if_pos e, if_pos e.symm]
    · rw [if_neg e, if_neg (fun h => e h.symm), Nat.max_comm]
  termination_by a b => a.length + b.length
/-- What is dropped takes away. -/
theorem lcs_drop (a : List Ev) : ∀ (b : List Ev) (k : Nat), lcs a (b.drop k) ≤ lcs a b
  | b, 0 => Nat.le_refl _
  | [], k + 1 => by simp
  | y :: b, k + 1 => Nat.le_trans (lcs_drop a b k) ((lcs_step a b).2 y).1
/-- Two rows that begin alike. -/
theorem lcs_tog : ∀ a b : List Ev, lcs a b = tog a b + lcs (a.drop (tog a b)) (b.drop (tog a b))
  | [], b => by simp [tog]
  | _ :: _, [] => by simp [tog]
  | x :: a, y :: b => by
    simp only [tog]
    by_cases e : x = y
    · rw [lcs_cons, if_pos e, if_pos e]
      simp only [List.drop_succ_cons]
      have := lcs_tog a b
      omega
    · rw [if_neg e]
      simp
/-- The first index of an event. -/
def idx (e : Ev) : List Ev → Option Nat
  | [] => none
  | y :: b => if e = y then some 0 else (idx e b).map (· + 1)
theorem idx_lt {e : Ev} : ∀ {b : List Ev} {k : Nat}, idx e b = some k → k < b.length ∧ b[k]? = some e
  | [], k, h => by simp [idx] at h
  | y :: b, k, h => by
    simp only [idx] at h
    split at h
    · rename_i c
      cases h
      simp [c]
    · obtain ⟨j, hj, rfl⟩ := Option.map_eq_some_iff.1 h
      have := idx_lt hj
      exact ⟨by simp only [List.length_cons]; omega, by rw [List.getElem?_cons_succ]; exact this.2⟩
theorem idx_least {e : Ev} : ∀ {b : List Ev} {k : Nat}, idx e b = some k → ∀ i, i < k → b[i]? ≠ some e
  | [], k, h => by simp [idx] at h
  | y :: b, k, h => by
    simp only [idx] at h
    split at h
    · cases h
      intro i hi
      omega
    · rename_i c
      obtain ⟨j, hj, rfl⟩ := Option.map_eq_some_iff.1 h
      intro i hi
      cases i with
      | zero => simp; exact fun h => c h.symm
      | succ i => simpa using idx_least hj i (by omega)
theorem idx_none {e : Ev} : ∀ {b : List Ev}, idx e b = none → ∀ i : Nat, b[i]? ≠ some e
  | [], h => by simp
  | y :: b, h => by
    simp only [idx] at h
    split at h
    · cases h
    · rename_i c
      have h1 : idx e b = none := by simpa using h
      intro i
      cases i with
      | zero => simp; exact fun h => c h.symm
      | succ i => simpa using idx_none h1 i
/-- An event that is not in a row adds nothing; one that is adds by its first index or not at all. -/
theorem lcs_idx_none {e : Ev} (a : List Ev) : ∀ {b : List Ev}, idx e b = none → lcs (e :: a) b = lcs a b
  | [], _ => by rw [lcs_nilr, lcs_nilr]
  | y :: b, h => by
    simp only [idx] at h
    split at h
    · cases h
    · rename_i c
      have h1 := lcs_idx_none a (b := b) (by simpa using h)
      rw [lcs_cons, if_neg c, h1]
      have := ((lcs_step a b).2 y).1
      omega
theorem lcs_idx {e : Ev} (a : List Ev) : ∀ {b : List Ev} {k : Nat}, idx e b = some k → lcs (e :: a) b = max (lcs a b) (lcs a (b.drop (k + 1)) + 1)
  | [], k, h => by simp [idx] at h
  | y :: b, k, h => by
    simp only [idx] at h
    rw [lcs_cons]
    split at h
    · rename_i c
      cases h
      rw [if_pos c]
      have := ((lcs_step a b).2 y).2
      simp
      omega
    · rename_i c
      obtain ⟨j, hj, rfl⟩ := Option.map_eq_some_iff.1 h
      rw [if_neg c, lcs_idx a hj]
      have := ((lcs_step a b).2 y).1
      simp only [List.drop_succ_cons]
      omega
/-- The least one of the greatest matchings, from the indices i and j on. -/
def mt : Nat → Nat → List Ev → List Ev → List (Nat × Nat)
  | _, _, [], _ => []
  | i, j, e :: a, b => if lcs (e :: a) b = 0 then [] else
    match idx e b with
    | some k => if lcs a (b.drop (k + 1)) + 1 = lcs (e :: a) b then (i, j + k) :: mt (i + 1) (j + k + 1) a (b.drop (k + 1)) else mt (i + 1) j a b
    | none => mt (i + 1) j a b
theorem mt_len : ∀ (i j : Nat) (a b : List Ev), (mt i j a b).length = lcs a b
  | _, _, [], b => by simp [mt, lcs_nil]
  | i, j, e :: a, b => by
    simp only [mt]
    split
    · rename_i h; rw [h]; rfl
    · rename_i h
      split
      · rename_i k hk
        split
        · rename_i h2
          rw [← h2, List.length_cons, mt_len]
        · rename_i h2
          rw [mt_len]
          have := lcs_idx a hk
          omega
      · rename_i hk
        rw [mt_len, lcs_idx_none a hk]
/-- The matching, and whether it is cut off. -/
def cut (a b : List Ev) (limit : Int) : Bool := decide (max limit 0 < ((a.length - tog a b : Nat) : Int) * ((b.length - tog a b : Nat) : Int))
def same (k : Nat) : List (Nat × Nat) := (List.range k).map fun i => (i, i)
def mat (a b : List Ev) (limit : Int) : List (Nat × Nat) := same (tog a b) ++ if cut a b limit then [] else mt (tog a b) (tog a b) (a.drop (tog a b)) (b.drop (tog a b))
theorem same_len (k : Nat) : (same k).length = k := by simp [same]
theorem mat_len (a b : List Ev) (limit : Int) : (mat a b limit).length = if cut a b limit then tog a b else lcs a b := by
  unfold mat
  split
  · simp [same_len]
  · rw [List.length_append, same_len, mt_len, ← lcs_tog]
theorem cut_comm (a b : List Ev) (limit : Int) : cut a b limit = cut b a limit := by
  unfold cut
  rw [tog_comm b a, Int.mul_comm]
/-- Rows that are turned round. -/
theorem mat_turned (a b : List Ev) (limit : Int) : (mat a b limit).length = (mat b a limit).length := by
  rw [mat_len, mat_len, cut_comm b a, tog_comm b a, lcs_comm b a]
/-- An event more. -/
theorem lcs_nil_snoc (e : Ev) : ∀ b : List Ev, lcs [e] (b ++ [e]) = 1
  | [] => by simp [lcs_cons, lcs_nil]
  | y :: b => by
    rw [List.cons_append, lcs_cons, lcs_nil, lcs_nil, lcs_nil_snoc e b]
    split <;> rfl
theorem lcs_snoc (e : Ev) : ∀ a b : List Ev, lcs (a ++ [e]) (b ++ [e]) = lcs a b + 1
  | [], b => by rw [List.nil_append, lcs_nil_snoc, lcs_nil]
  | x :: a, [] => by rw [List.nil_append, lcs_comm, lcs_nil_snoc, lcs_nilr]
  | x :: a, y :: b => by
    rw [List.cons_append, List.cons_append, lcs_cons, lcs_cons]
    have h1 := lcs_snoc e a b
    have h2 := lcs_snoc e a (y :: b)
    have h3 := lcs_snoc e (x :: a) b
    rw [List.cons_append] at h2 h3
    split <;> omega
  termination_by a b => a.length + b.length
end Go.Proofs.YthglhcabdadlpaaDoor.Al
