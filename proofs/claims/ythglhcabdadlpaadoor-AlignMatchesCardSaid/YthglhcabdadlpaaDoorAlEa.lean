/- Layer 15: the document's Sizes. -/
import Derived.Test.YthglhcabdadlpaaDoorAlCa
namespace Go.Proofs.YthglhcabdadlpaaDoor
open Go.RowKit
set_option linter.unusedVariables false
set_option linter.unusedSimpArgs false
set_option maxRecDepth 100000
/-- The cells of rows of numbers, each in a block of its own. -/
def slC (M1 : Nat) (gs : List Nat) : List Value := gs.map fun g => Value.slice (some ⟨g, 0, none⟩) M1 M1
theorem slC_len (M1 : Nat) (gs : List Nat) : (slC M1 gs).length = gs.length := by simp [slC]
theorem slC_one (M1 : Nat) (gs : List Nat) : ∀ u ∈ slC M1 gs, u.oneCell' = true := fun u h => by
  unfold slC at h
  obtain ⟨g, -, rfl⟩ := List.mem_map.1 h
  rfl
theorem infoSi : ∃ i, Tryd.prog.info? 78 = some i ∧ i.zero = some (.slice none 0 0) ∧ i.size = 1 ∧ i.bytes = 24 := infoP _ _ _ _ _ (by kernel_rfl)
/-- The rows of sizes from one on. -/
def SzG (w : World) (l m : List Al.Ev) (i : Nat) (gs : List Nat) : Prop := ∀ k g, gs[k]? = some g → g < w.heap.size ∧ ∀ j, j ≤ m.length → w.cell? ⟨g, j, none⟩ = some (.int .i64 (Al.lcs (l.drop (i + k)) (m.drop j) : Nat))
theorem SzG.later {w w' : World} {l m : List Al.Ev} {i : Nat} {gs : List Nat} (h : SzG w l m i gs) (b : Below w.heap.size w w') : SzG w' l m i gs := fun k g hk => by
  obtain ⟨h1, h2⟩ := h k g hk
  exact ⟨Nat.lt_of_lt_of_le h1 b.size, fun j hj => (b.cell (p := ⟨g, _, none⟩) h1).trans (h2 j hj)⟩
theorem SzG.cons {w : World} {l m : List Al.Ev} {i g0 : Nat} {gs : List Nat} (h : SzG w l m (i + 1) gs) (h0 : g0 < w.heap.size) (h1 : ∀ j, j ≤ m.length → w.cell? ⟨g0, j, none⟩ = some (.int .i64 (Al.lcs (l.drop i) (m.drop j) : Nat))) : SzG w l m i (g0 :: gs) := fun k g hk => by
  cases k with
  | zero => simp at hk; subst hk; exact ⟨h0, h1⟩
  | succ k =>
    have := h k g (by simpa using hk)
    rw [show i + 1 + k = i + (k + 1) from by omega] at this
    exact this
/-- The table that Sizes answers: in the block g a row a cell. -/
def SzT (w : World) (g : Nat) (l m : List Al.Ev) : Prop := g < w.heap.size ∧ ∀ i, i ≤ l.length → ∃ gi, w.cell? ⟨g, i, none⟩ = some (.slice (some ⟨gi, 0, none⟩) (m.length + 1) (m.length + 1)) ∧ gi < w.heap.size ∧ ∀ j, j ≤ m.length → w.cell? ⟨gi, j, none⟩ = some (.int .i64 (Al.lcs (l.drop i) (m.drop j) : Nat))
theorem SzT.later {w w' : World} {g : Nat} {l m : List Al.Ev} (h : SzT w g l m) (b : Below w.heap.size w w') : SzT w' g l m := by
  refine ⟨Nat.lt_of_lt_of_le h.1 b.size, fun i hi => ?_⟩
  obtain ⟨gi, h1, h2, h3⟩ := h.2 i hi
  exact ⟨gi, (b.cell (p := ⟨g, _, none⟩) h.1).trans h1, Nat.lt_of_lt_of_le h2 b.size, fun j hj => (b.cell (p := ⟨gi, _, none⟩) h2).trans (h3 j hj)⟩
/-- A row that is being filled: block gr, all else as it was. -/
def PR (W0 : World) (B gr M1 J : Nat) (f : Nat → Nat) (n : Nat) (V : World) : Prop := Below B W0 V ∧ NB V gr M1 (fun k => if k = J then n else f k)
theorem PR.set {W0 : World} {B gr M1 J : Nat} {f : Nat → Nat} {n n' : Nat} {V : World} (h : PR W0 B gr M1 J f n V) (hg : B ≤ gr) (hJ : J < M1) : PR W0 B gr M1 J f n' (V.setCell ⟨gr, J, none⟩ (.int .i64 (n' : Nat))) :=
  ⟨below_set h.1 hg _, (h.2.set (v := n') hJ).congr fun j hj => by
    by_cases c : j = J
    · rw [if_pos c, if_pos c]
    · rw [if_neg c, if_neg c, if_neg c]⟩
theorem PR.same {W0 : World} {B gr M1 J : Nat} {f : Nat → Nat} {n : Nat} {V V' : World} (h : PR W0 B gr M1 J f n V) (h1 : V'.os = V.os) (h2 : V'.tape = V.tape) (h3 : V'.output = V.output) (h4 : V'.heap = V.heap) : PR W0 B gr M1 J f n V' := by
  have b : Below V.heap.size V V' := ⟨h1, h2, h3, by rw [h4]; exact Nat.le_refl _, fun i hi => by rw [h4]⟩
  refine ⟨h.1.trans ⟨h1, h2, h3, by rw [h4]; exact Nat.le_refl _, fun i hi => by rw [h4]⟩, ?_⟩
  exact h.2.later b h.2.1
theorem drop_get {α : Type} {l : List α} {i : Nat} {x : α} (h : l[i]? = some x) : l.drop i = x :: l.drop (i + 1) := by
  obtain ⟨h1, h2⟩ := List.getElem?_eq_some_iff.1 h
  rw [List.drop_eq_getElem_cons h1, h2]
theorem lcs_db (l m : List Al.Ev) (i j : Nat) (h : l.length ≤ 100) : Al.lcs (l.drop i) (m.drop j) ≤ 100 := by
  have := (Al.lcs_bd (l.drop i) (m.drop j)).1
  simp only [List.length_drop] at this
  omega
theorem own63s {k : Nat} (h : k ≤ 1000) : k + 1 ≤ maxLen ∧ (k + 1) * 24 ≤ 140737488355328 := by unfold maxLen; omega
theorem own63t {k : Nat} (h : k ≤ 1000) : 1 + k ≤ maxLen ∧ (1 + k) * 24 ≤ 140737488355328 := by unfold maxLen; omega
theorem dn_nums (k : Nat) (h : k ≤ 200) : wrap64 ((k : Int) - 1) = (k : Int) - 1 ∧ wrap64 (((k + 1 : Nat) : Int) - 1) = (k : Int) := by unfold wrap64; omega
end Go.Proofs.YthglhcabdadlpaaDoor
