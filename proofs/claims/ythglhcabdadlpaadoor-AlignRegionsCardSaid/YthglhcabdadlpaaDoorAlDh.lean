/- Layer 15: the document's Hunks: what its walk wants. -/
import Derived.Test.YthglhcabdadlpaaDoorAlDf
import Derived.Test.YthglhcabdadlpaaDoorAlDc
namespace Go.Proofs.YthglhcabdadlpaaDoor
open Go.RowKit
set_option linter.unusedVariables false
set_option linter.unusedSimpArgs false
set_option maxRecDepth 100000
/-- A region's box, made in the world wq and counted since. -/
def RgI (wq : World) (gb : Nat) (a b c d : Int) (wr : World) : Prop := Below wq.heap.size wq wr ∧ gb = wq.heap.size ∧ wr.heap[gb]? = some (.cells #[.int .i64 a, .int .i64 b, .int .i64 c, .int .i64 d] 55 (0, 0))
theorem RgI.made (wq : World) (a b c d : Int) : RgI wq wq.heap.size a b c d (wq.alloc (.cells #[.int .i64 a, .int .i64 b, .int .i64 c, .int .i64 d] 55)) := ⟨(Below.refl _ _).alloc (Nat.le_refl _) _, rfl, rg4 _ _ _ _ _ _⟩
theorem RgI.fr {wq wr : World} {gb : Nat} {a b c d : Int} (h : RgI wq gb a b c d wr) (u v : Int) : RgI wq gb u b v d ((wr.setCell ⟨gb, 0, none⟩ (.int .i64 u)).setCell ⟨gb, 2, none⟩ (.int .i64 v)) := by
  obtain ⟨h1, rfl, h3⟩ := h
  refine ⟨below_set (below_set h1 (Nat.le_refl _) _) (Nat.le_refl _) _, rfl, ?_⟩
  have k1 := heap_setCell_same wr wq.heap.size 0 _ _ (.int .i64 u) h3
  exact heap_setCell_same _ wq.heap.size 2 _ _ (.int .i64 v) k1
theorem RgI.to {wq wr : World} {gb : Nat} {a b c d : Int} (h : RgI wq gb a b c d wr) (u v : Int) : RgI wq gb a u c v ((wr.setCell ⟨gb, 1, none⟩ (.int .i64 u)).setCell ⟨gb, 3, none⟩ (.int .i64 v)) := by
  obtain ⟨h1, rfl, h3⟩ := h
  refine ⟨below_set (below_set h1 (Nat.le_refl _) _) (Nat.le_refl _) _, rfl, ?_⟩
  have k1 := heap_setCell_same wr wq.heap.size 1 _ _ (.int .i64 u) h3
  exact heap_setCell_same _ wq.heap.size 3 _ _ (.int .i64 v) k1
/-- How often the first loop goes round. -/
theorem dn_all {c x1 x3 : Int} (hc : 0 ≤ c) (hc2 : c ≤ 3000) (h1 : 0 ≤ x1) (h3 : 0 ≤ x3) (b1 : x1 ≤ 3000) (b3 : x3 ≤ 3000) : ∃ D : Nat, D ≤ 3000 ∧ (D : Int) = min c (min x1 x3) ∧
    (∀ (j : Nat) (a b : Int), j < D → a = x1 - j → b = x3 - j → decide ((j : Int) < c) = true ∧ decide (0 < a) = true ∧ decide (0 < b) = true ∧ wrap64 (a - 1) = a - 1 ∧ wrap64 (b - 1) = b - 1) ∧
    (∀ (a b : Int), a = x1 - D → b = x3 - D → decide ((D : Int) < c) = false ∨ (decide ((D : Int) < c) = true ∧ decide (0 < a) = false) ∨ (decide ((D : Int) < c) = true ∧ decide (0 < a) = true ∧ decide (0 < b) = false)) := by
  obtain ⟨D, hD⟩ : ∃ D : Nat, (D : Int) = min c (min x1 x3) := ⟨(min c (min x1 x3)).toNat, by omega⟩
  refine ⟨D, by omega, hD, fun j a b hj ha hb => ?_, fun a b ha hb => ?_⟩
  · refine ⟨decide_eq_true (by omega), decide_eq_true (by omega), decide_eq_true (by omega), ?_, ?_⟩ <;> unfold wrap64 <;> omega
  · by_cases e1 : (D : Int) < c
    · by_cases e2 : 0 < a
      · exact .inr (.inr ⟨decide_eq_true e1, decide_eq_true e2, decide_eq_false (by omega)⟩)
      · exact .inr (.inl ⟨decide_eq_true e1, decide_eq_false e2⟩)
    · exact .inl (decide_eq_false e1)
/-- How often the second one does. -/
theorem up_all {c x2 x4 n m : Int} (hc : 0 ≤ c) (hc2 : c ≤ 3000) (h1 : 0 ≤ x2) (h3 : 0 ≤ x4) (b1 : x2 ≤ n) (b3 : x4 ≤ m) (hn : n ≤ 3000) (hm : m ≤ 3000) : ∃ D : Nat, D ≤ 3000 ∧ (D : Int) = min c (min (n - x2) (m - x4)) ∧
    (∀ (j : Nat) (a b : Int), j < D → a = x2 + j → b = x4 + j → decide ((j : Int) < c) = true ∧ decide (a < n) = true ∧ decide (b < m) = true ∧ wrap64 (a + 1) = a + 1 ∧ wrap64 (b + 1) = b + 1) ∧
    (∀ (a b : Int), a = x2 + D → b = x4 + D → decide ((D : Int) < c) = false ∨ (decide ((D : Int) < c) = true ∧ decide (a < n) = false) ∨ (decide ((D : Int) < c) = true ∧ decide (a < n) = true ∧ decide (b < m) = false)) := by
  obtain ⟨D, hD⟩ : ∃ D : Nat, (D : Int) = min c (min (n - x2) (m - x4)) := ⟨(min c (min (n - x2) (m - x4))).toNat, by omega⟩
  refine ⟨D, by omega, hD, fun j a b hj ha hb => ?_, fun a b ha hb => ?_⟩
  · refine ⟨decide_eq_true (by omega), decide_eq_true (by omega), decide_eq_true (by omega), ?_, ?_⟩ <;> unfold wrap64 <;> omega
  · by_cases e1 : (D : Int) < c
    · by_cases e2 : a < n
      · exact .inr (.inr ⟨decide_eq_true e1, decide_eq_true e2, decide_eq_false (by omega)⟩)
      · exact .inr (.inl ⟨decide_eq_true e1, decide_eq_false e2⟩)
    · exact .inl (decide_eq_false e1)
/-- A round of the document's reckoning. -/
theorem hR_step {n m c pt : Int} {x : Al.Rg} {acc l T : List Al.Rg} (h : Al.hR n m c pt acc (x :: l) = T) : Al.hR n m c x.ta (if acc ≠ [] ∧ x.fa - pt ≤ 2 * c then Al.setL acc (Al.wR n m c x) else acc ++ [Al.wR n m c x]) l = T := h
end Go.Proofs.YthglhcabdadlpaaDoor
