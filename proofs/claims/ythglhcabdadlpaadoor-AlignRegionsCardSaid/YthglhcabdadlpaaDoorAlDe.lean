/- Layer 15: hunks. -/
import Derived.Test.YthglhcabdadlpaaDoorAlDa
import Derived.Test.YthglhcabdadlpaaDoorAlDd
import Derived.Test.YthglhcabdadlpaaDoorAlM
namespace Go.Proofs.YthglhcabdadlpaaDoor
open Go.RowKit
set_option linter.unusedVariables false
set_option linter.unusedSimpArgs false
set_option maxRecDepth 100000
theorem own_setA {w : World} {base : Nat} {e : TypeId} {size g n cap c : Nat} {xs : List Value} (h : w.ownsRow base e size (.slice (some ⟨g, 0, none⟩) n cap) n xs) (u : Value) :
    (w.setCell ⟨g, c, none⟩ u).ownsRow base e size (.slice (some ⟨g, 0, none⟩) n cap) n (xs.set c u) := by
  rcases h.2 with ⟨h0, _⟩ | ⟨g', cap', cur, hv, hb, hh, hnc, hcm, hcs, ht⟩
  · cases h0
  · cases hv
    refine ⟨by simpa using h.1, .inr ⟨g, cap, cur.setIfInBounds c u, rfl, hb, heap_setCell_same _ _ _ _ _ _ hh, hnc, hcm, by simpa using hcs, ?_⟩⟩
    rw [Array.toList_setIfInBounds, List.take_set, ht]
theorem rgC_len : ∀ l : List Al.Rg, (rgC l).length = l.length * 4
  | [] => rfl
  | x :: l => by
    have := rgC_len l
    have e : rgC (x :: l) = .int .i64 x.fa :: .int .i64 x.ta :: .int .i64 x.fb :: .int .i64 x.tb :: rgC l := rfl
    rw [e]
    simp only [List.length_cons, this]
    omega
theorem rgC_setL (x r : Al.Rg) (A : List Al.Rg) : ((rgC (A ++ [x])).set (A.length * 4 + 1) (.int .i64 r.ta)).set (A.length * 4 + 3) (.int .i64 r.tb) = rgC (A ++ [⟨x.fa, r.ta, x.fb, r.tb⟩]) := by
  rw [rgC_app, rgC_app]
  have h := rgC_len A
  rw [List.set_append_right _ _ (by rw [h]; exact Nat.le_add_right _ _), List.set_append_right _ _ (by rw [h]; exact Nat.le_add_right _ _), h, show A.length * 4 + 1 - A.length * 4 = 1 from by omega, show A.length * 4 + 3 - A.length * 4 = 3 from by omega]
  rfl
/-- The last region's end is set anew. -/
theorem OwG.last {w : World} {base : Nat} {ty : TypeId} {v : Value} {l : List Al.Rg} (h : OwG w base ty v l) (hl : l ≠ []) (r : Al.Rg) : ∃ g c, v = .slice (some ⟨g, 0, none⟩) l.length c ∧ base ≤ g ∧ g < w.heap.size ∧ w.frozen? ⟨g, (l.length - 1) * 4 + 1, none⟩ = false ∧ w.frozen? ⟨g, (l.length - 1) * 4 + 3, none⟩ = false ∧
    (∃ y1 y3, w.cell? ⟨g, (l.length - 1) * 4 + 1, none⟩ = some y1 ∧ w.cell? ⟨g, (l.length - 1) * 4 + 3, none⟩ = some y3) ∧
    OwG ((w.setCell ⟨g, (l.length - 1) * 4 + 1, none⟩ (.int .i64 r.ta)).setCell ⟨g, (l.length - 1) * 4 + 3, none⟩ (.int .i64 r.tb)) base ty v (Al.setL l r) ∧
    OwG ((w.setCell ⟨g, (l.length - 1) * 4 + 3, none⟩ (.int .i64 r.tb)).setCell ⟨g, (l.length - 1) * 4 + 1, none⟩ (.int .i64 r.ta)) base ty v (Al.setL l r) := by
  obtain ⟨A, x, rfl⟩ := Al.split_last hl
  have hn : (A ++ [x]).length = A.length + 1 := by simp
  have h0 : w.ownsRow base ty 4 v (A ++ [x]).length (rgC (A ++ [x])) := h
  rcases h0.2 with ⟨rfl, hz⟩ | ⟨g, cap, cur, rfl, hb, hh, hnc, hcm, hcs, ht⟩
  · omega
  · have s1 := own_setA (c := (A.length + 1 - 1) * 4 + 1) h0 (.int .i64 r.ta)
    have s2 := own_setA (c := (A.length + 1 - 1) * 4 + 3) s1 (.int .i64 r.tb)
    have t1 := own_setA (c := (A.length + 1 - 1) * 4 + 3) h0 (.int .i64 r.tb)
    have t2 := own_setA (c := (A.length + 1 - 1) * 4 + 1) t1 (.int .i64 r.ta)
    rw [Nat.add_sub_cancel] at s1 s2 t1 t2
    rw [rgC_setL] at s2
    rw [List.set_comm _ _ (by omega), rgC_setL] at t2
    rw [Al.setL_app]
    have hcc := h0.cells (g := g) rfl
    obtain ⟨-, d1, -, d3⟩ := rgC_get (l := A ++ [x]) (k := A.length) (r := x) (by simp)
    have k1 := hcc _ _ d1
    have k3 := hcc _ _ d3
    rw [add0A] at k1 k3
    rw [hn] at s2 t2 ⊢
    refine ⟨g, cap, rfl, hb, (Array.getElem?_eq_some_iff.1 hh).1, ?_, ?_, ⟨_, _, k1, k3⟩, ?_, ?_⟩
    · simp [World.frozen?, hh]
    · simp [World.frozen?, hh]
    · unfold OwG
      rw [List.length_append]
      exact s2
    · unfold OwG
      rw [List.length_append]
      exact t2
end Go.Proofs.YthglhcabdadlpaaDoor
