/- Layer 4: CheckCounts: variables. -/
import Derived.Test.YtoclmklfohimmaaZCkCd
namespace Go.Proofs.Ytoclmklfohimmaa
open Go.RowKit

/-- A var statement of a name. -/
def cnSt (nm : List UInt8) : Sy.St := .mk 1 nm [] 0 [] [] []
def svC : List (List UInt8) → List Value
  | [] => []
  | x :: r => .int .i64 1 :: .string ⟨x.toArray⟩ :: .string ⟨#[]⟩ :: .int .i64 0 :: .slice none 0 0 :: .slice none 0 0 :: .slice none 0 0 :: svC r
theorem svC_len : ∀ (l : List (List UInt8)), (svC l).length = l.length * 7
  | [] => rfl
  | x :: r => by simp only [svC, List.length_cons, svC_len r]; omega
theorem svC_app : ∀ (a b : List (List UInt8)), svC (a ++ b) = svC a ++ svC b
  | [], b => rfl
  | x :: r, b => by simp [svC, svC_app r b]
theorem svC_at : ∀ (l : List (List UInt8)) (j : Nat) (x : List UInt8), l[j]? = some x → (svC l)[j * 7]? = some (.int .i64 1) ∧ (svC l)[j * 7 + 1]? = some (.string ⟨x.toArray⟩) ∧ (svC l)[j * 7 + 2]? = some (.string ⟨#[]⟩) ∧ (svC l)[j * 7 + 3]? = some (.int .i64 0) ∧ (svC l)[j * 7 + 4]? = some (.slice none 0 0) ∧ (svC l)[j * 7 + 5]? = some (.slice none 0 0) ∧ (svC l)[j * 7 + 6]? = some (.slice none 0 0)
  | [], j, x, h => by simp at h
  | y :: r, 0, x, h => by simp at h; subst h; simp [svC]
  | y :: r, j + 1, x, h => by
    have := svC_at r j x (by simpa using h)
    have e : (j + 1) * 7 = j * 7 + 7 := by omega
    rw [e]
    simpa [svC] using this
theorem cells_7 (w : World) (c0 c1 c2 c3 c4 c5 c6 : Value) (t : TypeId) : ∀ (j : Nat) u, [c0, c1, c2, c3, c4, c5, c6][j]? = some u → (w.alloc (.cells #[c0, c1, c2, c3, c4, c5, c6] t)).cell? ((⟨w.heap.size, 0, none⟩ : Addr).add j) = some u := by
  intro j u hj
  match j, hj with
  | 0, hj => simp at hj; subst hj; simp [Addr.add]
  | 1, hj => simp at hj; subst hj; simp [Addr.add]
  | 2, hj => simp at hj; subst hj; simp [Addr.add]
  | 3, hj => simp at hj; subst hj; simp [Addr.add]
  | 4, hj => simp at hj; subst hj; simp [Addr.add]
  | 5, hj => simp at hj; subst hj; simp [Addr.add]
  | 6, hj => simp at hj; subst hj; simp [Addr.add]
theorem cells7_of {w : World} {g : Nat} {c0 c1 c2 c3 c4 c5 c6 : Value} (h0 : w.cell? ⟨g, 0, none⟩ = some c0) (h1 : w.cell? ⟨g, 1, none⟩ = some c1) (h2 : w.cell? ⟨g, 2, none⟩ = some c2) (h3 : w.cell? ⟨g, 3, none⟩ = some c3) (h4 : w.cell? ⟨g, 4, none⟩ = some c4) (h5 : w.cell? ⟨g, 5, none⟩ = some c5) (h6 : w.cell? ⟨g, 6, none⟩ = some c6) : ∀ (j : Nat) u, [c0, c1, c2, c3, c4, c5, c6][j]? = some u → w.cell? ((⟨g, 0, none⟩ : Addr).add j) = some u := by
  intro j u hj
  match j, hj with
  | 0, hj => simp at hj; subst hj; simpa [Addr.add] using h0
  | 1, hj => simp at hj; subst hj; simpa [Addr.add] using h1
  | 2, hj => simp at hj; subst hj; simpa [Addr.add] using h2
  | 3, hj => simp at hj; subst hj; simpa [Addr.add] using h3
  | 4, hj => simp at hj; subst hj; simpa [Addr.add] using h4
  | 5, hj => simp at hj; subst hj; simpa [Addr.add] using h5
  | 6, hj => simp at hj; subst hj; simpa [Addr.add] using h6
/-- Cells that were made ahead of a call are there behind it. -/
theorem z7_of {V W w7 : World} {c0 c1 c2 c3 c4 c5 c6 : Value} {t : TypeId} (b7 : Below W.heap.size W w7) (h : W.heap = (V.alloc (.cells #[c0, c1, c2, c3, c4, c5, c6] t)).heap) : ∀ (j : Nat) u, [c0, c1, c2, c3, c4, c5, c6][j]? = some u → w7.cell? ((⟨V.heap.size, 0, none⟩ : Addr).add j) = some u := by
  have kk : w7.heap[V.heap.size]? = (V.alloc (.cells #[c0, c1, c2, c3, c4, c5, c6] t)).heap[V.heap.size]? := by
    rw [b7.block V.heap.size (by rw [h]; simp), h]
  have e : ∀ i : Nat, w7.cell? ⟨V.heap.size, i, none⟩ = (V.alloc (.cells #[c0, c1, c2, c3, c4, c5, c6] t)).cell? ⟨V.heap.size, i, none⟩ := fun i => World.cell?_of_block (a := ⟨V.heap.size, i, none⟩) kk
  exact cells7_of ((e 0).trans (by simp [go_sem])) ((e 1).trans (by simp [go_sem])) ((e 2).trans (by simp [go_sem])) ((e 3).trans (by simp [go_sem])) ((e 4).trans (by simp [go_sem])) ((e 5).trans (by simp [go_sem])) ((e 6).trans (by simp [go_sem]))
/-- The body of main, in a row of statements (its cells: xs). -/
structure SL (W : World) (g0 bp : Nat) (n : Nat) (xs : List Value) (v : Value) (wr : World) : Prop where
  b0 : wr.cell? ⟨bp, 0, none⟩ = some (.slice (some ⟨g0, 0, none⟩) 1 1)
  m0 : wr.cell? ⟨g0, 0, none⟩ = some (.string ⟨#[109, 97, 105, 110]⟩)
  m1 : wr.cell? ⟨g0, 1, none⟩ = some (.slice none 0 0)
  m2 : wr.cell? ⟨g0, 2, none⟩ = some (.int .i64 0)
  m3 : wr.cell? ⟨g0, 3, none⟩ = some v
  f3 : wr.frozen? ⟨g0, 3, none⟩ = false
  row : wr.ownsRow W.heap.size 33 7 v n xs
  k : Keep (fun g => g = g0) W wr
  lg : g0 < W.heap.size
  lb : bp < W.heap.size
  nb : ¬ bp = g0
theorem SL.later {W wr wq : World} {g0 bp n : Nat} {xs : List Value} {v : Value} (h : SL W g0 bp n xs v wr) (b : Below wr.heap.size wr wq) : SL W g0 bp n xs v wq := by
  have hl := Nat.lt_of_lt_of_le h.lg h.k.size
  have hb := Nat.lt_of_lt_of_le h.lb h.k.size
  exact ⟨(b.cell hb).trans h.b0, (b.cell hl).trans h.m0, (b.cell hl).trans h.m1, (b.cell hl).trans h.m2, (b.cell hl).trans h.m3, (b.frozen hl).trans h.f3, own_later h.row b, h.k.trans (Keep.of_below b (Nat.le_refl _)), h.lg, h.lb, h.nb⟩
theorem SL.step {W wr w2 : World} {g0 bp n n2 : Nat} {xs xs2 : List Value} {v v2 : Value} (h : SL W g0 bp n xs v wr) (h2 : w2.ownsRow W.heap.size 33 7 v2 n2 xs2) (g2 : wr.grownBy w2 v.ownBlock) : SL W g0 bp n2 xs2 v2 (w2.setCell ⟨g0, 3, none⟩ v2) := by
  have hl := Nat.lt_of_lt_of_le h.lg h.k.size
  have hb := Nat.lt_of_lt_of_le h.lb h.k.size
  have hlg := h.lg
  have hlb := h.lb
  have hz := h.k.size
  have nv : ∀ g, g < W.heap.size → ¬ v.ownBlock = some g := fun g hg e => by have := (World.ownsRow.lt h.row _ e).1; omega
  have ne2 : ¬ v2.ownBlock = some g0 := fun e => by have := (World.ownsRow.lt h2 _ e).1; omega
  have kg : w2.heap[g0]? = wr.heap[g0]? := g2.block g0 hl (fun e => nv g0 hlg e.symm)
  have kb : w2.heap[bp]? = wr.heap[bp]? := g2.block bp hb (fun e => nv bp hlb e.symm)
  have K2 : Keep (fun g => g = g0) W w2 := ⟨g2.os.trans h.k.os, g2.tape.trans h.k.tape, g2.output.trans h.k.output, Nat.le_trans h.k.size g2.size, fun g hg hn => (g2.block g (by omega) (fun e => nv g hg e.symm)).trans (h.k.block g hg hn)⟩
  refine ⟨?_, ?_, ?_, ?_, World.cell?_setCell_same _ _ _ ((World.cell?_of_block (w := wr) (a := ⟨g0, 3, none⟩) kg).trans h.m3), by rw [World.frozen?_setCell]; exact (World.frozen?_of_block (w := wr) (a := ⟨g0, 3, none⟩) kg).trans h.f3, ownsRow_setCell_other h2 ne2 _, K2.set (a := ⟨g0, 3, none⟩) (.inr rfl) _, h.lg, h.lb, h.nb⟩
  · rw [World.cell?_setCell_other _ _ _ _ (by simp)]; exact (World.cell?_of_block (w := wr) (a := ⟨bp, 0, none⟩) kb).trans h.b0
  · rw [World.cell?_setCell_other _ _ _ _ (by simp)]; exact (World.cell?_of_block (w := wr) (a := ⟨g0, 0, none⟩) kg).trans h.m0
  · rw [World.cell?_setCell_other _ _ _ _ (by simp)]; exact (World.cell?_of_block (w := wr) (a := ⟨g0, 1, none⟩) kg).trans h.m1
  · rw [World.cell?_setCell_other _ _ _ _ (by simp)]; exact (World.cell?_of_block (w := wr) (a := ⟨g0, 2, none⟩) kg).trans h.m2
/-- A cell of the row is set. -/
theorem SL.put {W wr : World} {g0 bp n g cap c : Nat} {xs : List Value} (h : SL W g0 bp n xs (.slice (some ⟨g, 0, none⟩) n cap) wr) (u : Value) : SL W g0 bp n (xs.set c u) (.slice (some ⟨g, 0, none⟩) n cap) (wr.setCell ⟨g, c, none⟩ u) := by
  have hg := (World.ownsRow.lt h.row g rfl).1
  have hlg := h.lg
  have hlb := h.lb
  have o : ∀ (a : Addr), a.block < W.heap.size → (wr.setCell ⟨g, c, none⟩ u).cell? a = wr.cell? a := fun a ha => World.cell?_of_block (w := wr) (a := a) (heap_setCell_other wr _ a.block _ (by simp only; omega))
  exact ⟨(o _ hlb).trans h.b0, (o _ hlg).trans h.m0, (o _ hlg).trans h.m1, (o _ hlg).trans h.m2, (o _ hlg).trans h.m3, by rw [World.frozen?_setCell]; exact h.f3, own_set h.row u, h.k.set (a := ⟨g, c, none⟩) (.inl hg) _, h.lg, h.lb, h.nb⟩
theorem svC_fill (A : List Value) (m : Nat) (hm : A.length = m) (a0 a1 a2 a3 a4 a5 a6 z0 z1 z2 z3 z4 z5 z6 : Value) : ((((((((A ++ [z0, z1, z2, z3, z4, z5, z6]).set m a0).set (m + 1) a1).set (m + 2) a2).set (m + 3) a3).set (m + 4) a4).set (m + 5) a5).set (m + 6) a6) = A ++ [a0, a1, a2, a3, a4, a5, a6] := by
  subst hm
  rw [List.set_append_right _ _ (by omega), List.set_append_right _ _ (by omega), List.set_append_right _ _ (by omega), List.set_append_right _ _ (by omega), List.set_append_right _ _ (by omega), List.set_append_right _ _ (by omega), List.set_append_right _ _ (by omega)]
  simp
/-- Where a statement of the row lies. -/
theorem SL.cells {W wr : World} {g0 bp n g cap : Nat} {xs : List Value} (h : SL W g0 bp n xs (.slice (some ⟨g, 0, none⟩) n cap) wr) (c : Nat) (u : Value) (hu : xs[c]? = some u) : wr.cell? ⟨g, c, none⟩ = some u := by
  have := World.ownsRow.cells h.row (g := g) rfl c u hu
  have e : (⟨g, 0, none⟩ : Addr).add c = ⟨g, c, none⟩ := by unfold Addr.add; split <;> simp_all
  rw [e] at this
  exact this
theorem SL.fz {W wr : World} {g0 bp n g cap : Nat} {xs : List Value} (h : SL W g0 bp n xs (.slice (some ⟨g, 0, none⟩) n cap) wr) (c : Nat) : wr.frozen? ⟨g, c, none⟩ = false := by
  rcases h.row.2 with ⟨e, _⟩ | ⟨g', cap', cur, e, _, hh, _⟩
  · cases e
  · cases e
    simp [World.frozen?, hh]
/-- The program, as it lies. -/
theorem SL.pcs {W wr : World} {g0 bp : Nat} {ns : List (List UInt8)} {v : Value} (h : SL W g0 bp ns.length (svC ns) v wr) : PcS (fun _ => True) wr (.slice (some ⟨g0, 0, none⟩) 1 1) [⟨[109, 97, 105, 110], [], 0, ns.map cnSt⟩] := by
  have hlt := World.ownsRow.lt h.row
  obtain ⟨a, c, hv⟩ := own_shape h.row
  have sm : SmS (fun _ => True) wr (.slice a (ns.map cnSt).length c) (ns.map cnSt) := by
    by_cases h0 : ns.length = 0
    · have : ns = [] := List.length_eq_zero_iff.1 h0
      subst this
      exact .nil _ _
    · rcases h.row.2 with ⟨_, e⟩ | ⟨g, cap, cur, e, _, _, hnc, _⟩
      · omega
      rw [e] at hv
      cases hv
      subst e
      refine .some g 0 c _ _ rfl (by simp; omega) (by simp; omega) trivial (hlt g rfl).2 (SmC.of_cells _ 0 fun q hq => ?_)
      have hq' : q < ns.length := by simpa using hq
      obtain ⟨x, hx⟩ : ∃ x, ns[q]? = some x := ⟨_, List.getElem?_eq_getElem hq'⟩
      obtain ⟨a0, a1, a2, a3, a4, a5, a6⟩ := svC_at ns q x hx
      refine ⟨1, x, [], 0, none, 0, none, 0, none, 0, [], [], [], by simp [hx, cnSt], ?_⟩
      rw [Nat.zero_add]
      exact ⟨h.cells _ _ a0, h.cells _ _ a1, h.cells _ _ a2, h.cells _ _ a3, h.cells _ _ a4, h.cells _ _ a5, h.cells _ _ a6, .nil _ _, .nil _ _, .nil _ _⟩
  refine ⟨_, _, rfl, fun _ => ⟨g0, 0, rfl, trivial, Nat.lt_of_lt_of_le h.lg h.k.size, fun j hj => ?_⟩⟩
  obtain rfl : j = 0 := by simp at hj; omega
  refine ⟨_, none, 0, a, c, rfl, ⟨h.m0, h.m1, h.m2, ?_, ⟨none, 0, rfl, fun h => by simp at h⟩, sm⟩⟩
  rw [List.length_map]
  subst hv
  exact h.m3
end Go.Proofs.Ytoclmklfohimmaa
