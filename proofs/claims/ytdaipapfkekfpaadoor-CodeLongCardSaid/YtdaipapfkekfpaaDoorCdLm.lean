/- CodeLong: instructions cell by cell; the code in its box while it grows. -/
import Derived.Test.YtdaipapfkekfpaaDoorCdLp
import Derived.Test.YtdaipapfkekfpaaDoorCdMw
namespace Go.Proofs.YtdaipapfkekfpaaDoor
open Go.RowKit
set_option linter.unusedVariables false
set_option linter.unusedSimpArgs false

theorem infoIns : (Tryd.prog.info? 23).map (fun i => (i.zero, i.size, i.bytes)) = some (some (.agg #[.int .i64 0, .int .i64 0, .int .i64 0]), 3, 24) := by kernel_rfl
def inC (i : Cd.In) : List Value := [.int .i64 i.op, .int .i64 i.n, .int .i64 i.m]
def InL (l : List Cd.In) : List Value := l.flatMap inC
theorem InL_app (l k : List Cd.In) : InL (l ++ k) = InL l ++ InL k := List.flatMap_append
theorem InL_one (i : Cd.In) : InL [i] = inC i := by simp [InL]
theorem InL_get : ∀ (l : List Cd.In) (j : Nat) (i : Cd.In), l[j]? = some i → (InL l)[j * 3]? = some (.int .i64 i.op) ∧ (InL l)[j * 3 + 1]? = some (.int .i64 i.n) ∧ (InL l)[j * 3 + 2]? = some (.int .i64 i.m)
  | [], j, p, h => by simp at h
  | q :: l, 0, p, h => by
    simp at h
    subst h
    exact ⟨rfl, rfl, rfl⟩
  | q :: l, j + 1, p, h => by
    have ih := InL_get l j p (by simpa using h)
    have e : ∀ k, (InL (q :: l))[(j + 1) * 3 + k]? = (InL l)[j * 3 + k]? := fun k => by
      unfold InL
      rw [List.flatMap_cons, List.getElem?_append_right (by show 3 ≤ _; omega)]
      congr 1
      show _ - 3 = _
      omega
    exact ⟨(e 0).trans ih.1, (e 1).trans ih.2.1, (e 2).trans ih.2.2⟩
theorem three3 (w : World) (c0 c1 c2 : Value) (t : TypeId) : ∀ (j : Nat) u, [c0, c1, c2][j]? = some u → (w.alloc (.cells #[c0, c1, c2] t)).cell? ((⟨w.heap.size, 0, none⟩ : Addr).add j) = some u := by
  intro j u hj
  match j, hj with
  | 0, hj => simp at hj; subst hj; simp [Addr.add]
  | 1, hj => simp at hj; subst hj; simp [Addr.add]
  | 2, hj => simp at hj; subst hj; simp [Addr.add]
  | n + 3, hj => simp at hj
theorem one3 (i : Cd.In) : ∀ u ∈ inC i, u.oneCell' = true := by
  intro u hp
  unfold inC at hp
  simp only [List.mem_cons, List.not_mem_nil, or_false] at hp
  rcases hp with rfl | rfl | rfl <;> rfl
/-- The code in its box bx, its instructions in a row of their own. -/
structure LgR (w : World) (bx m : Nat) (v : Value) (l : List Cd.In) (wr : World) : Prop where
  row : wr.ownsRow (bx + 1) 23 3 v m (InL l)
  len : m = l.length
  box : wr.heap[bx]? = some (.cells #[v, .int .i64 1, .int .i64 0, .bool false] 33 (0, 0))
  k : Below bx w wr
theorem LgR.lt {w : World} {bx m : Nat} {v : Value} {l : List Cd.In} {wr : World} (h : LgR w bx m v l wr) : bx < wr.heap.size := (Array.getElem?_eq_some_iff.1 h.box).1
theorem own_set {X : World} {bx c n sz : Nat} {e : TypeId} {v u : Value} {xs : List Value} (h : X.ownsRow (bx + 1) e sz v n xs) : (X.setCell ⟨bx, c, none⟩ u).ownsRow (bx + 1) e sz v n xs := by
  refine ⟨h.1, ?_⟩
  rcases h.2 with h1 | ⟨g, cap, cur, e1, hb, hg, rest⟩
  · exact .inl h1
  · refine .inr ⟨g, cap, cur, e1, hb, ?_, rest⟩
    rw [heap_setCell_other _ _ g _ (by simp; omega)]
    exact hg
theorem LgR.grow {w : World} {bx m : Nat} {v : Value} {l : List Cd.In} {wr : World} (h : LgR w bx m v l wr) {o : Obj} {w8 : World} (g8 : (wr.alloc o).grownBy w8 v.ownBlock) : w8.heap[bx]? = some (.cells #[v, .int .i64 1, .int .i64 0, .bool false] 33 (0, 0)) := by
  have hl := h.lt
  have kp := g8.block bx (by simp; omega) (fun e => by have := (World.ownsRow.lt h.row _ e.symm).1; omega)
  rw [kp]
  have := ((Below.refl wr.heap.size wr).alloc (Nat.le_refl _) o).block bx hl
  rw [this]
  exact h.box
theorem LgR.step {w : World} {bx m : Nat} {v : Value} {l : List Cd.In} {wr : World} (h : LgR w bx m v l wr) {o : Obj} {v8 : Value} {w8 : World} {i : Cd.In} (h8 : w8.ownsRow (bx + 1) 23 3 v8 (m + 1) (InL l ++ inC i)) (g8 : (wr.alloc o).grownBy w8 v.ownBlock) : LgR w bx (m + 1) v8 (l ++ [i]) (w8.setCell ⟨bx, 0, none⟩ v8) := by
  have hl := h.lt
  have hb := h.grow g8
  refine ⟨?_, by rw [h.len]; simp, heap_setCell_same _ _ _ _ _ _ hb, ?_⟩
  · rw [InL_app, InL_one]
    exact own_set h8
  · have b1 : Below bx w w8 := h.k.trans (Below.trans ((Below.refl bx wr).alloc (Nat.le_of_lt hl) o) ⟨g8.os, g8.tape, g8.output, g8.size, fun k hk => g8.block k (by simp; omega) (fun e => by have := (World.ownsRow.lt h.row _ e.symm).1; omega)⟩)
    exact b1.trans ⟨rfl, rfl, rfl, by simp, fun k hk => heap_setCell_other _ _ k _ (by simp; omega)⟩
theorem own_ins {w : World} {base : Nat} {e : TypeId} {v : Value} {l : List Cd.In} {n : Nat} (h : w.ownsRow base e 3 v n (InL l)) (hn : n = l.length) (h0 : 0 < n) (hb : n ≤ 1000000000000000) : ∃ g cap, v = .slice (some ⟨g, 0, none⟩) n cap ∧ n ≤ cap ∧ base ≤ g ∧ InS w.heap.size w (some ⟨g, 0, none⟩) l := by
  have hc := @World.ownsRow.cells _ _ _ _ _ _ _ h
  have hl := h.lt
  rcases h.2 with ⟨_, h1⟩ | ⟨g, cap, cur, rfl, hbg, _, hcap, _⟩
  · omega
  · refine ⟨g, cap, rfl, hcap, hbg, by omega, fun _ => ⟨g, 0, rfl, (hl g rfl).2, fun j i hj => ?_⟩⟩
    obtain ⟨a0, a1, a2⟩ := InL_get _ _ _ hj
    have get := fun j u hu => @hc g rfl j u hu
    refine ⟨?_, ?_, ?_⟩
    · have := get _ _ a0; rw [adM] at this; exact this
    · have := get _ _ a1; rw [adM] at this; rw [Nat.add_assoc]; exact this
    · have := get _ _ a2; rw [adM] at this; rw [Nat.add_assoc]; exact this
end Go.Proofs.YtdaipapfkekfpaaDoor
