/- Layer 15: the document's Size. -/
import Derived.Test.YtpfkoglmfbaadabDoorAlK
import Derived.Test.YtpfkoglmfbaadabDoorAlPn
namespace Go.Proofs.YtpfkoglmfbaadabDoor
open Go.RowKit
set_option linter.unusedVariables false
set_option linter.unusedSimpArgs false
set_option maxRecDepth 100000
/-- The cells of numbers. -/
def nuC (l : List Nat) : List Value := l.map fun (x : Nat) => Value.int .i64 (x : Int)
theorem nuC_app (l m : List Nat) : nuC (l ++ m) = nuC l ++ nuC m := by simp [nuC]
/-- A row of numbers that is owned. -/
def OwI (w : World) (base : Nat) (v : Value) (l : List Nat) : Prop := w.ownsRow base 3 1 v l.length (nuC l)
theorem OwI.later {w w' : World} {base : Nat} {v : Value} {l : List Nat} (h : OwI w base v l) (b : Below w.heap.size w w') : OwI w' base v l := ownA h b
theorem OwI.base {w : World} {b b' : Nat} {v : Value} {l : List Nat} (h : OwI w b v l) (hb : b' ≤ b) : OwI w b' v l := by
  have h0 : w.ownsRow b 3 1 v l.length (nuC l) := h
  refine ⟨h0.1, ?_⟩
  rcases h0.2 with h | ⟨g, cap, cur, e, hg, r⟩
  · exact .inl h
  · exact .inr ⟨g, cap, cur, e, Nat.le_trans hb hg, r⟩
theorem OwI.at {w : World} {base : Nat} {v : Value} {l : List Nat} (h : OwI w base v l) (h0 : 0 < l.length) : ∃ g c, v = .slice (some ⟨g, 0, none⟩) l.length c ∧ ∀ (j : Nat) (x : Nat), l[j]? = some x → w.cell? ⟨g, j, none⟩ = some (.int .i64 (x : Int)) := by
  have h1 : w.ownsRow base 3 1 v l.length (nuC l) := h
  rcases h1.2 with ⟨_, hn⟩ | ⟨g, cap, cur, rfl, hbg, hg, _⟩
  · omega
  · have hc := h1.cells (g := g) rfl
    refine ⟨g, cap, rfl, fun j x hj => ?_⟩
    have := hc j (.int .i64 (x : Int)) (by unfold nuC; rw [List.getElem?_map, hj]; rfl)
    rwa [add0A] at this
theorem OwI.grown {wr w8 : World} {base : Nat} {v v8 : Value} {l : List Nat} {o : Obj} {x : Nat} (ho : OwI wr base v l) (hb : base ≤ wr.heap.size) (h8 : w8.ownsRow base 3 1 v8 (l.length + 1) (nuC l ++ [.int .i64 (x : Int)])) (g8 : (wr.alloc o).grownBy w8 v.ownBlock) : OwI w8 base v8 (l ++ [x]) ∧ Below base wr w8 := by
  refine ⟨?_, ((Below.refl base wr).alloc hb o).trans ⟨g8.os, g8.tape, g8.output, g8.size, fun k hk => g8.block k (by simp; omega) (fun e => by have := (World.ownsRow.lt (show wr.ownsRow base _ 1 v l.length (nuC l) from ho) _ e.symm).1; omega)⟩⟩
  unfold OwI
  rw [nuC_app, List.length_append]
  exact h8
theorem infoInA : ∃ i, Tryd.prog.info? 3 = some i ∧ i.zero = some (.int .i64 0) ∧ i.size = 1 ∧ i.bytes = 8 := infoP _ _ _ _ _ (by kernel_rfl)
theorem one1A (w : World) (a : Value) (t : TypeId) : ∀ (j : Nat) (u : Value), [a][j]? = some u → (w.alloc (.cells #[a] t)).cell? ((⟨w.heap.size, 0, none⟩ : Addr).add j) = some u
  | 0, u, h => by simp at h; subst h; simp [Addr.add]
  | j + 1, u, h => by simp at h
theorem own63i {k : Nat} (h : k ≤ 1000) : k + 1 ≤ maxLen ∧ (k + 1) * 8 ≤ 140737488355328 := by unfold maxLen; omega
namespace Al
/-- The sizes of what two rows begin with: i of the first, each number of the second. -/
def rowL (l m : List Ev) (i : Nat) : List Nat := (List.range (m.length + 1)).map fun j => lcs (l.take i) (m.take j)
theorem rowL_len (l m : List Ev) (i : Nat) : (rowL l m i).length = m.length + 1 := by simp [rowL]
theorem rowL_get {l m : List Ev} {i j : Nat} (h : j ≤ m.length) : (rowL l m i)[j]? = some (lcs (l.take i) (m.take j)) := by
  unfold rowL
  rw [List.getElem?_map, List.getElem?_range (by omega)]
  rfl
theorem rowL_take {l m : List Ev} {i j : Nat} (h : j ≤ m.length) : (rowL l m i).take (j + 1) = (rowL l m i).take j ++ [lcs (l.take i) (m.take j)] := by
  rw [List.take_add_one, rowL_get h]
  rfl
theorem rowL_zero (l m : List Ev) : rowL l m 0 = List.replicate (m.length + 1) 0 := by
  apply List.ext_getElem?
  intro j
  by_cases h : j ≤ m.length
  · rw [rowL_get h, List.getElem?_replicate, if_pos (by omega), List.take_zero, lcs_nil]
  · rw [List.getElem?_eq_none (by rw [rowL_len]; omega), List.getElem?_eq_none (by simp; omega)]
theorem rowL_step {l m : List Ev} {i j : Nat} {x y : Ev} (hx : l[i]? = some x) (hy : m[j]? = some y) : lcs (l.take (i + 1)) (m.take (j + 1)) = stp x y (lcs (l.take i) (m.take (j + 1))) (lcs (l.take (i + 1)) (m.take j)) (lcs (l.take i) (m.take j)) := by
  have e1 : l.take (i + 1) = l.take i ++ [x] := by rw [List.take_add_one, hx]; rfl
  have e2 : m.take (j + 1) = m.take j ++ [y] := by rw [List.take_add_one, hy]; rfl
  rw [e1, e2, lcs_stp]
theorem rowL_bd (l m : List Ev) (i j : Nat) (h : l.length ≤ 100) : lcs (l.take i) (m.take j) ≤ 100 := by
  have := (lcs_bd (l.take i) (m.take j)).1
  simp only [List.length_take] at this
  omega
end Al
theorem sz_mk (wz : World) (N : Nat) (h : N ≤ 1000) : (Instr.makeSlice 36 (.int .i64 (N : Int)) (.int .i64 (N : Int))).run Tryd.prog wz = .ok (.slice (some ⟨wz.heap.size, 0, none⟩) N N) (wz.alloc (.cells (madeCells (Value.int .i64 0).cells (N * 1)) 3)) := by
  obtain ⟨i0, hi, hz0, hz1, hz2⟩ := infoInA
  have := run_make (P := Tryd.prog) wz 36 3 i0 (.int .i64 0) Tryd.underlying36 hi hz0 .i64 .i64 (N : Int) (N : Int) (by omega) (Int.le_refl _) (by rw [hz2]; omega) (by omega)
  rw [hz1] at this
  simpa using this
theorem made64 (N : Nat) : (madeCells (Value.int .i64 0).cells (N * 1)).toList = nuC (List.replicate N 0) := by
  apply List.ext_getElem?
  intro j
  unfold nuC
  by_cases h : j < N
  · simp [madeCells, Value.cells, h, Nat.mod_one]
  · simp [madeCells, Value.cells, h]
theorem OwI.made (wz : World) (N : Nat) (h : N ≤ 1000) : OwI (wz.alloc (.cells (madeCells (Value.int .i64 0).cells (N * 1)) 3)) wz.heap.size (.slice (some ⟨wz.heap.size, 0, none⟩) N N) (List.replicate N 0) := by
  unfold OwI
  rw [List.length_replicate, ← made64]
  exact World.ownsRow_lit (base := wz.heap.size) (size := 1) (e := 3) wz _ N (Nat.le_refl _) (by unfold maxLen; omega) (by simp [madeCells, Value.cells])
theorem ix_numsB {i n : Nat} (h : i < n) : (i : Int) < (n : Int) ∧ decide (i < n) = true ∧ (0 : Int) ≤ (i : Int) := ⟨by omega, decide_eq_true h, by omega⟩
theorem wrM (M : Nat) (h : M ≤ 100) : wrap64 ((M : Int) + 1) = ((M + 1 : Nat) : Int) := by unfold wrap64; omega
theorem wrM' (M : Nat) (h : M ≤ 200) : IntKind.i64.wrap ((M : Int) + 1) = ((M + 1 : Nat) : Int) := by rw [IntKind.wrap_i64]; omega
theorem stp_of {x y : Al.Ev} {U L D D1 n R : Nat} (hD : D1 = D + 1) (hn : n = if U < L then L else U) (h : R = if x = y ∧ n < D1 then D1 else n) : R = Al.stp x y U L D := by
  subst hD hn
  exact h
end Go.Proofs.YtpfkoglmfbaadabDoor
