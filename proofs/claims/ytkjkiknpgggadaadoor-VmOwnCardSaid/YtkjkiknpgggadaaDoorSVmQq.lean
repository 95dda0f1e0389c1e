/- Layer 9: the document's machine: store: clear. -/
/- Layer 9: the document's machine: its last frame in memory. -/
/- Layer 9: the document's machine: the last frame's cells in memory. -/
/- Layer 9: the document's machine: the last frame's stack in memory. -/
/- Layer 9: the document's machine: result, whatever the operation. -/
/- Layer 9: the document's machine: store, said of the machine. -/
/- Layer 9: the document's machine: store, whatever the operation, said of the machine. -/
/- Layer 9, plain: an instruction of the document's machine is the program's. -/
import Derived.Test.YtkjkiknpgggadaaDoorSVmRi
import Derived.Test.YtkjkiknpgggadaaDoorSVmRc
namespace Go.Proofs.YtkjkiknpgggadaaDoor
open Go.RowKit
set_option linter.unusedVariables false
set_option linter.unusedSimpArgs false

structure ClI (W1 : World) (base zb k kc : Nat) (cs : List Int) (n z j : Nat) (wr : World) : Prop where
  g : W1.grownBy wr (some zb)
  row : ∃ l', l'.length = k ∧ Vm.cl l' (n + j) (z - j) = Vm.cl cs n z ∧ wr.ownsRow base 2 1 (.slice (some ⟨zb, 0, none⟩) k kc) k (nC l')
theorem ClI.step {W1 : World} {base zb k kc : Nat} {cs : List Int} {n z j : Nat} {wr : World} (h : ClI W1 base zb k kc cs n z j wr) (hj : j < z) (hn : n + z ≤ k) : ClI W1 base zb k kc cs n z (j + 1) (wr.setCell ⟨zb, n + j, none⟩ (.int .i64 0)) := by
  obtain ⟨l', h1, h2, h3⟩ := h.row
  refine ⟨⟨h.g.os, h.g.tape, h.g.output, by have := h.g.size; simpa using this, fun i hi e => (heap_setCell_other _ _ i _ (by intro q; subst q; exact e rfl)).trans (h.g.block i hi e)⟩, l'.set (n + j) 0, by simpa using h1, ?_, ?_⟩
  · rw [← h2, show z - j = (z - (j + 1)) + 1 by omega, Vm.cl]
    rfl
  · have q := own_setc h3 (i := n + j) (by omega) (.int .i64 0)
    have e : (nC l').set (n + j) (.int .i64 0) = nC (l'.set (n + j) 0) := by simp [nC, List.map_set]
    rw [e] at q
    exact q
set_option maxRecDepth 100000 in
set_option maxHeartbeats 8000000 in
theorem rSto6 (w : World) (gf fo n z base zb k kc : Nat) (cs : List Int) (la : Option Addr) (lc : Nat) (hf : gf < w.heap.size) (hzf : ¬ gf = zb) (hcs : cs.length = k) (c3 : w.cell? ⟨gf, fo + 3, none⟩ = some (.slice (some ⟨zb, 0, none⟩) k kc)) (hrow : w.ownsRow base 2 1 (.slice (some ⟨zb, 0, none⟩) k kc) k (nC cs)) (hn : n + z ≤ k) (hk : k ≤ 65536) : Calls Tryd.prog 55 #[.pointer (some ⟨gf, fo, none⟩), .agg #[.int .i64 6, .int .i64 n, .int .i64 z], .slice la 0 lc] w fun e w' => e = .returned (.tuple #[]) ∧ ∃ X, Below w.heap.size w X ∧ X.grownBy w' (some zb) ∧ w'.ownsRow base 2 1 (.slice (some ⟨zb, 0, none⟩) k kc) k (nC (Vm.cl cs n z)) := by
  have hzl := (World.ownsRow.lt hrow zb rfl).2
  obtain ⟨W1, hW1⟩ : ∃ W1, W1 = w.alloc (.cells #[.int .i64 6, .int .i64 n, .int .i64 z] 47) := ⟨_, rfl⟩
  have BW0 : Below w.heap.size w W1 := by rw [hW1]; go_grown
  have BW : Hid (Below w.heap.size w W1) := BW0
  have i0 : W1.cell? ⟨w.heap.size, 0, none⟩ = some (.int .i64 6) := by rw [hW1]; simp [go_sem]
  have i1 : W1.cell? ⟨w.heap.size, 1, none⟩ = some (.int .i64 n) := by rw [hW1]; simp [go_sem]
  have i2 : W1.cell? ⟨w.heap.size, 2, none⟩ = some (.int .i64 z) := by rw [hW1]; simp [go_sem]
  have hib : w.heap.size < W1.heap.size := by rw [hW1]; simp
  obtain ⟨ib, hbb⟩ : ∃ ib, ib = w.heap.size := ⟨_, rfl⟩
  have HIB : Hid (ib = w.heap.size) := hbb
  have f3 := (BW0.cell (p := ⟨gf, fo + 3, none⟩) hf).trans c3
  have hf1 : gf < W1.heap.size := Nat.lt_of_lt_of_le hf BW0.size
  have I0 : Hid (ClI W1 base zb k kc cs n z 0 W1) := ⟨⟨rfl, rfl, rfl, Nat.le_refl _, fun i hi e => rfl⟩, cs, hcs, rfl, own_lat hrow BW0⟩
  have hzi : ¬ ib = zb := by omega
  rw [← hbb] at i0 i1 i2 hib
  have CELL : Hid (∀ wr, W1.grownBy wr (some zb) → wr.cell? ⟨ib, 1, none⟩ = some (.int .i64 n) ∧ wr.cell? ⟨ib, 2, none⟩ = some (.int .i64 z) ∧ wr.cell? ⟨gf, fo + 3, none⟩ = some (.slice (some ⟨zb, 0, none⟩) k kc)) := fun wr g => by
    have e1 := g.block ib hib (by intro e; exact hzi (by cases e; rfl))
    have e2 := g.block gf hf1 (by intro e; exact hzf (by cases e; rfl))
    refine ⟨?_, ?_, ?_⟩
    · rw [← i1]; simp only [World.cell?, e1]
    · rw [← i2]; simp only [World.cell?, e1]
    · rw [← f3]; simp only [World.cell?, e2]
  clear BW0 c3 hrow hcs
  go_enter Tryd.func55, Tryd.ntmps55
  go_upto_region 1 with fail
  rw [← hW1, ← hbb]
  clear hW1 hbb
  go_wp2_with fail
  have hwz : IntKind.i64.wrap ((n : Int) + (z : Int)) = (n : Int) + (z : Int) := by rw [IntKind.wrap_i64]; omega
  go_loopg [6] z (fun gk i wr => ∃ j : Nat, j + gk = z ∧ i = .int .i64 ((n + j : Nat) : Int) ∧ Hid (ClI W1 base zb k kc cs n z j wr))
  case atStart => exact ⟨0, by omega, rfl, I0⟩
  case round =>
    obtain ⟨j, hj, rfl, CI⟩ := hrel
    obtain ⟨d1, d2, d3⟩ := CELL.out wr CI.out.g
    clear i0 i1 i2 f3
    obtain ⟨q, hq⟩ : ∃ q, q = n + j := ⟨_, rfl⟩
    rw [← hq]
    rcases gk with _ | gO
    · obtain rfl : j = z := by omega
      have hji : ¬ (q : Int) < (n : Int) + (j : Int) := by omega
      have dj : decide ((q : Int) < (n : Int) + (j : Int)) = false := decide_eq_false hji
      have FIN : Hid (∃ X, Below w.heap.size w X ∧ X.grownBy wr (some zb) ∧ wr.ownsRow base 2 1 (.slice (some ⟨zb, 0, none⟩) k kc) k (nC (Vm.cl cs n j))) := by
        obtain ⟨l', h1, h2, h3⟩ := CI.out.row
        rw [Nat.sub_self, Vm.cl] at h2
        refine ⟨W1, BW.out, CI.out.g, ?_⟩
        rw [← h2]
        exact h3
      clear hq
      go_wp2_with fail
      go_end0
      exact ⟨rfl, FIN.out⟩
    · have hji : (q : Int) < (n : Int) + (z : Int) := by omega
      have dj : decide ((q : Int) < (n : Int) + (z : Int)) = true := decide_eq_true hji
      have hqk : (q : Int) < (k : Int) := by omega
      have hqn : q < k := by omega
      obtain ⟨l', h1, h2, h3⟩ := CI.out.row
      obtain ⟨u, hu, fu⟩ := own_cell h3 (j := q) (by omega)
      have NX : Hid (ClI W1 base zb k kc cs n z (j + 1) (wr.setCell ⟨zb, q, none⟩ (.int .i64 0))) := by rw [hq]; exact CI.out.step (by omega) hn
      have HQ : Hid (q = n + j) := hq
      clear h1 h2 h3 hq
      go_wp2_with fail
      go_roundg gO
      case measure => omega
      case rel => exact ⟨j + 1, by omega, by rw [HQ.out]; go_num, NX⟩
end Go.Proofs.YtkjkiknpgggadaaDoor

namespace Go.Proofs.YtkjkiknpgggadaaDoor
open Go.RowKit
set_option linter.unusedVariables false
set_option linter.unusedSimpArgs false

theorem snoc_of {α : Type} {l : List α} {n : Nat} (h : l.length = n + 1) : ∃ a x, l = a ++ [x] ∧ a.length = n := by
  have hne : l ≠ [] := by intro e; rw [e] at h; simp at h
  refine ⟨l.dropLast, l.getLast hne, (List.dropLast_concat_getLast hne).symm, by rw [List.length_dropLast, h]; rfl⟩
structure RmL (r : Nat) (w : World) (U : RmV) (gs : List Vm.Rf) (g : Vm.Rf) (fs : List (Value × Value)) (cv sv : Value) (gf cap : Nat) : Prop where
  fc : U.fc = fs ++ [(cv, sv)]
  fl : gs.length = fs.length
  fv : U.fv = .slice (some ⟨gf, 0, none⟩) (gs.length + 1) cap
  lo : r < gf
  hi : gf < w.heap.size
  c0 : w.cell? ⟨gf, gs.length * 5, none⟩ = some (.int .i64 g.proc)
  c1 : w.cell? ⟨gf, gs.length * 5 + 1, none⟩ = some (.int .i64 g.place)
  c2 : w.cell? ⟨gf, gs.length * 5 + 2, none⟩ = some (.int .i64 g.mark)
  c3 : w.cell? ⟨gf, gs.length * 5 + 3, none⟩ = some cv
  c4 : w.cell? ⟨gf, gs.length * 5 + 4, none⟩ = some sv
  fz : ∀ i, i < 5 → w.frozen? ⟨gf, gs.length * 5 + i, none⟩ = false
theorem RmS.last {G : Gh} {r : Nat} {w : World} {U : RmV} {R : Vm.Rm} (h : RmS G r w U R) {gs : List Vm.Rf} {g : Vm.Rf} (hf : R.frames = gs ++ [g]) : ∃ fs cv sv gf cap, RmL r w U gs g fs cv sv gf cap := by
  have hl := h.fl
  rw [hf, List.length_append] at hl
  obtain ⟨fs, ⟨cv, sv⟩, hfc, hfl⟩ := snoc_of hl.symm
  have ho : w.ownsRow (r + 1) 60 5 U.fv R.frames.length (rmC R.frames U.fc) := h.rows.own (rfR U R) (by simp)
  rw [hf, hfc, rmC_app gs fs g (cv, sv) hfl.symm, List.length_append] at ho
  have hlen : (rmC gs fs).length = gs.length * 5 := rmC_len gs fs hfl.symm
  rcases ho.2 with ⟨_, e, _⟩ | ⟨gf, cap, cur, e, hb, hh, h1, h2, h3, h4⟩
  · have hlt := (World.ownsRow.lt ho gf (by rw [e]; rfl))
    have ho' := ho
    rw [e] at ho'
    have cell : ∀ i u, ([Value.int .i64 g.proc, .int .i64 g.place, .int .i64 g.mark, cv, sv] : List Value)[i]? = some u → w.cell? ⟨gf, gs.length * 5 + i, none⟩ = some u := fun i u hu => by
      have := ho'.cells (g := gf) rfl (gs.length * 5 + i) u (by rw [← hlen, List.getElem?_append_right (by omega), Nat.add_sub_cancel_left]; exact hu)
      have ea : (⟨gf, 0, none⟩ : Addr).add (gs.length * 5 + i) = ⟨gf, gs.length * 5 + i, none⟩ := by
        unfold Addr.add
        split
        · rename_i hz
          rw [hz]
        · rw [Nat.zero_add]
      rw [ea] at this
      exact this
    exact ⟨fs, cv, sv, gf, cap, ⟨hfc, hfl.symm, e, by omega, hlt.2, cell 0 _ rfl, cell 1 _ rfl, cell 2 _ rfl, cell 3 _ rfl, cell 4 _ rfl, fun i hi => (own_cell ho' (j := gs.length * 5 + i) (by simp; omega)).choose_spec.2⟩⟩
theorem RmS.setF {G : Gh} {r : Nat} {w : World} {U : RmV} {R : Vm.Rm} (h : RmS G r w U R) {gs : List Vm.Rf} {g g' : Vm.Rf} (hf : R.frames = gs ++ [g]) {fs : List (Value × Value)} {cv sv : Value} {gf cap : Nat} (L : RmL r w U gs g fs cv sv gf cap) (i : Nat) (hi : i < 5) (u : Value) (hu : ([Value.int .i64 g.proc, .int .i64 g.place, .int .i64 g.mark, cv, sv] : List Value).set i u = [Value.int .i64 g'.proc, .int .i64 g'.place, .int .i64 g'.mark, cv, sv]) (hc : g'.cells = g.cells) (hs : g'.stack = g.stack) : Below r w (w.setCell ⟨gf, gs.length * 5 + i, none⟩ u) ∧ RmS G r (w.setCell ⟨gf, gs.length * 5 + i, none⟩ u) U { R with frames := gs ++ [g'] } := by
  have hlen : (rmC gs fs).length = gs.length * 5 := rmC_len gs fs L.fl
  have bm : Below r w (w.setCell ⟨gf, gs.length * 5 + i, none⟩ u) := ⟨rfl, rfl, rfl, by simp, fun j hj => heap_setCell_other _ _ j _ (by have := L.lo; simp; omega)⟩
  have RS : RwL G w (r + 1) ([reR U R] ++ rfR U R :: rmR R.frames U.fc) := h.rows
  have hn : R.frames.length = gs.length + 1 := by rw [hf]; simp
  have P := RS.put (g := gf) (cap := cap) (i := gs.length * 5 + i) (by show U.fv = _; rw [L.fv]; show _ = Value.slice _ R.frames.length _; rw [hn]) (by show _ < R.frames.length * 5; rw [hn]; omega) u
  refine ⟨bm, ⟨?_, ?_, ?_, (h.low bm).1, (h.low bm).2, h.lo, h.fix⟩⟩
  · exact (heap_setCell_other _ _ r _ (by have := L.lo; simp; omega)).trans h.box
  · rw [← h.fl, hn]; simp
  · have e1 : rmR (gs ++ [g']) U.fc = rmR R.frames U.fc := by
      rw [hf, L.fc, rmR_app gs fs g' (cv, sv) L.fl, rmR_app gs fs g (cv, sv) L.fl, hc, hs]
    have e2 : (rmC R.frames U.fc).set (gs.length * 5 + i) u = rmC (gs ++ [g']) U.fc := by
      rw [hf, L.fc, rmC_app gs fs g' (cv, sv) L.fl, rmC_app gs fs g (cv, sv) L.fl, List.set_append_right _ _ (by omega), hlen, Nat.add_sub_cancel_left]
      dsimp only
      rw [hu]
    have e3 : (gs ++ [g']).length = R.frames.length := by rw [hn]; simp
    show RwL G _ (r + 1) (⟨50, 2, U.ev, R.events.length, Vm.evC R.events⟩ :: ⟨60, 5, U.fv, (gs ++ [g']).length, rmC (gs ++ [g']) U.fc⟩ :: rmR (gs ++ [g']) U.fc)
    rw [e1, ← e2, e3]
    exact P
end Go.Proofs.YtkjkiknpgggadaaDoor

namespace Go.Proofs.YtkjkiknpgggadaaDoor
open Go.RowKit
set_option linter.unusedVariables false
set_option linter.unusedSimpArgs false

theorem RmS.rowsL {G : Gh} {r : Nat} {w : World} {U : RmV} {R : Vm.Rm} (h : RmS G r w U R) {gs : List Vm.Rf} {g : Vm.Rf} (hf : R.frames = gs ++ [g]) {fs : List (Value × Value)} {cv sv : Value} {gf cap : Nat} (L : RmL r w U gs g fs cv sv gf cap) : RwL G w (r + 1) ((reR U R :: rfR U R :: rmR gs fs) ++ ⟨2, 1, cv, g.cells.length, nC g.cells⟩ :: [⟨2, 1, sv, g.stack.length, nC g.stack⟩]) := by
  have := h.rows
  rw [hf, L.fc, rmR_app gs fs g (cv, sv) L.fl] at this
  exact this
theorem RmS.putC {G : Gh} {r : Nat} {w : World} {U : RmV} {R : Vm.Rm} (h : RmS G r w U R) {gs : List Vm.Rf} {g : Vm.Rf} (hf : R.frames = gs ++ [g]) {fs : List (Value × Value)} {cv sv : Value} {gf cap : Nat} (L : RmL r w U gs g fs cv sv gf cap) {zb kc : Nat} (hv : cv = .slice (some ⟨zb, 0, none⟩) g.cells.length kc) (j : Nat) (hj : j < g.cells.length) (x : Int) : Below r w (w.setCell ⟨zb, j, none⟩ (.int .i64 x)) ∧ RmS G r (w.setCell ⟨zb, j, none⟩ (.int .i64 x)) U { R with frames := gs ++ [{ g with cells := g.cells.set j x }] } := by
  have RS := h.rowsL hf L
  have oc : w.ownsRow (r + 1) 2 1 cv g.cells.length (nC g.cells) := RS.own ⟨2, 1, cv, g.cells.length, nC g.cells⟩ (by simp)
  have hz : r + 1 ≤ zb := (World.ownsRow.lt oc zb (by rw [hv]; rfl)).1
  have bm : Below r w (w.setCell ⟨zb, j, none⟩ (.int .i64 x)) := ⟨rfl, rfl, rfl, by simp, fun i hi => heap_setCell_other _ _ i _ (by simp; omega)⟩
  have P := RS.put (g := zb) (cap := kc) (i := j) hv (by show j < g.cells.length * 1; omega) (.int .i64 x)
  refine ⟨bm, ⟨(heap_setCell_other _ _ r _ (by simp; omega)).trans ?_, ?_, ?_, (h.low bm).1, (h.low bm).2, h.lo, h.fix⟩⟩
  · exact h.box
  · rw [← h.fl, hf]; simp
  · have e1 : rmR (gs ++ [{ g with cells := g.cells.set j x }]) U.fc = rmR gs fs ++ [⟨2, 1, cv, g.cells.length, (nC g.cells).set j (.int .i64 x)⟩, ⟨2, 1, sv, g.stack.length, nC g.stack⟩] := by
      rw [L.fc, rmR_app gs fs _ (cv, sv) L.fl]
      simp [nC, List.map_set]
    have e2 : rmC (gs ++ [{ g with cells := g.cells.set j x }]) U.fc = rmC R.frames U.fc := by
      rw [hf, L.fc, rmC_app gs fs _ (cv, sv) L.fl, rmC_app gs fs g (cv, sv) L.fl]
    have e3 : (gs ++ [{ g with cells := g.cells.set j x }]).length = R.frames.length := by rw [hf]; simp
    show RwL G _ (r + 1) (⟨50, 2, U.ev, R.events.length, Vm.evC R.events⟩ :: ⟨60, 5, U.fv, (gs ++ [{ g with cells := g.cells.set j x }]).length, rmC (gs ++ [{ g with cells := g.cells.set j x }]) U.fc⟩ :: rmR (gs ++ [{ g with cells := g.cells.set j x }]) U.fc)
    rw [e1, e2, e3]
    exact P
end Go.Proofs.YtkjkiknpgggadaaDoor

namespace Go.Proofs.YtkjkiknpgggadaaDoor
open Go.RowKit
set_option linter.unusedVariables false
set_option linter.unusedSimpArgs false

theorem RmS.setS {G : Gh} {r : Nat} {w w8 : World} {U : RmV} {R : Vm.Rm} (h : RmS G r w U R) {gs : List Vm.Rf} {g : Vm.Rf} (hf : R.frames = gs ++ [g]) {fs : List (Value × Value)} {cv sv : Value} {gf cap : Nat} (L : RmL r w U gs g fs cv sv gf cap) (b8 : Below (r + 1) w w8) {sv' : Value} {st' : List Int} (r8 : RwL G w8 (r + 1) ((reR U R :: rfR U R :: rmR gs fs) ++ ⟨2, 1, cv, g.cells.length, nC g.cells⟩ :: [⟨2, 1, sv', st'.length, nC st'⟩])) : Below r w (w8.setCell ⟨gf, gs.length * 5 + 4, none⟩ sv') ∧ RmS G r (w8.setCell ⟨gf, gs.length * 5 + 4, none⟩ sv') { U with fc := fs ++ [(cv, sv')] } { R with frames := gs ++ [{ g with stack := st' }] } := by
  have hlen : (rmC gs fs).length = gs.length * 5 := rmC_len gs fs L.fl
  have hn : R.frames.length = gs.length + 1 := by rw [hf]; simp
  have bm : Below r w (w8.setCell ⟨gf, gs.length * 5 + 4, none⟩ sv') := (b8.mono (by omega)).trans ⟨rfl, rfl, rfl, by simp, fun j hj => heap_setCell_other _ _ j _ (by have := L.lo; simp; omega)⟩
  have RS : RwL G w8 (r + 1) ([reR U R] ++ rfR U R :: (rmR gs fs ++ [⟨2, 1, cv, g.cells.length, nC g.cells⟩, ⟨2, 1, sv', st'.length, nC st'⟩])) := r8
  have P := RS.put (g := gf) (cap := cap) (i := gs.length * 5 + 4) (by show U.fv = _; rw [L.fv]; show _ = Value.slice _ R.frames.length _; rw [hn]) (by show _ < R.frames.length * 5; rw [hn]; omega) sv'
  refine ⟨bm, ⟨(heap_setCell_other _ _ r _ (by have := L.lo; simp; omega)).trans ((b8.block r (by omega)).trans h.box), ?_, ?_, (h.low bm).1, (h.low bm).2, h.lo, h.fix⟩⟩
  · simp [L.fl]
  · have e1 : rmR (gs ++ [{ g with stack := st' }]) (fs ++ [(cv, sv')]) = rmR gs fs ++ [⟨2, 1, cv, g.cells.length, nC g.cells⟩, ⟨2, 1, sv', st'.length, nC st'⟩] := rmR_app gs fs _ (cv, sv') L.fl
    have e2 : (rmC R.frames U.fc).set (gs.length * 5 + 4) sv' = rmC (gs ++ [{ g with stack := st' }]) (fs ++ [(cv, sv')]) := by
      rw [hf, L.fc, rmC_app gs fs { g with stack := st' } (cv, sv') L.fl, rmC_app gs fs g (cv, sv) L.fl, List.set_append_right _ _ (by omega), hlen, Nat.add_sub_cancel_left]
      rfl
    have e3 : (gs ++ [{ g with stack := st' }]).length = R.frames.length := by rw [hn]; simp
    show RwL G _ (r + 1) (⟨50, 2, U.ev, R.events.length, Vm.evC R.events⟩ :: ⟨60, 5, U.fv, (gs ++ [{ g with stack := st' }]).length, rmC (gs ++ [{ g with stack := st' }]) (fs ++ [(cv, sv')])⟩ :: rmR (gs ++ [{ g with stack := st' }]) (fs ++ [(cv, sv')]))
    rw [e1, ← e2, e3]
    exact P
theorem RmS.cutS {G : Gh} {r : Nat} {w : World} {U : RmV} {R : Vm.Rm} (h : RmS G r w U R) {gs : List Vm.Rf} {g : Vm.Rf} (hf : R.frames = gs ++ [g]) {fs : List (Value × Value)} {cv sv : Value} {gf cap : Nat} (L : RmL r w U gs g fs cv sv gf cap) {sv' : Value} {st' : List Int} (h8 : w.ownsRow (r + 1) 2 1 sv' st'.length (nC st')) (o8 : ∀ b, sv'.ownBlock = some b → sv.ownBlock = some b) : Below r w (w.setCell ⟨gf, gs.length * 5 + 4, none⟩ sv') ∧ RmS G r (w.setCell ⟨gf, gs.length * 5 + 4, none⟩ sv') { U with fc := fs ++ [(cv, sv')] } { R with frames := gs ++ [{ g with stack := st' }] } := by
  have RS : RwL G w (r + 1) ((reR U R :: rfR U R :: (rmR gs fs ++ [⟨2, 1, cv, g.cells.length, nC g.cells⟩])) ++ ⟨2, 1, sv, g.stack.length, nC g.stack⟩ :: []) := by simpa using h.rowsL hf L
  have C := RS.cut (v' := sv') (n' := st'.length) (xs' := nC st') h8 o8
  exact h.setS hf L (Below.refl _ _) (by simpa using C)
theorem RmS.growS {G : Gh} {r : Nat} {w X w8 : World} {U : RmV} {R : Vm.Rm} (h : RmS G r w U R) {gs : List Vm.Rf} {g : Vm.Rf} (hf : R.frames = gs ++ [g]) {fs : List (Value × Value)} {cv sv : Value} {gf cap : Nat} (L : RmL r w U gs g fs cv sv gf cap) (y : Below w.heap.size w X) {sv' : Value} {st' : List Int} (h8 : w8.ownsRow (r + 1) 2 1 sv' st'.length (nC st')) (g8 : X.grownBy w8 sv.ownBlock) (o8 : sv'.ownBlock = sv.ownBlock ∨ ∃ b, sv'.ownBlock = some b ∧ X.heap.size ≤ b) : Below r w (w8.setCell ⟨gf, gs.length * 5 + 4, none⟩ sv') ∧ RmS G r (w8.setCell ⟨gf, gs.length * 5 + 4, none⟩ sv') { U with fc := fs ++ [(cv, sv')] } { R with frames := gs ++ [{ g with stack := st' }] } := by
  have RS : RwL G w (r + 1) ((reR U R :: rfR U R :: (rmR gs fs ++ [⟨2, 1, cv, g.cells.length, nC g.cells⟩])) ++ ⟨2, 1, sv, g.stack.length, nC g.stack⟩ :: []) := by simpa using h.rowsL hf L
  have b8 : Below (r + 1) w w8 := grownL_below RS h.lt y g8
  have C := RS.grow y (v' := sv') (n' := st'.length) (xs' := nC st') h8 g8 o8
  exact h.setS hf L b8 (by simpa using C)
end Go.Proofs.YtkjkiknpgggadaaDoor

namespace Go.Proofs.YtkjkiknpgggadaaDoor
open Go.RowKit
set_option linter.unusedVariables false
set_option linter.unusedSimpArgs false

theorem nu1 {B : Nat} {w : World} {la : Option Addr} {a : Int} (h : NuS B w la [a]) : ∃ gl ol, la = some ⟨gl, ol, none⟩ ∧ gl < B ∧ w.cell? ⟨gl, ol, none⟩ = some (.int .i64 a) := by
  obtain ⟨g, o, e, hg, hc⟩ := h (by simp)
  exact ⟨g, o, e, hg, hc 0 a rfl⟩
theorem nu2 {B : Nat} {w : World} {la : Option Addr} {a b : Int} (h : NuS B w la [a, b]) : ∃ gl ol, la = some ⟨gl, ol, none⟩ ∧ gl < B ∧ w.cell? ⟨gl, ol, none⟩ = some (.int .i64 a) ∧ w.cell? ⟨gl, ol + 1, none⟩ = some (.int .i64 b) := by
  obtain ⟨g, o, e, hg, hc⟩ := h (by simp)
  exact ⟨g, o, e, hg, hc 0 a rfl, hc 1 b rfl⟩
set_option maxHeartbeats 4000000 in
theorem rRes_two (w : World) (f : Vm.Rf) (op n m a b : Int) (cv sv : Value) (la : Option Addr) (lc : Nat) (hl : NuS w.heap.size w la [a, b]) (h1 : 7 ≤ op) (h2 : op ≤ 14) (hb : ∀ x ∈ [a, b], -9223372036854775808 ≤ x ∧ x ≤ 9223372036854775807) : Calls Tryd.prog 54 #[.agg #[.int .i64 f.proc, .int .i64 f.place, .int .i64 f.mark, cv, sv], .agg #[.int .i64 op, .int .i64 n, .int .i64 m], .slice la 2 lc] w (ResQ w (Vm.res f ⟨op, n, m⟩ [a, b])) := by
  obtain ⟨gl, ol, rfl, hg, c0, c1⟩ := nu2 hl
  have ha := hb a (by simp)
  have hbb := hb b (by simp)
  obtain rfl | rfl | rfl | rfl | rfl | rfl | rfl | rfl : op = 7 ∨ op = 8 ∨ op = 9 ∨ op = 10 ∨ op = 11 ∨ op = 12 ∨ op = 13 ∨ op = 14 := by omega
  · exact rRes7 w _ _ _ n m a b cv sv gl ol lc hg c0 c1
  · exact rRes8 w _ _ _ n m a b cv sv gl ol lc hg c0 c1
  · exact rRes9 w _ _ _ n m a b cv sv gl ol lc hg c0 c1
  · have := rRes10 w f.proc f.place f.mark n m a b cv sv gl ol lc hg c0 c1 ha.1 ha.2 hbb.1 hbb.2
    have e : Vm.res f ⟨10, n, m⟩ [a, b] = if b = 0 then ([], 1) else ([Pl.quot a b], 0) := by
      by_cases h : b = 0 <;> simp [Vm.res, Vm.bt, h]
    rw [e]
    exact this
  · have := rRes11 w f.proc f.place f.mark n m a b cv sv gl ol lc hg c0 c1 ha.1 ha.2 hbb.1 hbb.2
    have e : Vm.res f ⟨11, n, m⟩ [a, b] = if b = 0 then ([], 1) else ([Pl.rest a b], 0) := by
      by_cases h : b = 0 <;> simp [Vm.res, Vm.bt, h]
    rw [e]
    exact this
  · exact rRes12 w _ _ _ n m a b cv sv gl ol lc hg c0 c1
  · exact rRes13 w _ _ _ n m a b cv sv gl ol lc hg c0 c1
  · exact rRes14 w _ _ _ n m a b cv sv gl ol lc hg c0 c1
structure Vm.Rg (op n m : Int) (k : Nat) : Prop where
  h2 : (op = 2 ∨ op = 3) → 0 ≤ n ∧ n < k
  h4 : (op = 4 ∨ op = 5 ∨ op = 6) → 0 ≤ n ∧ 0 ≤ m ∧ n + m ≤ k
  hk : k ≤ 65536
set_option maxHeartbeats 4000000 in
theorem rRes_zero (w : World) (f : Vm.Rf) (op n m : Int) (cv sv : Value) (la : Option Addr) (lc : Nat) (hop : op = 1 ∨ op = 2 ∨ op = 6 ∨ op = 17) (hg : Vm.Rg op n m f.cells.length) (hc : 0 < f.cells.length → ∃ zb kc, cv = .slice (some ⟨zb, 0, none⟩) f.cells.length kc ∧ zb < w.heap.size ∧ ∀ j x, f.cells[j]? = some x → w.cell? ⟨zb, j, none⟩ = some (.int .i64 x)) : Calls Tryd.prog 54 #[.agg #[.int .i64 f.proc, .int .i64 f.place, .int .i64 f.mark, cv, sv], .agg #[.int .i64 op, .int .i64 n, .int .i64 m], .slice la 0 lc] w (ResQ w (Vm.res f ⟨op, n, m⟩ [])) := by
  rcases hop with rfl | rfl | rfl | rfl
  · exact rRes1 w _ _ _ n m cv sv la lc
  · obtain ⟨n0, n1⟩ := hg.h2 (.inl rfl)
    obtain ⟨q, rfl⟩ := Int.eq_ofNat_of_zero_le n0
    have hq : q < f.cells.length := by omega
    obtain ⟨zb, kc, rfl, hz, cell⟩ := hc (by omega)
    have e : Vm.res f ⟨2, (q : Int), m⟩ [] = ([f.cells[q]], 0) := by simp [Vm.res, hq]
    rw [e]
    exact rRes2 w _ _ _ m _ q zb _ kc sv la lc hz hq (cell q _ (List.getElem?_eq_getElem hq))
  · exact rRes6 w _ _ _ n m cv sv la lc
  · exact rRes17 w _ _ _ n m cv sv la lc
set_option maxHeartbeats 4000000 in
theorem rRes_put (w : World) (f : Vm.Rf) (n m a b : Int) (cv sv : Value) (la : Option Addr) (lc : Nat) (hl : NuS w.heap.size w la [a, b]) (hg : Vm.Rg 5 n m f.cells.length) (hm : 0 < m) (hc : 0 < f.cells.length → ∃ zb kc, cv = .slice (some ⟨zb, 0, none⟩) f.cells.length kc ∧ zb < w.heap.size ∧ ∀ j x, f.cells[j]? = some x → w.cell? ⟨zb, j, none⟩ = some (.int .i64 x)) : Calls Tryd.prog 54 #[.agg #[.int .i64 f.proc, .int .i64 f.place, .int .i64 f.mark, cv, sv], .agg #[.int .i64 5, .int .i64 n, .int .i64 m], .slice la 2 lc] w (ResQ w (Vm.res f ⟨5, n, m⟩ [a, b])) := by
  obtain ⟨gl, ol, rfl, hgl, c0, c1⟩ := nu2 hl
  obtain ⟨n0, m0, n1⟩ := hg.h4 (.inr (.inl rfl))
  obtain ⟨q, rfl⟩ := Int.eq_ofNat_of_zero_le n0
  obtain ⟨zb, kc, rfl, hz, cell⟩ := hc (by omega)
  by_cases ha : a < 0
  · have e : Vm.res f ⟨5, (q : Int), m⟩ [a, b] = ([], 2) := by simp [Vm.res, Vm.ip]; omega
    rw [e]
    exact rRes5n w _ _ _ m a b q zb _ kc sv gl ol lc hgl c0 c1 ha
  · by_cases hma : m ≤ a
    · have e : Vm.res f ⟨5, (q : Int), m⟩ [a, b] = ([], 2) := by simp [Vm.res, Vm.ip]; omega
      rw [e]
      exact rRes5g w _ _ _ m a b q zb _ kc sv gl ol lc hgl c0 c1 ha hma
    · have e : Vm.res f ⟨5, (q : Int), m⟩ [a, b] = ([], 0) := by simp [Vm.res, Vm.ip]; omega
      rw [e]
      exact rRes5 w _ _ _ m a b q zb _ kc sv gl ol lc hgl c0 c1 ha hma
set_option maxHeartbeats 4000000 in
theorem rRes_one (w : World) (f : Vm.Rf) (op n m a : Int) (cv sv : Value) (la : Option Addr) (lc : Nat) (hop : op = 3 ∨ op = 15 ∨ op = 16 ∨ op = 18 ∨ op = 23) (hl : NuS w.heap.size w la [a]) : Calls Tryd.prog 54 #[.agg #[.int .i64 f.proc, .int .i64 f.place, .int .i64 f.mark, cv, sv], .agg #[.int .i64 op, .int .i64 n, .int .i64 m], .slice la 1 lc] w (ResQ w (Vm.res f ⟨op, n, m⟩ [a])) := by
  obtain ⟨gl, ol, rfl, hgl, c0⟩ := nu1 hl
  rcases hop with rfl | rfl | rfl | rfl | rfl
  · exact rRes3 w _ _ _ n m a cv sv gl ol lc hgl c0
  · exact rRes15 w _ _ _ n m a cv sv gl ol lc hgl c0
  · exact rRes16 w _ _ _ n m a cv sv gl ol lc hgl c0
  · exact rRes18 w _ _ _ n m a cv sv gl ol lc hgl c0
  · exact rRes23 w _ _ _ n m a cv sv gl ol lc hgl c0
set_option maxHeartbeats 4000000 in
theorem rRes_index (w : World) (f : Vm.Rf) (n m a : Int) (cv sv : Value) (la : Option Addr) (lc : Nat) (hl : NuS w.heap.size w la [a]) (hg : Vm.Rg 4 n m f.cells.length) (hm : 0 < m) (hc : 0 < f.cells.length → ∃ zb kc, cv = .slice (some ⟨zb, 0, none⟩) f.cells.length kc ∧ zb < w.heap.size ∧ ∀ j x, f.cells[j]? = some x → w.cell? ⟨zb, j, none⟩ = some (.int .i64 x)) : Calls Tryd.prog 54 #[.agg #[.int .i64 f.proc, .int .i64 f.place, .int .i64 f.mark, cv, sv], .agg #[.int .i64 4, .int .i64 n, .int .i64 m], .slice la 1 lc] w (ResQ w (Vm.res f ⟨4, n, m⟩ [a])) := by
  obtain ⟨gl, ol, rfl, hgl, c0⟩ := nu1 hl
  obtain ⟨n0, m0, n1⟩ := hg.h4 (.inl rfl)
  obtain ⟨q, rfl⟩ := Int.eq_ofNat_of_zero_le n0
  obtain ⟨zb, kc, rfl, hz, cell⟩ := hc (by omega)
  have hk := hg.hk
  by_cases ha : a < 0
  · have e : Vm.res f ⟨4, (q : Int), m⟩ [a] = ([], 2) := by simp [Vm.res, Vm.ip]; omega
    rw [e]
    exact rRes4n w _ _ _ m a q zb _ kc sv gl ol lc hgl c0 ha
  · by_cases hma : m ≤ a
    · have e : Vm.res f ⟨4, (q : Int), m⟩ [a] = ([], 2) := by simp [Vm.res, Vm.ip]; omega
      rw [e]
      exact rRes4g w _ _ _ m a q zb _ kc sv gl ol lc hgl c0 ha hma
    · obtain ⟨j, rfl⟩ := Int.eq_ofNat_of_zero_le (Int.not_lt.1 ha)
      have hq : q + j < f.cells.length := by omega
      have hi : Vm.ip (j : Int) m.toNat = true := by unfold Vm.ip; simp; omega
      have e : Vm.res f ⟨4, (q : Int), m⟩ [(j : Int)] = ([f.cells[q + j]], 0) := by simp [Vm.res, hi, hq]
      rw [e]
      exact rRes4 w _ _ _ m _ q zb _ kc sv j gl ol lc hgl c0 (by omega) hz hq hk (cell _ _ (List.getElem?_eq_getElem hq))
end Go.Proofs.YtkjkiknpgggadaaDoor

namespace Go.Proofs.YtkjkiknpgggadaaDoor
open Go.RowKit
set_option linter.unusedVariables false
set_option linter.unusedSimpArgs false

theorem RmL.later {r : Nat} {w w' : World} {U : RmV} {gs : List Vm.Rf} {g : Vm.Rf} {fs : List (Value × Value)} {cv sv : Value} {gf cap : Nat} (L : RmL r w U gs g fs cv sv gf cap) (b : Below w.heap.size w w') : RmL r w' U gs g fs cv sv gf cap :=
  ⟨L.fc, L.fl, L.fv, L.lo, Nat.lt_of_lt_of_le L.hi b.size, (b.cell L.hi).trans L.c0, (b.cell L.hi).trans L.c1, (b.cell L.hi).trans L.c2, (b.cell L.hi).trans L.c3, (b.cell L.hi).trans L.c4, fun i hi => (b.frozen L.hi).trans (L.fz i hi)⟩
def RmU (U : RmV) (G : Gh) (r : Nat) (w w' : World) (R : Vm.Rm) : Prop := Below r w w' ∧ RmS G r w' U R
theorem RmU.drew {U : RmV} {G : Gh} {r : Nat} {w w' : World} {R : Vm.Rm} (h : RmU U G r w w' R) : RmU U G r w w'.drew R := ⟨h.1.drew, h.2.later (Below.refl _ _).drew⟩
theorem RmQ.drew {G : Gh} {r : Nat} {w w' : World} {R : Vm.Rm} (h : RmQ G r w w' R) : RmQ G r w w'.drew R := by
  obtain ⟨b, U, q⟩ := h
  exact ⟨b.drew, U, q.later (Below.refl _ _).drew⟩
theorem RmS.putCq {G : Gh} {r : Nat} {w : World} {U : RmV} {R : Vm.Rm} (h : RmS G r w U R) {gs : List Vm.Rf} {g : Vm.Rf} (hf : R.frames = gs ++ [g]) {fs : List (Value × Value)} {cv sv : Value} {gf cap : Nat} (L : RmL r w U gs g fs cv sv gf cap) {zb kc : Nat} (hv : cv = .slice (some ⟨zb, 0, none⟩) g.cells.length kc) (j : Nat) (hj : j < g.cells.length) (x : Int) {e : Ending} {w' : World} (q : SetQ w ⟨zb, j, none⟩ (.int .i64 x) e w') : e = .returned (.tuple #[]) ∧ RmU U G r w w' { R with frames := gs ++ [{ g with cells := g.cells.set j x }] } := by
  obtain ⟨rfl, X, b, hX⟩ := q
  have P := (h.later b).putC hf (L.later b) hv j hj x
  have Q : RmU U G r w (X.setCell ⟨zb, j, none⟩ (.int .i64 x)) { R with frames := gs ++ [{ g with cells := g.cells.set j x }] } := ⟨(b.mono (Nat.le_of_lt h.lt)).trans P.1, P.2⟩
  rcases hX with rfl | rfl
  · exact ⟨rfl, Q⟩
  · exact ⟨rfl, Q.drew⟩
theorem RmS.setPq {G : Gh} {r : Nat} {w : World} {U : RmV} {R : Vm.Rm} (h : RmS G r w U R) {gs : List Vm.Rf} {g : Vm.Rf} (hf : R.frames = gs ++ [g]) {fs : List (Value × Value)} {cv sv : Value} {gf cap : Nat} (L : RmL r w U gs g fs cv sv gf cap) (n : Nat) {e : Ending} {w' : World} (q : SetQ w ⟨gf, gs.length * 5 + 1, none⟩ (.int .i64 n) e w') : e = .returned (.tuple #[]) ∧ RmU U G r w w' { R with frames := gs ++ [{ g with place := n }] } := by
  obtain ⟨rfl, X, b, hX⟩ := q
  have P := (h.later b).setF (g' := { g with place := n }) hf (L.later b) 1 (by omega) (.int .i64 n) rfl rfl rfl
  have Q : RmU U G r w (X.setCell ⟨gf, gs.length * 5 + 1, none⟩ (.int .i64 n)) { R with frames := gs ++ [{ g with place := n }] } := ⟨(b.mono (Nat.le_of_lt h.lt)).trans P.1, P.2⟩
  rcases hX with rfl | rfl
  · exact ⟨rfl, Q⟩
  · exact ⟨rfl, Q.drew⟩
theorem RmS.noq {G : Gh} {r : Nat} {w : World} {U : RmV} {R : Vm.Rm} (h : RmS G r w U R) {gs : List Vm.Rf} {g : Vm.Rf} (hf : R.frames = gs ++ [g]) {e : Ending} {w' : World} (q : NoQ w e w') : e = .returned (.tuple #[]) ∧ RmU U G r w w' { R with frames := gs ++ [g] } := by
  obtain ⟨rfl, b⟩ := q
  have e : { R with frames := gs ++ [g] } = R := by rw [← hf]
  rw [e]
  exact ⟨rfl, b.mono (Nat.le_of_lt h.lt), h.later b⟩
theorem RmS.rowC {G : Gh} {r : Nat} {w X w8 : World} {U : RmV} {R : Vm.Rm} (h : RmS G r w U R) {gs : List Vm.Rf} {g : Vm.Rf} (hf : R.frames = gs ++ [g]) {fs : List (Value × Value)} {cv sv : Value} {gf cap : Nat} (L : RmL r w U gs g fs cv sv gf cap) (y : Below w.heap.size w X) {cs : List Int} (hcs : cs.length = g.cells.length) (h8 : w8.ownsRow (r + 1) 2 1 cv g.cells.length (nC cs)) (g8 : X.grownBy w8 cv.ownBlock) : RmU U G r w w8 { R with frames := gs ++ [{ g with cells := cs }] } := by
  have RS := h.rowsL hf L
  have b8 : Below (r + 1) w w8 := grownL_below RS h.lt y g8
  have C := RS.grow y (v' := cv) (n' := g.cells.length) (xs' := nC cs) h8 g8 (.inl rfl)
  have bm : Below r w w8 := b8.mono (by omega)
  refine ⟨bm, ⟨(b8.block r (by omega)).trans h.box, ?_, ?_, (h.low bm).1, (h.low bm).2, h.lo, h.fix⟩⟩
  · rw [← h.fl, hf]; simp
  · have e1 : rmR (gs ++ [{ g with cells := cs }]) U.fc = rmR gs fs ++ [⟨2, 1, cv, g.cells.length, nC cs⟩, ⟨2, 1, sv, g.stack.length, nC g.stack⟩] := by
      rw [L.fc, rmR_app gs fs _ (cv, sv) L.fl]
      simp [hcs]
    have e2 : rmC (gs ++ [{ g with cells := cs }]) U.fc = rmC R.frames U.fc := by
      rw [hf, L.fc, rmC_app gs fs _ (cv, sv) L.fl, rmC_app gs fs g (cv, sv) L.fl]
    have e3 : (gs ++ [{ g with cells := cs }]).length = R.frames.length := by rw [hf]; simp
    show RwL G _ (r + 1) (⟨50, 2, U.ev, R.events.length, Vm.evC R.events⟩ :: ⟨60, 5, U.fv, (gs ++ [{ g with cells := cs }]).length, rmC (gs ++ [{ g with cells := cs }]) U.fc⟩ :: rmR (gs ++ [{ g with cells := cs }]) U.fc)
    rw [e1, e2, e3]
    exact C
end Go.Proofs.YtkjkiknpgggadaaDoor

namespace Go.Proofs.YtkjkiknpgggadaaDoor
open Go.RowKit
set_option linter.unusedVariables false
set_option linter.unusedSimpArgs false

theorem RmS.cellsAt {G : Gh} {r : Nat} {w : World} {U : RmV} {R : Vm.Rm} (h : RmS G r w U R) {gs : List Vm.Rf} {g : Vm.Rf} (hf : R.frames = gs ++ [g]) {fs : List (Value × Value)} {cv sv : Value} {gf cap : Nat} (L : RmL r w U gs g fs cv sv gf cap) (hp : 0 < g.cells.length) : ∃ zb kc, cv = .slice (some ⟨zb, 0, none⟩) g.cells.length kc ∧ zb < w.heap.size ∧ ¬ gf = zb ∧ w.ownsRow (r + 1) 2 1 cv g.cells.length (nC g.cells) := by
  have RS := h.rowsL hf L
  have oc : w.ownsRow (r + 1) 2 1 cv g.cells.length (nC g.cells) := RS.own ⟨2, 1, cv, g.cells.length, nC g.cells⟩ (by simp)
  obtain ⟨aA, _⟩ := apt_mid RS.apt
  have ap := aA (rfR U R) (by simp)
  rcases oc.2 with ⟨_, e⟩ | ⟨zb, kc, cur, e, hb, hh, _⟩
  · omega
  · refine ⟨zb, kc, e, (Array.getElem?_eq_some_iff.1 hh).1, ?_, oc⟩
    intro q
    subst q
    exact ap gf (by show cv.ownBlock = _; rw [e]; rfl) (by show U.fv.ownBlock = _; rw [L.fv]; rfl)
abbrev stoP (U : RmV) (G : Gh) (r : Nat) (w : World) (R : Vm.Rm) (gs : List Vm.Rf) (g' : Vm.Rf) (e : Ending) (w' : World) : Prop := e = .returned (.tuple #[]) ∧ RmU U G r w w' { R with frames := gs ++ [g'] }
theorem rSto_jump {G : Gh} {r : Nat} {w : World} {U : RmV} {R : Vm.Rm} (h : RmS G r w U R) {gs : List Vm.Rf} {g : Vm.Rf} (hf : R.frames = gs ++ [g]) {fs : List (Value × Value)} {cv sv : Value} {gf cap : Nat} (L : RmL r w U gs g fs cv sv gf cap) (n m : Int) (hn : 0 ≤ n) (la : Option Addr) (lc : Nat) : Calls Tryd.prog 55 #[.pointer (some ⟨gf, gs.length * 5, none⟩), .agg #[.int .i64 17, .int .i64 n, .int .i64 m], .slice la 0 lc] w (stoP U G r w R gs (Vm.sto g ⟨17, n, m⟩ [])) := by
  obtain ⟨q, rfl⟩ := Int.eq_ofNat_of_zero_le hn
  refine (rSto17 w gf (gs.length * 5) q m L.hi la lc _ L.c1 (L.fz 1 (by omega))).mono ?_
  intro e w' s
  exact h.setPq hf L q s
theorem rSto_zero {G : Gh} {r : Nat} {w : World} {U : RmV} {R : Vm.Rm} (h : RmS G r w U R) {gs : List Vm.Rf} {g : Vm.Rf} (hf : R.frames = gs ++ [g]) {fs : List (Value × Value)} {cv sv : Value} {gf cap : Nat} (L : RmL r w U gs g fs cv sv gf cap) (n m a : Int) (hn : 0 ≤ n) (la : Option Addr) (lc : Nat) (hl : NuS w.heap.size w la [a]) : Calls Tryd.prog 55 #[.pointer (some ⟨gf, gs.length * 5, none⟩), .agg #[.int .i64 18, .int .i64 n, .int .i64 m], .slice la 1 lc] w (stoP U G r w R gs (Vm.sto g ⟨18, n, m⟩ [a])) := by
  obtain ⟨q, rfl⟩ := Int.eq_ofNat_of_zero_le hn
  obtain ⟨gl, ol, rfl, hgl, c0⟩ := nu1 hl
  by_cases ha : a = 0
  · subst ha
    refine (rSto18z w gf (gs.length * 5) q m L.hi gl ol lc hgl c0 _ L.c1 (L.fz 1 (by omega))).mono ?_
    intro e w' s
    exact h.setPq hf L q s
  · refine (rSto18 w gf (gs.length * 5) q m a L.hi gl ol lc hgl c0 ha).mono ?_
    intro e w' s
    have e1 : Vm.sto g ⟨18, (q : Int), m⟩ [a] = g := by simp [Vm.sto, ha]
    unfold stoP
    rw [e1]
    exact h.noq hf s
theorem rSto_store {G : Gh} {r : Nat} {w : World} {U : RmV} {R : Vm.Rm} (h : RmS G r w U R) {gs : List Vm.Rf} {g : Vm.Rf} (hf : R.frames = gs ++ [g]) {fs : List (Value × Value)} {cv sv : Value} {gf cap : Nat} (L : RmL r w U gs g fs cv sv gf cap) (n m a : Int) (hg : Vm.Rg 3 n m g.cells.length) (la : Option Addr) (lc : Nat) (hl : NuS w.heap.size w la [a]) : Calls Tryd.prog 55 #[.pointer (some ⟨gf, gs.length * 5, none⟩), .agg #[.int .i64 3, .int .i64 n, .int .i64 m], .slice la 1 lc] w (stoP U G r w R gs (Vm.sto g ⟨3, n, m⟩ [a])) := by
  obtain ⟨n0, n1⟩ := hg.h2 (.inr rfl)
  obtain ⟨q, rfl⟩ := Int.eq_ofNat_of_zero_le n0
  have hq : q < g.cells.length := by omega
  obtain ⟨gl, ol, rfl, hgl, c0⟩ := nu1 hl
  obtain ⟨zb, kc, hv, hz, hne, oc⟩ := h.cellsAt hf L (by omega)
  have oc' := oc
  rw [hv] at oc'
  obtain ⟨u, hu, fu⟩ := own_cell oc' (j := q) (by omega)
  refine (rSto3 w gf (gs.length * 5) q m a L.hi gl ol lc hgl c0 zb _ kc hz (by rw [L.c3, hv]) u hu fu hq).mono ?_
  intro e w' s
  exact h.putCq hf L hv q hq a s
theorem rSto_put {G : Gh} {r : Nat} {w : World} {U : RmV} {R : Vm.Rm} (h : RmS G r w U R) {gs : List Vm.Rf} {g : Vm.Rf} (hf : R.frames = gs ++ [g]) {fs : List (Value × Value)} {cv sv : Value} {gf cap : Nat} (L : RmL r w U gs g fs cv sv gf cap) (n m a b : Int) (hg : Vm.Rg 5 n m g.cells.length) (ha : 0 ≤ a) (hm : a < m) (la : Option Addr) (lc : Nat) (hl : NuS w.heap.size w la [a, b]) : Calls Tryd.prog 55 #[.pointer (some ⟨gf, gs.length * 5, none⟩), .agg #[.int .i64 5, .int .i64 n, .int .i64 m], .slice la 2 lc] w (stoP U G r w R gs (Vm.sto g ⟨5, n, m⟩ [a, b])) := by
  obtain ⟨n0, m0, n1⟩ := hg.h4 (.inr (.inl rfl))
  obtain ⟨q, rfl⟩ := Int.eq_ofNat_of_zero_le n0
  obtain ⟨j, rfl⟩ := Int.eq_ofNat_of_zero_le ha
  have hq : q + j < g.cells.length := by omega
  have hk := hg.hk
  obtain ⟨gl, ol, rfl, hgl, c0, c1⟩ := nu2 hl
  obtain ⟨zb, kc, hv, hz, hne, oc⟩ := h.cellsAt hf L (by omega)
  have oc' := oc
  rw [hv] at oc'
  obtain ⟨u, hu, fu⟩ := own_cell oc' (j := q + j) (by omega)
  refine (rSto5 w gf (gs.length * 5) q m b L.hi j gl ol lc hgl c0 c1 zb _ kc hz (by rw [L.c3, hv]) u hu fu hq hk).mono ?_
  intro e w' s
  exact h.putCq hf L hv (q + j) hq b s
theorem rSto_clear {G : Gh} {r : Nat} {w : World} {U : RmV} {R : Vm.Rm} (h : RmS G r w U R) {gs : List Vm.Rf} {g : Vm.Rf} (hf : R.frames = gs ++ [g]) {fs : List (Value × Value)} {cv sv : Value} {gf cap : Nat} (L : RmL r w U gs g fs cv sv gf cap) (n m : Int) (hg : Vm.Rg 6 n m g.cells.length) (hm : 0 < m) (la : Option Addr) (lc : Nat) : Calls Tryd.prog 55 #[.pointer (some ⟨gf, gs.length * 5, none⟩), .agg #[.int .i64 6, .int .i64 n, .int .i64 m], .slice la 0 lc] w (stoP U G r w R gs (Vm.sto g ⟨6, n, m⟩ [])) := by
  obtain ⟨n0, m0, n1⟩ := hg.h4 (.inr (.inr rfl))
  obtain ⟨q, rfl⟩ := Int.eq_ofNat_of_zero_le n0
  obtain ⟨z, rfl⟩ := Int.eq_ofNat_of_zero_le m0
  have hk := hg.hk
  obtain ⟨zb, kc, hv, hz, hne, oc⟩ := h.cellsAt hf L (by omega)
  have oc' := oc
  rw [hv] at oc'
  refine (rSto6 w gf (gs.length * 5) q z (r + 1) zb _ kc g.cells la lc L.hi hne rfl (by rw [L.c3, hv]) oc' (by omega) hk).mono ?_
  rintro e w' ⟨rfl, X, b, gr, ow⟩
  refine ⟨rfl, h.rowC hf L b (Vm.cl_len _ _ _) (by rw [hv]; exact ow) (by rw [hv]; exact gr)⟩
end Go.Proofs.YtkjkiknpgggadaaDoor

namespace Go.Proofs.YtkjkiknpgggadaaDoor.Vm
open Go.RowKit
set_option linter.unusedVariables false
set_option linter.unusedSimpArgs false

theorem Rs.inv {l : List Cd.Co} {gs : List Rf} {g : Rf} {a : Int} (h : Rs l (gs ++ [g]) a) : ∃ c, Rs l gs (Cd.an c) ∧ l[g.proc]? = some c ∧ (g.cells.length : Int) = c.cells ∧ Cd.Rc l c (g.place : Int) ((g.stack.length : Int) + a) := by
  generalize e : gs ++ [g] = xs at h
  cases h with
  | nil => simp at e
  | snoc gs' g' a c r hc hk hr =>
    obtain ⟨rfl, e2⟩ := List.append_inj' e rfl
    cases e2
    exact ⟨c, r, hc, hk, hr⟩
theorem RW.at {B : Int} {R : Rm} (w : RW B R) : ∃ gs g c i, RA B R gs g c i := by
  have wf := w.wf ⟨default, fun _ => False, 0⟩
  obtain ⟨gs, g, hf⟩ : ∃ gs g, R.frames = gs ++ [g] := by
    rcases List.eq_nil_or_concat R.frames with h | ⟨s, a, h⟩
    · have := wf.f1
      rw [show (abs R ⟨default, fun _ => False, 0⟩).frames = frs 0 R.frames from rfl, frs_len, h] at this
      simp at this
    · exact ⟨s, a, by rw [h]; simp⟩
  have rs := w.rs
  rw [hf] at rs
  obtain ⟨c, r, hc, hk, hr⟩ := rs.inv
  rw [Int.add_zero] at hr
  have ft := wf.fit c (List.mem_of_getElem? hc)
  obtain ⟨hp, i, hi, h1, h2, h3⟩ := ft.lo _ _ hr
  rw [Int.toNat_natCast] at hi
  have ha := ft.al i (List.mem_of_getElem? hi)
  refine ⟨gs, g, c, i, hf, r, hc, hi, hk, hr, h1, Cd.tk_bd ha.2, fun G => ⟨(fce gs).length, (fst gs).length, ?_⟩⟩
  refine ⟨by show frs 0 R.frames = _; rw [hf, frs_app, Nat.zero_add], ⟨r.fs, hc, rfl, ?_, ?_, ?_⟩, hi, ft, h1, by omega, h3, ha.1, ha.2⟩
  · show (fce R.frames).length = _
    rw [hf, fce_app, fce_one, List.length_append]
    omega
  · show (fst R.frames).length = _
    rw [hf, fst_app, fst_one, List.length_append]
  · show Cd.Rc R.codes c (g.place : Int) ((g.stack.length : Int) + 0)
    rw [Int.add_zero]
    exact hr
theorem abs_last (R : Rm) (gs : List Rf) (g' : Rf) (G : Gh) : abs { R with frames := gs ++ [g'] } G = { abs R G with frames := frs 0 gs ++ [⟨g'.proc, g'.place, g'.mark, (fce gs).length⟩], cells := fce gs ++ g'.cells, stack := fst gs ++ g'.stack } := by
  unfold abs
  simp only [frs_app, fce_app, fst_app, fce_one, fst_one, Nat.zero_add]
theorem tk1 (s : List Int) (a : Int) : (s ++ [a]).take ((s ++ [a]).length - 1) = s ∧ (s ++ [a]).drop ((s ++ [a]).length - 1) = [a] := by simp
theorem tk2 (s : List Int) (a b : Int) : (s ++ [a, b]).take ((s ++ [a, b]).length - 2) = s ∧ (s ++ [a, b]).drop ((s ++ [a, b]).length - 2) = [a, b] := by simp
theorem dl1 (p s : List Int) (a : Int) : (p ++ (s ++ [a])).dropLast = p ++ s ∧ (p ++ (s ++ [a])).getLastD 0 = a := by
  rw [← List.append_assoc]
  simp
theorem dl2 (p s : List Int) (a b : Int) : (p ++ (s ++ [a, b])).dropLast.dropLast = p ++ s ∧ (p ++ (s ++ [a, b])).dropLast.getLastD 0 = a ∧ (p ++ (s ++ [a, b])).getLastD 0 = b := by
  have e : p ++ (s ++ [a, b]) = (p ++ s ++ [a]) ++ [b] := by simp
  rw [e]
  simp
theorem gd_app (p l : List Int) (n : Nat) : (p ++ l).getD (p.length + n) 0 = l.getD n 0 := by
  rw [List.getD_eq_getElem?_getD, List.getD_eq_getElem?_getD, List.getElem?_append_right (by omega)]
  congr 2
  omega
theorem st_app (p l : List Int) (n : Nat) (v : Int) : (p ++ l).set (p.length + n) v = p ++ l.set n v := by
  rw [List.set_append_right _ _ (by omega)]
  congr 2
  omega
theorem cl_app : ∀ (z : Nat) (p l : List Int) (n : Nat), cl (p ++ l) (p.length + n) z = p ++ cl l n z
  | 0, p, l, n => rfl
  | z + 1, p, l, n => by
    rw [cl, cl, st_app, Nat.add_assoc, cl_app z p _ (n + 1)]
def Eqv (M N : Mc) : Prop := M = N ∨ (M.run = false ∧ N.run = false ∧ { M with stack := [] } = { N with stack := [] })
end Go.Proofs.YtkjkiknpgggadaaDoor.Vm

