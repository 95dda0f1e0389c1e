/- Layer 9: the document's machine while an instruction is run. -/
/- Layer 9: the document's machine: drop; what result answers, as one slice. -/
/- Layer 9: the document's machine: what an instruction of sound codes is sure of. -/
import Derived.Test.YtkjkiknpgggadaaDoorSVmQq
import Derived.Test.YtkjkiknpgggadaaDoorSVmQu
import Derived.Deep.Upon
namespace Go.Proofs.YtkjkiknpgggadaaDoor
open Go.RowKit
set_option linter.unusedVariables false
set_option linter.unusedSimpArgs false

theorem RmS.setFu {G : Gh} {r : Nat} {w : World} {U : RmV} {R : Vm.Rm} (h : RmS G r w U R) (e : Int) : Below r w (w.setCell ⟨r, 4, none⟩ (.int .i64 e)) ∧ RmS G r (w.setCell ⟨r, 4, none⟩ (.int .i64 e)) U { R with fuel := e } :=
  ⟨below_set, heap_setCell_same _ _ _ _ _ _ h.box, h.fl, h.rows.below _, (h.low below_set).1, (h.low below_set).2, h.lo, h.fix⟩
theorem RmS.setTi {G : Gh} {r : Nat} {w : World} {U : RmV} {R : Vm.Rm} (h : RmS G r w U R) (e : Int) : Below r w (w.setCell ⟨r, 5, none⟩ (.int .i64 e)) ∧ RmS G r (w.setCell ⟨r, 5, none⟩ (.int .i64 e)) U { R with ticks := e } :=
  ⟨below_set, heap_setCell_same _ _ _ _ _ _ h.box, h.fl, h.rows.below _, (h.low below_set).1, (h.low below_set).2, h.lo, h.fix⟩
theorem RmS.setRd {G : Gh} {r : Nat} {w : World} {U : RmV} {R : Vm.Rm} (h : RmS G r w U R) (e : Nat) : Below r w (w.setCell ⟨r, 3, none⟩ (.int .i64 e)) ∧ RmS G r (w.setCell ⟨r, 3, none⟩ (.int .i64 e)) U { R with read := e } :=
  ⟨below_set, heap_setCell_same _ _ _ _ _ _ h.box, h.fl, h.rows.below _, (h.low below_set).1, (h.low below_set).2, h.lo, h.fix⟩
theorem RmS.setT {G : Gh} {r : Nat} {w : World} {U : RmV} {R : Vm.Rm} (h : RmS G r w U R) (a b c d : Int) : Below r w ((((w.setCell ⟨r, 6, none⟩ (.int .i64 a)).setCell ⟨r, 7, none⟩ (.int .i64 b)).setCell ⟨r, 8, none⟩ (.int .i64 c)).setCell ⟨r, 9, none⟩ (.int .i64 d)) ∧ RmS G r ((((w.setCell ⟨r, 6, none⟩ (.int .i64 a)).setCell ⟨r, 7, none⟩ (.int .i64 b)).setCell ⟨r, 8, none⟩ (.int .i64 c)).setCell ⟨r, 9, none⟩ (.int .i64 d)) U { R with t0 := a, t1 := b, t2 := c, t3 := d } := by
  have b4 : Below r w ((((w.setCell ⟨r, 6, none⟩ (.int .i64 a)).setCell ⟨r, 7, none⟩ (.int .i64 b)).setCell ⟨r, 8, none⟩ (.int .i64 c)).setCell ⟨r, 9, none⟩ (.int .i64 d)) := ((below_set.trans below_set).trans below_set).trans below_set
  exact ⟨b4, heap_setCell_same _ _ _ _ _ _ (heap_setCell_same _ _ _ _ _ _ (heap_setCell_same _ _ _ _ _ _ (heap_setCell_same _ _ _ _ _ _ h.box))), h.fl, (((h.rows.below _).below _).below _).below _, (h.low b4).1, (h.low b4).2, h.lo, h.fix⟩
theorem RmS.tick {G : Gh} {r : Nat} {w : World} {U : RmV} {R : Vm.Rm} (h : RmS G r w U R) : w.cell? ⟨r, 6, none⟩ = some (.int .i64 R.t0) ∧ w.cell? ⟨r, 7, none⟩ = some (.int .i64 R.t1) ∧ w.cell? ⟨r, 8, none⟩ = some (.int .i64 R.t2) ∧ w.cell? ⟨r, 9, none⟩ = some (.int .i64 R.t3) := by
  have := h.box
  refine ⟨?_, ?_, ?_, ?_⟩ <;> simp [World.cell?, this]
theorem rowF2 (a b c d : Value) (w : World) : (Instr.field 91 (.agg #[a, b, c, d]) 2).run Tryd.prog w = .ok c w := by kernel_rfl
theorem hid_of {p : Prop} (h : p) : Hid p := h
structure OnS (G : Gh) (r : Nat) (w : World) (R : Vm.Rm) (gs : List Vm.Rf) (g : Vm.Rf) (op n z : Int) (ib gf cap : Nat) (U : RmV) (fs : List (Value × Value)) (cv sv : Value) (wx : World) : Prop where
  b : Below r w wx
  s : RmS G r wx U R
  hf : R.frames = gs ++ [g]
  l : RmL r wx U gs g fs cv sv gf cap
  i0 : wx.cell? ⟨ib, 0, none⟩ = some (.int .i64 op)
  i1 : wx.cell? ⟨ib, 1, none⟩ = some (.int .i64 n)
  i2 : wx.cell? ⟨ib, 2, none⟩ = some (.int .i64 z)
  il : ib < wx.heap.size
  ir : r < ib
  ig : ¬ ib = gf
theorem OnS.later {G : Gh} {r : Nat} {w : World} {R : Vm.Rm} {gs : List Vm.Rf} {g : Vm.Rf} {op n z : Int} {ib gf cap : Nat} {U : RmV} {fs : List (Value × Value)} {cv sv : Value} {wx wy : World} (h : OnS G r w R gs g op n z ib gf cap U fs cv sv wx) (b : Below wx.heap.size wx wy) : OnS G r w R gs g op n z ib gf cap U fs cv sv wy :=
  ⟨h.b.trans (b.mono (Nat.le_of_lt h.s.lt)), h.s.later b, h.hf, h.l.later b, (b.cell h.il).trans h.i0, (b.cell h.il).trans h.i1, (b.cell h.il).trans h.i2, Nat.lt_of_lt_of_le h.il b.size, h.ir, h.ig⟩
theorem OnS.setF {G : Gh} {r : Nat} {w : World} {R : Vm.Rm} {gs : List Vm.Rf} {g g' : Vm.Rf} {op n z : Int} {ib gf cap : Nat} {U : RmV} {fs : List (Value × Value)} {cv sv : Value} {wx : World} (h : OnS G r w R gs g op n z ib gf cap U fs cv sv wx) (i : Nat) (hi : i < 5) (u : Value) (hu : ([Value.int .i64 g.proc, .int .i64 g.place, .int .i64 g.mark, cv, sv] : List Value).set i u = [Value.int .i64 g'.proc, .int .i64 g'.place, .int .i64 g'.mark, cv, sv]) (hc : g'.cells = g.cells) (hs : g'.stack = g.stack) : OnS G r w { R with frames := gs ++ [g'] } gs g' op n z ib gf cap U fs cv sv (wx.setCell ⟨gf, gs.length * 5 + i, none⟩ u) := by
  have P := h.s.setF (g' := g') h.hf h.l i hi u hu hc hs
  have ne : ∀ k, (wx.setCell ⟨gf, gs.length * 5 + i, none⟩ u).cell? ⟨ib, k, none⟩ = wx.cell? ⟨ib, k, none⟩ := fun k => by
    simp only [World.cell?]
    rw [heap_setCell_other _ _ ib _ (by have := h.ig; simp; omega)]
  obtain ⟨fs', cv', sv', gf', cap', L'⟩ := P.2.last (gs := gs) (g := g') rfl
  have e1 : U.fc = fs' ++ [(cv', sv')] := L'.fc
  rw [h.l.fc] at e1
  obtain ⟨rfl, e2⟩ := List.append_inj' e1 rfl
  cases e2
  have e3 : U.fv = .slice (some ⟨gf', 0, none⟩) (gs.length + 1) cap' := L'.fv
  rw [h.l.fv] at e3
  cases e3
  exact ⟨h.b.trans P.1, P.2, rfl, L', (ne 0).trans h.i0, (ne 1).trans h.i1, (ne 2).trans h.i2, by simpa using h.il, h.ir, h.ig⟩
theorem OnS.cutS {G : Gh} {r : Nat} {w : World} {R : Vm.Rm} {gs : List Vm.Rf} {g : Vm.Rf} {op n z : Int} {ib gf cap : Nat} {U : RmV} {fs : List (Value × Value)} {cv sv : Value} {wx : World} (h : OnS G r w R gs g op n z ib gf cap U fs cv sv wx) {sv' : Value} {st' : List Int} (h8 : wx.ownsRow (r + 1) 2 1 sv' st'.length (nC st')) (o8 : ∀ b, sv'.ownBlock = some b → sv.ownBlock = some b) : OnS G r w { R with frames := gs ++ [{ g with stack := st' }] } gs { g with stack := st' } op n z ib gf cap { U with fc := fs ++ [(cv, sv')] } fs cv sv' (wx.setCell ⟨gf, gs.length * 5 + 4, none⟩ sv') := by
  have P := h.s.cutS h.hf h.l h8 o8
  have ne : ∀ k, (wx.setCell ⟨gf, gs.length * 5 + 4, none⟩ sv').cell? ⟨ib, k, none⟩ = wx.cell? ⟨ib, k, none⟩ := fun k => by
    simp only [World.cell?]
    rw [heap_setCell_other _ _ ib _ (by have := h.ig; simp; omega)]
  obtain ⟨fs', cv', sv2, gf', cap', L'⟩ := P.2.last (gs := gs) (g := { g with stack := st' }) rfl
  have e1 : fs ++ [(cv, sv')] = fs' ++ [(cv', sv2)] := L'.fc
  obtain ⟨rfl, e2⟩ := List.append_inj' e1 rfl
  cases e2
  have e3 : U.fv = .slice (some ⟨gf', 0, none⟩) (gs.length + 1) cap' := L'.fv
  rw [h.l.fv] at e3
  cases e3
  exact ⟨h.b.trans P.1, P.2, rfl, L', (ne 0).trans h.i0, (ne 1).trans h.i1, (ne 2).trans h.i2, by simpa using h.il, h.ir, h.ig⟩
theorem OnS.stk {G : Gh} {r : Nat} {w : World} {R : Vm.Rm} {gs : List Vm.Rf} {g : Vm.Rf} {op n z : Int} {ib gf cap : Nat} {U : RmV} {fs : List (Value × Value)} {cv sv : Value} {wx : World} (h : OnS G r w R gs g op n z ib gf cap U fs cv sv wx) : wx.ownsRow (r + 1) 2 1 sv g.stack.length (nC g.stack) := (h.s.rowsL h.hf h.l).own ⟨2, 1, sv, g.stack.length, nC g.stack⟩ (by simp)
theorem OnS.sta {G : Gh} {r : Nat} {w : World} {R : Vm.Rm} {gs : List Vm.Rf} {g : Vm.Rf} {op n z : Int} {ib gf cap : Nat} {U : RmV} {fs : List (Value × Value)} {cv sv : Value} {wx : World} (h : OnS G r w R gs g op n z ib gf cap U fs cv sv wx) : (g.stack = [] ∧ sv = .slice none 0 0) ∨ ∃ zb kc, sv = .slice (some ⟨zb, 0, none⟩) g.stack.length kc ∧ g.stack.length ≤ kc ∧ zb < wx.heap.size ∧ ∀ j x, g.stack[j]? = some x → wx.cell? ⟨zb, j, none⟩ = some (.int .i64 x) := by
  have o := h.stk
  have hc := @World.ownsRow.cells _ _ _ _ _ _ _ o
  have hl := o.lt
  rcases o.2 with ⟨e, e0⟩ | ⟨zb, kc, cur, e, hb, hh, hcap, _⟩
  · exact .inl ⟨List.length_eq_zero_iff.1 e0, e⟩
  · refine .inr ⟨zb, kc, e, hcap, (hl zb (by rw [e]; rfl)).2, fun j x hj => ?_⟩
    have := hc (g := zb) (by rw [e]; rfl) j (.int .i64 x) (by simp [nC, hj])
    rw [adM, Nat.zero_add] at this
    exact this
theorem own_take {w : World} {base g n cap : Nat} {e : TypeId} {l : List Int} (h : w.ownsRow base e 1 (.slice (some ⟨g, 0, none⟩) n cap) n (nC l)) (hn : n = l.length) (k : Nat) (hk : k ≤ n) : w.ownsRow base e 1 (.slice (some ⟨g, 0, none⟩) k cap) k (nC (l.take k)) := by
  refine ⟨by simp [nC]; omega, ?_⟩
  rcases h.2 with ⟨e1, _⟩ | ⟨g', cap', cur, e1, hb, hh, h1, h2, h3, h4⟩
  · cases e1
  · cases e1
    refine .inr ⟨g, cap, cur, rfl, hb, hh, by omega, h2, h3, ?_⟩
    have : nC (l.take k) = (nC l).take (k * 1) := by simp [nC, List.map_take]
    rw [this, ← h4, List.take_take]
    congr 1
    omega
theorem app_none64 (W : World) (a : Option Addr) (n c : Nat) (hle : n ≤ c) (xa : Option Addr) (xc : Nat) (ty : TypeId) : (Builtin.append_ #[23, 23] ty #[.slice a n c, .slice xa 0 xc]).run Tryd.prog W = .ok (.slice a n c) W := by
  obtain ⟨i0, hi, hz0, hz1, hz2⟩ := info_parts info64
  refine run_append_nothing W _ _ ty 2 i0 Tryd.underlying23 hi a n c hle _ ?_
  cases xa with
  | none => exact Src.ofNil W Tryd.underlying23 xc
  | some x => exact Src.ofSlice W Tryd.underlying23 x 0 xc [] (by simp) (by simp) (by simp)
set_option maxRecDepth 100000 in
set_option maxHeartbeats 4000000 in
theorem rOwn0 (w : World) (a : Option Addr) (c : Nat) : Calls Tryd.prog 39 #[.slice a 0 c] w fun e w' => e = .returned (.slice none 0 0) ∧ w' = w := by
  have hr := fun ty => app_none64 w none 0 0 (Nat.le_refl _) a c ty
  go_enter Tryd.func39, Tryd.ntmps39
  go_wp2_with (at_builtin; refine Lib.wpList_append_run _ rfl _ _ _ _ rfl _ _ rfl rfl _ _ (hr _) ?_)
  go_ret
  exact ⟨rfl, rfl⟩
theorem OnS.boxed {G : Gh} {r : Nat} {w : World} {R R' : Vm.Rm} {gs : List Vm.Rf} {g : Vm.Rf} {op n z : Int} {ib gf cap : Nat} {U : RmV} {fs : List (Value × Value)} {cv sv : Value} {wx wy : World} (h : OnS G r w R gs g op n z ib gf cap U fs cv sv wx) (P : Below r wx wy ∧ RmS G r wy U R') (hfr : R'.frames = gs ++ [g]) (hk : ∀ k, k ≠ r → wy.heap[k]? = wx.heap[k]?) (hs : wx.heap.size ≤ wy.heap.size) : OnS G r w R' gs g op n z ib gf cap U fs cv sv wy := by
  have ne : ∀ b k, b ≠ r → wy.cell? ⟨b, k, none⟩ = wx.cell? ⟨b, k, none⟩ := fun b k hb => by
    simp only [World.cell?]
    rw [hk b hb]
  have ir := h.ir
  obtain ⟨fs', cv', sv', gf', cap', L'⟩ := P.2.last hfr
  have e1 : U.fc = fs' ++ [(cv', sv')] := L'.fc
  rw [h.l.fc] at e1
  obtain ⟨rfl, e2⟩ := List.append_inj' e1 rfl
  cases e2
  have e3 : U.fv = .slice (some ⟨gf', 0, none⟩) (gs.length + 1) cap' := L'.fv
  rw [h.l.fv] at e3
  cases e3
  exact ⟨h.b.trans P.1, P.2, hfr, L', (ne ib 0 (by omega)).trans h.i0, (ne ib 1 (by omega)).trans h.i1, (ne ib 2 (by omega)).trans h.i2, Nat.lt_of_lt_of_le h.il hs, h.ir, h.ig⟩
theorem OnS.setFu {G : Gh} {r : Nat} {w : World} {R : Vm.Rm} {gs : List Vm.Rf} {g : Vm.Rf} {op n z : Int} {ib gf cap : Nat} {U : RmV} {fs : List (Value × Value)} {cv sv : Value} {wx : World} (h : OnS G r w R gs g op n z ib gf cap U fs cv sv wx) (e : Int) : OnS G r w { R with fuel := e } gs g op n z ib gf cap U fs cv sv (wx.setCell ⟨r, 4, none⟩ (.int .i64 e)) :=
  h.boxed (h.s.setFu e) h.hf (fun k hk => heap_setCell_other _ _ k _ (by simpa using hk)) (by simp)
theorem OnS.setTi {G : Gh} {r : Nat} {w : World} {R : Vm.Rm} {gs : List Vm.Rf} {g : Vm.Rf} {op n z : Int} {ib gf cap : Nat} {U : RmV} {fs : List (Value × Value)} {cv sv : Value} {wx : World} (h : OnS G r w R gs g op n z ib gf cap U fs cv sv wx) (e : Int) : OnS G r w { R with ticks := e } gs g op n z ib gf cap U fs cv sv (wx.setCell ⟨r, 5, none⟩ (.int .i64 e)) :=
  h.boxed (h.s.setTi e) h.hf (fun k hk => heap_setCell_other _ _ k _ (by simpa using hk)) (by simp)
theorem own_takeN {w : World} {base g n cap sz : Nat} {e : TypeId} {xs : List Value} (h : w.ownsRow base e sz (.slice (some ⟨g, 0, none⟩) n cap) n xs) (k : Nat) (hk : k ≤ n) : w.ownsRow base e sz (.slice (some ⟨g, 0, none⟩) k cap) k (xs.take (k * sz)) := by
  have hm : k * sz ≤ n * sz := Nat.mul_le_mul_right _ hk
  refine ⟨by rw [List.length_take, h.1]; omega, ?_⟩
  rcases h.2 with ⟨e1, _⟩ | ⟨g', cap', cur, e1, hb, hh, h1, h2, h3, h4⟩
  · cases e1
  · cases e1
    refine .inr ⟨g, cap, cur, rfl, hb, hh, by omega, h2, h3, ?_⟩
    rw [← h4, List.take_take]
    congr 1
    omega
theorem RmS.pop {G : Gh} {r : Nat} {w : World} {U : RmV} {R : Vm.Rm} (h : RmS G r w U R) {gs : List Vm.Rf} {g : Vm.Rf} (hf : R.frames = gs ++ [g]) {fs : List (Value × Value)} {cv sv : Value} {gf cap : Nat} (L : RmL r w U gs g fs cv sv gf cap) : Below r w (w.setCell ⟨r, 1, none⟩ (.slice (some ⟨gf, 0, none⟩) gs.length cap)) ∧ RmS G r (w.setCell ⟨r, 1, none⟩ (.slice (some ⟨gf, 0, none⟩) gs.length cap)) { U with fv := .slice (some ⟨gf, 0, none⟩) gs.length cap, fc := fs } { R with frames := gs } := by
  have hlen : (rmC gs fs).length = gs.length * 5 := rmC_len gs fs L.fl
  have hn : R.frames.length = gs.length + 1 := by rw [hf]; simp
  have r0 := (h.rowsL hf L).sub (L' := reR U R :: rfR U R :: rmR gs fs) (List.sublist_append_left _ _)
  have r1 : RwL G w (r + 1) ([reR U R] ++ rfR U R :: rmR gs fs) := r0
  have ho : w.ownsRow (r + 1) 60 5 U.fv R.frames.length (rmC R.frames U.fc) := r1.own (rfR U R) (by simp)
  rw [L.fv, ← hn] at ho
  have ho2 := own_takeN ho gs.length (by omega)
  have e1 : (rmC R.frames U.fc).take (gs.length * 5) = rmC gs fs := by
    rw [hf, L.fc, rmC_app gs fs g (cv, sv) L.fl, ← hlen, List.take_left]
  rw [e1] at ho2
  have r2 := r1.cut (v' := .slice (some ⟨gf, 0, none⟩) gs.length cap) (n' := gs.length) (xs' := rmC gs fs) ho2 (fun b e => by show U.fv.ownBlock = _; rw [L.fv]; exact e)
  exact ⟨below_set, ⟨heap_setCell_same _ _ _ _ _ _ h.box, L.fl, r2.below _, (h.low below_set).1, (h.low below_set).2, h.lo, h.fix⟩⟩
theorem RmS.growC {G : Gh} {r : Nat} {w X w8 : World} {U : RmV} {R : Vm.Rm} (h : RmS G r w U R) {gs : List Vm.Rf} {g : Vm.Rf} (hf : R.frames = gs ++ [g]) {fs : List (Value × Value)} {cv sv : Value} {gf cap : Nat} (L : RmL r w U gs g fs cv sv gf cap) (y : Below w.heap.size w X) {sv' : Value} {st' : List Int} (h8 : w8.ownsRow (r + 1) 2 1 sv' st'.length (nC st')) (g8 : X.grownBy w8 sv.ownBlock) (o8 : sv'.ownBlock = sv.ownBlock ∨ ∃ b, sv'.ownBlock = some b ∧ X.heap.size ≤ b) : ∃ u, w8.cell? ⟨gf, gs.length * 5 + 4, none⟩ = some u ∧ w8.frozen? ⟨gf, gs.length * 5 + 4, none⟩ = false := by
  have RS : RwL G w (r + 1) ((reR U R :: rfR U R :: (rmR gs fs ++ [⟨2, 1, cv, g.cells.length, nC g.cells⟩])) ++ ⟨2, 1, sv, g.stack.length, nC g.stack⟩ :: []) := by simpa using h.rowsL hf L
  have C := RS.grow y (v' := sv') (n' := st'.length) (xs' := nC st') h8 g8 o8
  have hn : R.frames.length = gs.length + 1 := by rw [hf]; simp
  have ho : w8.ownsRow (r + 1) 60 5 U.fv R.frames.length (rmC R.frames U.fc) := C.own (rfR U R) (by simp)
  rw [L.fv, ← hn] at ho
  exact own_cell ho (j := gs.length * 5 + 4) (by rw [hn]; omega)
theorem rtk_zero (g : Vm.Rf) : Vm.rtk g 0 = [] := by unfold Vm.rtk; simp
theorem nC_at {W : World} {g o : Nat} {l : List Int} (h : ∀ j x, l[j]? = some x → W.cell? ⟨g, o + j, none⟩ = some (.int .i64 x)) : ∀ j u, (nC l)[j]? = some u → W.cell? ((⟨g, o, none⟩ : Addr).add j) = some u := fun j u hu => by
  rw [adM]
  simp only [nC, List.getElem?_map, Option.map_eq_some_iff] at hu
  obtain ⟨x, hx, rfl⟩ := hu
  exact h j x hx
theorem cells2 {W : World} {b : Nat} {v0 v1 : Value} (h0 : W.cell? ⟨b, 0, none⟩ = some v0) (h1 : W.cell? ⟨b, 1, none⟩ = some v1) : ∀ (j : Nat) u, [v0, v1][j]? = some u → W.cell? ((⟨b, 0, none⟩ : Addr).add j) = some u := fun j u hj => by
  rw [adM, Nat.zero_add]
  match j, hj with
  | 0, hj => simp at hj; subst hj; exact h0
  | 1, hj => simp at hj; subst hj; exact h1
  | n + 2, hj => simp at hj
theorem cells1 {W : World} {b : Nat} {v0 : Value} (h0 : W.cell? ⟨b, 0, none⟩ = some v0) : ∀ (j : Nat) u, [v0][j]? = some u → W.cell? ((⟨b, 0, none⟩ : Addr).add j) = some u := fun j u hj => by
  rw [adM, Nat.zero_add]
  match j, hj with
  | 0, hj => simp at hj; subst hj; exact h0
  | n + 1, hj => simp at hj
theorem RmS.addE {G : Gh} {r : Nat} {w X w8 : World} {U : RmV} {R : Vm.Rm} (h : RmS G r w U R) (y : Below w.heap.size w X) {k a : Int} {v8 : Value} (h8 : w8.ownsRow (r + 1) 50 2 v8 (R.events.length + 1) (Vm.evC R.events ++ [.int .i64 k, .int .i64 a])) (g8 : X.grownBy w8 U.ev.ownBlock) (o8 : v8.ownBlock = U.ev.ownBlock ∨ ∃ g, v8.ownBlock = some g ∧ X.heap.size ≤ g) : RmQ G r w (w8.setCell ⟨r, 10, none⟩ v8) { R with events := R.events ++ [(k, a)] } ∧ Below (r + 1) w w8 := by
  have RS : RwL G w (r + 1) ([] ++ reR U R :: rfR U R :: rmR R.frames U.fc) := h.rows
  have b8 : Below (r + 1) w w8 := grownL_below RS h.lt y g8
  have R8 := RS.grow y (v' := v8) (n' := (R.events ++ [(k, a)]).length) (xs' := Vm.evC (R.events ++ [(k, a)])) (by rw [List.length_append, Vm.evC_app]; simpa [Vm.evC] using h8) g8 o8
  exact ⟨h.setE b8 R8, b8⟩
end Go.Proofs.YtkjkiknpgggadaaDoor

namespace Go.Proofs.YtkjkiknpgggadaaDoor
open Go.RowKit
set_option linter.unusedVariables false
set_option linter.unusedSimpArgs false

set_option maxRecDepth 100000 in
set_option maxHeartbeats 8000000 in
theorem rRes25 (w : World) (p pl mk n m a : Int) (cv sv : Value) (gl ol lc : Nat) (hg : gl < w.heap.size) (c0 : w.cell? ⟨gl, ol, none⟩ = some (.int .i64 a)) : Calls Tryd.prog 54 #[.agg #[.int .i64 p, .int .i64 pl, .int .i64 mk, cv, sv], .agg #[.int .i64 25, .int .i64 n, .int .i64 m], .slice (some ⟨gl, ol, none⟩) 1 lc] w (ResQ w ([], 0)) := by
  go_enter Tryd.func54, Tryd.ntmps54
  go_wp2_with fail
  go_ret2
  exact ⟨by go_grown, .inl ⟨rfl, rfl⟩⟩
set_option maxRecDepth 100000 in
set_option maxHeartbeats 8000000 in
theorem rSto25 (w : World) (gf fo : Nat) (n m : Int) (hf : gf < w.heap.size) (l : Value) : Calls Tryd.prog 55 #[.pointer (some ⟨gf, fo, none⟩), .agg #[.int .i64 25, .int .i64 n, .int .i64 m], l] w (NoQ w) := by
  obtain ⟨W1, hW1⟩ : ∃ W1, W1 = w.alloc (.cells #[.int .i64 25, .int .i64 n, .int .i64 m] 47) := ⟨_, rfl⟩
  have BW0 : Below w.heap.size w W1 := by rw [hW1]; go_grown
  have BW : Hid (Below w.heap.size w W1) := BW0
  clear BW0
  have i0 : W1.cell? ⟨w.heap.size, 0, none⟩ = some (.int .i64 25) := by rw [hW1]; simp [go_sem]
  have i1 : W1.cell? ⟨w.heap.size, 1, none⟩ = some (.int .i64 n) := by rw [hW1]; simp [go_sem]
  go_enter Tryd.func55, Tryd.ntmps55
  go_upto_region 1 with fail
  rw [← hW1]
  clear hW1
  go_wp2_with fail
  go_end0
  exact ⟨rfl, BW.out⟩
theorem ResQ.sl {w w' : World} {q : List Int × Int} {e : Ending} (h : ResQ w q e w') : ∃ xa xc, e = .returned (.tuple #[.slice xa q.1.length xc, .int .i64 q.2]) ∧ Below w.heap.size w w' ∧ (q.1.length = 0 → xa = none ∧ xc = 0) ∧ NuW w.heap.size w'.heap.size w' xa q.1 := by
  obtain ⟨b, ⟨h1, h2⟩ | ⟨x, g, h1, h2, h3, h4, h5⟩⟩ := h
  · exact ⟨none, 0, by rw [h1]; exact h2, b, fun _ => ⟨rfl, rfl⟩, fun h0 => by rw [h1] at h0; simp at h0⟩
  · refine ⟨some ⟨g, 0, none⟩, 1, by rw [h1]; exact h2, b, (fun h0 => by rw [h1] at h0; simp at h0), fun _ => ⟨g, 0, rfl, h3, h4, fun j y hj => ?_⟩⟩
    rw [h1] at hj
    match j, hj with
    | 0, hj => simp at hj; subst hj; exact h5
    | k + 1, hj => simp at hj
theorem nus_up {B B' : Nat} {w : World} {a : Option Addr} {l : List Int} (h : NuS B w a l) (hb : B ≤ B') : NuS B' w a l := fun h0 => by
  obtain ⟨g, o, e, hg, hc⟩ := h h0
  exact ⟨g, o, e, Nat.lt_of_lt_of_le hg hb, hc⟩
end Go.Proofs.YtkjkiknpgggadaaDoor

namespace Go.Proofs.YtkjkiknpgggadaaDoor
open Go.RowKit
set_option linter.unusedVariables false
set_option linter.unusedSimpArgs false

theorem rtk0 {B : Int} {R : Vm.Rm} {gs : List Vm.Rf} {g : Vm.Rf} {c : Cd.Co} {i : Cd.In} (a : Vm.RA B R gs g c i) : Vm.rtk g 0 = [] := rtk_zero g
theorem rtk_len {B : Int} {R : Vm.Rm} {gs : List Vm.Rf} {g : Vm.Rf} {c : Cd.Co} {i : Cd.In} (a : Vm.RA B R gs g c i) {T : Nat} (hT : Cd.tk i = T) : (Vm.rtk g T).length = T := by
  have := a.tk
  unfold Vm.rtk
  rw [List.length_drop]
  omega
theorem rtk1 {B : Int} {R : Vm.Rm} {gs : List Vm.Rf} {g : Vm.Rf} {c : Cd.Co} {i : Cd.In} (a : Vm.RA B R gs g c i) (hT : Cd.tk i = (1 : Nat)) : ∃ x, Vm.rtk g 1 = [x] := List.length_eq_one_iff.1 (rtk_len a hT)
theorem rtk2 {B : Int} {R : Vm.Rm} {gs : List Vm.Rf} {g : Vm.Rf} {c : Cd.Co} {i : Cd.In} (a : Vm.RA B R gs g c i) (hT : Cd.tk i = (2 : Nat)) : ∃ x y, Vm.rtk g 2 = [x, y] := by
  have q := rtk_len a hT
  match hl : Vm.rtk g 2, q with
  | [x, y], _ => exact ⟨x, y, rfl⟩
theorem ra_al {B : Int} {R : Vm.Rm} {gs : List Vm.Rf} {g : Vm.Rf} {c : Cd.Co} {i : Cd.In} (a : Vm.RA B R gs g c i) : Cd.al B R.codes c i = true := by
  obtain ⟨C0, S0, A⟩ := a.at_ ⟨default, fun _ => False, 0⟩
  exact A.al
theorem ra_cells {B : Int} {R : Vm.Rm} {gs : List Vm.Rf} {g : Vm.Rf} {c : Cd.Co} {i : Cd.In} (a : Vm.RA B R gs g c i) (wf : Vm.RW B R) : (g.cells.length : Int) = c.cells ∧ g.cells.length ≤ 65536 := by
  have s := ((wf.wf ⟨default, fun _ => False, 0⟩).fit c (List.mem_of_getElem? a.hc)).sz
  simp [Cd.sz] at s
  have := a.hk
  omega
theorem ra_rg {B : Int} {R : Vm.Rm} {gs : List Vm.Rf} {g : Vm.Rf} {c : Cd.Co} {op n z : Int} (a : Vm.RA B R gs g c ⟨op, n, z⟩) (wf : Vm.RW B R) (t : Nat) : Vm.Rg op n z (Vm.rf1 g t).cells.length := by
  obtain ⟨h1, h2⟩ := ra_cells a wf
  have al := ra_al a
  show Vm.Rg op n z g.cells.length
  refine ⟨fun e => ?_, fun e => ?_, h2⟩
  · unfold Cd.al at al
    rw [if_pos (by simpa using e)] at al
    simp [Cd.hc] at al
    omega
  · unfold Cd.al at al
    rw [if_neg (by simp; omega), if_pos (by simpa using e)] at al
    simp [Cd.hc] at al
    omega
theorem ra_m {B : Int} {R : Vm.Rm} {gs : List Vm.Rf} {g : Vm.Rf} {c : Cd.Co} {op n z : Int} (a : Vm.RA B R gs g c ⟨op, n, z⟩) (e : op = 4 ∨ op = 5 ∨ op = 6) : 0 < z := by
  have al := ra_al a
  unfold Cd.al at al
  rw [if_neg (by simp; omega), if_pos (by simpa using e)] at al
  simp [Cd.hc] at al
  omega
theorem ra_n {B : Int} {R : Vm.Rm} {gs : List Vm.Rf} {g : Vm.Rf} {c : Cd.Co} {op n z : Int} (a : Vm.RA B R gs g c ⟨op, n, z⟩) (e : op = 17 ∨ op = 18) : 0 ≤ n := by
  have al := ra_al a
  unfold Cd.al at al
  rw [if_neg (by simp; omega), if_neg (by simp; omega), if_pos (by simpa using e)] at al
  simp at al
  omega
theorem rb_tk {R : Vm.Rm} {gs : List Vm.Rf} {g : Vm.Rf} (rb : Vm.RB R) (hf : R.frames = gs ++ [g]) (t : Nat) : ∀ x ∈ Vm.rtk g t, -9223372036854775808 ≤ x ∧ x ≤ 9223372036854775807 := fun x hx => (rb.fr g (by rw [hf]; simp)).2 x (List.mem_of_mem_drop hx)
theorem OnS.cel {G : Gh} {r : Nat} {w : World} {R : Vm.Rm} {gs : List Vm.Rf} {g : Vm.Rf} {op n z : Int} {ib gf cap : Nat} {U : RmV} {fs : List (Value × Value)} {cv sv : Value} {wx : World} (h : OnS G r w R gs g op n z ib gf cap U fs cv sv wx) : 0 < g.cells.length → ∃ zb kc, cv = .slice (some ⟨zb, 0, none⟩) g.cells.length kc ∧ zb < wx.heap.size ∧ ∀ j x, g.cells[j]? = some x → wx.cell? ⟨zb, j, none⟩ = some (.int .i64 x) := fun hp => by
  obtain ⟨zb, kc, e, h1, _, o⟩ := h.s.cellsAt h.hf h.l hp
  refine ⟨zb, kc, e, h1, fun j x hj => ?_⟩
  have := o.cells (g := zb) (by rw [e]; rfl) j (.int .i64 x) (by simp [nC, hj])
  rw [adM, Nat.zero_add] at this
  exact this
theorem ronS {G : Gh} {r : Nat} {w : World} {R : Vm.Rm} {gs : List Vm.Rf} {g : Vm.Rf} {op n z : Int} {ib gf cap : Nat} {U : RmV} {fs : List (Value × Value)} {cv sv : Value} {wx : World} (h : OnS G r w R gs g op n z ib gf cap U fs cv sv wx) {e : Ending} {w' : World} (q : NoQ wx e w') : stoP U G r wx R gs g e w' := by
  have := h.s.noq h.hf q
  exact this
end Go.Proofs.YtkjkiknpgggadaaDoor

