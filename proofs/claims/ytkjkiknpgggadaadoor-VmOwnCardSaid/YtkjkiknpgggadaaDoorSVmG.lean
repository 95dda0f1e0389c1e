/- Layer 9: the machine's last frame: top, fetch, mark. -/
/- Layer 9: any number of rows that lie apart (for the document's machine). -/
/- Layer 9: mark, leave, readNumber. -/
import Derived.Test.YtkjkiknpgggadaaDoorSVmM
import Derived.BigQuiet
import Derived.BigRegion
namespace Go.Proofs.YtkjkiknpgggadaaDoor
open Go.RowKit
set_option linter.unusedVariables false
set_option linter.unusedSimpArgs false

theorem own_setc {w : World} {base : Nat} {e : TypeId} {sz n g cap : Nat} {xs : List Value} (h : w.ownsRow base e sz (.slice (some ⟨g, 0, none⟩) n cap) n xs) {i : Nat} (hi : i < n * sz) (u : Value) : (w.setCell ⟨g, i, none⟩ u).ownsRow base e sz (.slice (some ⟨g, 0, none⟩) n cap) n (xs.set i u) := by
  refine ⟨by simpa using h.1, ?_⟩
  rcases h.2 with ⟨hv, _⟩ | ⟨g', cap', cur, hv, hb, hh, h1, h2, h3, h4⟩
  · cases hv
  · cases hv
    refine .inr ⟨g, cap, cur.setIfInBounds i u, rfl, hb, heap_setCell_same _ _ _ _ _ _ hh, h1, h2, by simpa using h3, ?_⟩
    rw [← h4]
    simp [List.take_set]
theorem VmR.put {G : Gh} {w : World} {base : Nat} {a b c d : Rw} {g cap i : Nat} (h : VmR G w base a b c d) (hv : a.v = .slice (some ⟨g, 0, none⟩) a.n cap) (hi : i < a.n * a.sz) (u : Value) : VmR G (w.setCell ⟨g, i, none⟩ u) base ⟨a.e, a.sz, a.v, a.n, a.xs.set i u⟩ b c d := by
  have hg : a.v.ownBlock = some g := by rw [hv]; rfl
  have oth : ∀ r : Rw, r.Own w base → Apt a.v r.v → r.Own (w.setCell ⟨g, i, none⟩ u) base := fun r hr hA => ownsRow_setCell_other hr (fun e => hA g hg e) _
  refine ⟨?_, oth b h.ob h.ab, oth c h.oc h.ac, oth d h.od h.ad, h.ab, h.ac, h.ad, h.bc, h.bd, h.cd, ⟨by simpa using h.gk.sz, fun j hj n nb => (heap_setCell_other _ _ j _ (fun e => ?_)).trans (h.gk.eq j hj n nb)⟩, h.ga, h.gb, h.gc, h.gd⟩
  case refine_2 =>
    simp at e
    subst e
    rcases h.ga _ hg with e2 | e2
    · exact nb e2
    · omega
  have := h.oa
  unfold Rw.Own at this ⊢
  dsimp only
  rw [hv] at this ⊢
  exact own_setc this hi u
namespace Vm
theorem frC_at (fs : List Fr) (f : Fr) : (frC (fs ++ [f]))[fs.length * 4]? = some (.int .i64 f.proc) ∧ (frC (fs ++ [f]))[fs.length * 4 + 1]? = some (.int .i64 f.place) ∧ (frC (fs ++ [f]))[fs.length * 4 + 2]? = some (.int .i64 f.mark) ∧ (frC (fs ++ [f]))[fs.length * 4 + 3]? = some (.int .i64 f.base) := by
  rw [frC_app]
  have e : ∀ k, (frC fs ++ frC [f])[fs.length * 4 + k]? = (frC [f])[k]? := fun k => by
    rw [List.getElem?_append_right (by rw [frC_len]; omega), frC_len]
    congr 1
    omega
  exact ⟨e 0, e 1, e 2, e 3⟩
theorem frC_place (fs : List Fr) (f : Fr) (p : Nat) : (frC (fs ++ [f])).set (fs.length * 4 + 1) (.int .i64 p) = frC (fs ++ [{ f with place := p }]) := by
  rw [frC_app, frC_app, List.set_append_right _ _ (by rw [frC_len]; omega), frC_len]
  have : fs.length * 4 + 1 - fs.length * 4 = 1 := by omega
  rw [this]
  rfl
theorem frC_mark (fs : List Fr) (f : Fr) (p : Int) : (frC (fs ++ [f])).set (fs.length * 4 + 2) (.int .i64 p) = frC (fs ++ [{ f with mark := p }]) := by
  rw [frC_app, frC_app, List.set_append_right _ _ (by rw [frC_len]; omega), frC_len]
  have : fs.length * 4 + 2 - fs.length * 4 = 2 := by omega
  rw [this]
  rfl
end Vm
theorem VmS.top {m : Nat} {w : World} {V : VmV} {M : Vm.Mc} {fs : List Vm.Fr} {f : Vm.Fr} (h : VmS m w V M) (hf : M.frames = fs ++ [f]) : ∃ g cap, V.fv = .slice (some ⟨g, 0, none⟩) (fs.length + 1) cap ∧ fs.length + 1 ≤ cap ∧ m < g ∧ g < w.heap.size ∧ w.cell? ⟨g, fs.length * 4, none⟩ = some (.int .i64 f.proc) ∧ w.cell? ⟨g, fs.length * 4 + 1, none⟩ = some (.int .i64 f.place) ∧ w.cell? ⟨g, fs.length * 4 + 2, none⟩ = some (.int .i64 f.mark) ∧ w.cell? ⟨g, fs.length * 4 + 3, none⟩ = some (.int .i64 f.base) ∧ ∀ k, w.frozen? ⟨g, k, none⟩ = false := by
  have ho := h.rows.oc
  unfold Rw.Own at ho
  dsimp only at ho
  rw [hf, List.length_append, List.length_singleton] at ho
  have hl := World.ownsRow.lt ho
  have hc := @World.ownsRow.cells _ _ _ _ _ _ _ ho
  rcases ho.2 with ⟨_, e⟩ | ⟨g, cap, cur, e, hb, hh, hcap, _⟩
  · omega
  · have eo : V.fv.ownBlock = some g := by rw [e]; rfl
    have get := fun j u hu => @hc g eo j u hu
    have add : ∀ j : Nat, (⟨g, 0, none⟩ : Addr).add j = ⟨g, j, none⟩ := fun j => by unfold Addr.add; split <;> simp_all
    obtain ⟨a0, a1, a2, a3⟩ := Vm.frC_at fs f
    refine ⟨g, cap, e, hcap, by omega, (hl g eo).2, ?_, ?_, ?_, ?_, fun k => by simp [World.frozen?, hh]⟩
    · have := get _ _ a0; rwa [add] at this
    · have := get _ _ a1; rwa [add] at this
    · have := get _ _ a2; rwa [add] at this
    · have := get _ _ a3; rwa [add] at this
theorem VmS.setP {m : Nat} {w : World} {V : VmV} {M : Vm.Mc} {fs : List Vm.Fr} {f : Vm.Fr} {g cap : Nat} (h : VmS m w V M) (hf : M.frames = fs ++ [f]) (hv : V.fv = .slice (some ⟨g, 0, none⟩) (fs.length + 1) cap) (hg : m < g) (p : Nat) : Below m w (w.setCell ⟨g, fs.length * 4 + 1, none⟩ (.int .i64 p)) ∧ VmS m (w.setCell ⟨g, fs.length * 4 + 1, none⟩ (.int .i64 p)) V { M with frames := fs ++ [{ f with place := p }] } := by
  have hl : M.frames.length = fs.length + 1 := by rw [hf]; simp
  have b : Below m w (w.setCell ⟨g, fs.length * 4 + 1, none⟩ (.int .i64 p)) := ⟨rfl, rfl, rfl, by simp, fun j hj => heap_setCell_other _ _ j _ (by simp; omega)⟩
  have r := (h.rows.swap2.put (g := g) (cap := cap) (i := fs.length * 4 + 1) (by show V.fv = .slice _ M.frames.length _; rw [hv, hl]) (by show _ < M.frames.length * 4; rw [hl]; omega) (.int .i64 p)).swap2
  refine ⟨b, ⟨?_, ?_, h.co.later b, h.inp.later b⟩⟩
  · rw [heap_setCell_other _ _ m _ (by simp; omega), h.box]
  · have e : (Vm.frC M.frames).set (fs.length * 4 + 1) (.int .i64 p) = Vm.frC (fs ++ [{ f with place := p }]) := by rw [hf]; exact Vm.frC_place fs f p
    have e2 : M.frames.length = (fs ++ [{ f with place := p }]).length := by rw [hl]; simp
    dsimp only at r ⊢
    rw [e, e2] at r
    exact r
theorem VmS.setM {m : Nat} {w : World} {V : VmV} {M : Vm.Mc} {fs : List Vm.Fr} {f : Vm.Fr} {g cap : Nat} (h : VmS m w V M) (hf : M.frames = fs ++ [f]) (hv : V.fv = .slice (some ⟨g, 0, none⟩) (fs.length + 1) cap) (hg : m < g) (p : Int) : Below m w (w.setCell ⟨g, fs.length * 4 + 2, none⟩ (.int .i64 p)) ∧ VmS m (w.setCell ⟨g, fs.length * 4 + 2, none⟩ (.int .i64 p)) V { M with frames := fs ++ [{ f with mark := p }] } := by
  have hl : M.frames.length = fs.length + 1 := by rw [hf]; simp
  have b : Below m w (w.setCell ⟨g, fs.length * 4 + 2, none⟩ (.int .i64 p)) := ⟨rfl, rfl, rfl, by simp, fun j hj => heap_setCell_other _ _ j _ (by simp; omega)⟩
  have r := (h.rows.swap2.put (g := g) (cap := cap) (i := fs.length * 4 + 2) (by show V.fv = .slice _ M.frames.length _; rw [hv, hl]) (by show _ < M.frames.length * 4; rw [hl]; omega) (.int .i64 p)).swap2
  refine ⟨b, ⟨?_, ?_, h.co.later b, h.inp.later b⟩⟩
  · rw [heap_setCell_other _ _ m _ (by simp; omega), h.box]
  · have e : (Vm.frC M.frames).set (fs.length * 4 + 2) (.int .i64 p) = Vm.frC (fs ++ [{ f with mark := p }]) := by rw [hf]; exact Vm.frC_mark fs f p
    have e2 : M.frames.length = (fs ++ [{ f with mark := p }]).length := by rw [hl]; simp
    dsimp only at r ⊢
    rw [e, e2] at r
    exact r
theorem VmS.far {m r k : Nat} {w : World} {V : VmV} {M : Vm.Mc} (h : VmS m w V M) (hr : m < r) (hr2 : M.g.w.heap.size ≤ r) (n1 : ¬ V.sv.ownBlock = some r) (n2 : ¬ V.ev.ownBlock = some r) (n3 : ¬ V.fv.ownBlock = some r) (n4 : ¬ V.cv.ownBlock = some r) (u : Value) : Below m w (w.setCell ⟨r, k, none⟩ u) ∧ VmS m (w.setCell ⟨r, k, none⟩ u) V M := by
  have b : Below m w (w.setCell ⟨r, k, none⟩ u) := ⟨rfl, rfl, rfl, by simp, fun j hj => heap_setCell_other _ _ j _ (by simp; omega)⟩
  refine ⟨b, (heap_setCell_other _ _ m _ (by simp; omega)).trans h.box, ?_, h.co.later b, h.inp.later b⟩
  exact ⟨ownsRow_setCell_other h.rows.oa n1 _, ownsRow_setCell_other h.rows.ob n2 _, ownsRow_setCell_other h.rows.oc n3 _, ownsRow_setCell_other h.rows.od n4 _, h.rows.ab, h.rows.ac, h.rows.ad, h.rows.bc, h.rows.bd, h.rows.cd, ⟨by simpa using h.rows.gk.sz, fun j hj n nb => (heap_setCell_other _ _ j _ (by simp; omega)).trans (h.rows.gk.eq j hj n nb)⟩, h.rows.ga, h.rows.gb, h.rows.gc, h.rows.gd⟩
theorem VmS.old {m r : Nat} {w : World} {V : VmV} {M : Vm.Mc} (h : VmS m w V M) (hr : w.heap.size ≤ r) : ¬ V.sv.ownBlock = some r ∧ ¬ V.ev.ownBlock = some r ∧ ¬ V.fv.ownBlock = some r ∧ ¬ V.cv.ownBlock = some r :=
  ⟨fun e => by have := (World.ownsRow.lt h.rows.oa _ e).2; omega, fun e => by have := (World.ownsRow.lt h.rows.ob _ e).2; omega, fun e => by have := (World.ownsRow.lt h.rows.oc _ e).2; omega, fun e => by have := (World.ownsRow.lt h.rows.od _ e).2; omega⟩
set_option maxRecDepth 100000 in
set_option maxHeartbeats 4000000 in
theorem vmTop (m g n cap : Nat) (w : World) (c10 : w.cell? ⟨m, 10, none⟩ = some (.slice (some ⟨g, 0, none⟩) (n + 1) cap)) (hn : n ≤ 1000000) : Calls Tryd.prog 26 #[.pointer (some ⟨m, 0, none⟩)] w fun e w' => e = .returned (.pointer (some ⟨g, n * 4, none⟩)) ∧ ∃ q, w' = w.drewN q := by
  have e2 : ((n : Int) + 1 - 1) = n := by omega
  have h0 : (0 : Int) ≤ (n : Int) := by omega
  have h1 : (n : Int) < (n : Int) + 1 := by omega
  go_enter Tryd.func26, Tryd.ntmps26
  go_wp2_with fail
  go_quiet (fail)
  clear c10
  go_wp2_with fail
  go_ret
  exact ⟨rfl, nq, rfl⟩
theorem VmS.ins {m : Nat} {w : World} {V : VmV} {M : Vm.Mc} {p q : Nat} {c : Cd.Co} {i : Cd.In} (h : VmS m w V M) (hc : M.codes[p]? = some c) (hi : c.ins[q]? = some i) : ∃ g o g2 o2 ic, V.ca = some ⟨g, o, none⟩ ∧ g < m ∧ g2 < m ∧ w.cell? ⟨g, o + p * 4, none⟩ = some (.slice (some ⟨g2, o2, none⟩) c.ins.length ic) ∧ InAt w g2 (o2 + q * 3) i := by
  obtain ⟨g, o, ia, ic, e, hg, ca⟩ := h.co.at hc
  obtain ⟨g2, o2, e2, hg2, ci⟩ := ca.hi.at hi
  subst e2
  exact ⟨g, o, g2, o2, ic, e, hg, hg2, ca.c0, ci⟩
abbrev inZ : Obj := .cells #[.int .i64 0, .int .i64 0, .int .i64 0] 47
set_option maxRecDepth 100000 in
set_option maxHeartbeats 8000000 in
theorem vmFetch (m : Nat) (w : World) (V : VmV) (M : Vm.Mc) (fs : List Vm.Fr) (f : Vm.Fr) (c : Cd.Co) (i : Cd.In) (h : VmS m w V M) (hf : M.frames = fs ++ [f]) (hc : M.codes[f.proc]? = some c) (hi : c.ins[f.place]? = some i) (hb : fs.length ≤ 1000000) (hp : f.place ≤ 1000000) :
    Calls Tryd.prog 24 #[.pointer (some ⟨m, 0, none⟩)] w fun e w' => e = .returned (inV i) ∧ VmQ m w w' { M with frames := fs ++ [{ f with place := f.place + 1 }] } := by
  obtain ⟨W1, hW1⟩ : ∃ W1, W1 = w.alloc inZ := ⟨_, rfl⟩
  obtain ⟨rb, hrb⟩ : ∃ rb, rb = w.heap.size := ⟨_, rfl⟩
  have b1 : Below w.heap.size w W1 := by rw [hW1]; exact (Below.refl _ _).alloc (Nat.le_refl _) _
  have r1 : W1.heap[rb]? = some inZ := by rw [hW1, hrb]; exact alloc_at w _
  have h1 : VmS m W1 V M := h.later b1
  obtain ⟨g, cap, hv, hcap, hmg, hgl0, -⟩ := h.top hf
  have OLD : Hid (¬ V.sv.ownBlock = some rb ∧ ¬ V.ev.ownBlock = some rb ∧ ¬ V.fv.ownBlock = some rb ∧ ¬ V.cv.ownBlock = some rb) := h.old (by omega)
  have ngr : ¬ g = rb := by omega
  have GS : Hid (M.g.w.heap.size ≤ rb) := by rw [hrb]; exact h.rows.gk.sz
  have c10 := h1.cell.2.2.2.2.2.2.1
  rw [hv] at c10
  have ET : Hid _ := vmTop m g fs.length cap W1 c10 hb
  have HH : Hid (VmS m W1 V M) := h1
  have HF : Hid (M.frames = fs ++ [f]) := hf
  have HC : Hid (M.codes[f.proc]? = some c) := hc
  have HI : Hid (c.ins[f.place]? = some i) := hi
  have HV : Hid (V.fv = .slice (some ⟨g, 0, none⟩) (fs.length + 1) cap) := hv
  have B1 : Hid (Below w.heap.size w W1) := b1
  have HR : Hid (W1.heap[rb]? = some inZ) := r1
  have HML : Hid (m < w.heap.size ∧ rb = w.heap.size) := ⟨h.lt, hrb⟩
  have hpl : f.proc < M.codes.length := (List.getElem?_eq_some_iff.1 hc).1
  have hql : f.place < c.ins.length := (List.getElem?_eq_some_iff.1 hi).1
  obtain ⟨n, hn⟩ : ∃ n, n = fs.length := ⟨_, rfl⟩
  have HN : Hid (n = fs.length) := hn
  rw [← hn] at ET hb
  clear h h1 hf hc hi hv b1 r1 c10 hgl0 hn
  go_enter Tryd.func24, Tryd.ntmps24
  go_upto_region 1 with fail
  rw [← hW1, ← hrb]
  clear hW1 hrb
  go_wp2_with fail
  refine Calls.mono ET.out ?_
  rintro e2 w2 ⟨rfl, q2, hq2⟩
  have y2 : Below W1.heap.size W1 w2 := by rw [hq2]; exact below_drewN (Below.refl _ _) q2
  have H2 : Hid (VmS m w2 V M) := HH.out.later y2
  have R2 : Hid (w2.heap[rb]? = some inZ) := (y2.block rb (Array.getElem?_eq_some_iff.1 HR.out).1).trans HR.out
  have B2 : Hid (Below w.heap.size w w2) := B1.out.trans (y2.mono B1.out.size)
  clear hq2 y2 HR B1 ET
  obtain ⟨g', cap', hv', _, hmg', hgl, p0, p1, p2, p3, pf⟩ := H2.out.top HF.out
  rw [HV.out] at hv'
  cases hv'
  obtain ⟨gc, oc, gi, oi, ic, hca, hgc, hgi, cc, ci⟩ := H2.out.ins HC.out HI.out
  have c0 := H2.out.cell.1
  rw [hca] at c0
  have i0 := ci.c0
  have i1 := ci.c1
  have i2 := ci.c2
  rw [← HN.out] at p0 p1
  have pf1 := pf (n * 4 + 1)
  have hml := H2.out.lt
  have gcl : gc < w2.heap.size := by omega
  have gil : gi < w2.heap.size := by omega
  have ngz : ¬ g = w2.heap.size := by omega
  have nmz : ¬ m = w2.heap.size := by omega
  have ncz : ¬ gc = w2.heap.size := by omega
  have niz : ¬ gi = w2.heap.size := by omega
  have hpi : (f.proc : Int) < (M.codes.length : Int) := by omega
  have hp0 : (0 : Int) ≤ (f.proc : Int) := by omega
  have hqi : (f.place : Int) < (c.ins.length : Int) := by omega
  have hq0 : (0 : Int) ≤ (f.place : Int) := by omega
  obtain ⟨t0, t1, t2, b4⟩ := in_box w2 i w2.heap.size (w2.alloc (inB i)) rfl rfl
  have T : Hid ((w2.alloc (inB i)).cell? ⟨w2.heap.size, 0, none⟩ = some (.int .i64 i.op) ∧ (w2.alloc (inB i)).cell? ⟨w2.heap.size, 1, none⟩ = some (.int .i64 i.n) ∧ (w2.alloc (inB i)).cell? ⟨w2.heap.size, 2, none⟩ = some (.int .i64 i.m)) := ⟨t0, t1, t2⟩
  have B4 : Hid (Below w2.heap.size w2 (w2.alloc (inB i))) := b4
  have Z4 : Hid (w2.heap.size < (w2.alloc (inB i)).heap.size) := (by simp : w2.heap.size < (w2.alloc (inB i)).heap.size)
  clear t0 t1 t2 b4 ci pf p2 p3 hca
  generalize M.codes.length = NC at *
  generalize c.ins.length = NI at *
  go_upto_region 2 with fail
  go_cut [3, 4] from 7 to 25 (fun s3 s4 wx => s3 = .pointer (some ⟨g, n * 4, none⟩) ∧ ∃ ib, s4 = .pointer (some ⟨ib, 0, none⟩) ∧ Hid (wx.cell? ⟨ib, 0, none⟩ = some (.int .i64 i.op) ∧ wx.cell? ⟨ib, 1, none⟩ = some (.int .i64 i.n) ∧ wx.cell? ⟨ib, 2, none⟩ = some (.int .i64 i.m)) ∧ Hid (w2.heap.size ≤ ib ∧ ib < wx.heap.size) ∧ Hid (Below w2.heap.size w2 wx))
  case first =>
    go_region
    all_goals
      go_wp2_with fail
      go_meet
      exact ⟨rfl, _, rfl, T.out, ⟨Nat.le_refl _, Z4.out⟩, B4.out.trans ⟨rfl, rfl, rfl, Nat.le_refl _, fun _ _ => rfl⟩⟩
  case rest =>
    obtain ⟨rfl, ib, rfl, TT, ZZ, BB⟩ := hcut
    have H3 := H2.out.later BB.out
    obtain ⟨g', cap', hv', _, _, hgl3, -, p1', -, -, pf'⟩ := H3.top HF.out
    rw [HV.out] at hv'
    cases hv'
    rw [← HN.out] at p1'
    have pf3 := pf' (n * 4 + 1)
    have e1 : ((f.place + 1 : Nat) : Int) = (f.place : Int) + 1 := by omega
    have Q3 := H3.setP HF.out HV.out hmg (f.place + 1)
    rw [← HN.out, e1] at Q3
    obtain ⟨W9, hW9⟩ : ∃ W9, W9 = wc.setCell ⟨g, n * 4 + 1, none⟩ (.int .i64 ((f.place : Int) + 1)) := ⟨_, rfl⟩
    rw [← hW9] at Q3
    have hm1 := HML.out
    have B9 : Below m w W9 := ((B2.out.trans (BB.out.mono B2.out.size)).mono (by omega)).trans Q3.1
    have r3 : wc.heap[rb]? = some inZ := (BB.out.block rb (Array.getElem?_eq_some_iff.1 R2.out).1).trans R2.out
    have r9 : W9.heap[rb]? = some inZ := by rw [hW9, heap_setCell_other _ _ rb _ (by simp; omega)]; exact r3
    have hib : ¬ g = ib := by have := ZZ.out; omega
    have k9 : W9.heap[ib]? = wc.heap[ib]? := by rw [hW9]; exact heap_setCell_other _ _ ib _ (by simp; omega)
    have t0 := (World.cell?_of_block (w := wc) (a := ⟨ib, 0, none⟩) k9).trans TT.out.1
    have t1 := (World.cell?_of_block (w := wc) (a := ⟨ib, 1, none⟩) k9).trans TT.out.2.1
    have t2 := (World.cell?_of_block (w := wc) (a := ⟨ib, 2, none⟩) k9).trans TT.out.2.2
    have nbr : ¬ ib = rb := fun e => by have := ZZ.out; have := (Array.getElem?_eq_some_iff.1 R2.out).1; omega
    have u0 : W9.cell? ⟨rb, 0, none⟩ = some (.int .i64 0) := by simp [World.cell?, r9]
    have u1 : W9.cell? ⟨rb, 1, none⟩ = some (.int .i64 0) := by simp [World.cell?, r9]
    have u2 : W9.cell? ⟨rb, 2, none⟩ = some (.int .i64 0) := by simp [World.cell?, r9]
    have v0 : W9.frozen? ⟨rb, 0, none⟩ = false := by simp [World.frozen?, r9]
    have v1 : W9.frozen? ⟨rb, 1, none⟩ = false := by simp [World.frozen?, r9]
    have v2 : W9.frozen? ⟨rb, 2, none⟩ = false := by simp [World.frozen?, r9]
    have F1 := Q3.2.far (k := 0) (r := rb) (by omega) GS.out OLD.out.1 OLD.out.2.1 OLD.out.2.2.1 OLD.out.2.2.2 (.int .i64 i.op)
    have F2 := F1.2.far (k := 1) (r := rb) (by omega) GS.out OLD.out.1 OLD.out.2.1 OLD.out.2.2.1 OLD.out.2.2.2 (.int .i64 i.n)
    have F3 := F2.2.far (k := 2) (r := rb) (by omega) GS.out OLD.out.1 OLD.out.2.1 OLD.out.2.2.1 OLD.out.2.2.2 (.int .i64 i.m)
    have FIN : Hid (VmQ m w (((W9.setCell ⟨rb, 0, none⟩ (.int .i64 i.op)).setCell ⟨rb, 1, none⟩ (.int .i64 i.n)).setCell ⟨rb, 2, none⟩ (.int .i64 i.m)) { M with frames := fs ++ [{ f with place := f.place + 1 }] }) := ⟨((B9.trans F1.1).trans F2.1).trans F3.1, V, F3.2⟩
    clear F1 F2 F3 Q3 B9 H3 TT BB r3 H2 R2 B2 T B4 Z4 c0 cc i0 i1 i2 p0 p1 hm1
    go_upto_region 4 with fail
    rw [← hW9]
    clear hW9 k9 p1' pf3 pf' hgl3 hgl pf1
    go_wp2_with fail
    refine bodyPost_ret (v := inV i) (by simp [results, Tryd.results24, go_sem, u0, u1, u2]) rfl ?_
    exact ⟨rfl, FIN.out⟩
end Go.Proofs.YtkjkiknpgggadaaDoor

namespace Go.Proofs.YtkjkiknpgggadaaDoor
open Go.RowKit
set_option linter.unusedVariables false
set_option linter.unusedSimpArgs false

structure RwL (G : Gh) (w : World) (base : Nat) (L : List Rw) : Prop where
  own : ∀ x ∈ L, x.Own w base
  apt : L.Pairwise (fun a b => Apt a.v b.v)
  gk : Gk G base w
  gn : ∀ x ∈ L, Gn G x.v
theorem RwL.later {G : Gh} {w w' : World} {base : Nat} {L : List Rw} (h : RwL G w base L) (y : Below w.heap.size w w') : RwL G w' base L :=
  ⟨fun x hx => own_lat (h.own x hx) y, h.apt, h.gk.later y, h.gn⟩
theorem RwL.sub {G : Gh} {w : World} {base : Nat} {L L' : List Rw} (h : RwL G w base L) (s : L'.Sublist L) : RwL G w base L' :=
  ⟨fun x hx => h.own x (s.subset hx), h.apt.sublist s, h.gk, fun x hx => h.gn x (s.subset hx)⟩
theorem RwL.below {G : Gh} {w : World} {m k : Nat} {L : List Rw} (h : RwL G w (m + 1) L) (u : Value) : RwL G (w.setCell ⟨m, k, none⟩ u) (m + 1) L :=
  ⟨fun x hx => ownsRow_setCell_below (h.own x hx) (by simp) _, h.apt, ⟨by simpa using h.gk.sz, fun j hj n nb => (heap_setCell_other _ _ j _ (by simp; omega)).trans (h.gk.eq j hj n nb)⟩, h.gn⟩
theorem apt_mid {A C : List Rw} {x : Rw} (h : (A ++ x :: C).Pairwise (fun a b => Apt a.v b.v)) : (∀ y ∈ A, Apt x.v y.v) ∧ (∀ y ∈ C, Apt x.v y.v) := by
  rw [List.pairwise_append] at h
  obtain ⟨_, h2, h3⟩ := h
  rw [List.pairwise_cons] at h2
  exact ⟨fun y hy => (h3 y hy x (List.mem_cons_self ..)).symm, h2.1⟩
theorem apt_set {A C : List Rw} {x x' : Rw} (h : (A ++ x :: C).Pairwise (fun a b => Apt a.v b.v)) (hA : ∀ y ∈ A, Apt x'.v y.v) (hC : ∀ y ∈ C, Apt x'.v y.v) : (A ++ x' :: C).Pairwise (fun a b => Apt a.v b.v) := by
  rw [List.pairwise_append, List.pairwise_cons] at h ⊢
  obtain ⟨h1, h2, h3⟩ := h
  refine ⟨h1, ⟨hC, h2.2⟩, fun y hy z hz => ?_⟩
  rcases List.mem_cons.1 hz with rfl | hz
  · exact (hA y hy).symm
  · exact h3 y hy z (List.mem_cons_of_mem _ hz)
theorem mem_mid {A C : List Rw} {x y : Rw} (h : y ∈ A ++ x :: C) : y = x ∨ y ∈ A ∨ y ∈ C := by
  rcases List.mem_append.1 h with h | h
  · exact .inr (.inl h)
  · rcases List.mem_cons.1 h with h | h
    · exact .inl h
    · exact .inr (.inr h)
theorem RwL.grow {G : Gh} {w X w8 : World} {base : Nat} {A C : List Rw} {x : Rw} (h : RwL G w base (A ++ x :: C)) (y : Below w.heap.size w X) {v' : Value} {n' : Nat} {xs' : List Value} (h8 : w8.ownsRow base x.e x.sz v' n' xs') (g8 : X.grownBy w8 x.v.ownBlock) (o8 : v'.ownBlock = x.v.ownBlock ∨ ∃ g, v'.ownBlock = some g ∧ X.heap.size ≤ g) : RwL G w8 base (A ++ ⟨x.e, x.sz, v', n', xs'⟩ :: C) := by
  have h1 := h.later y
  have hx : x ∈ A ++ x :: C := by simp
  obtain ⟨aA, aC⟩ := apt_mid h1.apt
  have kp : ∀ z, z ∈ A ++ x :: C → Apt x.v z.v → z.Own w8 base := fun z hz hA => Rw.kept (h1.own z hz) g8 (fun k e e2 => hA k e2 e)
  have apt : ∀ z, z ∈ A ++ x :: C → Apt x.v z.v → Apt v' z.v := fun z hz hA g e e2 => by
    rcases o8 with o | ⟨k, o, hk⟩
    · exact hA g (o.symm.trans e) e2
    · rw [o] at e
      cases e
      have := (World.ownsRow.lt (h1.own z hz) _ e2).2
      omega
  have iA : ∀ z, z ∈ A → z ∈ A ++ x :: C := fun z hz => List.mem_append.2 (.inl hz)
  have iC : ∀ z, z ∈ C → z ∈ A ++ x :: C := fun z hz => List.mem_append.2 (.inr (List.mem_cons_of_mem _ hz))
  refine ⟨fun z hz => ?_, apt_set h1.apt (fun z hz => apt z (iA z hz) (aA z hz)) (fun z hz => apt z (iC z hz) (aC z hz)), ⟨Nat.le_trans h1.gk.sz g8.size, fun k hk n nb => (g8.block k (Nat.lt_of_lt_of_le hk h1.gk.sz) (fun e => ?_)).trans (h1.gk.eq k hk n nb)⟩, fun z hz => ?_⟩
  · rcases mem_mid hz with rfl | hz | hz
    · exact h8
    · exact kp z (iA z hz) (aA z hz)
    · exact kp z (iC z hz) (aC z hz)
  · rcases h1.gn x hx k e.symm with e2 | e2
    · exact nb e2
    · omega
  · rcases mem_mid hz with rfl | hz | hz
    · intro k e
      rcases o8 with o | ⟨k', o, hk'⟩
      · exact h1.gn x hx k (o.symm.trans e)
      · dsimp only at e
        rw [o] at e
        cases e
        exact .inr (Nat.le_trans h1.gk.sz hk')
    · exact h1.gn z (iA z hz)
    · exact h1.gn z (iC z hz)
theorem RwL.cut {G : Gh} {w : World} {base : Nat} {A C : List Rw} {x : Rw} (h : RwL G w base (A ++ x :: C)) {v' : Value} {n' : Nat} {xs' : List Value} (h8 : w.ownsRow base x.e x.sz v' n' xs') (o8 : ∀ g, v'.ownBlock = some g → x.v.ownBlock = some g) : RwL G w base (A ++ ⟨x.e, x.sz, v', n', xs'⟩ :: C) := by
  obtain ⟨aA, aC⟩ := apt_mid h.apt
  refine ⟨fun z hz => ?_, apt_set h.apt (fun z hz g e => aA z hz g (o8 g e)) (fun z hz g e => aC z hz g (o8 g e)), h.gk, fun z hz => ?_⟩
  · rcases mem_mid hz with rfl | hz | hz
    · exact h8
    · exact h.own z (List.mem_append.2 (.inl hz))
    · exact h.own z (List.mem_append.2 (.inr (List.mem_cons_of_mem _ hz)))
  · rcases mem_mid hz with rfl | hz | hz
    · exact fun k e => h.gn x (by simp) k (o8 k e)
    · exact h.gn z (List.mem_append.2 (.inl hz))
    · exact h.gn z (List.mem_append.2 (.inr (List.mem_cons_of_mem _ hz)))
theorem RwL.put {G : Gh} {w : World} {base : Nat} {A C : List Rw} {x : Rw} {g cap i : Nat} (h : RwL G w base (A ++ x :: C)) (hv : x.v = .slice (some ⟨g, 0, none⟩) x.n cap) (hi : i < x.n * x.sz) (u : Value) : RwL G (w.setCell ⟨g, i, none⟩ u) base (A ++ ⟨x.e, x.sz, x.v, x.n, x.xs.set i u⟩ :: C) := by
  have hg : x.v.ownBlock = some g := by rw [hv]; rfl
  have hx : x ∈ A ++ x :: C := by simp
  obtain ⟨aA, aC⟩ := apt_mid h.apt
  have oth : ∀ z : Rw, z.Own w base → Apt x.v z.v → z.Own (w.setCell ⟨g, i, none⟩ u) base := fun z hz hA => ownsRow_setCell_other hz (fun e => hA g hg e) _
  refine ⟨fun z hz => ?_, apt_set h.apt aA aC, ⟨by simpa using h.gk.sz, fun j hj n nb => (heap_setCell_other _ _ j _ (fun e => ?_)).trans (h.gk.eq j hj n nb)⟩, fun z hz => ?_⟩
  · rcases mem_mid hz with rfl | hz | hz
    · have := h.own x hx
      unfold Rw.Own at this ⊢
      dsimp only
      rw [hv] at this ⊢
      exact own_setc this hi u
    · exact oth z (h.own z (List.mem_append.2 (.inl hz))) (aA z hz)
    · exact oth z (h.own z (List.mem_append.2 (.inr (List.mem_cons_of_mem _ hz)))) (aC z hz)
  · simp at e
    subst e
    rcases h.gn x hx _ hg with e2 | e2
    · exact nb e2
    · omega
  · rcases mem_mid hz with rfl | hz | hz
    · exact h.gn x hx
    · exact h.gn z (List.mem_append.2 (.inl hz))
    · exact h.gn z (List.mem_append.2 (.inr (List.mem_cons_of_mem _ hz)))
theorem RwL.add {G : Gh} {w w' : World} {base : Nat} {L : List Rw} (h : RwL G w base L) (y : Below w.heap.size w w') {x : Rw} (hx : x.Own w' base) (hn : ∀ g, x.v.ownBlock = some g → w.heap.size ≤ g) : RwL G w' base (L ++ [x]) := by
  have h1 := h.later y
  refine ⟨fun z hz => ?_, ?_, h1.gk, fun z hz => ?_⟩
  · rcases List.mem_append.1 hz with hz | hz
    · exact h1.own z hz
    · rw [List.mem_singleton.1 hz]
      exact hx
  · rw [List.pairwise_append]
    refine ⟨h1.apt, List.pairwise_singleton _ _, fun a ha b hb g e1 e2 => ?_⟩
    rw [List.mem_singleton.1 hb] at e2
    have q1 := hn g e2
    have q2 := (World.ownsRow.lt (h.own a ha) g e1).2
    omega
  · rcases List.mem_append.1 hz with hz | hz
    · exact h1.gn z hz
    · rw [List.mem_singleton.1 hz]
      exact fun k e => .inr (Nat.le_trans h.gk.sz (hn k e))
def LOwn (L : List Rw) (k : Nat) : Prop := ∃ x ∈ L, x.v.ownBlock = some k
theorem RwL.regh {G : Gh} {w : World} {base : Nat} {L : List Rw} (h : RwL G w base L) (lo : Nat) : RwL ⟨w, LOwn L, lo⟩ w base L :=
  ⟨h.own, h.apt, ⟨Nat.le_refl _, fun _ _ _ _ => rfl⟩, fun x hx k e => .inl ⟨x, hx, e⟩⟩
theorem RwL.keep {G : Gh} {w w' : World} {base lo : Nat} {L : List Rw} (h : RwL G w base L) (k : ∀ b, LOwn L b → w'.heap[b]? = w.heap[b]?) : RwL ⟨w', LOwn L, lo⟩ w' base L := by
  refine ⟨fun x hx => ?_, h.apt, ⟨Nat.le_refl _, fun _ _ _ _ => rfl⟩, fun x hx k e => .inl ⟨x, hx, e⟩⟩
  have o := h.own x hx
  refine ⟨o.1, ?_⟩
  rcases o.2 with h0 | ⟨g, cap, cur, e, hb, hh, h1⟩
  · exact .inl h0
  · exact .inr ⟨g, cap, cur, e, hb, (k g ⟨x, hx, by rw [e]; rfl⟩).trans hh, h1⟩
end Go.Proofs.YtkjkiknpgggadaaDoor

namespace Go.Proofs.YtkjkiknpgggadaaDoor
open Go.RowKit
set_option linter.unusedVariables false
set_option linter.unusedSimpArgs false

theorem VmQ.later {m : Nat} {w w1 w2 : World} {M : Vm.Mc} (h : VmQ m w w1 M) (b : Below w1.heap.size w1 w2) : VmQ m w w2 M := by
  obtain ⟨h1, V, h2⟩ := h
  exact ⟨h1.trans (b.mono (Nat.le_of_lt h2.lt)), V, h2.later b⟩
theorem VmS.setFu {m : Nat} {w : World} {V : VmV} {M : Vm.Mc} (h : VmS m w V M) (r : Int) : VmS m (w.setCell ⟨m, 3, none⟩ (.int .i64 r)) V { M with fuel := r } := ⟨heap_setCell_same _ _ _ _ _ _ h.box, h.rows.below _, h.co.later below_set, h.inp.later below_set⟩
theorem VmS.setTi {m : Nat} {w : World} {V : VmV} {M : Vm.Mc} (h : VmS m w V M) (r : Int) : VmS m (w.setCell ⟨m, 4, none⟩ (.int .i64 r)) V { M with ticks := r } := ⟨heap_setCell_same _ _ _ _ _ _ h.box, h.rows.below _, h.co.later below_set, h.inp.later below_set⟩
theorem VmS.setRd {m : Nat} {w : World} {V : VmV} {M : Vm.Mc} (h : VmS m w V M) (r : Nat) : VmS m (w.setCell ⟨m, 2, none⟩ (.int .i64 r)) V { M with read := r } := ⟨heap_setCell_same _ _ _ _ _ _ h.box, h.rows.below _, h.co.later below_set, h.inp.later below_set⟩
theorem VmS.setT4 {m : Nat} {w : World} {V : VmV} {M : Vm.Mc} (h : VmS m w V M) (a b c d : Int) : VmS m ((((w.setCell ⟨m, 5, none⟩ (.int .i64 a)).setCell ⟨m, 6, none⟩ (.int .i64 b)).setCell ⟨m, 7, none⟩ (.int .i64 c)).setCell ⟨m, 8, none⟩ (.int .i64 d)) V { M with t0 := a, t1 := b, t2 := c, t3 := d } := by
  have h1 : VmS m (w.setCell ⟨m, 5, none⟩ (.int .i64 a)) V { M with t0 := a } := ⟨heap_setCell_same _ _ _ _ _ _ h.box, h.rows.below _, h.co.later below_set, h.inp.later below_set⟩
  have h2 : VmS m ((w.setCell ⟨m, 5, none⟩ (.int .i64 a)).setCell ⟨m, 6, none⟩ (.int .i64 b)) V { M with t0 := a, t1 := b } := ⟨heap_setCell_same _ _ _ _ _ _ h1.box, h1.rows.below _, h1.co.later below_set, h1.inp.later below_set⟩
  have h3 : VmS m (((w.setCell ⟨m, 5, none⟩ (.int .i64 a)).setCell ⟨m, 6, none⟩ (.int .i64 b)).setCell ⟨m, 7, none⟩ (.int .i64 c)) V { M with t0 := a, t1 := b, t2 := c } := ⟨heap_setCell_same _ _ _ _ _ _ h2.box, h2.rows.below _, h2.co.later below_set, h2.inp.later below_set⟩
  exact ⟨heap_setCell_same _ _ _ _ _ _ h3.box, h3.rows.below _, h3.co.later below_set, h3.inp.later below_set⟩
theorem VmS.cell2 {m : Nat} {w : World} {V : VmV} {M : Vm.Mc} (h : VmS m w V M) : w.cell? ⟨m, 5, none⟩ = some (.int .i64 M.t0) ∧ w.cell? ⟨m, 6, none⟩ = some (.int .i64 M.t1) ∧ w.cell? ⟨m, 7, none⟩ = some (.int .i64 M.t2) ∧ w.cell? ⟨m, 8, none⟩ = some (.int .i64 M.t3) := by
  have := h.box
  refine ⟨?_, ?_, ?_, ?_⟩ <;> simp [World.cell?, this]
def Vm.mk (M : Vm.Mc) (fs : List Vm.Fr) (f : Vm.Fr) (i : Cd.In) : Vm.Mc := { M with fuel := M.fuel - 1, ticks := M.ticks + 1, frames := fs ++ [{ f with mark := i.n }], t0 := i.m, t1 := f.proc, t2 := i.n, t3 := fs.length + 1 }
set_option maxRecDepth 100000 in
set_option maxHeartbeats 8000000 in
theorem vmMark (m : Nat) (w : World) (V : VmV) (M : Vm.Mc) (fs : List Vm.Fr) (f : Vm.Fr) (i : Cd.In) (h : VmS m w V M) (hf : M.frames = fs ++ [f]) (hb : fs.length ≤ 1000000) (hfu : 1 ≤ M.fuel ∧ M.fuel ≤ 10000000) (hti : 0 ≤ M.ticks ∧ M.ticks ≤ 10000000) :
    Calls Tryd.prog 25 #[.pointer (some ⟨m, 0, none⟩), inV i] w fun e w' => e = .returned (.tuple #[]) ∧ VmQ m w w' (Vm.mk M fs f i) := by
  obtain ⟨W1, hW1⟩ : ∃ W1, W1 = w.alloc (inB i) := ⟨_, rfl⟩
  obtain ⟨ib, hib⟩ : ∃ ib, ib = w.heap.size := ⟨_, rfl⟩
  obtain ⟨b0, b1, b2, bw⟩ := in_box w i ib W1 hib hW1
  have hib1 : ib < W1.heap.size := by rw [hib, hW1]; simp
  have h1 : VmS m W1 V M := h.later bw
  have hmw := h.lt
  obtain ⟨g, cap, hv, hcap, hmg, hgl0, -⟩ := h.top hf
  have c3 := h1.cell.2.2.2.1
  have f3 := h1.frozen 3
  have h2 := h1.setFu (M.fuel - 1)
  have c4 := h2.cell.2.2.2.2.1
  have f4 := h2.frozen 4
  have h3 := h2.setTi (M.ticks + 1)
  obtain ⟨W3, hW3⟩ : ∃ W3, W3 = (W1.setCell ⟨m, 3, none⟩ (.int .i64 (M.fuel - 1))).setCell ⟨m, 4, none⟩ (.int .i64 (M.ticks + 1)) := ⟨_, rfl⟩
  rw [← hW3] at h3
  have B3 : Hid (Below m w W3) := by
    rw [hW3]
    exact ((bw.mono (Nat.le_of_lt hmw)).trans below_set).trans below_set
  have i1 : W3.cell? ⟨ib, 1, none⟩ = some (.int .i64 i.n) := by
    have k : W3.heap[ib]? = W1.heap[ib]? := by rw [hW3, heap_setCell_other _ _ ib _ (by simp; omega), heap_setCell_other _ _ ib _ (by simp; omega)]
    exact (World.cell?_of_block (w := W1) (a := ⟨ib, 1, none⟩) k).trans b1
  have i2 : W3.cell? ⟨ib, 2, none⟩ = some (.int .i64 i.m) := by
    have k : W3.heap[ib]? = W1.heap[ib]? := by rw [hW3, heap_setCell_other _ _ ib _ (by simp; omega), heap_setCell_other _ _ ib _ (by simp; omega)]
    exact (World.cell?_of_block (w := W1) (a := ⟨ib, 2, none⟩) k).trans b2
  have il3 : ib < W3.heap.size := by rw [hW3]; simpa using hib1
  have c10 := h3.cell.2.2.2.2.2.2.1
  try dsimp only at c10
  rw [hv] at c10
  have ET : Hid _ := vmTop m g fs.length cap W3 c10 hb
  have HH : Hid _ := h3
  have HF : Hid (M.frames = fs ++ [f]) := hf
  have HV : Hid (V.fv = .slice (some ⟨g, 0, none⟩) (fs.length + 1) cap) := hv
  obtain ⟨n, hn⟩ : ∃ n, n = fs.length := ⟨_, rfl⟩
  have HN : Hid (n = fs.length) := hn
  rw [← hn] at ET hb
  have ngi : ¬ g = ib := by omega
  have nmi : ¬ m = ib := by omega
  have nim : ¬ ib = m := by omega
  have nig : ¬ ib = g := by omega
  have ngm : ¬ g = m := by omega
  have nmg : ¬ m = g := by omega
  clear h h1 h2 h3 hf hv hn bw c10 hgl0
  go_enter Tryd.func25, Tryd.ntmps25
  go_upto_region 1 with fail
  rw [← hW1, ← hib]
  clear hW1 hib
  go_upto_region 3 with fail
  rw [← hW3]
  clear hW3 c3 f3 c4 f4 b0 b1 b2 hib1
  go_wp2_with fail
  refine Calls.mono ET.out ?_
  rintro e2 w2 ⟨rfl, q2, hq2⟩
  have y2 : Below W3.heap.size W3 w2 := by rw [hq2]; exact below_drewN (Below.refl _ _) q2
  have H2 := HH.out.later y2
  have B2 : Hid (Below m w w2) := B3.out.trans (y2.mono (Nat.le_of_lt HH.out.lt))
  have j1 := (y2.cell (p := ⟨ib, 1, none⟩) il3).trans i1
  have j2 := (y2.cell (p := ⟨ib, 2, none⟩) il3).trans i2
  clear hq2 y2 ET i1 i2 B3 HH
  obtain ⟨g', cap', hv', _, _, hgl, p0, p1, p2, p3, pf⟩ := H2.top HF.out
  have hv2 : V.fv = .slice (some ⟨g', 0, none⟩) (fs.length + 1) cap' := hv'
  rw [HV.out] at hv2
  cases hv2
  rw [← HN.out] at p0 p2
  have pf2 := pf (n * 4 + 2)
  have Q4 := H2.setM HF.out HV.out hmg i.n
  rw [← HN.out] at Q4
  obtain ⟨W4, hW4⟩ : ∃ W4, W4 = w2.setCell ⟨g, n * 4 + 2, none⟩ (.int .i64 i.n) := ⟨_, rfl⟩
  rw [← hW4] at Q4
  obtain ⟨g', cap', hv', _, _, hgl4, p0', p1', p2', p3', pf'⟩ := Q4.2.top rfl
  have hv2 : V.fv = .slice (some ⟨g', 0, none⟩) (fs.length + 1) cap' := hv'
  rw [HV.out] at hv2
  cases hv2
  rw [← HN.out] at p0' p2'
  have c10 := Q4.2.cell.2.2.2.2.2.2.1
  try dsimp only at c10 p0' p2'
  rw [HV.out, ← HN.out] at c10
  obtain ⟨d5, d6, d7, d8⟩ := Q4.2.cell2
  have f5 := Q4.2.frozen 5
  have f6 := Q4.2.frozen 6
  have f7 := Q4.2.frozen 7
  have f8 := Q4.2.frozen 8
  have k4 : W4.heap[ib]? = w2.heap[ib]? := by rw [hW4]; exact heap_setCell_other _ _ ib _ (by simp; omega)
  have l2 := (World.cell?_of_block (w := w2) (a := ⟨ib, 2, none⟩) k4).trans j2
  have FIN : Hid (VmQ m w ((((W4.setCell ⟨m, 5, none⟩ (.int .i64 i.m)).setCell ⟨m, 6, none⟩ (.int .i64 (f.proc : Int))).setCell ⟨m, 7, none⟩ (.int .i64 i.n)).setCell ⟨m, 8, none⟩ (.int .i64 ((n : Int) + 1))) (Vm.mk M fs f i)) := by
    have hq := Q4.2.setT4 i.m (f.proc : Int) i.n ((n : Int) + 1)
    refine ⟨((((B2.out.trans Q4.1).trans below_set).trans below_set).trans below_set).trans below_set, V, ?_⟩
    unfold Vm.mk
    rw [← HN.out]
    exact hq
  clear Q4 H2 B2 pf pf' p1 p3 p1' p3'
  go_upto_region 5 with fail
  rw [← hW4]
  clear hW4 k4 p0 p2 pf2 j1 j2 hgl il3
  go_region
  all_goals
    go_wp2_with fail
    go_end0
    exact ⟨rfl, FIN.out.later ⟨rfl, rfl, rfl, Nat.le_refl _, fun _ _ => rfl⟩⟩
end Go.Proofs.YtkjkiknpgggadaaDoor

