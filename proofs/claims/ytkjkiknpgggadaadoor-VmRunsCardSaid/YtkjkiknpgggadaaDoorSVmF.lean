/- Layer 9: the machine's last frame: top, fetch, mark. -/
import Derived.Test.YtkjkiknpgggadaaDoorSVmM
import Derived.BigQuiet
import Derived.BigRegion
namespace Go.Proofs.YtkjkiknpgggadaaDoor
open Go.RowKit
set_option linter.unusedVariables false
set_option linter.unusedSimpArgs false

theorem own_setc {w : World} {base : Nat} {e : TypeId} {sz n g cap : Nat} {xs : List Value} (h : w.ownsRow base e sz (.slice (some ⟨g, 0, none⟩) n cap) n xs) {i : Nat} (hi : i < n * sz) (u : Value) : (w.setCell ⟨g, i, none⟩ u).ownsRow base e sz (.slice (some ⟨g, 0, none⟩) n cap) n (xs.set i u) := by
  refine ⟨by simpa using h.1, ?_⟩
  rcases h.2 with ⟨hv, _⟩ | ⟨g', cap', cur, hv, hb, hh, h1, h2, h3, h4⟩
  · cases hv
  · cases hv
    refine .inr ⟨g, cap, cur.setIfInBounds i u, rfl, hb, heap_setCell_same _ _ _ _ _ _ hh, h1, h2, by simpa using h3, ?_⟩
    rw [← h4]
    simp [List.take_set]
/-- A cell of the first row is set. -/
theorem VmR.put {G : Gh} {w : World} {base : Nat} {a b c d : Rw} {g cap i : Nat} (h : VmR G w base a b c d) (hv : a.v = .slice (some ⟨g, 0, none⟩) a.n cap) (hi : i < a.n * a.sz) (u : Value) : VmR G (w.setCell ⟨g, i, none⟩ u) base ⟨a.e, a.sz, a.v, a.n, a.xs.set i u⟩ b c d := by
  have hg : a.v.ownBlock = some g := by rw [hv]; rfl
  have oth : ∀ r : Rw, r.Own w base → Apt a.v r.v → r.Own (w.setCell ⟨g, i, none⟩ u) base := fun r hr hA => ownsRow_setCell_other hr (fun e => hA g hg e) _
  refine ⟨?_, oth b h.ob h.ab, oth c h.oc h.ac, oth d h.od h.ad, h.ab, h.ac, h.ad, h.bc, h.bd, h.cd, ⟨by simpa using h.gk.sz, fun j hj n nb => (heap_setCell_other _ _ j _ (fun e => ?_)).trans (h.gk.eq j hj n nb)⟩, h.ga, h.gb, h.gc, h.gd⟩
  case refine_2 =>
    simp at e
    subst e
    rcases h.ga _ hg with e2 | e2
    · exact nb e2
    · omega
  have := h.oa
  unfold Rw.Own at this ⊢
  dsimp only
  rw [hv] at this ⊢
  exact own_setc this hi u
namespace Vm
theorem frC_at (fs : List Fr) (f : Fr) : (frC (fs ++ [f]))[fs.length * 4]? = some (.int .i64 f.proc) ∧ (frC (fs ++ [f]))[fs.length * 4 + 1]? = some (.int .i64 f.place) ∧ (frC (fs ++ [f]))[fs.length * 4 + 2]? = some (.int .i64 f.mark) ∧ (frC (fs ++ [f]))[fs.length * 4 + 3]? = some (.int .i64 f.base) := by
  rw [frC_app]
  have e : ∀ k, (frC fs ++ frC [f])[fs.length * 4 + k]? = (frC [f])[k]? := fun k => by
    rw [List.getElem?_append_right (by rw [frC_len]; omega), frC_len]
    congr 1
    omega
  exact ⟨e 0, e 1, e 2, e 3⟩
theorem frC_place (fs : List Fr) (f : Fr) (p : Nat) : (frC (fs ++ [f])).set (fs.length * 4 + 1) (.int .i64 p) = frC (fs ++ [{ f with place := p }]) := by
  rw [frC_app, frC_app, List.set_append_right _ _ (by rw [frC_len]; omega), frC_len]
  have : fs.length * 4 + 1 - fs.length * 4 = 1 := by omega
  rw [this]
  rfl
theorem frC_mark (fs : List Fr) (f : Fr) (p : Int) : (frC (fs ++ [f])).set (fs.length * 4 + 2) (.int .i64 p) = frC (fs ++ [{ f with mark := p }]) := by
  rw [frC_app, frC_app, List.set_append_right _ _ (by rw [frC_len]; omega), frC_len]
  have : fs.length * 4 + 2 - fs.length * 4 = 2 := by omega
  rw [this]
  rfl
end Vm
/-- Where the last frame lies. -/
theorem VmS.top {m : Nat} {w : World} {V : VmV} {M : Vm.Mc} {fs : List Vm.Fr} {f : Vm.Fr} (h : VmS m w V M) (hf : M.frames = fs ++ [f]) : ∃ g cap, V.fv = .slice (some ⟨g, 0, none⟩) (fs.length + 1) cap ∧ fs.length + 1 ≤ cap ∧ m < g ∧ g < w.heap.size ∧ w.cell? ⟨g, fs.length * 4, none⟩ = some (.int .i64 f.proc) ∧ w.cell? ⟨g, fs.length * 4 + 1, none⟩ = some (.int .i64 f.place) ∧ w.cell? ⟨g, fs.length * 4 + 2, none⟩ = some (.int .i64 f.mark) ∧ w.cell? ⟨g, fs.length * 4 + 3, none⟩ = some (.int .i64 f.base) ∧ ∀ k, w.frozen? ⟨g, k, none⟩ = false := by
  have ho := h.rows.oc
  unfold Rw.Own at ho
  dsimp only at ho
  rw [hf, List.length_append, List.length_singleton] at ho
  have hl := World.ownsRow.lt ho
  have hc := @World.ownsRow.cells _ _ _ _ _ _ _ ho
  rcases ho.2 with ⟨_, e⟩ | ⟨g, cap, cur, e, hb, hh, hcap, _⟩
  · omega
  · have eo : V.fv.ownBlock = some g := by rw [e]; rfl
    have get := fun j u hu => @hc g eo j u hu
    have add : ∀ j : Nat, (⟨g, 0, none⟩ : Addr).add j = ⟨g, j, none⟩ := fun j => by unfold Addr.add; split <;> simp_all
    obtain ⟨a0, a1, a2, a3⟩ := Vm.frC_at fs f
    refine ⟨g, cap, e, hcap, by omega, (hl g eo).2, ?_, ?_, ?_, ?_, fun k => by simp [World.frozen?, hh]⟩
    · have := get _ _ a0; rwa [add] at this
    · have := get _ _ a1; rwa [add] at this
    · have := get _ _ a2; rwa [add] at this
    · have := get _ _ a3; rwa [add] at this
/-- The last frame's place, or mark, is set. -/
theorem VmS.setP {m : Nat} {w : World} {V : VmV} {M : Vm.Mc} {fs : List Vm.Fr} {f : Vm.Fr} {g cap : Nat} (h : VmS m w V M) (hf : M.frames = fs ++ [f]) (hv : V.fv = .slice (some ⟨g, 0, none⟩) (fs.length + 1) cap) (hg : m < g) (p : Nat) : Below m w (w.setCell ⟨g, fs.length * 4 + 1, none⟩ (.int .i64 p)) ∧ VmS m (w.setCell ⟨g, fs.length * 4 + 1, none⟩ (.int .i64 p)) V { M with frames := fs ++ [{ f with place := p }] } := by
  have hl : M.frames.length = fs.length + 1 := by rw [hf]; simp
  have b : Below m w (w.setCell ⟨g, fs.length * 4 + 1, none⟩ (.int .i64 p)) := ⟨rfl, rfl, rfl, by simp, fun j hj => heap_setCell_other _ _ j _ (by simp; omega)⟩
  have r := (h.rows.swap2.put (g := g) (cap := cap) (i := fs.length * 4 + 1) (by show V.fv = .slice _ M.frames.length _; rw [hv, hl]) (by show _ < M.frames.length * 4; rw [hl]; omega) (.int .i64 p)).swap2
  refine ⟨b, ⟨?_, ?_, h.co.later b, h.inp.later b⟩⟩
  · rw [heap_setCell_other _ _ m _ (by simp; omega), h.box]
  · have e : (Vm.frC M.frames).set (fs.length * 4 + 1) (.int .i64 p) = Vm.frC (fs ++ [{ f with place := p }]) := by rw [hf]; exact Vm.frC_place fs f p
    have e2 : M.frames.length = (fs ++ [{ f with place := p }]).length := by rw [hl]; simp
    dsimp only at r ⊢
    rw [e, e2] at r
    exact r
theorem VmS.setM {m : Nat} {w : World} {V : VmV} {M : Vm.Mc} {fs : List Vm.Fr} {f : Vm.Fr} {g cap : Nat} (h : VmS m w V M) (hf : M.frames = fs ++ [f]) (hv : V.fv = .slice (some ⟨g, 0, none⟩) (fs.length + 1) cap) (hg : m < g) (p : Int) : Below m w (w.setCell ⟨g, fs.length * 4 + 2, none⟩ (.int .i64 p)) ∧ VmS m (w.setCell ⟨g, fs.length * 4 + 2, none⟩ (.int .i64 p)) V { M with frames := fs ++ [{ f with mark := p }] } := by
  have hl : M.frames.length = fs.length + 1 := by rw [hf]; simp
  have b : Below m w (w.setCell ⟨g, fs.length * 4 + 2, none⟩ (.int .i64 p)) := ⟨rfl, rfl, rfl, by simp, fun j hj => heap_setCell_other _ _ j _ (by simp; omega)⟩
  have r := (h.rows.swap2.put (g := g) (cap := cap) (i := fs.length * 4 + 2) (by show V.fv = .slice _ M.frames.length _; rw [hv, hl]) (by show _ < M.frames.length * 4; rw [hl]; omega) (.int .i64 p)).swap2
  refine ⟨b, ⟨?_, ?_, h.co.later b, h.inp.later b⟩⟩
  · rw [heap_setCell_other _ _ m _ (by simp; omega), h.box]
  · have e : (Vm.frC M.frames).set (fs.length * 4 + 2) (.int .i64 p) = Vm.frC (fs ++ [{ f with mark := p }]) := by rw [hf]; exact Vm.frC_mark fs f p
    have e2 : M.frames.length = (fs ++ [{ f with mark := p }]).length := by rw [hl]; simp
    dsimp only at r ⊢
    rw [e, e2] at r
    exact r
/-- A cell of a block of nobody's is set. -/
theorem VmS.far {m r k : Nat} {w : World} {V : VmV} {M : Vm.Mc} (h : VmS m w V M) (hr : m < r) (hr2 : M.g.w.heap.size ≤ r) (n1 : ¬ V.sv.ownBlock = some r) (n2 : ¬ V.ev.ownBlock = some r) (n3 : ¬ V.fv.ownBlock = some r) (n4 : ¬ V.cv.ownBlock = some r) (u : Value) : Below m w (w.setCell ⟨r, k, none⟩ u) ∧ VmS m (w.setCell ⟨r, k, none⟩ u) V M := by
  have b : Below m w (w.setCell ⟨r, k, none⟩ u) := ⟨rfl, rfl, rfl, by simp, fun j hj => heap_setCell_other _ _ j _ (by simp; omega)⟩
  refine ⟨b, (heap_setCell_other _ _ m _ (by simp; omega)).trans h.box, ?_, h.co.later b, h.inp.later b⟩
  exact ⟨ownsRow_setCell_other h.rows.oa n1 _, ownsRow_setCell_other h.rows.ob n2 _, ownsRow_setCell_other h.rows.oc n3 _, ownsRow_setCell_other h.rows.od n4 _, h.rows.ab, h.rows.ac, h.rows.ad, h.rows.bc, h.rows.bd, h.rows.cd, ⟨by simpa using h.rows.gk.sz, fun j hj n nb => (heap_setCell_other _ _ j _ (by simp; omega)).trans (h.rows.gk.eq j hj n nb)⟩, h.rows.ga, h.rows.gb, h.rows.gc, h.rows.gd⟩
/-- The rows' blocks are old ones. -/
theorem VmS.old {m r : Nat} {w : World} {V : VmV} {M : Vm.Mc} (h : VmS m w V M) (hr : w.heap.size ≤ r) : ¬ V.sv.ownBlock = some r ∧ ¬ V.ev.ownBlock = some r ∧ ¬ V.fv.ownBlock = some r ∧ ¬ V.cv.ownBlock = some r :=
  ⟨fun e => by have := (World.ownsRow.lt h.rows.oa _ e).2; omega, fun e => by have := (World.ownsRow.lt h.rows.ob _ e).2; omega, fun e => by have := (World.ownsRow.lt h.rows.oc _ e).2; omega, fun e => by have := (World.ownsRow.lt h.rows.od _ e).2; omega⟩
set_option maxRecDepth 100000 in
set_option maxHeartbeats 4000000 in
theorem vmTop (m g n cap : Nat) (w : World) (c10 : w.cell? ⟨m, 10, none⟩ = some (.slice (some ⟨g, 0, none⟩) (n + 1) cap)) (hn : n ≤ 1000000) : Calls Tryd.prog 26 #[.pointer (some ⟨m, 0, none⟩)] w fun e w' => e = .returned (.pointer (some ⟨g, n * 4, none⟩)) ∧ ∃ q, w' = w.drewN q := by
  have e2 : ((n : Int) + 1 - 1) = n := by omega
  have h0 : (0 : Int) ≤ (n : Int) := by omega
  have h1 : (n : Int) < (n : Int) + 1 := by omega
  go_enter Tryd.func26, Tryd.ntmps26
  go_wp2_with fail
  go_quiet (fail)
  clear c10
  go_wp2_with fail
  go_ret
  exact ⟨rfl, nq, rfl⟩
/-- The instruction that comes, and the next place. -/
theorem VmS.ins {m : Nat} {w : World} {V : VmV} {M : Vm.Mc} {p q : Nat} {c : Cd.Co} {i : Cd.In} (h : VmS m w V M) (hc : M.codes[p]? = some c) (hi : c.ins[q]? = some i) : ∃ g o g2 o2 ic, V.ca = some ⟨g, o, none⟩ ∧ g < m ∧ g2 < m ∧ w.cell? ⟨g, o + p * 4, none⟩ = some (.slice (some ⟨g2, o2, none⟩) c.ins.length ic) ∧ InAt w g2 (o2 + q * 3) i := by
  obtain ⟨g, o, ia, ic, e, hg, ca⟩ := h.co.at hc
  obtain ⟨g2, o2, e2, hg2, ci⟩ := ca.hi.at hi
  subst e2
  exact ⟨g, o, g2, o2, ic, e, hg, hg2, ca.c0, ci⟩
abbrev inZ : Obj := .cells #[.int .i64 0, .int .i64 0, .int .i64 0] 47
set_option maxRecDepth 100000 in
set_option maxHeartbeats 8000000 in
theorem vmFetch (m : Nat) (w : World) (V : VmV) (M : Vm.Mc) (fs : List Vm.Fr) (f : Vm.Fr) (c : Cd.Co) (i : Cd.In) (h : VmS m w V M) (hf : M.frames = fs ++ [f]) (hc : M.codes[f.proc]? = some c) (hi : c.ins[f.place]? = some i) (hb : fs.length ≤ 1000000) (hp : f.place ≤ 1000000) :
    Calls Tryd.prog 24 #[.pointer (some ⟨m, 0, none⟩)] w fun e w' => e = .returned (inV i) ∧ VmQ m w w' { M with frames := fs ++ [{ f with place := f.place + 1 }] } := by
  obtain ⟨W1, hW1⟩ : ∃ W1, W1 = w.alloc inZ := ⟨_, rfl⟩
  obtain ⟨rb, hrb⟩ : ∃ rb, rb = w.heap.size := ⟨_, rfl⟩
  have b1 : Below w.heap.size w W1 := by rw [hW1]; exact (Below.refl _ _).alloc (Nat.le_refl _) _
  have r1 : W1.heap[rb]? = some inZ := by rw [hW1, hrb]; exact alloc_at w _
  have h1 : VmS m W1 V M := h.later b1
  obtain ⟨g, cap, hv, hcap, hmg, hgl0, -⟩ := h.top hf
  have OLD : Hid (¬ V.sv.ownBlock = some rb ∧ ¬ V.ev.ownBlock = some rb ∧ ¬ V.fv.ownBlock = some rb ∧ ¬ V.cv.ownBlock = some rb) := h.old (by omega)
  have ngr : ¬ g = rb := by omega
  have GS : Hid (M.g.w.heap.size ≤ rb) := by rw [hrb]; exact h.rows.gk.sz
  have c10 := h1.cell.2.2.2.2.2.2.1
  rw [hv] at c10
  have ET : Hid _ := vmTop m g fs.length cap W1 c10 hb
  have HH : Hid (VmS m W1 V M) := h1
  have HF : Hid (M.frames = fs ++ [f]) := hf
  have HC : Hid (M.codes[f.proc]? = some c) := hc
  have HI : Hid (c.ins[f.place]? = some i) := hi
  have HV : Hid (V.fv = .slice (some ⟨g, 0, none⟩) (fs.length + 1) cap) := hv
  have B1 : Hid (Below w.heap.size w W1) := b1
  have HR : Hid (W1.heap[rb]? = some inZ) := r1
  have HML : Hid (m < w.heap.size ∧ rb = w.heap.size) := ⟨h.lt, hrb⟩
  have hpl : f.proc < M.codes.length := (List.getElem?_eq_some_iff.1 hc).1
  have hql : f.place < c.ins.length := (List.getElem?_eq_some_iff.1 hi).1
  obtain ⟨n, hn⟩ : ∃ n, n = fs.length := ⟨_, rfl⟩
  have HN : Hid (n = fs.length) := hn
  rw [← hn] at ET hb
  clear h h1 hf hc hi hv b1 r1 c10 hgl0 hn
  go_enter Tryd.func24, Tryd.ntmps24
  go_upto_region 1 with fail
  rw [← hW1, ← hrb]
  clear hW1 hrb
  go_wp2_with fail
  refine Calls.mono ET.out ?_
  rintro e2 w2 ⟨rfl, q2, hq2⟩
  have y2 : Below W1.heap.size W1 w2 := by rw [hq2]; exact below_drewN (Below.refl _ _) q2
  have H2 : Hid (VmS m w2 V M) := HH.out.later y2
  have R2 : Hid (w2.heap[rb]? = some inZ) := (y2.block rb (Array.getElem?_eq_some_iff.1 HR.out).1).trans HR.out
  have B2 : Hid (Below w.heap.size w w2) := B1.out.trans (y2.mono B1.out.size)
  clear hq2 y2 HR B1 ET
  obtain ⟨g', cap', hv', _, hmg', hgl, p0, p1, p2, p3, pf⟩ := H2.out.top HF.out
  rw [HV.out] at hv'
  cases hv'
  obtain ⟨gc, oc, gi, oi, ic, hca, hgc, hgi, cc, ci⟩ := H2.out.ins HC.out HI.out
  have c0 := H2.out.cell.1
  rw [hca] at c0
  have i0 := ci.c0
  have i1 := ci.c1
  have i2 := ci.c2
  rw [← HN.out] at p0 p1
  have pf1 := pf (n * 4 + 1)
  have hml := H2.out.lt
  have gcl : gc < w2.heap.size := by omega
  have gil : gi < w2.heap.size := by omega
  have ngz : ¬ g = w2.heap.size := by omega
  have nmz : ¬ m = w2.heap.size := by omega
  have ncz : ¬ gc = w2.heap.size := by omega
  have niz : ¬ gi = w2.heap.size := by omega
  have hpi : (f.proc : Int) < (M.codes.length : Int) := by omega
  have hp0 : (0 : Int) ≤ (f.proc : Int) := by omega
  have hqi : (f.place : Int) < (c.ins.length : Int) := by omega
  have hq0 : (0 : Int) ≤ (f.place : Int) := by omega
  obtain ⟨t0, t1, t2, b4⟩ := in_box w2 i w2.heap.size (w2.alloc (inB i)) rfl rfl
  have T : Hid ((w2.alloc (inB i)).cell? ⟨w2.heap.size, 0, none⟩ = some (.int .i64 i.op) ∧ (w2.alloc (inB i)).cell? ⟨w2.heap.size, 1, none⟩ = some (.int .i64 i.n) ∧ (w2.alloc (inB i)).cell? ⟨w2.heap.size, 2, none⟩ = some (.int .i64 i.m)) := ⟨t0, t1, t2⟩
  have B4 : Hid (Below w2.heap.size w2 (w2.alloc (inB i))) := b4
  have Z4 : Hid (w2.heap.size < (w2.alloc (inB i)).heap.size) := (by simp : w2.heap.size < (w2.alloc (inB i)).heap.size)
  clear t0 t1 t2 b4 ci pf p2 p3 hca
  generalize M.codes.length = NC at *
  generalize c.ins.length = NI at *
  go_upto_region 2 with fail
  go_cut [3, 4] from 7 to 25 (fun s3 s4 wx => s3 = .pointer (some ⟨g, n * 4, none⟩) ∧ ∃ ib, s4 = .pointer (some ⟨ib, 0, none⟩) ∧ Hid (wx.cell? ⟨ib, 0, none⟩ = some (.int .i64 i.op) ∧ wx.cell? ⟨ib, 1, none⟩ = some (.int .i64 i.n) ∧ wx.cell? ⟨ib, 2, none⟩ = some (.int .i64 i.m)) ∧ Hid (w2.heap.size ≤ ib ∧ ib < wx.heap.size) ∧ Hid (Below w2.heap.size w2 wx))
  case first =>
    go_region
    all_goals
      go_wp2_with fail
      go_meet
      exact ⟨rfl, _, rfl, T.out, ⟨Nat.le_refl _, Z4.out⟩, B4.out.trans ⟨rfl, rfl, rfl, Nat.le_refl _, fun _ _ => rfl⟩⟩
  case rest =>
    obtain ⟨rfl, ib, rfl, TT, ZZ, BB⟩ := hcut
    have H3 := H2.out.later BB.out
    obtain ⟨g', cap', hv', _, _, hgl3, -, p1', -, -, pf'⟩ := H3.top HF.out
    rw [HV.out] at hv'
    cases hv'
    rw [← HN.out] at p1'
    have pf3 := pf' (n * 4 + 1)
    have e1 : ((f.place + 1 : Nat) : Int) = (f.place : Int) + 1 := by omega
    have Q3 := H3.setP HF.out HV.out hmg (f.place + 1)
    rw [← HN.out, e1] at Q3
    obtain ⟨W9, hW9⟩ : ∃ W9, W9 = wc.setCell ⟨g, n * 4 + 1, none⟩ (.int .i64 ((f.place : Int) + 1)) := ⟨_, rfl⟩
    rw [← hW9] at Q3
    have hm1 := HML.out
    have B9 : Below m w W9 := ((B2.out.trans (BB.out.mono B2.out.size)).mono (by omega)).trans Q3.1
    have r3 : wc.heap[rb]? = some inZ := (BB.out.block rb (Array.getElem?_eq_some_iff.1 R2.out).1).trans R2.out
    have r9 : W9.heap[rb]? = some inZ := by rw [hW9, heap_setCell_other _ _ rb _ (by simp; omega)]; exact r3
    have hib : ¬ g = ib := by have := ZZ.out; omega
    have k9 : W9.heap[ib]? = wc.heap[ib]? := by rw [hW9]; exact heap_setCell_other _ _ ib _ (by simp; omega)
    have t0 := (World.cell?_of_block (w := wc) (a := ⟨ib, 0, none⟩) k9).trans TT.out.1
    have t1 := (World.cell?_of_block (w := wc) (a := ⟨ib, 1, none⟩) k9).trans TT.out.2.1
    have t2 := (World.cell?_of_block (w := wc) (a := ⟨ib, 2, none⟩) k9).trans TT.out.2.2
    have nbr : ¬ ib = rb := fun e => by have := ZZ.out; have := (Array.getElem?_eq_some_iff.1 R2.out).1; omega
    have u0 : W9.cell? ⟨rb, 0, none⟩ = some (.int .i64 0) := by simp [World.cell?, r9]
    have u1 : W9.cell? ⟨rb, 1, none⟩ = some (.int .i64 0) := by simp [World.cell?, r9]
    have u2 : W9.cell? ⟨rb, 2, none⟩ = some (.int .i64 0) := by simp [World.cell?, r9]
    have v0 : W9.frozen? ⟨rb, 0, none⟩ = false := by simp [World.frozen?, r9]
    have v1 : W9.frozen? ⟨rb, 1, none⟩ = false := by simp [World.frozen?, r9]
    have v2 : W9.frozen? ⟨rb, 2, none⟩ = false := by simp [World.frozen?, r9]
    have F1 := Q3.2.far (k := 0) (r := rb) (by omega) GS.out OLD.out.1 OLD.out.2.1 OLD.out.2.2.1 OLD.out.2.2.2 (.int .i64 i.op)
    have F2 := F1.2.far (k := 1) (r := rb) (by omega) GS.out OLD.out.1 OLD.out.2.1 OLD.out.2.2.1 OLD.out.2.2.2 (.int .i64 i.n)
    have F3 := F2.2.far (k := 2) (r := rb) (by omega) GS.out OLD.out.1 OLD.out.2.1 OLD.out.2.2.1 OLD.out.2.2.2 (.int .i64 i.m)
    have FIN : Hid (VmQ m w (((W9.setCell ⟨rb, 0, none⟩ (.int .i64 i.op)).setCell ⟨rb, 1, none⟩ (.int .i64 i.n)).setCell ⟨rb, 2, none⟩ (.int .i64 i.m)) { M with frames := fs ++ [{ f with place := f.place + 1 }] }) := ⟨((B9.trans F1.1).trans F2.1).trans F3.1, V, F3.2⟩
    clear F1 F2 F3 Q3 B9 H3 TT BB r3 H2 R2 B2 T B4 Z4 c0 cc i0 i1 i2 p0 p1 hm1
    go_upto_region 4 with fail
    rw [← hW9]
    clear hW9 k9 p1' pf3 pf' hgl3 hgl pf1
    go_wp2_with fail
    refine bodyPost_ret (v := inV i) (by simp [results, Tryd.results24, go_sem, u0, u1, u2]) rfl ?_
    exact ⟨rfl, FIN.out⟩
end Go.Proofs.YtkjkiknpgggadaaDoor

