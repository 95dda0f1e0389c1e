/- Layer 9: enter: a frame is put down. -/
import Derived.Test.YtkjkiknpgggadaaDoorSVmX
import Derived.Lib.SlBuf
namespace Go.Proofs.YtkjkiknpgggadaaDoor
open Go.RowKit
set_option linter.unusedVariables false
set_option linter.unusedSimpArgs false

theorem infoFr : (Tryd.prog.info? 70).map (fun i => (i.zero, i.size, i.bytes)) = some (some (.agg #[.int .i64 0, .int .i64 0, .int .i64 0, .int .i64 0]), 4, 32) := by kernel_rfl
theorem size64 : (Tryd.prog.info? 2).map (·.size) = some 1 := by kernel_rfl
theorem lit_4 (w : World) (v v' u u' : Value) (t : TypeId) : ∀ (j : Nat) x, [v, v', u, u'][j]? = some x → (w.alloc (.cells #[v, v', u, u'] t)).cell? ((⟨w.heap.size, 0, none⟩ : Addr).add j) = some x := by
  intro j x hj
  match j, hj with
  | 0, hj => simp at hj; subst hj; simp [Addr.add]
  | 1, hj => simp at hj; subst hj; simp [Addr.add]
  | 2, hj => simp at hj; subst hj; simp [Addr.add]
  | 3, hj => simp at hj; subst hj; simp [Addr.add]
  | n + 4, hj => simp at hj
theorem VmS.addF {m : Nat} {W1 X w8 : World} {V : VmV} {M : Vm.Mc} {f : Vm.Fr} {v8 : Value} {fb : Nat} (h : VmS m W1 V M) (y : Below W1.heap.size W1 X) (h8 : w8.ownsRow (m + 1) 70 4 v8 (M.frames.length + 1) (Vm.frC M.frames ++ [.int .i64 f.proc, .int .i64 f.place, .int .i64 f.mark, .int .i64 f.base])) (g8 : X.grownBy w8 V.fv.ownBlock) (o8 : v8.ownBlock = V.fv.ownBlock ∨ ∃ g, v8.ownBlock = some g ∧ X.heap.size ≤ g) (hfb : ¬ V.fv.ownBlock = some fb) (hmf : m < fb) (hb : W1.heap[fb]? = some (frB f)) :
    Below m W1 (w8.setCell ⟨m, 10, none⟩ v8) ∧ VmS m (w8.setCell ⟨m, 10, none⟩ v8) { V with fv := v8 } { M with frames := M.frames ++ [f] } ∧ (w8.setCell ⟨m, 10, none⟩ v8).heap[fb]? = some (frB f) := by
  have RS := h.rows.swap2
  have b8 : Below (m + 1) W1 w8 := grown_below RS h.lt y g8
  have e : Vm.frC M.frames ++ [.int .i64 f.proc, .int .i64 f.place, .int .i64 f.mark, .int .i64 f.base] = Vm.frC (M.frames ++ [f]) := by rw [Vm.frC_app]; rfl
  rw [e] at h8
  have R8 := (RS.grow y (v' := v8) (n' := (M.frames ++ [f]).length) (xs' := Vm.frC (M.frames ++ [f])) (by rw [List.length_append]; exact h8) g8 o8).swap2
  have q := h.setFs b8 R8
  refine ⟨q.1, q.2, ?_⟩
  have hlt : fb < W1.heap.size := (Array.getElem?_eq_some_iff.1 hb).1
  rw [heap_setCell_other _ _ fb _ (by simp; omega), g8.block fb (by have := y.size; omega) (fun e => hfb e.symm), y.block fb hlt]
  exact hb
theorem VmS.ext {m : Nat} {W X w8 : World} {V : VmV} {M : Vm.Mc} {a : Option Addr} {c k fb : Nat} {o : Obj} (h : VmS m W V M) (y : Below W.heap.size W X) (y8 : Below X.heap.size X w8) (h8 : w8.ownsRow (m + 1) 2 1 (.slice a M.cells.length c) M.cells.length (nC M.cells)) (o8 : (Value.slice a M.cells.length c).ownBlock = V.cv.ownBlock ∨ ∃ g, (Value.slice a M.cells.length c).ownBlock = some g ∧ X.heap.size ≤ g) (hk : M.cells.length + k ≤ c) (hmf : m < fb) (hb : W.heap[fb]? = some o) :
    Below m W (w8.setCell ⟨m, 11, none⟩ (.slice a (M.cells.length + k) c)) ∧ (w8.setCell ⟨m, 11, none⟩ (.slice a (M.cells.length + k) c)).heap[fb]? = some o ∧ ∃ us : List Value, us.length = k ∧ VmX m (w8.setCell ⟨m, 11, none⟩ (.slice a (M.cells.length + k) c)) { V with cv := .slice a (M.cells.length + k) c } M (M.cells.length + k) (nC M.cells ++ us) := by
  obtain ⟨us, hus, hx⟩ := own_ext h8 hk
  have g8 : X.grownBy w8 V.cv.ownBlock := ⟨y8.os, y8.tape, y8.output, y8.size, fun k hk _ => y8.block k hk⟩
  have b0 : Below W.heap.size W w8 := y.trans (y8.mono y.size)
  have RS := h.rows.swap3
  have R8 := (RS.grow y (v' := .slice a (M.cells.length + k) c) (n' := M.cells.length + k) (xs' := nC M.cells ++ us) hx g8 (by cases a <;> exact o8)).swap3
  have hbx : w8.heap[m]? = some (vmB V M) := (b0.block m h.lt).trans h.box
  have bm : Below m W (w8.setCell ⟨m, 11, none⟩ (.slice a (M.cells.length + k) c)) := (b0.mono (Nat.le_of_lt h.lt)).trans below_set
  refine ⟨bm, ?_, us, hus, ⟨heap_setCell_same _ _ _ _ _ _ hbx, R8.below _, h.co.later bm, h.inp.later bm⟩⟩
  have hlt : fb < W.heap.size := (Array.getElem?_eq_some_iff.1 hb).1
  rw [heap_setCell_other _ _ fb _ (by simp; omega), b0.block fb hlt]
  exact hb
theorem VmS.cutS {m : Nat} {w : World} {V : VmV} {M : Vm.Mc} {s : Option Addr} {sc r : Nat} (h : VmS m w V M) (hv : V.sv = .slice s M.stack.length sc) (hr : r ≤ M.stack.length) : VmQ m w (w.setCell ⟨m, 12, none⟩ (.slice s r sc)) { M with stack := M.stack.take r } := by
  have ho : w.ownsRow (m + 1) 2 1 V.sv M.stack.length (nC M.stack) := h.rows.oa
  rw [hv] at ho
  have h1 := own_cut ho hr
  have e : (nC M.stack).take (r * 1) = nC (M.stack.take r) := by rw [Nat.mul_one]; simp [nC]
  have e2 : (M.stack.take r).length = r := by simp; omega
  rw [e] at h1
  refine h.setS (Below.refl _ _) ?_
  rw [e2]
  exact h.rows.cut (v' := .slice s r sc) (n' := r) (xs' := nC (M.stack.take r)) h1 (fun g eg => by show V.sv.ownBlock = _; rw [hv]; cases s <;> exact eg)
theorem VmX.c12 {m n : Nat} {w : World} {V : VmV} {M : Vm.Mc} {ys : List Value} (h : VmX m w V M n ys) : w.cell? ⟨m, 0, none⟩ = some (.slice V.ca M.codes.length V.cc) ∧ w.cell? ⟨m, 11, none⟩ = some V.cv ∧ w.cell? ⟨m, 12, none⟩ = some V.sv ∧ w.frozen? ⟨m, 12, none⟩ = false := by
  have := h.box
  refine ⟨?_, ?_, ?_, ?_⟩ <;> simp [World.cell?, World.frozen?, this]
theorem VmX.cel {m n g cap : Nat} {w : World} {V : VmV} {M : Vm.Mc} {ys : List Value} (h : VmX m w V M n ys) (hv : V.cv = .slice (some ⟨g, 0, none⟩) n cap) : m < g ∧ (∀ j, j < n → (w.cell? ⟨g, j, none⟩).isSome = true) ∧ ∀ k, w.frozen? ⟨g, k, none⟩ = false := by
  have ho : w.ownsRow (m + 1) 2 1 V.cv n ys := h.rows.od
  rw [hv] at ho
  rcases ho.2 with ⟨e, _⟩ | ⟨g', cap', cur, e, hb, hh, h1, h2, h3, _⟩
  · cases e
  · cases e
    refine ⟨by omega, fun j hj => ?_, fun k => by simp [World.frozen?, hh]⟩
    simp only [World.cell?, hh]
    have : j < cur.size := by rw [h3]; omega
    simp [this]
theorem VmX.sta {m n g cap : Nat} {w : World} {V : VmV} {M : Vm.Mc} {ys : List Value} (h : VmX m w V M n ys) (hv : V.sv = .slice (some ⟨g, 0, none⟩) M.stack.length cap) : ∀ j x, M.stack[j]? = some x → w.cell? ⟨g, j, none⟩ = some (.int .i64 x) := by
  have ho : w.ownsRow (m + 1) 2 1 V.sv M.stack.length (nC M.stack) := h.rows.oa
  rw [hv] at ho
  intro j x hx
  have := @World.ownsRow.cells _ _ _ _ _ _ _ ho g rfl j (.int .i64 x) (by simp [nC, hx])
  have add : (⟨g, 0, none⟩ : Addr).add j = ⟨g, j, none⟩ := by unfold Addr.add; split <;> simp_all
  rwa [add] at this
def Vm.en (M : Vm.Mc) (p k g : Nat) : Vm.Mc := { M with frames := M.frames ++ [⟨p, 0, -1, M.cells.length⟩], cells := M.cells ++ (M.stack.drop (M.stack.length - g) ++ List.replicate (k - g) 0), stack := M.stack.take (M.stack.length - g) }
set_option maxRecDepth 100000 in
set_option maxHeartbeats 8000000 in
theorem vmEnterZ (m : Nat) (w : World) (V : VmV) (M : Vm.Mc) (c : Cd.Co) (p k gi : Nat) (h : VmS m w V M) (hc : M.codes[p]? = some c) (hk : c.cells = k) (hl : M.cells.length + k ≤ 100000000) (hfl : M.frames.length ≤ 1000000) (hs : M.stack.length ≤ 1000000) (hgi : gi ≤ M.stack.length) (hk0 : k = 0) (hg0 : gi = 0) :
    Calls Tryd.prog 46 #[.pointer (some ⟨m, 0, none⟩), .int .i64 p, .int .i64 gi] w fun e w' => e = .returned (.tuple #[]) ∧ VmQ m w w' (Vm.en M p k gi) := by
  obtain ⟨i0, hi, hz0, hz1, hz2⟩ := info_parts infoFr
  have HK0 : Hid (k = 0) := hk0
  have HG0 : Hid (gi = 0) := hg0
  clear hk0 hg0
  obtain ⟨fr, hfr⟩ : ∃ fr : Vm.Fr, fr = ⟨p, 0, -1, M.cells.length⟩ := ⟨_, rfl⟩
  obtain ⟨W1, hW1⟩ : ∃ W1, W1 = w.alloc (frB fr) := ⟨_, rfl⟩
  obtain ⟨fb, hfb⟩ : ∃ fb, fb = w.heap.size := ⟨_, rfl⟩
  have b1 : Below w.heap.size w W1 := by rw [hW1]; exact (Below.refl _ _).alloc (Nat.le_refl _) _
  have hbx1 : W1.heap[fb]? = some (frB fr) := by rw [hW1, hfb]; exact alloc_at w _
  have h1 := h.later b1
  have hml := h.lt
  have hmf : m < fb := by omega
  have nfv : ¬ V.fv.ownBlock = some fb := (h.old (by omega)).2.2.1
  have hoF : W1.ownsRow (m + 1) 70 4 V.fv M.frames.length (Vm.frC M.frames) := h1.rows.oc
  have hoC : W1.ownsRow (m + 1) 2 1 V.cv M.cells.length (nC M.cells) := h1.rows.od
  obtain ⟨fa, fc, hfv⟩ := own_shp hoF
  obtain ⟨ca, cc, hcv⟩ := own_shp hoC
  have k11 := h.cell.2.2.2.2.2.2.2.1
  rw [hcv] at k11
  have c10 := h1.cell.2.2.2.2.2.2.1
  rw [hfv] at c10 hoF
  have f10 := h1.frozen 10
  have p0 : W1.cell? ⟨fb, 0, none⟩ = some (.int .i64 p) := by simp [World.cell?, hbx1, hfr]
  have p1 : W1.cell? ⟨fb, 1, none⟩ = some (.int .i64 0) := by simp [World.cell?, hbx1, hfr]
  have p2 : W1.cell? ⟨fb, 2, none⟩ = some (.int .i64 (-1)) := by simp [World.cell?, hbx1, hfr]
  have p3 : W1.cell? ⟨fb, 3, none⟩ = some (.int .i64 M.cells.length) := by simp [World.cell?, hbx1, hfr]
  have fbl : fb < W1.heap.size := (Array.getElem?_eq_some_iff.1 hbx1).1
  have mbl : m < W1.heap.size := h1.lt
  have ADD : Hid (∀ X v8 w8, Below W1.heap.size W1 X → w8.ownsRow (m + 1) 70 4 v8 (M.frames.length + 1) (Vm.frC M.frames ++ [.int .i64 p, .int .i64 0, .int .i64 (-1), .int .i64 M.cells.length]) → X.grownBy w8 (Value.slice fa M.frames.length fc).ownBlock → (v8.ownBlock = (Value.slice fa M.frames.length fc).ownBlock ∨ ∃ g, v8.ownBlock = some g ∧ X.heap.size ≤ g) → Below m w (w8.setCell ⟨m, 10, none⟩ v8) ∧ VmS m (w8.setCell ⟨m, 10, none⟩ v8) { V with fv := v8 } { M with frames := M.frames ++ [fr] } ∧ (w8.setCell ⟨m, 10, none⟩ v8).heap[fb]? = some (frB fr)) := fun X v8 w8 y h8 g8 o8 => by
    have q := h1.addF (f := fr) y (by rw [hfr]; exact h8) (by rw [hfv]; exact g8) (by rw [hfv]; exact o8) nfv hmf hbx1
    exact ⟨(b1.mono (Nat.le_of_lt hml)).trans q.1, q.2⟩
  have ADB : Hid (∀ X w8, Below W1.heap.size W1 X → X.grownBy w8 (Value.slice fa M.frames.length fc).ownBlock → Below (m + 1) W1 w8) := fun X w8 y g8 => grown_below h1.rows.swap2 h1.lt y (by show World.grownBy _ _ V.fv.ownBlock; rw [hfv]; exact g8)
  have HCV : Hid (V.cv = .slice ca M.cells.length cc) := hcv
  have HC : Hid (M.codes[p]? = some c) := hc
  have HK : Hid (c.cells = k) := hk
  have HFR : Hid (fr = ⟨p, 0, -1, M.cells.length⟩) := hfr
  have HMF : Hid (m < fb) := hmf
  have HW1 : Hid (W1 = w.alloc (frB fr)) := hW1
  obtain ⟨n, hn⟩ : ∃ n, n = M.frames.length := ⟨_, rfl⟩
  rw [← hn] at ADD ADB c10 hoF hfl
  obtain ⟨L, hL⟩ : ∃ L, L = M.cells.length := ⟨_, rfl⟩
  have HL : Hid (L = M.cells.length) := hL
  have HLK : Hid (M.cells.length + k ≤ 100000000) := hl
  have EFB : Hid (frB fr = .cells #[.int .i64 p, .int .i64 0, .int .i64 (-1), .int .i64 L] 70) := by rw [hfr, hL]; rfl
  rw [← hL] at ADD p3 hl k11
  rw [EFB.out] at hW1
  have HO : Hid (W1.ownsRow (m + 1) 70 4 (.slice fa n fc) n (Vm.frC M.frames)) := hoF
  have H63 : Hid (n + 1 ≤ maxLen ∧ (n + 1) * 32 ≤ 140737488355328) := by unfold Hid maxLen; omega
  have ONE1 : Hid (∀ u ∈ [Value.int .i64 p, .int .i64 0, .int .i64 (-1), .int .i64 L], u.oneCell' = true) := fun y hy => by
    simp only [List.mem_cons, List.not_mem_nil, or_false] at hy
    rcases hy with rfl | rfl | rfl | rfl <;> rfl
  clear h h1 hc hk hfr hfv hcv hoF hoC b1 hbx1 nfv hn hL hmf
  go_enter Tryd.func46, Tryd.ntmps46
  go_upto_region 1 with fail
  rw [← hW1, ← hfb]
  clear hW1 hfb k11
  go_cut [0, 1, 2, 6] from 18 to 27 (fun s0 s1 s2 s6 wx => s0 = .pointer (some ⟨m, 0, none⟩) ∧ s1 = .int .i64 p ∧ s2 = .int .i64 gi ∧ s6 = .pointer (some ⟨fb, 0, none⟩) ∧ ∃ fv', Hid (Below m w wx ∧ VmS m wx { V with fv := fv' } { M with frames := M.frames ++ [fr] } ∧ wx.heap[fb]? = some (frB fr)))
  case first =>
    go_region_law (first
      | (rw [if_pos (by rfl)]; refine wp_app_t _ _ 62 rfl (m + 1) 70 i0 (.agg #[.int .i64 0, .int .i64 0, .int .i64 0, .int .i64 0]) 4 32 Tryd.underlying62 hi hz0 hz1 hz2 rfl (by decide) _ _ _ rfl (own_lat HO.out (by go_grown)) ⟨W1.heap.size, 0, none⟩ 1 1 [.int .i64 p, .int .i64 0, .int .i64 (-1), .int .i64 L] rfl rfl (lit_4 _ _ _ _ _ _) ONE1.out H63.out.1 H63.out.2 (by simp; omega) (by decide) ?_; intro v8 w8 h8 g8 o8; have A8 : Hid _ := ADD.out _ v8 w8 (by go_grown) h8 g8 o8; have B8 := ADB.out _ w8 (by go_grown) g8; have z10 := (B8.cell (p := ⟨m, 10, none⟩) (Nat.lt_succ_self m)).trans c10; have zf := (B8.frozen (p := ⟨m, 10, none⟩) (Nat.lt_succ_self m)).trans f10; clear B8; clear g8 o8; obtain ⟨va8, cap8, hv8⟩ := own_shp h8; subst hv8; clear h8))
    all_goals
      go_wp2_with fail
      go_meet
      exact ⟨rfl, rfl, rfl, rfl, _, A8.out⟩
  case rest =>
    obtain ⟨rfl, rfl, rfl, rfl, fv', C2⟩ := hcut
    obtain ⟨g0, o0, ia, ic, hca, hgc, cA⟩ := C2.out.2.1.co.at HC.out
    have c0 := C2.out.2.1.cell.1
    have c11 := C2.out.2.1.cell.2.2.2.2.2.2.2.1
    have f11 := C2.out.2.1.frozen 11
    dsimp only at c0 c11 hca
    rw [hca] at c0
    rw [HCV.out, ← HL.out] at c11
    have hpl : p < M.codes.length := (List.getElem?_eq_some_iff.1 HC.out).1
    have cc1 := cA.c1
    rw [HK.out] at cc1
    have m2 := C2.out.2.1.lt
    have q3 : wc.cell? ⟨fb, 3, none⟩ = some (.int .i64 L) := by
      have := C2.out.2.2
      rw [EFB.out] at this
      simp [World.cell?, this]
    have fb2 : fb < wc.heap.size := (Array.getElem?_eq_some_iff.1 C2.out.2.2).1
    obtain ⟨NC, hNC⟩ : ∃ NC, NC = M.codes.length := ⟨_, rfl⟩
    have HNC : Hid (NC = M.codes.length) := hNC
    rw [← hNC] at c0 hpl
    have hpi : (p : Int) < (NC : Int) := by omega
    have hp0 : (0 : Int) ≤ (p : Int) := by omega
    have hOC : wc.ownsRow (m + 1) 2 1 V.cv M.cells.length (nC M.cells) := C2.out.2.1.rows.od
    have EG : Hid (∀ X, Below wc.heap.size wc X → Calls Tryd.prog 60 #[.slice ca L cc, .int .i64 k] X fun e w' => ∃ a c, e = .returned (.slice a L c) ∧ (L : Int) + (k : Int) ≤ (c : Int) ∧ w'.cell? ⟨m, 11, none⟩ = some (.slice ca L cc) ∧ w'.frozen? ⟨m, 11, none⟩ = false ∧ w'.cell? ⟨fb, 3, none⟩ = some (.int .i64 L) ∧ Hid (L + k ≤ c) ∧ Hid (Below X.heap.size X w' ∧ Below m w (w'.setCell ⟨m, 11, none⟩ (.slice a (L + k) c)) ∧ (w'.setCell ⟨m, 11, none⟩ (.slice a (L + k) c)).heap[fb]? = some (frB fr) ∧ ∃ us : List Value, us.length = k ∧ VmX m (w'.setCell ⟨m, 11, none⟩ (.slice a (L + k) c)) { V with fv := fv', cv := .slice a (L + k) c } { M with frames := M.frames ++ [fr] } (L + k) (nC M.cells ++ us))) := fun X hX => by
      have hx : X.ownsRow (m + 1) 2 1 (.slice ca L cc) L (nC M.cells) := by
        have := own_lat hOC hX
        rw [HCV.out, ← HL.out] at this
        exact this
      refine (vmGrow X (m + 1) ca L cc k (nC M.cells) hx (by have := hX.size; omega) (by have := HLK.out; rw [HL.out]; omega)).mono fun e w' hq => ?_
      obtain ⟨a, c, e1, e2, e3, e4, e5⟩ := hq.ex
      have e4' := e4
      rw [HL.out] at e4' e5 e2
      have q := C2.out.2.1.ext (M := { M with frames := M.frames ++ [fr] }) (k := k) hX hq.bw e4' (by show _ = V.cv.ownBlock ∨ _; rw [HCV.out]; exact e5) e2 HMF.out C2.out.2.2
      rw [← HL.out] at q e2
      have y5 : Below wc.heap.size wc w' := hX.trans (hq.bw.mono hX.size)
      refine ⟨a, c, e1, by omega, (y5.cell (p := ⟨m, 11, none⟩) m2).trans c11, (y5.frozen (p := ⟨m, 11, none⟩) m2).trans f11, (y5.cell (p := ⟨fb, 3, none⟩) fb2).trans q3, e2, hq.bw, C2.out.1.trans q.1, q.2.1, ?_⟩
      obtain ⟨us, hu1, hu2⟩ := q.2.2
      refine ⟨us, hu1, ?_⟩
      exact hu2
    obtain ⟨N, hN⟩ : ∃ N, N = L + k := ⟨_, rfl⟩
    have HN : Hid (N = L + k) := hN
    have eLK : (L : Int) + (k : Int) = (N : Int) := by omega
    have hN0 : (0 : Int) ≤ (N : Int) := by omega
    have hNl : N ≤ 100000000 := by omega
    rw [← hN, eLK] at EG
    have hNi : (N : Int) ≤ 100000000 := by omega
    have hNw : IntKind.i64.wrap (N : Int) = (N : Int) := by rw [IntKind.wrap_i64]; omega
    have HLN : Hid (L ≤ N) := (by omega : L ≤ N)
    clear hN
    have CA2 : Hid (V.ca = some ⟨g0, o0, none⟩ ∧ g0 < m) := ⟨hca, hgc⟩
    clear ADD ADB HO H63 ONE1 hi hz0 hz1 hz2 hOC hNC cA hca c10 f10 p0 p1 p2 p3 C2
    go_upto_region 3 with fail
    go_cut [0, 2, 6] from 36 to 49 (fun s0 s2 s6 wx => s0 = .pointer (some ⟨m, 0, none⟩) ∧ s2 = .int .i64 gi ∧ s6 = .pointer (some ⟨fb, 0, none⟩) ∧ ∃ a c, Hid (N ≤ c) ∧ Hid (Below m w wx ∧ wx.heap[fb]? = some (frB fr) ∧ ∃ us : List Value, us.length = k ∧ VmX m wx { V with fv := fv', cv := .slice a N c } { M with frames := M.frames ++ [fr] } N (nC M.cells ++ us)))
    case first =>
      go_region_with (first
        | (go_at_call 60; refine Calls.mono (EG.out _ (by go_grown)) ?_; rintro e5 w5 ⟨a5, c5, rfl, hci, z11, zf, z3, G6, G5⟩; have hcn := G6.out; have hcl := Nat.le_trans HLN.out hcn))
      all_goals
        go_wp2_with fail
        go_meet
        exact ⟨rfl, rfl, rfl, _, _, G6, G5.out.2⟩
    case rest =>
      obtain ⟨rfl, rfl, rfl, a, c4, GLK, C4⟩ := hcut
      obtain ⟨B4, X4, us, hus, H4⟩ := C4.out
      have m4 := H4.lt
      have d0 := H4.c12.1
      have d11 := H4.c12.2.1
      have d12 := H4.c12.2.2.1
      have g12 := H4.c12.2.2.2
      dsimp only at d0 d11 d12
      rw [CA2.out.1, ← HNC.out] at d0
      rw [EFB.out] at X4
      have q0 : wc.cell? ⟨fb, 0, none⟩ = some (.int .i64 p) := by simp [World.cell?, X4]
      have q1 : wc.cell? ⟨fb, 1, none⟩ = some (.int .i64 0) := by simp [World.cell?, X4]
      have q2 : wc.cell? ⟨fb, 2, none⟩ = some (.int .i64 (-1)) := by simp [World.cell?, X4]
      have q3 : wc.cell? ⟨fb, 3, none⟩ = some (.int .i64 L) := by simp [World.cell?, X4]
      have gl4 : g0 < wc.heap.size := by have := CA2.out.2; omega
      obtain ⟨g0', o0', ia', ic', hca', hgc', cA'⟩ := H4.co.at HC.out
      dsimp only at hca'
      rw [CA2.out.1] at hca'
      cases hca'
      have dc := cA'.c1
      rw [HK.out] at dc
      obtain ⟨sa, sc, hsv⟩ := own_shp (show wc.ownsRow (m + 1) 2 1 V.sv M.stack.length (nC M.stack) from H4.rows.oa)
      have hssc : M.stack.length ≤ sc := by
        have ho : wc.ownsRow (m + 1) 2 1 V.sv M.stack.length (nC M.stack) := H4.rows.oa
        rw [hsv] at ho
        rcases ho.2 with ⟨e, e0⟩ | ⟨_, _, _, e, _, _, hc, _⟩
        · omega
        · injection e with e1 e2 e3; omega
      obtain ⟨r, hr⟩ : ∃ r, M.stack.length = r + gi := ⟨M.stack.length - gi, by omega⟩
      rw [hsv, hr] at d12
      have HSV : Hid (V.sv = .slice sa M.stack.length sc) := hsv
      have FINF : Hid (∀ W8 cs, Below m w W8 → VmS m W8 { V with fv := fv', cv := .slice a N c4 } { M with frames := M.frames ++ [fr], cells := cs } → cs = M.cells ++ (M.stack.drop (M.stack.length - gi) ++ List.replicate (k - gi) 0) → VmQ m w (W8.setCell ⟨m, 12, none⟩ (.slice sa r sc)) (Vm.en M p k gi)) := fun W8 cs b8 h8 e => by
        have q := h8.cutS (s := sa) (sc := sc) (r := r) hsv (by show r ≤ M.stack.length; omega)
        refine ⟨b8.trans q.1, ?_⟩
        have q2 := q.2
        rw [e, HFR.out] at q2
        have er : M.stack.length - gi = r := by omega
        unfold Vm.en
        rw [er] at q2 ⊢
        exact q2
      have hri : (r : Int) + (gi : Int) - (gi : Int) = (r : Int) := by omega
      have hr0 : (0 : Int) ≤ (r : Int) := by omega
      have hrs : (r : Int) ≤ (sc : Int) := by omega
      have hrg : (r : Int) ≤ (r : Int) + (gi : Int) := by omega
      have hrb : r + gi ≤ 1000000 := by omega
      have HR : Hid (M.stack.length = r + gi) := hr
      have BB : Hid (Below m w wc) := B4
      have HUS : Hid (us.length = k) := hus
      have EC : Hid (∀ X, Below wc.heap.size wc X → Calls Tryd.prog 43 #[.pointer (some ⟨m, 0, none⟩), .agg #[.int .i64 p, .int .i64 0, .int .i64 (-1), .int .i64 L]] X fun e w' => ∃ a c, e = .returned (.slice a 0 c) ∧ Hid (Below X.heap.size X w')) := fun X hX => by
        have x0 := (hX.cell (p := ⟨m, 0, none⟩) m4).trans d0
        have x11 := (hX.cell (p := ⟨m, 11, none⟩) m4).trans d11
        have xc := (hX.cell (p := ⟨g0, o0 + p * 4 + 1, none⟩) gl4).trans dc
        have s4 := hX.size
        have hNL : N = L := by have := HN.out; have := HK0.out; omega
        rw [HK0.out] at xc
        have ho : wc.ownsRow (m + 1) 2 1 (.slice a N c4) N (nC M.cells ++ us) := H4.rows.od
        rcases ho.2 with ⟨e, e0⟩ | ⟨g', cap', cur, e, hb, hh, h1, h2, h3, _⟩
        · rw [e] at x11
          have hL0 : L = 0 := by omega
          rw [hL0]
          exact (vmCellsZN m X p NC _ g0 o0 (by omega) (by omega) x0 hpl xc x11).mono fun e w' ⟨⟨a, c, h1⟩, h2⟩ => ⟨a, c, h1, h2⟩
        · injection e with e1 e2 e3
          subst e1 e3
          by_cases hq : c4 = L
          · rw [hq] at x11
            exact (vmCellsZE m X p NC _ g0 o0 g' N L (by omega) (by omega) x0 hpl xc x11 (by omega)).mono fun e w' ⟨⟨a, c, h1⟩, h2⟩ => ⟨a, c, h1, h2⟩
          · exact (vmCellsZR m X p NC _ g0 o0 g' N L c4 (by omega) (by omega) x0 hpl xc x11 (by omega) (by omega)).mono fun e w' ⟨⟨a, c, h1⟩, h2⟩ => ⟨a, c, h1, h2⟩
      have HS4 : Hid (VmS m wc { V with fv := fv', cv := .slice a N c4 } { M with frames := M.frames ++ [fr], cells := M.cells }) := H4.s (cs := M.cells) (by have := HN.out; have := HK0.out; rw [← HL.out]; omega) (by rw [List.length_eq_zero_iff.1 (hus.trans HK0.out)]; simp)
      have hclr : ∀ ty b c w, (Builtin.clear_ #[23] ty #[.slice b 0 c]).run Tryd.prog w = .ok (.tuple #[]) w := fun ty b c w => by cases b <;> simp [Builtin.clear_, run_underlying Tryd.underlying23]
      have hcp : ∀ ty d c b n c' w, (Builtin.copy_ #[23, 23] ty #[.slice d 0 c, .slice b n c']).run Tryd.prog w = .ok (goInt 0) w := fun ty d c b n c' w => run_copy_none w 23 23 ty 2 d b 0 c n c' Tryd.underlying23 size64 (by simp)
      clear H4 hsv hr hus X4 B4 C4 GLK cA' dc d0 d11 hgc' hgi hs hssc
      go_wp2_with fail
      refine Calls.mono (EC.out _ (Below.refl _ _)) ?_
      rintro e6 w6 ⟨a6, c6, rfl, Y6⟩
      have u12 := (Y6.out.cell (p := ⟨m, 12, none⟩) m4).trans d12
      have uf := (Y6.out.frozen (p := ⟨m, 12, none⟩) m4).trans g12
      have FIN : Hid (VmQ m w (w6.setCell ⟨m, 12, none⟩ (.slice sa r sc)) (Vm.en M p k gi)) := FINF.out w6 M.cells (BB.out.trans (Y6.out.mono (Nat.le_of_lt m4))) (HS4.out.later Y6.out) (by
        have h1 := HK0.out
        have h2 := HG0.out
        rw [h1, h2]
        simp)
      clear EC Y6 d12 g12 q0 q1 q2 q3 FINF
      by_cases hsr : sc = r
      · subst hsr
        go_wp2_with fail
        all_goals (go_end0; exact ⟨rfl, FIN.out⟩)
      · go_wp2_with fail
        all_goals (go_end0; exact ⟨rfl, FIN.out⟩)
set_option maxRecDepth 100000 in
set_option maxHeartbeats 8000000 in
theorem vmEnterB (m : Nat) (w : World) (V : VmV) (M : Vm.Mc) (c : Cd.Co) (p k gi : Nat) (h : VmS m w V M) (hc : M.codes[p]? = some c) (hk : c.cells = k) (hl : M.cells.length + k ≤ 100000000) (hfl : M.frames.length ≤ 1000000) (hs : M.stack.length ≤ 1000000) (hgi : gi ≤ M.stack.length) (hk1 : 0 < k) (hg0 : gi = 0) :
    Calls Tryd.prog 46 #[.pointer (some ⟨m, 0, none⟩), .int .i64 p, .int .i64 gi] w fun e w' => e = .returned (.tuple #[]) ∧ VmQ m w w' (Vm.en M p k gi) := by
  obtain ⟨i0, hi, hz0, hz1, hz2⟩ := info_parts infoFr
  have HK1 : Hid (0 < k) := hk1
  have HG0 : Hid (gi = 0) := hg0
  clear hk1 hg0
  obtain ⟨fr, hfr⟩ : ∃ fr : Vm.Fr, fr = ⟨p, 0, -1, M.cells.length⟩ := ⟨_, rfl⟩
  obtain ⟨W1, hW1⟩ : ∃ W1, W1 = w.alloc (frB fr) := ⟨_, rfl⟩
  obtain ⟨fb, hfb⟩ : ∃ fb, fb = w.heap.size := ⟨_, rfl⟩
  have b1 : Below w.heap.size w W1 := by rw [hW1]; exact (Below.refl _ _).alloc (Nat.le_refl _) _
  have hbx1 : W1.heap[fb]? = some (frB fr) := by rw [hW1, hfb]; exact alloc_at w _
  have h1 := h.later b1
  have hml := h.lt
  have hmf : m < fb := by omega
  have nfv : ¬ V.fv.ownBlock = some fb := (h.old (by omega)).2.2.1
  have hoF : W1.ownsRow (m + 1) 70 4 V.fv M.frames.length (Vm.frC M.frames) := h1.rows.oc
  have hoC : W1.ownsRow (m + 1) 2 1 V.cv M.cells.length (nC M.cells) := h1.rows.od
  obtain ⟨fa, fc, hfv⟩ := own_shp hoF
  obtain ⟨ca, cc, hcv⟩ := own_shp hoC
  have k11 := h.cell.2.2.2.2.2.2.2.1
  rw [hcv] at k11
  have c10 := h1.cell.2.2.2.2.2.2.1
  rw [hfv] at c10 hoF
  have f10 := h1.frozen 10
  have p0 : W1.cell? ⟨fb, 0, none⟩ = some (.int .i64 p) := by simp [World.cell?, hbx1, hfr]
  have p1 : W1.cell? ⟨fb, 1, none⟩ = some (.int .i64 0) := by simp [World.cell?, hbx1, hfr]
  have p2 : W1.cell? ⟨fb, 2, none⟩ = some (.int .i64 (-1)) := by simp [World.cell?, hbx1, hfr]
  have p3 : W1.cell? ⟨fb, 3, none⟩ = some (.int .i64 M.cells.length) := by simp [World.cell?, hbx1, hfr]
  have fbl : fb < W1.heap.size := (Array.getElem?_eq_some_iff.1 hbx1).1
  have mbl : m < W1.heap.size := h1.lt
  have ADD : Hid (∀ X v8 w8, Below W1.heap.size W1 X → w8.ownsRow (m + 1) 70 4 v8 (M.frames.length + 1) (Vm.frC M.frames ++ [.int .i64 p, .int .i64 0, .int .i64 (-1), .int .i64 M.cells.length]) → X.grownBy w8 (Value.slice fa M.frames.length fc).ownBlock → (v8.ownBlock = (Value.slice fa M.frames.length fc).ownBlock ∨ ∃ g, v8.ownBlock = some g ∧ X.heap.size ≤ g) → Below m w (w8.setCell ⟨m, 10, none⟩ v8) ∧ VmS m (w8.setCell ⟨m, 10, none⟩ v8) { V with fv := v8 } { M with frames := M.frames ++ [fr] } ∧ (w8.setCell ⟨m, 10, none⟩ v8).heap[fb]? = some (frB fr)) := fun X v8 w8 y h8 g8 o8 => by
    have q := h1.addF (f := fr) y (by rw [hfr]; exact h8) (by rw [hfv]; exact g8) (by rw [hfv]; exact o8) nfv hmf hbx1
    exact ⟨(b1.mono (Nat.le_of_lt hml)).trans q.1, q.2⟩
  have ADB : Hid (∀ X w8, Below W1.heap.size W1 X → X.grownBy w8 (Value.slice fa M.frames.length fc).ownBlock → Below (m + 1) W1 w8) := fun X w8 y g8 => grown_below h1.rows.swap2 h1.lt y (by show World.grownBy _ _ V.fv.ownBlock; rw [hfv]; exact g8)
  have HCV : Hid (V.cv = .slice ca M.cells.length cc) := hcv
  have HC : Hid (M.codes[p]? = some c) := hc
  have HK : Hid (c.cells = k) := hk
  have HFR : Hid (fr = ⟨p, 0, -1, M.cells.length⟩) := hfr
  have HMF : Hid (m < fb) := hmf
  have HW1 : Hid (W1 = w.alloc (frB fr)) := hW1
  obtain ⟨n, hn⟩ : ∃ n, n = M.frames.length := ⟨_, rfl⟩
  rw [← hn] at ADD ADB c10 hoF hfl
  obtain ⟨L, hL⟩ : ∃ L, L = M.cells.length := ⟨_, rfl⟩
  have HL : Hid (L = M.cells.length) := hL
  have HLK : Hid (M.cells.length + k ≤ 100000000) := hl
  have EFB : Hid (frB fr = .cells #[.int .i64 p, .int .i64 0, .int .i64 (-1), .int .i64 L] 70) := by rw [hfr, hL]; rfl
  rw [← hL] at ADD p3 hl k11
  rw [EFB.out] at hW1
  have HO : Hid (W1.ownsRow (m + 1) 70 4 (.slice fa n fc) n (Vm.frC M.frames)) := hoF
  have H63 : Hid (n + 1 ≤ maxLen ∧ (n + 1) * 32 ≤ 140737488355328) := by unfold Hid maxLen; omega
  have ONE1 : Hid (∀ u ∈ [Value.int .i64 p, .int .i64 0, .int .i64 (-1), .int .i64 L], u.oneCell' = true) := fun y hy => by
    simp only [List.mem_cons, List.not_mem_nil, or_false] at hy
    rcases hy with rfl | rfl | rfl | rfl <;> rfl
  clear h h1 hc hk hfr hfv hcv hoF hoC b1 hbx1 nfv hn hL hmf
  go_enter Tryd.func46, Tryd.ntmps46
  go_upto_region 1 with fail
  rw [← hW1, ← hfb]
  clear hW1 hfb k11
  go_cut [0, 1, 2, 6] from 18 to 27 (fun s0 s1 s2 s6 wx => s0 = .pointer (some ⟨m, 0, none⟩) ∧ s1 = .int .i64 p ∧ s2 = .int .i64 gi ∧ s6 = .pointer (some ⟨fb, 0, none⟩) ∧ ∃ fv', Hid (Below m w wx ∧ VmS m wx { V with fv := fv' } { M with frames := M.frames ++ [fr] } ∧ wx.heap[fb]? = some (frB fr)))
  case first =>
    go_region_law (first
      | (rw [if_pos (by rfl)]; refine wp_app_t _ _ 62 rfl (m + 1) 70 i0 (.agg #[.int .i64 0, .int .i64 0, .int .i64 0, .int .i64 0]) 4 32 Tryd.underlying62 hi hz0 hz1 hz2 rfl (by decide) _ _ _ rfl (own_lat HO.out (by go_grown)) ⟨W1.heap.size, 0, none⟩ 1 1 [.int .i64 p, .int .i64 0, .int .i64 (-1), .int .i64 L] rfl rfl (lit_4 _ _ _ _ _ _) ONE1.out H63.out.1 H63.out.2 (by simp; omega) (by decide) ?_; intro v8 w8 h8 g8 o8; have A8 : Hid _ := ADD.out _ v8 w8 (by go_grown) h8 g8 o8; have B8 := ADB.out _ w8 (by go_grown) g8; have z10 := (B8.cell (p := ⟨m, 10, none⟩) (Nat.lt_succ_self m)).trans c10; have zf := (B8.frozen (p := ⟨m, 10, none⟩) (Nat.lt_succ_self m)).trans f10; clear B8; clear g8 o8; obtain ⟨va8, cap8, hv8⟩ := own_shp h8; subst hv8; clear h8))
    all_goals
      go_wp2_with fail
      go_meet
      exact ⟨rfl, rfl, rfl, rfl, _, A8.out⟩
  case rest =>
    obtain ⟨rfl, rfl, rfl, rfl, fv', C2⟩ := hcut
    obtain ⟨g0, o0, ia, ic, hca, hgc, cA⟩ := C2.out.2.1.co.at HC.out
    have c0 := C2.out.2.1.cell.1
    have c11 := C2.out.2.1.cell.2.2.2.2.2.2.2.1
    have f11 := C2.out.2.1.frozen 11
    dsimp only at c0 c11 hca
    rw [hca] at c0
    rw [HCV.out, ← HL.out] at c11
    have hpl : p < M.codes.length := (List.getElem?_eq_some_iff.1 HC.out).1
    have cc1 := cA.c1
    rw [HK.out] at cc1
    have m2 := C2.out.2.1.lt
    have q3 : wc.cell? ⟨fb, 3, none⟩ = some (.int .i64 L) := by
      have := C2.out.2.2
      rw [EFB.out] at this
      simp [World.cell?, this]
    have fb2 : fb < wc.heap.size := (Array.getElem?_eq_some_iff.1 C2.out.2.2).1
    obtain ⟨NC, hNC⟩ : ∃ NC, NC = M.codes.length := ⟨_, rfl⟩
    have HNC : Hid (NC = M.codes.length) := hNC
    rw [← hNC] at c0 hpl
    have hpi : (p : Int) < (NC : Int) := by omega
    have hp0 : (0 : Int) ≤ (p : Int) := by omega
    have hOC : wc.ownsRow (m + 1) 2 1 V.cv M.cells.length (nC M.cells) := C2.out.2.1.rows.od
    have EG : Hid (∀ X, Below wc.heap.size wc X → Calls Tryd.prog 60 #[.slice ca L cc, .int .i64 k] X fun e w' => ∃ a c, e = .returned (.slice a L c) ∧ (L : Int) + (k : Int) ≤ (c : Int) ∧ w'.cell? ⟨m, 11, none⟩ = some (.slice ca L cc) ∧ w'.frozen? ⟨m, 11, none⟩ = false ∧ w'.cell? ⟨fb, 3, none⟩ = some (.int .i64 L) ∧ Hid (L + k ≤ c) ∧ Hid (Below X.heap.size X w' ∧ Below m w (w'.setCell ⟨m, 11, none⟩ (.slice a (L + k) c)) ∧ (w'.setCell ⟨m, 11, none⟩ (.slice a (L + k) c)).heap[fb]? = some (frB fr) ∧ ∃ us : List Value, us.length = k ∧ VmX m (w'.setCell ⟨m, 11, none⟩ (.slice a (L + k) c)) { V with fv := fv', cv := .slice a (L + k) c } { M with frames := M.frames ++ [fr] } (L + k) (nC M.cells ++ us))) := fun X hX => by
      have hx : X.ownsRow (m + 1) 2 1 (.slice ca L cc) L (nC M.cells) := by
        have := own_lat hOC hX
        rw [HCV.out, ← HL.out] at this
        exact this
      refine (vmGrow X (m + 1) ca L cc k (nC M.cells) hx (by have := hX.size; omega) (by have := HLK.out; rw [HL.out]; omega)).mono fun e w' hq => ?_
      obtain ⟨a, c, e1, e2, e3, e4, e5⟩ := hq.ex
      have e4' := e4
      rw [HL.out] at e4' e5 e2
      have q := C2.out.2.1.ext (M := { M with frames := M.frames ++ [fr] }) (k := k) hX hq.bw e4' (by show _ = V.cv.ownBlock ∨ _; rw [HCV.out]; exact e5) e2 HMF.out C2.out.2.2
      rw [← HL.out] at q e2
      have y5 : Below wc.heap.size wc w' := hX.trans (hq.bw.mono hX.size)
      refine ⟨a, c, e1, by omega, (y5.cell (p := ⟨m, 11, none⟩) m2).trans c11, (y5.frozen (p := ⟨m, 11, none⟩) m2).trans f11, (y5.cell (p := ⟨fb, 3, none⟩) fb2).trans q3, e2, hq.bw, C2.out.1.trans q.1, q.2.1, ?_⟩
      obtain ⟨us, hu1, hu2⟩ := q.2.2
      refine ⟨us, hu1, ?_⟩
      exact hu2
    obtain ⟨N, hN⟩ : ∃ N, N = L + k := ⟨_, rfl⟩
    have HN : Hid (N = L + k) := hN
    have eLK : (L : Int) + (k : Int) = (N : Int) := by omega
    have hN0 : (0 : Int) ≤ (N : Int) := by omega
    have hNl : N ≤ 100000000 := by omega
    rw [← hN, eLK] at EG
    have hNi : (N : Int) ≤ 100000000 := by omega
    have hNw : IntKind.i64.wrap (N : Int) = (N : Int) := by rw [IntKind.wrap_i64]; omega
    have HLN : Hid (L ≤ N) := (by omega : L ≤ N)
    clear hN
    have CA2 : Hid (V.ca = some ⟨g0, o0, none⟩ ∧ g0 < m) := ⟨hca, hgc⟩
    clear ADD ADB HO H63 ONE1 hi hz0 hz1 hz2 hOC hNC cA hca c10 f10 p0 p1 p2 p3 C2
    go_upto_region 3 with fail
    go_cut [0, 2, 6] from 36 to 49 (fun s0 s2 s6 wx => s0 = .pointer (some ⟨m, 0, none⟩) ∧ s2 = .int .i64 gi ∧ s6 = .pointer (some ⟨fb, 0, none⟩) ∧ ∃ a c, Hid (N ≤ c) ∧ Hid (Below m w wx ∧ wx.heap[fb]? = some (frB fr) ∧ ∃ us : List Value, us.length = k ∧ VmX m wx { V with fv := fv', cv := .slice a N c } { M with frames := M.frames ++ [fr] } N (nC M.cells ++ us)))
    case first =>
      go_region_with (first
        | (go_at_call 60; refine Calls.mono (EG.out _ (by go_grown)) ?_; rintro e5 w5 ⟨a5, c5, rfl, hci, z11, zf, z3, G6, G5⟩; have hcn := G6.out; have hcl := Nat.le_trans HLN.out hcn))
      all_goals
        go_wp2_with fail
        go_meet
        exact ⟨rfl, rfl, rfl, _, _, G6, G5.out.2⟩
    case rest =>
      obtain ⟨rfl, rfl, rfl, a, c4, GLK, C4⟩ := hcut
      obtain ⟨B4, X4, us, hus, H4⟩ := C4.out
      have m4 := H4.lt
      have d0 := H4.c12.1
      have d11 := H4.c12.2.1
      have d12 := H4.c12.2.2.1
      have g12 := H4.c12.2.2.2
      dsimp only at d0 d11 d12
      rw [CA2.out.1, ← HNC.out] at d0
      rw [EFB.out] at X4
      have q0 : wc.cell? ⟨fb, 0, none⟩ = some (.int .i64 p) := by simp [World.cell?, X4]
      have q1 : wc.cell? ⟨fb, 1, none⟩ = some (.int .i64 0) := by simp [World.cell?, X4]
      have q2 : wc.cell? ⟨fb, 2, none⟩ = some (.int .i64 (-1)) := by simp [World.cell?, X4]
      have q3 : wc.cell? ⟨fb, 3, none⟩ = some (.int .i64 L) := by simp [World.cell?, X4]
      have gl4 : g0 < wc.heap.size := by have := CA2.out.2; omega
      obtain ⟨g0', o0', ia', ic', hca', hgc', cA'⟩ := H4.co.at HC.out
      dsimp only at hca'
      rw [CA2.out.1] at hca'
      cases hca'
      have dc := cA'.c1
      rw [HK.out] at dc
      obtain ⟨sa, sc, hsv⟩ := own_shp (show wc.ownsRow (m + 1) 2 1 V.sv M.stack.length (nC M.stack) from H4.rows.oa)
      have hssc : M.stack.length ≤ sc := by
        have ho : wc.ownsRow (m + 1) 2 1 V.sv M.stack.length (nC M.stack) := H4.rows.oa
        rw [hsv] at ho
        rcases ho.2 with ⟨e, e0⟩ | ⟨_, _, _, e, _, _, hc, _⟩
        · omega
        · injection e with e1 e2 e3; omega
      obtain ⟨r, hr⟩ : ∃ r, M.stack.length = r + gi := ⟨M.stack.length - gi, by omega⟩
      rw [hsv, hr] at d12
      have HSV : Hid (V.sv = .slice sa M.stack.length sc) := hsv
      have FINF : Hid (∀ W8 cs, Below m w W8 → VmS m W8 { V with fv := fv', cv := .slice a N c4 } { M with frames := M.frames ++ [fr], cells := cs } → cs = M.cells ++ (M.stack.drop (M.stack.length - gi) ++ List.replicate (k - gi) 0) → VmQ m w (W8.setCell ⟨m, 12, none⟩ (.slice sa r sc)) (Vm.en M p k gi)) := fun W8 cs b8 h8 e => by
        have q := h8.cutS (s := sa) (sc := sc) (r := r) hsv (by show r ≤ M.stack.length; omega)
        refine ⟨b8.trans q.1, ?_⟩
        have q2 := q.2
        rw [e, HFR.out] at q2
        have er : M.stack.length - gi = r := by omega
        unfold Vm.en
        rw [er] at q2 ⊢
        exact q2
      have hri : (r : Int) + (gi : Int) - (gi : Int) = (r : Int) := by omega
      have hr0 : (0 : Int) ≤ (r : Int) := by omega
      have hrs : (r : Int) ≤ (sc : Int) := by omega
      have hrg : (r : Int) ≤ (r : Int) + (gi : Int) := by omega
      have hrb : r + gi ≤ 1000000 := by omega
      have HR : Hid (M.stack.length = r + gi) := hr
      have BB : Hid (Below m w wc) := B4
      have HUS : Hid (us.length = k) := hus
      have hk1 : 0 < k := HK1.out
      obtain ⟨g, ha⟩ : ∃ g, a = some ⟨g, 0, none⟩ := by
        have ho : wc.ownsRow (m + 1) 2 1 (.slice a N c4) N (nC M.cells ++ us) := H4.rows.od
        rcases ho.2 with ⟨e, e0⟩ | ⟨g', cap', cur, e, _⟩
        · have := HN.out; omega
        · injection e with e1 e2 e3; exact ⟨g', e1⟩
      subst ha
      obtain ⟨hmg, hce, hfz⟩ := H4.cel rfl
      have hNc : N ≤ c4 := GLK.out
      have EC : Hid (∀ X, Below wc.heap.size wc X → Calls Tryd.prog 43 #[.pointer (some ⟨m, 0, none⟩), .agg #[.int .i64 p, .int .i64 0, .int .i64 (-1), .int .i64 L]] X fun e w' => e = .returned (.slice (some ⟨g, L, none⟩) k (c4 - L)) ∧ Hid (Below X.heap.size X w')) := fun X hX => by
        have x0 := (hX.cell (p := ⟨m, 0, none⟩) m4).trans d0
        have x11 := (hX.cell (p := ⟨m, 11, none⟩) m4).trans d11
        have xc := (hX.cell (p := ⟨g0, o0 + p * 4 + 1, none⟩) gl4).trans dc
        have s4 := hX.size
        have hNL := HN.out
        exact (vmCellsB m X p NC _ g0 o0 k g N L c4 (by omega) (by omega) x0 hpl xc x11 hk1 (by omega) hl).mono fun e w' ⟨h1, h2⟩ => ⟨h1, h2⟩
      have eLc : (nC M.cells).length = L := by rw [HL.out]; simp [nC]
      have H7F : Hid (∀ w6, Below wc.heap.size wc w6 → Below m w (w6.setCells g L (List.replicate k (.int .i64 0))) ∧ VmX m (w6.setCells g L (List.replicate k (.int .i64 0))) { V with fv := fv', cv := .slice (some ⟨g, 0, none⟩) N c4 } { M with frames := M.frames ++ [fr] } N (nC M.cells ++ (List.replicate k (.int .i64 0) ++ [])) ∧ ∀ ty cx, (Builtin.clear_ #[23] ty #[.slice (some ⟨g, L, none⟩) k cx]).run Tryd.prog w6 = .ok (.tuple #[]) (w6.setCells g L (List.replicate k (.int .i64 0)))) := fun w6 hX => by
        have H6 := H4.later hX
        obtain ⟨_, hce6, hfz6⟩ := H6.cel rfl
        have q := VmX.puts (cap := c4) rfl hmg (List.replicate k (.int .i64 0)) w6 _ L H6 (by have := HN.out; simp; omega)
        have e := VmX.st_app (List.replicate k (.int .i64 0)) (nC M.cells) us [] (by simp [hus])
        rw [eLc, List.append_nil us] at e
        rw [e] at q
        refine ⟨B4.trans ((hX.mono (Nat.le_of_lt m4)).trans q.1), q.2, fun ty cx => ?_⟩
        exact Lib.run_clear_slice w6 23 2 ty (.int .i64 0) Tryd.underlying23 zero64 rfl rfl g L k cx hk1 (fun i hi => hce6 (L + i) (by have := HN.out; omega)) (fun i hi => hfz6 _)
      have hcp : ∀ ty d n c b c' w, (Builtin.copy_ #[23, 23] ty #[.slice d n c, .slice b 0 c']).run Tryd.prog w = .ok (goInt 0) w := fun ty d n c b c' w => run_copy_none w 23 23 ty 2 d b n c 0 c' Tryd.underlying23 size64 (by simp)
      have hgi0 : (gi : Int) = 0 := by have := HG0.out; omega
      have hgn0 : gi = 0 := HG0.out
      clear H4 hsv hr hus X4 B4 C4 GLK cA' dc d0 d11 hgc' hgi hs hssc hce hfz eLc
      go_wp2_with fail
      refine Calls.mono (EC.out _ (Below.refl _ _)) ?_
      rintro e6 w6 ⟨rfl, Y6⟩
      have Q7 := H7F.out w6 Y6.out
      obtain ⟨W7, hW7⟩ : ∃ W7, W7 = w6.setCells g L (List.replicate k (.int .i64 0)) := ⟨_, rfl⟩
      rw [← hW7] at Q7
      obtain ⟨b7, X7, hclr⟩ := Q7
      have u12 := X7.c12.2.2.1
      have uf := X7.c12.2.2.2
      dsimp only at u12
      rw [HSV.out, HR.out] at u12
      have FIN : Hid (VmQ m w (W7.setCell ⟨m, 12, none⟩ (.slice sa r sc)) (Vm.en M p k gi)) := FINF.out W7 (M.cells ++ List.replicate k 0) b7 (X7.s (by have := HN.out; have := HL.out; simp; omega) (by simp [nC])) (by
        rw [hgn0]
        simp)
      clear EC Y6 d12 g12 q0 q1 q2 q3 FINF H7F hW7 X7 b7 hgi0
      subst hgn0
      rw [Nat.add_zero] at u12
      by_cases hsr : sc = r
      · subst hsr
        go_wp2_with fail
        all_goals (go_end0; exact ⟨rfl, FIN.out⟩)
      · go_wp2_with fail
        all_goals (go_end0; exact ⟨rfl, FIN.out⟩)
set_option maxRecDepth 100000 in
set_option maxHeartbeats 8000000 in
theorem vmEnterC (m : Nat) (w : World) (V : VmV) (M : Vm.Mc) (c : Cd.Co) (p k gi : Nat) (h : VmS m w V M) (hc : M.codes[p]? = some c) (hk : c.cells = k) (hl : M.cells.length + k ≤ 100000000) (hfl : M.frames.length ≤ 1000000) (hs : M.stack.length ≤ 1000000) (hgi : gi ≤ M.stack.length) (hgk : gi ≤ k) (hg1 : 0 < gi) :
    Calls Tryd.prog 46 #[.pointer (some ⟨m, 0, none⟩), .int .i64 p, .int .i64 gi] w fun e w' => e = .returned (.tuple #[]) ∧ VmQ m w w' (Vm.en M p k gi) := by
  obtain ⟨i0, hi, hz0, hz1, hz2⟩ := info_parts infoFr
  have HK1 : Hid (0 < k) := by show 0 < k; omega
  have HG1 : Hid (0 < gi) := hg1
  have HGK : Hid (gi ≤ k) := hgk
  clear hgk hg1
  obtain ⟨fr, hfr⟩ : ∃ fr : Vm.Fr, fr = ⟨p, 0, -1, M.cells.length⟩ := ⟨_, rfl⟩
  obtain ⟨W1, hW1⟩ : ∃ W1, W1 = w.alloc (frB fr) := ⟨_, rfl⟩
  obtain ⟨fb, hfb⟩ : ∃ fb, fb = w.heap.size := ⟨_, rfl⟩
  have b1 : Below w.heap.size w W1 := by rw [hW1]; exact (Below.refl _ _).alloc (Nat.le_refl _) _
  have hbx1 : W1.heap[fb]? = some (frB fr) := by rw [hW1, hfb]; exact alloc_at w _
  have h1 := h.later b1
  have hml := h.lt
  have hmf : m < fb := by omega
  have nfv : ¬ V.fv.ownBlock = some fb := (h.old (by omega)).2.2.1
  have hoF : W1.ownsRow (m + 1) 70 4 V.fv M.frames.length (Vm.frC M.frames) := h1.rows.oc
  have hoC : W1.ownsRow (m + 1) 2 1 V.cv M.cells.length (nC M.cells) := h1.rows.od
  obtain ⟨fa, fc, hfv⟩ := own_shp hoF
  obtain ⟨ca, cc, hcv⟩ := own_shp hoC
  have k11 := h.cell.2.2.2.2.2.2.2.1
  rw [hcv] at k11
  have c10 := h1.cell.2.2.2.2.2.2.1
  rw [hfv] at c10 hoF
  have f10 := h1.frozen 10
  have p0 : W1.cell? ⟨fb, 0, none⟩ = some (.int .i64 p) := by simp [World.cell?, hbx1, hfr]
  have p1 : W1.cell? ⟨fb, 1, none⟩ = some (.int .i64 0) := by simp [World.cell?, hbx1, hfr]
  have p2 : W1.cell? ⟨fb, 2, none⟩ = some (.int .i64 (-1)) := by simp [World.cell?, hbx1, hfr]
  have p3 : W1.cell? ⟨fb, 3, none⟩ = some (.int .i64 M.cells.length) := by simp [World.cell?, hbx1, hfr]
  have fbl : fb < W1.heap.size := (Array.getElem?_eq_some_iff.1 hbx1).1
  have mbl : m < W1.heap.size := h1.lt
  have ADD : Hid (∀ X v8 w8, Below W1.heap.size W1 X → w8.ownsRow (m + 1) 70 4 v8 (M.frames.length + 1) (Vm.frC M.frames ++ [.int .i64 p, .int .i64 0, .int .i64 (-1), .int .i64 M.cells.length]) → X.grownBy w8 (Value.slice fa M.frames.length fc).ownBlock → (v8.ownBlock = (Value.slice fa M.frames.length fc).ownBlock ∨ ∃ g, v8.ownBlock = some g ∧ X.heap.size ≤ g) → Below m w (w8.setCell ⟨m, 10, none⟩ v8) ∧ VmS m (w8.setCell ⟨m, 10, none⟩ v8) { V with fv := v8 } { M with frames := M.frames ++ [fr] } ∧ (w8.setCell ⟨m, 10, none⟩ v8).heap[fb]? = some (frB fr)) := fun X v8 w8 y h8 g8 o8 => by
    have q := h1.addF (f := fr) y (by rw [hfr]; exact h8) (by rw [hfv]; exact g8) (by rw [hfv]; exact o8) nfv hmf hbx1
    exact ⟨(b1.mono (Nat.le_of_lt hml)).trans q.1, q.2⟩
  have ADB : Hid (∀ X w8, Below W1.heap.size W1 X → X.grownBy w8 (Value.slice fa M.frames.length fc).ownBlock → Below (m + 1) W1 w8) := fun X w8 y g8 => grown_below h1.rows.swap2 h1.lt y (by show World.grownBy _ _ V.fv.ownBlock; rw [hfv]; exact g8)
  have HCV : Hid (V.cv = .slice ca M.cells.length cc) := hcv
  have HC : Hid (M.codes[p]? = some c) := hc
  have HK : Hid (c.cells = k) := hk
  have HFR : Hid (fr = ⟨p, 0, -1, M.cells.length⟩) := hfr
  have HMF : Hid (m < fb) := hmf
  have HW1 : Hid (W1 = w.alloc (frB fr)) := hW1
  obtain ⟨n, hn⟩ : ∃ n, n = M.frames.length := ⟨_, rfl⟩
  rw [← hn] at ADD ADB c10 hoF hfl
  obtain ⟨L, hL⟩ : ∃ L, L = M.cells.length := ⟨_, rfl⟩
  have HL : Hid (L = M.cells.length) := hL
  have HLK : Hid (M.cells.length + k ≤ 100000000) := hl
  have EFB : Hid (frB fr = .cells #[.int .i64 p, .int .i64 0, .int .i64 (-1), .int .i64 L] 70) := by rw [hfr, hL]; rfl
  rw [← hL] at ADD p3 hl k11
  rw [EFB.out] at hW1
  have HO : Hid (W1.ownsRow (m + 1) 70 4 (.slice fa n fc) n (Vm.frC M.frames)) := hoF
  have H63 : Hid (n + 1 ≤ maxLen ∧ (n + 1) * 32 ≤ 140737488355328) := by unfold Hid maxLen; omega
  have ONE1 : Hid (∀ u ∈ [Value.int .i64 p, .int .i64 0, .int .i64 (-1), .int .i64 L], u.oneCell' = true) := fun y hy => by
    simp only [List.mem_cons, List.not_mem_nil, or_false] at hy
    rcases hy with rfl | rfl | rfl | rfl <;> rfl
  clear h h1 hc hk hfr hfv hcv hoF hoC b1 hbx1 nfv hn hL hmf
  go_enter Tryd.func46, Tryd.ntmps46
  go_upto_region 1 with fail
  rw [← hW1, ← hfb]
  clear hW1 hfb k11
  go_cut [0, 1, 2, 6] from 18 to 27 (fun s0 s1 s2 s6 wx => s0 = .pointer (some ⟨m, 0, none⟩) ∧ s1 = .int .i64 p ∧ s2 = .int .i64 gi ∧ s6 = .pointer (some ⟨fb, 0, none⟩) ∧ ∃ fv', Hid (Below m w wx ∧ VmS m wx { V with fv := fv' } { M with frames := M.frames ++ [fr] } ∧ wx.heap[fb]? = some (frB fr)))
  case first =>
    go_region_law (first
      | (rw [if_pos (by rfl)]; refine wp_app_t _ _ 62 rfl (m + 1) 70 i0 (.agg #[.int .i64 0, .int .i64 0, .int .i64 0, .int .i64 0]) 4 32 Tryd.underlying62 hi hz0 hz1 hz2 rfl (by decide) _ _ _ rfl (own_lat HO.out (by go_grown)) ⟨W1.heap.size, 0, none⟩ 1 1 [.int .i64 p, .int .i64 0, .int .i64 (-1), .int .i64 L] rfl rfl (lit_4 _ _ _ _ _ _) ONE1.out H63.out.1 H63.out.2 (by simp; omega) (by decide) ?_; intro v8 w8 h8 g8 o8; have A8 : Hid _ := ADD.out _ v8 w8 (by go_grown) h8 g8 o8; have B8 := ADB.out _ w8 (by go_grown) g8; have z10 := (B8.cell (p := ⟨m, 10, none⟩) (Nat.lt_succ_self m)).trans c10; have zf := (B8.frozen (p := ⟨m, 10, none⟩) (Nat.lt_succ_self m)).trans f10; clear B8; clear g8 o8; obtain ⟨va8, cap8, hv8⟩ := own_shp h8; subst hv8; clear h8))
    all_goals
      go_wp2_with fail
      go_meet
      exact ⟨rfl, rfl, rfl, rfl, _, A8.out⟩
  case rest =>
    obtain ⟨rfl, rfl, rfl, rfl, fv', C2⟩ := hcut
    obtain ⟨g0, o0, ia, ic, hca, hgc, cA⟩ := C2.out.2.1.co.at HC.out
    have c0 := C2.out.2.1.cell.1
    have c11 := C2.out.2.1.cell.2.2.2.2.2.2.2.1
    have f11 := C2.out.2.1.frozen 11
    dsimp only at c0 c11 hca
    rw [hca] at c0
    rw [HCV.out, ← HL.out] at c11
    have hpl : p < M.codes.length := (List.getElem?_eq_some_iff.1 HC.out).1
    have cc1 := cA.c1
    rw [HK.out] at cc1
    have m2 := C2.out.2.1.lt
    have q3 : wc.cell? ⟨fb, 3, none⟩ = some (.int .i64 L) := by
      have := C2.out.2.2
      rw [EFB.out] at this
      simp [World.cell?, this]
    have fb2 : fb < wc.heap.size := (Array.getElem?_eq_some_iff.1 C2.out.2.2).1
    obtain ⟨NC, hNC⟩ : ∃ NC, NC = M.codes.length := ⟨_, rfl⟩
    have HNC : Hid (NC = M.codes.length) := hNC
    rw [← hNC] at c0 hpl
    have hpi : (p : Int) < (NC : Int) := by omega
    have hp0 : (0 : Int) ≤ (p : Int) := by omega
    have hOC : wc.ownsRow (m + 1) 2 1 V.cv M.cells.length (nC M.cells) := C2.out.2.1.rows.od
    have EG : Hid (∀ X, Below wc.heap.size wc X → Calls Tryd.prog 60 #[.slice ca L cc, .int .i64 k] X fun e w' => ∃ a c, e = .returned (.slice a L c) ∧ (L : Int) + (k : Int) ≤ (c : Int) ∧ w'.cell? ⟨m, 11, none⟩ = some (.slice ca L cc) ∧ w'.frozen? ⟨m, 11, none⟩ = false ∧ w'.cell? ⟨fb, 3, none⟩ = some (.int .i64 L) ∧ Hid (L + k ≤ c) ∧ Hid (Below X.heap.size X w' ∧ Below m w (w'.setCell ⟨m, 11, none⟩ (.slice a (L + k) c)) ∧ (w'.setCell ⟨m, 11, none⟩ (.slice a (L + k) c)).heap[fb]? = some (frB fr) ∧ ∃ us : List Value, us.length = k ∧ VmX m (w'.setCell ⟨m, 11, none⟩ (.slice a (L + k) c)) { V with fv := fv', cv := .slice a (L + k) c } { M with frames := M.frames ++ [fr] } (L + k) (nC M.cells ++ us))) := fun X hX => by
      have hx : X.ownsRow (m + 1) 2 1 (.slice ca L cc) L (nC M.cells) := by
        have := own_lat hOC hX
        rw [HCV.out, ← HL.out] at this
        exact this
      refine (vmGrow X (m + 1) ca L cc k (nC M.cells) hx (by have := hX.size; omega) (by have := HLK.out; rw [HL.out]; omega)).mono fun e w' hq => ?_
      obtain ⟨a, c, e1, e2, e3, e4, e5⟩ := hq.ex
      have e4' := e4
      rw [HL.out] at e4' e5 e2
      have q := C2.out.2.1.ext (M := { M with frames := M.frames ++ [fr] }) (k := k) hX hq.bw e4' (by show _ = V.cv.ownBlock ∨ _; rw [HCV.out]; exact e5) e2 HMF.out C2.out.2.2
      rw [← HL.out] at q e2
      have y5 : Below wc.heap.size wc w' := hX.trans (hq.bw.mono hX.size)
      refine ⟨a, c, e1, by omega, (y5.cell (p := ⟨m, 11, none⟩) m2).trans c11, (y5.frozen (p := ⟨m, 11, none⟩) m2).trans f11, (y5.cell (p := ⟨fb, 3, none⟩) fb2).trans q3, e2, hq.bw, C2.out.1.trans q.1, q.2.1, ?_⟩
      obtain ⟨us, hu1, hu2⟩ := q.2.2
      refine ⟨us, hu1, ?_⟩
      exact hu2
    obtain ⟨N, hN⟩ : ∃ N, N = L + k := ⟨_, rfl⟩
    have HN : Hid (N = L + k) := hN
    have eLK : (L : Int) + (k : Int) = (N : Int) := by omega
    have hN0 : (0 : Int) ≤ (N : Int) := by omega
    have hNl : N ≤ 100000000 := by omega
    rw [← hN, eLK] at EG
    have hNi : (N : Int) ≤ 100000000 := by omega
    have hNw : IntKind.i64.wrap (N : Int) = (N : Int) := by rw [IntKind.wrap_i64]; omega
    have HLN : Hid (L ≤ N) := (by omega : L ≤ N)
    clear hN
    have CA2 : Hid (V.ca = some ⟨g0, o0, none⟩ ∧ g0 < m) := ⟨hca, hgc⟩
    clear ADD ADB HO H63 ONE1 hi hz0 hz1 hz2 hOC hNC cA hca c10 f10 p0 p1 p2 p3 C2
    go_upto_region 3 with fail
    go_cut [0, 2, 6] from 36 to 49 (fun s0 s2 s6 wx => s0 = .pointer (some ⟨m, 0, none⟩) ∧ s2 = .int .i64 gi ∧ s6 = .pointer (some ⟨fb, 0, none⟩) ∧ ∃ a c, Hid (N ≤ c) ∧ Hid (Below m w wx ∧ wx.heap[fb]? = some (frB fr) ∧ ∃ us : List Value, us.length = k ∧ VmX m wx { V with fv := fv', cv := .slice a N c } { M with frames := M.frames ++ [fr] } N (nC M.cells ++ us)))
    case first =>
      go_region_with (first
        | (go_at_call 60; refine Calls.mono (EG.out _ (by go_grown)) ?_; rintro e5 w5 ⟨a5, c5, rfl, hci, z11, zf, z3, G6, G5⟩; have hcn := G6.out; have hcl := Nat.le_trans HLN.out hcn))
      all_goals
        go_wp2_with fail
        go_meet
        exact ⟨rfl, rfl, rfl, _, _, G6, G5.out.2⟩
    case rest =>
      obtain ⟨rfl, rfl, rfl, a, c4, GLK, C4⟩ := hcut
      obtain ⟨B4, X4, us, hus, H4⟩ := C4.out
      have m4 := H4.lt
      have d0 := H4.c12.1
      have d11 := H4.c12.2.1
      have d12 := H4.c12.2.2.1
      have g12 := H4.c12.2.2.2
      dsimp only at d0 d11 d12
      rw [CA2.out.1, ← HNC.out] at d0
      rw [EFB.out] at X4
      have q0 : wc.cell? ⟨fb, 0, none⟩ = some (.int .i64 p) := by simp [World.cell?, X4]
      have q1 : wc.cell? ⟨fb, 1, none⟩ = some (.int .i64 0) := by simp [World.cell?, X4]
      have q2 : wc.cell? ⟨fb, 2, none⟩ = some (.int .i64 (-1)) := by simp [World.cell?, X4]
      have q3 : wc.cell? ⟨fb, 3, none⟩ = some (.int .i64 L) := by simp [World.cell?, X4]
      have gl4 : g0 < wc.heap.size := by have := CA2.out.2; omega
      obtain ⟨g0', o0', ia', ic', hca', hgc', cA'⟩ := H4.co.at HC.out
      dsimp only at hca'
      rw [CA2.out.1] at hca'
      cases hca'
      have dc := cA'.c1
      rw [HK.out] at dc
      obtain ⟨sa, sc, hsv⟩ := own_shp (show wc.ownsRow (m + 1) 2 1 V.sv M.stack.length (nC M.stack) from H4.rows.oa)
      have hssc : M.stack.length ≤ sc := by
        have ho : wc.ownsRow (m + 1) 2 1 V.sv M.stack.length (nC M.stack) := H4.rows.oa
        rw [hsv] at ho
        rcases ho.2 with ⟨e, e0⟩ | ⟨_, _, _, e, _, _, hc, _⟩
        · omega
        · injection e with e1 e2 e3; omega
      obtain ⟨r, hr⟩ : ∃ r, M.stack.length = r + gi := ⟨M.stack.length - gi, by omega⟩
      rw [hsv, hr] at d12
      have HSV : Hid (V.sv = .slice sa M.stack.length sc) := hsv
      have FINF : Hid (∀ W8 cs, Below m w W8 → VmS m W8 { V with fv := fv', cv := .slice a N c4 } { M with frames := M.frames ++ [fr], cells := cs } → cs = M.cells ++ (M.stack.drop (M.stack.length - gi) ++ List.replicate (k - gi) 0) → VmQ m w (W8.setCell ⟨m, 12, none⟩ (.slice sa r sc)) (Vm.en M p k gi)) := fun W8 cs b8 h8 e => by
        have q := h8.cutS (s := sa) (sc := sc) (r := r) hsv (by show r ≤ M.stack.length; omega)
        refine ⟨b8.trans q.1, ?_⟩
        have q2 := q.2
        rw [e, HFR.out] at q2
        have er : M.stack.length - gi = r := by omega
        unfold Vm.en
        rw [er] at q2 ⊢
        exact q2
      have hri : (r : Int) + (gi : Int) - (gi : Int) = (r : Int) := by omega
      have hr0 : (0 : Int) ≤ (r : Int) := by omega
      have hrs : (r : Int) ≤ (sc : Int) := by omega
      have hrg : (r : Int) ≤ (r : Int) + (gi : Int) := by omega
      have hrb : r + gi ≤ 1000000 := by omega
      have HR : Hid (M.stack.length = r + gi) := hr
      have BB : Hid (Below m w wc) := B4
      have HUS : Hid (us.length = k) := hus
      have hk1 : 0 < k := HK1.out
      obtain ⟨g, ha⟩ : ∃ g, a = some ⟨g, 0, none⟩ := by
        have ho : wc.ownsRow (m + 1) 2 1 (.slice a N c4) N (nC M.cells ++ us) := H4.rows.od
        rcases ho.2 with ⟨e, e0⟩ | ⟨g', cap', cur, e, _⟩
        · have := HN.out; omega
        · injection e with e1 e2 e3; exact ⟨g', e1⟩
      subst ha
      obtain ⟨hmg, hce, hfz⟩ := H4.cel rfl
      have hNc : N ≤ c4 := GLK.out
      have EC : Hid (∀ X, Below wc.heap.size wc X → Calls Tryd.prog 43 #[.pointer (some ⟨m, 0, none⟩), .agg #[.int .i64 p, .int .i64 0, .int .i64 (-1), .int .i64 L]] X fun e w' => e = .returned (.slice (some ⟨g, L, none⟩) k (c4 - L)) ∧ Hid (Below X.heap.size X w')) := fun X hX => by
        have x0 := (hX.cell (p := ⟨m, 0, none⟩) m4).trans d0
        have x11 := (hX.cell (p := ⟨m, 11, none⟩) m4).trans d11
        have xc := (hX.cell (p := ⟨g0, o0 + p * 4 + 1, none⟩) gl4).trans dc
        have s4 := hX.size
        have hNL := HN.out
        exact (vmCellsB m X p NC _ g0 o0 k g N L c4 (by omega) (by omega) x0 hpl xc x11 hk1 (by omega) hl).mono fun e w' ⟨h1, h2⟩ => ⟨h1, h2⟩
      have eLc : (nC M.cells).length = L := by rw [HL.out]; simp [nC]
      have H7F : Hid (∀ w6, Below wc.heap.size wc w6 → Below m w (w6.setCells g L (List.replicate k (.int .i64 0))) ∧ VmX m (w6.setCells g L (List.replicate k (.int .i64 0))) { V with fv := fv', cv := .slice (some ⟨g, 0, none⟩) N c4 } { M with frames := M.frames ++ [fr] } N (nC M.cells ++ (List.replicate k (.int .i64 0) ++ [])) ∧ ∀ ty cx, (Builtin.clear_ #[23] ty #[.slice (some ⟨g, L, none⟩) k cx]).run Tryd.prog w6 = .ok (.tuple #[]) (w6.setCells g L (List.replicate k (.int .i64 0)))) := fun w6 hX => by
        have H6 := H4.later hX
        obtain ⟨_, hce6, hfz6⟩ := H6.cel rfl
        have q := VmX.puts (cap := c4) rfl hmg (List.replicate k (.int .i64 0)) w6 _ L H6 (by have := HN.out; simp; omega)
        have e := VmX.st_app (List.replicate k (.int .i64 0)) (nC M.cells) us [] (by simp [hus])
        rw [eLc, List.append_nil us] at e
        rw [e] at q
        refine ⟨B4.trans ((hX.mono (Nat.le_of_lt m4)).trans q.1), q.2, fun ty cx => ?_⟩
        exact Lib.run_clear_slice w6 23 2 ty (.int .i64 0) Tryd.underlying23 zero64 rfl rfl g L k cx hk1 (fun i hi => hce6 (L + i) (by have := HN.out; omega)) (fun i hi => hfz6 _)
      have hg1 : 0 < gi := HG1.out
      have hgk : gi ≤ k := HGK.out
      obtain ⟨gs, hsa⟩ : ∃ gs, sa = some ⟨gs, 0, none⟩ := by
        have ho : wc.ownsRow (m + 1) 2 1 V.sv M.stack.length (nC M.stack) := H4.rows.oa
        rw [hsv] at ho
        rcases ho.2 with ⟨e, e0⟩ | ⟨g', cap', cur, e, _⟩
        · omega
        · injection e with e1 e2 e3; exact ⟨g', e1⟩
      subst hsa
      have eds : M.stack.length - gi = r := by omega
      have H8F : Hid (∀ W7, Below m w W7 → VmX m W7 { V with fv := fv', cv := .slice (some ⟨g, 0, none⟩) N c4 } { M with frames := M.frames ++ [fr] } N (nC M.cells ++ (List.replicate k (.int .i64 0) ++ [])) → (∀ ty cx sx, (Builtin.copy_ #[23, 23] ty #[.slice (some ⟨g, L, none⟩) k cx, .slice (some ⟨gs, r, none⟩) gi sx]).run Tryd.prog W7 = .ok (goInt gi) (W7.setCells g L (nC (M.stack.drop r)))) ∧ Below m w (W7.setCells g L (nC (M.stack.drop r))) ∧ VmX m (W7.setCells g L (nC (M.stack.drop r))) { V with fv := fv', cv := .slice (some ⟨g, 0, none⟩) N c4 } { M with frames := M.frames ++ [fr] } N (nC (M.cells ++ (M.stack.drop r ++ List.replicate (k - gi) 0)))) := fun W7 b7 X7 => by
        obtain ⟨_, hce7, hfz7⟩ := X7.cel rfl
        have hst := X7.sta (g := gs) (cap := sc) hsv
        have hdl : (nC (M.stack.drop r)).length = gi := by simp [nC]; omega
        have q := VmX.puts (cap := c4) rfl hmg (nC (M.stack.drop r)) W7 _ L X7 (by have := HN.out; rw [hdl]; omega)
        have e := VmX.st_app (nC (M.stack.drop r)) (nC M.cells) (List.replicate gi (.int .i64 0)) (List.replicate (k - gi) (.int .i64 0)) (by rw [hdl]; simp)
        rw [eLc] at e
        have er : (List.replicate k (Value.int .i64 0) ++ []) = List.replicate gi (.int .i64 0) ++ List.replicate (k - gi) (.int .i64 0) := by rw [List.append_nil, List.replicate_append_replicate]; congr 1; omega
        rw [er, e] at q
        have e9 : nC M.cells ++ (nC (M.stack.drop r) ++ List.replicate (k - gi) (.int .i64 0)) = nC (M.cells ++ (M.stack.drop r ++ List.replicate (k - gi) 0)) := by simp [nC]
        rw [e9] at q
        refine ⟨fun ty cx sx => ?_, b7.trans q.1, q.2⟩
        have := run_copy_cells W7 23 23 ty 2 g L k cx ⟨gs, r, none⟩ gi sx (nC (M.stack.drop r)) Tryd.underlying23 size64 (by rw [hdl]; exact (Nat.min_eq_left hgk).symm) (fun j v hj => by
          simp only [nC, List.getElem?_map, List.getElem?_drop] at hj
          cases hx : M.stack[r + j]? with
          | none => rw [hx] at hj; cases hj
          | some x =>
            rw [hx] at hj
            cases hj
            have add : (⟨gs, r, none⟩ : Addr).add j = ⟨gs, r + j, none⟩ := by unfold Addr.add; split <;> simp_all
            rw [add]
            exact hst (r + j) x hx) (fun j hj => hce7 (L + j) (by rw [hdl] at hj; have := HN.out; omega)) (fun j hj => hfz7 _) (fun v hv => by
          simp only [nC, List.mem_map] at hv
          obtain ⟨x, _, rfl⟩ := hv
          rfl)
        rw [hdl] at this
        exact this
      have hn1 : ¬ sc - r = 0 := by omega
      have hn3 : ¬ (sc : Int) - (r : Int) = 0 := by omega
      have hn4 : ¬ sc = r := by omega
      have hn5 : ¬ sc ≤ r := by omega
      have hn7 : (r : Int) < (sc : Int) := by omega
      have eds2 : r + gi - r = gi := by omega
      have EDS : Hid (M.stack.length - gi = r) := eds
      clear H4 hsv hr hus X4 B4 C4 GLK cA' dc d0 d11 hgc' hgi hs hssc hce hfz eLc eds
      go_wp2_with fail
      refine Calls.mono (EC.out _ (Below.refl _ _)) ?_
      rintro e6 w6 ⟨rfl, Y6⟩
      have Q7 := H7F.out w6 Y6.out
      obtain ⟨W7, hW7⟩ : ∃ W7, W7 = w6.setCells g L (List.replicate k (.int .i64 0)) := ⟨_, rfl⟩
      rw [← hW7] at Q7
      obtain ⟨b7, X7, hclr⟩ := Q7
      have u12 := X7.c12.2.2.1
      dsimp only at u12
      rw [HSV.out, HR.out] at u12
      have Q8 := H8F.out W7 b7 X7
      obtain ⟨W8, hW8⟩ : ∃ W8, W8 = W7.setCells g L (nC (M.stack.drop r)) := ⟨_, rfl⟩
      rw [← hW8] at Q8
      obtain ⟨hcp, b8, X8⟩ := Q8
      have v12 := X8.c12.2.2.1
      have vf := X8.c12.2.2.2
      dsimp only at v12
      rw [HSV.out, HR.out] at v12
      have FIN : Hid (VmQ m w (W8.setCell ⟨m, 12, none⟩ (.slice (some ⟨gs, 0, none⟩) r sc)) (Vm.en M p k gi)) := FINF.out W8 (M.cells ++ (M.stack.drop r ++ List.replicate (k - gi) 0)) b8 (X8.s (by have := HN.out; have := HL.out; have := HR.out; simp; omega) rfl) (by rw [EDS.out])
      clear EC Y6 d12 g12 q0 q1 q2 q3 FINF H7F H8F hW7 X7 b7 hW8 b8 X8 EDS
      go_wp2_with fail
      all_goals (go_end0; exact ⟨rfl, FIN.out⟩)
theorem vmEnter (m : Nat) (w : World) (V : VmV) (M : Vm.Mc) (c : Cd.Co) (p k gi : Nat) (h : VmS m w V M) (hc : M.codes[p]? = some c) (hk : c.cells = k) (hl : M.cells.length + k ≤ 100000000) (hfl : M.frames.length ≤ 1000000) (hs : M.stack.length ≤ 1000000) (hgi : gi ≤ M.stack.length) (hgk : gi ≤ k) :
    Calls Tryd.prog 46 #[.pointer (some ⟨m, 0, none⟩), .int .i64 p, .int .i64 gi] w fun e w' => e = .returned (.tuple #[]) ∧ VmQ m w w' (Vm.en M p k gi) := by
  rcases Nat.eq_zero_or_pos k with h0 | h0
  · exact vmEnterZ m w V M c p k gi h hc hk hl hfl hs hgi h0 (by omega)
  · rcases Nat.eq_zero_or_pos gi with h1 | h1
    · exact vmEnterB m w V M c p k gi h hc hk hl hfl hs hgi h0 h1
    · exact vmEnterC m w V M c p k gi h hc hk hl hfl hs hgi hgk h1
end Go.Proofs.YtkjkiknpgggadaaDoor

