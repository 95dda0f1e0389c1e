/- Layer 9: the document's machine: an instruction: a leave. -/
import Derived.Test.YtkjkiknpgggadaaDoorSVmOy
import Derived.BigQuiet
import Derived.Deep.CutBlock
import Derived.Deep.DeepCutAuto
import Derived.Deep.RegionHeld3
namespace Go.Proofs.YtkjkiknpgggadaaDoor
open Go.RowKit
set_option linter.unusedVariables false
set_option linter.unusedSimpArgs false

set_option maxRecDepth 100000 in
set_option maxHeartbeats 16000000 in
theorem rOl (G : Gh) (r : Nat) (w : World) (U : RmV) (R : Vm.Rm) (B : Int) (gs : List Vm.Rf) (g : Vm.Rf) (c : Cd.Co) (op n z : Int) (h : RmS G r w U R) (a : Vm.RA B R gs g c ⟨op, n, z⟩) (wf : Vm.RW B R) (rb : Vm.RB R) (hev : R.events.length + 2 ≤ 1000000000) (hop : op = 20) :
    Calls Tryd.prog 35 #[.pointer (some ⟨r, 0, none⟩)] w fun e w' => e = .returned (.bool (Vm.ron R gs g ⟨op, n, z⟩).2) ∧ RmQ G r w w' (Vm.ron R gs g ⟨op, n, z⟩).1 := by
  have HOP := hid_of hop
  clear hop
  obtain ⟨fs, cv, sv, gf, cap, L⟩ := h.last a.hf
  have h50 : gs.length + 1 ≤ 50 := by
    have := (wf.wf ⟨default, fun _ => False, 0⟩).f50
    rw [show (Vm.abs R ⟨default, fun _ => False, 0⟩).frames = Vm.frs 0 R.frames from rfl, Vm.frs_len, a.hf, List.length_append] at this
    exact this
  obtain ⟨pl1, pl2⟩ : g.place ≤ 65536 ∧ g.stack.length ≤ 204800 := by
    obtain ⟨C0, S0, A⟩ := a.at_ ⟨default, fun _ => False, 0⟩
    have q := (wf.wf ⟨default, fun _ => False, 0⟩).nums A
    have e : (Vm.abs R ⟨default, fun _ => False, 0⟩).stack = Vm.fst R.frames := rfl
    have q3 := q.2.2.1
    rw [e, a.hf, Vm.fst_app, Vm.fst_one, List.length_append] at q3
    exact ⟨q.2.2.2.1, by omega⟩
  have HST : Hid ((Vm.fst gs).length ≤ 204800) := by
    obtain ⟨C0, S0, A⟩ := a.at_ ⟨default, fun _ => False, 0⟩
    have q3 := ((wf.wf ⟨default, fun _ => False, 0⟩).nums A).2.2.1
    rw [show (Vm.abs R ⟨default, fun _ => False, 0⟩).stack = Vm.fst R.frames from rfl, a.hf, Vm.fst_app, List.length_append] at q3
    show (Vm.fst gs).length ≤ _
    omega
  have ops : 1 ≤ op ∧ op ≤ 25 := by
    obtain ⟨C0, S0, A⟩ := a.at_ ⟨default, fun _ => False, 0⟩
    exact A.ops
  obtain ⟨T, hT⟩ : ∃ T : Nat, Cd.tk ⟨op, n, z⟩ = T := ⟨(Cd.tk ⟨op, n, z⟩).toNat, by have := a.t0; omega⟩
  have hTs : T ≤ g.stack.length := by have := a.tk; omega
  have HTK : Hid (Cd.tk ⟨op, n, z⟩ = T) := hT
  have HA : Hid (Vm.RA B R gs g c ⟨op, n, z⟩) := a
  have HW : Hid (Vm.RW B R) := wf
  have HB : Hid (Vm.RB R) := rb
  have HC : Hid (R.codes[g.proc]? = some c) := a.hc
  have HI : Hid (c.ins[g.place]? = some ⟨op, n, z⟩) := a.hi
  have HF : Hid (R.frames = gs ++ [g]) := a.hf
  obtain ⟨ng, hng⟩ : ∃ ng, ng = gs.length := ⟨_, rfl⟩
  have HNG : Hid (ng = gs.length) := hng
  obtain ⟨ns, hns⟩ : ∃ ns, ns = g.stack.length := ⟨_, rfl⟩
  have HNS : Hid (ns = g.stack.length) := hns
  have HE : Hid (R.events.length + 2 ≤ 1000000000) := hev
  obtain ⟨x8, hx8⟩ : ∃ x, x = Cd.wd op := ⟨_, rfl⟩
  obtain ⟨u8, hu8⟩ : ∃ u, u = Cd.nm op := ⟨_, rfl⟩
  obtain ⟨t8, ht8⟩ : ∃ t, t = Cd.takesL.getD op.toNat 0 := ⟨_, rfl⟩
  obtain ⟨v8, hv8⟩ : ∃ v, v = Cd.leavesL.getD op.toNat 0 := ⟨_, rfl⟩
  have EO : Hid (∀ W, Calls Tryd.prog 53 #[.int .i64 op] W fun e w' => e = .returned (.agg #[.string ⟨x8.toArray⟩, .int .i64 u8, .int .i64 t8, .int .i64 v8]) ∧ Below W.heap.size W w') := fun W => by
    have := rOf_any op W
    unfold ofV at this
    rw [if_pos ops, ← hx8, ← hu8, ← ht8, ← hv8] at this
    exact this
  have ET : Hid ((op = 19 → z = T) ∧ (op = 20 → n = T) ∧ (op ≠ 19 → op ≠ 20 → t8 = T)) := by
    refine ⟨fun e => ?_, fun e => ?_, fun e1 e2 => ?_⟩
    · rw [← hT]; unfold Cd.tk; simp [e]
    · rw [← hT]; unfold Cd.tk; simp [e]
    · rw [← hT, ht8]; unfold Cd.tk; simp [e1, e2]
  have HH : Hid (RmS G r w U R) := h
  have HL : Hid (RmL r w U gs g fs cv sv gf cap) := L
  have c1 := h.cell.2.1
  rw [L.fv, ← hng] at c1
  have hgi : (0 : Int) ≤ (ng : Int) ∧ (ng : Int) < (ng : Int) + 1 := by omega
  rw [← hng] at h50
  rw [← hns] at hTs pl2
  clear h a wf rb hev L hx8 hu8 ht8 hv8 hT hng hns
  go_enter Tryd.func35, Tryd.ntmps35
  go_wp2_with fail
  go_quiet (fail)
  have H1 : Hid (RmS G r (w.drewN nq) U R) := HH.out.later (below_drewN (Below.refl _ _) nq)
  have L1 : Hid (RmL r (w.drewN nq) U gs g fs cv sv gf cap) := HL.out.later (below_drewN (Below.refl _ _) nq)
  have B1 : Hid (Below r w (w.drewN nq)) := below_drewN (Below.refl _ _) nq
  clear c1 HH HL
  generalize w.drewN nq = W1 at H1 L1 B1 ⊢
  have s0 := H1.out.cell.1
  obtain ⟨gc, oc, ia, ic, hca, hgc, CA⟩ := H1.out.co.at HC.out
  rw [hca] at s0
  obtain ⟨gi, oi, hia, hgi2, IA⟩ := CA.hi.at HI.out
  have s1 := CA.c0
  rw [hia] at s1
  have p0 := L1.out.c0
  have p1 := L1.out.c1
  rw [← HNG.out] at p0 p1
  have q0 := IA.c0
  have q1 := IA.c1
  have q2 := IA.c2
  dsimp only at q0 q1 q2
  have hpl : g.proc < R.codes.length := (List.getElem?_eq_some_iff.1 HC.out).1
  have hil : g.place < c.ins.length := (List.getElem?_eq_some_iff.1 HI.out).1
  obtain ⟨NC, hNC⟩ : ∃ NC, NC = R.codes.length := ⟨_, rfl⟩
  obtain ⟨NI, hNI⟩ : ∃ NI, NI = c.ins.length := ⟨_, rfl⟩
  rw [← hNC] at s0 hpl
  rw [← hNI] at s1 hil
  have hpi : (g.proc : Int) < (NC : Int) := by omega
  have hii : (g.place : Int) < (NI : Int) := by omega
  have hp0 : (0 : Int) ≤ (g.proc : Int) := by omega
  have hi0 : (0 : Int) ≤ (g.place : Int) := by omega
  have zr := H1.out.lt
  have zc : gc < W1.heap.size := Nat.lt_trans (Nat.lt_of_lt_of_le hgc H1.out.lo) zr
  have zi : gi < W1.heap.size := Nat.lt_trans (Nat.lt_of_lt_of_le hgi2 H1.out.lo) zr
  have zf := L1.out.hi
  have nr : ¬ r = W1.heap.size := Nat.ne_of_lt zr
  have nc' : ¬ gc = W1.heap.size := Nat.ne_of_lt zc
  have ni : ¬ gi = W1.heap.size := Nat.ne_of_lt zi
  have nf : ¬ gf = W1.heap.size := Nat.ne_of_lt zf
  have S2 : Hid (OnS G r w R gs g op n z W1.heap.size gf cap U fs cv sv (W1.alloc (inB ⟨op, n, z⟩))) := by
    obtain ⟨t0, t1, t2, bw⟩ := in_box W1 ⟨op, n, z⟩ W1.heap.size (W1.alloc (inB ⟨op, n, z⟩)) rfl rfl
    exact ⟨B1.out.trans (bw.mono (Nat.le_of_lt zr)), H1.out.later bw, HF.out, L1.out.later bw, t0, t1, t2, by simp, zr, Nat.ne_of_gt zf⟩
  clear CA IA hia hca hgc hgi2 H1 L1 B1 hNC hNI
  go_upto_region 2 with fail
  go_cut [4] from 21 to 37 (fun s wx => ∃ ib, s = .pointer (some ⟨ib, 0, none⟩) ∧ Hid (OnS G r w R gs g op n z ib gf cap U fs cv sv wx))
  case first =>
    go_region
    all_goals
      go_wp2_with fail
      go_meet
      exact ⟨_, rfl, S2.out.later ⟨rfl, rfl, rfl, Nat.le_refl _, fun _ _ => rfl⟩⟩
  case rest =>
    obtain ⟨ib, rfl, S3⟩ := hcut
    clear S2 s0 s1 p0 p1 q0 q1 q2 nr nc' ni nf hpl hil hpi hii hp0 hi0 zc zi zf zr
    have p1 := S3.out.l.c1
    have f1 := S3.out.l.fz 1 (by omega)
    rw [← HNG.out] at p1 f1
    have S4 : Hid (OnS G r w { R with frames := gs ++ [{ g with place := g.place + 1 }] } gs { g with place := g.place + 1 } op n z ib gf cap U fs cv sv (wc.setCell ⟨gf, ng * 5 + 1, none⟩ (.int .i64 ((g.place : Int) + 1)))) := by
      rw [HNG.out]
      exact S3.out.setF (g' := { g with place := g.place + 1 }) 1 (by omega) (.int .i64 ((g.place : Int) + 1)) rfl rfl rfl
    obtain ⟨W4, hW4⟩ : ∃ W4, W4 = wc.setCell ⟨gf, ng * 5 + 1, none⟩ (.int .i64 ((g.place : Int) + 1)) := ⟨_, rfl⟩
    rw [← hW4] at S4
    have hpw : IntKind.i64.wrap ((g.place : Int) + 1) = (g.place : Int) + 1 := by rw [IntKind.wrap_i64]; omega
    clear S3
    go_upto_region 4 with fail
    rw [← hW4]
    clear hW4 p1 f1
    have i0 := S4.out.i0
    have i1 := S4.out.i1
    have i2 := S4.out.i2
    go_wp2_with fail
    refine Calls.mono (EO.out _) ?_
    rintro e5 w5 ⟨rfl, b5⟩
    have S5 := hid_of (S4.out.later b5)
    have hrf := rowF2 (.string ⟨x8.toArray⟩) (.int .i64 u8) (.int .i64 t8) (.int .i64 v8) w5
    have j0 := S5.out.i0
    have j1 := S5.out.i1
    have j2 := S5.out.i2
    clear b5 S4 i0 i1 i2 EO
    have d19 : (op == 19) = false := by
      have := HOP.out
      first
        | (have e : op = 19 := by omega
           rw [e]; rfl)
        | (have e : op ≠ 19 := by omega
           simpa using e)
    have d20 : (op == 20) = true := by
      have := HOP.out
      first
        | (have e : op = 20 := by omega
           rw [e]; rfl)
        | (have e : op ≠ 20 := by omega
           simpa using e)
    have ez : n = (T : Int) := by
      have := HOP.out
      obtain ⟨et1, et2, et3⟩ := ET.out
      first
        | exact et1 (by omega)
        | exact et2 (by omega)
        | exact et3 (by omega) (by omega)
    subst ez
    clear ET
    go_upto_region 9 with fail
    have STA := hid_of S5.out.sta
    have c4 := S5.out.l.c4
    rw [← HNG.out] at c4
    obtain ⟨lo, hlo⟩ : ∃ lo, ns = lo + T := ⟨ns - T, by omega⟩
    have HLO := hid_of hlo
    have zf5 := hid_of S5.out.l.hi
    clear hrf j0 j1 j2 d19 d20 hlo
    have hTl := hid_of (show (Vm.rtk g T).length = T by unfold Vm.rtk; rw [List.length_drop, ← HNS.out]; omega)
    go_cut [6] from 59 to 71 (fun s wx => ∃ la lc, s = .slice la T lc ∧ Hid (NuW (gf + 1) wx.heap.size wx la (Vm.rtk g T)) ∧ Hid (T = 0 → la = none ∧ lc = 0) ∧ Hid (OnS G r w { R with frames := gs ++ [{ g with place := g.place + 1 }] } gs { g with place := g.place + 1 } op (T : Int) z ib gf cap U fs cv sv wx))
    case first =>
      have EOZ : Hid (∀ X a c, Calls Tryd.prog 39 #[.slice a 0 c] X fun e w' => e = .returned (.slice none 0 0) ∧ w' = X) := fun X a c => rOwn0 X a c
      rcases STA.out with ⟨h0, hsv⟩ | ⟨zb, kc, hsv, hkc, hzb, hcell⟩
      · have e0 : ns = 0 := by rw [HNS.out, show g.stack = [] from h0]; rfl
        obtain rfl : T = 0 := by omega
        have NW : Hid (∀ X, NuW (gf + 1) X.heap.size X none (Vm.rtk g 0)) := fun X h => by rw [hTl.out] at h; omega
        rw [hsv] at c4
        clear STA hsv h0 e0
        go_region_with (first | (go_at_call 39; refine Calls.mono (EOZ.out _ _ _) ?_; rintro e6 w6 ⟨rfl, rfl⟩))
        all_goals
          go_wp2_with fail
          go_meet
          exact ⟨_, _, rfl, NW.out _, fun _ => ⟨rfl, rfl⟩, S5.out.later ⟨rfl, rfl, rfl, Nat.le_refl _, fun _ _ => rfl⟩⟩
      · have hsv' : sv = .slice (some ⟨zb, 0, none⟩) (lo + T) kc := by rw [hsv, ← HLO.out, HNS.out]
        have hkc' : lo + T ≤ kc := by rw [← HLO.out, HNS.out]; exact hkc
        rw [hsv'] at c4
        have k0 : lo + T ≤ 204800 := by rw [← HLO.out]; exact pl2
        have k1 : (0 : Int) ≤ (lo : Int) := by omega
        have k2 : (lo : Int) ≤ (lo : Int) + (T : Int) := by omega
        have k3 : (lo : Int) + (T : Int) ≤ (kc : Int) := by omega
        have k4 : IntKind.i64.wrap (lo : Int) = (lo : Int) := by rw [IntKind.wrap_i64]; omega
        have k5 : lo ≤ lo + T := by omega
        have k6 : (lo : Int) + (T : Int) - (T : Int) = (lo : Int) := by omega
        have k7 : lo + T - lo = T := by omega
        by_cases hT0 : T = 0
        · subst hT0
          have NW : Hid (∀ X, NuW (gf + 1) X.heap.size X none (Vm.rtk g 0)) := fun X h => by rw [hTl.out] at h; omega
          simp only [Nat.add_zero, Int.natCast_zero, Int.add_zero] at c4 k2 k3
          clear STA hsv hsv' hkc hcell k6 k7 k5
          by_cases hz : kc - lo = 0
          · have hz2 : (kc - lo == 0) = true := by rw [hz]; rfl
            go_region_held3 (fun w' => w'.cell? ⟨gf, ng * 5 + 4, none⟩ = some (.slice (some ⟨zb, 0, none⟩) lo kc)) (first | (exact c4) | go_keep) (first | (go_at_call 39; refine Calls.mono (EOZ.out _ _ _) ?_; rintro e6 w6 ⟨rfl, rfl⟩))
            all_goals
              go_wp2_with fail
              go_meet
              exact ⟨_, _, rfl, NW.out _, fun _ => ⟨rfl, rfl⟩, S5.out.later ⟨rfl, rfl, rfl, Nat.le_refl _, fun _ _ => rfl⟩⟩
          · have hz2 : (kc - lo == 0) = false := beq_eq_false_iff_ne.2 hz
            go_region_held3 (fun w' => w'.cell? ⟨gf, ng * 5 + 4, none⟩ = some (.slice (some ⟨zb, 0, none⟩) lo kc)) (first | (exact c4) | go_keep) (first | (go_at_call 39; refine Calls.mono (EOZ.out _ _ _) ?_; rintro e6 w6 ⟨rfl, rfl⟩))
            all_goals
              go_wp2_with fail
              go_meet
              exact ⟨_, _, rfl, NW.out _, fun _ => ⟨rfl, rfl⟩, S5.out.later ⟨rfl, rfl, rfl, Nat.le_refl _, fun _ _ => rfl⟩⟩
        · have hz : ¬ kc - lo = 0 := by omega
          have hz2 : (kc - lo == 0) = false := beq_eq_false_iff_ne.2 hz
          have EOW : Hid (∀ X, Below w5.heap.size w5 X → Calls Tryd.prog 39 #[.slice (some ⟨zb, lo, none⟩) T (kc - lo)] X fun e w' => ∃ a' c', e = .returned (.slice a' T c') ∧ Hid (NuW (gf + 1) w'.heap.size w' a' (Vm.rtk g T)) ∧ Hid (Below w5.heap.size w5 w')) := fun X hX => by
            have := rOwn X (some ⟨zb, lo, none⟩) (kc - lo) (Vm.rtk g T) (fun _ => ⟨zb, lo, rfl, Nat.lt_of_lt_of_le hzb hX.size, fun j x hj => by
              have hj' : g.stack[lo + j]? = some x := by
                unfold Vm.rtk at hj
                rw [List.getElem?_drop] at hj
                rw [← hj]
                congr 1
                have := HLO.out
                have := HNS.out
                omega
              exact (hX.cell (p := ⟨zb, lo + j, none⟩) hzb).trans (hcell _ x hj')⟩) (by rw [hTl.out]; omega) (fun e => by cases e)
            rw [hTl.out] at this
            refine this.mono fun e w' ⟨a', c', h1, h2, h3⟩ => ⟨a', c', h1, h2.mono (by have := zf5.out; have := hX.size; omega) (Nat.le_refl _), hX.trans (h3.mono hX.size)⟩
          have HT0 := hid_of hT0
          clear STA hsv hsv' hkc hcell hT0
          go_region_with (first | (go_at_call 39; refine Calls.mono (EOW.out _ (by go_grown)) ?_; rintro e6 w6 ⟨la6, lc6, rfl, N6, B6⟩))
          all_goals
            go_wp2_with fail
            go_meet
            exact ⟨_, _, rfl, N6, fun e => absurd e HT0.out, S5.out.later B6.out⟩
    case rest =>
      obtain ⟨la, lc, rfl, N6, Z6, S6⟩ := hcut
      clear S5 c4 STA zf5
      have STA := hid_of S6.out.sta
      have STK := hid_of S6.out.stk
      have c4 := S6.out.l.c4
      have f4 := S6.out.l.fz 4 (by omega)
      rw [← HNG.out] at c4 f4
      have gl := S6.out.l.lo
      go_upto_region 10 with fail
      go_cut [] from 72 to 86 (fun wx => ∃ U7 sv7, Hid (NuW (gf + 1) wx.heap.size wx la (Vm.rtk g T)) ∧ Hid (OnS G r w { R with frames := gs ++ [Vm.rf1 g T] } gs (Vm.rf1 g T) op (T : Int) z ib gf cap U7 fs cv sv7 wx))
      case first =>
        have N7 : Hid (∀ u : Value, NuW (gf + 1) (wc.setCell ⟨gf, ng * 5 + 4, none⟩ u).heap.size (wc.setCell ⟨gf, ng * 5 + 4, none⟩ u) la (Vm.rtk g T)) := fun u => by
          intro h0
          obtain ⟨g1, o1, e1, l1, l2, c1⟩ := N6.out h0
          refine ⟨g1, o1, e1, l1, by simpa using l2, fun j x hj => ?_⟩
          rw [← c1 j x hj]
          simp only [World.cell?]
          rw [heap_setCell_other _ _ g1 _ (by simp; omega)]
        rcases STA.out with ⟨h0, hsv⟩ | ⟨zb, kc, hsv, hkc, hzb, hcell⟩
        · have e0 : ns = 0 := by rw [HNS.out, show g.stack = [] from h0]; rfl
          obtain rfl : T = 0 := by omega
          have q := S6.out.cutS (sv' := .slice none 0 0) (st' := g.stack.take (g.stack.length - 0)) (by rw [show g.stack = [] from h0]; exact World.ownsRow_nil _ _ _ _) (fun b e => by cases e)
          rw [← HNG.out] at q
          have S7 := hid_of q
          rw [hsv] at c4
          clear STA hsv h0 e0 q STK
          go_region
          all_goals
            go_wp2_with fail
            go_meet
            exact ⟨_, _, (fun h0 => NuW.later (N7.out _) ⟨rfl, rfl, rfl, Nat.le_refl _, fun _ _ => rfl⟩ h0), S7.out.later ⟨rfl, rfl, rfl, Nat.le_refl _, fun _ _ => rfl⟩⟩
        · have hsv' : sv = .slice (some ⟨zb, 0, none⟩) (lo + T) kc := by rw [hsv, ← HLO.out, HNS.out]
          have hkc' : lo + T ≤ kc := by rw [← HLO.out, HNS.out]; exact hkc
          rw [hsv'] at c4
          have k0 : lo + T ≤ 204800 := by rw [← HLO.out]; exact pl2
          have k1 : (0 : Int) ≤ (lo : Int) := by omega
          have k2 : (lo : Int) ≤ (lo : Int) + (T : Int) := by omega
          have k3 : (lo : Int) ≤ (kc : Int) := by omega
          have k4 : IntKind.i64.wrap (lo : Int) = (lo : Int) := by rw [IntKind.wrap_i64]; omega
          have k6 : (lo : Int) + (T : Int) - (T : Int) = (lo : Int) := by omega
          have q : wc.ownsRow (r + 1) 2 1 (.slice (some ⟨zb, 0, none⟩) lo kc) (g.stack.take (g.stack.length - T)).length (nC (g.stack.take (g.stack.length - T))) := by
            have e1 : g.stack.length - T = lo := by have := HLO.out; have := HNS.out; omega
            have e2 : (g.stack.take lo).length = lo := by rw [List.length_take]; have := HLO.out; have := HNS.out; omega
            rw [e1, e2]
            have s := STK.out
            rw [show ({ g with place := g.place + 1 } : Vm.Rf).stack = g.stack from rfl, hsv, ← HNS.out] at s
            exact own_take s HNS.out lo (by have := HLO.out; omega)
          have q2 := S6.out.cutS q (fun b e => by rw [hsv]; exact e)
          rw [← HNG.out] at q2
          have S7 := hid_of q2
          clear STA hsv hsv' hkc hcell q q2 STK
          go_region
          all_goals
            go_wp2_with fail
            go_meet
            exact ⟨_, _, (fun h0 => NuW.later (N7.out _) ⟨rfl, rfl, rfl, Nat.le_refl _, fun _ _ => rfl⟩ h0), S7.out.later ⟨rfl, rfl, rfl, Nat.le_refl _, fun _ _ => rfl⟩⟩
      case rest =>
        obtain ⟨U7, sv7, N7, S7⟩ := hcut
        clear S6 N6 c4 f4 STA STK
        have i0 := S7.out.i0
        have i1 := S7.out.i1
        have i2 := S7.out.i2
        have hop := HOP.out
        subst hop
        have cfr := S7.out.s.cell.2.1
        rw [S7.out.l.fv, ← HNG.out] at cfr
        have ffr := S7.out.s.frozen 1
        have q := S7.out.s.pop S7.out.hf S7.out.l
        rw [← HNG.out] at q
        have S8 := hid_of q
        have kw : IntKind.i64.wrap (ng : Int) = (ng : Int) := by rw [IntKind.wrap_i64]; omega
        have k1 : (0 : Int) ≤ (ng : Int) := by omega
        have k2 : (ng : Int) ≤ (cap : Int) := by
          have ho : wc.ownsRow (r + 1) 60 5 U7.fv (gs ++ [Vm.rf1 g T]).length (rmC (gs ++ [Vm.rf1 g T]) U7.fc) := S7.out.s.rows.own (rfR U7 { R with frames := gs ++ [Vm.rf1 g T] }) (by simp)
          rw [S7.out.l.fv] at ho
          rcases ho.2 with ⟨e1, _⟩ | ⟨g', cap', cur, e1, hb, hh, h1, _⟩
          · cases e1
          · have e2 := (Value.slice.inj e1).2.2
            subst e2
            rw [List.length_append, ← HNG.out] at h1
            simp at h1
            omega
        have N8 : Hid (∀ u : Value, NuW (gf + 1) (wc.setCell ⟨r, 1, none⟩ u).heap.size (wc.setCell ⟨r, 1, none⟩ u) la (Vm.rtk g T)) := fun u => by
          intro h0
          obtain ⟨g1, o1, e1, l1, l2, c1⟩ := N7.out h0
          refine ⟨g1, o1, e1, l1, by simpa using l2, fun j x hj => ?_⟩
          rw [← c1 j x hj]
          simp only [World.cell?]
          rw [heap_setCell_other _ _ g1 _ (by simp; omega)]
        have B7 := hid_of S7.out.b
        clear q
        go_upto_region 33 with fail
        go_cut [] from 181 to 194 (fun wx => Hid (NuW (gf + 1) wx.heap.size wx la (Vm.rtk g T)) ∧ Hid (Below r w wx) ∧ Hid (RmS G r wx { U7 with fv := .slice (some ⟨gf, 0, none⟩) ng cap, fc := fs } { R with frames := gs }))
        case first =>
          go_region
          all_goals
            go_wp2_with fail
            go_meet
            exact ⟨(fun h0 => NuW.later (N8.out _) ⟨rfl, rfl, rfl, Nat.le_refl _, fun _ _ => rfl⟩ h0), (B7.out.trans S8.out.1).trans ⟨rfl, rfl, rfl, Nat.le_refl _, fun _ _ => rfl⟩, S8.out.2.later ⟨rfl, rfl, rfl, Nat.le_refl _, fun _ _ => rfl⟩⟩
        case rest =>
          obtain ⟨N9, B9, S9⟩ := hcut
          clear S8 N8 B7 S7 N7 cfr ffr i0 i1 i2
          have cfr := S9.out.cell.2.1
          dsimp only at cfr
          rcases List.eq_nil_or_concat gs with hg0 | ⟨gs1, b, hg1⟩
          · subst hg0
            obtain rfl : ng = 0 := HNG.out
            have RON : Hid (Vm.ron R [] g ⟨20, (T : Int), z⟩ = (Vm.rend { R with frames := [] } 3 0, false)) := by
              unfold Hid Vm.ron
              rw [if_neg (by simp), if_neg (by simp), if_pos rfl]
              rfl
            have EE : Hid _ := rEnd G r wc _ { R with frames := [] } 3 0 S9.out (by have := HE.out; show R.events.length ≤ _; omega)
            go_wp2_with fail
            refine Calls.mono EE.out ?_
            rintro e8 w8 ⟨rfl, q8⟩
            have FIN : Hid (Ending.returned (.bool false) = .returned (.bool (Vm.ron R [] g ⟨20, (T : Int), z⟩).2) ∧ RmQ G r w w8 (Vm.ron R [] g ⟨20, (T : Int), z⟩).1) := by
              unfold Hid
              rw [RON.out]
              exact ⟨rfl, B9.out.trans q8.1, q8.2⟩
            clear q8 EE RON
            go_wp2_with fail
            refine bodyPost_ret (v := .bool false) (by simp [results, Tryd.results35, go_sem]) rfl ?_
            exact FIN.out
          · rw [List.concat_eq_append] at hg1
            obtain ⟨n1, hn1⟩ : ∃ n1, n1 = gs1.length := ⟨_, rfl⟩
            have eng : ng = n1 + 1 := by rw [HNG.out, hg1, hn1]; simp
            have HN1 := hid_of hn1
            have RON : Hid (Vm.ron R gs g ⟨20, (T : Int), z⟩ = ({ R with frames := gs1 ++ [{ b with stack := b.stack ++ Vm.rtk g T }] }, false)) := by
              unfold Hid Vm.ron
              rw [if_neg (by simp), if_neg (by simp), if_pos rfl, HTK.out, Int.toNat_natCast, hg1]
              simp
            obtain ⟨fs2, cv2, sv2, gf2, cap2, L2⟩ := S9.out.last (gs := gs1) (g := b) hg1
            have hb := hid_of (show ({ R with frames := gs } : Vm.Rm).frames = gs1 ++ [b] from hg1)
            have e3 : Value.slice (some ⟨gf, 0, none⟩) ng cap = .slice (some ⟨gf2, 0, none⟩) (gs1.length + 1) cap2 := L2.fv
            obtain ⟨e4, e5, e6⟩ := Value.slice.inj e3
            obtain rfl : gf = gf2 := by simpa using e4
            subst e6
            have p4 := L2.c4
            have z4 := L2.fz 4 (by omega)
            rw [← hn1] at p4 z4
            have HL2 := hid_of L2
            have STK : Hid (wc.ownsRow (r + 1) 2 1 sv2 b.stack.length (nC b.stack)) := (S9.out.rowsL hb.out L2).own ⟨2, 1, sv2, b.stack.length, nC b.stack⟩ (by simp)
            rw [eng] at cfr
            have hb50 : b.stack.length ≤ 204800 := by
              have q := HST.out
              rw [hg1, Vm.fst_app, Vm.fst_one, List.length_append] at q
              omega
            clear e3 e4 e5 hg1 hn1 L2 kw k1 k2
            have kn : ¬ ((n1 : Int) + 1 = 0) := by omega
            have kn2 : (((n1 : Int) + 1) == 0) = false := by simpa using kn
            obtain ⟨sa, sc, hsv⟩ := own_shp STK.out
            have HSV := hid_of hsv
            rw [hsv] at p4
            obtain ⟨nb, hnb⟩ : ∃ nb, nb = b.stack.length := ⟨_, rfl⟩
            have HNB := hid_of hnb
            rw [← hnb] at p4 hb50
            clear hsv hnb
            have hle : nb ≤ sc := by
              rcases STK.out.2 with ⟨e1, e2⟩ | ⟨g', cap', cur, e1, _, _, h1, _⟩
              · rw [HNB.out, e2]; omega
              · have e2 := HSV.out.symm.trans e1
                have e3 := (Value.slice.inj e2).2.2
                rw [HNB.out, e3]; exact h1
            go_wp2_with fail
            go_quiet (fail)
            have bq := below_drewN (Below.refl wc.heap.size wc) nq
            have SA := hid_of (S9.out.later bq)
            have LA := hid_of (HL2.out.later bq)
            have KA := hid_of (own_lat STK.out bq)
            have BA : Hid (Below r w (wc.drewN nq)) := B9.out.trans (bq.mono (Nat.le_of_lt S9.out.lt))
            have NA : Hid (NuW (gf + 1) (wc.drewN nq).heap.size (wc.drewN nq) la (Vm.rtk g T)) := N9.out.later bq
            clear bq S9 HL2 STK B9 N9 p4 z4 cfr
            generalize wc.drewN nq = WA at SA LA KA BA NA ⊢
            have p4 := LA.out.c4
            have z4 := LA.out.fz 4 (by omega)
            rw [← HN1.out] at p4 z4
            rw [HSV.out, ← HNB.out] at p4
            by_cases hT0 : T = 0
            · subst hT0
              obtain ⟨rfl, rfl⟩ := Z6.out rfl
              have hr := fun ty => app_none64 WA sa nb sc hle none 0 ty
              have P := SA.out.cutS (sv' := sv2) (st' := b.stack) hb.out LA.out KA.out (fun _ e => e)
              rw [← HN1.out, HSV.out, ← HNB.out] at P
              have FIN : Hid (Ending.returned (.bool false) = .returned (.bool (Vm.ron R gs g ⟨20, ((0 : Nat) : Int), z⟩).2) ∧ RmQ G r w (WA.setCell ⟨gf, n1 * 5 + 4, none⟩ (.slice sa nb sc)) (Vm.ron R gs g ⟨20, ((0 : Nat) : Int), z⟩).1) := by
                unfold Hid
                rw [RON.out, rtk_zero, List.append_nil]
                exact ⟨rfl, BA.out.trans P.1, _, P.2⟩
              clear P RON KA SA LA
              go_wp2_with (at_builtin; refine Lib.wpList_append_run _ rfl _ _ _ _ rfl _ _ rfl rfl _ _ (hr _) ?_)
              refine bodyPost_ret (v := .bool false) (by simp [results, Tryd.results35, go_sem]) rfl ?_
              exact FIN.out
            · obtain ⟨i0, hi, hz0, hz1, hz2⟩ := info_parts info64
              obtain ⟨gl, ol, rfl, hgl1, hgl2, hcl⟩ := NA.out (by rw [hTl.out]; omega)
              have HX := hid_of (nC_at hcl)
              have HLN : Hid ((nC (Vm.rtk g T)).length = T * 1) := by unfold Hid; rw [show (nC (Vm.rtk g T)).length = (Vm.rtk g T).length by simp [nC], hTl.out]; omega
              have H63 : Hid (nb + T ≤ maxLen ∧ (nb + T) * 8 ≤ 140737488355328) := by unfold Hid maxLen; omega
              have HT0 := hid_of (Nat.pos_of_ne_zero hT0)
              have HB0 : Hid (r + 1 ≤ WA.heap.size) := SA.out.lt
              have KB : Hid (WA.ownsRow (r + 1) 2 1 (.slice sa nb sc) nb (nC b.stack)) := by
                unfold Hid
                have := KA.out
                rw [HSV.out, ← HNB.out] at this
                exact this
              clear hcl hT0
              go_wp2_with (at_builtin; refine wpList_app_t rfl _ _ 23 rfl (r + 1) 2 i0 (.int .i64 0) 1 8 Tryd.underlying23 hi hz0 hz1 hz2 rfl (by decide) _ _ _ rfl KB.out ⟨gl, ol, none⟩ T lc (nC (Vm.rtk g T)) rfl HLN.out HX.out (nC_one _) H63.out.1 H63.out.2 HB0.out HT0.out ?_)
              intro v8 w8 h8 g8 o8
              have h8' : w8.ownsRow (r + 1) 2 1 v8 (b.stack ++ Vm.rtk g T).length (nC (b.stack ++ Vm.rtk g T)) := by
                rw [List.length_append, hTl.out, ← HNB.out]
                simpa [nC] using h8
              have g8' : WA.grownBy w8 sv2.ownBlock := by rw [HSV.out, ← HNB.out]; exact g8
              have o8' : v8.ownBlock = sv2.ownBlock ∨ ∃ b, v8.ownBlock = some b ∧ WA.heap.size ≤ b := by rw [HSV.out, ← HNB.out]; exact o8
              have P := SA.out.growS hb.out LA.out (Below.refl _ _) h8' g8' o8'
              obtain ⟨u8', hu8, fu8⟩ := SA.out.growC hb.out LA.out (Below.refl _ _) h8' g8' o8'
              obtain ⟨va8, cap8, hv8⟩ := own_shp h8
              subst hv8
              rw [← HN1.out] at P hu8 fu8
              have FIN : Hid (Ending.returned (.bool false) = .returned (.bool (Vm.ron R gs g ⟨20, (T : Int), z⟩).2) ∧ RmQ G r w (w8.setCell ⟨gf, n1 * 5 + 4, none⟩ (.slice va8 (nb + T) cap8)) (Vm.ron R gs g ⟨20, (T : Int), z⟩).1) := by
                unfold Hid
                rw [RON.out]
                exact ⟨rfl, BA.out.trans P.1, _, P.2⟩
              clear P RON KA SA LA KB h8 h8' g8 g8' o8 o8'
              go_wp2_with fail
              refine bodyPost_ret (v := .bool false) (by simp [results, Tryd.results35, go_sem]) rfl ?_
              exact FIN.out
end Go.Proofs.YtkjkiknpgggadaaDoor

