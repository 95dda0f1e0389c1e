/- Layer 9: the document's machine: an instruction: a mark. -/
import Derived.Test.YtkjkiknpgggadaaDoorSVmOy
import Derived.BigQuiet
import Derived.Deep.CutBlock
import Derived.Deep.DeepCutAuto
import Derived.Deep.RegionHeld3
namespace Go.Proofs.YtkjkiknpgggadaaDoor
open Go.RowKit
set_option linter.unusedVariables false
set_option linter.unusedSimpArgs false

set_option maxRecDepth 100000 in
set_option maxHeartbeats 16000000 in
theorem rOm (G : Gh) (r : Nat) (w : World) (U : RmV) (R : Vm.Rm) (B : Int) (gs : List Vm.Rf) (g : Vm.Rf) (c : Cd.Co) (op n z : Int) (h : RmS G r w U R) (a : Vm.RA B R gs g c ⟨op, n, z⟩) (wf : Vm.RW B R) (rb : Vm.RB R) (hev : R.events.length + 2 ≤ 1000000000) (hop : op = 24) :
    Calls Tryd.prog 35 #[.pointer (some ⟨r, 0, none⟩)] w fun e w' => e = .returned (.bool (Vm.ron R gs g ⟨op, n, z⟩).2) ∧ RmQ G r w w' (Vm.ron R gs g ⟨op, n, z⟩).1 := by
  have HOP := hid_of hop
  clear hop
  obtain ⟨fs, cv, sv, gf, cap, L⟩ := h.last a.hf
  have h50 : gs.length + 1 ≤ 50 := by
    have := (wf.wf ⟨default, fun _ => False, 0⟩).f50
    rw [show (Vm.abs R ⟨default, fun _ => False, 0⟩).frames = Vm.frs 0 R.frames from rfl, Vm.frs_len, a.hf, List.length_append] at this
    exact this
  obtain ⟨pl1, pl2⟩ : g.place ≤ 65536 ∧ g.stack.length ≤ 204800 := by
    obtain ⟨C0, S0, A⟩ := a.at_ ⟨default, fun _ => False, 0⟩
    have q := (wf.wf ⟨default, fun _ => False, 0⟩).nums A
    have e : (Vm.abs R ⟨default, fun _ => False, 0⟩).stack = Vm.fst R.frames := rfl
    have q3 := q.2.2.1
    rw [e, a.hf, Vm.fst_app, Vm.fst_one, List.length_append] at q3
    exact ⟨q.2.2.2.1, by omega⟩
  have HST : Hid ((Vm.fst gs).length ≤ 204800) := by
    obtain ⟨C0, S0, A⟩ := a.at_ ⟨default, fun _ => False, 0⟩
    have q3 := ((wf.wf ⟨default, fun _ => False, 0⟩).nums A).2.2.1
    rw [show (Vm.abs R ⟨default, fun _ => False, 0⟩).stack = Vm.fst R.frames from rfl, a.hf, Vm.fst_app, List.length_append] at q3
    show (Vm.fst gs).length ≤ _
    omega
  have ops : 1 ≤ op ∧ op ≤ 25 := by
    obtain ⟨C0, S0, A⟩ := a.at_ ⟨default, fun _ => False, 0⟩
    exact A.ops
  obtain ⟨T, hT⟩ : ∃ T : Nat, Cd.tk ⟨op, n, z⟩ = T := ⟨(Cd.tk ⟨op, n, z⟩).toNat, by have := a.t0; omega⟩
  have hTs : T ≤ g.stack.length := by have := a.tk; omega
  have HTK : Hid (Cd.tk ⟨op, n, z⟩ = T) := hT
  have HA : Hid (Vm.RA B R gs g c ⟨op, n, z⟩) := a
  have HW : Hid (Vm.RW B R) := wf
  have HB : Hid (Vm.RB R) := rb
  have HC : Hid (R.codes[g.proc]? = some c) := a.hc
  have HI : Hid (c.ins[g.place]? = some ⟨op, n, z⟩) := a.hi
  have HF : Hid (R.frames = gs ++ [g]) := a.hf
  obtain ⟨ng, hng⟩ : ∃ ng, ng = gs.length := ⟨_, rfl⟩
  have HNG : Hid (ng = gs.length) := hng
  obtain ⟨ns, hns⟩ : ∃ ns, ns = g.stack.length := ⟨_, rfl⟩
  have HNS : Hid (ns = g.stack.length) := hns
  have HE : Hid (R.events.length + 2 ≤ 1000000000) := hev
  obtain ⟨x8, hx8⟩ : ∃ x, x = Cd.wd op := ⟨_, rfl⟩
  obtain ⟨u8, hu8⟩ : ∃ u, u = Cd.nm op := ⟨_, rfl⟩
  obtain ⟨t8, ht8⟩ : ∃ t, t = Cd.takesL.getD op.toNat 0 := ⟨_, rfl⟩
  obtain ⟨v8, hv8⟩ : ∃ v, v = Cd.leavesL.getD op.toNat 0 := ⟨_, rfl⟩
  have EO : Hid (∀ W, Calls Tryd.prog 53 #[.int .i64 op] W fun e w' => e = .returned (.agg #[.string ⟨x8.toArray⟩, .int .i64 u8, .int .i64 t8, .int .i64 v8]) ∧ Below W.heap.size W w') := fun W => by
    have := rOf_any op W
    unfold ofV at this
    rw [if_pos ops, ← hx8, ← hu8, ← ht8, ← hv8] at this
    exact this
  have ET : Hid ((op = 19 → z = T) ∧ (op = 20 → n = T) ∧ (op ≠ 19 → op ≠ 20 → t8 = T)) := by
    refine ⟨fun e => ?_, fun e => ?_, fun e1 e2 => ?_⟩
    · rw [← hT]; unfold Cd.tk; simp [e]
    · rw [← hT]; unfold Cd.tk; simp [e]
    · rw [← hT, ht8]; unfold Cd.tk; simp [e1, e2]
  have HH : Hid (RmS G r w U R) := h
  have HL : Hid (RmL r w U gs g fs cv sv gf cap) := L
  have c1 := h.cell.2.1
  rw [L.fv, ← hng] at c1
  have hgi : (0 : Int) ≤ (ng : Int) ∧ (ng : Int) < (ng : Int) + 1 := by omega
  rw [← hng] at h50
  rw [← hns] at hTs pl2
  clear h a wf rb hev L hx8 hu8 ht8 hv8 hT hng hns
  go_enter Tryd.func35, Tryd.ntmps35
  go_wp2_with fail
  go_quiet (fail)
  have H1 : Hid (RmS G r (w.drewN nq) U R) := HH.out.later (below_drewN (Below.refl _ _) nq)
  have L1 : Hid (RmL r (w.drewN nq) U gs g fs cv sv gf cap) := HL.out.later (below_drewN (Below.refl _ _) nq)
  have B1 : Hid (Below r w (w.drewN nq)) := below_drewN (Below.refl _ _) nq
  clear c1 HH HL
  generalize w.drewN nq = W1 at H1 L1 B1 ⊢
  have s0 := H1.out.cell.1
  obtain ⟨gc, oc, ia, ic, hca, hgc, CA⟩ := H1.out.co.at HC.out
  rw [hca] at s0
  obtain ⟨gi, oi, hia, hgi2, IA⟩ := CA.hi.at HI.out
  have s1 := CA.c0
  rw [hia] at s1
  have p0 := L1.out.c0
  have p1 := L1.out.c1
  rw [← HNG.out] at p0 p1
  have q0 := IA.c0
  have q1 := IA.c1
  have q2 := IA.c2
  dsimp only at q0 q1 q2
  have hpl : g.proc < R.codes.length := (List.getElem?_eq_some_iff.1 HC.out).1
  have hil : g.place < c.ins.length := (List.getElem?_eq_some_iff.1 HI.out).1
  obtain ⟨NC, hNC⟩ : ∃ NC, NC = R.codes.length := ⟨_, rfl⟩
  obtain ⟨NI, hNI⟩ : ∃ NI, NI = c.ins.length := ⟨_, rfl⟩
  rw [← hNC] at s0 hpl
  rw [← hNI] at s1 hil
  have hpi : (g.proc : Int) < (NC : Int) := by omega
  have hii : (g.place : Int) < (NI : Int) := by omega
  have hp0 : (0 : Int) ≤ (g.proc : Int) := by omega
  have hi0 : (0 : Int) ≤ (g.place : Int) := by omega
  have zr := H1.out.lt
  have zc : gc < W1.heap.size := Nat.lt_trans (Nat.lt_of_lt_of_le hgc H1.out.lo) zr
  have zi : gi < W1.heap.size := Nat.lt_trans (Nat.lt_of_lt_of_le hgi2 H1.out.lo) zr
  have zf := L1.out.hi
  have nr : ¬ r = W1.heap.size := Nat.ne_of_lt zr
  have nc' : ¬ gc = W1.heap.size := Nat.ne_of_lt zc
  have ni : ¬ gi = W1.heap.size := Nat.ne_of_lt zi
  have nf : ¬ gf = W1.heap.size := Nat.ne_of_lt zf
  have S2 : Hid (OnS G r w R gs g op n z W1.heap.size gf cap U fs cv sv (W1.alloc (inB ⟨op, n, z⟩))) := by
    obtain ⟨t0, t1, t2, bw⟩ := in_box W1 ⟨op, n, z⟩ W1.heap.size (W1.alloc (inB ⟨op, n, z⟩)) rfl rfl
    exact ⟨B1.out.trans (bw.mono (Nat.le_of_lt zr)), H1.out.later bw, HF.out, L1.out.later bw, t0, t1, t2, by simp, zr, Nat.ne_of_gt zf⟩
  clear CA IA hia hca hgc hgi2 H1 L1 B1 hNC hNI
  go_upto_region 2 with fail
  go_cut [4] from 21 to 37 (fun s wx => ∃ ib, s = .pointer (some ⟨ib, 0, none⟩) ∧ Hid (OnS G r w R gs g op n z ib gf cap U fs cv sv wx))
  case first =>
    go_region
    all_goals
      go_wp2_with fail
      go_meet
      exact ⟨_, rfl, S2.out.later ⟨rfl, rfl, rfl, Nat.le_refl _, fun _ _ => rfl⟩⟩
  case rest =>
    obtain ⟨ib, rfl, S3⟩ := hcut
    clear S2 s0 s1 p0 p1 q0 q1 q2 nr nc' ni nf hpl hil hpi hii hp0 hi0 zc zi zf zr
    have p1 := S3.out.l.c1
    have f1 := S3.out.l.fz 1 (by omega)
    rw [← HNG.out] at p1 f1
    have S4 : Hid (OnS G r w { R with frames := gs ++ [{ g with place := g.place + 1 }] } gs { g with place := g.place + 1 } op n z ib gf cap U fs cv sv (wc.setCell ⟨gf, ng * 5 + 1, none⟩ (.int .i64 ((g.place : Int) + 1)))) := by
      rw [HNG.out]
      exact S3.out.setF (g' := { g with place := g.place + 1 }) 1 (by omega) (.int .i64 ((g.place : Int) + 1)) rfl rfl rfl
    obtain ⟨W4, hW4⟩ : ∃ W4, W4 = wc.setCell ⟨gf, ng * 5 + 1, none⟩ (.int .i64 ((g.place : Int) + 1)) := ⟨_, rfl⟩
    rw [← hW4] at S4
    have hpw : IntKind.i64.wrap ((g.place : Int) + 1) = (g.place : Int) + 1 := by rw [IntKind.wrap_i64]; omega
    clear S3
    go_upto_region 4 with fail
    rw [← hW4]
    clear hW4 p1 f1
    have i0 := S4.out.i0
    have i1 := S4.out.i1
    have i2 := S4.out.i2
    go_wp2_with fail
    refine Calls.mono (EO.out _) ?_
    rintro e5 w5 ⟨rfl, b5⟩
    have S5 := hid_of (S4.out.later b5)
    have hrf := rowF2 (.string ⟨x8.toArray⟩) (.int .i64 u8) (.int .i64 t8) (.int .i64 v8) w5
    have j0 := S5.out.i0
    have j1 := S5.out.i1
    have j2 := S5.out.i2
    clear b5 S4 i0 i1 i2 EO
    have d19 : (op == 19) = false := by
      have := HOP.out
      first
        | (have e : op = 19 := by omega
           rw [e]; rfl)
        | (have e : op ≠ 19 := by omega
           simpa using e)
    have d20 : (op == 20) = false := by
      have := HOP.out
      first
        | (have e : op = 20 := by omega
           rw [e]; rfl)
        | (have e : op ≠ 20 := by omega
           simpa using e)
    have ez : t8 = (T : Int) := by
      have := HOP.out
      obtain ⟨et1, et2, et3⟩ := ET.out
      first
        | exact et1 (by omega)
        | exact et2 (by omega)
        | exact et3 (by omega) (by omega)
    subst ez
    clear ET
    go_upto_region 9 with fail
    have STA := hid_of S5.out.sta
    have c4 := S5.out.l.c4
    rw [← HNG.out] at c4
    obtain ⟨lo, hlo⟩ : ∃ lo, ns = lo + T := ⟨ns - T, by omega⟩
    have HLO := hid_of hlo
    have zf5 := hid_of S5.out.l.hi
    clear hrf j0 j1 j2 d19 d20 hlo
    have hTl := hid_of (show (Vm.rtk g T).length = T by unfold Vm.rtk; rw [List.length_drop, ← HNS.out]; omega)
    go_cut [6] from 59 to 71 (fun s wx => ∃ la lc, s = .slice la T lc ∧ Hid (NuW (gf + 1) wx.heap.size wx la (Vm.rtk g T)) ∧ Hid (T = 0 → la = none ∧ lc = 0) ∧ Hid (OnS G r w { R with frames := gs ++ [{ g with place := g.place + 1 }] } gs { g with place := g.place + 1 } op n z ib gf cap U fs cv sv wx))
    case first =>
      have EOZ : Hid (∀ X a c, Calls Tryd.prog 39 #[.slice a 0 c] X fun e w' => e = .returned (.slice none 0 0) ∧ w' = X) := fun X a c => rOwn0 X a c
      rcases STA.out with ⟨h0, hsv⟩ | ⟨zb, kc, hsv, hkc, hzb, hcell⟩
      · have e0 : ns = 0 := by rw [HNS.out, show g.stack = [] from h0]; rfl
        obtain rfl : T = 0 := by omega
        have NW : Hid (∀ X, NuW (gf + 1) X.heap.size X none (Vm.rtk g 0)) := fun X h => by rw [hTl.out] at h; omega
        rw [hsv] at c4
        clear STA hsv h0 e0
        go_region_with (first | (go_at_call 39; refine Calls.mono (EOZ.out _ _ _) ?_; rintro e6 w6 ⟨rfl, rfl⟩))
        all_goals
          go_wp2_with fail
          go_meet
          exact ⟨_, _, rfl, NW.out _, fun _ => ⟨rfl, rfl⟩, S5.out.later ⟨rfl, rfl, rfl, Nat.le_refl _, fun _ _ => rfl⟩⟩
      · have hsv' : sv = .slice (some ⟨zb, 0, none⟩) (lo + T) kc := by rw [hsv, ← HLO.out, HNS.out]
        have hkc' : lo + T ≤ kc := by rw [← HLO.out, HNS.out]; exact hkc
        rw [hsv'] at c4
        have k0 : lo + T ≤ 204800 := by rw [← HLO.out]; exact pl2
        have k1 : (0 : Int) ≤ (lo : Int) := by omega
        have k2 : (lo : Int) ≤ (lo : Int) + (T : Int) := by omega
        have k3 : (lo : Int) + (T : Int) ≤ (kc : Int) := by omega
        have k4 : IntKind.i64.wrap (lo : Int) = (lo : Int) := by rw [IntKind.wrap_i64]; omega
        have k5 : lo ≤ lo + T := by omega
        have k6 : (lo : Int) + (T : Int) - (T : Int) = (lo : Int) := by omega
        have k7 : lo + T - lo = T := by omega
        by_cases hT0 : T = 0
        · subst hT0
          have NW : Hid (∀ X, NuW (gf + 1) X.heap.size X none (Vm.rtk g 0)) := fun X h => by rw [hTl.out] at h; omega
          simp only [Nat.add_zero, Int.natCast_zero, Int.add_zero] at c4 k2 k3
          clear STA hsv hsv' hkc hcell k6 k7 k5
          by_cases hz : kc - lo = 0
          · have hz2 : (kc - lo == 0) = true := by rw [hz]; rfl
            go_region_held3 (fun w' => w'.cell? ⟨gf, ng * 5 + 4, none⟩ = some (.slice (some ⟨zb, 0, none⟩) lo kc)) (first | (exact c4) | go_keep) (first | (go_at_call 39; refine Calls.mono (EOZ.out _ _ _) ?_; rintro e6 w6 ⟨rfl, rfl⟩))
            all_goals
              go_wp2_with fail
              go_meet
              exact ⟨_, _, rfl, NW.out _, fun _ => ⟨rfl, rfl⟩, S5.out.later ⟨rfl, rfl, rfl, Nat.le_refl _, fun _ _ => rfl⟩⟩
          · have hz2 : (kc - lo == 0) = false := beq_eq_false_iff_ne.2 hz
            go_region_held3 (fun w' => w'.cell? ⟨gf, ng * 5 + 4, none⟩ = some (.slice (some ⟨zb, 0, none⟩) lo kc)) (first | (exact c4) | go_keep) (first | (go_at_call 39; refine Calls.mono (EOZ.out _ _ _) ?_; rintro e6 w6 ⟨rfl, rfl⟩))
            all_goals
              go_wp2_with fail
              go_meet
              exact ⟨_, _, rfl, NW.out _, fun _ => ⟨rfl, rfl⟩, S5.out.later ⟨rfl, rfl, rfl, Nat.le_refl _, fun _ _ => rfl⟩⟩
        · have hz : ¬ kc - lo = 0 := by omega
          have hz2 : (kc - lo == 0) = false := beq_eq_false_iff_ne.2 hz
          have EOW : Hid (∀ X, Below w5.heap.size w5 X → Calls Tryd.prog 39 #[.slice (some ⟨zb, lo, none⟩) T (kc - lo)] X fun e w' => ∃ a' c', e = .returned (.slice a' T c') ∧ Hid (NuW (gf + 1) w'.heap.size w' a' (Vm.rtk g T)) ∧ Hid (Below w5.heap.size w5 w')) := fun X hX => by
            have := rOwn X (some ⟨zb, lo, none⟩) (kc - lo) (Vm.rtk g T) (fun _ => ⟨zb, lo, rfl, Nat.lt_of_lt_of_le hzb hX.size, fun j x hj => by
              have hj' : g.stack[lo + j]? = some x := by
                unfold Vm.rtk at hj
                rw [List.getElem?_drop] at hj
                rw [← hj]
                congr 1
                have := HLO.out
                have := HNS.out
                omega
              exact (hX.cell (p := ⟨zb, lo + j, none⟩) hzb).trans (hcell _ x hj')⟩) (by rw [hTl.out]; omega) (fun e => by cases e)
            rw [hTl.out] at this
            refine this.mono fun e w' ⟨a', c', h1, h2, h3⟩ => ⟨a', c', h1, h2.mono (by have := zf5.out; have := hX.size; omega) (Nat.le_refl _), hX.trans (h3.mono hX.size)⟩
          have HT0 := hid_of hT0
          clear STA hsv hsv' hkc hcell hT0
          go_region_with (first | (go_at_call 39; refine Calls.mono (EOW.out _ (by go_grown)) ?_; rintro e6 w6 ⟨la6, lc6, rfl, N6, B6⟩))
          all_goals
            go_wp2_with fail
            go_meet
            exact ⟨_, _, rfl, N6, fun e => absurd e HT0.out, S5.out.later B6.out⟩
    case rest =>
      obtain ⟨la, lc, rfl, N6, Z6, S6⟩ := hcut
      clear S5 c4 STA zf5
      have STA := hid_of S6.out.sta
      have STK := hid_of S6.out.stk
      have c4 := S6.out.l.c4
      have f4 := S6.out.l.fz 4 (by omega)
      rw [← HNG.out] at c4 f4
      have gl := S6.out.l.lo
      go_upto_region 10 with fail
      go_cut [] from 72 to 86 (fun wx => ∃ U7 sv7, Hid (NuW (gf + 1) wx.heap.size wx la (Vm.rtk g T)) ∧ Hid (OnS G r w { R with frames := gs ++ [Vm.rf1 g T] } gs (Vm.rf1 g T) op n z ib gf cap U7 fs cv sv7 wx))
      case first =>
        have N7 : Hid (∀ u : Value, NuW (gf + 1) (wc.setCell ⟨gf, ng * 5 + 4, none⟩ u).heap.size (wc.setCell ⟨gf, ng * 5 + 4, none⟩ u) la (Vm.rtk g T)) := fun u => by
          intro h0
          obtain ⟨g1, o1, e1, l1, l2, c1⟩ := N6.out h0
          refine ⟨g1, o1, e1, l1, by simpa using l2, fun j x hj => ?_⟩
          rw [← c1 j x hj]
          simp only [World.cell?]
          rw [heap_setCell_other _ _ g1 _ (by simp; omega)]
        rcases STA.out with ⟨h0, hsv⟩ | ⟨zb, kc, hsv, hkc, hzb, hcell⟩
        · have e0 : ns = 0 := by rw [HNS.out, show g.stack = [] from h0]; rfl
          obtain rfl : T = 0 := by omega
          have q := S6.out.cutS (sv' := .slice none 0 0) (st' := g.stack.take (g.stack.length - 0)) (by rw [show g.stack = [] from h0]; exact World.ownsRow_nil _ _ _ _) (fun b e => by cases e)
          rw [← HNG.out] at q
          have S7 := hid_of q
          rw [hsv] at c4
          clear STA hsv h0 e0 q STK
          go_region
          all_goals
            go_wp2_with fail
            go_meet
            exact ⟨_, _, (fun h0 => NuW.later (N7.out _) ⟨rfl, rfl, rfl, Nat.le_refl _, fun _ _ => rfl⟩ h0), S7.out.later ⟨rfl, rfl, rfl, Nat.le_refl _, fun _ _ => rfl⟩⟩
        · have hsv' : sv = .slice (some ⟨zb, 0, none⟩) (lo + T) kc := by rw [hsv, ← HLO.out, HNS.out]
          have hkc' : lo + T ≤ kc := by rw [← HLO.out, HNS.out]; exact hkc
          rw [hsv'] at c4
          have k0 : lo + T ≤ 204800 := by rw [← HLO.out]; exact pl2
          have k1 : (0 : Int) ≤ (lo : Int) := by omega
          have k2 : (lo : Int) ≤ (lo : Int) + (T : Int) := by omega
          have k3 : (lo : Int) ≤ (kc : Int) := by omega
          have k4 : IntKind.i64.wrap (lo : Int) = (lo : Int) := by rw [IntKind.wrap_i64]; omega
          have k6 : (lo : Int) + (T : Int) - (T : Int) = (lo : Int) := by omega
          have q : wc.ownsRow (r + 1) 2 1 (.slice (some ⟨zb, 0, none⟩) lo kc) (g.stack.take (g.stack.length - T)).length (nC (g.stack.take (g.stack.length - T))) := by
            have e1 : g.stack.length - T = lo := by have := HLO.out; have := HNS.out; omega
            have e2 : (g.stack.take lo).length = lo := by rw [List.length_take]; have := HLO.out; have := HNS.out; omega
            rw [e1, e2]
            have s := STK.out
            rw [show ({ g with place := g.place + 1 } : Vm.Rf).stack = g.stack from rfl, hsv, ← HNS.out] at s
            exact own_take s HNS.out lo (by have := HLO.out; omega)
          have q2 := S6.out.cutS q (fun b e => by rw [hsv]; exact e)
          rw [← HNG.out] at q2
          have S7 := hid_of q2
          clear STA hsv hsv' hkc hcell q q2 STK
          go_region
          all_goals
            go_wp2_with fail
            go_meet
            exact ⟨_, _, (fun h0 => NuW.later (N7.out _) ⟨rfl, rfl, rfl, Nat.le_refl _, fun _ _ => rfl⟩ h0), S7.out.later ⟨rfl, rfl, rfl, Nat.le_refl _, fun _ _ => rfl⟩⟩
      case rest =>
        obtain ⟨U7, sv7, N7, S7⟩ := hcut
        clear S6 N6 c4 f4 STA STK
        have i0 := S7.out.i0
        have i1 := S7.out.i1
        have i2 := S7.out.i2
        have hop := HOP.out
        subst hop
        have w0 := HW.out.wf ⟨default, fun _ => False, 0⟩
        have hfu0 : 0 ≤ R.fuel := w0.fu
        have hti0 : 0 ≤ R.ticks := w0.ti
        have hsu : R.ticks + R.fuel ≤ 10000000 := w0.su
        obtain rfl : T = 0 := by have := HTK.out; simp [Cd.tk, Cd.takesL] at this; omega
        have cfu := S7.out.s.cell.2.2.2.2.1
        dsimp only at cfu
        by_cases hfu : R.fuel = 0
        · have RON : Hid (Vm.ron R gs g ⟨24, n, z⟩ = (Vm.rend { R with frames := gs ++ [Vm.rf1 g 0] } 5 0, false)) := by
            unfold Hid Vm.ron
            rw [if_pos rfl, if_pos hfu]
          have EE : Hid _ := rEnd G r wc U7 { R with frames := gs ++ [Vm.rf1 g 0] } 5 0 S7.out.s (by have := HE.out; show R.events.length ≤ _; omega)
          rw [hfu] at cfu
          clear w0 hfu0 hti0 hsu hfu
          go_wp2_with fail
          refine Calls.mono EE.out ?_
          rintro e8 w8 ⟨rfl, q8⟩
          have FIN : Hid (Ending.returned (.bool false) = .returned (.bool (Vm.ron R gs g ⟨24, n, z⟩).2) ∧ RmQ G r w w8 (Vm.ron R gs g ⟨24, n, z⟩).1) := by
            unfold Hid
            rw [RON.out]
            exact ⟨rfl, S7.out.b.trans q8.1, q8.2⟩
          clear q8 EE RON
          go_wp2_with fail
          refine bodyPost_ret (v := .bool false) (by simp [results, Tryd.results35, go_sem]) rfl ?_
          exact FIN.out
        · have dfu : (R.fuel == 0) = false := by simpa using hfu
          obtain ⟨fu, hfuE⟩ : ∃ fu, fu = R.fuel - 1 := ⟨_, rfl⟩
          obtain ⟨ti, htiE⟩ : ∃ ti, ti = R.ticks + 1 := ⟨_, rfl⟩
          have k1 : IntKind.i64.wrap (R.fuel - 1) = fu := by rw [IntKind.wrap_i64, hfuE]; omega
          have k2 : IntKind.i64.wrap (R.ticks + 1) = ti := by rw [IntKind.wrap_i64, htiE]; omega
          have RON : Hid (Vm.ron R gs g ⟨24, n, z⟩ = ({ R with fuel := fu, ticks := ti, frames := gs ++ [{ Vm.rf1 g 0 with mark := n }], t0 := z, t1 := g.proc, t2 := n, t3 := (ng : Int) + 1 }, true)) := by
            unfold Hid Vm.ron
            rw [if_pos rfl, if_neg hfu, HNG.out, hfuE, htiE]
          have cfz := S7.out.s.frozen 4
          have S8 := hid_of (S7.out.setFu fu)
          obtain ⟨W8, hW8⟩ : ∃ W8, W8 = wc.setCell ⟨r, 4, none⟩ (.int .i64 fu) := ⟨_, rfl⟩
          rw [← hW8] at S8
          clear hfuE htiE w0 hfu0 hti0 hsu hfu S7 N7
          go_upto_region 23 with fail
          rw [← hW8]
          clear hW8 cfu cfz i0 i1 i2
          have cti := S8.out.s.cell.2.2.2.2.2.1
          dsimp only at cti
          have ctz := S8.out.s.frozen 5
          have S9 := hid_of (S8.out.setTi ti)
          obtain ⟨W9, hW9⟩ : ∃ W9, W9 = W8.setCell ⟨r, 5, none⟩ (.int .i64 ti) := ⟨_, rfl⟩
          rw [← hW9] at S9
          clear S8
          go_upto_region 24 with fail
          rw [← hW9]
          clear hW9 cti ctz
          have i1 := S9.out.i1
          have m2 := S9.out.l.c2
          have m2z := S9.out.l.fz 2 (by omega)
          rw [← HNG.out] at m2 m2z
          have q := S9.out.setF (g' := { Vm.rf1 g 0 with mark := n }) 2 (by omega) (.int .i64 n) rfl rfl rfl
          rw [← HNG.out] at q
          have S10 := hid_of q
          obtain ⟨W10, hW10⟩ : ∃ W10, W10 = W9.setCell ⟨gf, ng * 5 + 2, none⟩ (.int .i64 n) := ⟨_, rfl⟩
          rw [← hW10] at S10
          clear S9 q
          go_upto_region 25 with fail
          rw [← hW10]
          clear hW10 m2 m2z i1
          have i2 := S10.out.i2
          have m0 := S10.out.l.c0
          have m2 := S10.out.l.c2
          rw [← HNG.out] at m0 m2
          dsimp only at m0 m2
          have fr := S10.out.s.cell.2.1
          have lv := S10.out.l.fv
          rw [lv, ← HNG.out] at fr
          obtain ⟨t0, t1, t2, t3⟩ := S10.out.s.tick
          have z6 := S10.out.s.frozen 6
          have z7 := S10.out.s.frozen 7
          have z8 := S10.out.s.frozen 8
          have z9 := S10.out.s.frozen 9
          have P := S10.out.s.setT z g.proc n ((ng : Int) + 1)
          have BB := S10.out.b
          have FIN : Hid (RmQ G r w ((((W10.setCell ⟨r, 6, none⟩ (.int .i64 z)).setCell ⟨r, 7, none⟩ (.int .i64 g.proc)).setCell ⟨r, 8, none⟩ (.int .i64 n)).setCell ⟨r, 9, none⟩ (.int .i64 ((ng : Int) + 1))) (Vm.ron R gs g ⟨24, n, z⟩).1) := by
            unfold Hid
            rw [RON.out]
            exact ⟨BB.trans P.1, U7, P.2⟩
          have RN2 : Hid (Ending.returned (.bool true) = .returned (.bool (Vm.ron R gs g ⟨24, n, z⟩).2)) := by unfold Hid; rw [RON.out]
          clear S10 P BB RON lv
          go_region
          all_goals
            go_wp2_with fail
            refine bodyPost_ret (v := .bool true) (by simp [results, Tryd.results35, go_sem]) rfl ?_
            exact ⟨RN2.out, RmQ.drew FIN.out⟩
end Go.Proofs.YtkjkiknpgggadaaDoor

