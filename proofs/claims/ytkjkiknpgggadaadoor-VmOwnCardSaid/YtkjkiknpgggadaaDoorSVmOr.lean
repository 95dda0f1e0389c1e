/- Layer 9: the document's machine: an instruction: a read. -/
import Derived.Test.YtkjkiknpgggadaaDoorSVmOy
import Derived.BigQuiet
import Derived.Deep.CutBlock
import Derived.Deep.DeepCutAuto
import Derived.Deep.RegionHeld3
namespace Go.Proofs.YtkjkiknpgggadaaDoor
open Go.RowKit
set_option linter.unusedVariables false
set_option linter.unusedSimpArgs false

set_option maxRecDepth 100000 in
set_option maxHeartbeats 16000000 in
theorem rOr (G : Gh) (r : Nat) (w : World) (U : RmV) (R : Vm.Rm) (B : Int) (gs : List Vm.Rf) (g : Vm.Rf) (c : Cd.Co) (op n z : Int) (h : RmS G r w U R) (a : Vm.RA B R gs g c ⟨op, n, z⟩) (wf : Vm.RW B R) (rb : Vm.RB R) (hev : R.events.length + 2 ≤ 1000000000) (hop : op = 22) :
    Calls Tryd.prog 35 #[.pointer (some ⟨r, 0, none⟩)] w fun e w' => e = .returned (.bool (Vm.ron R gs g ⟨op, n, z⟩).2) ∧ RmQ G r w w' (Vm.ron R gs g ⟨op, n, z⟩).1 := by
  have HOP := hid_of hop
  clear hop
  obtain ⟨fs, cv, sv, gf, cap, L⟩ := h.last a.hf
  have h50 : gs.length + 1 ≤ 50 := by
    have := (wf.wf ⟨default, fun _ => False, 0⟩).f50
    rw [show (Vm.abs R ⟨default, fun _ => False, 0⟩).frames = Vm.frs 0 R.frames from rfl, Vm.frs_len, a.hf, List.length_append] at this
    exact this
  obtain ⟨pl1, pl2⟩ : g.place ≤ 65536 ∧ g.stack.length ≤ 204800 := by
    obtain ⟨C0, S0, A⟩ := a.at_ ⟨default, fun _ => False, 0⟩
    have q := (wf.wf ⟨default, fun _ => False, 0⟩).nums A
    have e : (Vm.abs R ⟨default, fun _ => False, 0⟩).stack = Vm.fst R.frames := rfl
    have q3 := q.2.2.1
    rw [e, a.hf, Vm.fst_app, Vm.fst_one, List.length_append] at q3
    exact ⟨q.2.2.2.1, by omega⟩
  have HST : Hid ((Vm.fst gs).length ≤ 204800) := by
    obtain ⟨C0, S0, A⟩ := a.at_ ⟨default, fun _ => False, 0⟩
    have q3 := ((wf.wf ⟨default, fun _ => False, 0⟩).nums A).2.2.1
    rw [show (Vm.abs R ⟨default, fun _ => False, 0⟩).stack = Vm.fst R.frames from rfl, a.hf, Vm.fst_app, List.length_append] at q3
    show (Vm.fst gs).length ≤ _
    omega
  have ops : 1 ≤ op ∧ op ≤ 25 := by
    obtain ⟨C0, S0, A⟩ := a.at_ ⟨default, fun _ => False, 0⟩
    exact A.ops
  obtain ⟨T, hT⟩ : ∃ T : Nat, Cd.tk ⟨op, n, z⟩ = T := ⟨(Cd.tk ⟨op, n, z⟩).toNat, by have := a.t0; omega⟩
  have hTs : T ≤ g.stack.length := by have := a.tk; omega
  have HTK : Hid (Cd.tk ⟨op, n, z⟩ = T) := hT
  have HA : Hid (Vm.RA B R gs g c ⟨op, n, z⟩) := a
  have HW : Hid (Vm.RW B R) := wf
  have HB : Hid (Vm.RB R) := rb
  have HC : Hid (R.codes[g.proc]? = some c) := a.hc
  have HI : Hid (c.ins[g.place]? = some ⟨op, n, z⟩) := a.hi
  have HF : Hid (R.frames = gs ++ [g]) := a.hf
  obtain ⟨ng, hng⟩ : ∃ ng, ng = gs.length := ⟨_, rfl⟩
  have HNG : Hid (ng = gs.length) := hng
  obtain ⟨ns, hns⟩ : ∃ ns, ns = g.stack.length := ⟨_, rfl⟩
  have HNS : Hid (ns = g.stack.length) := hns
  have HE : Hid (R.events.length + 2 ≤ 1000000000) := hev
  obtain ⟨x8, hx8⟩ : ∃ x, x = Cd.wd op := ⟨_, rfl⟩
  obtain ⟨u8, hu8⟩ : ∃ u, u = Cd.nm op := ⟨_, rfl⟩
  obtain ⟨t8, ht8⟩ : ∃ t, t = Cd.takesL.getD op.toNat 0 := ⟨_, rfl⟩
  obtain ⟨v8, hv8⟩ : ∃ v, v = Cd.leavesL.getD op.toNat 0 := ⟨_, rfl⟩
  have EO : Hid (∀ W, Calls Tryd.prog 53 #[.int .i64 op] W fun e w' => e = .returned (.agg #[.string ⟨x8.toArray⟩, .int .i64 u8, .int .i64 t8, .int .i64 v8]) ∧ Below W.heap.size W w') := fun W => by
    have := rOf_any op W
    unfold ofV at this
    rw [if_pos ops, ← hx8, ← hu8, ← ht8, ← hv8] at this
    exact this
  have ET : Hid ((op = 19 → z = T) ∧ (op = 20 → n = T) ∧ (op ≠ 19 → op ≠ 20 → t8 = T)) := by
    refine ⟨fun e => ?_, fun e => ?_, fun e1 e2 => ?_⟩
    · rw [← hT]; unfold Cd.tk; simp [e]
    · rw [← hT]; unfold Cd.tk; simp [e]
    · rw [← hT, ht8]; unfold Cd.tk; simp [e1, e2]
  have HH : Hid (RmS G r w U R) := h
  have HL : Hid (RmL r w U gs g fs cv sv gf cap) := L
  have c1 := h.cell.2.1
  rw [L.fv, ← hng] at c1
  have hgi : (0 : Int) ≤ (ng : Int) ∧ (ng : Int) < (ng : Int) + 1 := by omega
  rw [← hng] at h50
  rw [← hns] at hTs pl2
  clear h a wf rb hev L hx8 hu8 ht8 hv8 hT hng hns
  go_enter Tryd.func35, Tryd.ntmps35
  go_wp2_with fail
  go_quiet (fail)
  have H1 : Hid (RmS G r (w.drewN nq) U R) := HH.out.later (below_drewN (Below.refl _ _) nq)
  have L1 : Hid (RmL r (w.drewN nq) U gs g fs cv sv gf cap) := HL.out.later (below_drewN (Below.refl _ _) nq)
  have B1 : Hid (Below r w (w.drewN nq)) := below_drewN (Below.refl _ _) nq
  clear c1 HH HL
  generalize w.drewN nq = W1 at H1 L1 B1 ⊢
  have s0 := H1.out.cell.1
  obtain ⟨gc, oc, ia, ic, hca, hgc, CA⟩ := H1.out.co.at HC.out
  rw [hca] at s0
  obtain ⟨gi, oi, hia, hgi2, IA⟩ := CA.hi.at HI.out
  have s1 := CA.c0
  rw [hia] at s1
  have p0 := L1.out.c0
  have p1 := L1.out.c1
  rw [← HNG.out] at p0 p1
  have q0 := IA.c0
  have q1 := IA.c1
  have q2 := IA.c2
  dsimp only at q0 q1 q2
  have hpl : g.proc < R.codes.length := (List.getElem?_eq_some_iff.1 HC.out).1
  have hil : g.place < c.ins.length := (List.getElem?_eq_some_iff.1 HI.out).1
  obtain ⟨NC, hNC⟩ : ∃ NC, NC = R.codes.length := ⟨_, rfl⟩
  obtain ⟨NI, hNI⟩ : ∃ NI, NI = c.ins.length := ⟨_, rfl⟩
  rw [← hNC] at s0 hpl
  rw [← hNI] at s1 hil
  have hpi : (g.proc : Int) < (NC : Int) := by omega
  have hii : (g.place : Int) < (NI : Int) := by omega
  have hp0 : (0 : Int) ≤ (g.proc : Int) := by omega
  have hi0 : (0 : Int) ≤ (g.place : Int) := by omega
  have zr := H1.out.lt
  have zc : gc < W1.heap.size := Nat.lt_trans (Nat.lt_of_lt_of_le hgc H1.out.lo) zr
  have zi : gi < W1.heap.size := Nat.lt_trans (Nat.lt_of_lt_of_le hgi2 H1.out.lo) zr
  have zf := L1.out.hi
  have nr : ¬ r = W1.heap.size := Nat.ne_of_lt zr
  have nc' : ¬ gc = W1.heap.size := Nat.ne_of_lt zc
  have ni : ¬ gi = W1.heap.size := Nat.ne_of_lt zi
  have nf : ¬ gf = W1.heap.size := Nat.ne_of_lt zf
  have S2 : Hid (OnS G r w R gs g op n z W1.heap.size gf cap U fs cv sv (W1.alloc (inB ⟨op, n, z⟩))) := by
    obtain ⟨t0, t1, t2, bw⟩ := in_box W1 ⟨op, n, z⟩ W1.heap.size (W1.alloc (inB ⟨op, n, z⟩)) rfl rfl
    exact ⟨B1.out.trans (bw.mono (Nat.le_of_lt zr)), H1.out.later bw, HF.out, L1.out.later bw, t0, t1, t2, by simp, zr, Nat.ne_of_gt zf⟩
  clear CA IA hia hca hgc hgi2 H1 L1 B1 hNC hNI
  go_upto_region 2 with fail
  go_cut [4] from 21 to 37 (fun s wx => ∃ ib, s = .pointer (some ⟨ib, 0, none⟩) ∧ Hid (OnS G r w R gs g op n z ib gf cap U fs cv sv wx))
  case first =>
    go_region
    all_goals
      go_wp2_with fail
      go_meet
      exact ⟨_, rfl, S2.out.later ⟨rfl, rfl, rfl, Nat.le_refl _, fun _ _ => rfl⟩⟩
  case rest =>
    obtain ⟨ib, rfl, S3⟩ := hcut
    clear S2 s0 s1 p0 p1 q0 q1 q2 nr nc' ni nf hpl hil hpi hii hp0 hi0 zc zi zf zr
    have p1 := S3.out.l.c1
    have f1 := S3.out.l.fz 1 (by omega)
    rw [← HNG.out] at p1 f1
    have S4 : Hid (OnS G r w { R with frames := gs ++ [{ g with place := g.place + 1 }] } gs { g with place := g.place + 1 } op n z ib gf cap U fs cv sv (wc.setCell ⟨gf, ng * 5 + 1, none⟩ (.int .i64 ((g.place : Int) + 1)))) := by
      rw [HNG.out]
      exact S3.out.setF (g' := { g with place := g.place + 1 }) 1 (by omega) (.int .i64 ((g.place : Int) + 1)) rfl rfl rfl
    obtain ⟨W4, hW4⟩ : ∃ W4, W4 = wc.setCell ⟨gf, ng * 5 + 1, none⟩ (.int .i64 ((g.place : Int) + 1)) := ⟨_, rfl⟩
    rw [← hW4] at S4
    have hpw : IntKind.i64.wrap ((g.place : Int) + 1) = (g.place : Int) + 1 := by rw [IntKind.wrap_i64]; omega
    clear S3
    go_upto_region 4 with fail
    rw [← hW4]
    clear hW4 p1 f1
    have i0 := S4.out.i0
    have i1 := S4.out.i1
    have i2 := S4.out.i2
    go_wp2_with fail
    refine Calls.mono (EO.out _) ?_
    rintro e5 w5 ⟨rfl, b5⟩
    have S5 := hid_of (S4.out.later b5)
    have hrf := rowF2 (.string ⟨x8.toArray⟩) (.int .i64 u8) (.int .i64 t8) (.int .i64 v8) w5
    have j0 := S5.out.i0
    have j1 := S5.out.i1
    have j2 := S5.out.i2
    clear b5 S4 i0 i1 i2 EO
    have d19 : (op == 19) = false := by
      have := HOP.out
      first
        | (have e : op = 19 := by omega
           rw [e]; rfl)
        | (have e : op ≠ 19 := by omega
           simpa using e)
    have d20 : (op == 20) = false := by
      have := HOP.out
      first
        | (have e : op = 20 := by omega
           rw [e]; rfl)
        | (have e : op ≠ 20 := by omega
           simpa using e)
    have ez : t8 = (T : Int) := by
      have := HOP.out
      obtain ⟨et1, et2, et3⟩ := ET.out
      first
        | exact et1 (by omega)
        | exact et2 (by omega)
        | exact et3 (by omega) (by omega)
    subst ez
    clear ET
    go_upto_region 9 with fail
    have STA := hid_of S5.out.sta
    have c4 := S5.out.l.c4
    rw [← HNG.out] at c4
    obtain ⟨lo, hlo⟩ : ∃ lo, ns = lo + T := ⟨ns - T, by omega⟩
    have HLO := hid_of hlo
    have zf5 := hid_of S5.out.l.hi
    clear hrf j0 j1 j2 d19 d20 hlo
    have hTl := hid_of (show (Vm.rtk g T).length = T by unfold Vm.rtk; rw [List.length_drop, ← HNS.out]; omega)
    go_cut [6] from 59 to 71 (fun s wx => ∃ la lc, s = .slice la T lc ∧ Hid (NuW (gf + 1) wx.heap.size wx la (Vm.rtk g T)) ∧ Hid (T = 0 → la = none ∧ lc = 0) ∧ Hid (OnS G r w { R with frames := gs ++ [{ g with place := g.place + 1 }] } gs { g with place := g.place + 1 } op n z ib gf cap U fs cv sv wx))
    case first =>
      have EOZ : Hid (∀ X a c, Calls Tryd.prog 39 #[.slice a 0 c] X fun e w' => e = .returned (.slice none 0 0) ∧ w' = X) := fun X a c => rOwn0 X a c
      rcases STA.out with ⟨h0, hsv⟩ | ⟨zb, kc, hsv, hkc, hzb, hcell⟩
      · have e0 : ns = 0 := by rw [HNS.out, show g.stack = [] from h0]; rfl
        obtain rfl : T = 0 := by omega
        have NW : Hid (∀ X, NuW (gf + 1) X.heap.size X none (Vm.rtk g 0)) := fun X h => by rw [hTl.out] at h; omega
        rw [hsv] at c4
        clear STA hsv h0 e0
        go_region_with (first | (go_at_call 39; refine Calls.mono (EOZ.out _ _ _) ?_; rintro e6 w6 ⟨rfl, rfl⟩))
        all_goals
          go_wp2_with fail
          go_meet
          exact ⟨_, _, rfl, NW.out _, fun _ => ⟨rfl, rfl⟩, S5.out.later ⟨rfl, rfl, rfl, Nat.le_refl _, fun _ _ => rfl⟩⟩
      · have hsv' : sv = .slice (some ⟨zb, 0, none⟩) (lo + T) kc := by rw [hsv, ← HLO.out, HNS.out]
        have hkc' : lo + T ≤ kc := by rw [← HLO.out, HNS.out]; exact hkc
        rw [hsv'] at c4
        have k0 : lo + T ≤ 204800 := by rw [← HLO.out]; exact pl2
        have k1 : (0 : Int) ≤ (lo : Int) := by omega
        have k2 : (lo : Int) ≤ (lo : Int) + (T : Int) := by omega
        have k3 : (lo : Int) + (T : Int) ≤ (kc : Int) := by omega
        have k4 : IntKind.i64.wrap (lo : Int) = (lo : Int) := by rw [IntKind.wrap_i64]; omega
        have k5 : lo ≤ lo + T := by omega
        have k6 : (lo : Int) + (T : Int) - (T : Int) = (lo : Int) := by omega
        have k7 : lo + T - lo = T := by omega
        by_cases hT0 : T = 0
        · subst hT0
          have NW : Hid (∀ X, NuW (gf + 1) X.heap.size X none (Vm.rtk g 0)) := fun X h => by rw [hTl.out] at h; omega
          simp only [Nat.add_zero, Int.natCast_zero, Int.add_zero] at c4 k2 k3
          clear STA hsv hsv' hkc hcell k6 k7 k5
          by_cases hz : kc - lo = 0
          · have hz2 : (kc - lo == 0) = true := by rw [hz]; rfl
            go_region_held3 (fun w' => w'.cell? ⟨gf, ng * 5 + 4, none⟩ = some (.slice (some ⟨zb, 0, none⟩) lo kc)) (first | (exact c4) | go_keep) (first | (go_at_call 39; refine Calls.mono (EOZ.out _ _ _) ?_; rintro e6 w6 ⟨rfl, rfl⟩))
            all_goals
              go_wp2_with fail
              go_meet
              exact ⟨_, _, rfl, NW.out _, fun _ => ⟨rfl, rfl⟩, S5.out.later ⟨rfl, rfl, rfl, Nat.le_refl _, fun _ _ => rfl⟩⟩
          · have hz2 : (kc - lo == 0) = false := beq_eq_false_iff_ne.2 hz
            go_region_held3 (fun w' => w'.cell? ⟨gf, ng * 5 + 4, none⟩ = some (.slice (some ⟨zb, 0, none⟩) lo kc)) (first | (exact c4) | go_keep) (first | (go_at_call 39; refine Calls.mono (EOZ.out _ _ _) ?_; rintro e6 w6 ⟨rfl, rfl⟩))
            all_goals
              go_wp2_with fail
              go_meet
              exact ⟨_, _, rfl, NW.out _, fun _ => ⟨rfl, rfl⟩, S5.out.later ⟨rfl, rfl, rfl, Nat.le_refl _, fun _ _ => rfl⟩⟩
        · have hz : ¬ kc - lo = 0 := by omega
          have hz2 : (kc - lo == 0) = false := beq_eq_false_iff_ne.2 hz
          have EOW : Hid (∀ X, Below w5.heap.size w5 X → Calls Tryd.prog 39 #[.slice (some ⟨zb, lo, none⟩) T (kc - lo)] X fun e w' => ∃ a' c', e = .returned (.slice a' T c') ∧ Hid (NuW (gf + 1) w'.heap.size w' a' (Vm.rtk g T)) ∧ Hid (Below w5.heap.size w5 w')) := fun X hX => by
            have := rOwn X (some ⟨zb, lo, none⟩) (kc - lo) (Vm.rtk g T) (fun _ => ⟨zb, lo, rfl, Nat.lt_of_lt_of_le hzb hX.size, fun j x hj => by
              have hj' : g.stack[lo + j]? = some x := by
                unfold Vm.rtk at hj
                rw [List.getElem?_drop] at hj
                rw [← hj]
                congr 1
                have := HLO.out
                have := HNS.out
                omega
              exact (hX.cell (p := ⟨zb, lo + j, none⟩) hzb).trans (hcell _ x hj')⟩) (by rw [hTl.out]; omega) (fun e => by cases e)
            rw [hTl.out] at this
            refine this.mono fun e w' ⟨a', c', h1, h2, h3⟩ => ⟨a', c', h1, h2.mono (by have := zf5.out; have := hX.size; omega) (Nat.le_refl _), hX.trans (h3.mono hX.size)⟩
          have HT0 := hid_of hT0
          clear STA hsv hsv' hkc hcell hT0
          go_region_with (first | (go_at_call 39; refine Calls.mono (EOW.out _ (by go_grown)) ?_; rintro e6 w6 ⟨la6, lc6, rfl, N6, B6⟩))
          all_goals
            go_wp2_with fail
            go_meet
            exact ⟨_, _, rfl, N6, fun e => absurd e HT0.out, S5.out.later B6.out⟩
    case rest =>
      obtain ⟨la, lc, rfl, N6, Z6, S6⟩ := hcut
      clear S5 c4 STA zf5
      have STA := hid_of S6.out.sta
      have STK := hid_of S6.out.stk
      have c4 := S6.out.l.c4
      have f4 := S6.out.l.fz 4 (by omega)
      rw [← HNG.out] at c4 f4
      have gl := S6.out.l.lo
      go_upto_region 10 with fail
      go_cut [] from 72 to 86 (fun wx => ∃ U7 sv7, Hid (NuW (gf + 1) wx.heap.size wx la (Vm.rtk g T)) ∧ Hid (OnS G r w { R with frames := gs ++ [Vm.rf1 g T] } gs (Vm.rf1 g T) op n z ib gf cap U7 fs cv sv7 wx))
      case first =>
        have N7 : Hid (∀ u : Value, NuW (gf + 1) (wc.setCell ⟨gf, ng * 5 + 4, none⟩ u).heap.size (wc.setCell ⟨gf, ng * 5 + 4, none⟩ u) la (Vm.rtk g T)) := fun u => by
          intro h0
          obtain ⟨g1, o1, e1, l1, l2, c1⟩ := N6.out h0
          refine ⟨g1, o1, e1, l1, by simpa using l2, fun j x hj => ?_⟩
          rw [← c1 j x hj]
          simp only [World.cell?]
          rw [heap_setCell_other _ _ g1 _ (by simp; omega)]
        rcases STA.out with ⟨h0, hsv⟩ | ⟨zb, kc, hsv, hkc, hzb, hcell⟩
        · have e0 : ns = 0 := by rw [HNS.out, show g.stack = [] from h0]; rfl
          obtain rfl : T = 0 := by omega
          have q := S6.out.cutS (sv' := .slice none 0 0) (st' := g.stack.take (g.stack.length - 0)) (by rw [show g.stack = [] from h0]; exact World.ownsRow_nil _ _ _ _) (fun b e => by cases e)
          rw [← HNG.out] at q
          have S7 := hid_of q
          rw [hsv] at c4
          clear STA hsv h0 e0 q STK
          go_region
          all_goals
            go_wp2_with fail
            go_meet
            exact ⟨_, _, (fun h0 => NuW.later (N7.out _) ⟨rfl, rfl, rfl, Nat.le_refl _, fun _ _ => rfl⟩ h0), S7.out.later ⟨rfl, rfl, rfl, Nat.le_refl _, fun _ _ => rfl⟩⟩
        · have hsv' : sv = .slice (some ⟨zb, 0, none⟩) (lo + T) kc := by rw [hsv, ← HLO.out, HNS.out]
          have hkc' : lo + T ≤ kc := by rw [← HLO.out, HNS.out]; exact hkc
          rw [hsv'] at c4
          have k0 : lo + T ≤ 204800 := by rw [← HLO.out]; exact pl2
          have k1 : (0 : Int) ≤ (lo : Int) := by omega
          have k2 : (lo : Int) ≤ (lo : Int) + (T : Int) := by omega
          have k3 : (lo : Int) ≤ (kc : Int) := by omega
          have k4 : IntKind.i64.wrap (lo : Int) = (lo : Int) := by rw [IntKind.wrap_i64]; omega
          have k6 : (lo : Int) + (T : Int) - (T : Int) = (lo : Int) := by omega
          have q : wc.ownsRow (r + 1) 2 1 (.slice (some ⟨zb, 0, none⟩) lo kc) (g.stack.take (g.stack.length - T)).length (nC (g.stack.take (g.stack.length - T))) := by
            have e1 : g.stack.length - T = lo := by have := HLO.out; have := HNS.out; omega
            have e2 : (g.stack.take lo).length = lo := by rw [List.length_take]; have := HLO.out; have := HNS.out; omega
            rw [e1, e2]
            have s := STK.out
            rw [show ({ g with place := g.place + 1 } : Vm.Rf).stack = g.stack from rfl, hsv, ← HNS.out] at s
            exact own_take s HNS.out lo (by have := HLO.out; omega)
          have q2 := S6.out.cutS q (fun b e => by rw [hsv]; exact e)
          rw [← HNG.out] at q2
          have S7 := hid_of q2
          clear STA hsv hsv' hkc hcell q q2 STK
          go_region
          all_goals
            go_wp2_with fail
            go_meet
            exact ⟨_, _, (fun h0 => NuW.later (N7.out _) ⟨rfl, rfl, rfl, Nat.le_refl _, fun _ _ => rfl⟩ h0), S7.out.later ⟨rfl, rfl, rfl, Nat.le_refl _, fun _ _ => rfl⟩⟩
      case rest =>
        obtain ⟨U7, sv7, N7, S7⟩ := hcut
        clear S6 N6 c4 f4 STA STK
        have i0 := S7.out.i0
        have i1 := S7.out.i1
        have i2 := S7.out.i2
        have hop := HOP.out
        subst hop
        obtain rfl : T = 0 := by have := HTK.out; simp [Cd.tk, Cd.takesL] at this; omega
        have w0 := HW.out.wf ⟨default, fun _ => False, 0⟩
        have hrd : R.read ≤ R.input.length := w0.rd
        have hin : R.input.length ≤ 1000000 := w0.inp
        have c2 := S7.out.s.cell.2.2.1
        have c3 := S7.out.s.cell.2.2.2.1
        dsimp only at c2 c3
        obtain ⟨nI, hnI⟩ : ∃ nI, nI = R.input.length := ⟨_, rfl⟩
        have HNI := hid_of hnI
        obtain ⟨rd, hrdE⟩ : ∃ rd, rd = R.read := ⟨_, rfl⟩
        have HRD := hid_of hrdE
        rw [← hnI] at c2 hrd hin
        rw [← hrdE] at c3 hrd
        clear w0 hnI hrdE i1 i2
        by_cases hlt : rd < nI
        · have d1 : ¬ (rd : Int) ≥ (nI : Int) := by omega
          have d2 : decide ((nI : Int) ≤ (rd : Int)) = false := decide_eq_false (by omega)
          have d3 : decide (nI ≤ rd) = false := decide_eq_false (by omega)
          have d4 : decide ((rd : Int) ≥ (nI : Int)) = false := decide_eq_false d1
          have d5 : (0 : Int) ≤ (rd : Int) := by omega
          have d6 : (rd : Int) < (nI : Int) := by omega
          obtain ⟨x, hx⟩ : ∃ x, R.input[R.read]? = some x := ⟨_, List.getElem?_eq_getElem (by rw [← HRD.out, ← HNI.out]; exact hlt)⟩
          have RON : Hid (Vm.ron R gs g ⟨22, n, z⟩ = ({ R with frames := gs ++ [{ Vm.rf1 g 0 with stack := (Vm.rf1 g 0).stack ++ [x] }], events := R.events ++ [(2, x)], read := rd + 1 }, false)) := by
            unfold Hid Vm.ron
            rw [if_neg (by simp), if_neg (by simp), if_neg (by simp), if_neg (by simp), if_pos rfl, hx, HRD.out]
          have HX := hid_of hx
          clear hx
          go_wp2_with fail
          go_quiet (fail)
          have bq := below_drewN (Below.refl wc.heap.size wc) nq
          have SA := hid_of (S7.out.later bq)
          clear bq S7 N7 c2 c3 i0
          generalize wc.drewN nq = WA at SA ⊢
          obtain ⟨gi, oi, hia, hgi1, hgi2, hci⟩ := SA.out.s.inp (by show 0 < R.input.length; rw [← HNI.out]; omega)
          have cx := hci R.read x HX.out
          rw [← HRD.out] at cx
          have c2 := SA.out.s.cell.2.2.1
          have c3 := SA.out.s.cell.2.2.2.1
          dsimp only at c2 c3
          rw [hia, ← HNI.out] at c2
          rw [← HRD.out] at c3
          have HIA := hid_of hia
          have STK := hid_of SA.out.stk
          obtain ⟨sa, sc, hsv⟩ := own_shp STK.out
          have HSV := hid_of hsv
          obtain ⟨nb, hnb⟩ : ∃ nb, nb = (Vm.rf1 g 0).stack.length := ⟨_, rfl⟩
          have HNB := hid_of hnb
          have hb50 : nb ≤ 204800 := by rw [hnb]; unfold Vm.rf1; dsimp only; rw [List.length_take, ← HNS.out]; omega
          have p4 := SA.out.l.c4
          have f4 := SA.out.l.fz 4 (by omega)
          rw [hsv, ← hnb, ← HNG.out] at p4
          rw [← HNG.out] at f4
          have HOW : Hid (WA.ownsRow (r + 1) 2 1 (.slice sa nb sc) nb (nC (Vm.rf1 g 0).stack)) := by
            unfold Hid
            have := STK.out
            rw [hsv, ← hnb] at this
            exact this
          have H63 : Hid (nb + 1 ≤ maxLen ∧ (nb + 1) * 8 ≤ 140737488355328) := by unfold Hid maxLen; omega
          have ONE1 : Hid (∀ u ∈ [Value.int .i64 x], u.oneCell' = true) := fun y hy => by
            simp only [List.mem_cons, List.not_mem_nil, or_false] at hy
            rcases hy with rfl
            rfl
          have zr := SA.out.s.lt
          have zf := SA.out.l.hi
          have zi : gi < WA.heap.size := Nat.lt_trans hgi2 zr
          have nr : ¬ r = WA.heap.size := Nat.ne_of_lt zr
          have nf : ¬ gf = WA.heap.size := Nat.ne_of_lt zf
          have ni : ¬ gi = WA.heap.size := Nat.ne_of_lt zi
          have ADD : Hid (∀ (X : World) (v8 : Value) (w8 : World), Below WA.heap.size WA X → w8.ownsRow (r + 1) 2 1 v8 (nb + 1) (nC (Vm.rf1 g 0).stack ++ [.int .i64 x]) → X.grownBy w8 (Value.slice sa nb sc).ownBlock → (v8.ownBlock = (Value.slice sa nb sc).ownBlock ∨ ∃ g, v8.ownBlock = some g ∧ X.heap.size ≤ g) → Hid (Below r w (w8.setCell ⟨gf, ng * 5 + 4, none⟩ v8) ∧ ∃ U8, RmS G r (w8.setCell ⟨gf, ng * 5 + 4, none⟩ v8) U8 { R with frames := gs ++ [{ Vm.rf1 g 0 with stack := (Vm.rf1 g 0).stack ++ [x] }] }) ∧ ∃ u, w8.cell? ⟨gf, ng * 5 + 4, none⟩ = some u ∧ w8.frozen? ⟨gf, ng * 5 + 4, none⟩ = false) := fun X v8 w8 y h8 g8 o8 => by
            have h8' : w8.ownsRow (r + 1) 2 1 v8 ((Vm.rf1 g 0).stack ++ [x]).length (nC ((Vm.rf1 g 0).stack ++ [x])) := by
              rw [List.length_append, ← HNB.out]
              simpa [nC] using h8
            have g8' : X.grownBy w8 sv7.ownBlock := by rw [HSV.out, ← HNB.out]; exact g8
            have o8' : v8.ownBlock = sv7.ownBlock ∨ ∃ b, v8.ownBlock = some b ∧ X.heap.size ≤ b := by rw [HSV.out, ← HNB.out]; exact o8
            have P := SA.out.s.growS SA.out.hf SA.out.l y h8' g8' o8'
            have Q := SA.out.s.growC SA.out.hf SA.out.l y h8' g8' o8'
            rw [← HNG.out] at P Q
            exact ⟨⟨SA.out.b.trans P.1, _, P.2⟩, Q⟩
          clear hci hia hsv hnb STK
          obtain ⟨i0, hi, hz0, hz1, hz2⟩ := info_parts info64
          go_upto_region 45 with fail
          go_cut [] from 252 to 270 (fun wx => Hid (Below r w wx ∧ ∃ U8, RmS G r wx U8 { R with frames := gs ++ [{ Vm.rf1 g 0 with stack := (Vm.rf1 g 0).stack ++ [x] }] }))
          case first =>
            go_region_law (first
              | (rw [if_pos (by rfl)]; refine wp_app_t _ _ 23 rfl (r + 1) 2 i0 (.int .i64 0) 1 8 Tryd.underlying23 hi hz0 hz1 hz2 rfl (by decide) _ _ _ rfl (own_lat HOW.out (by go_grown)) ⟨WA.heap.size, 0, none⟩ 1 1 [.int .i64 x] rfl rfl (cells1 (by first | (simp; done) | (simp [go_sem]; done) | fail)) ONE1.out H63.out.1 H63.out.2 (by simp; omega) (by decide) ?_; intro v8 w8 h8 g8 o8; obtain ⟨A8, u8', y4, yf4⟩ := ADD.out _ v8 w8 (by go_grown) h8 g8 o8; clear g8 o8; obtain ⟨va8, cap8, hv8⟩ := own_shp h8; subst hv8; clear h8))
            all_goals
              go_wp2_with fail
              go_meet
              first
                | exact A8
                | exact ⟨A8.out.1.trans ⟨rfl, rfl, rfl, Nat.le_refl _, fun _ _ => rfl⟩, A8.out.2.choose, A8.out.2.choose_spec.later ⟨rfl, rfl, rfl, Nat.le_refl _, fun _ _ => rfl⟩⟩
          case rest =>
            obtain ⟨B8, U8, S8⟩ := hcut.out
            have HB8 := hid_of B8
            have HS8 := hid_of S8
            clear hcut ADD SA HOW c2 c3 cx p4 f4 zr zf zi nr nf ni B8 ONE1 H63 hi hz0 hz1 hz2 HSV HNB hb50 hgi1 hgi2 HIA
            obtain ⟨gi, oi, hia, hgi1, hgi2, hci⟩ := S8.inp (by show 0 < R.input.length; rw [← HNI.out]; omega)
            have cx := hci R.read x HX.out
            rw [← HRD.out] at cx
            have c2 := S8.cell.2.2.1
            have c3 := S8.cell.2.2.2.1
            dsimp only at c2 c3
            rw [hia, ← HNI.out] at c2
            rw [← HRD.out] at c3
            obtain ⟨j0, ji, jz0, jz1, jz2⟩ := info_parts infoEv
            have ho : wc.ownsRow (r + 1) 50 2 U8.ev R.events.length (Vm.evC R.events) := S8.rows.own (reR U8 { R with frames := gs ++ [{ Vm.rf1 g 0 with stack := (Vm.rf1 g 0).stack ++ [x] }] }) (by simp)
            obtain ⟨sa, sc, hv⟩ := own_shp ho
            have c10 := S8.cell.2.2.2.2.2.2.1
            have f10 := S8.frozen 10
            obtain ⟨ne, hne⟩ : ∃ ne, ne = R.events.length := ⟨_, rfl⟩
            have HNE := hid_of hne
            have HV := hid_of hv
            rw [hv, ← hne] at c10 ho
            have HOW := hid_of ho
            have hrl := S8.lt
            have zi : gi < wc.heap.size := Nat.lt_trans hgi2 hrl
            have H63 : Hid (ne + 1 ≤ maxLen ∧ (ne + 1) * 16 ≤ 140737488355328) := by have := HE.out; unfold Hid maxLen; omega
            have ONE2 : Hid (∀ u ∈ [Value.int .i64 2, .int .i64 x], u.oneCell' = true) := fun y hy => by
              simp only [List.mem_cons, List.not_mem_nil, or_false] at hy
              rcases hy with rfl | rfl <;> rfl
            have ADD : Hid (∀ (X : World) (v8 : Value) (w8 : World), Below wc.heap.size wc X → w8.ownsRow (r + 1) 50 2 v8 (ne + 1) (Vm.evC R.events ++ [.int .i64 2, .int .i64 x]) → X.grownBy w8 (Value.slice sa ne sc).ownBlock → (v8.ownBlock = (Value.slice sa ne sc).ownBlock ∨ ∃ g, v8.ownBlock = some g ∧ X.heap.size ≤ g) → Hid (RmQ G r w (w8.setCell ⟨r, 10, none⟩ v8) { R with frames := gs ++ [{ Vm.rf1 g 0 with stack := (Vm.rf1 g 0).stack ++ [x] }], events := R.events ++ [(2, x)] })) := fun X v8 w8 y h8 g8 o8 => by
              have P := (HS8.out.addE y (k := 2) (a := x) (v8 := v8) (w8 := w8) (by show w8.ownsRow _ _ _ _ (R.events.length + 1) _; rw [← HNE.out]; exact h8) (by rw [HV.out, ← HNE.out]; exact g8) (by rw [HV.out, ← HNE.out]; exact o8)).1
              exact ⟨HB8.out.trans P.1, P.2⟩
            have ADB : Hid (∀ (X w8 : World), Below wc.heap.size wc X → X.grownBy w8 (Value.slice sa ne sc).ownBlock → Below (r + 1) wc w8) := fun X w8 y g8 => by
              refine (y.mono hrl).trans ⟨g8.os, g8.tape, g8.output, g8.size, fun q hq => g8.block q (by have := y.size; omega) (fun e => by have := (World.ownsRow.lt HOW.out _ e.symm).1; omega)⟩
            have hrn : ¬ r = wc.heap.size := Nat.ne_of_lt hrl
            have hgn : ¬ gi = wc.heap.size := Nat.ne_of_lt zi
            clear ho hv hne hci hia S8
            go_upto_region 46 with fail
            go_cut [] from 271 to 290 (fun wx => Hid (RmQ G r w wx { R with frames := gs ++ [{ Vm.rf1 g 0 with stack := (Vm.rf1 g 0).stack ++ [x] }], events := R.events ++ [(2, x)] }))
            case first =>
              go_region_law (first
            | (rw [if_pos (by rfl)]; refine wp_app_t _ _ 33 rfl (r + 1) 50 j0 (.agg #[.int .i64 0, .int .i64 0]) 2 16 Tryd.underlying33 ji jz0 jz1 jz2 rfl (by decide) _ _ _ rfl (own_lat HOW.out (by go_grown)) ⟨wc.heap.size, 0, none⟩ 1 1 [.int .i64 2, .int .i64 x] rfl rfl (cells2 (by first | (simp; done) | (simp [go_sem]; done) | fail) (by first | (simp; done) | (simp [go_sem]; done) | fail)) ONE2.out H63.out.1 H63.out.2 (by simp; omega) (by decide) ?_; intro v8 w8 h8 g8 o8; have A8 := ADD.out _ v8 w8 (by go_grown) h8 g8 o8; have B8 := ADB.out _ w8 (by go_grown) g8; have y10 := (B8.cell (p := ⟨r, 10, none⟩) (Nat.lt_succ_self r)).trans c10; have yf10 := (B8.frozen (p := ⟨r, 10, none⟩) (Nat.lt_succ_self r)).trans f10; clear B8; clear g8 o8; obtain ⟨va8, cap8, hv8⟩ := own_shp h8; subst hv8; clear h8))
              all_goals
                go_wp2_with fail
                go_meet
                first
                  | exact A8
                  | exact RmQ.drew A8.out
            case rest =>
              obtain ⟨B9, U9, S9⟩ := hcut.out
              have c3' := S9.cell.2.2.2.1
              have f3' := S9.frozen 3
              dsimp only at c3'
              rw [← HRD.out] at c3'
              have P := S9.setRd (rd + 1)
              have hw : IntKind.i64.wrap ((rd : Int) + 1) = (rd : Int) + 1 := by rw [IntKind.wrap_i64]; omega
              have FIN : Hid (Ending.returned (.bool false) = .returned (.bool (Vm.ron R gs g ⟨22, n, z⟩).2) ∧ RmQ G r w (wc.setCell ⟨r, 3, none⟩ (.int .i64 ((rd : Int) + 1))) (Vm.ron R gs g ⟨22, n, z⟩).1) := by
                unfold Hid
                rw [RON.out]
                exact ⟨rfl, B9.trans P.1, _, P.2⟩
              clear hcut B9 S9 P RON ADD ADB HOW c2 c3 cx c10 f10 HS8 HB8
              go_wp2_with fail
              refine bodyPost_ret (v := .bool false) (by simp [results, Tryd.results35, go_sem]) rfl ?_
              exact FIN.out
        · have d1 : (rd : Int) ≥ (nI : Int) := by omega
          have d2 : decide ((nI : Int) ≤ (rd : Int)) = true := decide_eq_true (by omega)
          have d3 : decide (nI ≤ rd) = true := decide_eq_true (by omega)
          have d4 : decide ((rd : Int) ≥ (nI : Int)) = true := decide_eq_true d1
          have hx : R.input[R.read]? = none := List.getElem?_eq_none (by rw [← HRD.out, ← HNI.out]; omega)
          have RON : Hid (Vm.ron R gs g ⟨22, n, z⟩ = (Vm.rend { R with frames := gs ++ [Vm.rf1 g 0] } 4 5, false)) := by
            unfold Hid Vm.ron
            rw [if_neg (by simp), if_neg (by simp), if_neg (by simp), if_neg (by simp), if_pos rfl, hx]
          clear hx
          go_wp2_with fail
          go_quiet (fail)
          have bq := below_drewN (Below.refl wc.heap.size wc) nq
          have SA := hid_of (S7.out.later bq)
          clear bq S7 N7 c2 c3 i0
          generalize wc.drewN nq = WA at SA ⊢
          have EE : Hid _ := rEnd G r WA U7 { R with frames := gs ++ [Vm.rf1 g 0] } 4 5 SA.out.s (by have := HE.out; show R.events.length ≤ _; omega)
          go_wp2_with fail
          refine Calls.mono EE.out ?_
          rintro e8 w8 ⟨rfl, q8⟩
          have FIN : Hid (Ending.returned (.bool false) = .returned (.bool (Vm.ron R gs g ⟨22, n, z⟩).2) ∧ RmQ G r w w8 (Vm.ron R gs g ⟨22, n, z⟩).1) := by
            unfold Hid
            rw [RON.out]
            exact ⟨rfl, SA.out.b.trans q8.1, q8.2⟩
          clear q8 EE RON
          go_wp2_with fail
          refine bodyPost_ret (v := .bool false) (by simp [results, Tryd.results35, go_sem]) rfl ?_
          exact FIN.out
end Go.Proofs.YtkjkiknpgggadaaDoor

