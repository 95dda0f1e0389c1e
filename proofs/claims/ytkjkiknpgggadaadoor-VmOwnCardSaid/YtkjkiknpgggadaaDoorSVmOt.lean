/- Layer 9: the document's machine: an instruction: a trap. -/
import Derived.Test.YtkjkiknpgggadaaDoorSVmOy
import Derived.BigQuiet
import Derived.Deep.CutBlock
import Derived.Deep.DeepCutAuto
import Derived.Deep.RegionHeld3
namespace Go.Proofs.YtkjkiknpgggadaaDoor
open Go.RowKit
set_option linter.unusedVariables false
set_option linter.unusedSimpArgs false

set_option maxRecDepth 100000 in
set_option maxHeartbeats 16000000 in
theorem rOt (G : Gh) (r : Nat) (w : World) (U : RmV) (R : Vm.Rm) (B : Int) (gs : List Vm.Rf) (g : Vm.Rf) (c : Cd.Co) (op n z : Int) (h : RmS G r w U R) (a : Vm.RA B R gs g c ⟨op, n, z⟩) (wf : Vm.RW B R) (rb : Vm.RB R) (hev : R.events.length + 2 ≤ 1000000000) (hop : op ≠ 19 ∧ op ≠ 20 ∧ op ≠ 21 ∧ op ≠ 22 ∧ op ≠ 24) (xs : List Int) (t : Int) (hres : Vm.res (Vm.rf1 g (Cd.tk ⟨op, n, z⟩).toNat) ⟨op, n, z⟩ (Vm.rtk g (Cd.tk ⟨op, n, z⟩).toNat) = (xs, t)) (hER : ∀ (X : World) (U' : RmV) (fs : List (Value × Value)) (cv sv : Value) (gf cap ib : Nat) (la : Option Addr) (lc : Nat), OnS G r w { R with frames := gs ++ [Vm.rf1 g (Cd.tk ⟨op, n, z⟩).toNat] } gs (Vm.rf1 g (Cd.tk ⟨op, n, z⟩).toNat) op n z ib gf cap U' fs cv sv X → NuS X.heap.size X la (Vm.rtk g (Cd.tk ⟨op, n, z⟩).toNat) → Calls Tryd.prog 54 #[.agg #[.int .i64 (Vm.rf1 g (Cd.tk ⟨op, n, z⟩).toNat).proc, .int .i64 (Vm.rf1 g (Cd.tk ⟨op, n, z⟩).toNat).place, .int .i64 (Vm.rf1 g (Cd.tk ⟨op, n, z⟩).toNat).mark, cv, sv], .agg #[.int .i64 op, .int .i64 n, .int .i64 z], .slice la (Vm.rtk g (Cd.tk ⟨op, n, z⟩).toNat).length lc] X (ResQ X (xs, t))) (ht : t ≠ 0) :
    Calls Tryd.prog 35 #[.pointer (some ⟨r, 0, none⟩)] w fun e w' => e = .returned (.bool (Vm.ron R gs g ⟨op, n, z⟩).2) ∧ RmQ G r w w' (Vm.ron R gs g ⟨op, n, z⟩).1 := by
  have HRS0 := hid_of hres
  have HER0 := hid_of hER
  clear hres hER
  have HOP := hid_of hop
  clear hop
  obtain ⟨fs, cv, sv, gf, cap, L⟩ := h.last a.hf
  have h50 : gs.length + 1 ≤ 50 := by
    have := (wf.wf ⟨default, fun _ => False, 0⟩).f50
    rw [show (Vm.abs R ⟨default, fun _ => False, 0⟩).frames = Vm.frs 0 R.frames from rfl, Vm.frs_len, a.hf, List.length_append] at this
    exact this
  obtain ⟨pl1, pl2⟩ : g.place ≤ 65536 ∧ g.stack.length ≤ 204800 := by
    obtain ⟨C0, S0, A⟩ := a.at_ ⟨default, fun _ => False, 0⟩
    have q := (wf.wf ⟨default, fun _ => False, 0⟩).nums A
    have e : (Vm.abs R ⟨default, fun _ => False, 0⟩).stack = Vm.fst R.frames := rfl
    have q3 := q.2.2.1
    rw [e, a.hf, Vm.fst_app, Vm.fst_one, List.length_append] at q3
    exact ⟨q.2.2.2.1, by omega⟩
  have HST : Hid ((Vm.fst gs).length ≤ 204800) := by
    obtain ⟨C0, S0, A⟩ := a.at_ ⟨default, fun _ => False, 0⟩
    have q3 := ((wf.wf ⟨default, fun _ => False, 0⟩).nums A).2.2.1
    rw [show (Vm.abs R ⟨default, fun _ => False, 0⟩).stack = Vm.fst R.frames from rfl, a.hf, Vm.fst_app, List.length_append] at q3
    show (Vm.fst gs).length ≤ _
    omega
  have ops : 1 ≤ op ∧ op ≤ 25 := by
    obtain ⟨C0, S0, A⟩ := a.at_ ⟨default, fun _ => False, 0⟩
    exact A.ops
  obtain ⟨T, hT⟩ : ∃ T : Nat, Cd.tk ⟨op, n, z⟩ = T := ⟨(Cd.tk ⟨op, n, z⟩).toNat, by have := a.t0; omega⟩
  have hTs : T ≤ g.stack.length := by have := a.tk; omega
  have HTK : Hid (Cd.tk ⟨op, n, z⟩ = T) := hT
  have HA : Hid (Vm.RA B R gs g c ⟨op, n, z⟩) := a
  have HW : Hid (Vm.RW B R) := wf
  have HB : Hid (Vm.RB R) := rb
  have HC : Hid (R.codes[g.proc]? = some c) := a.hc
  have HI : Hid (c.ins[g.place]? = some ⟨op, n, z⟩) := a.hi
  have HF : Hid (R.frames = gs ++ [g]) := a.hf
  obtain ⟨ng, hng⟩ : ∃ ng, ng = gs.length := ⟨_, rfl⟩
  have HNG : Hid (ng = gs.length) := hng
  obtain ⟨ns, hns⟩ : ∃ ns, ns = g.stack.length := ⟨_, rfl⟩
  have HNS : Hid (ns = g.stack.length) := hns
  have HE : Hid (R.events.length + 2 ≤ 1000000000) := hev
  obtain ⟨x8, hx8⟩ : ∃ x, x = Cd.wd op := ⟨_, rfl⟩
  obtain ⟨u8, hu8⟩ : ∃ u, u = Cd.nm op := ⟨_, rfl⟩
  obtain ⟨t8, ht8⟩ : ∃ t, t = Cd.takesL.getD op.toNat 0 := ⟨_, rfl⟩
  obtain ⟨v8, hv8⟩ : ∃ v, v = Cd.leavesL.getD op.toNat 0 := ⟨_, rfl⟩
  have EO : Hid (∀ W, Calls Tryd.prog 53 #[.int .i64 op] W fun e w' => e = .returned (.agg #[.string ⟨x8.toArray⟩, .int .i64 u8, .int .i64 t8, .int .i64 v8]) ∧ Below W.heap.size W w') := fun W => by
    have := rOf_any op W
    unfold ofV at this
    rw [if_pos ops, ← hx8, ← hu8, ← ht8, ← hv8] at this
    exact this
  have ET : Hid ((op = 19 → z = T) ∧ (op = 20 → n = T) ∧ (op ≠ 19 → op ≠ 20 → t8 = T)) := by
    refine ⟨fun e => ?_, fun e => ?_, fun e1 e2 => ?_⟩
    · rw [← hT]; unfold Cd.tk; simp [e]
    · rw [← hT]; unfold Cd.tk; simp [e]
    · rw [← hT, ht8]; unfold Cd.tk; simp [e1, e2]
  have HH : Hid (RmS G r w U R) := h
  have HL : Hid (RmL r w U gs g fs cv sv gf cap) := L
  have c1 := h.cell.2.1
  rw [L.fv, ← hng] at c1
  have hgi : (0 : Int) ≤ (ng : Int) ∧ (ng : Int) < (ng : Int) + 1 := by omega
  rw [← hng] at h50
  rw [← hns] at hTs pl2
  clear h a wf rb hev L hx8 hu8 ht8 hv8 hT hng hns
  go_enter Tryd.func35, Tryd.ntmps35
  go_wp2_with fail
  go_quiet (fail)
  have H1 : Hid (RmS G r (w.drewN nq) U R) := HH.out.later (below_drewN (Below.refl _ _) nq)
  have L1 : Hid (RmL r (w.drewN nq) U gs g fs cv sv gf cap) := HL.out.later (below_drewN (Below.refl _ _) nq)
  have B1 : Hid (Below r w (w.drewN nq)) := below_drewN (Below.refl _ _) nq
  clear c1 HH HL
  generalize w.drewN nq = W1 at H1 L1 B1 ⊢
  have s0 := H1.out.cell.1
  obtain ⟨gc, oc, ia, ic, hca, hgc, CA⟩ := H1.out.co.at HC.out
  rw [hca] at s0
  obtain ⟨gi, oi, hia, hgi2, IA⟩ := CA.hi.at HI.out
  have s1 := CA.c0
  rw [hia] at s1
  have p0 := L1.out.c0
  have p1 := L1.out.c1
  rw [← HNG.out] at p0 p1
  have q0 := IA.c0
  have q1 := IA.c1
  have q2 := IA.c2
  dsimp only at q0 q1 q2
  have hpl : g.proc < R.codes.length := (List.getElem?_eq_some_iff.1 HC.out).1
  have hil : g.place < c.ins.length := (List.getElem?_eq_some_iff.1 HI.out).1
  obtain ⟨NC, hNC⟩ : ∃ NC, NC = R.codes.length := ⟨_, rfl⟩
  obtain ⟨NI, hNI⟩ : ∃ NI, NI = c.ins.length := ⟨_, rfl⟩
  rw [← hNC] at s0 hpl
  rw [← hNI] at s1 hil
  have hpi : (g.proc : Int) < (NC : Int) := by omega
  have hii : (g.place : Int) < (NI : Int) := by omega
  have hp0 : (0 : Int) ≤ (g.proc : Int) := by omega
  have hi0 : (0 : Int) ≤ (g.place : Int) := by omega
  have zr := H1.out.lt
  have zc : gc < W1.heap.size := Nat.lt_trans (Nat.lt_of_lt_of_le hgc H1.out.lo) zr
  have zi : gi < W1.heap.size := Nat.lt_trans (Nat.lt_of_lt_of_le hgi2 H1.out.lo) zr
  have zf := L1.out.hi
  have nr : ¬ r = W1.heap.size := Nat.ne_of_lt zr
  have nc' : ¬ gc = W1.heap.size := Nat.ne_of_lt zc
  have ni : ¬ gi = W1.heap.size := Nat.ne_of_lt zi
  have nf : ¬ gf = W1.heap.size := Nat.ne_of_lt zf
  have S2 : Hid (OnS G r w R gs g op n z W1.heap.size gf cap U fs cv sv (W1.alloc (inB ⟨op, n, z⟩))) := by
    obtain ⟨t0, t1, t2, bw⟩ := in_box W1 ⟨op, n, z⟩ W1.heap.size (W1.alloc (inB ⟨op, n, z⟩)) rfl rfl
    exact ⟨B1.out.trans (bw.mono (Nat.le_of_lt zr)), H1.out.later bw, HF.out, L1.out.later bw, t0, t1, t2, by simp, zr, Nat.ne_of_gt zf⟩
  clear CA IA hia hca hgc hgi2 H1 L1 B1 hNC hNI
  go_upto_region 2 with fail
  go_cut [4] from 21 to 37 (fun s wx => ∃ ib, s = .pointer (some ⟨ib, 0, none⟩) ∧ Hid (OnS G r w R gs g op n z ib gf cap U fs cv sv wx))
  case first =>
    go_region
    all_goals
      go_wp2_with fail
      go_meet
      exact ⟨_, rfl, S2.out.later ⟨rfl, rfl, rfl, Nat.le_refl _, fun _ _ => rfl⟩⟩
  case rest =>
    obtain ⟨ib, rfl, S3⟩ := hcut
    clear S2 s0 s1 p0 p1 q0 q1 q2 nr nc' ni nf hpl hil hpi hii hp0 hi0 zc zi zf zr
    have p1 := S3.out.l.c1
    have f1 := S3.out.l.fz 1 (by omega)
    rw [← HNG.out] at p1 f1
    have S4 : Hid (OnS G r w { R with frames := gs ++ [{ g with place := g.place + 1 }] } gs { g with place := g.place + 1 } op n z ib gf cap U fs cv sv (wc.setCell ⟨gf, ng * 5 + 1, none⟩ (.int .i64 ((g.place : Int) + 1)))) := by
      rw [HNG.out]
      exact S3.out.setF (g' := { g with place := g.place + 1 }) 1 (by omega) (.int .i64 ((g.place : Int) + 1)) rfl rfl rfl
    obtain ⟨W4, hW4⟩ : ∃ W4, W4 = wc.setCell ⟨gf, ng * 5 + 1, none⟩ (.int .i64 ((g.place : Int) + 1)) := ⟨_, rfl⟩
    rw [← hW4] at S4
    have hpw : IntKind.i64.wrap ((g.place : Int) + 1) = (g.place : Int) + 1 := by rw [IntKind.wrap_i64]; omega
    clear S3
    go_upto_region 4 with fail
    rw [← hW4]
    clear hW4 p1 f1
    have i0 := S4.out.i0
    have i1 := S4.out.i1
    have i2 := S4.out.i2
    go_wp2_with fail
    refine Calls.mono (EO.out _) ?_
    rintro e5 w5 ⟨rfl, b5⟩
    have S5 := hid_of (S4.out.later b5)
    have hrf := rowF2 (.string ⟨x8.toArray⟩) (.int .i64 u8) (.int .i64 t8) (.int .i64 v8) w5
    have j0 := S5.out.i0
    have j1 := S5.out.i1
    have j2 := S5.out.i2
    clear b5 S4 i0 i1 i2 EO
    have d19 : (op == 19) = false := by
      have := HOP.out
      first
        | (have e : op = 19 := by omega
           rw [e]; rfl)
        | (have e : op ≠ 19 := by omega
           simpa using e)
    have d20 : (op == 20) = false := by
      have := HOP.out
      first
        | (have e : op = 20 := by omega
           rw [e]; rfl)
        | (have e : op ≠ 20 := by omega
           simpa using e)
    have ez : t8 = (T : Int) := by
      have := HOP.out
      obtain ⟨et1, et2, et3⟩ := ET.out
      first
        | exact et1 (by omega)
        | exact et2 (by omega)
        | exact et3 (by omega) (by omega)
    subst ez
    clear ET
    go_upto_region 9 with fail
    have STA := hid_of S5.out.sta
    have c4 := S5.out.l.c4
    rw [← HNG.out] at c4
    obtain ⟨lo, hlo⟩ : ∃ lo, ns = lo + T := ⟨ns - T, by omega⟩
    have HLO := hid_of hlo
    have zf5 := hid_of S5.out.l.hi
    clear hrf j0 j1 j2 d19 d20 hlo
    have hTl := hid_of (show (Vm.rtk g T).length = T by unfold Vm.rtk; rw [List.length_drop, ← HNS.out]; omega)
    go_cut [6] from 59 to 71 (fun s wx => ∃ la lc, s = .slice la T lc ∧ Hid (NuW (gf + 1) wx.heap.size wx la (Vm.rtk g T)) ∧ Hid (T = 0 → la = none ∧ lc = 0) ∧ Hid (OnS G r w { R with frames := gs ++ [{ g with place := g.place + 1 }] } gs { g with place := g.place + 1 } op n z ib gf cap U fs cv sv wx))
    case first =>
      have EOZ : Hid (∀ X a c, Calls Tryd.prog 39 #[.slice a 0 c] X fun e w' => e = .returned (.slice none 0 0) ∧ w' = X) := fun X a c => rOwn0 X a c
      rcases STA.out with ⟨h0, hsv⟩ | ⟨zb, kc, hsv, hkc, hzb, hcell⟩
      · have e0 : ns = 0 := by rw [HNS.out, show g.stack = [] from h0]; rfl
        obtain rfl : T = 0 := by omega
        have NW : Hid (∀ X, NuW (gf + 1) X.heap.size X none (Vm.rtk g 0)) := fun X h => by rw [hTl.out] at h; omega
        rw [hsv] at c4
        clear STA hsv h0 e0
        go_region_with (first | (go_at_call 39; refine Calls.mono (EOZ.out _ _ _) ?_; rintro e6 w6 ⟨rfl, rfl⟩))
        all_goals
          go_wp2_with fail
          go_meet
          exact ⟨_, _, rfl, NW.out _, fun _ => ⟨rfl, rfl⟩, S5.out.later ⟨rfl, rfl, rfl, Nat.le_refl _, fun _ _ => rfl⟩⟩
      · have hsv' : sv = .slice (some ⟨zb, 0, none⟩) (lo + T) kc := by rw [hsv, ← HLO.out, HNS.out]
        have hkc' : lo + T ≤ kc := by rw [← HLO.out, HNS.out]; exact hkc
        rw [hsv'] at c4
        have k0 : lo + T ≤ 204800 := by rw [← HLO.out]; exact pl2
        have k1 : (0 : Int) ≤ (lo : Int) := by omega
        have k2 : (lo : Int) ≤ (lo : Int) + (T : Int) := by omega
        have k3 : (lo : Int) + (T : Int) ≤ (kc : Int) := by omega
        have k4 : IntKind.i64.wrap (lo : Int) = (lo : Int) := by rw [IntKind.wrap_i64]; omega
        have k5 : lo ≤ lo + T := by omega
        have k6 : (lo : Int) + (T : Int) - (T : Int) = (lo : Int) := by omega
        have k7 : lo + T - lo = T := by omega
        by_cases hT0 : T = 0
        · subst hT0
          have NW : Hid (∀ X, NuW (gf + 1) X.heap.size X none (Vm.rtk g 0)) := fun X h => by rw [hTl.out] at h; omega
          simp only [Nat.add_zero, Int.natCast_zero, Int.add_zero] at c4 k2 k3
          clear STA hsv hsv' hkc hcell k6 k7 k5
          by_cases hz : kc - lo = 0
          · have hz2 : (kc - lo == 0) = true := by rw [hz]; rfl
            go_region_held3 (fun w' => w'.cell? ⟨gf, ng * 5 + 4, none⟩ = some (.slice (some ⟨zb, 0, none⟩) lo kc)) (first | (exact c4) | go_keep) (first | (go_at_call 39; refine Calls.mono (EOZ.out _ _ _) ?_; rintro e6 w6 ⟨rfl, rfl⟩))
            all_goals
              go_wp2_with fail
              go_meet
              exact ⟨_, _, rfl, NW.out _, fun _ => ⟨rfl, rfl⟩, S5.out.later ⟨rfl, rfl, rfl, Nat.le_refl _, fun _ _ => rfl⟩⟩
          · have hz2 : (kc - lo == 0) = false := beq_eq_false_iff_ne.2 hz
            go_region_held3 (fun w' => w'.cell? ⟨gf, ng * 5 + 4, none⟩ = some (.slice (some ⟨zb, 0, none⟩) lo kc)) (first | (exact c4) | go_keep) (first | (go_at_call 39; refine Calls.mono (EOZ.out _ _ _) ?_; rintro e6 w6 ⟨rfl, rfl⟩))
            all_goals
              go_wp2_with fail
              go_meet
              exact ⟨_, _, rfl, NW.out _, fun _ => ⟨rfl, rfl⟩, S5.out.later ⟨rfl, rfl, rfl, Nat.le_refl _, fun _ _ => rfl⟩⟩
        · have hz : ¬ kc - lo = 0 := by omega
          have hz2 : (kc - lo == 0) = false := beq_eq_false_iff_ne.2 hz
          have EOW : Hid (∀ X, Below w5.heap.size w5 X → Calls Tryd.prog 39 #[.slice (some ⟨zb, lo, none⟩) T (kc - lo)] X fun e w' => ∃ a' c', e = .returned (.slice a' T c') ∧ Hid (NuW (gf + 1) w'.heap.size w' a' (Vm.rtk g T)) ∧ Hid (Below w5.heap.size w5 w')) := fun X hX => by
            have := rOwn X (some ⟨zb, lo, none⟩) (kc - lo) (Vm.rtk g T) (fun _ => ⟨zb, lo, rfl, Nat.lt_of_lt_of_le hzb hX.size, fun j x hj => by
              have hj' : g.stack[lo + j]? = some x := by
                unfold Vm.rtk at hj
                rw [List.getElem?_drop] at hj
                rw [← hj]
                congr 1
                have := HLO.out
                have := HNS.out
                omega
              exact (hX.cell (p := ⟨zb, lo + j, none⟩) hzb).trans (hcell _ x hj')⟩) (by rw [hTl.out]; omega) (fun e => by cases e)
            rw [hTl.out] at this
            refine this.mono fun e w' ⟨a', c', h1, h2, h3⟩ => ⟨a', c', h1, h2.mono (by have := zf5.out; have := hX.size; omega) (Nat.le_refl _), hX.trans (h3.mono hX.size)⟩
          have HT0 := hid_of hT0
          clear STA hsv hsv' hkc hcell hT0
          go_region_with (first | (go_at_call 39; refine Calls.mono (EOW.out _ (by go_grown)) ?_; rintro e6 w6 ⟨la6, lc6, rfl, N6, B6⟩))
          all_goals
            go_wp2_with fail
            go_meet
            exact ⟨_, _, rfl, N6, fun e => absurd e HT0.out, S5.out.later B6.out⟩
    case rest =>
      obtain ⟨la, lc, rfl, N6, Z6, S6⟩ := hcut
      clear S5 c4 STA zf5
      have STA := hid_of S6.out.sta
      have STK := hid_of S6.out.stk
      have c4 := S6.out.l.c4
      have f4 := S6.out.l.fz 4 (by omega)
      rw [← HNG.out] at c4 f4
      have gl := S6.out.l.lo
      go_upto_region 10 with fail
      go_cut [] from 72 to 86 (fun wx => ∃ U7 sv7, Hid (NuW (gf + 1) wx.heap.size wx la (Vm.rtk g T)) ∧ Hid (OnS G r w { R with frames := gs ++ [Vm.rf1 g T] } gs (Vm.rf1 g T) op n z ib gf cap U7 fs cv sv7 wx))
      case first =>
        have N7 : Hid (∀ u : Value, NuW (gf + 1) (wc.setCell ⟨gf, ng * 5 + 4, none⟩ u).heap.size (wc.setCell ⟨gf, ng * 5 + 4, none⟩ u) la (Vm.rtk g T)) := fun u => by
          intro h0
          obtain ⟨g1, o1, e1, l1, l2, c1⟩ := N6.out h0
          refine ⟨g1, o1, e1, l1, by simpa using l2, fun j x hj => ?_⟩
          rw [← c1 j x hj]
          simp only [World.cell?]
          rw [heap_setCell_other _ _ g1 _ (by simp; omega)]
        rcases STA.out with ⟨h0, hsv⟩ | ⟨zb, kc, hsv, hkc, hzb, hcell⟩
        · have e0 : ns = 0 := by rw [HNS.out, show g.stack = [] from h0]; rfl
          obtain rfl : T = 0 := by omega
          have q := S6.out.cutS (sv' := .slice none 0 0) (st' := g.stack.take (g.stack.length - 0)) (by rw [show g.stack = [] from h0]; exact World.ownsRow_nil _ _ _ _) (fun b e => by cases e)
          rw [← HNG.out] at q
          have S7 := hid_of q
          rw [hsv] at c4
          clear STA hsv h0 e0 q STK
          go_region
          all_goals
            go_wp2_with fail
            go_meet
            exact ⟨_, _, (fun h0 => NuW.later (N7.out _) ⟨rfl, rfl, rfl, Nat.le_refl _, fun _ _ => rfl⟩ h0), S7.out.later ⟨rfl, rfl, rfl, Nat.le_refl _, fun _ _ => rfl⟩⟩
        · have hsv' : sv = .slice (some ⟨zb, 0, none⟩) (lo + T) kc := by rw [hsv, ← HLO.out, HNS.out]
          have hkc' : lo + T ≤ kc := by rw [← HLO.out, HNS.out]; exact hkc
          rw [hsv'] at c4
          have k0 : lo + T ≤ 204800 := by rw [← HLO.out]; exact pl2
          have k1 : (0 : Int) ≤ (lo : Int) := by omega
          have k2 : (lo : Int) ≤ (lo : Int) + (T : Int) := by omega
          have k3 : (lo : Int) ≤ (kc : Int) := by omega
          have k4 : IntKind.i64.wrap (lo : Int) = (lo : Int) := by rw [IntKind.wrap_i64]; omega
          have k6 : (lo : Int) + (T : Int) - (T : Int) = (lo : Int) := by omega
          have q : wc.ownsRow (r + 1) 2 1 (.slice (some ⟨zb, 0, none⟩) lo kc) (g.stack.take (g.stack.length - T)).length (nC (g.stack.take (g.stack.length - T))) := by
            have e1 : g.stack.length - T = lo := by have := HLO.out; have := HNS.out; omega
            have e2 : (g.stack.take lo).length = lo := by rw [List.length_take]; have := HLO.out; have := HNS.out; omega
            rw [e1, e2]
            have s := STK.out
            rw [show ({ g with place := g.place + 1 } : Vm.Rf).stack = g.stack from rfl, hsv, ← HNS.out] at s
            exact own_take s HNS.out lo (by have := HLO.out; omega)
          have q2 := S6.out.cutS q (fun b e => by rw [hsv]; exact e)
          rw [← HNG.out] at q2
          have S7 := hid_of q2
          clear STA hsv hsv' hkc hcell q q2 STK
          go_region
          all_goals
            go_wp2_with fail
            go_meet
            exact ⟨_, _, (fun h0 => NuW.later (N7.out _) ⟨rfl, rfl, rfl, Nat.le_refl _, fun _ _ => rfl⟩ h0), S7.out.later ⟨rfl, rfl, rfl, Nat.le_refl _, fun _ _ => rfl⟩⟩
      case rest =>
        obtain ⟨U7, sv7, N7, S7⟩ := hcut
        clear S6 N6 c4 f4 STA STK
        have i0 := S7.out.i0
        have i1 := S7.out.i1
        have i2 := S7.out.i2
        have hres := HRS0.out
        have hER := HER0.out
        clear HRS0 HER0
        obtain ⟨o19, o20, o21, o22, o24⟩ := HOP.out
        have g19 : (op == 19) = false := by simpa using o19
        have g20 : (op == 20) = false := by simpa using o20
        have g21 : (op == 21) = false := by simpa using o21
        have g22 : (op == 22) = false := by simpa using o22
        have g24 : (op == 24) = false := by simpa using o24
        have HRES := hid_of hres
        rw [HTK.out, Int.toNat_natCast] at hres
        have hER' := hER
        rw [HTK.out, Int.toNat_natCast] at hER'
        obtain ⟨LX, hLX⟩ : ∃ LX, LX = xs.length := ⟨_, rfl⟩
        have HLX := hid_of hLX
        have p0 := S7.out.l.c0
        have p1 := S7.out.l.c1
        have p2 := S7.out.l.c2
        have p3 := S7.out.l.c3
        have p4 := S7.out.l.c4
        rw [← HNG.out] at p0 p1 p2 p3 p4
        obtain ⟨P0, hP0⟩ : ∃ P0 : Int, P0 = ((Vm.rf1 g T).proc : Int) := ⟨_, rfl⟩
        obtain ⟨P1, hP1⟩ : ∃ P1 : Int, P1 = ((Vm.rf1 g T).place : Int) := ⟨_, rfl⟩
        obtain ⟨P2, hP2⟩ : ∃ P2 : Int, P2 = (Vm.rf1 g T).mark := ⟨_, rfl⟩
        have ER : Hid (∀ X, Below wc.heap.size wc X → Calls Tryd.prog 54 #[.agg #[.int .i64 P0, .int .i64 P1, .int .i64 P2, cv, sv7], .agg #[.int .i64 op, .int .i64 n, .int .i64 z], .slice la T lc] X fun e w' => ∃ xa xc, e = .returned (.tuple #[.slice xa LX xc, .int .i64 t]) ∧ Hid (Below wc.heap.size wc w') ∧ Hid (LX = 0 → xa = none ∧ xc = 0) ∧ Hid (NuW wc.heap.size w'.heap.size w' xa xs)) := fun X hX => by
          have q := hER' X U7 fs cv sv7 gf cap ib la lc (S7.out.later hX) (nus_up (N7.out.s.later hX) hX.size)
          rw [hTl.out, ← hP0, ← hP1, ← hP2] at q
          refine q.mono fun e w' hq => ?_
          obtain ⟨xa, xc, h1, h2, h3, h4⟩ := ResQ.sl hq
          exact ⟨xa, xc, by rw [hLX]; exact h1, hX.trans (h2.mono hX.size), (by rw [hLX]; exact h3), h4.mono hX.size (Nat.le_refl _)⟩
        rw [← hP0] at p0
        rw [← hP1] at p1
        rw [← hP2] at p2
        clear hER hER' hLX hP0 hP1 hP2 o19 o20 o21 o22 o24
        go_upto_region 12 with fail
        go_cut [8, 9] from 90 to 97 (fun s8 s9 wx => ∃ xa xc, s8 = .slice xa LX xc ∧ s9 = .int .i64 t ∧ Hid (Below wc.heap.size wc wx) ∧ Hid (LX = 0 → xa = none ∧ xc = 0) ∧ Hid (NuW wc.heap.size wx.heap.size wx xa xs))
        case first =>
          go_region_with (first | (go_at_call 54; refine Calls.mono (ER.out _ (by go_grown)) ?_; rintro e8 w8 ⟨xa8, xc8, rfl, B8, Z8, X8⟩))
          all_goals
            go_wp2_with fail
            go_meet
            exact ⟨_, _, rfl, rfl, B8, Z8, X8⟩
        case rest =>
          obtain ⟨xa, xc, rfl, rfl, B8, Z8, X8⟩ := hcut
          have S8 := hid_of (S7.out.later B8.out)
          have N8 : Hid (NuS wc.heap.size wc la (Vm.rtk g T)) := nus_up (N7.out.s.later B8.out) B8.out.size
          clear S7 N7 ER p0 p1 p2 p3 p4 i0 i1 i2
          have i0 := S8.out.i0
          have i1 := S8.out.i1
          have i2 := S8.out.i2
          have dt : (t != 0) = true := by simpa using ht
          have dt2 : ¬ t = 0 := ht
          have RON : Hid (Vm.ron R gs g ⟨op, n, z⟩ = (Vm.rend { R with frames := gs ++ [Vm.rf1 g T] } 4 t, false)) := by
            obtain ⟨o19, o20, o21, o22, o24⟩ := HOP.out
            unfold Hid Vm.ron
            rw [if_neg o24, if_neg o19, if_neg o20, if_neg o21, if_neg o22, HTK.out, Int.toNat_natCast, hres, if_neg ht]
          have EE : Hid _ := rEnd G r wc U7 { R with frames := gs ++ [Vm.rf1 g T] } 4 t S8.out.s (by have := HE.out; show R.events.length ≤ _; omega)
          clear hres ht
          go_wp2_with fail
          refine Calls.mono EE.out ?_
          rintro e9 w9 ⟨rfl, q9⟩
          have FIN : Hid (Ending.returned (.bool false) = .returned (.bool (Vm.ron R gs g ⟨op, n, z⟩).2) ∧ RmQ G r w w9 (Vm.ron R gs g ⟨op, n, z⟩).1) := by
            unfold Hid
            rw [RON.out]
            exact ⟨rfl, S8.out.b.trans q9.1, q9.2⟩
          clear q9 EE RON
          go_wp2_with fail
          refine bodyPost_ret (v := .bool false) (by simp [results, Tryd.results35, go_sem]) rfl ?_
          exact FIN.out
end Go.Proofs.YtkjkiknpgggadaaDoor

