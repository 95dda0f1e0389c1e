/- Layer 9: same: both machines tell the same: the walk. -/
import Derived.Test.YtkjkiknpgggadaaDoorSVmOi
import Derived.Deep.RegionHeld3
import Derived.Deep.LoopGhost
import Derived.Deep.DeepCutAuto
namespace Go.Proofs.YtkjkiknpgggadaaDoor
open Go.RowKit
set_option linter.unusedVariables false
set_option linter.unusedSimpArgs false

set_option maxRecDepth 100000 in
set_option maxHeartbeats 16000000 in
theorem same9 (B0 m lo r : Nat) (w : World) (V : VmV) (M : Vm.Mc) (U : RmV) (R : Vm.Rm) (h : Two B0 m lo r w V M U R) (sm : Vm.Sm M R) (rc : Vm.Rcl R) (hev : R.events.length ≤ 1000000000) :
    Calls Tryd.prog 7 #[.pointer (some ⟨m, 0, none⟩), .pointer (some ⟨r, 0, none⟩)] w fun e w' => e = .returned (.bool true) ∧ Below w.heap.size w w' := by
  obtain ⟨EN, hEN⟩ : ∃ EN, EN = R.ended := ⟨_, rfl⟩
  obtain ⟨TI, hTI⟩ : ∃ TI, TI = R.ticks := ⟨_, rfl⟩
  obtain ⟨T0, hT0⟩ : ∃ T0, T0 = R.t0 := ⟨_, rfl⟩
  obtain ⟨T1, hT1⟩ : ∃ T1, T1 = R.t1 := ⟨_, rfl⟩
  obtain ⟨T2, hT2⟩ : ∃ T2, T2 = R.t2 := ⟨_, rfl⟩
  obtain ⟨T3, hT3⟩ : ∃ T3, T3 = R.t3 := ⟨_, rfl⟩
  obtain ⟨ne, hne⟩ : ∃ ne, ne = R.events.length := ⟨_, rfl⟩
  obtain ⟨nf, hnf⟩ : ∃ nf, nf = R.frames.length := ⟨_, rfl⟩
  have HSM : Hid (Vm.Sm M R) := sm
  have HRC : Hid (Vm.Rcl R) := rc
  have n50 := rc.n50
  rw [← hnf] at n50
  obtain ⟨s, G, eM⟩ := sm
  have m1 : (!M.run) = EN := by rw [eM, hEN]; show (!(!R.ended)) = _; simp
  have m2 : M.ticks = TI := by rw [eM, hTI]; rfl
  have m3 : M.t0 = T0 ∧ M.t1 = T1 ∧ M.t2 = T2 ∧ M.t3 = T3 := by rw [eM, hT0, hT1, hT2, hT3]; exact ⟨rfl, rfl, rfl, rfl⟩
  have m4 : M.events = R.events := by rw [eM]; rfl
  have m5 : M.frames.length = nf := by rw [eM, hnf]; exact Vm.frs_len 0 R.frames
  have ET : Hid (Calls Tryd.prog 20 #[.pointer (some ⟨m, 0, none⟩)] w fun e w' => e = .returned (.tuple #[.agg #[.int .i64 T0, .int .i64 T1, .int .i64 T2, .int .i64 T3], .bool (decide (0 < TI))]) ∧ Below w.heap.size w w') := by
    have q := oTick B0 m w V M h.v
    rw [m2, m3.1, m3.2.1, m3.2.2.1, m3.2.2.2] at q
    exact q
  have E1 : Hid (∀ X, Below w.heap.size w X → Calls Tryd.prog 18 #[.pointer (some ⟨m, 0, none⟩)] X fun e w' => e = .returned (.bool EN) ∧ Below X.heap.size X w') := fun X hX => by
    have q := oEnded B0 m X V M (h.v.later hX)
    rw [m1] at q
    exact q
  have E2 : Hid (∀ X, Below w.heap.size w X → Calls Tryd.prog 17 #[.pointer (some ⟨m, 0, none⟩)] X fun e w' => e = .returned (.int .i64 TI) ∧ Below X.heap.size X w') := fun X hX => by
    have q := oTicks B0 m X V M (h.v.later hX)
    rw [m2] at q
    exact q
  have E3 : Hid (∀ X, Below w.heap.size w X → Calls Tryd.prog 21 #[.pointer (some ⟨m, 0, none⟩)] X fun e w' => e = .returned (.int .i64 ne) ∧ Below X.heap.size X w') := fun X hX => by
    have q := oCount B0 m X V M (h.v.later hX)
    rw [m4, ← hne] at q
    exact q
  have E4 : Hid (∀ X, Below w.heap.size w X → Calls Tryd.prog 13 #[.pointer (some ⟨m, 0, none⟩)] X fun e w' => ∃ a c, e = .returned (.slice a ne c) ∧ Hid (EvS w' a R.events) ∧ Below X.heap.size X w') := fun X hX => by
    have q := oEvents2 B0 m X V M (h.v.later hX) (by rw [m4]; exact hev)
    rw [m4, ← hne] at q
    exact q.mono fun e w' ⟨a, c, h1, _, h2, h3⟩ => ⟨a, c, h1, h2, h3⟩
  have E6 : Hid (∀ X, Below w.heap.size w X → Calls Tryd.prog 19 #[.pointer (some ⟨m, 0, none⟩)] X fun e w' => e = .returned (.int .i64 nf) ∧ Below X.heap.size X w') := fun X hX => by
    have q := oFrames B0 m X V M (h.v.later hX)
    rw [m5] at q
    exact q
  have E8 : Hid (∀ X, Below w.heap.size w X → Calls Tryd.prog 14 #[.pointer (some ⟨m, 0, none⟩), .int .i64 nf] X fun e w' => e = .returned (.tuple #[.int .i64 0, .int .i64 0, .slice none 0 0, .bool false]) ∧ Below X.heap.size X w') := fun X hX => by
    have q := oFrameB B0 m X V M (h.v.later hX) (by rw [m5]; omega)
    rw [m5] at q
    exact q
  have hs := h.u.re
  have ho : w.ownsRow (r + 1) 50 2 U.ev R.events.length (Vm.evC R.events) := hs.rows.own (reR U R) (by simp)
  obtain ⟨sa, sc, hsv, _, evw⟩ := own_evW ho rfl
  have E5 : Hid (∀ X a c, Below w.heap.size w X → EvS X a R.events → Calls Tryd.prog 22 #[.slice a ne c, .slice sa ne sc] X fun e w' => e = .returned (.bool true) ∧ Below X.heap.size X w') := fun X a c hX ha => by
    have q := sameEv_yes X a sa c sc R.events ha (fun h0 => by
      obtain ⟨g, e1, e2, e3, e4⟩ := (evw.later hX) h0
      exact ⟨g, e1, Nat.lt_of_lt_of_le e3 hX.size, e4⟩) hev
    rw [← hne] at q
    exact q
  have hrl := hs.lt
  have fvs : w.ownsRow (r + 1) 60 5 U.fv R.frames.length (rmC R.frames U.fc) := hs.rows.own (rfR U R) (by simp)
  obtain ⟨fa, fcap, hfv⟩ := own_shp fvs
  have c1 := hs.cell.2.1
  have c5 := hs.cell.2.2.2.2.2.1
  have c10 := hs.cell.2.2.2.2.2.2.1
  have c11 := hs.cell.2.2.2.2.2.2.2.1
  obtain ⟨c6, c7, c8, c9⟩ := hs.tick
  rw [hfv, ← hnf] at c1
  rw [← hTI] at c5
  rw [hsv, ← hne] at c10
  rw [← hEN] at c11
  rw [← hT0] at c6
  rw [← hT1] at c7
  rw [← hT2] at c8
  rw [← hT3] at c9
  have q0 : (T0 == T0) = true := beq_self_eq_true T0
  have q1 : (T1 == T1) = true := beq_self_eq_true T1
  have q2 : (T2 == T2) = true := beq_self_eq_true T2
  have q3 : (T3 == T3) = true := beq_self_eq_true T3
  have HT : Hid (Two B0 m lo r w V M U R) := h
  have HNF : Hid (nf = R.frames.length) := hnf
  have HFV : Hid (U.fv = .slice fa nf fcap) := by unfold Hid; rw [hfv, hnf]
  clear h rc eM m1 m2 m3 m4 m5 hs ho hsv evw fvs hfv hEN hTI hT0 hT1 hT2 hT3 hne hnf
  go_enter Tryd.func7, Tryd.ntmps7
  go_wp2_with fail
  refine Calls.mono ET.out ?_
  rintro e1 w1 ⟨rfl, b1⟩
  obtain ⟨W2, hW2⟩ : ∃ W2, W2 = w1.alloc (.cells #[.int .i64 T0, .int .i64 T1, .int .i64 T2, .int .i64 T3] 32) := ⟨_, rfl⟩
  obtain ⟨tb, htb⟩ : ∃ tb, tb = w1.heap.size := ⟨_, rfl⟩
  have x2 : W2.heap[tb]? = some (.cells #[.int .i64 T0, .int .i64 T1, .int .i64 T2, .int .i64 T3] 32 (0, 0)) := by rw [hW2, htb]; exact alloc_at w1 _
  have htl : tb < W2.heap.size := (Array.getElem?_eq_some_iff.1 x2).1
  have b2 : Below w.heap.size w W2 := b1.trans (by rw [hW2]; exact ((Below.refl w1.heap.size w1).alloc (Nat.le_refl _) _).mono b1.size)
  have KS : Hid (∀ X, Below W2.heap.size W2 X → X.cell? ⟨r, 1, none⟩ = some (.slice fa nf fcap) ∧ X.cell? ⟨r, 5, none⟩ = some (.int .i64 TI) ∧ X.cell? ⟨r, 6, none⟩ = some (.int .i64 T0) ∧ X.cell? ⟨r, 7, none⟩ = some (.int .i64 T1) ∧ X.cell? ⟨r, 8, none⟩ = some (.int .i64 T2) ∧ X.cell? ⟨r, 9, none⟩ = some (.int .i64 T3) ∧ X.cell? ⟨r, 10, none⟩ = some (.slice sa ne sc) ∧ X.cell? ⟨r, 11, none⟩ = some (.bool EN) ∧ X.cell? ⟨tb, 0, none⟩ = some (.int .i64 T0) ∧ X.cell? ⟨tb, 1, none⟩ = some (.int .i64 T1) ∧ X.cell? ⟨tb, 2, none⟩ = some (.int .i64 T2) ∧ X.cell? ⟨tb, 3, none⟩ = some (.int .i64 T3)) := fun X hX => by
    have y : Below w.heap.size w X := b2.trans (hX.mono b2.size)
    exact ⟨(y.cell hrl).trans c1, (y.cell hrl).trans c5, (y.cell hrl).trans c6, (y.cell hrl).trans c7, (y.cell hrl).trans c8, (y.cell hrl).trans c9, (y.cell hrl).trans c10, (y.cell hrl).trans c11, (hX.cell htl).trans (by simp [World.cell?, x2]), (hX.cell htl).trans (by simp [World.cell?, x2]), (hX.cell htl).trans (by simp [World.cell?, x2]), (hX.cell htl).trans (by simp [World.cell?, x2])⟩
  have BX : Hid (∀ X, Below W2.heap.size W2 X → Below w.heap.size w X) := fun X hX => b2.trans (hX.mono b2.size)
  have F1 : Hid (∀ X, Below W2.heap.size W2 X → Calls Tryd.prog 18 #[.pointer (some ⟨m, 0, none⟩)] X fun e w' => e = .returned (.bool EN) ∧ Hid (Below W2.heap.size W2 w')) := fun X hX => (E1.out X (BX.out X hX)).mono fun e w' ⟨h1, h2⟩ => ⟨h1, hX.trans (h2.mono hX.size)⟩
  have F2 : Hid (∀ X, Below W2.heap.size W2 X → Calls Tryd.prog 17 #[.pointer (some ⟨m, 0, none⟩)] X fun e w' => e = .returned (.int .i64 TI) ∧ Hid (Below W2.heap.size W2 w')) := fun X hX => (E2.out X (BX.out X hX)).mono fun e w' ⟨h1, h2⟩ => ⟨h1, hX.trans (h2.mono hX.size)⟩
  have F3 : Hid (∀ X, Below W2.heap.size W2 X → Calls Tryd.prog 21 #[.pointer (some ⟨m, 0, none⟩)] X fun e w' => e = .returned (.int .i64 ne) ∧ Hid (Below W2.heap.size W2 w')) := fun X hX => (E3.out X (BX.out X hX)).mono fun e w' ⟨h1, h2⟩ => ⟨h1, hX.trans (h2.mono hX.size)⟩
  have F4 : Hid (∀ X, Below W2.heap.size W2 X → Calls Tryd.prog 13 #[.pointer (some ⟨m, 0, none⟩)] X fun e w' => ∃ a c, e = .returned (.slice a ne c) ∧ Hid (EvS w' a R.events) ∧ Hid (Below W2.heap.size W2 w')) := fun X hX => (E4.out X (BX.out X hX)).mono fun e w' ⟨a, c, h1, h2, h3⟩ => ⟨a, c, h1, h2, hX.trans (h3.mono hX.size)⟩
  have F5 : Hid (∀ X a c, Below W2.heap.size W2 X → EvS X a R.events → Calls Tryd.prog 22 #[.slice a ne c, .slice sa ne sc] X fun e w' => e = .returned (.bool true) ∧ Hid (Below W2.heap.size W2 w')) := fun X a c hX ha => (E5.out X a c (BX.out X hX) ha).mono fun e w' ⟨h1, h2⟩ => ⟨h1, hX.trans (h2.mono hX.size)⟩
  have F6 : Hid (∀ X, Below W2.heap.size W2 X → Calls Tryd.prog 19 #[.pointer (some ⟨m, 0, none⟩)] X fun e w' => e = .returned (.int .i64 nf) ∧ Hid (Below W2.heap.size W2 w')) := fun X hX => (E6.out X (BX.out X hX)).mono fun e w' ⟨h1, h2⟩ => ⟨h1, hX.trans (h2.mono hX.size)⟩
  have s0 := KS.out W2 (Below.refl _ _)
  clear x2 b1 b2 ET E1 E2 E3 E4 E5 E6 c1 c5 c6 c7 c8 c9 c10 c11
  go_upto_region 2 with fail
  rw [← hW2, ← htb]
  clear hW2 htb
  go_cut [83] from 21 to 83 (fun s wx => s = .bool false ∧ Hid (Below W2.heap.size W2 wx))
  case first =>
    go_region_held3 (fun X => X.cell? ⟨r, 1, none⟩ = some (.slice fa nf fcap) ∧ X.cell? ⟨r, 5, none⟩ = some (.int .i64 TI) ∧ X.cell? ⟨r, 6, none⟩ = some (.int .i64 T0) ∧ X.cell? ⟨r, 7, none⟩ = some (.int .i64 T1) ∧ X.cell? ⟨r, 8, none⟩ = some (.int .i64 T2) ∧ X.cell? ⟨r, 9, none⟩ = some (.int .i64 T3) ∧ X.cell? ⟨r, 10, none⟩ = some (.slice sa ne sc) ∧ X.cell? ⟨r, 11, none⟩ = some (.bool EN) ∧ X.cell? ⟨tb, 0, none⟩ = some (.int .i64 T0) ∧ X.cell? ⟨tb, 1, none⟩ = some (.int .i64 T1) ∧ X.cell? ⟨tb, 2, none⟩ = some (.int .i64 T2) ∧ X.cell? ⟨tb, 3, none⟩ = some (.int .i64 T3)) (first | (exact s6) | (exact s5) | (exact s4) | (exact s3) | (exact s2) | (exact s1) | (exact s0) | go_keep) (first
      | (go_at_call 18; refine Calls.mono (F1.out _ (Below.refl _ _).drew) ?_; rintro e1 w1 ⟨rfl, B1⟩; have s1 := KS.out _ B1.out)
      | (go_at_call 17; refine Calls.mono (F2.out _ B1.out) ?_; rintro e2 w2 ⟨rfl, B2⟩; have s2 := KS.out _ B2.out)
      | (go_at_call 21; refine Calls.mono (F3.out _ B2.out) ?_; rintro e3 w3 ⟨rfl, B3⟩; have s3 := KS.out _ B3.out)
      | (go_at_call 13; refine Calls.mono (F4.out _ B3.out) ?_; rintro e4 w4 ⟨a4, c4, rfl, V4, B4⟩; have s4 := KS.out _ B4.out)
      | (go_at_call 22; refine Calls.mono (F5.out _ _ _ B4.out V4.out) ?_; rintro e5 w5 ⟨rfl, B5⟩; have s5 := KS.out _ B5.out)
      | (go_at_call 19; refine Calls.mono (F6.out _ B5.out) ?_; rintro e6 w6 ⟨rfl, B6⟩; have s6 := KS.out _ B6.out))
    all_goals
      go_wp2_with fail
      go_meet
      exact ⟨rfl, B6⟩
  case rest =>
    obtain ⟨rfl, B6⟩ := hcut
    have BW : Hid (Below w.heap.size w wc) := BX.out _ B6.out
    have c1 := (KS.out _ B6.out).1
    clear KS F1 F2 F3 F4 F5 F6 s0 B6 BX q0 q1 q2 q3
    have E7 : Hid (∀ (X : World) (k : Nat) (g : Vm.Rf), Below w.heap.size w X → R.frames[k]? = some g → Calls Tryd.prog 14 #[.pointer (some ⟨m, 0, none⟩), .int .i64 k] X fun e w' => ∃ a c, e = .returned (.tuple #[.int .i64 g.proc, .int .i64 g.mark, .slice a g.cells.length c, .bool true]) ∧ Hid (NuS w'.heap.size w' a g.cells) ∧ Hid (Below w.heap.size w w')) := fun X k g hX hk => (oFrameR B0 m X V M R k g (HT.out.v.later hX) HSM.out HRC.out hk).mono fun e w' ⟨a, c, h1, h2, h3⟩ => ⟨a, c, h1, h2.s, hX.trans (h3.mono hX.size)⟩
    have E8' : Hid (∀ X, Below w.heap.size w X → Calls Tryd.prog 14 #[.pointer (some ⟨m, 0, none⟩), .int .i64 nf] X fun e w' => e = .returned (.tuple #[.int .i64 0, .int .i64 0, .slice none 0 0, .bool false]) ∧ Hid (Below w.heap.size w w')) := fun X hX => (E8.out X hX).mono fun e w' ⟨h1, h2⟩ => ⟨h1, hX.trans (h2.mono hX.size)⟩
    have C1 : Hid (∀ X, Below w.heap.size w X → X.cell? ⟨r, 1, none⟩ = some (.slice fa nf fcap)) := fun X hX => by
      have := (HT.out.u.later hX).re.cell.2.1
      rw [HFV.out] at this
      exact this
    clear E8 c1
    go_wp2_with fail
    go_loopg [7] nf (fun gk i wr => ∃ k : Nat, k + gk = nf ∧ i = .int .i64 k ∧ Hid (Below w.heap.size w wr))
    case atStart => exact ⟨0, by omega, rfl, BW⟩
    case round =>
      obtain ⟨k, hk, rfl, BR⟩ := hrel
      have c1 := C1.out _ BR.out
      rcases gk with _ | gO
      · obtain rfl : k = nf := by omega
        have hki : ¬ (k : Int) < (k : Int) := by omega
        have dk : decide ((k : Int) < (k : Int)) = false := decide_eq_false hki
        go_wp2_with fail
        refine Calls.mono (E8'.out _ BR.out) ?_
        rintro e9 w9 ⟨rfl, B9⟩
        go_wp2_with fail
        refine bodyPost_ret (v := .bool true) (by simp [results, Tryd.results7, go_sem]) rfl ?_
        exact ⟨rfl, B9.out⟩
      · have hlt : k < nf := by omega
        have hki : (k : Int) < (nf : Int) := by omega
        have dk : decide ((k : Int) < (nf : Int)) = true := decide_eq_true hki
        have dkn : decide (k < nf) = true := decide_eq_true hlt
        have hk0 : (0 : Int) ≤ (k : Int) := by omega
        obtain ⟨g, hg⟩ : ∃ g, R.frames[k]? = some g := ⟨_, List.getElem?_eq_getElem (by rw [← HNF.out]; exact hlt)⟩
        obtain ⟨gf, gcap, ca, cc, hfv, hgl, d0, d2, d3, nu⟩ := HT.out.u.re.frameAt hg
        rw [HFV.out, ← HNF.out] at hfv
        obtain ⟨e1, _, e2⟩ := Value.slice.inj hfv
        subst e1
        subst e2
        obtain ⟨P, hP⟩ : ∃ P : Int, P = (g.proc : Int) := ⟨_, rfl⟩
        obtain ⟨Q, hQ⟩ : ∃ Q : Int, Q = g.mark := ⟨_, rfl⟩
        obtain ⟨nc, hnc⟩ : ∃ nc, nc = g.cells.length := ⟨_, rfl⟩
        have hncb : g.cells.length ≤ 1000000000 := by
          obtain ⟨c, hc, hk⟩ := HRC.out.fr g (List.mem_of_getElem? hg)
          have := HRC.out.ce c (List.mem_of_getElem? hc)
          omega
        have EF : Hid (Calls Tryd.prog 14 #[.pointer (some ⟨m, 0, none⟩), .int .i64 k] wr fun e w' => ∃ a c, e = .returned (.tuple #[.int .i64 P, .int .i64 Q, .slice a nc c, .bool true]) ∧ Hid (NuS w'.heap.size w' a g.cells) ∧ Hid (Below w.heap.size w w')) := by
          have := E7.out wr k g BR.out hg
          rw [← hP, ← hQ, ← hnc] at this
          exact this
        have ES : Hid (∀ X a c, Below w.heap.size w X → NuS X.heap.size X a g.cells → Calls Tryd.prog 23 #[.slice a nc c, .slice ca nc cc] X fun e w' => e = .returned (.bool true) ∧ Hid (Below w.heap.size w w')) := fun X a c hX ha => by
          have := sameNu_yes X a ca c cc g.cells ha (nus_up (nu.later hX) hX.size) hncb
          rw [← hnc] at this
          exact this.mono fun e w' ⟨h1, h2⟩ => ⟨h1, hX.trans (h2.mono hX.size)⟩
        rw [← hP] at d0
        rw [← hQ] at d2
        rw [← hnc] at d3
        have D : Hid (∀ X, Below w.heap.size w X → X.cell? ⟨gf, k * 5, none⟩ = some (.int .i64 P) ∧ X.cell? ⟨gf, k * 5 + 2, none⟩ = some (.int .i64 Q) ∧ X.cell? ⟨gf, k * 5 + 3, none⟩ = some (.slice ca nc cc)) := fun X hX => ⟨(hX.cell hgl).trans d0, (hX.cell hgl).trans d2, (hX.cell hgl).trans d3⟩
        clear hg d0 d2 d3 nu hP hQ hnc hncb E7
        go_wp2_with fail
        refine Calls.mono EF.out ?_
        rintro e9 w9 ⟨a9, c9, rfl, N9, B9⟩
        have c1 := C1.out _ B9.out
        obtain ⟨d0, d2, d3⟩ := D.out _ B9.out
        have qp : (P != P) = false := by simp
        have qq : (Q != Q) = false := by simp
        clear EF
        go_wp2_with fail
        refine Calls.mono (ES.out _ _ _ B9.out N9.out) ?_
        rintro e10 w10 ⟨rfl, B10⟩
        clear d0 d2 d3
        go_wp2_with fail
        go_roundg gO
        case measure => omega
        case rel => exact ⟨k + 1, by omega, by go_num, B10⟩
end Go.Proofs.YtkjkiknpgggadaaDoor

