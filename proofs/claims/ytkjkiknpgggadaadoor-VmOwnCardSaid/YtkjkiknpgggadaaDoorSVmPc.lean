/- Layer 9: VmOwn walked: nothing is shared. -/
import Derived.Test.YtkjkiknpgggadaaDoorSVmPd
import Derived.Deep.LoopGhost
import Derived.Deep.DeepAppendWide
namespace Go.Proofs.YtkjkiknpgggadaaDoor
open Go.RowKit
set_option linter.unusedVariables false
set_option linter.unusedSimpArgs false

set_option maxRecDepth 100000 in
set_option maxHeartbeats 16000000 in
theorem own9_walk (la : Option Addr) (l : List Cd.Co) (lc : Nat) (main : Int) (ia : Option Addr) (inp : List Int) (ic : Nat) (fuel : Int) (B : Nat) (w : World) (hB : B ≤ w.heap.size) (tn : Tn B w) (tm : Tm B w) (hco : CoS w.heap.size w la l) (hok : ∀ d, d ∈ l → d.Ok) (hln : l.length * 48 ≤ 140737488351232) (hil : ∀ c ∈ l, c.ins.length * 24 ≤ 140737488351232) (hi : NuS w.heap.size w ia inp) (hin : ia = none → ic = 0) (h6 : Vm.A6 inp) :
    Calls Tryd.prog 4 #[.slice la l.length lc, .int .i64 main, .slice ia inp.length ic, .int .i64 fuel] w fun e w' => e = .returned (.bool true) ∧ Below w.heap.size w w' := by
  have EG : Hid (Calls Tryd.prog 10 #[.slice la l.length lc] w (BoQ w)) := great9_any w.heap.size la lc l w ⟨Nat.le_refl _, hco, hok, tn.mono hB, tm.mono hB⟩
  have EK : Hid (∀ X, Below w.heap.size w X → Calls Tryd.prog 6 #[] X fun e w' => e = .returned (.bool true) ∧ Hid (Below w.heap.size w w')) := fun X hX => (known9 B X (Nat.le_trans hB hX.size) (tn.later (hX.mono hB)) (tm.later (hX.mono hB))).mono fun e w' ⟨h1, h2⟩ => ⟨h1, hX.trans (h2.mono hX.size)⟩
  have EF : Hid (∀ X, Calls Tryd.prog 12 #[.int .i64 fuel] X fun e w' => e = .returned (.int .i64 (Vm.fw fuel)) ∧ w' = X) := fun X => vmFew fuel X
  have HTB : Hid (∀ X, Below w.heap.size w X → Tn X.heap.size X ∧ Tm X.heap.size X) := fun X hX => ⟨(tn.later (hX.mono hB)).mono (Nat.le_trans hB hX.size), (tm.later (hX.mono hB)).mono (Nat.le_trans hB hX.size)⟩
  have HCO : Hid (CoS w.heap.size w la l) := hco
  have HOK : Hid (∀ d, d ∈ l → d.Ok) := hok
  have HIL : Hid (∀ c ∈ l, c.ins.length * 24 ≤ 140737488351232) := hil
  have HI : Hid (NuS w.heap.size w ia inp) := hi
  have HIN : Hid (ia = none → ic = 0) := hin
  have H6 : Hid (Vm.A6 inp) := h6
  obtain ⟨nI, hnI⟩ : ∃ nI, nI = inp.length := ⟨_, rfl⟩
  obtain ⟨L, hL⟩ : ∃ L, L = l.length := ⟨_, rfl⟩
  have HN : Hid (nI = inp.length ∧ L = l.length) := ⟨hnI, hL⟩
  rw [← hL] at EG hln ⊢
  rw [← hnI]
  clear tn tm hco hok hil hi hin h6 hnI hL hB
  go_enter Tryd.func4, Tryd.ntmps4
  go_wp2_with fail
  refine Calls.mono EG.out ?_
  rintro e1 w1 ⟨gb, rfl, b1⟩
  have B1 : Hid (Below w.heap.size w w1) := b1
  clear b1 EG
  cases gb with
  | true =>
    go_wp2_with fail
    refine Calls.mono (EK.out _ B1.out) ?_
    rintro e2 w2 ⟨rfl, B2⟩
    go_wp2_with fail
    go_ret
    exact ⟨rfl, B2.out⟩
  | false =>
    by_cases h200 : nI > 200
    · have g1 : (nI : Int) > 200 := by omega
      have dg1 : decide ((200 : Int) < (nI : Int)) = true := decide_eq_true g1
      have dg2 : decide (200 < nI) = true := decide_eq_true h200
      go_wp2_with fail
      refine Calls.mono (EK.out _ B1.out) ?_
      rintro e2 w2 ⟨rfl, B2⟩
      go_wp2_with fail
      go_ret
      exact ⟨rfl, B2.out⟩
    · have g1 : ¬ (nI : Int) > 200 := by omega
      have dg1 : decide ((200 : Int) < (nI : Int)) = false := decide_eq_false g1
      have dg2 : decide (200 < nI) = false := decide_eq_false h200
      have I0 : Hid (OwI w1 l 0 [] (.slice none 0 0) w1) := OwI.zero
      go_wp2_with fail
      go_loopg [9, 10] L (fun gk v i wr => ∃ (k : Nat) (qs : List Lc) (a : Option Addr) (cp : Nat), k + gk = L ∧ i = .int .i64 k ∧ v = .slice a k cp ∧ Hid (OwI w1 l k qs (.slice a k cp) wr))
      case atStart => exact ⟨0, [], none, 0, by omega, rfl, rfl, I0⟩
      case round =>
        clear I0
        obtain ⟨k, qs, a, cp, hk, rfl, rfl, OI⟩ := hrel
        rcases gk with _ | gO
        · obtain rfl : k = L := by omega
          have hki : ¬ (k : Int) < (k : Int) := by omega
          have dk : decide ((k : Int) < (k : Int)) = false := decide_eq_false hki
          have OI1 := OI.out
          have hkl : k = l.length := HN.out.2
          obtain ⟨a', cap', hv', COM⟩ : ∃ a' cap', Value.slice a k cp = .slice a' l.length cap' ∧ CoS wr.heap.size wr a' l := by
            have q := OI.out
            rw [hkl] at q
            rw [hkl]
            exact q.done (by rw [← hkl]; omega)
          obtain ⟨e1, e5, e2⟩ := Value.slice.inj hv'
          clear e5
          subst e1
          have HCM : Hid (CoS wr.heap.size wr a l) := COM
          have BWR : Hid (Below w.heap.size w wr) := B1.out.trans (OI.out.b.mono B1.out.size)
          have hpl : k * 48 ≤ 140737488351232 := hln
          clear OI1 hkl hv' e2 COM
          have EIN : Hid (∃ (a2 : Option Addr) (c2 : Nat) (w2 : World), (Builtin.append_ #[23, 23] 23 #[.slice none 0 0, .slice ia nI ic]).run Tryd.prog wr = .ok (.slice a2 nI c2) w2 ∧ w2.ownsRow wr.heap.size 2 1 (.slice a2 nI c2) nI (nC inp) ∧ Below wr.heap.size wr w2 ∧ (a2 = none → c2 = 0)) := by
            have q := inRun wr ia ic inp (nus_up (HI.out.later BWR.out) BWR.out.size) (by rw [← HN.out.1]; omega) 23
            rw [← HN.out.1] at q
            exact q
          obtain ⟨a2, c2, w2, hr, r2, b2, z2⟩ := EIN.out
          have HR2 : Hid (w2.ownsRow wr.heap.size 2 1 (.slice a2 nI c2) nI (nC inp)) := r2
          have B2 : Hid (Below wr.heap.size wr w2) := b2
          have BW2 : Hid (Below w.heap.size w w2) := BWR.out.trans (b2.mono BWR.out.size)
          have EB : Hid (Calls Tryd.prog 5 #[.slice a k cp, .int .i64 main, .slice a2 nI c2, .int .i64 fuel] w2 (BtR w2 l main inp fuel)) := by
            obtain ⟨x1, x2⟩ := HTB.out w2 BW2.out
            obtain ⟨a3, c3, e3, _, nu3⟩ := own_nuW r2 HN.out.1
            obtain ⟨e4, _, _⟩ := Value.slice.inj e3
            subst e4
            have q := both9R w2.heap.size w2 a a2 cp c2 l inp main fuel ⟨Nat.le_refl _, (HCM.out.later b2).mono b2.size, HOK.out, x1, x2⟩ nu3.s z2
            rw [← HN.out.1, ← HN.out.2] at q
            exact q
          have EN : Hid (∀ X, Below w.heap.size w X → Calls Tryd.prog 11 #[.slice la k lc, .int .i64 main, .slice ia nI ic, .int .i64 (Vm.fw fuel)] X fun e w' => ∃ (pk : Option Addr) (er : Int), e = .returned (.tuple #[.pointer pk, .int .i64 er]) ∧ Hid (Below X.heap.size X w' ∧ ∀ (p : Nat) (c : Cd.Co), main = p → Cd.Snd Cd.top l p → l[p]? = some c → VmArg (Vm.fw fuel) nI → er = 0 ∧ ∃ r U, pk = some ⟨r, 0, none⟩ ∧ RmO w.heap.size X.heap.size r w' U (Vm.rini l p c.cells.toNat inp (Vm.fw fuel)))) := fun X hX => by
            obtain ⟨x1, x2⟩ := HTB.out X hX
            obtain ⟨y1, y2⟩ := HTB.out w (Below.refl _ _)
            have q := newAny w.heap.size X la ia lc ic l inp main (Vm.fw fuel) ⟨hX.size, HCO.out.later hX, HOK.out, y1.later hX, y2.later hX⟩ (nus_up (HI.out.later hX) hX.size) HIN.out
            rw [← HN.out.1, ← HN.out.2] at q
            exact q
          have HRR := (show Hid ((Builtin.append_ #[23, 23] 23 #[.slice none 0 0, .slice ia nI ic]).run Tryd.prog wr = .ok (.slice a2 nI c2) w2) from hr)
          clear EIN r2 b2 z2 hln hr
          go_wp2_with (at_builtin; refine Lib.wpList_append_run _ rfl _ _ _ _ rfl _ _ rfl rfl _ _ HRR.out ?_)
          refine Calls.mono EB.out ?_
          intro e3 w3 Q3
          rcases Q3 with ⟨rfl, b3⟩ | ⟨m, r0, lo0, V, U0, on, p, c, G, rfl, hmp, hs, hc, ha, hi2, h3, b3⟩
          · have B3 : Hid (Below w.heap.size w w3) := BW2.out.trans (b3.mono BW2.out.size)
            clear b3 EB
            go_wp2_with fail
            refine Calls.mono (EF.out _) ?_
            rintro e4 w4 ⟨rfl, hw4⟩
            subst hw4
            go_wp2_with fail
            refine Calls.mono (EN.out _ B3.out) ?_
            rintro e5 w5 ⟨pk, er, rfl, A5⟩
            have B5 : Hid (Below w.heap.size w w5) := B3.out.trans (A5.out.1.mono B3.out.size)
            clear A5
            go_wp2_with fail
            refine Calls.mono (EK.out _ B5.out) ?_
            rintro e6 w6 ⟨rfl, B6⟩
            go_wp2_with fail
            go_ret
            exact ⟨rfl, B6.out⟩
          · have B3 : Hid (Below w.heap.size w w3) := BW2.out.trans (b3.mono BW2.out.size)
            have H3 : Hid (VmO w2.heap.size m w3 V (Vm.beg l p c.cells.toNat inp (Vm.fw fuel) G) ∧ Below w2.heap.size w2 w3) := ⟨h3.v, b3⟩
            have HP : Hid (main = p ∧ Cd.Snd Cd.top l p ∧ l[p]? = some c ∧ VmArg (Vm.fw fuel) nI) := ⟨hmp, hs, hc, by rw [HN.out.1]; exact ha⟩
            clear b3 EB h3 hmp hs hc ha hi2
            go_wp2_with fail
            refine Calls.mono (EF.out _) ?_
            rintro e4 w4 ⟨rfl, hw4⟩
            subst hw4
            go_wp2_with fail
            refine Calls.mono (EN.out _ B3.out) ?_
            rintro e5 w5 ⟨pk, er, rfl, A5⟩
            have B5 : Hid (Below w.heap.size w w5) := B3.out.trans (A5.out.1.mono B3.out.size)
            obtain ⟨rfl, kr, KU, rfl, hKU⟩ := A5.out.2 p c HP.out.1 HP.out.2.1 HP.out.2.2.1 HP.out.2.2.2
            have B35 : Hid (Below w4.heap.size w4 w5) := A5.out.1
            have HK : Hid (RmO w.heap.size w4.heap.size kr w5 KU (Vm.rini l p c.cells.toNat inp (Vm.fw fuel))) := hKU
            clear A5 hKU
            cases on with
            | false =>
              go_wp2_with fail
              refine Calls.mono (EK.out _ B5.out) ?_
              rintro e6 w6 ⟨rfl, B6⟩
              go_wp2_with fail
              go_ret
              exact ⟨rfl, B6.out⟩
            | true =>
              have BWr5 : Hid (Below wr.heap.size wr w5) := (B2.out.trans (H3.out.2.mono B2.out.size)).trans (B35.out.mono (Nat.le_trans B2.out.size H3.out.2.size))
              obtain ⟨S1, hS1⟩ : ∃ S1, S1 = wr.heap.size := ⟨_, rfl⟩
              have h12 : Hid (w.heap.size ≤ w1.heap.size ∧ w1.heap.size ≤ S1 ∧ S1 ≤ w2.heap.size ∧ w2.heap.size ≤ w4.heap.size ∧ w4.heap.size ≤ w5.heap.size) := ⟨B1.out.size, by rw [hS1]; exact OI.out.b.size, by rw [hS1]; exact B2.out.size, H3.out.2.size, B35.out.size⟩
              obtain ⟨gm, hgm, hgw, hgq⟩ : ∃ gm, (0 < k → a = some ⟨gm, 0, none⟩ ∧ gm < wr.heap.size) ∧ (gm < wr.heap.size ∨ w2.heap.size ≤ gm) ∧ ∀ q ∈ qs, ∀ x, q.ia = some ⟨x, 0, none⟩ → x ≠ gm := by
                rcases OI.out.row.2 with ⟨_, e0⟩ | ⟨g, cap3, cur, e, _⟩
                · refine ⟨w2.heap.size, (fun h => by omega), .inr (Nat.le_refl _), fun q hq => ?_⟩
                  have e := OI.out.eq
                  rw [e0, List.take_zero] at e
                  rw [List.map_eq_nil_iff.1 e] at hq
                  cases hq
                · have ea := (Value.slice.inj e).1
                  refine ⟨g, fun _ => ⟨ea, (OI.out.row.lt g (by rw [ea]; rfl)).2⟩, .inl (OI.out.row.lt g (by rw [ea]; rfl)).2, fun q hq x hx hxg => ?_⟩
                  exact ((OI.out.hi q hq).2.2.2 x hx).2 (by rw [ea, hxg]; rfl)
              have HGW : Hid (gm < S1 ∨ w2.heap.size ≤ gm) := by unfold Hid; rw [hS1]; exact hgw
              have WI : Hid (Wr w5 a2 nI S1 w2.heap.size) := by
                rw [hS1]
                have q := own_wr HR2.out
                rw [Nat.mul_one] at q
                refine q.of (fun b h1 h2 => ?_) (Nat.le_refl _) (Nat.le_refl _)
                exact (B35.out.block b (by have := h12.out; omega)).trans (H3.out.2.block b h2)
              have M0 : Hid (MtI w1.heap.size w2.heap.size w5 qs gm w5) := ⟨Below.refl _ _, rfl, fun _ _ => rfl, rfl, fun q hq => ⟨(OI.out.hi q hq).2.2.1.of (fun b h1 h2 => BWr5.out.block b h2) (Nat.le_refl _) (by have := h12.out; rw [← hS1]; omega), hgq q hq⟩⟩
              have GET : Hid (∀ (n : Nat) wx, n < k → MtI w1.heap.size w2.heap.size w5 qs gm wx → ∃ (q : Lc), qs[n]? = some q ∧ q ∈ qs ∧ a = some ⟨gm, 0, none⟩ ∧ wx.cell? ⟨gm, n * 4, none⟩ = some (.slice q.ia q.c.ins.length q.ic) ∧ q.c.ins.length * 24 ≤ 140737488351232) := fun n wx hn hm => by
                obtain ⟨ea, hgl⟩ := hgm (by omega)
                have hq : n < qs.length := by
                  have e := congrArg List.length OI.out.eq
                  rw [List.length_map, List.length_take, ← HN.out.2] at e
                  omega
                have hqe := List.getElem?_eq_getElem hq
                obtain ⟨g0, _⟩ := LcS_get qs n _ hqe
                have c := @World.ownsRow.cells _ _ _ _ _ _ _ OI.out.row gm (by rw [ea]; rfl) _ _ g0
                rw [adM, Nat.zero_add] at c
                have hmem : qs[n].c ∈ l := by
                  have e := OI.out.eq
                  have : qs[n].c ∈ qs.map Lc.c := List.mem_map.2 ⟨_, List.getElem_mem _, rfl⟩
                  rw [e] at this
                  exact List.mem_of_mem_take this
                refine ⟨qs[n], hqe, List.getElem_mem _, ea, ?_, HIL.out _ hmem⟩
                rw [World.cell?_of_block (a := ⟨gm, n * 4, none⟩) (hm.m.trans (BWr5.out.block gm hgl))]
                exact c
              clear hgm hgq hgw HR2 EN hS1
              go_wp2_with fail
              go_loopg [20] k (fun gk i wx => ∃ n : Nat, n + gk = k ∧ i = .int .i64 n ∧ Hid (MtI w1.heap.size w2.heap.size w5 qs gm wx ∧ Wr wx a2 nI S1 w2.heap.size))
              case atStart => exact ⟨0, by omega, rfl, M0.out, WI.out⟩
              case round =>
                clear M0 WI
                obtain ⟨n, hn, rfl, MW⟩ := hrel
                rcases gk with _ | gN
                · obtain rfl : n = k := by omega
                  have hni : ¬ (n : Int) < (n : Int) := by omega
                  have dn : decide ((n : Int) < (n : Int)) = false := decide_eq_false hni
                  go_wp2_with fail
                  go_loopg [22] nI (fun gk i wx => ∃ n : Nat, n + gk = nI ∧ i = .int .i64 n ∧ Hid (MtI w1.heap.size w2.heap.size w5 qs gm wx ∧ Wr wx a2 nI S1 w2.heap.size))
                  case atStart => exact ⟨0, by omega, rfl, MW⟩
                  case round =>
                    clear MW
                    obtain ⟨x, hx, rfl, MW⟩ := hrel
                    rcases gk with _ | gX
                    · obtain rfl : x = nI := by omega
                      have hxi : ¬ (x : Int) < (x : Int) := by omega
                      have dx : decide ((x : Int) < (x : Int)) = false := decide_eq_false hxi
                      have fle := fw_le HP.out.2.2.2
                      have I0 : Hid (RnI w.heap.size m w4.heap.size kr w 201 V (Vm.beg l p c.cells.toNat inp (Vm.fw fuel) G) KU (Vm.rini l p c.cells.toNat inp (Vm.fw fuel)) wr) := by
                        have q := h12.out
                        have tw := MW.out.1.two H3.out.1 B35.out HK.out (by omega) (Nat.le_refl _) (by omega) (by omega)
                        obtain ⟨_, hs, hc, ha⟩ := HP.out
                        rw [HN.out.1] at ha
                        refine ⟨tw, B5.out.trans (MW.out.1.b.mono (by omega)), ⟨_, G, (Vm.rini_abs l p c.cells.toNat inp (Vm.fw fuel) G).symm⟩, Vm.rini_rb HOK.out H6.out, Vm.rini_rc hs hc, fun _ => ⟨⟨G, (Vm.rini_abs l p c.cells.toNat inp (Vm.fw fuel) G).symm⟩, Vm.rini_rw hs hc ⟨ha.1, ha.2.1⟩ ha.2.2⟩, by show 0 + 201 * 1048577 ≤ _; omega, fun _ => ?_⟩
                        show (Vm.fw fuel).toNat + 1 ≤ 201
                        omega
                      generalize Vm.beg l p c.cells.toNat inp (Vm.fw fuel) G = M at I0
                      generalize Vm.rini l p c.cells.toNat inp (Vm.fw fuel) = R at I0
                      have ES : Hid (∀ (X : World) (gk : Nat) V M U R, RnI w.heap.size m w4.heap.size kr w gk V M U R X → Calls Tryd.prog 7 #[.pointer (some ⟨m, 0, none⟩), .pointer (some ⟨kr, 0, none⟩)] X fun e w' => e = .returned (.bool true) ∧ Hid (RnI w.heap.size m w4.heap.size kr w gk V M U R w')) := fun X gk V M U R h => (same9 w.heap.size m w4.heap.size kr X V M U R h.t h.sm h.rc (by have := h.ev; omega)).mono fun e w' ⟨h1, h2⟩ => ⟨h1, h.later h2⟩
                      clear MW H3 HK HP B35 GET fle HGW h12 dx hxi dn hni
                      go_wp2_with fail
                      go_loopg [] 201 (fun gk wr => ∃ V M U R, Hid (RnI w.heap.size m w4.heap.size kr w gk V M U R wr))
                      case atStart => exact ⟨V, M, KU, R, I0⟩
                      case round =>
                        clear I0
                        obtain ⟨V1, M1, U1, R1, RI⟩ := hrel
                        have c11 := RI.out.t.u.re.cell.2.2.2.2.2.2.2.1
                        cases hen : R1.ended with
                        | true =>
                          rw [hen] at c11
                          clear hen
                          go_wp2_with fail
                          refine Calls.mono (ES.out _ _ _ _ _ _ RI.out) ?_
                          rintro e6 w6 ⟨rfl, I6⟩
                          go_wp2_with fail
                          refine Calls.mono (EK.out _ I6.out.b) ?_
                          rintro e7 w7 ⟨rfl, B7⟩
                          go_wp2_with fail
                          go_ret
                          exact ⟨rfl, B7.out⟩
                        | false =>
                          rw [hen] at c11
                          have HE := (show Hid (R1.ended = false) from hen)
                          rcases gk with _ | gO
                          · have := RI.out.ms hen
                            omega
                          · obtain ⟨⟨G1, hG1⟩, wf⟩ := RI.out.on hen
                            have E1 : Hid (Calls Tryd.prog 8 #[.pointer (some ⟨m, 0, none⟩)] wr fun e w' => e = .returned (.bool (Vm.rstep R1).2) ∧ ∃ V', Hid (VmO w.heap.size m w' V' (Vm.step M1) ∧ Frm m wr w' V1 V')) := by
                              have s := Vm.stp wf hen RI.out.rb RI.out.rc G1
                              have q := oStep w.heap.size m wr V1 M1 Cd.top RI.out.t.v (by rw [hG1]; exact wf.wf G1) (by rw [hG1]; show (!R1.ended) = true; rw [hen]; rfl) (by have := RI.out.ev; rw [hG1]; show R1.events.length + _ ≤ _; omega)
                              refine q.mono fun e w' ⟨h1, V', h2, h3⟩ => ⟨?_, V', h2, h3⟩
                              rw [h1, s.tk, hG1]
                            have E2 : Hid (∀ X, RmO w.heap.size w4.heap.size kr X U1 R1 → Calls Tryd.prog 9 #[.pointer (some ⟨kr, 0, none⟩), .int .i64 1048576] X fun e w' => e = .returned (.bool (Vm.rstep R1).2) ∧ ∃ U', Hid (RmO w.heap.size w4.heap.size kr w' U' (Vm.rstep R1).1 ∧ RFrm kr X w' U1 R1 U' (Vm.rstep R1).1)) := fun X hX => orStep w.heap.size w4.heap.size kr X U1 R1 Cd.top hX wf RI.out.rb RI.out.rc hen (by have := RI.out.ev; omega)
                            generalize hb : (Vm.rstep R1).2 = bb at E1 E2
                            clear hen wf hG1 hb
                            go_wp2_with fail
                            refine Calls.mono E1.out ?_
                            rintro e6 w6 ⟨rfl, V6, A6⟩
                            go_wp2_with fail
                            refine Calls.mono (E2.out _ (RI.out.t.left A6.out.1 A6.out.2).u) ?_
                            rintro e7 w7 ⟨rfl, U7, A7⟩
                            have I7 : Hid (RnI w.heap.size m w4.heap.size kr w gO V6 (Vm.step M1) U7 (Vm.rstep R1).1 w7) := RI.out.step HE.out A6.out.1 A6.out.2 (fun _ => A7.out)
                            clear E1 E2 A6 A7 RI HE c11
                            have qb : (bb != bb) = false := by cases bb <;> rfl
                            have EV : Hid _ := evAny I7.out
                            go_wp2_with fail
                            refine Calls.mono EV.out ?_
                            rintro e8 w8 ⟨ea8, n8, c8, rfl, A8⟩
                            clear EV
                            have hn8 := A8.out.2.2
                            have J8 : Hid (Below w7.heap.size w7 w8 ∧ Wr w8 ea8 (n8 * 2) w7.heap.size w8.heap.size) := ⟨A8.out.2.1, A8.out.1⟩
                            obtain ⟨S8, hS8⟩ : ∃ S8, S8 = w8.heap.size := ⟨_, rfl⟩
                            rw [← hS8] at J8
                            clear A8 hS8
                            go_wp2_with fail
                            go_loopg [24] n8 (fun gj i wx => ∃ x : Nat, x + gj = n8 ∧ i = .int .i64 x ∧ Hid (Below w7.heap.size w7 wx ∧ Wr wx ea8 (n8 * 2) w7.heap.size S8))
                            case atStart => exact ⟨0, by omega, rfl, J8⟩
                            case round =>
                              clear J8
                              obtain ⟨x, hx, rfl, J8⟩ := hrel
                              rcases gk with _ | gX
                              · obtain rfl : x = n8 := by omega
                                have hxi : ¬ (x : Int) < (x : Int) := by omega
                                have dx : decide ((x : Int) < (x : Int)) = false := decide_eq_false hxi
                                have I9 : Hid (RnI w.heap.size m w4.heap.size kr w gO V6 (Vm.step M1) U7 (Vm.rstep R1).1 wr) := I7.out.later J8.out.1
                                have EFR : Hid _ := frAny I9.out
                                clear I7 J8
                                go_wp2_with fail
                                refine Calls.mono EFR.out ?_
                                rintro e10 w10 ⟨p10, mk10, a10, n10, c10, b10, rfl, A10⟩
                                clear EFR
                                have hn10 := A10.out.2.2
                                obtain ⟨S10, hS10⟩ : ∃ S10, S10 = w10.heap.size := ⟨_, rfl⟩
                                obtain ⟨T10, hT10⟩ : ∃ T10, T10 = wr.heap.size := ⟨_, rfl⟩
                                have J10 : Hid (RnI w.heap.size m w4.heap.size kr w gO V6 (Vm.step M1) U7 (Vm.rstep R1).1 w10 ∧ Wr w10 a10 n10 T10 S10 ∧ Below T10 wr w10) := by
                                  rw [hS10, hT10]
                                  exact ⟨I9.out.later A10.out.2.1, A10.out.1, A10.out.2.1⟩
                                have SET : Hid (∀ (wx : World) (g i : Nat) (u : Value), Below T10 wr wx → T10 ≤ g → Below T10 wr (wx.setCell ⟨g, i, none⟩ u) ∧ RnI w.heap.size m w4.heap.size kr w gO V6 (Vm.step M1) U7 (Vm.rstep R1).1 (wx.setCell ⟨g, i, none⟩ u)) := fun wx g i u hb hg => by
                                  have y : Below T10 wr (wx.setCell ⟨g, i, none⟩ u) := hb.trans ⟨rfl, rfl, rfl, by simp, fun j hj => heap_setCell_other _ _ j _ (by simp; omega)⟩
                                  refine ⟨y, ?_⟩
                                  rw [hT10] at y
                                  exact I9.out.later y
                                clear A10 hS10 hT10 I9
                                go_wp2_with fail
                                go_loopg [29] n10 (fun gj i wx => ∃ x : Nat, x + gj = n10 ∧ i = .int .i64 x ∧ Hid (RnI w.heap.size m w4.heap.size kr w gO V6 (Vm.step M1) U7 (Vm.rstep R1).1 wx ∧ Wr wx a10 n10 T10 S10 ∧ ∃ X0, Below T10 X0 wx ∧ ∀ (wy : World) (g i : Nat) (u : Value), Below T10 X0 wy → T10 ≤ g → Below T10 X0 (wy.setCell ⟨g, i, none⟩ u) ∧ RnI w.heap.size m w4.heap.size kr w gO V6 (Vm.step M1) U7 (Vm.rstep R1).1 (wy.setCell ⟨g, i, none⟩ u)))
                                case atStart => exact ⟨0, by omega, rfl, J10.out.1, J10.out.2.1, _, J10.out.2.2, SET.out⟩
                                case round =>
                                  clear J10 SET
                                  obtain ⟨y, hy, rfl, J10⟩ := hrel
                                  rcases gk with _ | gY
                                  · obtain rfl : y = n10 := by omega
                                    have hyi : ¬ (y : Int) < (y : Int) := by omega
                                    have dy : decide ((y : Int) < (y : Int)) = false := decide_eq_false hyi
                                    go_wp2_with fail
                                    go_roundg gO
                                    case measure => omega
                                    case rel => exact ⟨_, _, _, _, J10.out.1⟩
                                  · have hlty : y < n10 := by omega
                                    have hyi : (y : Int) < (n10 : Int) := by omega
                                    have hy0 : (0 : Int) ≤ (y : Int) := by omega
                                    have dy : decide ((y : Int) < (n10 : Int)) = true := decide_eq_true hyi
                                    have dyn : decide (y < n10) = true := decide_eq_true hlty
                                    obtain ⟨gi, u, rfl, hg1, hg2, hg3, hu, fu⟩ := J10.out.2.1.at hlty
                                    have NX : Hid (RnI w.heap.size m w4.heap.size kr w gO V6 (Vm.step M1) U7 (Vm.rstep R1).1 (wr.setCell ⟨gi, y, none⟩ (.int .i64 4)) ∧ Wr (wr.setCell ⟨gi, y, none⟩ (.int .i64 4)) (some ⟨gi, 0, none⟩) n10 T10 S10 ∧ ∃ X0, Below T10 X0 (wr.setCell ⟨gi, y, none⟩ (.int .i64 4)) ∧ ∀ (wy : World) (g i : Nat) (u : Value), Below T10 X0 wy → T10 ≤ g → Below T10 X0 (wy.setCell ⟨g, i, none⟩ u) ∧ RnI w.heap.size m w4.heap.size kr w gO V6 (Vm.step M1) U7 (Vm.rstep R1).1 (wy.setCell ⟨g, i, none⟩ u)) := by
                                      obtain ⟨X0, q1, q2⟩ := J10.out.2.2
                                      have q3 := q2 wr gi y (.int .i64 4) q1 hg1
                                      exact ⟨q3.2, J10.out.2.1.set gi y _, X0, q3.1, q2⟩
                                    clear J10
                                    go_wp2_with fail
                                    go_roundg gY
                                    case measure => omega
                                    case rel => exact ⟨y + 1, by omega, by go_num, NX⟩
                              · have hltx : x < n8 := by omega
                                have hxi : (x : Int) < (n8 : Int) := by omega
                                have hx0 : (0 : Int) ≤ (x : Int) := by omega
                                have dx : decide ((x : Int) < (n8 : Int)) = true := decide_eq_true hxi
                                have dxn : decide (x < n8) = true := decide_eq_true hltx
                                obtain ⟨gi, u, rfl, hg1, hg2, hg3, hu, fu⟩ := J8.out.2.at (i := x * 2 + 1) (by omega)
                                have NX : Hid (Below w7.heap.size w7 (wr.setCell ⟨gi, x * 2 + 1, none⟩ (.int .i64 3)) ∧ Wr (wr.setCell ⟨gi, x * 2 + 1, none⟩ (.int .i64 3)) (some ⟨gi, 0, none⟩) (n8 * 2) w7.heap.size S8) := ⟨J8.out.1.trans ⟨rfl, rfl, rfl, by simp, fun j hj => heap_setCell_other _ _ j _ (by simp; omega)⟩, J8.out.2.set gi _ _⟩
                                clear J8
                                go_wp2_with fail
                                go_roundg gX
                                case measure => omega
                                case rel => exact ⟨x + 1, by omega, by go_num, NX⟩
                    · have hlt : x < nI := by omega
                      have hxi : (x : Int) < (nI : Int) := by omega
                      have hx0 : (0 : Int) ≤ (x : Int) := by omega
                      have dx : decide ((x : Int) < (nI : Int)) = true := decide_eq_true hxi
                      have dxn : decide (x < nI) = true := decide_eq_true hlt
                      obtain ⟨gi, u, rfl, hg1, hg2, hg3, hu, fu⟩ := MW.out.2.at hlt
                      have NX : Hid (MtI w1.heap.size w2.heap.size w5 qs gm (wr.setCell ⟨gi, x, none⟩ (.int .i64 9)) ∧ Wr (wr.setCell ⟨gi, x, none⟩ (.int .i64 9)) (some ⟨gi, 0, none⟩) nI S1 w2.heap.size) := ⟨MW.out.1.set (by have := h12.out; omega) hg2 (by have := HGW.out; omega) x _, MW.out.2.set gi x _⟩
                      clear MW
                      go_wp2_with fail
                      go_roundg gX
                      case measure => omega
                      case rel => exact ⟨x + 1, by omega, by go_num, NX⟩
                · have hlt : n < k := by omega
                  have hni : (n : Int) < (k : Int) := by omega
                  have hn0 : (0 : Int) ≤ (n : Int) := by omega
                  have dn : decide ((n : Int) < (k : Int)) = true := decide_eq_true hni
                  have dnn : decide (n < k) = true := decide_eq_true hlt
                  obtain ⟨q, hqn, hq, ea, cq0, hqb⟩ := GET.out n wr hlt MW.out.1
                  clear cq0
                  have HNN : Hid (n + (gN + 1) = k) := hn
                  obtain ⟨nq, hnq⟩ : ∃ nq, nq = q.c.ins.length := ⟨_, rfl⟩
                  have HQ : Hid (q ∈ qs ∧ nq = q.c.ins.length) := ⟨hq, hnq⟩
                  have CEL : Hid (∀ wx, MtI w1.heap.size w2.heap.size w5 qs gm wx → wx.cell? ⟨gm, n * 4, none⟩ = some (.slice q.ia nq q.ic)) := fun wx hm => by
                    obtain ⟨q', hq', _, _, c', _⟩ := GET.out n wx hlt hm
                    rw [hqn] at hq'
                    cases hq'
                    rw [hnq]
                    exact c'
                  rw [← hnq] at hqb
                  have GET2 := GET
                  clear GET
                  subst ea
                  clear hq hnq hqn
                  go_wp2_with fail
                  go_loopg [21] nq (fun gj j wx => ∃ x : Nat, x + gj = nq ∧ j = .int .i64 x ∧ Hid (MtI w1.heap.size w2.heap.size w5 qs gm wx ∧ Wr wx a2 nI S1 w2.heap.size))
                  case atStart => exact ⟨0, by omega, rfl, MW⟩
                  case round =>
                    clear MW
                    obtain ⟨x, hx, rfl, MW⟩ := hrel
                    have cq := CEL.out _ MW.out.1
                    rcases gk with _ | gX
                    · obtain rfl : x = nq := by omega
                      have hxi : ¬ (x : Int) < (x : Int) := by omega
                      have dx : decide ((x : Int) < (x : Int)) = false := decide_eq_false hxi
                      go_wp2_with fail
                      go_roundg gN
                      case measure => omega
                      case rel => exact ⟨n + 1, by have := HNN.out; omega, by go_num, MW⟩
                    · have hltx : x < nq := by omega
                      have hxi : (x : Int) < (nq : Int) := by omega
                      have hx0 : (0 : Int) ≤ (x : Int) := by omega
                      have dx : decide ((x : Int) < (nq : Int)) = true := decide_eq_true hxi
                      have dxn : decide (x < nq) = true := decide_eq_true hltx
                      obtain ⟨w3', hne⟩ := MW.out.1.w q HQ.out.1
                      rw [← HQ.out.2] at w3'
                      obtain ⟨gi, u0, eia, hg1, hg2, hg3, hu0, fu0⟩ := w3'.at (i := x * 3) (by omega)
                      obtain ⟨gi1, u1, eia1, _, _, _, hu1, fu1⟩ := w3'.at (i := x * 3 + 1) (by omega)
                      obtain ⟨gi2, u2, eia2, _, _, _, hu2, fu2⟩ := w3'.at (i := x * 3 + 2) (by omega)
                      obtain rfl : gi = gi1 := by rw [eia] at eia1; simpa using eia1
                      obtain rfl : gi = gi2 := by rw [eia] at eia2; simpa using eia2
                      have hgne := hne gi eia
                      have NX : Hid (MtI w1.heap.size w2.heap.size w5 qs gm (((wr.setCell ⟨gi, x * 3, none⟩ (.int .i64 1)).setCell ⟨gi, x * 3 + 1, none⟩ (.int .i64 7)).setCell ⟨gi, x * 3 + 2, none⟩ (.int .i64 0)) ∧ Wr (((wr.setCell ⟨gi, x * 3, none⟩ (.int .i64 1)).setCell ⟨gi, x * 3 + 1, none⟩ (.int .i64 7)).setCell ⟨gi, x * 3 + 2, none⟩ (.int .i64 0)) a2 nI S1 w2.heap.size) := ⟨((MW.out.1.set hg1 hg2 hgne _ _).set hg1 hg2 hgne _ _).set hg1 hg2 hgne _ _, ((MW.out.2.set _ _ _).set _ _ _).set _ _ _⟩
                      rw [eia] at cq
                      clear MW w3' hne eia eia1 eia2
                      go_wp2_with fail
                      go_roundg gX
                      case measure => omega
                      case rel => exact ⟨x + 1, by omega, by go_num, NX⟩
        · have hlt : k < L := by omega
          have hki : (k : Int) < (L : Int) := by omega
          have dk : decide ((k : Int) < (L : Int)) = true := decide_eq_true hki
          have dkn : decide (k < L) = true := decide_eq_true hlt
          have hk0 : (0 : Int) ≤ (k : Int) := by omega
          obtain ⟨c, hc⟩ : ∃ c, l[k]? = some c := ⟨_, List.getElem?_eq_getElem (by rw [← HN.out.2]; exact hlt)⟩
          have bw : Below w.heap.size w wr := B1.out.trans (OI.out.b.mono B1.out.size)
          obtain ⟨lg, lo, cia, cic, hla, hlg, ca⟩ := (HCO.out.later bw).at hc
          subst hla
          have c0 := ca.c0
          have c1 := ca.c1
          have c2 := ca.c2
          have c3 := ca.c3
          have cin := ca.hi
          have hlw : lg < wr.heap.size := Nat.lt_of_lt_of_le hlg bw.size
          obtain ⟨W1, hW1⟩ : ∃ W1, W1 = wr.alloc (coBx c cia cic) := ⟨_, rfl⟩
          obtain ⟨cb, hcb⟩ : ∃ cb, cb = wr.heap.size := ⟨_, rfl⟩
          obtain ⟨x1, b1⟩ := coBx_at wr c cia cic cb W1 hcb hW1
          have hcl := HIL.out c (List.mem_of_getElem? hc)
          have HC := (show Hid (l[k]? = some c) from hc)
          obtain ⟨nc, hnc⟩ : ∃ nc, nc = c.ins.length := ⟨_, rfl⟩
          have HNC : Hid (nc = c.ins.length) := hnc
          have hW1' : W1 = wr.alloc (.cells #[.slice cia nc cic, .int .i64 c.cells, .int .i64 c.params, .bool c.ans] 41) := by rw [hnc]; exact hW1
          rw [← hnc] at c0 x1 hcl
          have d0 : W1.cell? ⟨cb, 0, none⟩ = some (.slice cia nc cic) := by simp [World.cell?, x1]
          have z0 : W1.frozen? ⟨cb, 0, none⟩ = false := by simp [World.frozen?, x1]
          have hcbl : cb < W1.heap.size := (Array.getElem?_eq_some_iff.1 x1).1
          have BW1 : Hid (Below wr.heap.size wr W1) := b1
          have X1 := (show Hid (W1.heap[cb]? = some (.cells #[.slice cia nc cic, .int .i64 c.cells, .int .i64 c.params, .bool c.ans] 41 (0, 0))) from x1)
          clear ca b1 hc hnc x1 bw
          go_upto_region 8 with fail
          rw [← hW1', ← hcb]
          have HCB : Hid (cb = wr.heap.size) := hcb
          clear hW1 hW1' hcb c0 c1 c2 c3
          go_upto_region 9 with fail
          go_cut [] from 38 to 56 (fun wx => ∃ ia5 ic5, Hid (Below wr.heap.size wr wx ∧ wx.ownsRow wr.heap.size 47 3 (.slice ia5 nc ic5) nc (InX c.ins)) ∧ Hid (wx.heap[cb]? = some (.cells #[.slice ia5 nc ic5, .int .i64 c.cells, .int .i64 c.params, .bool c.ans] 41 (0, 0))))
          case first =>
            have ST : Hid (∀ (w5 : World) (ia5 : Option Addr) (ic5 : Nat), Below W1.heap.size W1 w5 → w5.ownsRow W1.heap.size 47 3 (.slice ia5 nc ic5) nc (InX c.ins) → (Below wr.heap.size wr (w5.setCell ⟨cb, 0, none⟩ (.slice ia5 nc ic5)) ∧ (w5.setCell ⟨cb, 0, none⟩ (.slice ia5 nc ic5)).ownsRow wr.heap.size 47 3 (.slice ia5 nc ic5) nc (InX c.ins)) ∧ (w5.setCell ⟨cb, 0, none⟩ (.slice ia5 nc ic5)).heap[cb]? = some (.cells #[.slice ia5 nc ic5, .int .i64 c.cells, .int .i64 c.params, .bool c.ans] 41 (0, 0))) := fun w5 ia5 ic5 b5 r5 => by
              have hb := BW1.out.size
              have hcb := HCB.out
              refine ⟨⟨(BW1.out.trans (b5.mono hb)).trans ⟨rfl, rfl, rfl, by simp, fun j hj => heap_setCell_other _ _ j _ (by simp; omega)⟩, ?_⟩, heap_setCell_same _ _ _ _ _ _ ((b5.block cb hcbl).trans X1.out)⟩
              exact own_low (ownsRow_setCell_other r5 (fun e => by have q : W1.heap.size ≤ cb := (World.ownsRow.lt r5 _ e).1; omega) _) hb
            by_cases hz : nc = 0
            · subst hz
              have hr := fun ty => app_noneIn W1 cia cic ty
              have R5 := ST.out W1 none 0 (Below.refl _ _) (by rw [show InX c.ins = [] from List.length_eq_zero_iff.1 (by rw [InX_len, ← HNC.out])]; exact World.ownsRow_nil _ _ _ _)
              have FIN := (show Hid _ from R5)
              clear R5
              go_wp2_with (at_builtin; refine Lib.wpList_append_run _ rfl _ _ _ _ rfl _ _ rfl rfl _ _ (hr _) ?_)
              go_meet
              exact ⟨none, 0, FIN.out.1, FIN.out.2⟩
            · obtain ⟨i0, hi, hz0, hz1, hz2⟩ := info_parts infIn
              obtain ⟨ig, io, rfl, hig, hic⟩ := cin.2 (by rw [← HNC.out]; omega)
              have HX : Hid (∀ j u, (InX c.ins)[j]? = some u → W1.cell? ((⟨ig, io, none⟩ : Addr).add j) = some u) := InX_cell (fun j i hj => by
                have q := hic j i hj
                have hw : ig < wr.heap.size := Nat.lt_of_lt_of_le hig (Nat.le_trans B1.out.size OI.out.b.size)
                exact ⟨(BW1.out.cell (p := ⟨ig, _, none⟩) hw).trans q.c0, (BW1.out.cell (p := ⟨ig, _, none⟩) hw).trans q.c1, (BW1.out.cell (p := ⟨ig, _, none⟩) hw).trans q.c2⟩)
              have HLN : Hid ((InX c.ins).length = nc * 3) := by unfold Hid; rw [InX_len, ← HNC.out]
              have H63 : Hid (0 + nc ≤ maxLen ∧ ((0 + nc) + (0 + nc) / 4 + 192) * 24 ≤ 281474976710656) := by unfold Hid maxLen; omega
              clear hic
              go_wp2_with (at_builtin; refine wpList_append_own_wide _ rfl _ _ 39 rfl W1.heap.size 47 i0 (.agg #[.int .i64 0, .int .i64 0, .int .i64 0]) 3 24 Tryd.underlying39 hi hz0 hz1 hz2 rfl (by decide) (.slice none 0 0) 0 [] rfl (World.ownsRow_nil _ _ _ _) ⟨ig, io, none⟩ nc cic (InX c.ins) rfl HLN.out HX.out (InX_one _) H63.out.1 H63.out.2 (Nat.le_refl _) ?_)
              intro v8 w8 h8 g8 o8
              have h8' : w8.ownsRow W1.heap.size 47 3 v8 nc (InX c.ins) := by simpa using h8
              obtain ⟨ia5, ic5, hv8⟩ := own_shp h8'
              subst hv8
              have b8 := grn_none g8
              have FIN := (show Hid _ from ST.out w8 ia5 ic5 b8 h8')
              have e0 := (b8.cell (p := ⟨cb, 0, none⟩) hcbl).trans d0
              have ez := (b8.frozen (p := ⟨cb, 0, none⟩) hcbl).trans z0
              clear h8 h8' g8 o8 b8 ST
              go_wp2_with fail
              go_meet
              exact ⟨ia5, ic5, FIN.out.1, FIN.out.2⟩
          case rest =>
            obtain ⟨ia5, ic5, R5, X5⟩ := hcut
            have y0 : wc.cell? ⟨cb, 0, none⟩ = some (.slice ia5 nc ic5) := by simp [World.cell?, X5.out]
            have y1 : wc.cell? ⟨cb, 1, none⟩ = some (.int .i64 c.cells) := by simp [World.cell?, X5.out]
            have y2 : wc.cell? ⟨cb, 2, none⟩ = some (.int .i64 c.params) := by simp [World.cell?, X5.out]
            have y3 : wc.cell? ⟨cb, 3, none⟩ = some (.bool c.ans) := by simp [World.cell?, X5.out]
            have hcw : cb < wc.heap.size := (Array.getElem?_eq_some_iff.1 X5.out).1
            obtain ⟨i0, hi, hz0, hz1, hz2⟩ := info_parts infCo
            have ONE4 : Hid (∀ u ∈ [Value.slice ia5 nc ic5, .int .i64 c.cells, .int .i64 c.params, .bool c.ans], u.oneCell' = true) := fun y hy => by
              simp only [List.mem_cons, List.not_mem_nil, or_false] at hy
              rcases hy with rfl | rfl | rfl | rfl <;> rfl
            have H63 : Hid (k + 1 ≤ maxLen ∧ (k + 1) * 48 ≤ 140737488355328) := by unfold Hid maxLen; omega
            have KB : Hid (wc.ownsRow w1.heap.size 41 4 (.slice a k cp) k (LcS qs)) := own_lat OI.out.row R5.out.1
            have HB0 : Hid (w1.heap.size ≤ wc.heap.size) := Nat.le_trans OI.out.b.size R5.out.1.size
            have NX : Hid (∀ (X : World) (v8 : Value) (w8 : World), Below wc.heap.size wc X → w8.ownsRow w1.heap.size 41 4 v8 (k + 1) (LcS qs ++ [.slice ia5 nc ic5, .int .i64 c.cells, .int .i64 c.params, .bool c.ans]) → X.grownBy w8 (Value.slice a k cp).ownBlock → (v8.ownBlock = (Value.slice a k cp).ownBlock ∨ ∃ g, v8.ownBlock = some g ∧ X.heap.size ≤ g) → Hid (OwI w1 l (k + 1) (qs ++ [⟨ia5, ic5, c⟩]) v8 w8)) := fun X v8 w8 hX h8 g8 o8 => by
              have q := R5.out
              rw [HNC.out] at q h8
              exact OI.out.step HC.out q.1 q.2 (by rw [← HNC.out]; omega) hX h8 g8 o8
            clear R5 X5 d0 z0
            go_wp2_with (at_builtin; refine wpList_app_t rfl _ _ 22 rfl w1.heap.size 41 i0 (.agg #[.slice none 0 0, .int .i64 0, .int .i64 0, .bool false]) 4 48 Tryd.underlying22 hi hz0 hz1 hz2 rfl (by decide) _ _ _ rfl (own_lat KB.out ((Below.refl _ _).alloc (Nat.le_refl _) _)) ⟨wc.heap.size, 0, none⟩ 1 1 [.slice ia5 nc ic5, .int .i64 c.cells, .int .i64 c.params, .bool c.ans] rfl rfl (cells4 (by simp [go_sem]) (by simp [go_sem]) (by simp [go_sem]) (by simp [go_sem])) ONE4.out H63.out.1 H63.out.2 (by have := HB0.out; simp; omega) (by decide) ?_)
            intro v8 w8 h8 g8 o8
            have I8 := NX.out _ v8 w8 ((Below.refl _ _).alloc (Nat.le_refl _) _) h8 g8 (by simpa using o8)
            obtain ⟨va8, cap8, hv8⟩ := own_shp h8
            subst hv8
            clear h8 g8 o8 NX KB
            go_wp2_with fail
            go_roundg gO
            case measure => omega
            case rel => exact ⟨k + 1, _, va8, cap8, by omega, by go_num, rfl, I8⟩
end Go.Proofs.YtkjkiknpgggadaaDoor

