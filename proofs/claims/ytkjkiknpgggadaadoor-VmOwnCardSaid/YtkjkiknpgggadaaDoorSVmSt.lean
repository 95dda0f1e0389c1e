/- Layer 9: Step: from tick to tick. -/
import Derived.Test.YtkjkiknpgggadaaDoorSVmU
import Derived.Deep.LoopGhost
import Derived.Deep.CutBlock
import Derived.Deep.DeepCutAuto
namespace Go.Proofs.YtkjkiknpgggadaaDoor
open Go.RowKit
set_option linter.unusedVariables false
set_option linter.unusedSimpArgs false

namespace Vm
theorem WF.nums {B : Int} {M : Mc} {fs : List Fr} {f : Fr} {c : Cd.Co} {i : Cd.In} {C0 S0 h : Nat} (w : WF B M) (a : At B M fs f c i C0 S0 h) : fs.length ≤ 49 ∧ M.cells.length ≤ 3276800 ∧ M.stack.length ≤ 204800 ∧ f.place ≤ 65536 ∧ f.base + c.cells.toNat = M.cells.length ∧ 0 ≤ c.cells ∧ c.cells ≤ 65536 := by
  have b := w.fs.bnd w.fit (Int.le_refl 0)
  have l := w.f50
  have fl := (a.len w f).2
  have hp := (List.getElem?_eq_some_iff.1 a.hi).1
  have s := a.ft.sz
  unfold Cd.sz at s
  simp at s
  have hb := a.tp.hb
  have hC := a.tp.cC
  rw [List.length_append, List.length_singleton] at fl
  have b1 : M.frames.length * 65536 ≤ 50 * 65536 := Nat.mul_le_mul_right _ l
  have b2 : M.frames.length * 4096 ≤ 50 * 4096 := Nat.mul_le_mul_right _ l
  refine ⟨by omega, by omega, by omega, by omega, by omega, by omega, by omega⟩
theorem ex_rk {M : Mc} {fs : List Fr} {f : Fr} {i : Cd.In} (h : (1 ≤ i.op ∧ i.op ≤ 16) ∨ i.op = 25) : ex M fs f i = rk M f i := by
  unfold ex
  rw [if_neg (by omega), if_neg (by omega), if_neg (by omega), if_neg (by omega), if_neg (by omega), if_neg (by omega), if_neg (by omega)]
theorem ex_call {M : Mc} {fs : List Fr} {f : Fr} {p gi : Nat} {d : Cd.Co} (hd : M.codes[p]? = some d) : ex M fs f ⟨19, (p : Int), (gi : Int)⟩ = if M.frames.length = 50 then trp M 4 else en M p d.cells.toNat gi := by
  unfold ex
  simp [hd]
end Vm
structure StI (m : Nat) (w : World) (B : Int) (M : Vm.Mc) (gk : Nat) (N : Vm.Mc) (V : VmV) (wr : World) : Prop where
  s : VmS m wr V N
  b : Below m w wr
  wf : Vm.WF B N
  run : N.run = true
  go : Vm.go gk N = Vm.go 1048576 M
  ev : N.events.length + gk ≤ 1000000000
def StL (m : Nat) (w : World) (B : Int) (M : Vm.Mc) (gk : Nat) (i : Value) (wr : World) : Prop := ∃ (j : Nat), i = .int .i64 j ∧ j + gk = 1048576 ∧ ∃ N V, Hid (StI m w B M gk N V wr)
theorem vmJump (m g n cap p : Nat) (w : World) (V : VmV) (M : Vm.Mc) (fs : List Vm.Fr) (f : Vm.Fr) (h : VmS m w V M) (hf : M.frames = fs ++ [f]) (hv : V.fv = .slice (some ⟨g, 0, none⟩) (fs.length + 1) cap) (hn : n = fs.length) (hg : m < g) : VmQ m w (w.setCell ⟨g, n * 4 + 1, none⟩ (.int .i64 p)) { M with frames := fs ++ [{ f with place := p }] } := by
  subst hn
  have := h.setP hf hv hg p
  exact ⟨this.1, _, this.2⟩
set_option maxRecDepth 100000 in
set_option maxHeartbeats 16000000 in
theorem vmStep (m : Nat) (w : World) (V : VmV) (M : Vm.Mc) (B : Int) (h : VmS m w V M) (wf : Vm.WF B M) (hrun : M.run = true) (he : M.events.length + 1048577 ≤ 1000000000) :
    Calls Tryd.prog 8 #[.pointer (some ⟨m, 0, none⟩)] w fun e w' => e = .returned (.bool (Vm.ticked M)) ∧ VmQ m w w' (Vm.step M) := by
  have c13 := h.cell.2.2.2.2.2.2.2.2.2
  have c4 := h.cell.2.2.2.2.1
  rw [hrun] at c13
  have ST : Hid (StI m w B M 1048576 M V w) := ⟨h, Below.refl _ _, wf, hrun, rfl, by omega⟩
  have GD : Hid (Vm.Gd B M (Vm.go 1048576 M) 1048576) := Vm.go_gd _ M wf hrun
  have HRUN : Hid (M.run = true) := hrun
  have HE : Hid (M.events.length + 1048577 ≤ 1000000000) := he
  obtain ⟨T, hT⟩ : ∃ T, T = M.ticks := ⟨_, rfl⟩
  have HT : Hid (T = M.ticks) := hT
  rw [← hT] at c4
  clear h wf hrun he hT
  go_enter Tryd.func8, Tryd.ntmps8
  go_wp2_with fail
  go_step3
  go_wp2_with fail
  go_step3
  go_upto_block 0 with fail
  go_cut [4] from 19 to 90 (fun s4 wx => Hid (VmQ m w wx (Vm.go 1048576 M)))
  case first =>
    go_wp2_with fail
    go_loopg [19] 1048576 (fun gk i wr => StL m w B M gk i wr)
    case atStart => exact ⟨0, rfl, rfl, M, V, ST⟩
    case round =>
      obtain ⟨j, rfl, hj, N, V1, SI⟩ := hrel
      clear ST c13 c4 HE GD
      rcases gk with _ | gk
      · obtain rfl : j = 1048576 := by omega
        have FIN : Hid (VmQ m w wr (Vm.go 1048576 M)) := ⟨SI.out.b, V1, by rw [← SI.out.go]; exact SI.out.s⟩
        clear SI
        go_wp2_with fail
        go_meet
        exact FIN
      · have hji : (j : Int) < 1048576 := by omega
        obtain ⟨fs, f, c, i, C0, S0, h0, a⟩ := SI.out.wf.at
        obtain ⟨q1, q2, q3, q4, q5, q6, q7⟩ := SI.out.wf.nums a
        have hev := SI.out.ev
        have EF : Hid _ := vmFetch m wr V1 N fs f c i SI.out.s a.hf a.tp.hc a.hi (by omega) (by omega)
        have HA : Hid (Vm.At B N fs f c i C0 S0 h0) := a
        have HG : Hid (Vm.go (gk + 1) N = if i.op = 24 then (if 0 < N.fuel then Vm.mk (Vm.nx N fs f) fs (Vm.fn f) i else Vm.nx N fs f) else if (Vm.ex (Vm.nx N fs f) fs (Vm.fn f) i).run then Vm.go gk (Vm.ex (Vm.nx N fs f) fs (Vm.fn f) i) else Vm.ex (Vm.nx N fs f) fs (Vm.fn f) i) := Vm.go_succ a gk
        have HQ : Hid (fs.length ≤ 49 ∧ N.cells.length ≤ 3276800 ∧ N.stack.length ≤ 204800 ∧ f.place ≤ 65536 ∧ f.base + c.cells.toNat = N.cells.length ∧ 0 ≤ c.cells ∧ c.cells ≤ 65536) := ⟨q1, q2, q3, q4, q5, q6, q7⟩
        have HEV : Hid (N.events.length + (gk + 1) ≤ 1000000000) := hev
        clear a q1 q2 q3 q4 q5 q6 q7 hev
        go_wp2_with fail
        refine Calls.mono EF.out ?_
        rintro e2 w2 ⟨rfl, b2, V2, h2⟩
        obtain ⟨W3, hW3⟩ : ∃ W3, W3 = w2.alloc (inB i) := ⟨_, rfl⟩
        obtain ⟨ib, hib⟩ : ∃ ib, ib = w2.heap.size := ⟨_, rfl⟩
        obtain ⟨t0, t1, t2, bw⟩ := in_box w2 i ib W3 hib hW3
        have HIB : Hid (ib < W3.heap.size ∧ m < ib) := ⟨by rw [hib, hW3]; simp, by rw [hib]; exact h2.lt⟩
        have H3 : Hid (VmS m W3 V2 (Vm.nx N fs f)) := h2.later bw
        have B3 : Hid (Below m wr W3) := b2.trans (bw.mono (Nat.le_of_lt h2.lt))
        clear EF b2 h2 bw
        go_upto_region 7 with fail
        rw [← hW3, ← hib]
        clear hW3 hib
        by_cases h24 : i.op = 24
        · obtain ⟨op, n, z⟩ := i
          dsimp only at h24
          subst h24
          dsimp only at t0 t1 t2
          have c3 := H3.out.cell.2.2.2.1
          try dsimp only at c3
          by_cases hfu : 0 < N.fuel
          · have w0 := SI.out.wf
            have EM : Hid _ := vmMark m W3 V2 (Vm.nx N fs f) fs (Vm.fn f) ⟨24, n, z⟩ H3.out rfl (by have := HQ.out.1; omega) ⟨hfu, by have := w0.su; have := w0.ti; show N.fuel ≤ _; omega⟩ ⟨w0.ti, by have := w0.su; have := w0.fu; show N.ticks ≤ _; omega⟩
            have FQ : Hid (∀ w', VmQ m W3 w' (Vm.mk (Vm.nx N fs f) fs (Vm.fn f) ⟨24, n, z⟩) → VmQ m w w' (Vm.go 1048576 M)) := fun w' hq => by
              refine ⟨(SI.out.b.trans B3.out).trans hq.1, ?_⟩
              rw [← SI.out.go, HG.out, if_pos rfl, if_pos hfu]
              exact hq.2
            clear SI HG HA H3 B3 w0
            go_wp2_with fail
            refine Calls.mono EM.out ?_
            rintro e4 w4 ⟨rfl, Q4⟩
            have FIN : Hid (VmQ m w w4 (Vm.go 1048576 M)) := FQ.out w4 Q4
            clear Q4 FQ EM
            go_wp2_with fail
            go_meet
            exact FIN
          · have FIN : Hid (VmQ m w W3 (Vm.go 1048576 M)) := by
              refine ⟨SI.out.b.trans B3.out, V2, ?_⟩
              rw [← SI.out.go, HG.out, if_pos rfl, if_neg hfu]
              exact H3.out
            clear SI HG HA H3 B3
            go_wp2_with fail
            go_meet
            exact FIN
        · have HX : Hid (Vm.Kp N (Vm.ex (Vm.nx N fs f) fs (Vm.fn f) i) ∧ ((Vm.ex (Vm.nx N fs f) fs (Vm.fn f) i).run = true → Vm.WF B (Vm.ex (Vm.nx N fs f) fs (Vm.fn f) i))) := Vm.ex_ok SI.out.wf SI.out.run HA.out h24
          go_upto_block 2 with fail
          go_cut [] from 20 to 90 (fun wx => Hid (VmQ m wr wx (Vm.ex (Vm.nx N fs f) fs (Vm.fn f) i)))
          case first =>
            have ho := HA.out.ops
            by_cases hrk : (1 ≤ i.op ∧ i.op ≤ 16) ∨ i.op = 25
            · obtain ⟨k, hk⟩ : ∃ k : Nat, c.cells = k := ⟨c.cells.toNat, by have := HQ.out; omega⟩
              have ER : Hid _ := vmReckon m W3 V2 (Vm.nx N fs f) fs (Vm.fn f) c k i B H3.out rfl HA.out.tp.hc hk (by have := HQ.out; show f.base + k ≤ N.cells.length; omega) (by have := HQ.out; show N.cells.length ≤ _; omega) (by have := HQ.out; omega) (by have := HQ.out; show N.stack.length ≤ _; omega) (by have := HEV.out; show N.events.length ≤ _; omega) hrk HA.out.al HA.out.sum
              have FQ : Hid (∀ w', VmQ m W3 w' (Vm.rk (Vm.nx N fs f) (Vm.fn f) i) → VmQ m wr w' (Vm.ex (Vm.nx N fs f) fs (Vm.fn f) i)) := fun w' hq => by
                rw [Vm.ex_rk hrk]
                exact ⟨B3.out.trans hq.1, hq.2⟩
              have f24 : (i.op == 24) = false := beq_eq_false_iff_ne.2 (by omega)
              have f17 : (i.op == 17) = false := beq_eq_false_iff_ne.2 (by omega)
              have f18 : (i.op == 18) = false := beq_eq_false_iff_ne.2 (by omega)
              have f19 : (i.op == 19) = false := beq_eq_false_iff_ne.2 (by omega)
              have f20 : (i.op == 20) = false := beq_eq_false_iff_ne.2 (by omega)
              have f21 : (i.op == 21) = false := beq_eq_false_iff_ne.2 (by omega)
              have f22 : (i.op == 22) = false := beq_eq_false_iff_ne.2 (by omega)
              have f23 : (i.op == 23) = false := beq_eq_false_iff_ne.2 (by omega)
              clear SI HG HA H3 B3 HX hrk ho h24 hk
              go_wp2_with fail
              refine Calls.mono ER.out ?_
              rintro e4 w4 ⟨rfl, Q4⟩
              have FIN : Hid (VmQ m wr w4 (Vm.ex (Vm.nx N fs f) fs (Vm.fn f) i)) := FQ.out w4 Q4
              clear Q4 FQ ER
              go_wp2_with fail
              go_meet
              exact FIN
            · obtain ⟨op, n, z⟩ := i
              dsimp only at h24 ho hrk t0 t1 t2
              have hc : op = 17 ∨ op = 18 ∨ op = 19 ∨ op = 20 ∨ op = 21 ∨ op = 22 ∨ op = 23 := by omega
              clear hrk ho h24
              obtain ⟨g, cap, hv, hcap, hmg, hgl, p0, p1, p2, p3, pf⟩ := H3.out.top (fs := fs) (f := Vm.fn f) rfl
              have hal := HA.out.al
              have hsu := HA.out.sum
              obtain ⟨q1, q2, q3, q4, q5, q6, q7⟩ := HQ.out
              have hev := HEV.out
              rcases hc with rfl | rfl | rfl | rfl | rfl | rfl | rfl
              · -- jump
                simp [Cd.al] at hal
                obtain ⟨p, hp⟩ : ∃ p : Nat, n = p := ⟨n.toNat, by omega⟩
                subst hp
                have hml := H3.out.lt
                have il := HIB.out.1
                have c10 := H3.out.cell.2.2.2.2.2.2.1
                rw [hv] at c10
                obtain ⟨nn, hn⟩ : ∃ nn, nn = fs.length := ⟨_, rfl⟩
                rw [← hn] at c10 p1
                have ET : Hid (∀ X, Below W3.heap.size W3 X → Calls Tryd.prog 26 #[.pointer (some ⟨m, 0, none⟩)] X fun e w' => e = .returned (.pointer (some ⟨g, nn * 4, none⟩)) ∧ Below W3.heap.size W3 w') := fun X hX => (vmTop m g nn cap X ((hX.cell (p := ⟨m, 10, none⟩) hml).trans c10) (by omega)).mono fun e w' ⟨a, q, hq⟩ => ⟨a, by rw [hq]; exact below_drewN hX q⟩
                have pf1 := pf (nn * 4 + 1)
                have FQ : Hid (∀ w5, Below W3.heap.size W3 w5 → VmQ m wr (w5.setCell ⟨g, nn * 4 + 1, none⟩ (.int .i64 (p : Int))) (Vm.ex (Vm.nx N fs f) fs (Vm.fn f) ⟨17, (p : Int), z⟩)) := fun w5 y5 => by
                  have q := vmJump m g nn cap p w5 V2 (Vm.nx N fs f) fs (Vm.fn f) (H3.out.later y5) rfl hv hn hmg
                  exact ⟨(B3.out.trans (y5.mono (Nat.le_of_lt hml))).trans q.1, by simpa [Vm.ex] using q.2⟩
                clear SI HG HA H3 B3 HX hv hcap p0 p2 p3 pf hal hsu q1 q2 q3 q4 q5 q6 q7 hev HQ HEV c10 hn
                go_upto_region 13 with fail
                go_region_with (first
                  | (go_at_call 26; refine Calls.mono (ET.out _ (by go_grown)) ?_; rintro e5 w5 ⟨rfl, y5⟩; have z1 := (y5.cell (p := ⟨ib, 1, none⟩) il).trans t1; have z5 := (y5.cell (p := ⟨g, nn * 4 + 1, none⟩) hgl).trans p1; have zf := (y5.frozen (p := ⟨g, nn * 4 + 1, none⟩) hgl).trans pf1; have Y5 : Hid (Below W3.heap.size W3 w5) := y5; clear y5))
                all_goals
                  go_wp2_with fail
                  go_meet
                  first
                    | exact FQ.out _ Y5.out
                    | exact (FQ.out _ Y5.out).later ⟨rfl, rfl, rfl, Nat.le_refl _, fun _ _ => rfl⟩
              · -- zero
                simp [Cd.al] at hal
                obtain ⟨p, hp⟩ : ∃ p : Nat, n = p := ⟨n.toNat, by omega⟩
                subst hp
                have hs1 : (1 : Int) ≤ N.stack.length := hsu
                have hst := Vm.last1 N.stack (by omega)
                obtain ⟨s1, e1⟩ : ∃ s, s = N.stack.dropLast := ⟨_, rfl⟩
                obtain ⟨a1, e2⟩ : ∃ s, s = N.stack.getLastD 0 := ⟨_, rfl⟩
                have hsl : s1.length ≤ 1000000 := by rw [e1]; simp; omega
                have hX : Vm.ex (Vm.nx N fs f) fs (Vm.fn f) ⟨18, (p : Int), z⟩ = if a1 = 0 then { Vm.nx N fs f with stack := s1, frames := fs ++ [{ Vm.fn f with place := p }] } else { Vm.nx N fs f with stack := s1 } := by
                  rw [e1, e2]
                  simp [Vm.ex]
                rw [← e1, ← e2] at hst
                have EP : Hid _ := vmPop3 m W3 V2 (Vm.nx N fs f) s1 a1 H3.out hst hsl
                have HM : Hid (m < ib ∧ ib < W3.heap.size) := ⟨HIB.out.2, HIB.out.1⟩
                have HV : Hid (V2.fv = .slice (some ⟨g, 0, none⟩) (fs.length + 1) cap) := hv
                have HXE : Hid _ := hX
                clear SI HG HA H3 HX hv hcap p0 p1 p2 p3 pf hal hsu q2 q3 q4 q5 q6 q7 hev HQ HEV hs1 hst e1 e2 hsl hX
                go_wp2_with fail
                refine Calls.mono EP.out ?_
                rintro e4 w4 ⟨rfl, sv4, hw4, b4, h4⟩
                have kib : w4.heap[ib]? = W3.heap[ib]? := by rw [hw4]; exact heap_setCell_other _ _ ib _ (by have := HM.out; simp; omega)
                have s1' := (World.cell?_of_block (w := W3) (a := ⟨ib, 1, none⟩) kib).trans t1
                have il4 : ib < w4.heap.size := by rw [hw4]; simpa using HM.out.2
                have H4 : Hid (VmS m w4 { V2 with sv := sv4 } { Vm.nx N fs f with stack := s1 }) := h4
                have B4 : Hid (Below m wr w4) := B3.out.trans b4
                clear hw4 b4 kib EP t0 t1 t2 h4 B3 hgl
                by_cases ha : a1 = 0
                · subst ha
                  rw [if_pos rfl] at HXE
                  obtain ⟨g', cap', hv', _, _, hgl, p0, p1, p2, p3, pf⟩ := H4.out.top (fs := fs) (f := Vm.fn f) rfl
                  have hv2 : V2.fv = .slice (some ⟨g', 0, none⟩) (fs.length + 1) cap' := hv'
                  rw [HV.out] at hv2
                  cases hv2
                  have hml := H4.out.lt
                  have c10 := H4.out.cell.2.2.2.2.2.2.1
                  try dsimp only at c10
                  rw [HV.out] at c10
                  obtain ⟨nn, hn⟩ : ∃ nn, nn = fs.length := ⟨_, rfl⟩
                  rw [← hn] at c10 p1
                  have ET : Hid (∀ X, Below w4.heap.size w4 X → Calls Tryd.prog 26 #[.pointer (some ⟨m, 0, none⟩)] X fun e w' => e = .returned (.pointer (some ⟨g, nn * 4, none⟩)) ∧ Below w4.heap.size w4 w') := fun X hX => (vmTop m g nn cap X ((hX.cell (p := ⟨m, 10, none⟩) hml).trans c10) (by omega)).mono fun e w' ⟨a, q, hq⟩ => ⟨a, by rw [hq]; exact below_drewN hX q⟩
                  have pf1 := pf (nn * 4 + 1)
                  have FQ : Hid (∀ w5, Below w4.heap.size w4 w5 → VmQ m wr (w5.setCell ⟨g, nn * 4 + 1, none⟩ (.int .i64 (p : Int))) (Vm.ex (Vm.nx N fs f) fs (Vm.fn f) ⟨18, (p : Int), z⟩)) := fun w5 y5 => by
                    have q := vmJump m g nn cap p w5 _ _ fs (Vm.fn f) (H4.out.later y5) rfl HV.out hn hmg
                    rw [HXE.out]
                    exact ⟨(B4.out.trans (y5.mono (Nat.le_of_lt hml))).trans q.1, q.2⟩
                  clear H4 B4 hv' p0 p2 p3 pf q1 c10 hn HXE HV
                  go_upto_region 16 with fail
                  go_region_with (first
                    | (go_at_call 26; refine Calls.mono (ET.out _ (by go_grown)) ?_; rintro e5 w5 ⟨rfl, y5⟩; have z1 := (y5.cell (p := ⟨ib, 1, none⟩) il4).trans s1'; have z5 := (y5.cell (p := ⟨g, nn * 4 + 1, none⟩) hgl).trans p1; have zf := (y5.frozen (p := ⟨g, nn * 4 + 1, none⟩) hgl).trans pf1; have Y5 : Hid (Below w4.heap.size w4 w5) := y5; clear y5))
                  all_goals
                    go_wp2_with fail
                    go_meet
                    first
                      | exact FQ.out _ Y5.out
                      | exact (FQ.out _ Y5.out).later ⟨rfl, rfl, rfl, Nat.le_refl _, fun _ _ => rfl⟩
                · rw [if_neg ha] at HXE
                  have hab : (a1 == 0) = false := beq_eq_false_iff_ne.2 ha
                  have FIN : Hid (VmQ m wr w4 (Vm.ex (Vm.nx N fs f) fs (Vm.fn f) ⟨18, (p : Int), z⟩)) := by
                    unfold Hid
                    rw [HXE.out]
                    exact ⟨B4.out, _, H4.out⟩
                  clear H4 B4 HXE HV s1'
                  go_wp2_with fail
                  go_meet
                  exact FIN
              · -- call
                simp only [Cd.al, Cd.mc] at hal
                simp at hal
                obtain ⟨⟨hn0, hz0⟩, hal⟩ := hal
                cases hd : N.codes[n.toNat]? with
                | none => rw [hd] at hal; simp at hal
                | some d =>
                  rw [hd] at hal
                  simp at hal
                  obtain ⟨p, hp⟩ : ∃ p : Nat, n = p := ⟨n.toNat, by omega⟩
                  obtain ⟨gi, hgi⟩ : ∃ gi : Nat, z = gi := ⟨z.toNat, by omega⟩
                  subst hp hgi
                  rw [Int.toNat_natCast] at hd
                  have ftd := (SI.out.wf.fit d (List.mem_of_getElem? hd)).sz
                  unfold Cd.sz at ftd
                  simp at ftd
                  have hsg : (gi : Int) ≤ N.stack.length := hsu
                  obtain ⟨k, hk⟩ : ∃ k : Nat, d.cells = k := ⟨d.cells.toNat, by omega⟩
                  have EC : Hid _ := vmCall m W3 V2 (Vm.nx N fs f) d p gi k H3.out hd hk (by show N.cells.length + k ≤ _; omega) (by show (fs ++ [Vm.fn f]).length ≤ 50; simp; omega) (by show N.stack.length ≤ _; omega) (by show gi ≤ N.stack.length; omega) (by omega) (by show N.events.length ≤ _; omega)
                  have hX : Vm.ex (Vm.nx N fs f) fs (Vm.fn f) ⟨19, (p : Int), (gi : Int)⟩ = if (Vm.nx N fs f).frames.length = 50 then Vm.trp (Vm.nx N fs f) 4 else Vm.en (Vm.nx N fs f) p k gi := by
                    rw [Vm.ex_call (M := Vm.nx N fs f) hd, hk, Int.toNat_natCast]
                  have FQ : Hid (∀ w', VmQ m W3 w' (if (Vm.nx N fs f).frames.length = 50 then Vm.trp (Vm.nx N fs f) 4 else Vm.en (Vm.nx N fs f) p k gi) → VmQ m wr w' (Vm.ex (Vm.nx N fs f) fs (Vm.fn f) ⟨19, (p : Int), (gi : Int)⟩)) := fun w' hq => by
                    rw [hX]
                    exact ⟨B3.out.trans hq.1, hq.2⟩
                  clear SI HG HA H3 B3 HX hv hcap p0 p1 p2 p3 pf hal hsu q1 q2 q3 q4 q5 q6 q7 hev HQ HEV hgl hd ftd hsg hk hX
                  go_wp2_with fail
                  refine Calls.mono EC.out ?_
                  rintro e4 w4 ⟨rfl, Q4⟩
                  have FIN : Hid (VmQ m wr w4 (Vm.ex (Vm.nx N fs f) fs (Vm.fn f) ⟨19, (p : Int), (gi : Int)⟩)) := FQ.out w4 Q4
                  clear Q4 FQ EC
                  go_wp2_with fail
                  go_meet
                  exact FIN
              · -- leave
                have EC : Hid _ := vmLeave m W3 V2 (Vm.nx N fs f) fs (Vm.fn f) H3.out rfl (by omega) (by show f.base ≤ N.cells.length; omega) (by show N.cells.length ≤ _; omega) (by show N.events.length ≤ _; omega)
                have FQ : Hid (∀ w', VmQ m W3 w' (Vm.lv (Vm.nx N fs f) fs (Vm.fn f)) → VmQ m wr w' (Vm.ex (Vm.nx N fs f) fs (Vm.fn f) ⟨20, n, z⟩)) := fun w' hq => ⟨B3.out.trans hq.1, hq.2⟩
                clear SI HG HA H3 B3 HX hv hcap p0 p1 p2 p3 pf hal hsu q1 q2 q3 q4 q5 q6 q7 hev HQ HEV hgl
                go_wp2_with fail
                refine Calls.mono EC.out ?_
                rintro e4 w4 ⟨rfl, Q4⟩
                have FIN : Hid (VmQ m wr w4 (Vm.ex (Vm.nx N fs f) fs (Vm.fn f) ⟨20, n, z⟩)) := FQ.out w4 Q4
                clear Q4 FQ EC
                go_wp2_with fail
                go_meet
                exact FIN
              · -- print
                have hs1 : (1 : Int) ≤ N.stack.length := hsu
                have hst := Vm.last1 N.stack (by omega)
                obtain ⟨s1, e1⟩ : ∃ s, s = N.stack.dropLast := ⟨_, rfl⟩
                obtain ⟨a1, e2⟩ : ∃ s, s = N.stack.getLastD 0 := ⟨_, rfl⟩
                have hsl : s1.length ≤ 1000000 := by rw [e1]; simp; omega
                have hX : Vm.ex (Vm.nx N fs f) fs (Vm.fn f) ⟨21, n, z⟩ = { Vm.nx N fs f with stack := s1, events := N.events ++ [(1, a1)] } := by
                  rw [e1, e2]
                  rfl
                rw [← e1, ← e2] at hst
                have EP : Hid _ := vmPop m W3 V2 (Vm.nx N fs f) s1 a1 H3.out hst hsl
                have HXE : Hid _ := hX
                clear SI HG HA H3 HX hv hcap p0 p1 p2 p3 pf hal hsu q1 q2 q3 q4 q5 q6 q7 HQ HEV hs1 hst e1 e2 hsl hX hgl
                go_wp2_with fail
                refine Calls.mono EP.out ?_
                rintro e4 w4 ⟨rfl, b4, V4, h4⟩
                have EC : Hid _ := vmTell m w4 V4 _ 1 a1 h4 (by show N.events.length ≤ _; omega)
                have FQ : Hid (∀ w', VmQ m w4 w' { Vm.nx N fs f with stack := s1, events := N.events ++ [(1, a1)] } → VmQ m wr w' (Vm.ex (Vm.nx N fs f) fs (Vm.fn f) ⟨21, n, z⟩)) := fun w' hq => by
                  rw [HXE.out]
                  exact ⟨(B3.out.trans b4).trans hq.1, hq.2⟩
                clear b4 h4 EP B3 HXE hev t0 t1 t2
                go_wp2_with fail
                refine Calls.mono EC.out ?_
                rintro e5 w5 ⟨rfl, Q5⟩
                have FIN : Hid (VmQ m wr w5 (Vm.ex (Vm.nx N fs f) fs (Vm.fn f) ⟨21, n, z⟩)) := FQ.out w5 Q5
                clear Q5 FQ EC
                go_wp2_with fail
                go_meet
                exact FIN
              · -- read
                have EC : Hid _ := vmRead m W3 V2 (Vm.nx N fs f) H3.out SI.out.wf.rd SI.out.wf.inp (by show N.stack.length ≤ _; omega) (by show N.events.length ≤ _; omega)
                have FQ : Hid (∀ w', VmQ m W3 w' (Vm.rd (Vm.nx N fs f)) → VmQ m wr w' (Vm.ex (Vm.nx N fs f) fs (Vm.fn f) ⟨22, n, z⟩)) := fun w' hq => ⟨B3.out.trans hq.1, hq.2⟩
                clear SI HG HA H3 B3 HX hv hcap p0 p1 p2 p3 pf hal hsu q1 q2 q3 q4 q5 q6 q7 hev HQ HEV hgl
                go_wp2_with fail
                refine Calls.mono EC.out ?_
                rintro e4 w4 ⟨rfl, Q4⟩
                have FIN : Hid (VmQ m wr w4 (Vm.ex (Vm.nx N fs f) fs (Vm.fn f) ⟨22, n, z⟩)) := FQ.out w4 Q4
                clear Q4 FQ EC
                go_wp2_with fail
                go_meet
                exact FIN
              · -- test
                have hs1 : (1 : Int) ≤ N.stack.length := hsu
                have hst := Vm.last1 N.stack (by omega)
                obtain ⟨s1, e1⟩ : ∃ s, s = N.stack.dropLast := ⟨_, rfl⟩
                obtain ⟨a1, e2⟩ : ∃ s, s = N.stack.getLastD 0 := ⟨_, rfl⟩
                have hsl : s1.length ≤ 1000000 := by rw [e1]; simp; omega
                have hX : Vm.ex (Vm.nx N fs f) fs (Vm.fn f) ⟨23, n, z⟩ = if a1 = 0 then Vm.trp { Vm.nx N fs f with stack := s1 } 3 else { Vm.nx N fs f with stack := s1 } := by
                  rw [e1, e2]
                  rfl
                rw [← e1, ← e2] at hst
                have EP : Hid _ := vmPop m W3 V2 (Vm.nx N fs f) s1 a1 H3.out hst hsl
                have HXE : Hid _ := hX
                clear SI HG HA H3 HX hv hcap p0 p1 p2 p3 pf hal hsu q1 q2 q3 q4 q5 q6 q7 HQ HEV hs1 hst e1 e2 hsl hX hgl
                go_wp2_with fail
                refine Calls.mono EP.out ?_
                rintro e4 w4 ⟨rfl, b4, V4, h4⟩
                by_cases ha : a1 = 0
                · subst ha
                  rw [if_pos rfl] at HXE
                  have EC : Hid _ := vmTrap m w4 V4 _ 3 h4 (by show N.events.length ≤ _; omega)
                  have FQ : Hid (∀ w', VmQ m w4 w' (Vm.trp { Vm.nx N fs f with stack := s1 } 3) → VmQ m wr w' (Vm.ex (Vm.nx N fs f) fs (Vm.fn f) ⟨23, n, z⟩)) := fun w' hq => by
                    rw [HXE.out]
                    exact ⟨(B3.out.trans b4).trans hq.1, hq.2⟩
                  clear b4 h4 EP B3 HXE hev t0 t1 t2
                  go_wp2_with fail
                  refine Calls.mono EC.out ?_
                  rintro e5 w5 ⟨rfl, Q5⟩
                  have FIN : Hid (VmQ m wr w5 (Vm.ex (Vm.nx N fs f) fs (Vm.fn f) ⟨23, n, z⟩)) := FQ.out w5 Q5
                  clear Q5 FQ EC
                  go_wp2_with fail
                  go_meet
                  exact FIN
                · rw [if_neg ha] at HXE
                  have hab : (a1 == 0) = false := beq_eq_false_iff_ne.2 ha
                  have FIN : Hid (VmQ m wr w4 (Vm.ex (Vm.nx N fs f) fs (Vm.fn f) ⟨23, n, z⟩)) := by
                    unfold Hid
                    rw [HXE.out]
                    exact ⟨B3.out.trans b4, _, h4⟩
                  clear b4 h4 EP B3 HXE hev t0 t1 t2
                  go_wp2_with fail
                  go_meet
                  exact FIN
          case rest =>
            obtain ⟨bc, V5, h5⟩ := hcut.out
            obtain ⟨NX, hNX⟩ : ∃ NX, NX = Vm.ex (Vm.nx N fs f) fs (Vm.fn f) i := ⟨_, rfl⟩
            rw [← hNX] at h5 HX HG
            have d13 := h5.cell.2.2.2.2.2.2.2.2.2
            have BC : Hid (Below m w wc) := SI.out.b.trans bc
            have H5 : Hid (VmS m wc V5 NX) := h5
            have HGO : Hid (Vm.go 1048576 M = if NX.run then Vm.go gk NX else NX) := by
              unfold Hid
              rw [← SI.out.go, HG.out, if_neg h24]
            have EV5 : Hid (NX.events.length + gk ≤ 1000000000) := by
              obtain ⟨t, e1, e2, _⟩ := HX.out.1.ev
              have := HEV.out
              unfold Hid
              rw [e1, List.length_append]
              omega
            clear SI hcut hNX HG HA H3 B3 bc h5 HEV HQ t0 t1 t2
            cases hr : NX.run with
            | false =>
              rw [hr] at d13
              have FIN : Hid (VmQ m w wc (Vm.go 1048576 M)) := ⟨BC.out, V5, by rw [HGO.out, hr]; exact H5.out⟩
              clear H5 HX HGO BC EV5 hr
              go_wp2_with fail
              go_meet
              exact FIN
            | true =>
              rw [hr] at d13
              have SN : Hid (StI m w B M gk NX V5 wc) := ⟨H5.out, BC.out, HX.out.2 hr, hr, by rw [HGO.out, hr]; rfl, EV5.out⟩
              clear H5 HX HGO BC EV5 hr
              go_wp2_with fail
              go_roundg gk
              case measure => omega
              case rel => exact ⟨j + 1, by go_num, by omega, NX, V5, SN⟩
  case rest =>
    obtain ⟨bc, V1, h1⟩ := hcut.out
    have ES : Hid (Vm.step M = Vm.fin T (Vm.go 1048576 M)) := by
      unfold Hid Vm.step
      rw [if_pos HRUN.out, HT.out]
    have EK : Hid (Vm.ticked M = decide ((Vm.go 1048576 M).ticks > T)) := by
      unfold Hid Vm.ticked
      rw [HRUN.out, HT.out]
      rfl
    have g := GD.out
    obtain ⟨N, hN⟩ : ∃ N, N = Vm.go 1048576 M := ⟨_, rfl⟩
    rw [← hN] at h1 ES EK g
    have d4 := h1.cell.2.2.2.2.1
    have d13 := h1.cell.2.2.2.2.2.2.2.2.2
    have hev : N.events.length ≤ 1000000000 := by
      obtain ⟨t, e1, e2, _⟩ := g.ev
      have := HE.out
      rw [e1, List.length_append]
      omega
    have EE : Hid _ := vmEnd m wc V1 N 5 0 h1 hev
    have BC : Hid (Below m w wc) := bc
    have H1 : Hid (VmS m wc V1 N) := h1
    clear GD ST HE c13 c4 g hev bc h1 hcut hN HRUN
    cases hr : N.run with
    | false =>
      rw [hr] at d13
      have F : Hid (VmQ m w wc (Vm.step M)) := ⟨BC.out, V1, by rw [ES.out]; unfold Vm.fin; rw [if_neg (by rw [hr]; simp)]; exact H1.out⟩
      by_cases ht : N.ticks > T
      · have hb : decide (N.ticks > T) = true := decide_eq_true ht
        have K : Hid (Vm.ticked M = true) := EK.out.trans hb
        clear EE H1 BC ES EK hr
        go_wp2_with fail
        try rw [Exit.noGoto_ret]
        go_ret
        exact ⟨by rw [K.out]; rfl, F.out⟩
      · have hb : decide (N.ticks > T) = false := decide_eq_false ht
        have K : Hid (Vm.ticked M = false) := EK.out.trans hb
        clear EE H1 BC ES EK hr
        go_wp2_with fail
        try rw [Exit.noGoto_ret]
        go_ret
        exact ⟨by rw [K.out]; rfl, F.out⟩
    | true =>
      rw [hr] at d13
      by_cases ht : N.ticks > T
      · have hb : decide (N.ticks > T) = true := decide_eq_true ht
        have K : Hid (Vm.ticked M = true) := EK.out.trans hb
        have F : Hid (VmQ m w wc (Vm.step M)) := ⟨BC.out, V1, by rw [ES.out]; unfold Vm.fin; rw [if_neg (fun h => h.2 ht)]; exact H1.out⟩
        clear EE H1 BC ES EK hr
        go_wp2_with fail
        try rw [Exit.noGoto_ret]
        go_ret
        exact ⟨by rw [K.out]; rfl, F.out⟩
      · have hb : decide (N.ticks > T) = false := decide_eq_false ht
        have K : Hid (Vm.ticked M = false) := EK.out.trans hb
        have F : Hid (Vm.step M = { N with events := N.events ++ [(5, 0)], run := false }) := by unfold Hid; rw [ES.out]; unfold Vm.fin; rw [if_pos ⟨hr, ht⟩]
        clear H1 ES EK hr
        go_wp2_with fail
        refine Calls.mono EE.out ?_
        rintro e9 w9 ⟨rfl, Q9⟩
        have F9 : Hid (VmQ m w w9 (Vm.step M)) := by unfold Hid; rw [F.out]; exact ⟨BC.out.trans Q9.1, Q9.2⟩
        clear Q9 EE F BC
        go_wp2_with fail
        try rw [Exit.noGoto_ret]
        go_ret
        exact ⟨by rw [K.out]; rfl, F9.out⟩
end Go.Proofs.YtkjkiknpgggadaaDoor

