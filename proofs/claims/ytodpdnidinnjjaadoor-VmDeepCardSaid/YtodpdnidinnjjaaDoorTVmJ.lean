/- Layer 9: readNumber; where the last frame's cells are. -/
import Derived.Test.YtodpdnidinnjjaaDoorTVmI
namespace Go.Proofs.YtodpdnidinnjjaaDoor
open Go.RowKit
set_option linter.unusedVariables false
set_option linter.unusedSimpArgs false

/-- What reading does. -/
def Vm.rd (M : Vm.Mc) : Vm.Mc := match M.input[M.read]? with | none => { M with events := M.events ++ [(4, 5)], run := false } | some n => { M with read := M.read + 1, events := M.events ++ [(2, n)], stack := M.stack ++ [n] }
set_option maxRecDepth 100000 in
set_option maxHeartbeats 8000000 in
theorem vmRead (m : Nat) (w : World) (V : VmV) (M : Vm.Mc) (h : VmS m w V M) (hr : M.read ≤ M.input.length) (hi : M.input.length ≤ 1000000) (hs : M.stack.length ≤ 1000000) (he : M.events.length ≤ 1000000000) : Calls Tryd.prog 39 #[.pointer (some ⟨m, 0, none⟩)] w fun e w' => e = .returned (.tuple #[]) ∧ VmQ m w w' (Vm.rd M) := by
  have c1 := h.cell.2.1
  have c2 := h.cell.2.2.1
  have HH : Hid (VmS m w V M) := h
  have hlt := h.lt
  have HE : Hid (M.events.length ≤ 1000000000) := he
  have HS : Hid (M.stack.length ≤ 1000000) := hs
  cases hn : M.input[M.read]? with
  | none =>
    have hrl : M.read = M.input.length := by
      have := List.getElem?_eq_none_iff.1 hn
      omega
    have EQ : Hid (Vm.rd M = { M with events := M.events ++ [(4, 5)], run := false }) := by unfold Hid Vm.rd; rw [hn]
    rw [EQ.out]
    obtain ⟨n, hnn⟩ : ∃ n, n = M.input.length := ⟨_, rfl⟩
    rw [← hnn] at c1
    rw [hrl, ← hnn] at c2
    have ee : ((n : Int) == (n : Int)) = true := beq_self_eq_true _
    clear h hrl hnn hn EQ hr hi hs he
    go_enter Tryd.func39, Tryd.ntmps39
    go_wp2_with fail
    go_quiet (fail)
    have y : Below w.heap.size w (w.drewN nq) := below_drewN (Below.refl _ _) nq
    have ET : Hid _ := vmTrap m (w.drewN nq) V M 5 (HH.out.later y) HE.out
    have BY : Hid (Below m w (w.drewN nq)) := y.mono (Nat.le_of_lt hlt)
    clear y c1 c2
    generalize w.drewN nq = W5 at ET BY ⊢
    go_wp2_with fail
    refine Calls.mono ET.out ?_
    rintro e2 w2 ⟨rfl, Q2⟩
    have FIN : Hid (VmQ m w w2 _) := ⟨BY.out.trans Q2.1, Q2.2⟩
    clear Q2 ET
    go_wp2_with fail
    refine bodyPost_ret (v := .tuple #[]) (by simp [results, Tryd.results39, go_sem]) rfl ?_
    exact ⟨rfl, FIN.out⟩
  | some x =>
    have hrl : M.read < M.input.length := (List.getElem?_eq_some_iff.1 hn).1
    have EQ : Hid (Vm.rd M = { M with read := M.read + 1, events := M.events ++ [(2, x)], stack := M.stack ++ [x] }) := by unfold Hid Vm.rd; rw [hn]
    rw [EQ.out]
    obtain ⟨g, o, hia, hg, hc⟩ := h.inp.s (by omega)
    have cx := hc _ _ hn
    rw [hia] at c1
    obtain ⟨n, hnn⟩ : ∃ n, n = M.input.length := ⟨_, rfl⟩
    obtain ⟨r, hrr⟩ : ∃ r, r = M.read := ⟨_, rfl⟩
    rw [← hnn] at c1 hrl hi
    rw [← hrr] at c2 cx hrl
    have HRR : Hid (r = M.read) := hrr
    have hri : (r : Int) < (n : Int) := by omega
    have hr0 : (0 : Int) ≤ (r : Int) := by omega
    have ee : ((r : Int) == (n : Int)) = false := beq_eq_false_iff_ne.2 (by omega)
    have een : (r == n) = false := beq_eq_false_iff_ne.2 (by omega)
    have hgl : g < w.heap.size := by omega
    clear h hnn hn EQ hr hs he hrr hc hia
    go_enter Tryd.func39, Tryd.ntmps39
    go_wp2_with fail
    go_quiet (fail)
    have y : Below w.heap.size w (w.drewN nq) := below_drewN (Below.refl _ _) nq
    have k1 := (y.cell (p := ⟨m, 1, none⟩) hlt).trans c1
    have k2 := (y.cell (p := ⟨m, 2, none⟩) hlt).trans c2
    have kx := (y.cell (p := ⟨g, o + r, none⟩) hgl).trans cx
    have Y5 : Hid (Below w.heap.size w (w.drewN nq)) := y
    clear y c1 c2 cx
    generalize w.drewN nq = W5 at Y5 k1 k2 kx ⊢
    go_wp2_with fail
    go_quiet (fail)
    have y6 : Below w.heap.size w (W5.drewN nq) := below_drewN Y5.out nq
    have H6 := HH.out.later y6
    have d2 := H6.cell.2.2.1
    have f2 := H6.frozen 2
    rw [← HRR.out] at d2
    have H7 := H6.setRd (M.read + 1)
    have e1 : ((M.read + 1 : Nat) : Int) = (r : Int) + 1 := by rw [HRR.out]; omega
    rw [e1] at H7
    have Y6 : Hid (Below m w (W5.drewN nq)) := y6.mono (Nat.le_of_lt hlt)
    clear y6 H6 k1 k2 kx Y5
    generalize W5.drewN nq = W6 at Y6 d2 f2 H7 ⊢
    obtain ⟨W7, hW7⟩ : ∃ W7, W7 = W6.setCell ⟨m, 2, none⟩ (.int .i64 ((r : Int) + 1)) := ⟨_, rfl⟩
    rw [← hW7] at H7
    have B7 : Hid (Below m w W7) := by rw [hW7]; exact Y6.out.trans below_set
    have ET : Hid _ := vmTell m W7 V _ 2 x H7 HE.out
    clear H7
    go_upto_region 4 with fail
    rw [← hW7]
    clear hW7 d2 f2 Y6
    go_wp2_with fail
    refine Calls.mono ET.out ?_
    rintro e8 w8 ⟨rfl, b8, V8, h8⟩
    have EP : Hid _ := vmPush m w8 V8 _ x h8 HS.out
    have B8 : Hid (Below m w w8) := B7.out.trans b8
    clear b8 h8 ET
    go_wp2_with fail
    refine Calls.mono EP.out ?_
    rintro e9 w9 ⟨rfl, Q9⟩
    have FIN : Hid (VmQ m w w9 _) := ⟨B8.out.trans Q9.1, Q9.2⟩
    clear Q9 EP
    go_wp2_with fail
    first
      | (go_end0; exact ⟨rfl, FIN.out⟩)
      | (refine bodyPost_ret (v := .tuple #[]) (by simp [results, Tryd.results39, go_sem]) rfl ?_; exact ⟨rfl, FIN.out⟩)
end Go.Proofs.YtodpdnidinnjjaaDoor
