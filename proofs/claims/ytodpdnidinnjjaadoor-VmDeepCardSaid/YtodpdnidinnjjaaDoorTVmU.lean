/- Layer 9: what a machine tells: Ended, Ticks, Tick, Count, Frames; one that is not there. -/
import Derived.Test.YtodpdnidinnjjaaDoorTVmG
namespace Go.Proofs.YtodpdnidinnjjaaDoor
open Go.RowKit
set_option linter.unusedVariables false
set_option linter.unusedSimpArgs false

set_option maxRecDepth 100000 in
set_option maxHeartbeats 4000000 in
theorem vmEnded (m : Nat) (w : World) (V : VmV) (M : Vm.Mc) (h : VmS m w V M) : Calls Tryd.prog 28 #[.pointer (some ⟨m, 0, none⟩)] w fun e w' => e = .returned (.bool (!M.run)) ∧ Below w.heap.size w w' := by
  have c13 := h.cell.2.2.2.2.2.2.2.2.2
  generalize M.run = r at c13 ⊢
  clear h
  go_enter Tryd.func28, Tryd.ntmps28
  go_wp2_with fail
  first
    | (go_ret; exact ⟨rfl, by go_grown⟩)
    | (go_region; all_goals (go_wp2_with fail; go_ret; exact ⟨rfl, by go_grown⟩))
set_option maxRecDepth 100000 in
set_option maxHeartbeats 4000000 in
theorem vmTicks (m : Nat) (w : World) (V : VmV) (M : Vm.Mc) (h : VmS m w V M) : Calls Tryd.prog 16 #[.pointer (some ⟨m, 0, none⟩)] w fun e w' => e = .returned (.int .i64 M.ticks) ∧ Below w.heap.size w w' := by
  have c4 := h.cell.2.2.2.2.1
  clear h
  go_enter Tryd.func16, Tryd.ntmps16
  go_wp2_with fail
  first
    | (go_ret; exact ⟨rfl, by go_grown⟩)
    | (go_region; all_goals (go_wp2_with fail; go_ret; exact ⟨rfl, by go_grown⟩))
set_option maxRecDepth 100000 in
set_option maxHeartbeats 4000000 in
theorem vmCount (m : Nat) (w : World) (V : VmV) (M : Vm.Mc) (h : VmS m w V M) : Calls Tryd.prog 19 #[.pointer (some ⟨m, 0, none⟩)] w fun e w' => e = .returned (.int .i64 M.events.length) ∧ Below w.heap.size w w' := by
  have c9 := h.cell.2.2.2.2.2.1
  obtain ⟨a, c, hv⟩ := own_shp (show w.ownsRow (m + 1) 43 2 V.ev M.events.length (Vm.evC M.events) from h.rows.ob)
  rw [hv] at c9
  clear h hv
  go_enter Tryd.func19, Tryd.ntmps19
  go_wp2_with fail
  first
    | (go_ret; exact ⟨rfl, by go_grown⟩)
    | (go_region; all_goals (go_wp2_with fail; go_ret; exact ⟨rfl, by go_grown⟩))
set_option maxRecDepth 100000 in
set_option maxHeartbeats 4000000 in
theorem vmFrames (m : Nat) (w : World) (V : VmV) (M : Vm.Mc) (h : VmS m w V M) : Calls Tryd.prog 18 #[.pointer (some ⟨m, 0, none⟩)] w fun e w' => e = .returned (.int .i64 M.frames.length) ∧ Below w.heap.size w w' := by
  have c10 := h.cell.2.2.2.2.2.2.1
  obtain ⟨a, c, hv⟩ := own_shp (show w.ownsRow (m + 1) 74 4 V.fv M.frames.length (Vm.frC M.frames) from h.rows.oc)
  rw [hv] at c10
  clear h hv
  go_enter Tryd.func18, Tryd.ntmps18
  go_wp2_with fail
  first
    | (go_ret; exact ⟨rfl, by go_grown⟩)
    | (go_region; all_goals (go_wp2_with fail; go_ret; exact ⟨rfl, by go_grown⟩))
set_option maxRecDepth 100000 in
set_option maxHeartbeats 4000000 in
theorem vmEndedN (w : World) : Calls Tryd.prog 28 #[.pointer none] w fun e w' => e = .returned (.bool false) ∧ Below w.heap.size w w' := by
  go_enter Tryd.func28, Tryd.ntmps28
  go_wp2_with fail
  first
    | (go_ret; exact ⟨rfl, by go_grown⟩)
    | (refine bodyPost_ret (v := .bool false) (by simp [results, Tryd.results28, go_sem]) rfl ?_; exact ⟨rfl, by go_grown⟩)
set_option maxRecDepth 100000 in
set_option maxHeartbeats 4000000 in
theorem vmTicksN (w : World) : Calls Tryd.prog 16 #[.pointer none] w fun e w' => e = .returned (.int .i64 0) ∧ Below w.heap.size w w' := by
  go_enter Tryd.func16, Tryd.ntmps16
  go_wp2_with fail
  first
    | (go_ret; exact ⟨rfl, by go_grown⟩)
    | (refine bodyPost_ret (v := .int .i64 0) (by simp [results, Tryd.results16, go_sem]) rfl ?_; exact ⟨rfl, by go_grown⟩)
set_option maxRecDepth 100000 in
set_option maxHeartbeats 4000000 in
theorem vmCountN (w : World) : Calls Tryd.prog 19 #[.pointer none] w fun e w' => e = .returned (.int .i64 0) ∧ Below w.heap.size w w' := by
  go_enter Tryd.func19, Tryd.ntmps19
  go_wp2_with fail
  first
    | (go_ret; exact ⟨rfl, by go_grown⟩)
    | (refine bodyPost_ret (v := .int .i64 0) (by simp [results, Tryd.results19, go_sem]) rfl ?_; exact ⟨rfl, by go_grown⟩)
set_option maxRecDepth 100000 in
set_option maxHeartbeats 4000000 in
theorem vmFramesN (w : World) : Calls Tryd.prog 18 #[.pointer none] w fun e w' => e = .returned (.int .i64 0) ∧ Below w.heap.size w w' := by
  go_enter Tryd.func18, Tryd.ntmps18
  go_wp2_with fail
  first
    | (go_ret; exact ⟨rfl, by go_grown⟩)
    | (refine bodyPost_ret (v := .int .i64 0) (by simp [results, Tryd.results18, go_sem]) rfl ?_; exact ⟨rfl, by go_grown⟩)
set_option maxRecDepth 100000 in
set_option maxHeartbeats 4000000 in
theorem vmStepN (w : World) : Calls Tryd.prog 12 #[.pointer none] w fun e w' => e = .returned (.bool false) ∧ Below w.heap.size w w' := by
  go_enter Tryd.func12, Tryd.ntmps12
  go_wp2_with fail
  first
    | (go_ret; exact ⟨rfl, by go_grown⟩)
    | (rw [Exit.noGoto_ret]; go_ret; exact ⟨rfl, by go_grown⟩)
    | (go_step3; go_wp2_with fail; (try rw [Exit.noGoto_ret]); go_ret; exact ⟨rfl, by go_grown⟩)
set_option maxRecDepth 100000 in
set_option maxHeartbeats 4000000 in
theorem vmEventsN (w : World) : Calls Tryd.prog 17 #[.pointer none] w fun e w' => e = .returned (.slice none 0 0) ∧ Below w.heap.size w w' := by
  go_enter Tryd.func17, Tryd.ntmps17
  go_wp2_with fail
  first
    | (go_ret; exact ⟨rfl, by go_grown⟩)
    | (refine bodyPost_ret (v := .slice none 0 0) (by simp [results, Tryd.results17, go_sem]) rfl ?_; exact ⟨rfl, by go_grown⟩)
end Go.Proofs.YtodpdnidinnjjaaDoor
