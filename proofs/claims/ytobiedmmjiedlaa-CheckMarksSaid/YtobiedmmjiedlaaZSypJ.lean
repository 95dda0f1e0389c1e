/- Layer 3: the document's Tight. -/
import Derived.Test.YtobiedmmjiedlaaZSypG
namespace Go.Proofs.Ytobiedmmjiedlaa
open Go.RowKit

set_option maxRecDepth 100000 in
set_option maxHeartbeats 4000000 in
theorem tight_none (s : List UInt8) (w : World) (e0 : ([124, 124] == s) = false) (e1 : ([38, 38] == s) = false) (e2 : ([61, 61] == s) = false) (e3 : ([33, 61] == s) = false) (e4 : ([60] == s) = false) (e5 : ([60, 61] == s) = false) (e6 : ([43] == s) = false) (e7 : ([45] == s) = false) (e8 : ([42] == s) = false) (e9 : ([47] == s) = false) (e10 : ([37] == s) = false) :
    Calls Try.prog 100 #[.string ⟨s.toArray⟩] w fun e w' => e = .returned (.int .i64 0) ∧ Below w.heap.size w w' := by
  go_enter Try.func100, Try.ntmps100
  go_wp2_with fail
  refine wp_loop_rounds 6 ?_
  repeat (first | (rw [rounds_succ]; go_wp2_with fail) | (refine wp_loop_rounds 5 ?_))
  go_ret
  exact ⟨rfl, by go_grown⟩
set_option maxRecDepth 100000 in
set_option maxHeartbeats 4000000 in
theorem tight_0 (w : World) : Calls Try.prog 100 #[.string ⟨#[124, 124]⟩] w fun e w' => e = .returned (.int .i64 1) ∧ Below w.heap.size w w' := by
  go_enter Try.func100, Try.ntmps100
  go_wp2_with fail
  refine wp_loop_rounds 6 ?_
  repeat (first | (rw [rounds_succ]; go_wp2_with fail) | (refine wp_loop_rounds 5 ?_))
  go_ret
  exact ⟨rfl, by go_grown⟩
set_option maxRecDepth 100000 in
set_option maxHeartbeats 4000000 in
theorem tight_1 (w : World) : Calls Try.prog 100 #[.string ⟨#[38, 38]⟩] w fun e w' => e = .returned (.int .i64 2) ∧ Below w.heap.size w w' := by
  go_enter Try.func100, Try.ntmps100
  go_wp2_with fail
  refine wp_loop_rounds 6 ?_
  repeat (first | (rw [rounds_succ]; go_wp2_with fail) | (refine wp_loop_rounds 5 ?_))
  go_ret
  exact ⟨rfl, by go_grown⟩
set_option maxRecDepth 100000 in
set_option maxHeartbeats 4000000 in
theorem tight_2 (w : World) : Calls Try.prog 100 #[.string ⟨#[61, 61]⟩] w fun e w' => e = .returned (.int .i64 3) ∧ Below w.heap.size w w' := by
  go_enter Try.func100, Try.ntmps100
  go_wp2_with fail
  refine wp_loop_rounds 6 ?_
  repeat (first | (rw [rounds_succ]; go_wp2_with fail) | (refine wp_loop_rounds 5 ?_))
  go_ret
  exact ⟨rfl, by go_grown⟩
set_option maxRecDepth 100000 in
set_option maxHeartbeats 4000000 in
theorem tight_3 (w : World) : Calls Try.prog 100 #[.string ⟨#[33, 61]⟩] w fun e w' => e = .returned (.int .i64 3) ∧ Below w.heap.size w w' := by
  go_enter Try.func100, Try.ntmps100
  go_wp2_with fail
  refine wp_loop_rounds 6 ?_
  repeat (first | (rw [rounds_succ]; go_wp2_with fail) | (refine wp_loop_rounds 5 ?_))
  go_ret
  exact ⟨rfl, by go_grown⟩
set_option maxRecDepth 100000 in
set_option maxHeartbeats 4000000 in
theorem tight_4 (w : World) : Calls Try.prog 100 #[.string ⟨#[60]⟩] w fun e w' => e = .returned (.int .i64 3) ∧ Below w.heap.size w w' := by
  go_enter Try.func100, Try.ntmps100
  go_wp2_with fail
  refine wp_loop_rounds 6 ?_
  repeat (first | (rw [rounds_succ]; go_wp2_with fail) | (refine wp_loop_rounds 5 ?_))
  go_ret
  exact ⟨rfl, by go_grown⟩
set_option maxRecDepth 100000 in
set_option maxHeartbeats 4000000 in
theorem tight_5 (w : World) : Calls Try.prog 100 #[.string ⟨#[60, 61]⟩] w fun e w' => e = .returned (.int .i64 3) ∧ Below w.heap.size w w' := by
  go_enter Try.func100, Try.ntmps100
  go_wp2_with fail
  refine wp_loop_rounds 6 ?_
  repeat (first | (rw [rounds_succ]; go_wp2_with fail) | (refine wp_loop_rounds 5 ?_))
  go_ret
  exact ⟨rfl, by go_grown⟩
set_option maxRecDepth 100000 in
set_option maxHeartbeats 4000000 in
theorem tight_6 (w : World) : Calls Try.prog 100 #[.string ⟨#[43]⟩] w fun e w' => e = .returned (.int .i64 4) ∧ Below w.heap.size w w' := by
  go_enter Try.func100, Try.ntmps100
  go_wp2_with fail
  refine wp_loop_rounds 6 ?_
  repeat (first | (rw [rounds_succ]; go_wp2_with fail) | (refine wp_loop_rounds 5 ?_))
  go_ret
  exact ⟨rfl, by go_grown⟩
set_option maxRecDepth 100000 in
set_option maxHeartbeats 4000000 in
theorem tight_7 (w : World) : Calls Try.prog 100 #[.string ⟨#[45]⟩] w fun e w' => e = .returned (.int .i64 4) ∧ Below w.heap.size w w' := by
  go_enter Try.func100, Try.ntmps100
  go_wp2_with fail
  refine wp_loop_rounds 6 ?_
  repeat (first | (rw [rounds_succ]; go_wp2_with fail) | (refine wp_loop_rounds 5 ?_))
  go_ret
  exact ⟨rfl, by go_grown⟩
set_option maxRecDepth 100000 in
set_option maxHeartbeats 4000000 in
theorem tight_8 (w : World) : Calls Try.prog 100 #[.string ⟨#[42]⟩] w fun e w' => e = .returned (.int .i64 5) ∧ Below w.heap.size w w' := by
  go_enter Try.func100, Try.ntmps100
  go_wp2_with fail
  refine wp_loop_rounds 6 ?_
  repeat (first | (rw [rounds_succ]; go_wp2_with fail) | (refine wp_loop_rounds 5 ?_))
  go_ret
  exact ⟨rfl, by go_grown⟩
set_option maxRecDepth 100000 in
set_option maxHeartbeats 4000000 in
theorem tight_9 (w : World) : Calls Try.prog 100 #[.string ⟨#[47]⟩] w fun e w' => e = .returned (.int .i64 5) ∧ Below w.heap.size w w' := by
  go_enter Try.func100, Try.ntmps100
  go_wp2_with fail
  refine wp_loop_rounds 6 ?_
  repeat (first | (rw [rounds_succ]; go_wp2_with fail) | (refine wp_loop_rounds 5 ?_))
  go_ret
  exact ⟨rfl, by go_grown⟩
set_option maxRecDepth 100000 in
set_option maxHeartbeats 4000000 in
theorem tight_10 (w : World) : Calls Try.prog 100 #[.string ⟨#[37]⟩] w fun e w' => e = .returned (.int .i64 5) ∧ Below w.heap.size w w' := by
  go_enter Try.func100, Try.ntmps100
  go_wp2_with fail
  refine wp_loop_rounds 6 ?_
  repeat (first | (rw [rounds_succ]; go_wp2_with fail) | (refine wp_loop_rounds 5 ?_))
  go_ret
  exact ⟨rfl, by go_grown⟩
theorem rtight_any (s : List UInt8) (w : World) : Calls Try.prog 100 #[.string ⟨s.toArray⟩] w fun e w' => e = .returned (.int .i64 (Sx.bindsB s : Int)) ∧ Below w.heap.size w w' := by
  by_cases h0 : s = [124, 124]
  · subst h0; exact tight_0 w
  by_cases h1 : s = [38, 38]
  · subst h1; exact tight_1 w
  by_cases h2 : s = [61, 61]
  · subst h2; exact tight_2 w
  by_cases h3 : s = [33, 61]
  · subst h3; exact tight_3 w
  by_cases h4 : s = [60]
  · subst h4; exact tight_4 w
  by_cases h5 : s = [60, 61]
  · subst h5; exact tight_5 w
  by_cases h6 : s = [43]
  · subst h6; exact tight_6 w
  by_cases h7 : s = [45]
  · subst h7; exact tight_7 w
  by_cases h8 : s = [42]
  · subst h8; exact tight_8 w
  by_cases h9 : s = [47]
  · subst h9; exact tight_9 w
  by_cases h10 : s = [37]
  · subst h10; exact tight_10 w
  have hb : Sx.bindsB s = 0 := by unfold Sx.bindsB; rw [if_neg h0, if_neg h1, if_neg h2, if_neg h3, if_neg h4, if_neg h5, if_neg h6, if_neg h7, if_neg h8, if_neg h9, if_neg h10]
  rw [hb]
  exact tight_none s w (text_f fun e => h0 e.symm) (text_f fun e => h1 e.symm) (text_f fun e => h2 e.symm) (text_f fun e => h3 e.symm) (text_f fun e => h4 e.symm) (text_f fun e => h5 e.symm) (text_f fun e => h6 e.symm) (text_f fun e => h7 e.symm) (text_f fun e => h8 e.symm) (text_f fun e => h9 e.symm) (text_f fun e => h10 e.symm)
end Go.Proofs.Ytobiedmmjiedlaa
