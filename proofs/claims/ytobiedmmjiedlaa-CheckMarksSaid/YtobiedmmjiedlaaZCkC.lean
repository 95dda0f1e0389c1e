/- Layer 4: unaryType, binaryType. -/
import Derived.Test.YtobiedmmjiedlaaZCkB
namespace Go.Proofs.Ytobiedmmjiedlaa
open Go.RowKit

/-- A type, or what is thrown. -/
def ckEnd : Except Int Int → Ending
  | .ok t => .returned (.int .i64 t)
  | .error e => ckPan e
def ckUn (n : List UInt8) (t : Int) : Except Int Int :=
  if n = [45] then (if t = 1 then .ok 1 else .error 41) else if n = [33] then (if t = 2 then .ok 2 else .error 41) else .error 32
def ckBi (n : List UInt8) (a b : Int) : Except Int Int :=
  if n = [43] ∨ n = [45] ∨ n = [42] ∨ n = [47] ∨ n = [37] then (if a = 1 ∧ b = 1 then .ok 1 else .error 41)
  else if n = [60] ∨ n = [60, 61] then (if a = 1 ∧ b = 1 then .ok 2 else .error 41)
  else if n = [61, 61] ∨ n = [33, 61] then (if a = b then .ok 2 else .error 41)
  else if n = [38, 38] ∨ n = [124, 124] then (if a = 2 ∧ b = 2 then .ok 2 else .error 41)
  else .error 32
set_option maxRecDepth 100000 in
set_option maxHeartbeats 1000000 in
theorem ckUn_m1 (w : World) : Calls Try.prog 45 #[.string ⟨#[45]⟩, .int .i64 1] w fun e w' => e = ckEnd (ckUn [45] 1) ∧ Below w.heap.size w w' := by
  have H : Hid (ckUn [45] 1 = .ok 1) := by rfl
  go_enter Try.func45, Try.ntmps45
  go_wp2_with fail
  refine Calls.mono (ckMust_yes _ _) ?_
  rintro e w1 ⟨rfl, rfl⟩
  go_wp2_with fail
  go_ret
  exact ⟨by rw [H.out]; rfl, by go_grown⟩
set_option maxRecDepth 100000 in
set_option maxHeartbeats 1000000 in
theorem ckUn_m0 (t : Int) (h : ¬ t = 1) (w : World) : Calls Try.prog 45 #[.string ⟨#[45]⟩, .int .i64 t] w fun e w' => e = ckEnd (ckUn [45] t) ∧ Below w.heap.size w w' := by
  have H : Hid (ckUn [45] t = .error 41) := by unfold Hid ckUn; simp [h]
  have h2 : (t == 1) = false := beq_eq_false_iff_ne.2 h
  clear h
  go_enter Try.func45, Try.ntmps45
  go_wp2_with fail
  refine Calls.mono (ckMust_no _ _) ?_
  rintro e w1 ⟨rfl, b1⟩
  unfold ckPan
  go_wp2_with fail
  exact ⟨rfl, by rw [H.out]; rfl, b1⟩
set_option maxRecDepth 100000 in
set_option maxHeartbeats 1000000 in
theorem ckUn_n1 (w : World) : Calls Try.prog 45 #[.string ⟨#[33]⟩, .int .i64 2] w fun e w' => e = ckEnd (ckUn [33] 2) ∧ Below w.heap.size w w' := by
  have H : Hid (ckUn [33] 2 = .ok 2) := by rfl
  go_enter Try.func45, Try.ntmps45
  go_wp2_with fail
  refine Calls.mono (ckMust_yes _ _) ?_
  rintro e w1 ⟨rfl, rfl⟩
  go_wp2_with fail
  go_ret
  exact ⟨by rw [H.out]; rfl, by go_grown⟩
set_option maxRecDepth 100000 in
set_option maxHeartbeats 1000000 in
theorem ckUn_n0 (t : Int) (h : ¬ t = 2) (w : World) : Calls Try.prog 45 #[.string ⟨#[33]⟩, .int .i64 t] w fun e w' => e = ckEnd (ckUn [33] t) ∧ Below w.heap.size w w' := by
  have H : Hid (ckUn [33] t = .error 41) := by unfold Hid ckUn; simp [h]
  have h2 : (t == 2) = false := beq_eq_false_iff_ne.2 h
  clear h
  go_enter Try.func45, Try.ntmps45
  go_wp2_with fail
  refine Calls.mono (ckMust_no _ _) ?_
  rintro e w1 ⟨rfl, b1⟩
  unfold ckPan
  go_wp2_with fail
  exact ⟨rfl, by rw [H.out]; rfl, b1⟩
set_option maxRecDepth 100000 in
set_option maxHeartbeats 1000000 in
theorem ckUn_no (n : List UInt8) (t : Int) (h1 : ¬ n = [45]) (h2 : ¬ n = [33]) (w : World) : Calls Try.prog 45 #[.string ⟨n.toArray⟩, .int .i64 t] w fun e w' => e = ckEnd (ckUn n t) ∧ Below w.heap.size w w' := by
  have H : Hid (ckUn n t = .error 32) := by unfold Hid ckUn; simp [h1, h2]
  have e1 := text_f h1
  have e2 := text_f h2
  clear h1 h2
  go_enter Try.func45, Try.ntmps45
  go_wp2_with fail
  exact ⟨rfl, by rw [H.out]; rfl, Below.refl _ _⟩
theorem ckUn_any (n : List UInt8) (t : Int) (w : World) : Calls Try.prog 45 #[.string ⟨n.toArray⟩, .int .i64 t] w fun e w' => e = ckEnd (ckUn n t) ∧ Below w.heap.size w w' := by
  by_cases h1 : n = [45]
  · subst h1
    by_cases h : t = 1
    · subst h; exact ckUn_m1 w
    · exact ckUn_m0 t h w
  by_cases h2 : n = [33]
  · subst h2
    by_cases h : t = 2
    · subst h; exact ckUn_n1 w
    · exact ckUn_n0 t h w
  exact ckUn_no n t h1 h2 w
set_option maxRecDepth 100000 in
set_option maxHeartbeats 1000000 in
theorem ckBi_a01 (w : World) : Calls Try.prog 46 #[.string ⟨#[43]⟩, .int .i64 1, .int .i64 1] w fun e w' => e = ckEnd (ckBi [43] 1 1) ∧ Below w.heap.size w w' := by
  have H : Hid (ckBi [43] 1 1 = .ok 1) := by rfl
  go_enter Try.func46, Try.ntmps46
  go_wp2_with fail
  refine Calls.mono (ckMust_yes _ _) ?_
  rintro e w1 ⟨rfl, rfl⟩
  go_wp2_with fail
  go_ret
  exact ⟨by rw [H.out]; rfl, by go_grown⟩
set_option maxRecDepth 100000 in
set_option maxHeartbeats 1000000 in
theorem ckBi_a02 (b : Int) (h : ¬ b = 1) (w : World) : Calls Try.prog 46 #[.string ⟨#[43]⟩, .int .i64 1, .int .i64 b] w fun e w' => e = ckEnd (ckBi [43] 1 b) ∧ Below w.heap.size w w' := by
  have H : Hid (ckBi [43] 1 b = .error 41) := by unfold Hid ckBi; simp [h]
  have h2 : (b == 1) = false := beq_eq_false_iff_ne.2 h
  clear h
  go_enter Try.func46, Try.ntmps46
  go_wp2_with fail
  refine Calls.mono (ckMust_no _ _) ?_
  rintro e w1 ⟨rfl, b1⟩
  unfold ckPan
  go_wp2_with fail
  exact ⟨rfl, by rw [H.out]; rfl, b1⟩
set_option maxRecDepth 100000 in
set_option maxHeartbeats 1000000 in
theorem ckBi_a00 (a b : Int) (h : ¬ a = 1) (w : World) : Calls Try.prog 46 #[.string ⟨#[43]⟩, .int .i64 a, .int .i64 b] w fun e w' => e = ckEnd (ckBi [43] a b) ∧ Below w.heap.size w w' := by
  have H : Hid (ckBi [43] a b = .error 41) := by unfold Hid ckBi; simp [h]
  have h2 : (a == 1) = false := beq_eq_false_iff_ne.2 h
  clear h
  go_enter Try.func46, Try.ntmps46
  go_wp2_with fail
  refine Calls.mono (ckMust_no _ _) ?_
  rintro e w1 ⟨rfl, b1⟩
  unfold ckPan
  go_wp2_with fail
  exact ⟨rfl, by rw [H.out]; rfl, b1⟩
set_option maxRecDepth 100000 in
set_option maxHeartbeats 1000000 in
theorem ckBi_a11 (w : World) : Calls Try.prog 46 #[.string ⟨#[45]⟩, .int .i64 1, .int .i64 1] w fun e w' => e = ckEnd (ckBi [45] 1 1) ∧ Below w.heap.size w w' := by
  have H : Hid (ckBi [45] 1 1 = .ok 1) := by rfl
  go_enter Try.func46, Try.ntmps46
  go_wp2_with fail
  refine Calls.mono (ckMust_yes _ _) ?_
  rintro e w1 ⟨rfl, rfl⟩
  go_wp2_with fail
  go_ret
  exact ⟨by rw [H.out]; rfl, by go_grown⟩
set_option maxRecDepth 100000 in
set_option maxHeartbeats 1000000 in
theorem ckBi_a12 (b : Int) (h : ¬ b = 1) (w : World) : Calls Try.prog 46 #[.string ⟨#[45]⟩, .int .i64 1, .int .i64 b] w fun e w' => e = ckEnd (ckBi [45] 1 b) ∧ Below w.heap.size w w' := by
  have H : Hid (ckBi [45] 1 b = .error 41) := by unfold Hid ckBi; simp [h]
  have h2 : (b == 1) = false := beq_eq_false_iff_ne.2 h
  clear h
  go_enter Try.func46, Try.ntmps46
  go_wp2_with fail
  refine Calls.mono (ckMust_no _ _) ?_
  rintro e w1 ⟨rfl, b1⟩
  unfold ckPan
  go_wp2_with fail
  exact ⟨rfl, by rw [H.out]; rfl, b1⟩
set_option maxRecDepth 100000 in
set_option maxHeartbeats 1000000 in
theorem ckBi_a10 (a b : Int) (h : ¬ a = 1) (w : World) : Calls Try.prog 46 #[.string ⟨#[45]⟩, .int .i64 a, .int .i64 b] w fun e w' => e = ckEnd (ckBi [45] a b) ∧ Below w.heap.size w w' := by
  have H : Hid (ckBi [45] a b = .error 41) := by unfold Hid ckBi; simp [h]
  have h2 : (a == 1) = false := beq_eq_false_iff_ne.2 h
  clear h
  go_enter Try.func46, Try.ntmps46
  go_wp2_with fail
  refine Calls.mono (ckMust_no _ _) ?_
  rintro e w1 ⟨rfl, b1⟩
  unfold ckPan
  go_wp2_with fail
  exact ⟨rfl, by rw [H.out]; rfl, b1⟩
set_option maxRecDepth 100000 in
set_option maxHeartbeats 1000000 in
theorem ckBi_a21 (w : World) : Calls Try.prog 46 #[.string ⟨#[42]⟩, .int .i64 1, .int .i64 1] w fun e w' => e = ckEnd (ckBi [42] 1 1) ∧ Below w.heap.size w w' := by
  have H : Hid (ckBi [42] 1 1 = .ok 1) := by rfl
  go_enter Try.func46, Try.ntmps46
  go_wp2_with fail
  refine Calls.mono (ckMust_yes _ _) ?_
  rintro e w1 ⟨rfl, rfl⟩
  go_wp2_with fail
  go_ret
  exact ⟨by rw [H.out]; rfl, by go_grown⟩
set_option maxRecDepth 100000 in
set_option maxHeartbeats 1000000 in
theorem ckBi_a22 (b : Int) (h : ¬ b = 1) (w : World) : Calls Try.prog 46 #[.string ⟨#[42]⟩, .int .i64 1, .int .i64 b] w fun e w' => e = ckEnd (ckBi [42] 1 b) ∧ Below w.heap.size w w' := by
  have H : Hid (ckBi [42] 1 b = .error 41) := by unfold Hid ckBi; simp [h]
  have h2 : (b == 1) = false := beq_eq_false_iff_ne.2 h
  clear h
  go_enter Try.func46, Try.ntmps46
  go_wp2_with fail
  refine Calls.mono (ckMust_no _ _) ?_
  rintro e w1 ⟨rfl, b1⟩
  unfold ckPan
  go_wp2_with fail
  exact ⟨rfl, by rw [H.out]; rfl, b1⟩
set_option maxRecDepth 100000 in
set_option maxHeartbeats 1000000 in
theorem ckBi_a20 (a b : Int) (h : ¬ a = 1) (w : World) : Calls Try.prog 46 #[.string ⟨#[42]⟩, .int .i64 a, .int .i64 b] w fun e w' => e = ckEnd (ckBi [42] a b) ∧ Below w.heap.size w w' := by
  have H : Hid (ckBi [42] a b = .error 41) := by unfold Hid ckBi; simp [h]
  have h2 : (a == 1) = false := beq_eq_false_iff_ne.2 h
  clear h
  go_enter Try.func46, Try.ntmps46
  go_wp2_with fail
  refine Calls.mono (ckMust_no _ _) ?_
  rintro e w1 ⟨rfl, b1⟩
  unfold ckPan
  go_wp2_with fail
  exact ⟨rfl, by rw [H.out]; rfl, b1⟩
set_option maxRecDepth 100000 in
set_option maxHeartbeats 1000000 in
theorem ckBi_a31 (w : World) : Calls Try.prog 46 #[.string ⟨#[47]⟩, .int .i64 1, .int .i64 1] w fun e w' => e = ckEnd (ckBi [47] 1 1) ∧ Below w.heap.size w w' := by
  have H : Hid (ckBi [47] 1 1 = .ok 1) := by rfl
  go_enter Try.func46, Try.ntmps46
  go_wp2_with fail
  refine Calls.mono (ckMust_yes _ _) ?_
  rintro e w1 ⟨rfl, rfl⟩
  go_wp2_with fail
  go_ret
  exact ⟨by rw [H.out]; rfl, by go_grown⟩
set_option maxRecDepth 100000 in
set_option maxHeartbeats 1000000 in
theorem ckBi_a32 (b : Int) (h : ¬ b = 1) (w : World) : Calls Try.prog 46 #[.string ⟨#[47]⟩, .int .i64 1, .int .i64 b] w fun e w' => e = ckEnd (ckBi [47] 1 b) ∧ Below w.heap.size w w' := by
  have H : Hid (ckBi [47] 1 b = .error 41) := by unfold Hid ckBi; simp [h]
  have h2 : (b == 1) = false := beq_eq_false_iff_ne.2 h
  clear h
  go_enter Try.func46, Try.ntmps46
  go_wp2_with fail
  refine Calls.mono (ckMust_no _ _) ?_
  rintro e w1 ⟨rfl, b1⟩
  unfold ckPan
  go_wp2_with fail
  exact ⟨rfl, by rw [H.out]; rfl, b1⟩
set_option maxRecDepth 100000 in
set_option maxHeartbeats 1000000 in
theorem ckBi_a30 (a b : Int) (h : ¬ a = 1) (w : World) : Calls Try.prog 46 #[.string ⟨#[47]⟩, .int .i64 a, .int .i64 b] w fun e w' => e = ckEnd (ckBi [47] a b) ∧ Below w.heap.size w w' := by
  have H : Hid (ckBi [47] a b = .error 41) := by unfold Hid ckBi; simp [h]
  have h2 : (a == 1) = false := beq_eq_false_iff_ne.2 h
  clear h
  go_enter Try.func46, Try.ntmps46
  go_wp2_with fail
  refine Calls.mono (ckMust_no _ _) ?_
  rintro e w1 ⟨rfl, b1⟩
  unfold ckPan
  go_wp2_with fail
  exact ⟨rfl, by rw [H.out]; rfl, b1⟩
set_option maxRecDepth 100000 in
set_option maxHeartbeats 1000000 in
theorem ckBi_a41 (w : World) : Calls Try.prog 46 #[.string ⟨#[37]⟩, .int .i64 1, .int .i64 1] w fun e w' => e = ckEnd (ckBi [37] 1 1) ∧ Below w.heap.size w w' := by
  have H : Hid (ckBi [37] 1 1 = .ok 1) := by rfl
  go_enter Try.func46, Try.ntmps46
  go_wp2_with fail
  refine Calls.mono (ckMust_yes _ _) ?_
  rintro e w1 ⟨rfl, rfl⟩
  go_wp2_with fail
  go_ret
  exact ⟨by rw [H.out]; rfl, by go_grown⟩
set_option maxRecDepth 100000 in
set_option maxHeartbeats 1000000 in
theorem ckBi_a42 (b : Int) (h : ¬ b = 1) (w : World) : Calls Try.prog 46 #[.string ⟨#[37]⟩, .int .i64 1, .int .i64 b] w fun e w' => e = ckEnd (ckBi [37] 1 b) ∧ Below w.heap.size w w' := by
  have H : Hid (ckBi [37] 1 b = .error 41) := by unfold Hid ckBi; simp [h]
  have h2 : (b == 1) = false := beq_eq_false_iff_ne.2 h
  clear h
  go_enter Try.func46, Try.ntmps46
  go_wp2_with fail
  refine Calls.mono (ckMust_no _ _) ?_
  rintro e w1 ⟨rfl, b1⟩
  unfold ckPan
  go_wp2_with fail
  exact ⟨rfl, by rw [H.out]; rfl, b1⟩
set_option maxRecDepth 100000 in
set_option maxHeartbeats 1000000 in
theorem ckBi_a40 (a b : Int) (h : ¬ a = 1) (w : World) : Calls Try.prog 46 #[.string ⟨#[37]⟩, .int .i64 a, .int .i64 b] w fun e w' => e = ckEnd (ckBi [37] a b) ∧ Below w.heap.size w w' := by
  have H : Hid (ckBi [37] a b = .error 41) := by unfold Hid ckBi; simp [h]
  have h2 : (a == 1) = false := beq_eq_false_iff_ne.2 h
  clear h
  go_enter Try.func46, Try.ntmps46
  go_wp2_with fail
  refine Calls.mono (ckMust_no _ _) ?_
  rintro e w1 ⟨rfl, b1⟩
  unfold ckPan
  go_wp2_with fail
  exact ⟨rfl, by rw [H.out]; rfl, b1⟩
set_option maxRecDepth 100000 in
set_option maxHeartbeats 1000000 in
theorem ckBi_b01 (w : World) : Calls Try.prog 46 #[.string ⟨#[60]⟩, .int .i64 1, .int .i64 1] w fun e w' => e = ckEnd (ckBi [60] 1 1) ∧ Below w.heap.size w w' := by
  have H : Hid (ckBi [60] 1 1 = .ok 2) := by rfl
  go_enter Try.func46, Try.ntmps46
  go_wp2_with fail
  refine Calls.mono (ckMust_yes _ _) ?_
  rintro e w1 ⟨rfl, rfl⟩
  go_wp2_with fail
  go_ret
  exact ⟨by rw [H.out]; rfl, by go_grown⟩
set_option maxRecDepth 100000 in
set_option maxHeartbeats 1000000 in
theorem ckBi_b02 (b : Int) (h : ¬ b = 1) (w : World) : Calls Try.prog 46 #[.string ⟨#[60]⟩, .int .i64 1, .int .i64 b] w fun e w' => e = ckEnd (ckBi [60] 1 b) ∧ Below w.heap.size w w' := by
  have H : Hid (ckBi [60] 1 b = .error 41) := by unfold Hid ckBi; simp [h]
  have h2 : (b == 1) = false := beq_eq_false_iff_ne.2 h
  clear h
  go_enter Try.func46, Try.ntmps46
  go_wp2_with fail
  refine Calls.mono (ckMust_no _ _) ?_
  rintro e w1 ⟨rfl, b1⟩
  unfold ckPan
  go_wp2_with fail
  exact ⟨rfl, by rw [H.out]; rfl, b1⟩
set_option maxRecDepth 100000 in
set_option maxHeartbeats 1000000 in
theorem ckBi_b00 (a b : Int) (h : ¬ a = 1) (w : World) : Calls Try.prog 46 #[.string ⟨#[60]⟩, .int .i64 a, .int .i64 b] w fun e w' => e = ckEnd (ckBi [60] a b) ∧ Below w.heap.size w w' := by
  have H : Hid (ckBi [60] a b = .error 41) := by unfold Hid ckBi; simp [h]
  have h2 : (a == 1) = false := beq_eq_false_iff_ne.2 h
  clear h
  go_enter Try.func46, Try.ntmps46
  go_wp2_with fail
  refine Calls.mono (ckMust_no _ _) ?_
  rintro e w1 ⟨rfl, b1⟩
  unfold ckPan
  go_wp2_with fail
  exact ⟨rfl, by rw [H.out]; rfl, b1⟩
set_option maxRecDepth 100000 in
set_option maxHeartbeats 1000000 in
theorem ckBi_b11 (w : World) : Calls Try.prog 46 #[.string ⟨#[60, 61]⟩, .int .i64 1, .int .i64 1] w fun e w' => e = ckEnd (ckBi [60, 61] 1 1) ∧ Below w.heap.size w w' := by
  have H : Hid (ckBi [60, 61] 1 1 = .ok 2) := by rfl
  go_enter Try.func46, Try.ntmps46
  go_wp2_with fail
  refine Calls.mono (ckMust_yes _ _) ?_
  rintro e w1 ⟨rfl, rfl⟩
  go_wp2_with fail
  go_ret
  exact ⟨by rw [H.out]; rfl, by go_grown⟩
set_option maxRecDepth 100000 in
set_option maxHeartbeats 1000000 in
theorem ckBi_b12 (b : Int) (h : ¬ b = 1) (w : World) : Calls Try.prog 46 #[.string ⟨#[60, 61]⟩, .int .i64 1, .int .i64 b] w fun e w' => e = ckEnd (ckBi [60, 61] 1 b) ∧ Below w.heap.size w w' := by
  have H : Hid (ckBi [60, 61] 1 b = .error 41) := by unfold Hid ckBi; simp [h]
  have h2 : (b == 1) = false := beq_eq_false_iff_ne.2 h
  clear h
  go_enter Try.func46, Try.ntmps46
  go_wp2_with fail
  refine Calls.mono (ckMust_no _ _) ?_
  rintro e w1 ⟨rfl, b1⟩
  unfold ckPan
  go_wp2_with fail
  exact ⟨rfl, by rw [H.out]; rfl, b1⟩
set_option maxRecDepth 100000 in
set_option maxHeartbeats 1000000 in
theorem ckBi_b10 (a b : Int) (h : ¬ a = 1) (w : World) : Calls Try.prog 46 #[.string ⟨#[60, 61]⟩, .int .i64 a, .int .i64 b] w fun e w' => e = ckEnd (ckBi [60, 61] a b) ∧ Below w.heap.size w w' := by
  have H : Hid (ckBi [60, 61] a b = .error 41) := by unfold Hid ckBi; simp [h]
  have h2 : (a == 1) = false := beq_eq_false_iff_ne.2 h
  clear h
  go_enter Try.func46, Try.ntmps46
  go_wp2_with fail
  refine Calls.mono (ckMust_no _ _) ?_
  rintro e w1 ⟨rfl, b1⟩
  unfold ckPan
  go_wp2_with fail
  exact ⟨rfl, by rw [H.out]; rfl, b1⟩
set_option maxRecDepth 100000 in
set_option maxHeartbeats 1000000 in
theorem ckBi_c01 (a : Int) (w : World) : Calls Try.prog 46 #[.string ⟨#[61, 61]⟩, .int .i64 a, .int .i64 a] w fun e w' => e = ckEnd (ckBi [61, 61] a a) ∧ Below w.heap.size w w' := by
  have H : Hid (ckBi [61, 61] a a = .ok 2) := by unfold Hid ckBi; simp
  have h2 : (a == a) = true := beq_self_eq_true a
  go_enter Try.func46, Try.ntmps46
  go_wp2_with fail
  refine Calls.mono (ckMust_yes _ _) ?_
  rintro e w1 ⟨rfl, rfl⟩
  go_wp2_with fail
  go_ret
  exact ⟨by rw [H.out]; rfl, by go_grown⟩
set_option maxRecDepth 100000 in
set_option maxHeartbeats 1000000 in
theorem ckBi_c00 (a b : Int) (h : ¬ a = b) (w : World) : Calls Try.prog 46 #[.string ⟨#[61, 61]⟩, .int .i64 a, .int .i64 b] w fun e w' => e = ckEnd (ckBi [61, 61] a b) ∧ Below w.heap.size w w' := by
  have H : Hid (ckBi [61, 61] a b = .error 41) := by unfold Hid ckBi; simp [h]
  have h2 : (a == b) = false := beq_eq_false_iff_ne.2 h
  clear h
  go_enter Try.func46, Try.ntmps46
  go_wp2_with fail
  refine Calls.mono (ckMust_no _ _) ?_
  rintro e w1 ⟨rfl, b1⟩
  unfold ckPan
  go_wp2_with fail
  exact ⟨rfl, by rw [H.out]; rfl, b1⟩
set_option maxRecDepth 100000 in
set_option maxHeartbeats 1000000 in
theorem ckBi_c11 (a : Int) (w : World) : Calls Try.prog 46 #[.string ⟨#[33, 61]⟩, .int .i64 a, .int .i64 a] w fun e w' => e = ckEnd (ckBi [33, 61] a a) ∧ Below w.heap.size w w' := by
  have H : Hid (ckBi [33, 61] a a = .ok 2) := by unfold Hid ckBi; simp
  have h2 : (a == a) = true := beq_self_eq_true a
  go_enter Try.func46, Try.ntmps46
  go_wp2_with fail
  refine Calls.mono (ckMust_yes _ _) ?_
  rintro e w1 ⟨rfl, rfl⟩
  go_wp2_with fail
  go_ret
  exact ⟨by rw [H.out]; rfl, by go_grown⟩
set_option maxRecDepth 100000 in
set_option maxHeartbeats 1000000 in
theorem ckBi_c10 (a b : Int) (h : ¬ a = b) (w : World) : Calls Try.prog 46 #[.string ⟨#[33, 61]⟩, .int .i64 a, .int .i64 b] w fun e w' => e = ckEnd (ckBi [33, 61] a b) ∧ Below w.heap.size w w' := by
  have H : Hid (ckBi [33, 61] a b = .error 41) := by unfold Hid ckBi; simp [h]
  have h2 : (a == b) = false := beq_eq_false_iff_ne.2 h
  clear h
  go_enter Try.func46, Try.ntmps46
  go_wp2_with fail
  refine Calls.mono (ckMust_no _ _) ?_
  rintro e w1 ⟨rfl, b1⟩
  unfold ckPan
  go_wp2_with fail
  exact ⟨rfl, by rw [H.out]; rfl, b1⟩
set_option maxRecDepth 100000 in
set_option maxHeartbeats 1000000 in
theorem ckBi_d01 (w : World) : Calls Try.prog 46 #[.string ⟨#[38, 38]⟩, .int .i64 2, .int .i64 2] w fun e w' => e = ckEnd (ckBi [38, 38] 2 2) ∧ Below w.heap.size w w' := by
  have H : Hid (ckBi [38, 38] 2 2 = .ok 2) := by rfl
  go_enter Try.func46, Try.ntmps46
  go_wp2_with fail
  refine Calls.mono (ckMust_yes _ _) ?_
  rintro e w1 ⟨rfl, rfl⟩
  go_wp2_with fail
  go_ret
  exact ⟨by rw [H.out]; rfl, by go_grown⟩
set_option maxRecDepth 100000 in
set_option maxHeartbeats 1000000 in
theorem ckBi_d02 (b : Int) (h : ¬ b = 2) (w : World) : Calls Try.prog 46 #[.string ⟨#[38, 38]⟩, .int .i64 2, .int .i64 b] w fun e w' => e = ckEnd (ckBi [38, 38] 2 b) ∧ Below w.heap.size w w' := by
  have H : Hid (ckBi [38, 38] 2 b = .error 41) := by unfold Hid ckBi; simp [h]
  have h2 : (b == 2) = false := beq_eq_false_iff_ne.2 h
  clear h
  go_enter Try.func46, Try.ntmps46
  go_wp2_with fail
  refine Calls.mono (ckMust_no _ _) ?_
  rintro e w1 ⟨rfl, b1⟩
  unfold ckPan
  go_wp2_with fail
  exact ⟨rfl, by rw [H.out]; rfl, b1⟩
set_option maxRecDepth 100000 in
set_option maxHeartbeats 1000000 in
theorem ckBi_d00 (a b : Int) (h : ¬ a = 2) (w : World) : Calls Try.prog 46 #[.string ⟨#[38, 38]⟩, .int .i64 a, .int .i64 b] w fun e w' => e = ckEnd (ckBi [38, 38] a b) ∧ Below w.heap.size w w' := by
  have H : Hid (ckBi [38, 38] a b = .error 41) := by unfold Hid ckBi; simp [h]
  have h2 : (a == 2) = false := beq_eq_false_iff_ne.2 h
  clear h
  go_enter Try.func46, Try.ntmps46
  go_wp2_with fail
  refine Calls.mono (ckMust_no _ _) ?_
  rintro e w1 ⟨rfl, b1⟩
  unfold ckPan
  go_wp2_with fail
  exact ⟨rfl, by rw [H.out]; rfl, b1⟩
set_option maxRecDepth 100000 in
set_option maxHeartbeats 1000000 in
theorem ckBi_d11 (w : World) : Calls Try.prog 46 #[.string ⟨#[124, 124]⟩, .int .i64 2, .int .i64 2] w fun e w' => e = ckEnd (ckBi [124, 124] 2 2) ∧ Below w.heap.size w w' := by
  have H : Hid (ckBi [124, 124] 2 2 = .ok 2) := by rfl
  go_enter Try.func46, Try.ntmps46
  go_wp2_with fail
  refine Calls.mono (ckMust_yes _ _) ?_
  rintro e w1 ⟨rfl, rfl⟩
  go_wp2_with fail
  go_ret
  exact ⟨by rw [H.out]; rfl, by go_grown⟩
set_option maxRecDepth 100000 in
set_option maxHeartbeats 1000000 in
theorem ckBi_d12 (b : Int) (h : ¬ b = 2) (w : World) : Calls Try.prog 46 #[.string ⟨#[124, 124]⟩, .int .i64 2, .int .i64 b] w fun e w' => e = ckEnd (ckBi [124, 124] 2 b) ∧ Below w.heap.size w w' := by
  have H : Hid (ckBi [124, 124] 2 b = .error 41) := by unfold Hid ckBi; simp [h]
  have h2 : (b == 2) = false := beq_eq_false_iff_ne.2 h
  clear h
  go_enter Try.func46, Try.ntmps46
  go_wp2_with fail
  refine Calls.mono (ckMust_no _ _) ?_
  rintro e w1 ⟨rfl, b1⟩
  unfold ckPan
  go_wp2_with fail
  exact ⟨rfl, by rw [H.out]; rfl, b1⟩
set_option maxRecDepth 100000 in
set_option maxHeartbeats 1000000 in
theorem ckBi_d10 (a b : Int) (h : ¬ a = 2) (w : World) : Calls Try.prog 46 #[.string ⟨#[124, 124]⟩, .int .i64 a, .int .i64 b] w fun e w' => e = ckEnd (ckBi [124, 124] a b) ∧ Below w.heap.size w w' := by
  have H : Hid (ckBi [124, 124] a b = .error 41) := by unfold Hid ckBi; simp [h]
  have h2 : (a == 2) = false := beq_eq_false_iff_ne.2 h
  clear h
  go_enter Try.func46, Try.ntmps46
  go_wp2_with fail
  refine Calls.mono (ckMust_no _ _) ?_
  rintro e w1 ⟨rfl, b1⟩
  unfold ckPan
  go_wp2_with fail
  exact ⟨rfl, by rw [H.out]; rfl, b1⟩
set_option maxRecDepth 100000 in
set_option maxHeartbeats 1000000 in
theorem ckBi_no (n : List UInt8) (a b : Int) (ha0 : ¬ n = [43]) (ha1 : ¬ n = [45]) (ha2 : ¬ n = [42]) (ha3 : ¬ n = [47]) (ha4 : ¬ n = [37]) (hb0 : ¬ n = [60]) (hb1 : ¬ n = [60, 61]) (hc0 : ¬ n = [61, 61]) (hc1 : ¬ n = [33, 61]) (hd0 : ¬ n = [38, 38]) (hd1 : ¬ n = [124, 124]) (w : World) : Calls Try.prog 46 #[.string ⟨n.toArray⟩, .int .i64 a, .int .i64 b] w fun e w' => e = ckEnd (ckBi n a b) ∧ Below w.heap.size w w' := by
  have H : Hid (ckBi n a b = .error 32) := by unfold Hid ckBi; simp [ha0, ha1, ha2, ha3, ha4, hb0, hb1, hc0, hc1, hd0, hd1]
  have ea0 := text_f ha0
  have ea1 := text_f ha1
  have ea2 := text_f ha2
  have ea3 := text_f ha3
  have ea4 := text_f ha4
  have eb0 := text_f hb0
  have eb1 := text_f hb1
  have ec0 := text_f hc0
  have ec1 := text_f hc1
  have ed0 := text_f hd0
  have ed1 := text_f hd1
  clear ha0 ha1 ha2 ha3 ha4 hb0 hb1 hc0 hc1 hd0 hd1
  go_enter Try.func46, Try.ntmps46
  go_wp2_with fail
  exact ⟨rfl, by rw [H.out]; rfl, Below.refl _ _⟩
theorem ckBi_any (n : List UInt8) (a b : Int) (w : World) : Calls Try.prog 46 #[.string ⟨n.toArray⟩, .int .i64 a, .int .i64 b] w fun e w' => e = ckEnd (ckBi n a b) ∧ Below w.heap.size w w' := by
  by_cases ha0 : n = [43]
  · subst ha0
    by_cases h : a = 1
    · subst h
      by_cases h' : b = 1
      · subst h'; exact ckBi_a01 w
      · exact ckBi_a02 b h' w
    · exact ckBi_a00 a b h w
  by_cases ha1 : n = [45]
  · subst ha1
    by_cases h : a = 1
    · subst h
      by_cases h' : b = 1
      · subst h'; exact ckBi_a11 w
      · exact ckBi_a12 b h' w
    · exact ckBi_a10 a b h w
  by_cases ha2 : n = [42]
  · subst ha2
    by_cases h : a = 1
    · subst h
      by_cases h' : b = 1
      · subst h'; exact ckBi_a21 w
      · exact ckBi_a22 b h' w
    · exact ckBi_a20 a b h w
  by_cases ha3 : n = [47]
  · subst ha3
    by_cases h : a = 1
    · subst h
      by_cases h' : b = 1
      · subst h'; exact ckBi_a31 w
      · exact ckBi_a32 b h' w
    · exact ckBi_a30 a b h w
  by_cases ha4 : n = [37]
  · subst ha4
    by_cases h : a = 1
    · subst h
      by_cases h' : b = 1
      · subst h'; exact ckBi_a41 w
      · exact ckBi_a42 b h' w
    · exact ckBi_a40 a b h w
  by_cases hb0 : n = [60]
  · subst hb0
    by_cases h : a = 1
    · subst h
      by_cases h' : b = 1
      · subst h'; exact ckBi_b01 w
      · exact ckBi_b02 b h' w
    · exact ckBi_b00 a b h w
  by_cases hb1 : n = [60, 61]
  · subst hb1
    by_cases h : a = 1
    · subst h
      by_cases h' : b = 1
      · subst h'; exact ckBi_b11 w
      · exact ckBi_b12 b h' w
    · exact ckBi_b10 a b h w
  by_cases hc0 : n = [61, 61]
  · subst hc0
    by_cases h : a = b
    · subst h; exact ckBi_c01 a w
    · exact ckBi_c00 a b h w
  by_cases hc1 : n = [33, 61]
  · subst hc1
    by_cases h : a = b
    · subst h; exact ckBi_c11 a w
    · exact ckBi_c10 a b h w
  by_cases hd0 : n = [38, 38]
  · subst hd0
    by_cases h : a = 2
    · subst h
      by_cases h' : b = 2
      · subst h'; exact ckBi_d01 w
      · exact ckBi_d02 b h' w
    · exact ckBi_d00 a b h w
  by_cases hd1 : n = [124, 124]
  · subst hd1
    by_cases h : a = 2
    · subst h
      by_cases h' : b = 2
      · subst h'; exact ckBi_d11 w
      · exact ckBi_d12 b h' w
    · exact ckBi_d10 a b h w
  exact ckBi_no n a b ha0 ha1 ha2 ha3 ha4 hb0 hb1 hc0 hc1 hd0 hd1 w
end Go.Proofs.Ytobiedmmjiedlaa
