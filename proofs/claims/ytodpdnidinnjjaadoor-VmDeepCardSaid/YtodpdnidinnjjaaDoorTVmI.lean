/- Layer 9: readNumber; what two numbers leave; join. -/
import Derived.Test.YtodpdnidinnjjaaDoorTVmH
import Derived.Test.YtodpdnidinnjjaaDoorTGrN
namespace Go.Proofs.YtodpdnidinnjjaaDoor
open Go.RowKit
set_option linter.unusedVariables false
set_option linter.unusedSimpArgs false

theorem vmTruth (b : Bool) (w : World) : Calls Tryd.prog 60 #[.bool b] w fun e w' => e = .returned (.int .i64 (if b then 1 else 0)) ∧ w' = w := by
  cases b <;> (go_enter Tryd.func60, Tryd.ntmps60; go_wp2_with fail; go_ret; exact ⟨rfl, rfl⟩)
theorem vmAdd (a b : Int) (w : World) : Calls Tryd.prog 86 #[.int .i64 a, .int .i64 b] w fun e w' => e = .returned (.int .i64 (wrap64 (a + b))) ∧ w' = w := by
  go_enter Tryd.func86, Tryd.ntmps86
  go_wp2
  go_ret
  exact ⟨rfl, rfl⟩
theorem vmSub (a b : Int) (w : World) : Calls Tryd.prog 87 #[.int .i64 a, .int .i64 b] w fun e w' => e = .returned (.int .i64 (wrap64 (a - b))) ∧ w' = w := by
  go_enter Tryd.func87, Tryd.ntmps87
  go_wp2
  go_ret
  exact ⟨rfl, rfl⟩
theorem vmMul (a b : Int) (w : World) : Calls Tryd.prog 88 #[.int .i64 a, .int .i64 b] w fun e w' => e = .returned (.int .i64 (wrap64 (a * b))) ∧ w' = w := by
  go_enter Tryd.func88, Tryd.ntmps88
  go_wp2
  go_ret
  exact ⟨rfl, rfl⟩
theorem vmNeg (a : Int) (w : World) : Calls Tryd.prog 61 #[.int .i64 a] w fun e w' => e = .returned (.int .i64 (wrap64 (-a))) ∧ w' = w := by
  go_enter Tryd.func61, Tryd.ntmps61
  go_wp2
  go_ret
  exact ⟨rfl, rfl⟩
namespace Vm
def tr (b : Bool) : Int := if b then 1 else 0
/-- What an operation leaves of two numbers; none: a division by 0. -/
def bt (op a b : Int) : Option Int :=
  if op = 7 then some (wrap64 (a + b)) else if op = 8 then some (wrap64 (a - b)) else if op = 9 then some (wrap64 (a * b))
  else if op = 10 then (if b = 0 then none else some (Pl.quot a b)) else if op = 11 then (if b = 0 then none else some (Pl.rest a b))
  else if op = 12 then some (tr (decide (a < b))) else if op = 13 then some (tr (decide (a ≤ b))) else some (tr (a == b))
def btE (r : Option Int) : Value := match r with | some v => .tuple #[.int .i64 v, .int .i64 0] | none => .tuple #[.int .i64 0, .int .i64 11]
end Vm
set_option maxRecDepth 100000 in
set_option maxHeartbeats 4000000 in
theorem vmBt7 (a b : Int) (w : World) : Calls Tryd.prog 72 #[.int .i64 7, .int .i64 a, .int .i64 b] w fun e w' => e = .returned (Vm.btE (some (wrap64 (a + b)))) ∧ w' = w := by
  have E : Hid _ := vmAdd a b w
  go_enter Tryd.func72, Tryd.ntmps72
  go_wp2_with fail
  refine Calls.mono E.out ?_
  rintro e1 w1 ⟨rfl, rfl⟩
  go_wp2_with fail
  go_ret2
  exact ⟨rfl, rfl⟩
set_option maxRecDepth 100000 in
set_option maxHeartbeats 4000000 in
theorem vmBt8 (a b : Int) (w : World) : Calls Tryd.prog 72 #[.int .i64 8, .int .i64 a, .int .i64 b] w fun e w' => e = .returned (Vm.btE (some (wrap64 (a - b)))) ∧ w' = w := by
  have E : Hid _ := vmSub a b w
  go_enter Tryd.func72, Tryd.ntmps72
  go_wp2_with fail
  refine Calls.mono E.out ?_
  rintro e1 w1 ⟨rfl, rfl⟩
  go_wp2_with fail
  go_ret2
  exact ⟨rfl, rfl⟩
set_option maxRecDepth 100000 in
set_option maxHeartbeats 4000000 in
theorem vmBt9 (a b : Int) (w : World) : Calls Tryd.prog 72 #[.int .i64 9, .int .i64 a, .int .i64 b] w fun e w' => e = .returned (Vm.btE (some (wrap64 (a * b)))) ∧ w' = w := by
  have E : Hid _ := vmMul a b w
  go_enter Tryd.func72, Tryd.ntmps72
  go_wp2_with fail
  refine Calls.mono E.out ?_
  rintro e1 w1 ⟨rfl, rfl⟩
  go_wp2_with fail
  go_ret2
  exact ⟨rfl, rfl⟩
set_option maxRecDepth 100000 in
set_option maxHeartbeats 4000000 in
theorem vmBt10 (a b : Int) (w : World) : Calls Tryd.prog 72 #[.int .i64 10, .int .i64 a, .int .i64 b] w fun e w' => e = .returned (Vm.btE (if b = 0 then none else some (Pl.quot a b))) ∧ w' = w := by
  by_cases h : b = 0
  · subst h
    rw [if_pos rfl]
    have E : Hid _ := div_zero a w
    go_enter Tryd.func72, Tryd.ntmps72
    go_wp2_with fail
    refine Calls.mono E.out ?_
    rintro e1 w1 ⟨rfl, rfl⟩
    go_wp2_with fail
    go_ret2
    exact ⟨rfl, rfl⟩
  · rw [if_neg h]
    have E : Hid _ := div_some a b w (beq_eq_false_iff_ne.2 h) h
    go_enter Tryd.func72, Tryd.ntmps72
    go_wp2_with fail
    refine Calls.mono E.out ?_
    rintro e1 w1 ⟨rfl, rfl⟩
    go_wp2_with fail
    go_ret2
    exact ⟨rfl, rfl⟩
set_option maxRecDepth 100000 in
set_option maxHeartbeats 4000000 in
theorem vmBt11 (a b : Int) (w : World) : Calls Tryd.prog 72 #[.int .i64 11, .int .i64 a, .int .i64 b] w fun e w' => e = .returned (Vm.btE (if b = 0 then none else some (Pl.rest a b))) ∧ w' = w := by
  by_cases h : b = 0
  · subst h
    rw [if_pos rfl]
    have E : Hid _ := mod_zero a w
    go_enter Tryd.func72, Tryd.ntmps72
    go_wp2_with fail
    refine Calls.mono E.out ?_
    rintro e1 w1 ⟨rfl, rfl⟩
    go_wp2_with fail
    go_ret2
    exact ⟨rfl, rfl⟩
  · rw [if_neg h]
    have E : Hid _ := mod_some a b w (beq_eq_false_iff_ne.2 h) h
    go_enter Tryd.func72, Tryd.ntmps72
    go_wp2_with fail
    refine Calls.mono E.out ?_
    rintro e1 w1 ⟨rfl, rfl⟩
    go_wp2_with fail
    go_ret2
    exact ⟨rfl, rfl⟩
set_option maxRecDepth 100000 in
set_option maxHeartbeats 4000000 in
theorem vmBt12 (a b : Int) (w : World) : Calls Tryd.prog 72 #[.int .i64 12, .int .i64 a, .int .i64 b] w fun e w' => e = .returned (Vm.btE (some (Vm.tr (decide (a < b))))) ∧ w' = w := by
  by_cases h : a < b
  · have d : decide (a < b) = true := decide_eq_true h
    rw [d]
    have E : Hid _ := vmTruth true w
    go_enter Tryd.func72, Tryd.ntmps72
    go_wp2_with fail
    refine Calls.mono E.out ?_
    rintro e1 w1 ⟨rfl, rfl⟩
    go_wp2_with fail
    go_ret2
    exact ⟨rfl, rfl⟩
  · have d : decide (a < b) = false := decide_eq_false h
    rw [d]
    have E : Hid _ := vmTruth false w
    go_enter Tryd.func72, Tryd.ntmps72
    go_wp2_with fail
    refine Calls.mono E.out ?_
    rintro e1 w1 ⟨rfl, rfl⟩
    go_wp2_with fail
    go_ret2
    exact ⟨rfl, rfl⟩
set_option maxRecDepth 100000 in
set_option maxHeartbeats 4000000 in
theorem vmBt13 (a b : Int) (w : World) : Calls Tryd.prog 72 #[.int .i64 13, .int .i64 a, .int .i64 b] w fun e w' => e = .returned (Vm.btE (some (Vm.tr (decide (a ≤ b))))) ∧ w' = w := by
  by_cases h : a ≤ b
  · have d : decide (a ≤ b) = true := decide_eq_true h
    rw [d]
    have E : Hid _ := vmTruth true w
    go_enter Tryd.func72, Tryd.ntmps72
    go_wp2_with fail
    refine Calls.mono E.out ?_
    rintro e1 w1 ⟨rfl, rfl⟩
    go_wp2_with fail
    go_ret2
    exact ⟨rfl, rfl⟩
  · have d : decide (a ≤ b) = false := decide_eq_false h
    rw [d]
    have E : Hid _ := vmTruth false w
    go_enter Tryd.func72, Tryd.ntmps72
    go_wp2_with fail
    refine Calls.mono E.out ?_
    rintro e1 w1 ⟨rfl, rfl⟩
    go_wp2_with fail
    go_ret2
    exact ⟨rfl, rfl⟩
set_option maxRecDepth 100000 in
set_option maxHeartbeats 4000000 in
theorem vmBt14 (a b : Int) (w : World) : Calls Tryd.prog 72 #[.int .i64 14, .int .i64 a, .int .i64 b] w fun e w' => e = .returned (Vm.btE (some (Vm.tr (a == b)))) ∧ w' = w := by
  by_cases h : a = b
  · have d : (a == b) = true := by rw [h]; exact beq_self_eq_true _
    rw [d]
    have E : Hid _ := vmTruth true w
    clear h
    go_enter Tryd.func72, Tryd.ntmps72
    go_wp2_with fail
    refine Calls.mono E.out ?_
    rintro e1 w1 ⟨rfl, rfl⟩
    go_wp2_with fail
    go_ret2
    exact ⟨rfl, rfl⟩
  · have d : (a == b) = false := beq_eq_false_iff_ne.2 h
    rw [d]
    have E : Hid _ := vmTruth false w
    clear h
    go_enter Tryd.func72, Tryd.ntmps72
    go_wp2_with fail
    refine Calls.mono E.out ?_
    rintro e1 w1 ⟨rfl, rfl⟩
    go_wp2_with fail
    go_ret2
    exact ⟨rfl, rfl⟩
theorem vmBt (op a b : Int) (h1 : 7 ≤ op) (h2 : op ≤ 14) (w : World) : Calls Tryd.prog 72 #[.int .i64 op, .int .i64 a, .int .i64 b] w fun e w' => e = .returned (Vm.btE (Vm.bt op a b)) ∧ w' = w := by
  rcases (by omega : op = 7 ∨ op = 8 ∨ op = 9 ∨ op = 10 ∨ op = 11 ∨ op = 12 ∨ op = 13 ∨ op = 14) with rfl | rfl | rfl | rfl | rfl | rfl | rfl | rfl
  · exact vmBt7 a b w
  · exact vmBt8 a b w
  · exact vmBt9 a b w
  · exact vmBt10 a b w
  · exact vmBt11 a b w
  · exact vmBt12 a b w
  · exact vmBt13 a b w
  · exact vmBt14 a b w
/-- What joining two numbers does. -/
def Vm.jn (M : Vm.Mc) (op a b : Int) : Vm.Mc := match Vm.bt op a b with | some v => { M with stack := M.stack ++ [v] } | none => { M with events := M.events ++ [(4, 1)], run := false }
set_option maxRecDepth 100000 in
set_option maxHeartbeats 4000000 in
theorem vmJoin (m : Nat) (w : World) (V : VmV) (M : Vm.Mc) (op a b : Int) (h1 : 7 ≤ op) (h2 : op ≤ 14) (h : VmS m w V M) (hs : M.stack.length ≤ 1000000) (he : M.events.length ≤ 1000000000) : Calls Tryd.prog 62 #[.pointer (some ⟨m, 0, none⟩), .int .i64 op, .int .i64 a, .int .i64 b] w fun e w' => e = .returned (.tuple #[]) ∧ VmQ m w w' (Vm.jn M op a b) := by
  have EB : Hid _ := vmBt op a b h1 h2 w
  have ET : Hid _ := vmTrap m w V M 1 h he
  have EP : Hid (∀ v, _) := fun v => vmPush m w V M v h hs
  have EJ : Hid (Vm.jn M op a b = match Vm.bt op a b with | some v => { M with stack := M.stack ++ [v] } | none => { M with events := M.events ++ [(4, 1)], run := false }) := rfl
  clear h
  cases hr : Vm.bt op a b with
  | none =>
    rw [hr] at EB EJ
    have EJ2 : Hid (Vm.jn M op a b = { M with events := M.events ++ [(4, 1)], run := false }) := EJ.out
    rw [EJ2.out]
    unfold Vm.btE at EB
    clear hr EJ EJ2
    go_enter Tryd.func62, Tryd.ntmps62
    go_wp2_with fail
    refine Calls.mono EB.out ?_
    rintro e1 w1 ⟨rfl, rfl⟩
    go_wp2_with fail
    refine Calls.mono ET.out ?_
    rintro e2 w2 ⟨rfl, Q2⟩
    have FIN : Hid _ := Q2
    clear Q2 ET EB EP
    go_wp2_with fail
    first
      | (go_end0; exact ⟨rfl, FIN.out⟩)
      | (refine bodyPost_ret (v := .tuple #[]) (by simp [results, Tryd.results62, go_sem]) rfl ?_; exact ⟨rfl, FIN.out⟩)
  | some v =>
    rw [hr] at EB EJ
    have EJ2 : Hid (Vm.jn M op a b = { M with stack := M.stack ++ [v] }) := EJ.out
    rw [EJ2.out]
    unfold Vm.btE at EB
    clear hr EJ EJ2
    go_enter Tryd.func62, Tryd.ntmps62
    go_wp2_with fail
    refine Calls.mono EB.out ?_
    rintro e1 w1 ⟨rfl, rfl⟩
    go_wp2_with fail
    refine Calls.mono (EP.out v) ?_
    rintro e2 w2 ⟨rfl, Q2⟩
    have FIN : Hid _ := Q2
    clear Q2 ET EB EP
    go_wp2_with fail
    first
      | (go_end0; exact ⟨rfl, FIN.out⟩)
      | (refine bodyPost_ret (v := .tuple #[]) (by simp [results, Tryd.results62, go_sem]) rfl ?_; exact ⟨rfl, FIN.out⟩)
end Go.Proofs.YtodpdnidinnjjaaDoor
