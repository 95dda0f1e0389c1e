/- Layer 15: many. -/
import Derived.Test.YthglhcabdadlpaaDoorAlQ
namespace Go.Proofs.YthglhcabdadlpaaDoor
open Go.RowKit
set_option linter.unusedVariables false
set_option linter.unusedSimpArgs false
set_option maxRecDepth 100000
set_option maxHeartbeats 2000000 in
theorem many_any15 (w : World) (a b : Option Addr) (n m ca cb : Nat) : Calls Tryd.prog 14 #[.slice a n ca, .slice b m cb] w fun e w' => e = .returned (.bool (decide (24 < n) || decide (24 < m))) ∧ w' = w := by
  by_cases c1 : 24 < n
  · have d1 : decide ((24 : Int) < (n : Int)) = true := decide_eq_true (by omega)
    rw [decide_eq_true c1, Bool.true_or]
    clear c1
    go_enter Tryd.func14, Tryd.ntmps14
    go_wp2_with fail
    go_ret
    exact ⟨rfl, rfl⟩
  · have d1 : decide ((24 : Int) < (n : Int)) = false := decide_eq_false (by omega)
    rw [decide_eq_false c1, Bool.false_or]
    clear c1
    by_cases c2 : 24 < m
    · have d2 : decide ((24 : Int) < (m : Int)) = true := decide_eq_true (by omega)
      rw [decide_eq_true c2]
      clear c2
      go_enter Tryd.func14, Tryd.ntmps14
      go_wp2_with fail
      go_ret
      exact ⟨rfl, rfl⟩
    · have d2 : decide ((24 : Int) < (m : Int)) = false := decide_eq_false (by omega)
      rw [decide_eq_false c2]
      clear c2
      go_enter Tryd.func14, Tryd.ntmps14
      go_wp2_with fail
      go_ret
      exact ⟨rfl, rfl⟩
end Go.Proofs.YthglhcabdadlpaaDoor
