/- VmDeep, plain: the runs, reckoned one by one (part 1). -/
import Derived.Test.YtodpdnidinnjjaaDoorTVmDp
namespace Go.Proofs.YtodpdnidinnjjaaDoor.Vm
set_option linter.unusedVariables false
theorem tq0 (G : Gh) : tst 0 G = true := by kernel_rfl
theorem tq1 (G : Gh) : tst 1 G = true := by kernel_rfl
theorem tq2 (G : Gh) : tst 2 G = true := by kernel_rfl
theorem tq3 (G : Gh) : tst 3 G = true := by kernel_rfl
theorem tq4 (G : Gh) : tst 4 G = true := by kernel_rfl
theorem tq5 (G : Gh) : tst 5 G = true := by kernel_rfl
theorem tq6 (G : Gh) : tst 6 G = true := by kernel_rfl
theorem tq7 (G : Gh) : tst 7 G = true := by kernel_rfl
theorem tq8 (G : Gh) : tst 8 G = true := by kernel_rfl
theorem tq9 (G : Gh) : tst 9 G = true := by kernel_rfl
theorem tq10 (G : Gh) : tst 10 G = true := by kernel_rfl
theorem tq11 (G : Gh) : tst 11 G = true := by kernel_rfl
theorem tq12 (G : Gh) : tst 12 G = true := by kernel_rfl
theorem tq13 (G : Gh) : tst 13 G = true := by kernel_rfl
theorem tq14 (G : Gh) : tst 14 G = true := by kernel_rfl
theorem tq15 (G : Gh) : tst 15 G = true := by kernel_rfl
theorem tq16 (G : Gh) : tst 16 G = true := by kernel_rfl
theorem tq17 (G : Gh) : tst 17 G = true := by kernel_rfl
theorem tq18 (G : Gh) : tst 18 G = true := by kernel_rfl
theorem tq19 (G : Gh) : tst 19 G = true := by kernel_rfl
theorem tq20 (G : Gh) : tst 20 G = true := by kernel_rfl
theorem tq21 (G : Gh) : tst 21 G = true := by kernel_rfl
theorem tq22 (G : Gh) : tst 22 G = true := by kernel_rfl
theorem tq23 (G : Gh) : tst 23 G = true := by kernel_rfl
theorem tq24 (G : Gh) : tst 24 G = true := by kernel_rfl
theorem tq25 (G : Gh) : tst 25 G = true := by kernel_rfl
theorem tq26 (G : Gh) : tst 26 G = true := by kernel_rfl
theorem tq27 (G : Gh) : tst 27 G = true := by kernel_rfl
theorem tq28 (G : Gh) : tst 28 G = true := by kernel_rfl
theorem tq29 (G : Gh) : tst 29 G = true := by kernel_rfl
theorem tq30 (G : Gh) : tst 30 G = true := by kernel_rfl
theorem tq31 (G : Gh) : tst 31 G = true := by kernel_rfl
theorem tq32 (G : Gh) : tst 32 G = true := by kernel_rfl
theorem tq33 (G : Gh) : tst 33 G = true := by kernel_rfl
theorem tq34 (G : Gh) : tst 34 G = true := by kernel_rfl
theorem tq35 (G : Gh) : tst 35 G = true := by kernel_rfl
theorem tq36 (G : Gh) : tst 36 G = true := by kernel_rfl
theorem tq37 (G : Gh) : tst 37 G = true := by kernel_rfl
theorem tq38 (G : Gh) : tst 38 G = true := by kernel_rfl
theorem tq39 (G : Gh) : tst 39 G = true := by kernel_rfl
theorem tq40 (G : Gh) : tst 40 G = true := by kernel_rfl
theorem tq41 (G : Gh) : tst 41 G = true := by kernel_rfl
theorem tq42 (G : Gh) : tst 42 G = true := by kernel_rfl
theorem tq43 (G : Gh) : tst 43 G = true := by kernel_rfl
theorem tq44 (G : Gh) : tst 44 G = true := by kernel_rfl
theorem tq45 (G : Gh) : tst 45 G = true := by kernel_rfl
theorem tq46 (G : Gh) : tst 46 G = true := by kernel_rfl
end Go.Proofs.YtodpdnidinnjjaaDoor.Vm
