/- VmDeep, plain: the runs, reckoned one by one (part 2). -/
import Derived.Test.YtodpdnidinnjjaaDoorTVmDp
namespace Go.Proofs.YtodpdnidinnjjaaDoor.Vm
set_option linter.unusedVariables false
theorem tq47 (G : Gh) : tst 47 G = true := by kernel_rfl
theorem tq48 (G : Gh) : tst 48 G = true := by kernel_rfl
theorem tq49 (G : Gh) : tst 49 G = true := by kernel_rfl
theorem tq50 (G : Gh) : tst 50 G = true := by kernel_rfl
theorem tq51 (G : Gh) : tst 51 G = true := by kernel_rfl
theorem tq52 (G : Gh) : tst 52 G = true := by kernel_rfl
theorem tq53 (G : Gh) : tst 53 G = true := by kernel_rfl
theorem tq54 (G : Gh) : tst 54 G = true := by kernel_rfl
theorem tq55 (G : Gh) : tst 55 G = true := by kernel_rfl
theorem tq56 (G : Gh) : tst 56 G = true := by kernel_rfl
theorem tq57 (G : Gh) : tst 57 G = true := by kernel_rfl
theorem tq58 (G : Gh) : tst 58 G = true := by kernel_rfl
theorem tq59 (G : Gh) : tst 59 G = true := by kernel_rfl
theorem tq60 (G : Gh) : tst 60 G = true := by kernel_rfl
theorem tq61 (G : Gh) : tst 61 G = true := by kernel_rfl
theorem tq62 (G : Gh) : tst 62 G = true := by kernel_rfl
theorem tq63 (G : Gh) : tst 63 G = true := by kernel_rfl
theorem tq64 (G : Gh) : tst 64 G = true := by kernel_rfl
theorem tq65 (G : Gh) : tst 65 G = true := by kernel_rfl
theorem tq66 (G : Gh) : tst 66 G = true := by kernel_rfl
theorem tq67 (G : Gh) : tst 67 G = true := by kernel_rfl
theorem tq68 (G : Gh) : tst 68 G = true := by kernel_rfl
theorem tq69 (G : Gh) : tst 69 G = true := by kernel_rfl
end Go.Proofs.YtodpdnidinnjjaaDoor.Vm
