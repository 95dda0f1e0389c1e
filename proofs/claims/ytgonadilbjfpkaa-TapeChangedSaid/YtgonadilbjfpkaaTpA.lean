/- Layer 13: the program's numbers and their bytes. -/
import Derived.Test.YtgonadilbjfpkaaTpM
namespace Go.Proofs.Ytgonadilbjfpkaa
open Go.RowKit
set_option linter.unusedVariables false

theorem retI {k : IntKind} {a b : Int} (h : a = b) : Ending.returned (.int k a) = .returned (.int k b) := by rw [h]
theorem signed_any (z : Nat) (hz : z < 18446744073709551616) (w : World) : Calls Try.prog 30 #[.int .u64 z] w fun e w' => e = .returned (.int .i64 (Tp.zag z)) ∧ w' = w := by
  by_cases h2 : (z : Int) % 2 = 1
  · have q : ((z : Int) % 2 == 1) = true := by simpa using h2
    have H2 : Hid ((z : Int) % 2 = 1) := h2
    clear h2
    go_enter Try.func30, Try.ntmps30
    go_wp2_with fail
    go_ret
    have h2 := H2.out
    refine ⟨retI ?_, rfl⟩
    rw [not_i64 _ (by omega) (by omega)]
    unfold Tp.zag
    split <;> omega
  · have q : ((z : Int) % 2 == 1) = false := by simpa using h2
    have H2 : Hid (¬ (z : Int) % 2 = 1) := h2
    clear h2
    go_enter Try.func30, Try.ntmps30
    go_wp2_with fail
    go_ret
    have h2 := H2.out
    refine ⟨retI ?_, rfl⟩
    unfold Tp.zag
    split <;> omega
theorem max_u64 : IntKind.u64.max = 18446744073709551615 := by decide
theorem unsigned_any (n : Int) (w : World) (h0 : -9223372036854775808 ≤ n) (h1 : n ≤ 9223372036854775807) : Calls Try.prog 54 #[.int .i64 n] w fun e w' => e = .returned (.int .u64 (Tp.zg n)) ∧ w' = w := by
  go_enter Try.func54, Try.ntmps54
  go_wp2_with fail
  · go_ret
    rename_i h2 _
    refine ⟨retI ?_, rfl⟩
    have e : IntKind.u64.wrap (IntKind.u64.wrap n * 2) = (((2 * n + 18446744073709551616).toNat : Nat) : Int) := by
      rw [IntKind.wrap_u64, IntKind.wrap_u64]
      omega
    rw [e, max_u64, not_u64 _ (by omega)]
    unfold Tp.zg
    split <;> omega
  · go_ret
    refine ⟨retI ?_, rfl⟩
    first | rw [IntKind.wrap_u64, IntKind.wrap_u64] | rw [IntKind.wrap_u64] | skip
    unfold Tp.zg
    split <;> omega
end Go.Proofs.Ytgonadilbjfpkaa
