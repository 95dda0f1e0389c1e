/- Pieces of three. -/
import Derived.Test.YtlhklpnkelcnbaaGreatDoorSyoJ
namespace Go.Proofs.YtlhklpnkelcnbaaGreatDoor
open Go.RowKit

theorem ck_ext {f : Nat → Bool} {k : Nat} (h : ∀ n, n < k → f n = true) (p : (List.range' k 3).all f = true) : ∀ n, n < k + 3 → f n = true := by
  intro n hn
  by_cases c : n < k
  · exact h n c
  · exact List.all_eq_true.1 p n (by rw [List.mem_range'_1]; omega)
end Go.Proofs.YtlhklpnkelcnbaaGreatDoor
