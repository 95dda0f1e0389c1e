/- Layer 4: CheckCounts walked. -/
import Derived.Test.YtoclmklfohimmaaZCkCc
import Derived.Test.YtoclmklfohimmaaZCkCe
import Derived.Test.YtoclmklfohimmaaZCkCg
namespace Go.Proofs.Ytoclmklfohimmaa
open Go.RowKit

set_option maxRecDepth 100000 in
set_option maxHeartbeats 1000000 in
theorem cnAmong (a n : Int) (hn : 0 < n) (hn2 : n ≤ 1000000) : ∃ r : Nat, (r : Int) < n ∧ ∀ w, Calls Try.prog 17 #[.int .i64 a, .int .i64 n] w fun e w' => e = .returned (.int .i64 (r : Int)) ∧ w' = w := by
  have hb1 := Int.tmod_lt_of_pos a hn
  have hb2 := Int.lt_tmod_of_pos a hn
  generalize hq : a.tmod n = q at hb1 hb2
  by_cases h0 : 0 ≤ q
  · refine ⟨q.toNat, by omega, fun w => ?_⟩
    go_enter Try.func17, Try.ntmps17
    go_wp2
    go_ret
    exact ⟨by rw [Int.toNat_of_nonneg h0]; rfl, rfl⟩
  · obtain ⟨r, hr⟩ : ∃ r : Nat, q + n = (r : Int) := ⟨(q + n).toNat, by omega⟩
    refine ⟨r, by omega, fun w => ?_⟩
    have HR : Hid (q + n = (r : Int)) := hr
    clear hr
    go_enter Try.func17, Try.ntmps17
    go_wp2
    go_ret
    exact ⟨by rw [← HR.out]; rfl, rfl⟩
/-- CheckCounts at every input. -/
theorem counts_walk (n what : Int) (w : World) : Calls Try.prog 6 #[.int .i64 n, .int .i64 what] w fun e w' => e = .returned (.bool true) ∧ Below w.heap.size w w' := by
  obtain ⟨r, hr, ea⟩ := cnAmong n 70 (by decide) (by decide)
  obtain ⟨c, hc, eb⟩ := cnAmong what 4 (by decide) (by decide)
  have hr' : r < 70 := by omega
  match c, hc, eb with
  | 0, _, eb => exact cnCase0 n what r hr' ea eb w
  | 1, _, eb => exact cnCase1 n what r hr' ea eb w
  | 2, _, eb => exact cnCase2 n what r hr' ea eb w
  | 3, _, eb => exact cnCase3 n what r hr' ea eb w
  | c + 4, hc, _ => exact absurd hc (by omega)
end Go.Proofs.Ytoclmklfohimmaa
