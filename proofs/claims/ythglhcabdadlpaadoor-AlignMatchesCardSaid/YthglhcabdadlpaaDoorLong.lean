/- The statements' own guard 'long': of any texts, whether their bytes and their number together are more than 3000. -/
import Derived.Test.YthglhcabdadlpaaDoorKnown
namespace Go.Proofs.YthglhcabdadlpaaDoor
open Go.RowKit

/-- Bytes and number of the first k texts. -/
def tot (xs : List ByteArray) (k : Nat) : Nat := ((xs.take k).map fun s => s.size + 1).sum
theorem tot_zero (xs : List ByteArray) : tot xs 0 = 0 := by simp [tot]
theorem tot_succ (xs : List ByteArray) (k : Nat) (h : k < xs.length) : tot xs (k + 1) = tot xs k + ((xs.getD k ByteArray.empty).size + 1) := by
  unfold tot
  rw [List.take_succ_eq_append_getElem h, List.map_append, List.sum_append]
  simp [List.getD, h]
theorem tot_mono (xs : List ByteArray) (k n : Nat) (h : k ≤ n) : tot xs k ≤ tot xs n := by
  induction n with
  | zero => have : k = 0 := by omega
            subst this; exact Nat.le_refl _
  | succ n ih =>
    by_cases e : k = n + 1
    · subst e; exact Nat.le_refl _
    · have h1 := ih (by omega)
      by_cases hn : n < xs.length
      · rw [tot_succ xs n hn]; omega
      · have : tot xs (n + 1) = tot xs n := by unfold tot; rw [List.take_of_length_le (by omega), List.take_of_length_le (by omega)]
        omega
/-- Are the texts more than the statements look at? -/
def longB (xs : List ByteArray) : Bool := decide (3000 < tot xs xs.length)

end Go.Proofs.YthglhcabdadlpaaDoor
