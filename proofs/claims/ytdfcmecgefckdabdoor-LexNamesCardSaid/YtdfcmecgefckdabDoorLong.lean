/- The statements' own guard 'long': of any texts, whether their bytes and their number together are more than 3000. -/
import Derived.Test.YtdfcmecgefckdabDoorKnown
namespace Go.Proofs.YtdfcmecgefckdabDoor
open Go.RowKit

/-- Bytes and number of the first k texts. -/
def tot (xs : List ByteArray) (k : Nat) : Nat := ((xs.take k).map fun s => s.size + 1).sum
theorem tot_zero (xs : List ByteArray) : tot xs 0 = 0 := by simp [tot]
theorem tot_succ (xs : List ByteArray) (k : Nat) (h : k < xs.length) : tot xs (k + 1) = tot xs k + ((xs.getD k ByteArray.empty).size + 1) := by
  unfold tot
  rw [List.take_succ_eq_append_getElem h, List.map_append, List.sum_append]
  simp [List.getD, h]
theorem tot_mono (xs : List ByteArray) (k n : Nat) (h : k ≤ n) : tot xs k ≤ tot xs n := by
  induction n with
  | zero => have : k = 0 := by omega
            subst this; exact Nat.le_refl _
  | succ n ih =>
    by_cases e : k = n + 1
    · subst e; exact Nat.le_refl _
    · have h1 := ih (by omega)
      by_cases hn : n < xs.length
      · rw [tot_succ xs n hn]; omega
      · have : tot xs (n + 1) = tot xs n := by unfold tot; rw [List.take_of_length_le (by omega), List.take_of_length_le (by omega)]
        omega
/-- Are the texts more than the statements look at? -/
def longB (xs : List ByteArray) : Bool := decide (3000 < tot xs xs.length)

set_option maxRecDepth 100000 in
set_option maxHeartbeats 400000 in
theorem long_any (b o cap : Nat) (xs : List ByteArray) (w : World) (hlen : xs.length ≤ 140737488351232) (hsz : ∀ x ∈ xs, x.size ≤ 140737488351232)
    (hc : ∀ j, j < xs.length → w.cell? ⟨b, o + j, none⟩ = some (.string (xs.getD j ByteArray.empty))) :
    Calls Tryd.prog 15 #[.slice (some ⟨b, o, none⟩) xs.length cap] w fun e w' => e = .returned (.bool (longB xs)) ∧ w' = w := by
  have HC : Hid (∀ j, j < xs.length → w.cell? ⟨b, o + j, none⟩ = some (.string (xs.getD j ByteArray.empty))) := hc
  have HS : Hid (∀ x ∈ xs, x.size ≤ 140737488351232) := hsz
  clear hc hsz
  go_enter Tryd.func15, Tryd.ntmps15
  go_wp2
  go_loop [3, 4] (fun n i => ∃ k : Nat, k ≤ xs.length ∧ i = .int .i64 k ∧ n = .int .i64 (tot xs k) ∧ (tot xs k : Int) ≤ 140737488360000) (fun _ i => xs.length - (intOf i).toNat)
  case atStart => exact ⟨0, by omega, rfl, by rw [tot_zero]; rfl, by rw [tot_zero]; decide⟩
  case round =>
    obtain ⟨k, hk, rfl, rfl, hb⟩ := hrel
    by_cases hlt : k < xs.length
    · by_cases h3 : (tot xs k : Int) ≤ 3000
      · obtain ⟨s, hs⟩ : ∃ s, s = xs.getD k ByteArray.empty := ⟨_, rfl⟩
        have hcell : w.cell? ⟨b, o + k, none⟩ = some (.string s) := by rw [hs]; exact HC.out k hlt
        have hsb : (s.size : Int) ≤ 140737488351232 := by
          have : s ∈ xs := by rw [hs, List.getD_eq_getElem?_getD, List.getElem?_eq_getElem hlt]; exact List.getElem_mem hlt
          have := HS.out s this
          omega
        have HT : Hid (tot xs (k + 1) = tot xs k + (s.size + 1)) := by unfold Hid; rw [hs]; exact tot_succ xs k hlt
        clear hs
        go_wp2
        exact ⟨⟨k + 1, by omega, by go_num, congrArg (Value.int .i64) (by have := HT.out; omega), by have := HT.out; omega⟩, by simp [intOf]; omega⟩
      · have H : Hid (longB xs = true) := by
          have := tot_mono xs k xs.length hk
          unfold Hid longB
          exact decide_eq_true (by omega)
        have h3' : decide ((tot xs k : Int) ≤ 3000) = false := decide_eq_false h3
        go_wp2
        go_ret
        rw [H.out]
        exact ⟨by go_num, rfl⟩
    · obtain rfl : k = xs.length := by omega
      have H : Hid (longB xs = decide ((3000 : Int) < (tot xs xs.length : Int))) := by
        unfold Hid longB
        exact decide_eq_decide.2 (by omega)
      go_wp2
      go_ret
      rw [H.out]
      exact ⟨rfl, rfl⟩

/-- No text: not long, wherever the slice lies. -/
theorem long_none (a : Option Addr) (cap : Nat) (w : World) :
    Calls Tryd.prog 15 #[.slice a 0 cap] w fun e w' => e = .returned (.bool false) ∧ w' = w := by
  go_enter Tryd.func15, Tryd.ntmps15
  go_wp2
  refine wp_loop_rounds 1 ?_
  rw [rounds_succ]
  go_wp2
  go_ret
  exact ⟨rfl, rfl⟩

theorem long_one (s : ByteArray) (w : World) (hs : s.size ≤ 140737488351232) (t : TypeId) :
    Calls Tryd.prog 15 #[.slice (some ⟨w.heap.size, 0, none⟩) 1 1] (w.alloc (.cells #[.string s] t)) fun e w' => e = .returned (.bool (longB [s])) ∧ w' = w.alloc (.cells #[.string s] t) := by
  refine (long_any w.heap.size 0 1 [s] _ (by simp) (by simpa using hs) ?_).mono ?_
  · intro j hj
    match j, hj with
    | 0, _ => simp
  · rintro e w' ⟨rfl, rfl⟩
    exact ⟨rfl, rfl⟩
end Go.Proofs.YtdfcmecgefckdabDoor
