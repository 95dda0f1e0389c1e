/- num's words of any text of at most 3000 bytes; what is asked of an argument that is a slice of texts. -/
import Derived.Test.YtdllgbhdodjdbaaDoorStrs
namespace Go.Proofs.YtdllgbhdodjdbaaDoor
open Go.RowKit

/-- The library's own variable holds some number. -/
def Mx (w : World) : Prop := ∃ m : Int, w.cell? ⟨4, 0, none⟩ = some (.int .i64 m)
theorem Mx.lt {w : World} (h : Mx w) : 4 < w.heap.size := by obtain ⟨m, hm⟩ := h; exact World.block_lt_of_cell? w _ hm
theorem Mx.later {w w' : World} (h : Mx w) (hb : Below w.heap.size w w') : Mx w' := by
  have hl := h.lt
  obtain ⟨m, hm⟩ := h
  exact ⟨m, (hb.cell (p := ⟨4, 0, none⟩) hl).trans hm⟩

theorem splitB_len (s : ByteArray) : (Lib.splitB ⟨#[32]⟩ 0 (Lib.countB s ⟨#[32]⟩) s).length = Lib.countB s ⟨#[32]⟩ + 1 ∧ (Lib.splitB ⟨#[32]⟩ 0 (Lib.countB s ⟨#[32]⟩) s).map (·.data.toList) = Pl.ws s.data.toList := by
  have h := Lib.splitB_data ⟨#[32]⟩ 0 (Lib.countB s ⟨#[32]⟩) s
  have h2 : Lib.splitK [32] 0 (Lib.count s.data.toList [32]) s.data.toList = Pl.ws s.data.toList := Pl.split_ws s.data.toList
  have h3 : (Lib.splitB ⟨#[32]⟩ 0 (Lib.countB s ⟨#[32]⟩) s).map (·.data.toList) = Pl.ws s.data.toList := h.trans h2
  refine ⟨?_, h3⟩
  have := congrArg List.length h3
  rw [List.length_map] at this
  rw [this]
  exact (Pl.count_ws s.data.toList).symm

theorem cells_new (w : World) (xs : List ByteArray) (t : TypeId) : Sa (w.alloc (.cells (xs.map Value.string).toArray t)) w.heap.size 0 xs := by
  refine ⟨by simp, fun j hj => ?_⟩
  rw [World.cell?_alloc_at _ _ _ _ rfl]
  simp [hj]

set_option maxHeartbeats 400000 in
theorem words_some (s : ByteArray) (w : World) (hs : s.size ≤ 3000) (h0 : 0 < s.size) (hm : Mx w) :
    Calls Tryd.prog 63 #[.string s] w fun e w' => ∃ (b : Nat) (xs : List ByteArray), e = .returned (.slice (some ⟨b, 0, none⟩) xs.length xs.length) ∧ Sa w' b 0 xs ∧ xs.map (·.data.toList) = Pl.ws s.data.toList ∧ Below w.heap.size w w' := by
  have hne : ¬ s.toList = [] := by
    rw [ByteArray.toList_eq, ← List.length_eq_zero_iff, Array.length_toList, ByteArray.size_data]; omega
  have hem : s.toList.isEmpty = false := by simpa using hne
  obtain ⟨m, hm⟩ := hm
  have HM : Hid (w.cell? ⟨4, 0, none⟩ = some (.int .i64 m)) := hm
  have HB : Hid _ := splitB_len s
  clear hm
  go_enter Tryd.func63, Tryd.ntmps63
  go_wp2_with fail
  refine (Tryd.strings_Split s ⟨#[32]⟩ m w (by omega) HM.out (by decide)).mono ?_
  rintro e w1 ⟨rfl, rfl⟩
  rw [← HB.out.1]
  go_wp2
  go_ret
  exact ⟨w.heap.size, _, rfl, cells_new w _ _, HB.out.2, (Below.refl _ _).alloc (Nat.le_refl _) _⟩
set_option maxHeartbeats 400000 in
theorem words_none (s : ByteArray) (w : World) (h0 : s.size = 0) : Calls Tryd.prog 63 #[.string s] w fun e w' => e = .returned (.slice none 0 0) ∧ w' = w := by
  have hne : s.toList = [] := by
    rw [ByteArray.toList_eq, ← List.length_eq_zero_iff, Array.length_toList, ByteArray.size_data]; exact h0
  have hem : s.toList.isEmpty = true := by rw [hne]; rfl
  clear hne
  go_enter Tryd.func63, Tryd.ntmps63
  go_wp2
  go_ret
  exact ⟨rfl, rfl⟩

theorem tot_of_long {xs : List ByteArray} (h : longB xs = false) : tot xs xs.length ≤ 3000 := by
  have := of_decide_eq_false h
  omega
theorem len_le_tot (xs : List ByteArray) : ∀ k, k ≤ xs.length → k ≤ tot xs k
  | 0, _ => Nat.zero_le _
  | k + 1, h => by
    have := len_le_tot xs k (by omega)
    rw [tot_succ xs k (by omega)]
    omega
theorem short_size {s : ByteArray} (h : longB [s] = false) : s.size ≤ 3000 := by
  have := tot_of_long h
  simp [tot] at this
  omega
end Go.Proofs.YtdllgbhdodjdbaaDoor
