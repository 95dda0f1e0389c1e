/- NumTextBack: for any integer of 64 bits and any text, the integer's text is read as it, and the text is no number's or is its number's text; and the fixed calls come out true. -/
import Derived.Test.YtdfcmecgefckdabDoorLong
import Derived.Test.YtdfcmecgefckdabDoorTextsPl
namespace Go.Proofs.YtdfcmecgefckdabDoor
open Go.RowKit

theorem parse_text (a : Int) (w : World) (h0 : -9223372036854775808 ≤ a) (h1 : a ≤ 9223372036854775807) :
    Calls Tryd.prog 16 #[.string ⟨(Lib.itoa a).toArray⟩] w fun e w' => e = .returned (.tuple #[.int .i64 a, .int .i64 0]) ∧ w' = w := by
  have hl := Pl.itoa_len a h0 h1
  refine (parse_any _ w (by simp only [ByteArray.size, List.size_toArray, maxLen]; omega)).mono ?_
  rintro e w' ⟨rfl, rfl⟩
  exact ⟨ret_pair (by rw [List.toList_toArray, Pl.parse_itoa a h0 h1]; rfl) (by rw [List.toList_toArray, Pl.parse_itoa a h0 h1]; rfl), rfl⟩
theorem parse_no (s : ByteArray) (w : World) (hs : s.size ≤ 140737488351232) (hp : Pl.parse s.data.toList = none) :
    Calls Tryd.prog 16 #[.string s] w fun e w' => e = .returned (.tuple #[.int .i64 0, .int .i64 10]) ∧ w' = w := by
  refine (parse_any s w (by unfold maxLen; omega)).mono ?_
  rintro e w' ⟨rfl, rfl⟩
  exact ⟨ret_pair (by rw [hp]; rfl) (by rw [hp]; rfl), rfl⟩
theorem parse_yes (s : ByteArray) (m : Int) (w : World) (hs : s.size ≤ 140737488351232) (hp : Pl.parse s.data.toList = some m) :
    Calls Tryd.prog 16 #[.string s] w fun e w' => e = .returned (.tuple #[.int .i64 m, .int .i64 0]) ∧ w' = w := by
  refine (parse_any s w (by unfold maxLen; omega)).mono ?_
  rintro e w' ⟨rfl, rfl⟩
  exact ⟨ret_pair (by rw [hp]; rfl) (by rw [hp]; rfl), rfl⟩
theorem text_back (s : ByteArray) (m : Int) (w : World) (ht : Tab w) (hp : Pl.parse s.data.toList = some m) :
    Calls Tryd.prog 17 #[.int .i64 m] w fun e w' => e = .returned (.string s) ∧ Below w.heap.size w w' := by
  refine (text_any m w ht (Pl.parse_bd hp).1 (Pl.parse_bd hp).2).mono ?_
  rintro e w' ⟨rfl, hb⟩
  rw [Pl.itoa_parse hp]
  exact ⟨rfl, hb⟩

set_option maxHeartbeats 400000 in
theorem textback_long (a : Int) (s : ByteArray) (w : World) (ht : Tab w) (hs : s.size ≤ 140737488351232) (hl : longB [s] = true) :
    Calls Tryd.prog 4 #[.int .i64 a, .string s] w fun e w' => e = .returned (.bool true) ∧ Below w.heap.size w w' := by
  have HT : Hid (Tab w) := ht
  clear ht
  go_enter Tryd.func4, Tryd.ntmps4
  go_wp2_with fail
  refine (long_one s w hs _).mono ?_
  rintro e w1 ⟨rfl, rfl⟩
  go_wp2_with fail
  have hb : Below w.heap.size w (w.alloc (.cells #[.string s] 9)) := (Below.refl _ _).alloc (Nat.le_refl _) _
  refine (known_any _ (HT.out.later hb (Nat.le_refl _))).mono ?_
  rintro e w4 ⟨rfl, b4⟩
  go_wp2
  go_ret
  exact ⟨rfl, hb.trans (b4.mono hb.size)⟩

set_option maxHeartbeats 400000 in
theorem textback_none (a : Int) (s : ByteArray) (w : World) (ht : Tab w) (hs : s.size ≤ 140737488351232) (hl : longB [s] = false) (h0 : -9223372036854775808 ≤ a) (h1 : a ≤ 9223372036854775807) (hp : Pl.parse s.data.toList = none) :
    Calls Tryd.prog 4 #[.int .i64 a, .string s] w fun e w' => e = .returned (.bool true) ∧ Below w.heap.size w w' := by
  have HT : Hid (Tab w) := ht
  have HP : Hid (Pl.parse s.data.toList = none) := hp
  clear ht hp
  have b0 : Below w.heap.size w (w.alloc (.cells #[.string s] 9)) := (Below.refl _ _).alloc (Nat.le_refl _) _
  go_enter Tryd.func4, Tryd.ntmps4
  go_wp2_with fail
  refine (long_one s w hs _).mono ?_
  rintro e w1 ⟨rfl, rfl⟩
  go_wp2_with fail
  refine (text_any a _ (HT.out.later b0 (Nat.le_refl _)) h0 h1).mono ?_
  rintro e w2 ⟨rfl, b2⟩
  go_wp2_with fail
  refine (parse_text a _ h0 h1).mono ?_
  rintro e w3 ⟨rfl, rfl⟩
  go_wp2_with fail
  refine (parse_no s _ hs HP.out).mono ?_
  rintro e w3 ⟨rfl, rfl⟩
  have hb := b0.trans (b2.mono b0.size)
  have hz := Nat.le_trans b0.size b2.size
  go_wp2_with fail
  refine (known_any _ (HT.out.later hb (Nat.le_refl _))).mono ?_
  rintro e w4 ⟨rfl, b4⟩
  go_wp2
  go_ret
  exact ⟨rfl, hb.trans (b4.mono hz)⟩

set_option maxHeartbeats 400000 in
theorem textback_some (a : Int) (s : ByteArray) (m : Int) (w : World) (ht : Tab w) (hs : s.size ≤ 140737488351232) (hl : longB [s] = false) (h0 : -9223372036854775808 ≤ a) (h1 : a ≤ 9223372036854775807) (hp : Pl.parse s.data.toList = some m) :
    Calls Tryd.prog 4 #[.int .i64 a, .string s] w fun e w' => e = .returned (.bool true) ∧ Below w.heap.size w w' := by
  have HT : Hid (Tab w) := ht
  have HP : Hid (Pl.parse s.data.toList = some m) := hp
  clear ht hp
  have b0 : Below w.heap.size w (w.alloc (.cells #[.string s] 9)) := (Below.refl _ _).alloc (Nat.le_refl _) _
  go_enter Tryd.func4, Tryd.ntmps4
  go_wp2_with fail
  refine (long_one s w hs _).mono ?_
  rintro e w1 ⟨rfl, rfl⟩
  go_wp2_with fail
  refine (text_any a _ (HT.out.later b0 (Nat.le_refl _)) h0 h1).mono ?_
  rintro e w2 ⟨rfl, b2⟩
  go_wp2_with fail
  refine (parse_text a _ h0 h1).mono ?_
  rintro e w3 ⟨rfl, rfl⟩
  go_wp2_with fail
  refine (parse_yes s m _ hs HP.out).mono ?_
  rintro e w3 ⟨rfl, rfl⟩
  have hb := b0.trans (b2.mono b0.size)
  have hz := Nat.le_trans b0.size b2.size
  clear b2
  go_wp2_with fail
  refine (text_back s m _ (HT.out.later hb (Nat.le_refl _)) HP.out).mono ?_
  rintro e w5 ⟨rfl, b5⟩
  have hb5 := hb.trans (b5.mono hz)
  have hz5 := Nat.le_trans hz b5.size
  clear b5 hb hz
  go_wp2_with fail
  refine (known_any _ (HT.out.later hb5 (Nat.le_refl _))).mono ?_
  rintro e w4 ⟨rfl, b4⟩
  go_wp2
  go_ret
  exact ⟨rfl, hb5.trans (b4.mono hz5)⟩

theorem textback_walk (a : Int) (s : ByteArray) (w : World) (ht : Tab w) (wa : (Lit.int .i64 a).wf = true) (hs : s.size ≤ 140737488351232) :
    Calls Tryd.prog 4 #[.int .i64 a, .string s] w fun e w' => e = .returned (.bool true) ∧ Below w.heap.size w w' := by
  cases hl : longB [s] with
  | true => exact textback_long a s w ht hs hl
  | false =>
    cases hp : Pl.parse s.data.toList with
    | none => exact textback_none a s w ht hs hl (Pl.bd_of_wf wa).1 (Pl.bd_of_wf wa).2 hp
    | some m => exact textback_some a s m w ht hs hl (Pl.bd_of_wf wa).1 (Pl.bd_of_wf wa).2 hp
end Go.Proofs.YtdfcmecgefckdabDoor
