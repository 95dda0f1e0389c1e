/- NumTexts: for any integer of 64 bits and any text, num's text of the one and reading of the other are the reference's; and the fixed calls come out true. -/
import Derived.Test.YtdfcmecgefckdaaDoorRParse
namespace Go.Proofs.YtdfcmecgefckdaaDoor
open Go.RowKit

set_option maxHeartbeats 400000 in
theorem texts_long (a : Int) (s : ByteArray) (w : World) (ht : Tab w) (hs : s.size ≤ 140737488351232) (hl : longB [s] = true) :
    Calls Tryd.prog 6 #[.int .i64 a, .string s] w fun e w' => e = .returned (.bool true) ∧ Below w.heap.size w w' := by
  have HT : Hid (Tab w) := ht
  clear ht
  go_enter Tryd.func6, Tryd.ntmps6
  go_wp2_with fail
  refine (long_one s w hs _).mono ?_
  rintro e w1 ⟨rfl, rfl⟩
  go_wp2_with fail
  have hb : Below w.heap.size w (w.alloc (.cells #[.string s] 9)) := (Below.refl _ _).alloc (Nat.le_refl _) _
  refine (known_any _ (HT.out.later hb (Nat.le_refl _))).mono ?_
  rintro e w4 ⟨rfl, b4⟩
  go_wp2
  go_ret
  exact ⟨rfl, hb.trans (b4.mono hb.size)⟩

set_option maxHeartbeats 400000 in
theorem texts_short (a : Int) (s : ByteArray) (w : World) (ht : Tab w) (hs : s.size ≤ 140737488351232) (hl : longB [s] = false) (h0 : -9223372036854775808 ≤ a) (h1 : a ≤ 9223372036854775807) :
    Calls Tryd.prog 6 #[.int .i64 a, .string s] w fun e w' => e = .returned (.bool true) ∧ Below w.heap.size w w' := by
  have HT : Hid (Tab w) := ht
  clear ht
  have b0 : Below w.heap.size w (w.alloc (.cells #[.string s] 9)) := (Below.refl _ _).alloc (Nat.le_refl _) _
  go_enter Tryd.func6, Tryd.ntmps6
  go_wp2_with fail
  refine (long_one s w hs _).mono ?_
  rintro e w1 ⟨rfl, rfl⟩
  go_wp2_with fail
  refine (parse_any s _ (by unfold maxLen; omega)).mono ?_
  rintro e w1 ⟨rfl, rfl⟩
  go_wp2_with fail
  refine (rparse_any s _ hs).mono ?_
  rintro e w2 ⟨rfl, b2⟩
  have hb2 := b0.trans (b2.mono b0.size)
  have hz2 := Nat.le_trans b0.size b2.size
  clear b2
  go_wp2_with fail
  refine (text_any a _ (HT.out.later hb2 (Nat.le_refl _)) h0 h1).mono ?_
  rintro e w3 ⟨rfl, b3⟩
  have hb3 := hb2.trans (b3.mono hz2)
  have hz3 := Nat.le_trans hz2 b3.size
  clear b3 hb2 hz2
  go_wp2_with fail
  refine (rtext_any a _ h0 h1).mono ?_
  rintro e w4 ⟨rfl, b4⟩
  have hb4 := hb3.trans (b4.mono hz3)
  have hz4 := Nat.le_trans hz3 b4.size
  clear b4 hb3 hz3
  go_wp2_with fail
  refine (known_any _ (HT.out.later hb4 (Nat.le_refl _))).mono ?_
  rintro e w5 ⟨rfl, b5⟩
  go_wp2
  go_ret
  exact ⟨rfl, hb4.trans (b5.mono hz4)⟩

theorem texts_walk (a : Int) (s : ByteArray) (w : World) (ht : Tab w) (wa : (Lit.int .i64 a).wf = true) (hs : s.size ≤ 140737488351232) :
    Calls Tryd.prog 6 #[.int .i64 a, .string s] w fun e w' => e = .returned (.bool true) ∧ Below w.heap.size w w' := by
  cases hl : longB [s] with
  | true => exact texts_long a s w ht hs hl
  | false => exact texts_short a s w ht hs hl (Pl.bd_of_wf wa).1 (Pl.bd_of_wf wa).2
end Go.Proofs.YtdfcmecgefckdaaDoor
