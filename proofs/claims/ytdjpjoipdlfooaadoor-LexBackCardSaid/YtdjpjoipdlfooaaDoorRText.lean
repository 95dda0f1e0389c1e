/- The reference's text of any integer is its decimal numeral; the reference's reading of any text is that of num. -/
import Derived.Test.YtdjpjoipdlfooaaDoorRef3
import Derived.Test.YtdjpjoipdlfooaaDoorLong
import Derived.Test.YtdjpjoipdlfooaaDoorTextsPl
import Derived.Laws.BytesArg
namespace Go.Proofs.YtdjpjoipdlfooaaDoor
open Go.RowKit

theorem conv_one (W : World) (x : Int) : (convert 54 9 (.slice (some ⟨W.heap.size, 0, none⟩) 1 1)).run Tryd.prog (W.alloc (.cells #[.int .u8 x] 5)) = .ok (.string (strOfNums [x])) (W.alloc (.cells #[.int .u8 x] 5)) := by
  refine run_convert_bytes_arg _ 54 5 Tryd.underlying54 Tryd.underlying5 W.heap.size 0 1 1 [x] rfl ?_ 9 Tryd.underlying9
  intro i hi
  match i, hi with
  | 0, _ => simp

/-- One more round while nothing is written. -/
def emp (v : Value) : Nat := match v with | .string s => if s.size = 0 then 1 else 0 | _ => 0
theorem strOf_cons (x : Nat) (s : ByteArray) : (strOfNums [48 + (x : Int) % 10] ++ s).data.toList = UInt8.ofNat (48 + x % 10) :: s.data.toList := by
  have e : ((48 : Int) + (x : Int) % 10).toNat = 48 + x % 10 := by omega
  simp [strOfNums, e]
theorem itoa_far_pos {a : Int} (h : ¬ a < 0) : Lib.itoa a = Lib.decDigits (Pl.far a).toNat := by
  unfold Lib.itoa; rw [if_neg h, Pl.far_pos h]
theorem itoa_far_neg {a : Int} (h : a < 0) : Lib.itoa a = 45 :: Lib.decDigits (Pl.far a).toNat := by
  unfold Lib.itoa; rw [if_pos h, Pl.far_neg h]
  congr 2
  omega
theorem str_eq {s : ByteArray} {l : List UInt8} (h : s.data.toList = l) : Value.string s = .string ⟨l.toArray⟩ := by
  subst h; rfl
theorem str_ne {s : ByteArray} (h : s.data.toList ≠ []) : s.size ≠ 0 := by
  intro e
  apply h
  rw [← List.length_eq_zero_iff, Array.length_toList, ByteArray.size_data]; exact e

set_option maxRecDepth 100000 in
set_option maxHeartbeats 400000 in
theorem rtext_any (a : Int) (w : World) (h0 : -9223372036854775808 ≤ a) (h1 : a ≤ 9223372036854775807) :
    Calls Tryd.prog 25 #[.int .i64 a] w fun e w' => e = .returned (.string ⟨(Lib.itoa a).toArray⟩) ∧ Below w.heap.size w w' := by
  have kc := conv_one
  have ks := strOfNums_size
  obtain ⟨f0, f1⟩ := Pl.far_bd a h0 h1
  obtain ⟨N, hN⟩ : ∃ N : Nat, (N : Int) = Pl.far a := ⟨(Pl.far a).toNat, by omega⟩
  have HN : Hid ((N : Int) = Pl.far a) := hN
  have hNb : N ≤ 18446744073709551615 := by omega
  clear hN f0 f1
  go_enter Tryd.func25, Tryd.ntmps25
  go_wp2_with fail
  refine (size_any a w h0 h1).mono ?_
  rintro e w1 ⟨rfl, b1⟩
  rw [← HN.out]
  go_wp2
  go_loopw [3, 4] (fun s u wr => ∃ (t : ByteArray) (n : Nat), s = .string t ∧ u = .int .u64 (n : Int) ∧ n ≤ 18446744073709551615 ∧ Hid (Pl.Wr N n t.data.toList) ∧ Below w.heap.size w wr) (fun s u _ => (intOf u).toNat + emp s)
  case atStart => exact ⟨⟨#[]⟩, N, rfl, rfl, hNb, .inl ⟨rfl, rfl⟩, b1⟩
  case round =>
    obtain ⟨t, n, rfl, rfl, hn, W, hb⟩ := hrel
    have htl : t.size ≤ 20 := by
      have := W.out.len (by omega)
      rwa [Array.length_toList, ByteArray.size_data] at this
    by_cases hl0 : t.data.toList = []
    · obtain rfl : t = ⟨#[]⟩ := by
        obtain ⟨⟨l⟩⟩ := t
        simp at hl0
        subst hl0
        rfl
      go_wp2
      go_roundw
      case rel => exact ⟨_, n / 10, rfl, by go_num, by omega, by unfold Hid; rw [strOf_cons]; exact W.out.step (.inl rfl), hb.alloc hb.size _⟩
      case measure => rw [show emp (.string ⟨#[]⟩) = 1 from rfl]; simp [intOf, emp, ks]; omega
    · have hle2 : ¬ t.toList = [] := by rw [ByteArray.toList_eq]; exact hl0
      have hle : t.toList.isEmpty = false := by simpa using hle2
      have he0 : emp (.string t) = 0 := by unfold emp; simp [str_ne hl0]
      have HE : Hid (emp (.string t) = 0) := he0
      have HL : Hid (t.data.toList ≠ []) := hl0
      clear he0 hl0
      by_cases hn0 : 0 < n
      · go_wp2
        go_roundw
        case rel => exact ⟨_, n / 10, rfl, by go_num, by omega, by unfold Hid; rw [strOf_cons]; exact W.out.step (.inr hn0), hb.alloc hb.size _⟩
        case measure => rw [HE.out]; simp [intOf, emp, ks]; omega
      · have D : Hid (t.data.toList = Lib.decDigits N) := W.out.done (by omega) HL.out
        have HN2 : Hid ((Pl.far a).toNat = N) := by have := HN.out; unfold Hid; omega
        by_cases ha : a < 0
        · go_wp2
          go_ret
          exact ⟨congrArg Ending.returned (str_eq (by rw [itoa_far_neg ha, HN2.out, ← D.out]; simp)), hb⟩
        · go_wp2
          go_ret
          exact ⟨congrArg Ending.returned (str_eq (by rw [itoa_far_pos (by omega : ¬ a < 0), HN2.out, ← D.out])), hb⟩
end Go.Proofs.YtdjpjoipdlfooaaDoor
