/- num.magnitude answers, for every text and every limit from 9 to 2^64 - 1, the number that the digits write if it is at most the limit, and whether there is one. -/
import Derived.Test.YtdllgbhdodjdbaaDoorRows
import Derived.Test.YtdllgbhdodjdbaaDoorPlain
import Derived.WalkKit
import Derived.WalkMore
import Derived.WalkSpells
import Derived.WalkLawsBesides
namespace Go.Proofs.YtdllgbhdodjdbaaDoor
open Go.RowKit

theorem ret_none {x : Option Nat} (h : x = none) : Ending.returned (.tuple #[.int .u64 0, .bool false]) = .returned (.tuple #[.int .u64 ((x.getD 0 : Nat) : Int), .bool x.isSome]) := by rw [h]; rfl
theorem ret_some {x : Option Nat} {m : Nat} (h : x = some m) : Ending.returned (.tuple #[.int .u64 (m : Int), .bool true]) = .returned (.tuple #[.int .u64 ((x.getD 0 : Nat) : Int), .bool x.isSome]) := by rw [h]; rfl

set_option maxHeartbeats 400000 in
theorem magnitude_any (s : ByteArray) (L : Int) (w : World) (hs : s.size ≤ maxLen) (h9 : 9 ≤ L) (hL : L ≤ 18446744073709551615) :
    Calls Tryd.prog 91 #[.string s, .int .u64 L] w fun e w' => e = .returned (.tuple #[.int .u64 (((Pl.mag L.toNat s.data.toList 0 0).getD 0 : Nat) : Int), .bool (Pl.mag L.toNat s.data.toList 0 0).isSome]) ∧ w' = w := by
  unfold maxLen at hs
  go_enter Tryd.func91, Tryd.ntmps91
  go_wp2; go_step3; go_wp2; go_step3; go_wp2
  go_loop [6, 7] (fun n i => ∃ k m : Nat, k ≤ s.size ∧ (m : Int) ≤ L ∧ i = .int .i64 k ∧ n = .int .u64 m ∧ Hid (Pl.mag L.toNat s.data.toList 0 0 = Pl.mag L.toNat (s.data.toList.drop k) k m)) (fun _ i => s.size - (intOf i).toNat)
  case atStart => exact ⟨0, 0, Nat.zero_le _, by omega, rfl, rfl, rfl⟩
  case round =>
    obtain ⟨k, m, hk, hm, rfl, rfl, H⟩ := hrel
    by_cases hlt : k < s.size
    · go_wp2
      case roundEnd =>
        have h0 : ¬ m = 0 := by simpa using ‹((m : Int) == 0) = false›
        exact ⟨⟨k + 1, m * 10 + (s[k].toNat - 48), by omega, by omega, by go_num, by go_num, Pl.mag_step hlt h9 H.out (by omega) (by omega) (by omega) (by omega)⟩, by simp [intOf]; omega⟩
      case roundEnd =>
        exact ⟨⟨k + 1, m * 10 + (s[k].toNat - 48), by omega, by omega, by go_num, by go_num, Pl.mag_step hlt h9 H.out (by omega) (by omega) (by omega) (by omega)⟩, by simp [intOf]; omega⟩
      all_goals
        go_ret2
        refine ⟨ret_none (Pl.mag_stop hlt h9 H.out ?_), rfl⟩
        first | omega | (have h0 : m = 0 := by simpa using ‹((m : Int) == 0) = true›); omega
    · have he := Pl.mag_end hlt hk H.out
      by_cases hk0 : k = 0
      · rw [if_pos hk0] at he
        have HE : Hid (Pl.mag L.toNat s.data.toList 0 0 = none) := he
        clear he
        subst hk0
        go_wp2
        go_ret2
        exact ⟨ret_none HE.out, rfl⟩
      · rw [if_neg hk0] at he
        have HE : Hid (Pl.mag L.toNat s.data.toList 0 0 = some m) := he
        clear he
        have hk1 : ((k : Int) == 0) = false := by simpa using hk0
        go_wp2
        go_ret2
        exact ⟨ret_some HE.out, rfl⟩
end Go.Proofs.YtdllgbhdodjdbaaDoor
