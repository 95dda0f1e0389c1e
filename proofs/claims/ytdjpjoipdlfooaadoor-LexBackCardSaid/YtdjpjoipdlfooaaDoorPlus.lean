/- The reference's digit by digit sums, turned digits, and the number of 64 digits: each for every rows of 64 digits that are 0 or 1. -/
import Derived.Test.YtdjpjoipdlfooaaDoorBits
import Derived.Test.YtdjpjoipdlfooaaDoorDigits
import Derived.Deep.QuietTactic
import Derived.BigQuiet
namespace Go.Proofs.YtdjpjoipdlfooaaDoor
open Go.RowKit

set_option maxRecDepth 100000 in
set_option maxHeartbeats 400000 in
theorem plus_any (ga gb ca cb : Nat) (a b : Nat → Int) (c : Int) (w : World) (hga : ga < w.heap.size) (hgb : gb < w.heap.size)
    (hca : ∀ j, j < 64 → w.cell? ⟨ga, j, none⟩ = some (.int .i64 (a j))) (hcb : ∀ j, j < 64 → w.cell? ⟨gb, j, none⟩ = some (.int .i64 (b j)))
    (da : Pl.Dig a) (db : Pl.Dig b) (h0 : 0 ≤ c) (h1 : c ≤ 1) :
    Calls Tryd.prog 78 #[.slice (some ⟨ga, 0, none⟩) 64 ca, .slice (some ⟨gb, 0, none⟩) 64 cb, .int .i64 c] w fun e w' => ∃ v, e = .returned v ∧ Own w' w.heap.size v 64 (Pl.pls a b c) ∧ Below w.heap.size w w' := by
  obtain ⟨i0, hi, hz0, hz1, hz2⟩ := info_parts infoInt
  have HA : Hid (∀ j, j < 64 → w.cell? ⟨ga, j, none⟩ = some (.int .i64 (a j))) := hca
  have HB : Hid (∀ j, j < 64 → w.cell? ⟨gb, j, none⟩ = some (.int .i64 (b j))) := hcb
  have HC : Hid (∀ i, i ≤ 64 → 0 ≤ Pl.car a b c i ∧ Pl.car a b c i ≤ 1) := Pl.car_01 da db h0 h1
  have DA : Hid (Pl.Dig a) := da
  have DB : Hid (Pl.Dig b) := db
  clear hca hcb da db
  go_enter Tryd.func78, Tryd.ntmps78
  go_wp2
  go_loopw [2, 7, 8] (fun x v i wr => ∃ k : Nat, k ≤ 64 ∧ i = .int .i64 k ∧ x = .int .i64 (Pl.car a b c k) ∧ Own wr w.heap.size v k (Pl.pls a b c) ∧ Below w.heap.size w wr) (fun _ _ i _ => 64 - (intOf i).toNat)
  case atStart => exact ⟨0, by omega, rfl, rfl, Own.nil _ _ _, Below.refl _ _⟩
  case round =>
    obtain ⟨k, hk, rfl, rfl, hown, hnx⟩ := hrel
    by_cases hlt : k < 64
    · have hA : wr.cell? ⟨ga, k, none⟩ = some (.int .i64 (a k)) := (hnx.cell (p := ⟨ga, k, none⟩) hga).trans (HA.out k hlt)
      have hB : wr.cell? ⟨gb, k, none⟩ = some (.int .i64 (b k)) := (hnx.cell (p := ⟨gb, k, none⟩) hgb).trans (HB.out k hlt)
      obtain ⟨ha0, ha1⟩ := DA.out k hlt
      obtain ⟨hb0, hb1⟩ := DB.out k hlt
      obtain ⟨hc0, hc1⟩ := HC.out k hk
      go_wp2_with fail
      go_quiet (fail)
      have hownq : Own (wr.drewN nq) w.heap.size _ k (Pl.pls a b c) := hown
      have hnxq : Below w.heap.size w (wr.drewN nq) := below_drewN hnx nq
      clear hown hnx hA hB
      generalize wr.drewN nq = wq at hownq hnxq ⊢
      go_wp2_with (at_builtin; refine wpList_append_own _ rfl _ _ 97 rfl w.heap.size 3 i0 (.int .i64 0) 1 8 Tryd.underlying97 hi hz0 hz1 hz2 rfl (by decide) _ _ _ rfl (World.ownsRow.alloc hownq _) ⟨wq.heap.size, 0, none⟩ 1 1 [.int .i64 (Pl.pls a b c k)] rfl rfl ?c1 (one_one _) ?c3 ?c4 ?c5 ?_)
      case c1 => exact one_cell wq (Pl.pls a b c k) 3
      case c3 => unfold maxLen; omega
      case c4 => omega
      case c5 => have := hnxq.size; simp; omega
      intro v' w1 hown' hgrow _
      obtain ⟨R, hb1⟩ := hownq.snoc hnxq hnxq.size hown' hgrow
      clear hown' hgrow hownq hnxq
      go_wp2
      go_roundw
      case rel => exact ⟨k + 1, by omega, by go_num, rfl, R, hb1⟩
      case measure => simp [intOf]; omega
    · obtain rfl : k = 64 := by omega
      go_wp2
      go_ret
      exact ⟨_, rfl, hown, hnx⟩

set_option maxRecDepth 100000 in
set_option maxHeartbeats 400000 in
theorem other_any (ga ca : Nat) (a : Nat → Int) (w : World) (hga : ga < w.heap.size) (hca : ∀ j, j < 64 → w.cell? ⟨ga, j, none⟩ = some (.int .i64 (a j))) (da : Pl.Dig a) :
    Calls Tryd.prog 80 #[.slice (some ⟨ga, 0, none⟩) 64 ca] w fun e w' => ∃ v, e = .returned v ∧ Own w' w.heap.size v 64 (fun i => 1 - a i) ∧ Below w.heap.size w w' := by
  obtain ⟨i0, hi, hz0, hz1, hz2⟩ := info_parts infoInt
  have HA : Hid (∀ j, j < 64 → w.cell? ⟨ga, j, none⟩ = some (.int .i64 (a j))) := hca
  have DA : Hid (Pl.Dig a) := da
  clear hca da
  go_enter Tryd.func80, Tryd.ntmps80
  go_wp2
  go_loopw [3, 4] (fun v i wr => ∃ k : Nat, k ≤ 64 ∧ i = .int .i64 k ∧ Own wr w.heap.size v k (fun i => 1 - a i) ∧ Below w.heap.size w wr) (fun _ i _ => 64 - (intOf i).toNat)
  case atStart => exact ⟨0, by omega, rfl, Own.nil _ _ _, Below.refl _ _⟩
  case round =>
    obtain ⟨k, hk, rfl, hown, hnx⟩ := hrel
    by_cases hlt : k < 64
    · have hA : wr.cell? ⟨ga, k, none⟩ = some (.int .i64 (a k)) := (hnx.cell (p := ⟨ga, k, none⟩) hga).trans (HA.out k hlt)
      obtain ⟨ha0, ha1⟩ := DA.out k hlt
      go_wp2_with (at_builtin; refine wpList_append_own _ rfl _ _ 97 rfl w.heap.size 3 i0 (.int .i64 0) 1 8 Tryd.underlying97 hi hz0 hz1 hz2 rfl (by decide) _ _ _ rfl (World.ownsRow.alloc hown _) ⟨wr.heap.size, 0, none⟩ 1 1 [.int .i64 (1 - a k)] rfl rfl ?c1 (one_one _) ?c3 ?c4 ?c5 ?_)
      case c1 => exact one_cell wr (1 - a k) 3
      case c3 => unfold maxLen; omega
      case c4 => omega
      case c5 => have := hnx.size; simp; omega
      intro v' w1 hown' hgrow _
      obtain ⟨R, hb1⟩ := hown.snoc hnx hnx.size hown' hgrow
      clear hown' hgrow hown hnx hA
      go_wp2
      go_roundw
      case rel => exact ⟨k + 1, by omega, by go_num, R, hb1⟩
      case measure => simp [intOf]; omega
    · obtain rfl : k = 64 := by omega
      go_wp2
      go_ret
      exact ⟨_, rfl, hown, hnx⟩

set_option maxRecDepth 100000 in
set_option maxHeartbeats 400000 in
theorem number_any (ga ca : Nat) (a : Nat → Int) (w : World) (hca : ∀ j, j < 64 → w.cell? ⟨ga, j, none⟩ = some (.int .i64 (a j))) (da : Pl.Dig a) :
    Calls Tryd.prog 77 #[.slice (some ⟨ga, 0, none⟩) 64 ca] w fun e w' => e = .returned (.int .i64 (wrap64 (Pl.high a 64))) ∧ w' = w := by
  have HA : Hid (∀ j, j < 64 → w.cell? ⟨ga, j, none⟩ = some (.int .i64 (a j))) := hca
  have HB : Hid (∀ m, m ≤ 63 → 0 ≤ Pl.high a m ∧ Pl.high a m ≤ 9223372036854775807) := Pl.high_lt da
  have DA : Hid (Pl.Dig a) := da
  clear hca da
  go_enter Tryd.func77, Tryd.ntmps77
  go_wp2
  go_loop [3, 4] (fun n i => ∃ m : Nat, m ≤ 64 ∧ i = .int .i64 (63 - (m : Int)) ∧ n = .int .u64 (Pl.high a m)) (fun _ i => (intOf i + 1).toNat)
  case atStart => exact ⟨0, by omega, rfl, rfl⟩
  case round =>
    obtain ⟨m, hm, rfl, rfl⟩ := hrel
    by_cases hlt : m < 64
    · obtain ⟨j, hj⟩ : ∃ j, 63 - m = j := ⟨_, rfl⟩
      have hji : (63 : Int) - (m : Int) = (j : Int) := by omega
      have hA : w.cell? ⟨ga, j, none⟩ = some (.int .i64 (a j)) := HA.out j (by omega)
      obtain ⟨ha0, ha1⟩ := DA.out j (by omega)
      obtain ⟨hd0, hd1⟩ := HB.out m (by omega)
      have hs : Hid (Pl.high a (m + 1) = Pl.high a m * 2 + a j) := by unfold Hid; rw [← hj]; rfl
      rw [hji]
      go_wp2
      exact ⟨⟨m + 1, by omega, congrArg (Value.int .i64) (by omega), by rw [hs.out]⟩, by simp [intOf]⟩
    · obtain rfl : m = 64 := by omega
      go_wp2
      go_ret
      exact ⟨rfl, rfl⟩
end Go.Proofs.YtdjpjoipdlfooaaDoor
