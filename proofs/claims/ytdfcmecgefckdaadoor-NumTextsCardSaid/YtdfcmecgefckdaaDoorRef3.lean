/- The reference's quotient and rest, bit by bit, are those of Go's own integers of 64 bits. -/
import Derived.Test.YtdfcmecgefckdaaDoorRef2
import Derived.Test.YtdfcmecgefckdaaDoorDivMod
import Derived.Test.YtdfcmecgefckdaaDoorPart
namespace Go.Proofs.YtdfcmecgefckdaaDoor
open Go.RowKit

set_option maxRecDepth 100000 in
set_option maxHeartbeats 400000 in
theorem parted_any (a b : Int) (w : World) (ha0 : 0 ≤ a) (ha1 : a ≤ 18446744073709551615) (hb0 : 1 ≤ b) (hb1 : b ≤ 18446744073709551615) :
    Calls Tryd.prog 36 #[.int .u64 a, .int .u64 b] w fun e w' => ∃ q r, e = .returned (.tuple #[.int .u64 q, .int .u64 r]) ∧ q = a / b ∧ r = a % b ∧ w' = w := by
  go_enter Tryd.func36, Tryd.ntmps36
  go_wp2
  go_loop [6, 7, 8] (fun q r i => ∃ m : Nat, m ≤ 64 ∧ i = .int .i64 (63 - (m : Int)) ∧ ∃ q0 r0 : Int, q = .int .u64 q0 ∧ r = .int .u64 r0 ∧ 0 ≤ q0 ∧ 0 ≤ r0 ∧ r0 < b ∧ Hid (Pl.top a m = q0 * b + r0)) (fun _ _ i => (intOf i + 1).toNat)
  case atStart => exact ⟨0, by omega, rfl, 0, 0, rfl, rfl, by omega, by omega, by omega, (Pl.top_zero a ha0 ha1).trans (by omega)⟩
  case round =>
    obtain ⟨m, hm, rfl, q0, r0, rfl, rfl, hq0, hr0, hrb, T⟩ := hrel
    by_cases hlt : m < 64
    · obtain ⟨j, hj⟩ : ∃ j, 63 - m = j := ⟨_, rfl⟩
      have hji : (63 : Int) - (m : Int) = (j : Int) := by omega
      have hj64 : j < 64 := by omega
      obtain ⟨t0, t1⟩ := Pl.bt_bd a j ha0
      have hq2 := Pl.q_bd ha0 ha1 hb0 hq0 hr0 hj hlt T.out
      have HJ : Hid (63 - m = j) := hj
      rw [hji]
      clear hj hji
      by_cases ho : 9223372036854775808 ≤ r0
      · obtain ⟨o1, o2, o3⟩ := Pl.over_wrap ho hrb hb1 t0 t1
        have O1 : Hid _ := o1
        clear o1
        go_wp2
        exact ⟨⟨m + 1, by omega, congrArg (Value.int .i64) (by have := HJ.out; omega), _, _, rfl, congrArg (Value.int .u64) O1.out, by omega, o2, o3, Pl.hit ha0 HJ.out hlt T.out⟩, by simp [intOf]⟩
      · by_cases hV : b ≤ r0 * 2 + (a / 2 ^ j).tmod 2
        · go_wp2
          exact ⟨⟨m + 1, by omega, congrArg (Value.int .i64) (by have := HJ.out; omega), _, _, rfl, rfl, by omega, by omega, by omega, Pl.hit ha0 HJ.out hlt T.out⟩, by simp [intOf]⟩
        · go_wp2
          exact ⟨⟨m + 1, by omega, congrArg (Value.int .i64) (by have := HJ.out; omega), _, _, rfl, rfl, by omega, by omega, by omega, Pl.miss ha0 HJ.out hlt T.out⟩, by simp [intOf]⟩
    · obtain rfl : m = 64 := by omega
      have HP : Hid _ := Pl.all_parts hb0 hr0 hrb T.out
      go_wp2
      go_ret2
      exact ⟨q0, r0, rfl, HP.out.1, HP.out.2, rfl⟩

set_option maxHeartbeats 400000 in
theorem size_any (a : Int) (w : World) (h0 : -9223372036854775808 ≤ a) (h1 : a ≤ 9223372036854775807) :
    Calls Tryd.prog 37 #[.int .i64 a] w fun e w' => e = .returned (.int .u64 (Pl.far a)) ∧ Below w.heap.size w w' := by
  by_cases h : a < 0
  · have HF : Hid (IntKind.wrap .u64 (wrap64 (-a)) = Pl.far a) := Pl.far_size_neg h h0
    go_enter Tryd.func37, Tryd.ntmps37
    go_wp2_with fail
    refine (rneg_any a w).mono ?_
    rintro e w1 ⟨rfl, b1⟩
    go_wp2
    go_ret
    rw [← HF.out]
    exact ⟨by go_num, b1⟩
  · have HF : Hid (Pl.far a = a) := Pl.far_pos h
    go_enter Tryd.func37, Tryd.ntmps37
    go_wp2
    go_ret
    rw [HF.out]
    exact ⟨rfl, Below.refl _ _⟩

set_option maxHeartbeats 400000 in
theorem rdiv_zero (a : Int) (w : World) : Calls Tryd.prog 20 #[.int .i64 a, .int .i64 0] w fun e w' => e = .returned (.tuple #[.int .i64 0, .int .i64 11]) ∧ w' = w := by
  go_enter Tryd.func20, Tryd.ntmps20
  go_wp2
  go_ret2
  exact ⟨rfl, rfl⟩

set_option maxRecDepth 10000 in
set_option maxHeartbeats 400000 in
theorem rdiv_some (a b : Int) (w : World) (h0 : -9223372036854775808 ≤ a) (h1 : a ≤ 9223372036854775807) (h2 : -9223372036854775808 ≤ b) (h3 : b ≤ 9223372036854775807) (hb : ¬ b = 0) :
    Calls Tryd.prog 20 #[.int .i64 a, .int .i64 b] w fun e w' => e = .returned (.tuple #[.int .i64 (Pl.quot a b), .int .i64 0]) ∧ Below w.heap.size w w' := by
  have hbb : (b == 0) = false := by simpa using hb
  obtain ⟨fa0, fa1⟩ := Pl.far_bd a h0 h1
  obtain ⟨fb0, fb1⟩ := Pl.far_bd b h2 h3
  have fb2 := Pl.far_one hb
  rcases (by omega : (a < 0 ∧ b < 0) ∨ (¬ a < 0 ∧ ¬ b < 0) ∨ (a < 0 ∧ ¬ b < 0) ∨ (¬ a < 0 ∧ b < 0)) with ⟨s1, s2⟩ | ⟨s1, s2⟩ | ⟨s1, s2⟩ | ⟨s1, s2⟩
  · have d1 : decide (a < 0) = true := decide_eq_true s1
    have d2 : decide (b < 0) = true := decide_eq_true s2
    have HQ : Hid (wrap64 (Pl.far a / Pl.far b) = Pl.quot a b) := Pl.quot_same (.inl ⟨s1, s2⟩)
    go_enter Tryd.func20, Tryd.ntmps20
    go_wp2_with fail
    refine (size_any a w h0 h1).mono ?_
    rintro e w1 ⟨rfl, b1⟩
    go_wp2_with fail
    refine (size_any b w1 h2 h3).mono ?_
    rintro e w2 ⟨rfl, b2⟩
    go_wp2_with fail
    refine (parted_any _ _ w2 fa0 fa1 fb2 fb1).mono ?_
    rintro e w3 ⟨q, r, rfl, hq, hr, rfl⟩
    have HQ2 : Hid (q = Pl.far a / Pl.far b) := hq
    clear hq hr
    go_wp2
    go_ret2
    rw [← HQ.out, ← HQ2.out]
    exact ⟨rfl, b1.trans (b2.mono b1.size)⟩
  · have d1 : decide (a < 0) = false := decide_eq_false s1
    have d2 : decide (b < 0) = false := decide_eq_false s2
    have HQ : Hid (wrap64 (Pl.far a / Pl.far b) = Pl.quot a b) := Pl.quot_same (.inr ⟨s1, s2⟩)
    go_enter Tryd.func20, Tryd.ntmps20
    go_wp2_with fail
    refine (size_any a w h0 h1).mono ?_
    rintro e w1 ⟨rfl, b1⟩
    go_wp2_with fail
    refine (size_any b w1 h2 h3).mono ?_
    rintro e w2 ⟨rfl, b2⟩
    go_wp2_with fail
    refine (parted_any _ _ w2 fa0 fa1 fb2 fb1).mono ?_
    rintro e w3 ⟨q, r, rfl, hq, hr, rfl⟩
    have HQ2 : Hid (q = Pl.far a / Pl.far b) := hq
    clear hq hr
    go_wp2
    go_ret2
    rw [← HQ.out, ← HQ2.out]
    exact ⟨rfl, b1.trans (b2.mono b1.size)⟩
  · have d1 : decide (a < 0) = true := decide_eq_true s1
    have d2 : decide (b < 0) = false := decide_eq_false s2
    have HQ : Hid (wrap64 (-wrap64 (Pl.far a / Pl.far b)) = Pl.quot a b) := Pl.quot_other (by omega)
    go_enter Tryd.func20, Tryd.ntmps20
    go_wp2_with fail
    refine (size_any a w h0 h1).mono ?_
    rintro e w1 ⟨rfl, b1⟩
    go_wp2_with fail
    refine (size_any b w1 h2 h3).mono ?_
    rintro e w2 ⟨rfl, b2⟩
    go_wp2_with fail
    refine (parted_any _ _ w2 fa0 fa1 fb2 fb1).mono ?_
    rintro e w3 ⟨q, r, rfl, hq, hr, rfl⟩
    have HQ2 : Hid (q = Pl.far a / Pl.far b) := hq
    clear hq hr
    go_wp2_with fail
    refine (rneg_any _ w3).mono ?_
    rintro e w4 ⟨rfl, b4⟩
    go_wp2
    go_ret2
    rw [← HQ.out, ← HQ2.out]
    exact ⟨rfl, (b1.trans (b2.mono b1.size)).trans (b4.mono (Nat.le_trans b1.size b2.size))⟩
  · have d1 : decide (a < 0) = false := decide_eq_false s1
    have d2 : decide (b < 0) = true := decide_eq_true s2
    have HQ : Hid (wrap64 (-wrap64 (Pl.far a / Pl.far b)) = Pl.quot a b) := Pl.quot_other (by omega)
    go_enter Tryd.func20, Tryd.ntmps20
    go_wp2_with fail
    refine (size_any a w h0 h1).mono ?_
    rintro e w1 ⟨rfl, b1⟩
    go_wp2_with fail
    refine (size_any b w1 h2 h3).mono ?_
    rintro e w2 ⟨rfl, b2⟩
    go_wp2_with fail
    refine (parted_any _ _ w2 fa0 fa1 fb2 fb1).mono ?_
    rintro e w3 ⟨q, r, rfl, hq, hr, rfl⟩
    have HQ2 : Hid (q = Pl.far a / Pl.far b) := hq
    clear hq hr
    go_wp2_with fail
    refine (rneg_any _ w3).mono ?_
    rintro e w4 ⟨rfl, b4⟩
    go_wp2
    go_ret2
    rw [← HQ.out, ← HQ2.out]
    exact ⟨rfl, (b1.trans (b2.mono b1.size)).trans (b4.mono (Nat.le_trans b1.size b2.size))⟩

set_option maxHeartbeats 400000 in
theorem rmod_zero (a : Int) (w : World) : Calls Tryd.prog 21 #[.int .i64 a, .int .i64 0] w fun e w' => e = .returned (.tuple #[.int .i64 0, .int .i64 11]) ∧ w' = w := by
  go_enter Tryd.func21, Tryd.ntmps21
  go_wp2_with fail
  refine (rdiv_zero a w).mono ?_
  rintro e w1 ⟨rfl, rfl⟩
  go_wp2
  go_ret2
  exact ⟨rfl, rfl⟩

set_option maxHeartbeats 400000 in
theorem rmod_some (a b : Int) (w : World) (h0 : -9223372036854775808 ≤ a) (h1 : a ≤ 9223372036854775807) (h2 : -9223372036854775808 ≤ b) (h3 : b ≤ 9223372036854775807) (hb : ¬ b = 0) :
    Calls Tryd.prog 21 #[.int .i64 a, .int .i64 b] w fun e w' => e = .returned (.tuple #[.int .i64 (Pl.rest a b), .int .i64 0]) ∧ Below w.heap.size w w' := by
  have HQ : Hid (wrap64 (a - wrap64 (Pl.quot a b * b)) = Pl.rest a b) := Pl.rest_eq hb h2 h3
  go_enter Tryd.func21, Tryd.ntmps21
  go_wp2_with fail
  refine (rdiv_some a b w h0 h1 h2 h3 hb).mono ?_
  rintro e w1 ⟨rfl, b1⟩
  go_wp2_with fail
  refine (rmul_any _ b w1).mono ?_
  rintro e w2 ⟨rfl, b2⟩
  go_wp2_with fail
  refine (rsub_any a _ w2).mono ?_
  rintro e w3 ⟨rfl, b3⟩
  go_wp2
  go_ret2
  rw [← HQ.out]
  exact ⟨rfl, (b1.trans (b2.mono b1.size)).trans (b3.mono (Nat.le_trans b1.size b2.size))⟩
end Go.Proofs.YtdfcmecgefckdaaDoor
