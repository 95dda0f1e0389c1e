/- NumBack: for any two integers of 64 bits, quotient, divisor and rest make the number, the rest is nearer to 0 than the divisor and has the number's sign if it has one; a division by 0 is told; and the fixed calls come out true. -/
import Derived.Test.YtdfcmecgefckdabDoorDivMod
namespace Go.Proofs.YtdfcmecgefckdabDoor
open Go.RowKit

set_option maxHeartbeats 400000 in
theorem away_any (a : Int) (w : World) (h0 : -9223372036854775808 ≤ a) (h1 : a ≤ 9223372036854775807) :
    Calls Tryd.prog 14 #[.int .i64 a] w fun e w' => e = .returned (.int .u64 (Pl.far a)) ∧ w' = w := by
  by_cases h : a < 0
  · have H : Hid (Pl.far a = -a) := Pl.far_neg h
    go_enter Tryd.func14, Tryd.ntmps14
    go_wp2
    go_ret
    rw [H.out]
    exact ⟨congrArg (fun n => Ending.returned (.int .u64 n)) (Pl.neg_u64w a h h0), rfl⟩
  · have H : Hid (Pl.far a = a) := Pl.far_pos h
    go_enter Tryd.func14, Tryd.ntmps14
    go_wp2
    go_ret
    rw [H.out]
    exact ⟨rfl, rfl⟩

set_option maxHeartbeats 400000 in
theorem back_zero (a : Int) (w : World) (ht : Tab w) :
    Calls Tryd.prog 3 #[.int .i64 a, .int .i64 0] w fun e w' => e = .returned (.bool true) ∧ Below w.heap.size w w' := by
  have HT : Hid (Tab w) := ht
  clear ht
  go_enter Tryd.func3, Tryd.ntmps3
  go_wp2_with (first | (go_at_call 9; refine (div_zero _ _).mono ?_; rintro e w' ⟨rfl, rfl⟩) | (go_at_call 10; refine (mod_zero _ _).mono ?_; rintro e w' ⟨rfl, rfl⟩))
  refine (known_any _ HT.out).mono ?_
  rintro e w1 ⟨rfl, hb⟩
  go_wp2
  go_ret
  exact ⟨rfl, hb⟩

set_option maxRecDepth 10000 in
set_option maxHeartbeats 400000 in
theorem back_some (a b : Int) (w : World) (ht : Tab w) (h0 : -9223372036854775808 ≤ a) (h1 : a ≤ 9223372036854775807) (h2 : -9223372036854775808 ≤ b) (h3 : b ≤ 9223372036854775807) (hb : ¬ b = 0) :
    Calls Tryd.prog 3 #[.int .i64 a, .int .i64 b] w fun e w' => e = .returned (.bool true) ∧ Below w.heap.size w w' := by
  have HT : Hid (Tab w) := ht
  clear ht
  have hbb : (b == 0) = false := by simpa using hb
  have e1 : (wrap64 (wrap64 (Pl.quot a b * b) + Pl.rest a b) == a) = true := by rw [Pl.tdiv_back a b h0 h1]; exact beq_self_eq_true a
  have e2 := Pl.tmod_lt a b hb
  have hr0 := Pl.tmod_bd a b hb h2 h3
  obtain ⟨hr1, hr2⟩ := hr0
  by_cases hr : Pl.rest a b = 0
  · have hrb : (Pl.rest a b == 0) = true := by rw [hr]; rfl
    have HR : Hid (Pl.rest a b = 0) := hr
    clear hr
    go_enter Tryd.func3, Tryd.ntmps3
    go_wp2_with (first | (go_at_call 9; refine (div_some _ _ _ hbb hb).mono ?_; rintro e w' ⟨rfl, rfl⟩) | (go_at_call 10; refine (mod_some _ _ _ hbb hb).mono ?_; rintro e w' ⟨rfl, rfl⟩) | (go_at_call 12; go_in) | (go_at_call 13; go_in))
    refine (away_any _ _ hr1 hr2).mono ?_
    rintro e w' ⟨rfl, rfl⟩
    go_wp2_with fail
    refine (away_any _ _ h2 h3).mono ?_
    rintro e w' ⟨rfl, rfl⟩
    go_wp2_with fail
    refine (known_any _ HT.out).mono ?_
    rintro e w1 ⟨rfl, hb⟩
    go_wp2
    go_ret
    exact ⟨rfl, hb⟩
  · have hrb : (Pl.rest a b == 0) = false := by simpa using hr
    rcases Pl.tmod_sign a b hr with ⟨s1, s2⟩ | ⟨s1, s2⟩
    all_goals
      go_enter Tryd.func3, Tryd.ntmps3
      go_wp2_with (first | (go_at_call 9; refine (div_some _ _ _ hbb hb).mono ?_; rintro e w' ⟨rfl, rfl⟩) | (go_at_call 10; refine (mod_some _ _ _ hbb hb).mono ?_; rintro e w' ⟨rfl, rfl⟩) | (go_at_call 12; go_in) | (go_at_call 13; go_in))
      refine (away_any _ _ hr1 hr2).mono ?_
      rintro e w' ⟨rfl, rfl⟩
      go_wp2_with fail
      refine (away_any _ _ h2 h3).mono ?_
      rintro e w' ⟨rfl, rfl⟩
      go_wp2_with fail
      refine (known_any _ HT.out).mono ?_
      rintro e w1 ⟨rfl, hb⟩
      go_wp2
      go_ret
      exact ⟨rfl, hb⟩

theorem back_walk (a b : Int) (w : World) (ht : Tab w) (wa : (Lit.int .i64 a).wf = true) (wb : (Lit.int .i64 b).wf = true) :
    Calls Tryd.prog 3 #[.int .i64 a, .int .i64 b] w fun e w' => e = .returned (.bool true) ∧ Below w.heap.size w w' := by
  by_cases hb : b = 0
  · subst hb; exact back_zero a w ht
  · exact back_some a b w ht (Pl.bd_of_wf wa).1 (Pl.bd_of_wf wa).2 (Pl.bd_of_wf wb).1 (Pl.bd_of_wf wb).2 hb
end Go.Proofs.YtdfcmecgefckdabDoor
