/- AlignTurned. -/
import Derived.Test.YtpfkoglmfbaadabDoorAlQ
namespace Go.Proofs.YtpfkoglmfbaadabDoor
open Go.RowKit
set_option linter.unusedVariables false
set_option linter.unusedSimpArgs false
set_option maxRecDepth 100000
set_option maxHeartbeats 2000000 in
theorem many_any15 (w : World) (a b : Option Addr) (n m ca cb : Nat) : Calls Tryd.prog 6 #[.slice a n ca, .slice b m cb] w fun e w' => e = .returned (.bool (decide (24 < n) || decide (24 < m))) ∧ w' = w := by
  by_cases c1 : 24 < n
  · have d1 : decide ((24 : Int) < (n : Int)) = true := decide_eq_true (by omega)
    rw [decide_eq_true c1, Bool.true_or]
    clear c1
    go_enter Tryd.func6, Tryd.ntmps6
    go_wp2_with fail
    go_ret
    exact ⟨rfl, rfl⟩
  · have d1 : decide ((24 : Int) < (n : Int)) = false := decide_eq_false (by omega)
    rw [decide_eq_false c1, Bool.false_or]
    clear c1
    by_cases c2 : 24 < m
    · have d2 : decide ((24 : Int) < (m : Int)) = true := decide_eq_true (by omega)
      rw [decide_eq_true c2]
      clear c2
      go_enter Tryd.func6, Tryd.ntmps6
      go_wp2_with fail
      go_ret
      exact ⟨rfl, rfl⟩
    · have d2 : decide ((24 : Int) < (m : Int)) = false := decide_eq_false (by omega)
      rw [decide_eq_false c2]
      clear c2
      go_enter Tryd.func6, Tryd.ntmps6
      go_wp2_with fail
      go_ret
      exact ⟨rfl, rfl⟩
set_option maxHeartbeats 8000000 in
theorem turned_walk (w : World) (ht : Tab w) (a : Option Addr) (l : List Al.Ev) (ca : Nat) (ha : EvR w.heap.size w a l) (hca : l.length ≤ ca) (_ : l.length ≤ 1000000000000000) (_ : ∀ x ∈ l, Al.R64 x.1 ∧ Al.R64 x.2) (b : Option Addr) (m : List Al.Ev) (cb : Nat) (hb : EvR w.heap.size w b m) (hcb : m.length ≤ cb) (_ : m.length ≤ 1000000000000000) (_ : ∀ x ∈ m, Al.R64 x.1 ∧ Al.R64 x.2) (L : Int) (hL : -9223372036854775808 ≤ L ∧ L ≤ 9223372036854775807) :
    Calls Tryd.prog 3 #[.slice a l.length ca, .slice b m.length cb, .int .i64 L] w fun e w' => e = .returned (.bool true) ∧ Below w.heap.size w w' := by
  have HT := hidA ht
  have MN := hidA (many_any15 w a b l.length m.length ca cb)
  have KN : Hid (∀ wz, Below w.heap.size w wz → Calls Tryd.prog 7 #[] wz fun e w' => e = .returned (.bool true) ∧ Below w.heap.size w w') := fun wz hz => (known15 wz (ht.later hz (Nat.le_refl _))).mono fun e w' h => ⟨h.1, hz.trans (h.2.mono hz.size)⟩
  by_cases c : l.length ≤ 24 ∧ m.length ≤ 24
  · have e1 : (decide (24 < l.length) || decide (24 < m.length)) = false := by simp; omega
    rw [e1] at MN
    have M1 : Hid (Calls Tryd.prog 8 #[.slice a l.length ca, .slice b m.length cb, .int .i64 L] w fun e w' => ∃ v, e = .returned (.tuple #[v, .bool (Al.cut l m L)]) ∧ OwP w' w.heap.size 38 v (Al.prs (Al.mat l m L)) ∧ Below w.heap.size w w') := match_any w a b ca cb l m L ha hb (Nat.le_refl _) (by omega) (by omega) hca hcb hL.1 hL.2
    have M2 : Hid (∀ wz, Below w.heap.size w wz → Calls Tryd.prog 8 #[.slice b m.length cb, .slice a l.length ca, .int .i64 L] wz fun e w' => ∃ v, e = .returned (.tuple #[v, .bool (Al.cut m l L)]) ∧ OwP w' wz.heap.size 38 v (Al.prs (Al.mat m l L)) ∧ Below wz.heap.size wz w') := fun wz hz => match_any wz b a cb ca m l L (hb.later hz (Nat.le_refl _)) (ha.later hz (Nat.le_refl _)) hz.size (by omega) (by omega) hcb hca hL.1 hL.2
    have EL : Hid ((Al.prs (Al.mat m l L)).length = (Al.prs (Al.mat l m L)).length) := by unfold Hid; rw [Al.prs_len, Al.prs_len, Al.mat_turned]
    rw [Al.cut_comm m l] at M2
    obtain ⟨C, hC⟩ : ∃ C, C = Al.cut l m L := ⟨_, rfl⟩
    rw [← hC] at M1 M2
    generalize l.length = n at *
    generalize m.length = k at *
    clear ht ha hb hca hcb hL c e1 hC
    go_enter Tryd.func3, Tryd.ntmps3
    go_wp2_with fail
    refine MN.out.mono ?_
    rintro e w1 ⟨rfl, rfl⟩
    go_wp2_with fail
    refine M1.out.mono ?_
    rintro e w2 ⟨v1, rfl, o1, b2⟩
    obtain ⟨a1, c1, rfl, -, -⟩ := o1.ev
    have B2 := hidA b2
    clear o1 b2
    go_wp2_with fail
    refine (M2.out w2 B2.out).mono ?_
    rintro e w3 ⟨v2, rfl, o2, b3⟩
    obtain ⟨a2, c2, rfl, -, -⟩ := o2.ev
    rw [EL.out]
    have B3 : Hid (Below w1.heap.size w1 w3) := B2.out.trans (b3.mono B2.out.size)
    generalize (Al.prs (Al.mat l m L)).length = N at *
    have q1 : ((N : Int) == (N : Int)) = true := beq_self_eq_true _
    have q2 : (C == C) = true := beq_self_eq_true _
    clear o2 b3 EL M1 M2
    go_wp2_with fail
    refine (KN.out w3 B3.out).mono ?_
    rintro e w4 ⟨rfl, b4⟩
    have B4 := hidA b4
    clear b4
    go_wp2_with fail
    go_ret
    exact ⟨rfl, B4.out⟩
  · have e1 : (decide (24 < l.length) || decide (24 < m.length)) = true := by simp; omega
    rw [e1] at MN
    generalize l.length = n at *
    generalize m.length = k at *
    clear ht ha hb hca hcb hL c e1
    go_enter Tryd.func3, Tryd.ntmps3
    go_wp2_with fail
    refine MN.out.mono ?_
    rintro e w1 ⟨rfl, rfl⟩
    go_wp2_with fail
    refine (KN.out w1 (Below.refl _ _)).mono ?_
    rintro e w4 ⟨rfl, b4⟩
    have B4 := hidA b4
    clear b4
    go_wp2_with fail
    go_ret
    exact ⟨rfl, B4.out⟩
end Go.Proofs.YtpfkoglmfbaadabDoor
