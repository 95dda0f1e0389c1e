/- Layer 15: Parting, above, Index. -/
import Derived.Test.YthglhcabdadlpaaDoorAlA
namespace Go.Proofs.YthglhcabdadlpaaDoor
open Go.RowKit
set_option linter.unusedVariables false
set_option linter.unusedSimpArgs false
set_option maxRecDepth 100000

set_option maxHeartbeats 2000000 in
theorem part_any (w : World) (a b : Option Addr) (ca cb : Nat) (l m : List Al.Ev) {B : Nat} (ha : EvR B w a l) (hb : EvR B w b m) (hB : B ≤ w.heap.size) (hl : l.length ≤ 1000000000000000) (hm : m.length ≤ 1000000000000000) : Calls Tryd.prog 10 #[.slice a l.length ca, .slice b m.length cb] w fun e w' => e = .returned (.int .i64 (Al.part l m)) ∧ Below w.heap.size w w' := by
  have HT := hidA (tog_any w a b ca cb l m ha hb hB hl hm)
  obtain ⟨p, hp⟩ : ∃ p, p = Al.part l m := ⟨_, rfl⟩
  have HP := hidA hp
  unfold Al.part at HP
  rw [← hp]
  clear hp ha hb hB hl hm
  generalize Al.tog l m = T at *
  generalize l.length = N1 at *
  generalize m.length = N2 at *
  by_cases c1 : T = N1
  · by_cases c2 : T = N2
    · have e : p = -1 := by rw [HP.out, if_pos ⟨c1, c2⟩]
      subst e
      have q1 : ((T : Int) == (N1 : Int)) = true := by simp [c1]
      have q2 : ((T : Int) == (N2 : Int)) = true := by simp [c2]
      clear c1 c2
      go_enter Tryd.func10, Tryd.ntmps10
      go_wp2_with fail
      refine HT.out.mono ?_
      rintro e w1 ⟨rfl, b1⟩
      have B1 := hidA b1
      clear b1
      go_wp2_with fail
      go_ret
      exact ⟨rfl, B1.out⟩
    · have e : p = T := by rw [HP.out, if_neg (fun h => c2 h.2)]
      subst e
      have q1 : ((T : Int) == (N1 : Int)) = true := by simp [c1]
      have q2 : ((T : Int) == (N2 : Int)) = false := by simp; omega
      clear c1 c2
      go_enter Tryd.func10, Tryd.ntmps10
      go_wp2_with fail
      refine HT.out.mono ?_
      rintro e w1 ⟨rfl, b1⟩
      have B1 := hidA b1
      clear b1
      go_wp2_with fail
      go_ret
      exact ⟨rfl, B1.out⟩
  · have e : p = T := by rw [HP.out, if_neg (fun h => c1 h.1)]
    subst e
    have q1 : ((T : Int) == (N1 : Int)) = false := by simp; omega
    clear c1
    go_enter Tryd.func10, Tryd.ntmps10
    go_wp2_with fail
    refine HT.out.mono ?_
    rintro e w1 ⟨rfl, b1⟩
    have B1 := hidA b1
    clear b1
    go_wp2_with fail
    go_ret
    exact ⟨rfl, B1.out⟩
theorem abv_eq (n m L : Int) (hn : 0 < n) (hL : 0 ≤ L) : decide (L / n < m) = decide (L < n * m) := by
  have h : L / n < m ↔ L < n * m := by
    rw [Int.ediv_lt_iff_lt_mul hn, Int.mul_comm]
  by_cases c : L < n * m
  · rw [decide_eq_true c, decide_eq_true (h.2 c)]
  · rw [decide_eq_false c, decide_eq_false (fun d => c (h.1 d))]
set_option maxHeartbeats 2000000 in
theorem abv_any (w : World) (n m : Nat) (L : Int) (h0 : -9223372036854775808 ≤ L) (h1 : L ≤ 9223372036854775807) (hn : n ≤ 1000000000000000) (hm : m ≤ 1000000000000000) : Calls Tryd.prog 36 #[.int .i64 (n : Int), .int .i64 (m : Int), .int .i64 L] w fun e w' => e = .returned (.bool (decide (max L 0 < (n : Int) * (m : Int)))) ∧ w' = w := by
  by_cases c : n = 0
  · subst c
    have e : decide (max L 0 < ((0 : Nat) : Int) * (m : Int)) = false := decide_eq_false (by simp; omega)
    rw [e]
    clear e
    go_enter Tryd.func36, Tryd.ntmps36
    go_wp2_with fail
    go_ret
    exact ⟨rfl, rfl⟩
  · have e := abv_eq n m (max L 0) (by omega) (by omega)
    rw [← e]
    clear e
    obtain ⟨X, hX⟩ : ∃ X, X = max L 0 := ⟨_, rfl⟩
    have hX0 : 0 ≤ X := by omega
    have hX1 : X ≤ 9223372036854775807 := by omega
    have HM : ∀ w : World, (Builtin.max_ #[3, 3] 3 #[.int .i64 L, .int .i64 0]).run Tryd.prog w = .ok (.int .i64 X) w := fun w => by rw [hX]; exact Lib.run_max_ints w _ _ .i64 .i64 _ _
    rw [← hX]
    clear hX
    obtain ⟨q, hq⟩ : ∃ q : Int, q = X / (n : Int) := ⟨_, rfl⟩
    have hq0 : 0 ≤ q := by rw [hq]; exact Int.ediv_nonneg hX0 (by omega)
    have hq1 : q ≤ 9223372036854775807 := by rw [hq]; exact Int.le_trans (Int.ediv_le_self _ hX0) hX1
    have ht : X.tdiv (n : Int) = q := by rw [hq]; exact Int.tdiv_eq_ediv_of_nonneg hX0
    have hw : wrap64 q = q := by unfold wrap64; omega
    have hn0 : ((n : Int) == 0) = false := by simp; omega
    have hn1 : (n : Int) ≠ 0 := by omega
    have hn2 : (0 : Int) < (n : Int) := by omega
    have dn : decide ((0 : Int) < (n : Int)) = true := decide_eq_true hn2
    rw [← hq]
    have HQ := hidA hq
    clear hq
    obtain ⟨r, hr⟩ : ∃ r, r = decide (q < (m : Int)) := ⟨_, rfl⟩
    have HR := hidA hr
    rw [← hr]
    cases r
    · have c2 : ¬ q < (m : Int) := of_decide_eq_false HR.out.symm
      have d2 : decide (q < (m : Int)) = false := HR.out.symm
      clear hr
      go_enter Tryd.func36, Tryd.ntmps36
      go_wp2_with fail
      go_ret
      exact ⟨rfl, rfl⟩
    · have c2 : q < (m : Int) := of_decide_eq_true HR.out.symm
      have d2 : decide (q < (m : Int)) = true := HR.out.symm
      clear hr
      go_enter Tryd.func36, Tryd.ntmps36
      go_wp2_with fail
      go_ret
      exact ⟨rfl, rfl⟩
end Go.Proofs.YthglhcabdadlpaaDoor
