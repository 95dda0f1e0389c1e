/- Layer 13: a count taken. -/
import Derived.Test.YtgonadilbjfpkaaTpK
namespace Go.Proofs.Ytgonadilbjfpkaa
open Go.RowKit
set_option linter.unusedVariables false
def ctQ (g : Nat) (T : TypeId) (a : Option Addr) (c : Nat) (b : List Int) (r : List Value) (w : World) (k : Nat) (lo hi : Nat) (er : Int) (w' : World) (e : Ending) : (Nat × Nat) ⊕ Int → Prop
  | .inl (z, u) => if lo ≤ z ∧ z ≤ hi then e = .returned (.int .i64 z) ∧ PlQ g T a c b r w (k + u) w' else e = tpPan er ∧ PlQ g T a c b r w k w'
  | .inr x => e = tpPan x ∧ PlQ g T a c b r w k w'
set_option maxHeartbeats 2000000 in
theorem count_any (w : World) (g : Nat) (T : TypeId) (a : Option Addr) (c : Nat) (b : List Int) (k : Nat) (r : List Value) (h : PlB w g T a c b k r) (lo hi : Nat) (er : Int) (hhi : hi ≤ 2147483647) :
    Calls Try.prog 59 #[.pointer (some ⟨g, 0, none⟩), .int .u64 lo, .int .u64 hi, .int .i64 er] w fun e w' => ctQ g T a c b r w k lo hi er w' e (Tp.rdF 0 0 (b.drop k)) := by
  have HD := hidT (fun (W : World) (q : Below g w W) => digits_any b k a c W h.yt (h.bs.later q (Nat.le_refl _)) h.cap h.ln h.le)
  have H := hidT h
  have a0 := h.c0
  have a1 := h.c1
  have hkl := h.le
  have hln := h.ln
  have hbk := hidT (h.yt.drop k)
  obtain ⟨n, hn⟩ : ∃ n, n = b.length := ⟨_, rfl⟩
  have HN := hidT hn
  rw [← hn] at HD a0 hkl hln
  cases hr : Tp.rdF 0 0 (b.drop k) with
  | inr x =>
    rw [hr] at HD
    dsimp only [dgV] at HD
    have hx := Tp.rdF_err _ _ _ _ hr
    have qx : (x == 0) = false := by simp; omega
    clear hr hn hx h
    go_enter Try.func59, Try.ntmps59
    go_upto_region 1 with fail
    go_quiet (first | (go_at_call 29; exact Calls.quiet_of_same (HD.out _ (drN (Below.refl _ _) _))))
    have H1 := hidT (H.out.later (drN (Below.refl _ _) nq))
    have G1 := hidT (drG (gbR w (some g)) nq)
    generalize w.drewN nq = W1 at H1 G1 ⊢
    clear a0 a1
    go_wp2_with fail
    refine (must_no x _).mono ?_
    unfold tpPan
    rintro e w' ⟨rfl, rfl⟩
    go_wp2_with fail
    exact ⟨rfl, rfl, H1.out, G1.out⟩
  | inl p =>
    obtain ⟨z, u⟩ := p
    rw [hr] at HD
    dsimp only [dgV] at HD
    obtain ⟨hu0, hu1, _, hz⟩ := Tp.rd_back _ _ _ hbk.out hr
    have hu2 : k + u ≤ n := by rw [List.length_drop] at hu1; omega
    clear hr hn h hu1
    by_cases hin : lo ≤ z ∧ z ≤ hi
    · have hpost : ∀ w' e, ctQ g T a c b r w k lo hi er w' e (.inl (z, u)) = (e = .returned (.int .i64 z) ∧ PlQ g T a c b r w (k + u) w') := fun w' e => by simp only [ctQ, if_pos hin]
      simp only [hpost]
      clear hpost
      obtain ⟨h1, h2⟩ := hin
      have d1 : decide ((lo : Int) ≤ (z : Int)) = true := decide_eq_true (by omega)
      have d2 : decide ((z : Int) ≤ (hi : Int)) = true := decide_eq_true (by omega)
      have d3 : decide (lo ≤ z) = true := decide_eq_true h1
      have d4 : decide (z ≤ hi) = true := decide_eq_true h2
      go_enter Try.func59, Try.ntmps59
      go_upto_region 1 with fail
      go_quiet (first | (go_at_call 29; exact Calls.quiet_of_same (HD.out _ (drN (Below.refl _ _) _))))
      have H1 := hidT (H.out.later (drN (Below.refl _ _) nq))
      have G1 := hidT (drG (gbR w (some g)) nq)
      generalize w.drewN nq = W1 at H1 G1 ⊢
      have b0 := H1.out.c0
      have b1 := H1.out.c1
      have bf := H1.out.fz 1
      rw [← HN.out] at b0
      clear a0 a1
      go_wp2_with fail
      refine (must_yes 0 _).mono ?_
      rintro e w' ⟨rfl, rfl⟩
      go_wp2_with fail
      refine (must_yes er _).mono ?_
      rintro e w' ⟨rfl, rfl⟩
      go_wp2_with fail
      go_ret
      obtain ⟨s1, s2⟩ := H1.out.set (k' := k + u) (by rw [← HN.out]; exact hu2)
      exact ⟨rfl, s1, gbT G1.out s2⟩
    · have hpost : ∀ w' e, ctQ g T a c b r w k lo hi er w' e (.inl (z, u)) = (e = tpPan er ∧ PlQ g T a c b r w k w') := fun w' e => by simp only [ctQ, if_neg hin]
      simp only [hpost]
      clear hpost
      rcases (by omega : ¬ lo ≤ z ∨ (lo ≤ z ∧ ¬ z ≤ hi)) with h1 | ⟨h1, h2⟩
      · have d1 : decide ((lo : Int) ≤ (z : Int)) = false := decide_eq_false (by omega)
        have d3 : decide (lo ≤ z) = false := decide_eq_false h1
        clear hin
        go_enter Try.func59, Try.ntmps59
        go_upto_region 1 with fail
        go_quiet (first | (go_at_call 29; exact Calls.quiet_of_same (HD.out _ (drN (Below.refl _ _) _))))
        have H1 := hidT (H.out.later (drN (Below.refl _ _) nq))
        have G1 := hidT (drG (gbR w (some g)) nq)
        generalize w.drewN nq = W1 at H1 G1 ⊢
        clear a0 a1
        go_wp2_with fail
        refine (must_yes 0 _).mono ?_
        rintro e w' ⟨rfl, rfl⟩
        go_wp2_with fail
        refine (must_no er _).mono ?_
        unfold tpPan
        rintro e w' ⟨rfl, rfl⟩
        go_wp2_with fail
        exact ⟨rfl, rfl, H1.out, G1.out⟩
      · have d1 : decide ((lo : Int) ≤ (z : Int)) = true := decide_eq_true (by omega)
        have d3 : decide (lo ≤ z) = true := decide_eq_true h1
        have d2 : decide ((z : Int) ≤ (hi : Int)) = false := decide_eq_false (by omega)
        have d4 : decide (z ≤ hi) = false := decide_eq_false h2
        clear hin
        go_enter Try.func59, Try.ntmps59
        go_upto_region 1 with fail
        go_quiet (first | (go_at_call 29; exact Calls.quiet_of_same (HD.out _ (drN (Below.refl _ _) _))))
        have H1 := hidT (H.out.later (drN (Below.refl _ _) nq))
        have G1 := hidT (drG (gbR w (some g)) nq)
        generalize w.drewN nq = W1 at H1 G1 ⊢
        clear a0 a1
        go_wp2_with fail
        refine (must_yes 0 _).mono ?_
        rintro e w' ⟨rfl, rfl⟩
        go_wp2_with fail
        refine (must_no er _).mono ?_
        unfold tpPan
        rintro e w' ⟨rfl, rfl⟩
        go_wp2_with fail
        exact ⟨rfl, rfl, H1.out, G1.out⟩
end Go.Proofs.Ytgonadilbjfpkaa
