/- Layer 13: the document's count: what stands at a place, read from behind. -/
import Derived.Test.YtgonadilbjfpkaaTpH
import Derived.Test.YtgonadilbjfpkaaTpQ
namespace Go.Proofs.Ytgonadilbjfpkaa
open Go.RowKit
set_option linter.unusedVariables false
namespace Tp
theorem cn_in (f : Nat) (l : List Int) (n : Nat) (h : n < cn f l) : ∃ x, l[n]? = some x ∧ 128 ≤ x := by
  induction f generalizing l n with
  | zero => cases l <;> simp [cn] at h
  | succ f ih =>
    cases l with
    | nil => simp [cn] at h
    | cons c l =>
      unfold cn at h
      split at h
      · rename_i hc
        cases n with
        | zero => exact ⟨c, by simp, hc⟩
        | succ n => obtain ⟨x, h1, h2⟩ := ih l n (by omega); exact ⟨x, by simpa using h1, h2⟩
      · omega
theorem cn_at (f : Nat) (l : List Int) (x : Int) (h : cn f l < f) (hx : l[cn f l]? = some x) : x < 128 := by
  induction f generalizing l with
  | zero => omega
  | succ f ih =>
    cases l with
    | nil => simp [cn] at hx
    | cons c l =>
      by_cases hc : 128 ≤ c
      · have e : cn (f + 1) (c :: l) = cn f l + 1 := by simp [cn, hc]
        rw [e] at h hx
        exact ih l (by omega) (by simpa using hx)
      · have e : cn (f + 1) (c :: l) = 0 := by simp [cn, hc]
        rw [e] at hx
        simp at hx
        omega
end Tp
def rcV (k : Nat) : (Nat × Nat) ⊕ Int → Value
  | .inl (z, u) => .tuple #[.int .u64 z, .int .i64 ((k + u : Nat) : Int), .int .i64 0]
  | .inr x => .tuple #[.int .u64 0, .int .i64 k, .int .i64 x]
set_option maxHeartbeats 8000000 in
theorem rcount_any (b : List Int) (k : Nat) (a : Option Addr) (c : Nat) (w : World) (hb : Tp.Byt b) {B : Nat} (hm : ByS B w a b) (hc : b.length ≤ c) (hl : b.length ≤ 4611686018427387904) (hk : k ≤ b.length) :
    Calls Try.prog 31 #[.slice a b.length c, .int .i64 k] w fun e w' => e = .returned (rcV k (Tp.rdF 0 0 (b.drop k))) ∧ w' = w := by
  have HB : Hid (Tp.Byt b) := hb
  have HM : Hid (ByS B w a b) := hm
  obtain ⟨n0, hn⟩ : ∃ n, n = b.length := ⟨_, rfl⟩
  have HN : Hid (n0 = b.length) := hn
  rw [← hn] at hl hc hk ⊢
  have hR := Tp.rdF_cn (b.drop k) 0 0 (by decide) (hb.drop k)
  obtain ⟨N, hN⟩ : ∃ N, N = Tp.cn 10 (b.drop k) := ⟨_, rfl⟩
  have hN10 : N ≤ 10 := by rw [hN]; exact Tp.cn_le _ _
  have hNl : k + N ≤ n0 := by
    have := Tp.cn_len 10 (b.drop k)
    rw [List.length_drop] at this
    omega
  have hin : ∀ n, n < N → ∃ x, b[k + n]? = some x ∧ 128 ≤ x := fun n h => by
    obtain ⟨x, h1, h2⟩ := Tp.cn_in 10 (b.drop k) n (by omega)
    exact ⟨x, by simpa using h1, h2⟩
  have hat : ∀ x, N < 10 → b[k + N]? = some x → x < 128 := fun x h h1 => Tp.cn_at 10 (b.drop k) x (by omega) (by rw [← hN]; simpa using h1)
  simp only [Nat.zero_add, Nat.sub_zero, Nat.pow_zero, Nat.mul_one, ← hN, List.getElem?_drop] at hR
  have HR := hidT hR
  have HIN := hidT hin
  have HAT := hidT hat
  obtain ⟨post, hpost⟩ : ∃ p, p = rcV k (Tp.rdF 0 0 (b.drop k)) := ⟨_, rfl⟩
  have HP := hidT hpost
  rw [← hpost]
  clear hb hm hn hR hN hin hat hpost
  go_enter Try.func31, Try.ntmps31
  go_wp2_with fail
  go_loopg [7] N (fun gk i wr => ∃ j : Nat, j + gk = N ∧ i = .int .i64 j ∧ wr = w)
  case atStart => exact ⟨0, by omega, rfl, rfl⟩
  case round =>
    obtain ⟨j, hj, rfl, rfl⟩ := hrel
    rcases gk with _ | gk
    · obtain rfl : j = N := by omega
      rcases (by omega : (j = 10 ∧ n0 ≤ k + j) ∨ (j = 9 ∧ n0 ≤ k + j) ∨ (j < 9 ∧ n0 ≤ k + j) ∨ k + j < n0) with H | H | H | H
      · obtain ⟨rfl, h1⟩ := H
        have d1 : decide ((k : Int) + 10 < (n0 : Int)) = false := decide_eq_false (by omega)
        have d2 : decide (k + 10 < n0) = false := decide_eq_false (by omega)
        have d3 : ¬ k + 10 < n0 := by omega
        go_wp2_with fail
        go_ret3
        refine ⟨?_, rfl⟩
        rw [HP.out, HR.out.1 (by simp)]
        rfl
      · obtain ⟨rfl, h1⟩ := H
        have hr := hidT ((HR.out.2 (by decide)).1 (List.getElem?_eq_none (by rw [← HN.out]; exact h1)))
        have d1 : decide ((k : Int) + 9 < (n0 : Int)) = false := decide_eq_false (by omega)
        have d2 : decide (k + 9 < n0) = false := decide_eq_false (by omega)
        have d3 : ¬ k + 9 < n0 := by omega
        have d4 : decide ((n0 : Int) ≤ (k : Int) + 9) = true := decide_eq_true (by omega)
        have d5 : n0 ≤ k + 9 := h1
        go_wp2_with fail
        go_ret3
        refine ⟨?_, rfl⟩
        rw [HP.out, hr.out]
        rfl
      · obtain ⟨h0, h1⟩ := H
        have hr := hidT ((HR.out.2 (by omega)).1 (List.getElem?_eq_none (by rw [← HN.out]; exact h1)))
        have q10 : ((j : Int) == 10) = false := by simp; omega
        have q9 : ((j : Int) == 9) = false := by simp; omega
        have q10n : (j == 10) = false := by simp; omega
        have q9n : (j == 9) = false := by simp; omega
        have q10m : ¬ j = 10 := by omega
        have q9m : ¬ j = 9 := by omega
        have d1 : decide ((k : Int) + j < (n0 : Int)) = false := decide_eq_false (by omega)
        have d2 : decide (k + j < n0) = false := decide_eq_false (by omega)
        have d3 : ¬ k + j < n0 := by omega
        have d4 : decide ((n0 : Int) ≤ (k : Int) + j) = true := decide_eq_true (by omega)
        have d5 : n0 ≤ k + j := h1
        go_wp2_with fail
        go_ret3
        refine ⟨?_, rfl⟩
        rw [HP.out, hr.out]
        rfl
      · have dj1 : decide ((k : Int) + j < (n0 : Int)) = true := decide_eq_true (by omega)
        have dj2 : decide (k + j < n0) = true := decide_eq_true H
        have dj4 : decide ((n0 : Int) ≤ (k : Int) + j) = false := decide_eq_false (by omega)
        have dj5 : ¬ n0 ≤ k + j := by omega
        obtain ⟨x, hx⟩ : ∃ x, b[k + j]? = some x := ⟨_, List.getElem?_eq_getElem (by rw [← HN.out]; exact H)⟩
        obtain ⟨g, o, rfl, hg, hcell⟩ := HM.out (by rw [← HN.out]; omega)
        have a0 := hcell _ x hx
        obtain ⟨hx0, hx1⟩ := HB.out x (List.mem_of_getElem? hx)
        have HC := hidT hcell
        have HX := hidT hx
        clear hcell hx
        rcases (by omega : (j = 10 ∧ x < 128) ∨ (j = 10 ∧ 128 ≤ x) ∨ (j ≤ 9)) with HJ | HJ | HJ
        · obtain ⟨rfl, h1⟩ := HJ
          have e1 : decide (128 ≤ x) = false := decide_eq_false (by omega)
          go_wp2_with fail
          go_ret3
          refine ⟨?_, rfl⟩
          rw [HP.out, HR.out.1 (by simp)]
          rfl
        · obtain ⟨rfl, h1⟩ := HJ
          have e1 : decide (128 ≤ x) = true := decide_eq_true (by omega)
          go_wp2_with fail
          go_ret3
          refine ⟨?_, rfl⟩
          rw [HP.out, HR.out.1 (by simp)]
          rfl
        · have hx128 : x < 128 := HAT.out x (by omega) HX.out
          have e1 : decide (128 ≤ x) = false := decide_eq_false (by omega)
          obtain ⟨hrE, hrG⟩ := (HR.out.2 HJ).2 x HX.out
          have HRE := hidT hrE
          have HRG := hidT hrG
          clear hrE hrG
          rcases (by omega : (j = 9 ∧ 1 < x) ∨ (j = 9 ∧ x = 0) ∨ (j = 9 ∧ x = 1) ∨ (j < 9 ∧ 0 < j ∧ x = 0) ∨ (j < 9 ∧ 0 < j ∧ x ≠ 0) ∨ j = 0) with HK | HK | HK | HK | HK | HK
          · obtain ⟨rfl, h1⟩ := HK
            have t1 : decide (1 < x) = true := decide_eq_true h1
            go_wp2_with fail
            go_ret3
            refine ⟨?_, rfl⟩
            rw [HP.out, HRE.out (.inl ⟨by simp, h1⟩)]
            rfl
          · obtain ⟨rfl, h1⟩ := HK
            have H1 := hidT h1
            have t1 : decide (1 < x) = false := decide_eq_false (by omega)
            have t2 : (x == 0) = true := by simp [h1]
            clear h1
            go_wp2_with fail
            go_ret3
            refine ⟨?_, rfl⟩
            rw [HP.out, HRE.out (.inr ⟨by simp, H1.out⟩)]
            rfl
          · obtain ⟨rfl, rfl⟩ := HK
            have hr := hidT (HRG.out (by decide))
            have HZ : Hid (Tp.vl ((b.drop k).take (9 + 1)) < 18446744073709551616) := (Tp.rd_back _ _ _ (HB.out.drop k) hr.out).2.2.2
            clear HRE HRG
            go_wp2_with fail
            go_loopg [8, 9] (9 + 1) (fun gk2 z i wr2 => ∃ (m y : Nat), m = gk2 ∧ m ≤ 9 + 1 ∧ i = .int .i64 ((m : Int) - 1) ∧ z = .int .u64 y ∧ wr2 = wr ∧ Hid (y = Tp.vl (((b.drop k).take (9 + 1)).drop m)))
            case atStart => exact ⟨9 + 1, 0, rfl, by omega, by go_num, rfl, rfl, hidT (by rw [List.drop_eq_nil_of_le (by simp; omega)]; rfl)⟩
            case round =>
              rename_i gk2 wr2
              obtain ⟨m, y, hm, hmj, rfl, rfl, rfl, HY⟩ := hrel
              rcases m with _ | m
              · have f0 : decide ((0 : Int) ≤ ((0 : Nat) : Int) - 1) = false := by decide
                have f1 : decide ((0 : Int) ≤ -1) = false := by decide
                go_wp2_with fail
                go_ret3
                refine ⟨?_, rfl⟩
                rw [HP.out, hr.out]
                have hy := HY.out
                rw [List.drop_zero] at hy
                rw [← hy]
                show _ = Ending.returned (.tuple #[.int .u64 y, .int .i64 ((k + (9 + 1) : Nat) : Int), .int .i64 0])
                first
                  | rfl
                  | (have e2 : ((k : Int) + 9 + 1) = ((k + (9 + 1) : Nat) : Int) := by omega
                     rw [← e2]
                     try rfl)
              · have hm1 : (((m + 1 : Nat) : Int) - 1) = (m : Int) := by omega
                obtain ⟨v, hv⟩ : ∃ v, b[k + m]? = some v := ⟨_, List.getElem?_eq_getElem (by rw [← HN.out]; omega)⟩
                have c0 := HC.out _ v hv
                obtain ⟨hv0, hv1⟩ := HB.out v (List.mem_of_getElem? hv)
                have hst : Tp.vl (((b.drop k).take (9 + 1)).drop m) = v.toNat % 128 + 128 * y := by
                  rw [HY.out]
                  have hge : ((b.drop k).take (9 + 1))[m]? = some v := by rw [List.getElem?_take, if_pos (by omega), List.getElem?_drop]; exact hv
                  rw [List.getElem?_eq_some_iff] at hge
                  obtain ⟨g1, g2⟩ := hge
                  rw [List.drop_eq_getElem_cons g1, g2]
                  rfl
                have hzb := Nat.lt_of_le_of_lt (Tp.vl_drop ((b.drop k).take (9 + 1)) m) HZ.out
                rw [hst] at hzb
                have HST := hidT hst
                clear hst hv
                have m0 : decide ((0 : Int) ≤ (m : Int)) = true := decide_eq_true (by omega)
                have m1 : decide (k + m < n0) = true := decide_eq_true (by omega)
                have m2 : decide ((k : Int) + m < (n0 : Int)) = true := decide_eq_true (by omega)
                have m3 : k + m < n0 := by omega
                rw [hm1]
                clear hm1
                go_wp2_with fail
                go_roundg m
                case measure => omega
                case rel =>
                  refine ⟨m, v.toNat % 128 + 128 * y, rfl, by omega, by go_num, ?_, rfl, hidT HST.out.symm⟩
                  exact congrArg _ (by omega)
          · obtain ⟨h0, h2, h1⟩ := HK
            have H1 := hidT h1
            have q10 : ((j : Int) == 10) = false := by simp; omega
            have q9 : ((j : Int) == 9) = false := by simp; omega
            have q10n : (j == 10) = false := by simp; omega
            have q9n : (j == 9) = false := by simp; omega
            have q10m : ¬ j = 10 := by omega
            have q9m : ¬ j = 9 := by omega
            have p0 : decide (0 < (j : Int)) = true := decide_eq_true (by omega)
            have p1 : decide (0 < j) = true := decide_eq_true (by omega)
            have p2 : 0 < j := by omega
            have t2 : (x == 0) = true := by simp [h1]
            clear h1
            go_wp2_with fail
            go_ret3
            refine ⟨?_, rfl⟩
            rw [HP.out, HRE.out (.inr ⟨h2, H1.out⟩)]
            rfl
          · obtain ⟨h0, h2, h1⟩ := HK
            have q10 : ((j : Int) == 10) = false := by simp; omega
            have q9 : ((j : Int) == 9) = false := by simp; omega
            have q10n : (j == 10) = false := by simp; omega
            have q9n : (j == 9) = false := by simp; omega
            have q10m : ¬ j = 10 := by omega
            have q9m : ¬ j = 9 := by omega
            have p0 : decide (0 < (j : Int)) = true := decide_eq_true (by omega)
            have p1 : decide (0 < j) = true := decide_eq_true (by omega)
            have p2 : 0 < j := by omega
            have t2 : (x == 0) = false := by simpa using h1
            have hr := hidT (HRG.out (by omega))
            have HZ : Hid (Tp.vl ((b.drop k).take (j + 1)) < 18446744073709551616) := (Tp.rd_back _ _ _ (HB.out.drop k) hr.out).2.2.2
            clear HRE HRG
            go_wp2_with fail
            go_loopg [8, 9] (j + 1) (fun gk2 z i wr2 => ∃ (m y : Nat), m = gk2 ∧ m ≤ j + 1 ∧ i = .int .i64 ((m : Int) - 1) ∧ z = .int .u64 y ∧ wr2 = wr ∧ Hid (y = Tp.vl (((b.drop k).take (j + 1)).drop m)))
            case atStart => exact ⟨j + 1, 0, rfl, by omega, by go_num, rfl, rfl, hidT (by rw [List.drop_eq_nil_of_le (by simp; omega)]; rfl)⟩
            case round =>
              rename_i gk2 wr2
              obtain ⟨m, y, hm, hmj, rfl, rfl, rfl, HY⟩ := hrel
              rcases m with _ | m
              · have f0 : decide ((0 : Int) ≤ ((0 : Nat) : Int) - 1) = false := by decide
                have f1 : decide ((0 : Int) ≤ -1) = false := by decide
                go_wp2_with fail
                go_ret3
                refine ⟨?_, rfl⟩
                rw [HP.out, hr.out]
                have hy := HY.out
                rw [List.drop_zero] at hy
                rw [← hy]
                show _ = Ending.returned (.tuple #[.int .u64 y, .int .i64 ((k + (j + 1) : Nat) : Int), .int .i64 0])
                first
                  | rfl
                  | (have e2 : ((k : Int) + j + 1) = ((k + (j + 1) : Nat) : Int) := by omega
                     rw [← e2]
                     try rfl)
              · have hm1 : (((m + 1 : Nat) : Int) - 1) = (m : Int) := by omega
                obtain ⟨v, hv⟩ : ∃ v, b[k + m]? = some v := ⟨_, List.getElem?_eq_getElem (by rw [← HN.out]; omega)⟩
                have c0 := HC.out _ v hv
                obtain ⟨hv0, hv1⟩ := HB.out v (List.mem_of_getElem? hv)
                have hst : Tp.vl (((b.drop k).take (j + 1)).drop m) = v.toNat % 128 + 128 * y := by
                  rw [HY.out]
                  have hge : ((b.drop k).take (j + 1))[m]? = some v := by rw [List.getElem?_take, if_pos (by omega), List.getElem?_drop]; exact hv
                  rw [List.getElem?_eq_some_iff] at hge
                  obtain ⟨g1, g2⟩ := hge
                  rw [List.drop_eq_getElem_cons g1, g2]
                  rfl
                have hzb := Nat.lt_of_le_of_lt (Tp.vl_drop ((b.drop k).take (j + 1)) m) HZ.out
                rw [hst] at hzb
                have HST := hidT hst
                clear hst hv
                have m0 : decide ((0 : Int) ≤ (m : Int)) = true := decide_eq_true (by omega)
                have m1 : decide (k + m < n0) = true := decide_eq_true (by omega)
                have m2 : decide ((k : Int) + m < (n0 : Int)) = true := decide_eq_true (by omega)
                have m3 : k + m < n0 := by omega
                rw [hm1]
                clear hm1
                go_wp2_with fail
                go_roundg m
                case measure => omega
                case rel =>
                  refine ⟨m, v.toNat % 128 + 128 * y, rfl, by omega, by go_num, ?_, rfl, hidT HST.out.symm⟩
                  exact congrArg _ (by omega)
          · obtain rfl : j = 0 := HK
            simp only [Nat.add_zero] at a0 H
            have z1 : decide ((k : Int) < (n0 : Int)) = true := decide_eq_true (by omega)
            have z2 : decide (k < n0) = true := decide_eq_true (by omega)
            have z3 : decide ((n0 : Int) ≤ (k : Int)) = false := decide_eq_false (by omega)
            have z4 : decide (n0 ≤ k) = false := decide_eq_false (by omega)
            have z5 : ¬ n0 ≤ k := by omega
            have hr := hidT (HRG.out (by omega))
            have HZ : Hid (Tp.vl ((b.drop k).take (0 + 1)) < 18446744073709551616) := (Tp.rd_back _ _ _ (HB.out.drop k) hr.out).2.2.2
            clear HRE HRG
            go_wp2_with fail
            go_loopg [8, 9] (0 + 1) (fun gk2 z i wr2 => ∃ (m y : Nat), m = gk2 ∧ m ≤ 0 + 1 ∧ i = .int .i64 ((m : Int) - 1) ∧ z = .int .u64 y ∧ wr2 = wr ∧ Hid (y = Tp.vl (((b.drop k).take (0 + 1)).drop m)))
            case atStart => exact ⟨0 + 1, 0, rfl, by omega, by go_num, rfl, rfl, hidT (by rw [List.drop_eq_nil_of_le (by simp; omega)]; rfl)⟩
            case round =>
              rename_i gk2 wr2
              obtain ⟨m, y, hm, hmj, rfl, rfl, rfl, HY⟩ := hrel
              rcases m with _ | m
              · have f0 : decide ((0 : Int) ≤ ((0 : Nat) : Int) - 1) = false := by decide
                have f1 : decide ((0 : Int) ≤ -1) = false := by decide
                go_wp2_with fail
                go_ret3
                refine ⟨?_, rfl⟩
                rw [HP.out, hr.out]
                have hy := HY.out
                rw [List.drop_zero] at hy
                rw [← hy]
                show _ = Ending.returned (.tuple #[.int .u64 y, .int .i64 ((k + (0 + 1) : Nat) : Int), .int .i64 0])
                first
                  | rfl
                  | (have e2 : ((k : Int) + 0 + 1) = ((k + (0 + 1) : Nat) : Int) := by omega
                     rw [← e2]
                     try rfl)
              · have hm1 : (((m + 1 : Nat) : Int) - 1) = (m : Int) := by omega
                obtain ⟨v, hv⟩ : ∃ v, b[k + m]? = some v := ⟨_, List.getElem?_eq_getElem (by rw [← HN.out]; omega)⟩
                have c0 := HC.out _ v hv
                obtain ⟨hv0, hv1⟩ := HB.out v (List.mem_of_getElem? hv)
                have hst : Tp.vl (((b.drop k).take (0 + 1)).drop m) = v.toNat % 128 + 128 * y := by
                  rw [HY.out]
                  have hge : ((b.drop k).take (0 + 1))[m]? = some v := by rw [List.getElem?_take, if_pos (by omega), List.getElem?_drop]; exact hv
                  rw [List.getElem?_eq_some_iff] at hge
                  obtain ⟨g1, g2⟩ := hge
                  rw [List.drop_eq_getElem_cons g1, g2]
                  rfl
                have hzb := Nat.lt_of_le_of_lt (Tp.vl_drop ((b.drop k).take (0 + 1)) m) HZ.out
                rw [hst] at hzb
                have HST := hidT hst
                clear hst hv
                have m0 : decide ((0 : Int) ≤ (m : Int)) = true := decide_eq_true (by omega)
                have m1 : decide (k + m < n0) = true := decide_eq_true (by omega)
                have m2 : decide ((k : Int) + m < (n0 : Int)) = true := decide_eq_true (by omega)
                have m3 : k + m < n0 := by omega
                rw [hm1]
                clear hm1
                go_wp2_with fail
                go_roundg m
                case measure => omega
                case rel =>
                  refine ⟨m, v.toNat % 128 + 128 * y, rfl, by omega, by go_num, ?_, rfl, hidT HST.out.symm⟩
                  exact congrArg _ (by omega)
    · have hlt : j < N := by omega
      obtain ⟨x, hx, hx128⟩ := HIN.out j hlt
      obtain ⟨g, o, rfl, hg, hcell⟩ := HM.out (by rw [← HN.out]; omega)
      have a0 := hcell _ x hx
      have e1 : decide (128 ≤ x) = true := decide_eq_true hx128
      have dj0 : k + j < n0 := by omega
      have dj1 : decide ((k : Int) + j < (n0 : Int)) = true := decide_eq_true (by omega)
      have dj2 : decide (k + j < n0) = true := decide_eq_true (by omega)
      have e2 : decide ((j : Int) < 10) = true := decide_eq_true (by omega)
      have e3 : decide (j < 10) = true := decide_eq_true (by omega)
      have e4 : j < 10 := by omega
      clear hcell hx
      go_wp2_with fail
      go_roundg gk
      case measure => omega
      case rel => exact ⟨j + 1, by omega, by go_num, rfl⟩
end Go.Proofs.Ytgonadilbjfpkaa
