/- Layer 13: the document's numbers, sums and inputs' tapes, written. -/
import Derived.Test.YtgonadilbjfpkaaTpG
namespace Go.Proofs.Ytgonadilbjfpkaa
open Go.RowKit
set_option linter.unusedVariables false
theorem rZag_any (z : Nat) (hz : z < 18446744073709551616) (w : World) : Calls Try.prog 32 #[.int .u64 z] w fun e w' => e = .returned (.int .i64 (Tp.zag z)) ∧ w' = w := by
  by_cases h2 : (z : Int) % 2 = 0
  · have q : ((z : Int) % 2 == 0) = true := by simpa using h2
    have H2 : Hid ((z : Int) % 2 = 0) := h2
    clear h2
    go_enter Try.func32, Try.ntmps32
    go_wp2_with fail
    go_ret
    have h2 := H2.out
    refine ⟨retI ?_, rfl⟩
    unfold Tp.zag
    split <;> omega
  · have q : ((z : Int) % 2 == 0) = false := by simpa using h2
    have H2 : Hid (¬ (z : Int) % 2 = 0) := h2
    clear h2
    go_enter Try.func32, Try.ntmps32
    go_wp2_with fail
    go_ret
    have h2 := H2.out
    refine ⟨retI ?_, rfl⟩
    unfold Tp.zag
    split <;> omega
theorem rZig_any (n : Int) (w : World) (h0 : -9223372036854775808 ≤ n) (h1 : n ≤ 9223372036854775807) : Calls Try.prog 35 #[.int .i64 n] w fun e w' => e = .returned (.int .u64 (Tp.zg n)) ∧ w' = w := by
  by_cases h2 : 0 ≤ n
  · have q : decide (0 ≤ n) = true := decide_eq_true h2
    go_enter Try.func35, Try.ntmps35
    go_wp2_with fail
    go_ret
    refine ⟨retI ?_, rfl⟩
    try simp only [IntKind.wrap_u64]
    unfold Tp.zg
    split <;> omega
  · have q : decide (0 ≤ n) = false := decide_eq_false h2
    go_enter Try.func35, Try.ntmps35
    go_wp2_with fail
    go_ret
    refine ⟨retI ?_, rfl⟩
    try simp only [IntKind.wrap_u64]
    unfold Tp.zg
    split <;> omega
set_option maxHeartbeats 2000000 in
theorem rCount_any (w : World) (z : Nat) (hz : z < 18446744073709551616) :
    Calls Try.prog 34 #[.int .u64 z] w (PuQ w w.heap.size (Tp.dg z)) := by
  obtain ⟨i0, hi, hz0, hz1, hz2⟩ := infoB'
  obtain ⟨base, hbase⟩ : ∃ b, b = w.heap.size := ⟨_, rfl⟩
  have HB : Hid (base = w.heap.size) := hbase
  rw [← hbase]
  clear hbase
  go_enter Try.func34, Try.ntmps34
  go_wp2_with fail
  go_loopg [0, 3] 10 (fun gk y x wr => ∃ (u : Value) (l' : List Int) (q : Nat), x = u ∧ y = .int .u64 q ∧ q < 18446744073709551616 ∧ Hid (OwB wr base u l' ∧ Below base w wr ∧ Tp.dg z = l' ++ Tp.dgF gk.pred q ∧ l'.length + gk = 10 ∧ q < 128 ^ gk ∧ 0 < gk))
  case atStart => exact ⟨_, [], z, rfl, rfl, hz, World.ownsRow_nil _ _ _ _, Below.refl _ _, rfl, rfl, Nat.lt_of_lt_of_le hz (by decide), by decide⟩
  case round =>
    obtain ⟨u, l', q, rfl, rfl, hq, HR⟩ := hrel
    have HBR : Hid (base ≤ wr.heap.size) := Nat.le_trans (Nat.le_of_eq HB.out) HR.out.2.1.size
    obtain ⟨ua, cap, hv⟩ := ownShT HR.out.1
    subst hv
    have H63 : Hid (l'.length + 1 ≤ maxLen ∧ ((l'.length + 1) + (l'.length + 1) / 4 + 192) * 1 ≤ 281474976710656) := by
      have := HR.out.2.2.2.1
      exact OwB.len63 (by omega)
    by_cases h128 : 128 ≤ q
    · have d1 : ((q : Int) / 128 == 0) = false := by simp; omega
      have d2 : (q / 128 == 0) = false := by simp; omega
      have d3 : ¬ q / 128 = 0 := by omega
      go_wp2_with (at_builtin; refine wpList_append_own_wide _ rfl _ _ 22 rfl base 5 i0 (.int .u8 0) 1 1 Try.underlying22 hi hz0 hz1 hz2 rfl (by decide) _ _ _ rfl (ownLtT HR.out.1 ((Below.refl _ _).alloc (Nat.le_refl _) _)) ⟨wr.heap.size, 0, none⟩ 1 1 [_] rfl rfl (one1 _ _ _) (by intro x hx; simp at hx; subst hx; rfl) H63.out.1 H63.out.2 (by simp; exact Nat.le_trans HBR.out (Nat.le_succ _)) ?_)
      intro v8 w8 h8 g8 o8
      have K8 := hidT (HR.out.1.below HBR.out g8)
      have HX : Hid (OwB w8 base v8 (l' ++ [((q % 128 + 128 : Nat) : Int)])) := OwB.of (m := [((q % 128 + 128 : Nat) : Int)]) h8 rfl
      clear h8 g8 o8
      go_wp2_with fail
      obtain ⟨o1, k1, e1, n1, q1, p1⟩ := HR.out
      have h2 : 2 ≤ gk := by
        rcases (by omega : gk = 1 ∨ 2 ≤ gk) with rfl | h
        · simp at q1; omega
        · exact h
      obtain ⟨m, rfl⟩ : ∃ m, gk = m + 2 := ⟨gk - 2, by omega⟩
      go_roundg (m + 1)
      case measure => omega
      case rel =>
        refine ⟨v8, l' ++ [((q % 128 + 128 : Nat) : Int)], q / 128, rfl, rfl, by omega, HX.out, k1.trans K8.out, ?_, by simp; omega, ?_, by omega⟩
        · rw [e1, List.append_assoc]
          show l' ++ Tp.dgF (m + 1) q = _
          rw [Tp.dgF, if_neg (by omega)]
          rfl
        · rw [Nat.div_lt_iff_lt_mul (by decide)]
          rwa [← Nat.pow_succ]
    · have d1 : ((q : Int) / 128 == 0) = true := by simp; omega
      have d2 : (q / 128 == 0) = true := by simp; omega
      have d3 : q / 128 = 0 := by omega
      have d4 : (q : Int) % 128 = q := by omega
      go_wp2_with (at_builtin; refine wpList_append_own_wide _ rfl _ _ 22 rfl base 5 i0 (.int .u8 0) 1 1 Try.underlying22 hi hz0 hz1 hz2 rfl (by decide) _ _ _ rfl (ownLtT HR.out.1 ((Below.refl _ _).alloc (Nat.le_refl _) _)) ⟨wr.heap.size, 0, none⟩ 1 1 [_] rfl rfl (one1 _ _ _) (by intro x hx; simp at hx; subst hx; rfl) H63.out.1 H63.out.2 (by simp; exact Nat.le_trans HBR.out (Nat.le_succ _)) ?_)
      intro v8 w8 h8 g8 o8
      have K8 := hidT (HR.out.1.below HBR.out g8)
      have HX : Hid (OwB w8 base v8 (l' ++ [(q : Int)])) := OwB.of (m := [(q : Int)]) h8 rfl
      clear h8 g8 o8
      go_wp2_with fail
      go_ret
      obtain ⟨o1, k1, e1, n1, q1, p1⟩ := HR.out
      refine ⟨v8, rfl, ?_, k1.trans K8.out⟩
      have e2 : Tp.dgF gk.pred q = [(q : Int)] := by
        cases gk.pred with
        | zero => rfl
        | succ m => rw [Tp.dgF, if_pos (by omega)]
      rw [e1, e2]
      exact HX.out
theorem rNum_any (w : World) (n : Int) (h0 : -9223372036854775808 ≤ n) (h1 : n ≤ 9223372036854775807) :
    Calls Try.prog 13 #[.int .i64 n] w (PuQ w w.heap.size (Tp.dg (Tp.zg n))) := by
  have HP := hidT (rCount_any w (Tp.zg n) (Tp.zg_lt n h0 h1))
  go_enter Try.func13, Try.ntmps13
  go_wp2_with fail
  refine (rZig_any n _ h0 h1).mono ?_
  rintro e w' ⟨rfl, rfl⟩
  go_wp2_with fail
  refine HP.out.mono ?_
  rintro e w' ⟨v', rfl, O, K⟩
  have HO := hidT O
  have HK := hidT K
  clear O K
  go_wp2_with fail
  go_ret
  exact ⟨v', rfl, HO.out, HK.out⟩
set_option maxHeartbeats 2000000 in
theorem rSum_any (b : List Int) (a : Option Addr) (c : Nat) (w : World) (hb : Tp.Byt b) {B : Nat} (hm : ByS B w a b) (hl : b.length ≤ 4611686018427387904) :
    Calls Try.prog 15 #[.slice a b.length c] w fun e w' => e = .returned (.int .u32 (Tp.sum b)) ∧ w' = w := by
  have HB : Hid (Tp.Byt b) := hb
  have HM : Hid (ByS B w a b) := hm
  obtain ⟨n, hn⟩ : ∃ n, n = b.length := ⟨_, rfl⟩
  have HN : Hid (n = b.length) := hn
  rw [← hn] at hl ⊢
  obtain ⟨S, hS⟩ : ∃ S, S = Tp.sum b := ⟨_, rfl⟩
  have HS : Hid (S = Tp.sum b) := hS
  rw [← hS]
  clear hb hm hn hS
  go_enter Try.func15, Try.ntmps15
  go_wp2_with fail
  go_loopg [3, 4, 5] n (fun gk x y i wr => ∃ (j : Nat) (p q : Int), j + gk = n ∧ i = .int .i64 j ∧ x = .int .i64 p ∧ y = .int .i64 q ∧ 0 ≤ p ∧ p < 65521 ∧ 0 ≤ q ∧ q < 65521 ∧ wr = w ∧ Hid (Tp.sm (b.take j) = (p, q)))
  case atStart => exact ⟨0, 1, 0, by omega, rfl, rfl, rfl, by omega, by omega, by omega, by omega, rfl, hidT rfl⟩
  case round =>
    obtain ⟨j, p, q, hj, rfl, rfl, rfl, hp0, hp1, hq0, hq1, rfl, HR⟩ := hrel
    rcases gk with _ | gk
    · obtain rfl : j = n := by omega
      have dk : decide ((j : Int) < (j : Int)) = false := decide_eq_false (by omega)
      go_wp2_with fail
      go_ret
      refine ⟨retI ?_, rfl⟩
      rw [HS.out]
      have hr := HR.out
      rw [List.take_of_length_le (by rw [HN.out]; omega)] at hr
      unfold Tp.sum
      rw [hr]
    · have hlt : j < n := by omega
      have dk : decide ((j : Int) < (n : Int)) = true := decide_eq_true (by omega)
      have dkn : decide (j < n) = true := decide_eq_true hlt
      obtain ⟨x, hx⟩ : ∃ x, b[j]? = some x := ⟨_, List.getElem?_eq_getElem (by rw [← HN.out]; exact hlt)⟩
      obtain ⟨g, o, rfl, hg, hc⟩ := HM.out (by rw [← HN.out]; omega)
      have a0 := hc j x hx
      obtain ⟨hx0, hx1⟩ := HB.out x (List.mem_of_getElem? hx)
      have HT : Hid (b.take (j + 1) = b.take j ++ [x]) := by
        unfold Hid
        rw [List.take_add_one, hx]
        rfl
      clear hx hc
      obtain ⟨p', hp'⟩ : ∃ p', p' = (p + x) % 65521 := ⟨_, rfl⟩
      have HP' := hidT hp'
      have hpb : 0 ≤ p' ∧ p' < 65521 := by omega
      by_cases hs1 : 65521 ≤ p + x
      · have s1 : decide (65521 ≤ p + x) = true := decide_eq_true hs1
        have t1 : p + x - 65521 = p' := by omega
        clear hp'
        by_cases hs2 : 65521 ≤ q + p'
        · have s2 : decide (65521 ≤ q + p') = true := decide_eq_true hs2
          go_wp2_with fail
          go_roundg gk
          case measure => omega
          case rel =>
            refine ⟨j + 1, p', (q + p') % 65521, by omega, by go_num, rfl, ?_, by omega, by omega, by omega, by omega, rfl, ?_⟩
            · exact congrArg _ (by omega)
            · unfold Hid
              rw [HT.out, Tp.sm_app, HR.out, HP'.out]
              rfl
        · have s2 : decide (65521 ≤ q + p') = false := decide_eq_false hs2
          go_wp2_with fail
          go_roundg gk
          case measure => omega
          case rel =>
            refine ⟨j + 1, p', (q + p') % 65521, by omega, by go_num, rfl, ?_, by omega, by omega, by omega, by omega, rfl, ?_⟩
            · exact congrArg _ (by omega)
            · unfold Hid
              rw [HT.out, Tp.sm_app, HR.out, HP'.out]
              rfl
      · have s1 : decide (65521 ≤ p + x) = false := decide_eq_false hs1
        have t1 : p + x = p' := by omega
        clear hp'
        by_cases hs2 : 65521 ≤ q + p'
        · have s2 : decide (65521 ≤ q + p') = true := decide_eq_true hs2
          go_wp2_with fail
          go_roundg gk
          case measure => omega
          case rel =>
            refine ⟨j + 1, p', (q + p') % 65521, by omega, by go_num, ?_, ?_, by omega, by omega, by omega, by omega, rfl, ?_⟩
            · exact congrArg _ (by omega)
            · exact congrArg _ (by omega)
            · unfold Hid
              rw [HT.out, Tp.sm_app, HR.out, HP'.out]
              rfl
        · have s2 : decide (65521 ≤ q + p') = false := decide_eq_false hs2
          go_wp2_with fail
          go_roundg gk
          case measure => omega
          case rel =>
            refine ⟨j + 1, p', (q + p') % 65521, by omega, by go_num, ?_, ?_, by omega, by omega, by omega, by omega, rfl, ?_⟩
            · exact congrArg _ (by omega)
            · exact congrArg _ (by omega)
            · unfold Hid
              rw [HT.out, Tp.sm_app, HR.out, HP'.out]
              rfl
end Go.Proofs.Ytgonadilbjfpkaa
