/- Layer 13: ReadNum and Sum of the program. -/
import Derived.Test.YtgonadilbjfpkaaTpD
namespace Go.Proofs.Ytgonadilbjfpkaa
open Go.RowKit
set_option linter.unusedVariables false
def rnV (k : Nat) : (Nat × Nat) ⊕ Int → Value
  | .inl (z, u) => .tuple #[.int .i64 (Tp.zag z), .int .i64 ((k + u : Nat) : Int), .int .i64 0]
  | .inr x => .tuple #[.int .i64 0, .int .i64 k, .int .i64 x]
theorem readNum_in (b : List Int) (k : Nat) (a : Option Addr) (c : Nat) (w : World) (hb : Tp.Byt b) {B : Nat} (hm : ByS B w a b) (hc : b.length ≤ c) (hl : b.length ≤ 4611686018427387904) (hk : k ≤ b.length) :
    Calls Try.prog 10 #[.slice a b.length c, .int .i64 k] w fun e w' => e = .returned (rnV k (Tp.rdF 0 0 (b.drop k))) ∧ w' = w := by
  have HD := hidT (digits_any b k a c w hb hm hc hl hk)
  have hbk := hb.drop k
  obtain ⟨n, hn⟩ : ∃ n, n = b.length := ⟨_, rfl⟩
  rw [← hn] at hk hl HD ⊢
  cases hr : Tp.rdF 0 0 (b.drop k) with
  | inr x =>
    rw [hr] at HD
    have hx := Tp.rdF_err _ _ _ _ hr
    have qx : (x == 0) = false := by simp; omega
    clear hr hn hm hc hb hbk hx
    go_enter Try.func10, Try.ntmps10
    go_wp2_with fail
    refine HD.out.mono ?_
    rintro e w' ⟨rfl, rfl⟩
    unfold dgV
    go_wp2_with fail
    go_ret3
    exact ⟨rfl, rfl⟩
  | inl p =>
    obtain ⟨z, u⟩ := p
    rw [hr] at HD
    have hz := (Tp.rd_back _ _ _ hbk hr).2.2.2
    clear hr hn hm hc hb hbk
    go_enter Try.func10, Try.ntmps10
    go_wp2_with fail
    refine HD.out.mono ?_
    rintro e w' ⟨rfl, rfl⟩
    unfold dgV
    go_wp2_with fail
    refine (signed_any z hz _).mono ?_
    rintro e w' ⟨rfl, rfl⟩
    go_wp2_with fail
    go_ret3
    exact ⟨rfl, rfl⟩
theorem readNum_out (n : Nat) (k : Int) (a : Option Addr) (c : Nat) (w : World) (hl : n ≤ 4611686018427387904) (hk : k < 0 ∨ (n : Int) < k) :
    Calls Try.prog 10 #[.slice a n c, .int .i64 k] w fun e w' => e = .returned (.tuple #[.int .i64 0, .int .i64 0, .int .i64 1]) ∧ w' = w := by
  by_cases h0 : k < 0
  · have d0 : decide (k < 0) = true := decide_eq_true h0
    clear hk
    go_enter Try.func10, Try.ntmps10
    go_wp2_with fail
    go_ret3
    exact ⟨rfl, rfl⟩
  · have d0 : decide (k < 0) = false := decide_eq_false h0
    have h1 : (n : Int) < k := by omega
    have d1 : decide ((n : Int) < k) = true := decide_eq_true h1
    clear hk
    go_enter Try.func10, Try.ntmps10
    go_wp2_with fail
    go_ret3
    exact ⟨rfl, rfl⟩
set_option maxHeartbeats 1000000 in
theorem sumP_any (b : List Int) (a : Option Addr) (c : Nat) (w : World) (hb : Tp.Byt b) {B : Nat} (hm : ByS B w a b) (hl : b.length ≤ 4611686018427387904) :
    Calls Try.prog 14 #[.slice a b.length c] w fun e w' => e = .returned (.int .u32 (Tp.sum b)) ∧ w' = w := by
  have HB : Hid (Tp.Byt b) := hb
  have HM : Hid (ByS B w a b) := hm
  obtain ⟨n, hn⟩ : ∃ n, n = b.length := ⟨_, rfl⟩
  have HN : Hid (n = b.length) := hn
  rw [← hn] at hl ⊢
  obtain ⟨S, hS⟩ : ∃ S, S = Tp.sum b := ⟨_, rfl⟩
  have HS : Hid (S = Tp.sum b) := hS
  rw [← hS]
  clear hb hm hn hS
  go_enter Try.func14, Try.ntmps14
  go_wp2_with fail
  go_loopg [3, 4, 9] n (fun gk x y i wr => ∃ (j : Nat) (p q : Int), j + gk = n ∧ i = .int .i64 j ∧ x = .int .u32 p ∧ y = .int .u32 q ∧ 0 ≤ p ∧ p < 65521 ∧ 0 ≤ q ∧ q < 65521 ∧ wr = w ∧ Hid (Tp.sm (b.take j) = (p, q)))
  case atStart => exact ⟨0, 1, 0, by omega, rfl, rfl, rfl, by omega, by omega, by omega, by omega, rfl, hidT rfl⟩
  case round =>
    obtain ⟨j, p, q, hj, rfl, rfl, rfl, hp0, hp1, hq0, hq1, rfl, HR⟩ := hrel
    rcases gk with _ | gk
    · obtain rfl : j = n := by omega
      have dk : decide ((j : Int) < (j : Int)) = false := decide_eq_false (by omega)
      go_wp2_with fail
      go_ret
      refine ⟨retI ?_, rfl⟩
      rw [HS.out]
      have hr := HR.out
      rw [List.take_of_length_le (by rw [HN.out]; omega)] at hr
      unfold Tp.sum
      rw [hr]
      have h := or_u32 p.toNat q.toNat 16 (by omega) (by omega)
      have e1 : ((q.toNat * 2 ^ 16 : Nat) : Int) = q * 65536 := by omega
      have e2 : ((p.toNat : Nat) : Int) = p := by omega
      have e3 : ((p.toNat + q.toNat * 2 ^ 16 : Nat) : Int) = q * 65536 + p := by omega
      rw [e1, e2, e3] at h
      exact h
    · have hlt : j < n := by omega
      have dk : decide ((j : Int) < (n : Int)) = true := decide_eq_true (by omega)
      have dkn : decide (j < n) = true := decide_eq_true hlt
      obtain ⟨x, hx⟩ : ∃ x, b[j]? = some x := ⟨_, List.getElem?_eq_getElem (by rw [← HN.out]; exact hlt)⟩
      obtain ⟨g, o, rfl, hg, hc⟩ := HM.out (by rw [← HN.out]; omega)
      have a0 := hc j x hx
      obtain ⟨hx0, hx1⟩ := HB.out x (List.mem_of_getElem? hx)
      have HT : Hid (b.take (j + 1) = b.take j ++ [x]) := by
        unfold Hid
        rw [List.take_add_one, hx]
        rfl
      clear hx hc
      go_wp2_with fail
      go_roundg gk
      case measure => omega
      case rel =>
        refine ⟨j + 1, (p + x) % 65521, (q + (p + x) % 65521) % 65521, by omega, by go_num, ?_, ?_, by omega, by omega, by omega, by omega, rfl, ?_⟩
        · rfl
        · rfl
        · unfold Hid
          rw [HT.out, Tp.sm_app, HR.out]
          rfl
end Go.Proofs.Ytgonadilbjfpkaa
