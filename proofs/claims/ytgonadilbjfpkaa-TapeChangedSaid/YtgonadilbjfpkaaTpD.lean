/- Layer 13: digits: the count that stands at a place. -/
import Derived.Test.YtgonadilbjfpkaaTpA
namespace Go.Proofs.Ytgonadilbjfpkaa
open Go.RowKit
set_option linter.unusedVariables false
def dgV (k : Nat) : (Nat × Nat) ⊕ Int → Value
  | .inl (z, u) => .tuple #[.int .u64 z, .int .i64 ((k + u : Nat) : Int), .int .i64 0]
  | .inr x => .tuple #[.int .u64 0, .int .i64 0, .int .i64 x]
theorem dgOr (x : Int) (y j : Nat) (h0 : 0 ≤ x) (h1 : x ≤ 255) (hy : y < 128 ^ j) (hj : j ≤ 8 ∨ (j = 9 ∧ x ≤ 1)) : bits .or .u64 (y : Int) (IntKind.u64.wrap ((x % 128) * 2 ^ (7 * j))) = ((y + x.toNat % 128 * 128 ^ j : Nat) : Int) ∧ y + x.toNat % 128 * 128 ^ j < 128 ^ (j + 1) := by
  have e7 : (128 : Nat) ^ j = 2 ^ (7 * j) := by rw [Nat.pow_mul]
  have b1 : x.toNat % 128 * 128 ^ j + 128 ^ j ≤ 128 ^ (j + 1) := by
    have : (x.toNat % 128 + 1) * 128 ^ j ≤ 128 * 128 ^ j := Nat.mul_le_mul_right _ (by omega)
    rw [Nat.pow_succ, Nat.mul_comm (128 ^ j) 128]
    rw [Nat.add_mul, Nat.one_mul] at this
    exact this
  have b3 : y + x.toNat % 128 * 128 ^ j < 18446744073709551616 := by
    rcases hj with hj | ⟨rfl, hx⟩
    · have : 128 ^ (j + 1) ≤ 128 ^ 9 := Nat.pow_le_pow_right (by decide) (by omega)
      have e9 : (128 : Nat) ^ 9 = 9223372036854775808 := by decide
      omega
    · have : x.toNat % 128 ≤ 1 := by omega
      have e9 : (128 : Nat) ^ 9 = 9223372036854775808 := by decide
      rw [e9] at hy ⊢
      omega
  refine ⟨?_, by omega⟩
  have ex : (x % 128) * 2 ^ (7 * j) = ((x.toNat % 128 * 2 ^ (7 * j) : Nat) : Int) := by
    have : x % 128 = ((x.toNat % 128 : Nat) : Int) := by omega
    rw [this, Int.natCast_mul, Int.natCast_pow]
    rfl
  rw [e7] at hy b3 ⊢
  have ew : IntKind.u64.wrap ((x.toNat % 128 * 2 ^ (7 * j) : Nat) : Int) = ((x.toNat % 128 * 2 ^ (7 * j) : Nat) : Int) := by
    rw [IntKind.wrap_u64]
    generalize x.toNat % 128 * 2 ^ (7 * j) = q at b3 ⊢
    omega
  rw [ex, ew]
  exact or_u64 y _ _ hy b3
set_option maxHeartbeats 2000000 in
theorem digits_end (n : Nat) (a : Option Addr) (c : Nat) (w : World) (hc : n ≤ c) (hl : n ≤ 4611686018427387904) :
    Calls Try.prog 29 #[.slice a n c, .int .i64 n] w fun e w' => e = .returned (.tuple #[.int .u64 0, .int .i64 0, .int .i64 112]) ∧ w' = w := by
  have hs : n - n = 0 := Nat.sub_self n
  have D0 : decide ((0 : Int) < 0) = false := by decide
  rcases Nat.lt_or_ge n c with hz | hz
  · have hz1 : ¬ c = n := by omega
    have hz2 : (c - n == 0) = false := by simp; omega
    go_enter Try.func29, Try.ntmps29
    go_wp2_with fail
    go_loopg [14] 0 (fun gk i wr => i = .int .i64 0 ∧ wr = w)
    case atStart => exact ⟨rfl, rfl⟩
    case round =>
      obtain ⟨rfl, rfl⟩ := hrel
      go_wp2_with fail
      go_ret3
      exact ⟨rfl, rfl⟩
  · have hz1 : c = n := by omega
    subst hz1
    go_enter Try.func29, Try.ntmps29
    go_wp2_with fail
    go_loopg [14] 0 (fun gk i wr => i = .int .i64 0 ∧ wr = w)
    case atStart => exact ⟨rfl, rfl⟩
    case round =>
      obtain ⟨rfl, rfl⟩ := hrel
      go_wp2_with fail
      go_ret3
      exact ⟨rfl, rfl⟩
set_option maxHeartbeats 4000000 in
theorem digits_in (b : List Int) (k : Nat) (g o : Nat) (c : Nat) (w : World) (hb : Tp.Byt b) (hm : ∀ j x, b[j]? = some x → w.cell? ⟨g, o + j, none⟩ = some (.int .u8 x)) (hc : b.length ≤ c) (hl : b.length ≤ 4611686018427387904) (hk : k < b.length) :
    Calls Try.prog 29 #[.slice (some ⟨g, o, none⟩) b.length c, .int .i64 k] w fun e w' => e = .returned (dgV k (Tp.rdF 0 0 (b.drop k))) ∧ w' = w := by
  have HB : Hid (Tp.Byt b) := hb
  have HM : Hid (∀ j x, b[j]? = some x → w.cell? ⟨g, o + j, none⟩ = some (.int .u8 x)) := hm
  obtain ⟨n, hn⟩ : ∃ n, n = b.length := ⟨_, rfl⟩
  have HN : Hid (n = b.length) := hn
  rw [← hn] at hl hk hc ⊢
  obtain ⟨post, hpost⟩ : ∃ p, p = dgV k (Tp.rdF 0 0 (b.drop k)) := ⟨_, rfl⟩
  have HP : Hid (post = dgV k (Tp.rdF 0 0 (b.drop k))) := hpost
  rw [← hpost]
  clear hb hm hn hpost
  have hz1 : ¬ c = k := by omega
  have hz2 : (c - k == 0) = false := by simp; omega
  obtain ⟨m, hm⟩ : ∃ m, n - k = m := ⟨_, rfl⟩
  have hmk : Hid (n = k + m) := by unfold Hid; omega
  have hml : m ≤ 4611686018427387904 := by omega
  go_enter Try.func29, Try.ntmps29
  go_wp2_with fail
  go_loopg [7, 14] m (fun gk z i wr => ∃ (j y : Nat), j + gk = m ∧ j ≤ 9 ∧ i = .int .i64 j ∧ z = .int .u64 y ∧ Hid (y < 128 ^ j) ∧ wr = w ∧ Hid (Tp.rdF 0 0 (b.drop k) = Tp.rdF j y (b.drop (k + j))))
  case atStart => exact ⟨0, 0, by omega, by omega, rfl, rfl, by unfold Hid; decide, rfl, hidT rfl⟩
  case round =>
    obtain ⟨j, y, hj, hj9, rfl, rfl, HY, rfl, HR⟩ := hrel
    rcases gk with _ | gk
    · obtain rfl : j = m := by omega
      have dk : decide ((j : Int) < (j : Int)) = false := decide_eq_false (by omega)
      go_wp2_with fail
      go_ret3
      refine ⟨?_, rfl⟩
      rw [HP.out, HR.out, List.drop_eq_nil_of_le (by have := HN.out; have := hmk.out; omega)]
      rfl
    · have hlt : j < m := by omega
      have dk : decide ((j : Int) < (m : Int)) = true := decide_eq_true (by omega)
      have dkn : decide (j < m) = true := decide_eq_true hlt
      obtain ⟨x, hx⟩ : ∃ x, b[k + j]? = some x := ⟨_, List.getElem?_eq_getElem (by have := HN.out; have := hmk.out; omega)⟩
      have hdr : b.drop (k + j) = x :: b.drop (k + (j + 1)) := by
        rw [List.getElem?_eq_some_iff] at hx
        obtain ⟨h1, h2⟩ := hx
        rw [← h2, List.drop_eq_getElem_cons h1]
        rfl
      have a0 : wr.cell? ⟨g, o + k + j, none⟩ = some (.int .u8 x) := by rw [Nat.add_assoc]; exact HM.out _ _ hx
      have a1 : wr.cell? ⟨g, o + (k + j), none⟩ = some (.int .u8 x) := HM.out _ _ hx
      have hxb := HB.out x (List.mem_of_getElem? hx)
      have HD : Hid (b.drop (k + j) = x :: b.drop (k + (j + 1))) := hdr
      clear hdr hx
      obtain ⟨hx0, hx1⟩ := hxb
      rcases (by omega : (j = 9 ∧ 1 < x) ∨ (j = 9 ∧ x = 0) ∨ (j = 9 ∧ x = 1) ∨ (j < 9 ∧ 0 < j ∧ x = 0) ∨ (j < 9 ∧ j = 0 ∧ x < 128) ∨ (j < 9 ∧ 0 < j ∧ x ≠ 0 ∧ x < 128) ∨ (j < 9 ∧ j = 0 ∧ 128 ≤ x) ∨ (j < 9 ∧ 0 < j ∧ 128 ≤ x)) with H | H | H | H | H | H | H | H
      · have HH := hidT H
        obtain ⟨h9, h1⟩ := H
        have q9 : ((j : Int) == 9) = true := by simp [h9]
        have q1 : decide (1 < x) = true := decide_eq_true h1
        clear h9 h1
        go_wp2_with fail
        go_ret3
        refine ⟨?_, rfl⟩
        have H := HH.out
        rw [HP.out, HR.out, HD.out, Tp.rdF, if_pos (by omega)]
        rfl
      · have HH := hidT H
        obtain ⟨h9, h1⟩ := H
        have q9 : ((j : Int) == 9) = true := by simp [h9]
        have q1 : decide (1 < x) = false := decide_eq_false (by omega)
        have q2 : decide (0 < (j : Int)) = true := decide_eq_true (by omega)
        have q2n : decide (0 < j) = true := decide_eq_true (by omega)
        have q2m : 0 < j := by omega
        have q3 : (x == 0) = true := by simp [h1]
        clear h9 h1
        go_wp2_with fail
        go_ret3
        refine ⟨?_, rfl⟩
        have H := HH.out
        rw [HP.out, HR.out, HD.out, Tp.rdF, if_pos (by omega)]
        rfl
      · have HH := hidT H
        obtain ⟨h9, h1⟩ := H
        have q9 : ((j : Int) == 9) = true := by simp [h9]
        have q1 : decide (1 < x) = false := decide_eq_false (by omega)
        have q2 : decide (0 < (j : Int)) = true := decide_eq_true (by omega)
        have q2n : decide (0 < j) = true := decide_eq_true (by omega)
        have q2m : 0 < j := by omega
        have q3 : (x == 0) = false := by simp [h1]
        have q4 : decide (x < 128) = true := decide_eq_true (by omega)
        have QO := hidT (dgOr x y j hx0 hx1 HY.out (by omega))
        clear h9 h1
        go_wp2_with fail
        go_ret3
        refine ⟨?_, rfl⟩
        have H := HH.out
        rw [HP.out, HR.out, HD.out, Tp.rdF, if_neg (by omega), if_pos (by omega)]
        have e1 : x.toNat % 128 = x.toNat := by omega
        have q := QO.out.1
        rw [e1] at q
        rw [q]
        have e2 : ((k : Int) + j + 1) = ((k + (j + 1) : Nat) : Int) := by omega
        rw [e2]
        rfl
      · have HH := hidT H
        obtain ⟨h9, h0, h1⟩ := H
        have q9 : ((j : Int) == 9) = false := by simp; omega
        have q2 : decide (0 < (j : Int)) = true := decide_eq_true (by omega)
        have q2n : decide (0 < j) = true := decide_eq_true (by omega)
        have q2m : 0 < j := by omega
        have q3 : (x == 0) = true := by simp [h1]
        clear h9 h0 h1
        go_wp2_with fail
        go_ret3
        refine ⟨?_, rfl⟩
        have H := HH.out
        rw [HP.out, HR.out, HD.out, Tp.rdF, if_pos (by omega)]
        rfl
      · have HH := hidT H
        obtain ⟨h9, h0, h1⟩ := H
        have q9 : ((j : Int) == 9) = false := by simp; omega
        have q2 : decide (0 < (j : Int)) = false := decide_eq_false (by omega)
        have q2n : decide (0 < j) = false := decide_eq_false (by omega)
        have q2m : ¬ 0 < j := by omega
        have q4 : decide (x < 128) = true := decide_eq_true (by omega)
        have QO := hidT (dgOr x y j hx0 hx1 HY.out (by omega))
        clear h9 h0 h1
        go_wp2_with fail
        go_ret3
        refine ⟨?_, rfl⟩
        have H := HH.out
        rw [HP.out, HR.out, HD.out, Tp.rdF, if_neg (by omega), if_pos (by omega)]
        have e1 : x.toNat % 128 = x.toNat := by omega
        have q := QO.out.1
        rw [e1] at q
        rw [q]
        have e2 : ((k : Int) + j + 1) = ((k + (j + 1) : Nat) : Int) := by omega
        rw [e2]
        rfl
      · have HH := hidT H
        obtain ⟨h9, h0, h2, h1⟩ := H
        have q9 : ((j : Int) == 9) = false := by simp; omega
        have q2 : decide (0 < (j : Int)) = true := decide_eq_true (by omega)
        have q2n : decide (0 < j) = true := decide_eq_true (by omega)
        have q2m : 0 < j := by omega
        have q3 : (x == 0) = false := by simpa using h2
        have q4 : decide (x < 128) = true := decide_eq_true (by omega)
        have QO := hidT (dgOr x y j hx0 hx1 HY.out (by omega))
        clear h9 h0 h2 h1
        go_wp2_with fail
        go_ret3
        refine ⟨?_, rfl⟩
        have H := HH.out
        rw [HP.out, HR.out, HD.out, Tp.rdF, if_neg (by omega), if_pos (by omega)]
        have e1 : x.toNat % 128 = x.toNat := by omega
        have q := QO.out.1
        rw [e1] at q
        rw [q]
        have e2 : ((k : Int) + j + 1) = ((k + (j + 1) : Nat) : Int) := by omega
        rw [e2]
        rfl
      · have HH := hidT H
        obtain ⟨h9, h0, h1⟩ := H
        have q9 : ((j : Int) == 9) = false := by simp; omega
        have q2 : decide (0 < (j : Int)) = false := decide_eq_false (by omega)
        have q2n : decide (0 < j) = false := decide_eq_false (by omega)
        have q2m : ¬ 0 < j := by omega
        have q4 : decide (x < 128) = false := decide_eq_false (by omega)
        have QO := hidT (dgOr x y j hx0 hx1 HY.out (by omega))
        clear h9 h0 h1
        go_wp2_with fail
        go_roundg gk
        case measure => omega
        case rel =>
          have H := HH.out
          have e1 : x.toNat % 128 = x.toNat - 128 := by omega
          refine ⟨j + 1, y + (x.toNat - 128) * 128 ^ j, by omega, by omega, by go_num, ?_, ?_, rfl, ?_⟩
          · have q := QO.out.1
            rw [e1] at q
            rw [q]
          · have q := QO.out.2
            rw [e1] at q
            exact q
          · rw [HR.out, HD.out, Tp.rdF, if_neg (by omega), if_neg (by omega)]
            exact hidT rfl
      · have HH := hidT H
        obtain ⟨h9, h0, h1⟩ := H
        have q9 : ((j : Int) == 9) = false := by simp; omega
        have q2 : decide (0 < (j : Int)) = true := decide_eq_true (by omega)
        have q2n : decide (0 < j) = true := decide_eq_true (by omega)
        have q2m : 0 < j := by omega
        have q3 : (x == 0) = false := by simp; omega
        have q4 : decide (x < 128) = false := decide_eq_false (by omega)
        have QO := hidT (dgOr x y j hx0 hx1 HY.out (by omega))
        clear h9 h0 h1
        go_wp2_with fail
        go_roundg gk
        case measure => omega
        case rel =>
          have H := HH.out
          have e1 : x.toNat % 128 = x.toNat - 128 := by omega
          refine ⟨j + 1, y + (x.toNat - 128) * 128 ^ j, by omega, by omega, by go_num, ?_, ?_, rfl, ?_⟩
          · have q := QO.out.1
            rw [e1] at q
            rw [q]
          · have q := QO.out.2
            rw [e1] at q
            exact q
          · rw [HR.out, HD.out, Tp.rdF, if_neg (by omega), if_neg (by omega)]
            exact hidT rfl
theorem digits_any (b : List Int) (k : Nat) (a : Option Addr) (c : Nat) (w : World) (hb : Tp.Byt b) {B : Nat} (hm : ByS B w a b) (hc : b.length ≤ c) (hl : b.length ≤ 4611686018427387904) (hk : k ≤ b.length) :
    Calls Try.prog 29 #[.slice a b.length c, .int .i64 k] w fun e w' => e = .returned (dgV k (Tp.rdF 0 0 (b.drop k))) ∧ w' = w := by
  rcases Nat.lt_or_ge k b.length with h | h
  · obtain ⟨g, o, rfl, _, hm⟩ := hm (by omega)
    exact digits_in b k g o c w hb hm hc hl h
  · obtain rfl : k = b.length := by omega
    rw [List.drop_length]
    exact digits_end _ a c w hc hl
end Go.Proofs.Ytgonadilbjfpkaa
