/- Among; the lengths of SynDeep's texts. -/
/- SynDeep walked, for the way number 0. -/
/- SynDeep walked, for the way number 1. -/
/- SynDeep walked, for the way number 2. -/
import Derived.Test.YtlhklpnkelcnbaaGreatDoorSyoJ
import Derived.Test.YtlhklpnkelcnbaaGreatDoorGrC
namespace Go.Proofs.YtlhklpnkelcnbaaGreatDoor
open Go.RowKit

set_option maxRecDepth 100000 in
set_option maxHeartbeats 1000000 in
/-- Among is a function of its arguments. -/
theorem among_det (a n : Int) (hn : 0 < n) (hn2 : n ≤ 1000000) : ∃ r : Nat, (r : Int) < n ∧ ∀ w, Calls Tryz.prog 8 #[.int .i64 a, .int .i64 n] w fun e w' => e = .returned (.int .i64 (r : Int)) ∧ w' = w := by
  have hb1 := Int.tmod_lt_of_pos a hn
  have hb2 := Int.lt_tmod_of_pos a hn
  generalize hq : a.tmod n = q at hb1 hb2
  by_cases h0 : 0 ≤ q
  · refine ⟨q.toNat, by omega, fun w => ?_⟩
    go_enter Tryz.func8, Tryz.ntmps8
    go_wp2
    go_ret
    exact ⟨by rw [Int.toNat_of_nonneg h0]; rfl, rfl⟩
  · obtain ⟨r, hr⟩ : ∃ r : Nat, q + n = (r : Int) := ⟨(q + n).toNat, by omega⟩
    refine ⟨r, by omega, fun w => ?_⟩
    have HR : Hid (q + n = (r : Int)) := hr
    clear hr
    go_enter Tryz.func8, Tryz.ntmps8
    go_wp2
    go_ret
    exact ⟨by rw [← HR.out]; rfl, rfl⟩
theorem bytes_of {t : ByteArray} {l : List UInt8} (h : t.data.toList = l) : t = ⟨l.toArray⟩ := by
  cases t with
  | mk a => simp only at h; subst h; simp
theorem size_of {s : ByteArray} {l : List UInt8} (h : s.data.toList = l) : s.size = l.length := by rw [← h, size_len']
theorem sN_len {h : Nat} (hl : (opn h).length + (cls h).length ≤ 8) : ∀ k, (sN h k).length ≤ 1 + 8 * k
  | 0 => by simp [sN]
  | k + 1 => by
    have ih := sN_len hl k
    rw [sN, List.length_append, List.length_append]
    omega
end Go.Proofs.YtlhklpnkelcnbaaGreatDoor

namespace Go.Proofs.YtlhklpnkelcnbaaGreatDoor
open Go.RowKit

set_option maxRecDepth 100000 in
set_option maxHeartbeats 4000000 in
theorem deep0 (ck : ∀ n, n < 90 → chk 0 n = true) (n how : Int) (r : Nat) (hr : r < 90) (ea : ∀ w, Calls Tryz.prog 8 #[.int .i64 n, .int .i64 90] w fun e w' => e = .returned (.int .i64 (r : Int)) ∧ w' = w) (eb : ∀ w, Calls Tryz.prog 8 #[.int .i64 how, .int .i64 5] w fun e w' => e = .returned (.int .i64 0) ∧ w' = w) (w : World) (hk : Kw w) (ht : Tab w) :
    Calls Tryz.prog 4 #[.int .i64 n, .int .i64 how] w fun e w' => e = .returned (.bool true) ∧ Below w.heap.size w w' := by
  have EA : Hid (∀ w, Calls Tryz.prog 8 #[.int .i64 n, .int .i64 90] w fun e w' => e = .returned (.int .i64 (r : Int)) ∧ w' = w) := ea
  have EB : Hid (∀ w, Calls Tryz.prog 8 #[.int .i64 how, .int .i64 5] w fun e w' => e = .returned (.int .i64 0) ∧ w' = w) := eb
  have HK : Hid (Kw w) := hk
  have HT : Hid (Tab w) := ht
  have CK : Hid _ := chk_out (ck r hr)
  have hwr : IntKind.i64.wrap ((r : Int) + 1) = (r : Int) + 1 := by rw [IntKind.wrap_i64]; omega
  clear ea eb hk ht ck
  go_enter Tryz.func4, Tryz.ntmps4
  go_wp2_with fail
  refine (EA.out _).mono ?_
  rintro e w1 ⟨rfl, hw⟩
  rw [hw]
  clear hw w1
  go_wp2_with fail
  refine (EB.out _).mono ?_
  rintro e w1 ⟨rfl, hw⟩
  rw [hw]
  clear hw w1
  go_wp2_with fail
  refine (EB.out _).mono ?_
  rintro e w1 ⟨rfl, hw⟩
  rw [hw]
  clear hw w1
  go_wp2_with fail
  have b0 : Below w.heap.size w ((w.alloc (.cells #[.string ⟨#[40, 32]⟩, .string ⟨#[45, 32]⟩, .string ⟨#[33, 32]⟩, .string ⟨#[97, 32, 91, 32]⟩, .string ⟨#[49, 32, 43, 32, 40, 32]⟩] 9)).alloc (.cells #[.string ⟨#[32, 41]⟩, .string ⟨#[]⟩, .string ⟨#[]⟩, .string ⟨#[32, 93]⟩, .string ⟨#[32, 41]⟩] 9)) := by go_grown
  generalize (w.alloc (.cells #[.string ⟨#[40, 32]⟩, .string ⟨#[45, 32]⟩, .string ⟨#[33, 32]⟩, .string ⟨#[97, 32, 91, 32]⟩, .string ⟨#[49, 32, 43, 32, 40, 32]⟩] 9)).alloc (.cells #[.string ⟨#[32, 41]⟩, .string ⟨#[]⟩, .string ⟨#[]⟩, .string ⟨#[32, 93]⟩, .string ⟨#[32, 41]⟩] 9) = W at *
  have B0 : Hid _ := b0
  clear b0
  go_loop [7, 8] (fun s i => ∃ (k : Nat) (t : ByteArray), k ≤ r ∧ i = .int .i64 k ∧ s = .string t ∧ Hid (t.data.toList = sN 0 k)) (fun _ i => r - (intOf i).toNat)
  case atStart => exact ⟨0, ⟨#[48]⟩, by omega, rfl, rfl, rfl⟩
  case round =>
    obtain ⟨k, t, hkr, rfl, rfl, HS⟩ := hrel
    by_cases hlt : k < r
    · have HS' : Hid ((⟨#[40, 32]⟩ ++ t ++ ⟨#[32, 41]⟩ : ByteArray).data.toList = sN 0 (k + 1)) := by unfold Hid; simp [HS.out, sN, opn, cls]
      have hwk : IntKind.i64.wrap ((k : Int) + 1) = (k : Int) + 1 := by rw [IntKind.wrap_i64]; omega
      have hki : (k : Int) < (r : Int) := by omega
      have z1 : (⟨#[40, 32]⟩ : ByteArray).size = 2 := rfl
      have z2 : (⟨#[32, 41]⟩ : ByteArray).size = 2 := rfl
      have zt : t.size ≤ 800 := by
        have e := sN_len (h := 0) (by decide) k
        have e2 : t.size = (sN 0 k).length := size_of HS.out
        omega
      go_wp2_with fail
      refine ⟨⟨k + 1, _, by omega, by go_num, rfl, ?_⟩, by simp [intOf]; omega⟩
      first | exact HS' | (have e := HS'.out; simpa [Hid] using e)
    · obtain rfl : k = r := by omega
      obtain rfl := bytes_of HS.out
      clear HS
      have hki : ¬ ((k : Int) < (k : Int)) := by omega
      obtain ⟨R, hsc, hRn, hlen, hor⟩ := CK.out
      have hsz : (ByteArray.mk (sN 0 k).toArray).size ≤ 16384 := by simpa [ByteArray.size] using hlen
      rcases hor with ⟨h60, hbd⟩ | ⟨h60, y, kk, ws, dp, hbd, hkk, hkd, hrx, hwx, hdp, hwl, hjl, hj⟩
      · have E1 : Hid _ := Expr_bad ⟨(sN 0 k).toArray⟩ R 600 120 31 W (HK.out.later B0.out) hsz hsc hRn hbd (by decide)
        have g60 : (60 : Int) < (k : Int) + 1 := by omega
        clear hsc hRn hlen hbd hsz CK
        go_wp2_with fail
        refine Calls.mono E1.out ?_
        rintro e w1 ⟨rfl, b1⟩
        have B1 : Hid (Below w.heap.size w (w1.alloc (.cells #[.int .i64 0, .string ⟨#[]⟩, .int .i64 0, .slice none 0 0] 25))) := (B0.out.trans (b1.mono B0.out.size)).trans ((box_below w1 _).mono (B0.out.trans (b1.mono B0.out.size)).size)
        clear b1
        go_wp2_with fail
        refine Calls.mono (known3 _ (HK.out.later B1.out) (HT.out.later B1.out (Nat.le_refl _))) ?_
        rintro e w2 ⟨rfl, b2⟩
        have B2 : Hid (Below w.heap.size w w2) := B1.out.trans (b2.mono B1.out.size)
        clear b2
        go_wp2_with fail
        go_ret
        exact ⟨rfl, B2.out⟩
      · obtain ⟨yk, yn, ym, yl⟩ := y
        have E1 : Hid _ := Expr_ok ⟨(sN 0 k).toArray⟩ R 600 (.mk yk yn ym yl) kk W (HK.out.later B0.out) hsz hsc hRn hbd hkk hkd
        have g60 : ¬ ((60 : Int) < (k : Int) + 1) := by omega
        have HP : Hid (∀ (sa : Option Addr) (sn sc : Nat) (V : World), Kw V → Tab V → ExS (fun g => W.heap.size ≤ g) V (.slice sa sn sc) yl → Calls Tryz.prog 10 #[.agg #[.int .i64 yk, .string ⟨yn.toArray⟩, .int .i64 ym, .slice sa sn sc]] V fun e w' => e = .returned (.tuple #[.string ⟨(Lib.join ws [32]).toArray⟩, .int .i64 0]) ∧ Below V.heap.size V w') := fun sa sn sc V h1 h2 h3 => PrintExpr_ok _ 200 yk yn ym sa sn sc yl ws dp V h1 h2 h3 hrx hwx (by decide) hdp hwl hjl
        have hj2 : Lib.join ws [32] = [48] := hj
        rw [hj2] at HP
        clear hj hj2
        clear hsc hRn hlen hbd hsz CK hkk hkd hrx hwx hdp hwl hjl
        go_wp2_with fail
        refine Calls.mono E1.out ?_
        rintro e w1 ⟨k1, n1, m1, sa, sn, sc, l1, he, rfl, X1, b1⟩
        injection he with q1 q2 q3 q4
        subst q1 q2 q3 q4
        have B1 : Hid (Below w.heap.size w (w1.alloc (.cells #[.int .i64 yk, .string ⟨yn.toArray⟩, .int .i64 ym, .slice sa sn sc] 25))) := (B0.out.trans (b1.mono B0.out.size)).trans ((box_below w1 _).mono (B0.out.trans (b1.mono B0.out.size)).size)
        have E2 : Hid _ := HP.out sa sn sc (w1.alloc (.cells #[.int .i64 yk, .string ⟨yn.toArray⟩, .int .i64 ym, .slice sa sn sc] 25)) (HK.out.later B1.out) (HT.out.later B1.out (Nat.le_refl _)) (X1.later (box_below _ _) (Nat.le_refl _))
        clear b1 X1 HP
        go_wp2_with fail
        refine Calls.mono E2.out ?_
        rintro e w2 ⟨rfl, b2⟩
        have B2 : Hid (Below w.heap.size w w2) := B1.out.trans (b2.mono B1.out.size)
        clear b2
        go_wp2_with fail
        refine (EB.out _).mono ?_
        rintro e w9 ⟨rfl, hw⟩
        rw [hw]
        clear hw w9
        go_wp2_with fail
        refine Calls.mono (known3 _ (HK.out.later B2.out) (HT.out.later B2.out (Nat.le_refl _))) ?_
        rintro e w3 ⟨rfl, b3⟩
        have B3 : Hid (Below w.heap.size w w3) := B2.out.trans (b3.mono B2.out.size)
        clear b3
        go_wp2_with fail
        go_ret
        exact ⟨rfl, B3.out⟩
end Go.Proofs.YtlhklpnkelcnbaaGreatDoor

namespace Go.Proofs.YtlhklpnkelcnbaaGreatDoor
open Go.RowKit

set_option maxRecDepth 100000 in
set_option maxHeartbeats 4000000 in
theorem deep1 (ck : ∀ n, n < 90 → chk 1 n = true) (n how : Int) (r : Nat) (hr : r < 90) (ea : ∀ w, Calls Tryz.prog 8 #[.int .i64 n, .int .i64 90] w fun e w' => e = .returned (.int .i64 (r : Int)) ∧ w' = w) (eb : ∀ w, Calls Tryz.prog 8 #[.int .i64 how, .int .i64 5] w fun e w' => e = .returned (.int .i64 1) ∧ w' = w) (w : World) (hk : Kw w) (ht : Tab w) :
    Calls Tryz.prog 4 #[.int .i64 n, .int .i64 how] w fun e w' => e = .returned (.bool true) ∧ Below w.heap.size w w' := by
  have EA : Hid (∀ w, Calls Tryz.prog 8 #[.int .i64 n, .int .i64 90] w fun e w' => e = .returned (.int .i64 (r : Int)) ∧ w' = w) := ea
  have EB : Hid (∀ w, Calls Tryz.prog 8 #[.int .i64 how, .int .i64 5] w fun e w' => e = .returned (.int .i64 1) ∧ w' = w) := eb
  have HK : Hid (Kw w) := hk
  have HT : Hid (Tab w) := ht
  have CK : Hid _ := chk_out (ck r hr)
  have hwr : IntKind.i64.wrap ((r : Int) + 1) = (r : Int) + 1 := by rw [IntKind.wrap_i64]; omega
  clear ea eb hk ht ck
  go_enter Tryz.func4, Tryz.ntmps4
  go_wp2_with fail
  refine (EA.out _).mono ?_
  rintro e w1 ⟨rfl, hw⟩
  rw [hw]
  clear hw w1
  go_wp2_with fail
  refine (EB.out _).mono ?_
  rintro e w1 ⟨rfl, hw⟩
  rw [hw]
  clear hw w1
  go_wp2_with fail
  refine (EB.out _).mono ?_
  rintro e w1 ⟨rfl, hw⟩
  rw [hw]
  clear hw w1
  go_wp2_with fail
  have b0 : Below w.heap.size w ((w.alloc (.cells #[.string ⟨#[40, 32]⟩, .string ⟨#[45, 32]⟩, .string ⟨#[33, 32]⟩, .string ⟨#[97, 32, 91, 32]⟩, .string ⟨#[49, 32, 43, 32, 40, 32]⟩] 9)).alloc (.cells #[.string ⟨#[32, 41]⟩, .string ⟨#[]⟩, .string ⟨#[]⟩, .string ⟨#[32, 93]⟩, .string ⟨#[32, 41]⟩] 9)) := by go_grown
  generalize (w.alloc (.cells #[.string ⟨#[40, 32]⟩, .string ⟨#[45, 32]⟩, .string ⟨#[33, 32]⟩, .string ⟨#[97, 32, 91, 32]⟩, .string ⟨#[49, 32, 43, 32, 40, 32]⟩] 9)).alloc (.cells #[.string ⟨#[32, 41]⟩, .string ⟨#[]⟩, .string ⟨#[]⟩, .string ⟨#[32, 93]⟩, .string ⟨#[32, 41]⟩] 9) = W at *
  have B0 : Hid _ := b0
  clear b0
  go_loop [7, 8] (fun s i => ∃ (k : Nat) (t : ByteArray), k ≤ r ∧ i = .int .i64 k ∧ s = .string t ∧ Hid (t.data.toList = sN 1 k)) (fun _ i => r - (intOf i).toNat)
  case atStart => exact ⟨0, ⟨#[48]⟩, by omega, rfl, rfl, rfl⟩
  case round =>
    obtain ⟨k, t, hkr, rfl, rfl, HS⟩ := hrel
    by_cases hlt : k < r
    · have HS' : Hid ((⟨#[45, 32]⟩ ++ t ++ ⟨#[]⟩ : ByteArray).data.toList = sN 1 (k + 1)) := by unfold Hid; simp [HS.out, sN, opn, cls]
      have hwk : IntKind.i64.wrap ((k : Int) + 1) = (k : Int) + 1 := by rw [IntKind.wrap_i64]; omega
      have hki : (k : Int) < (r : Int) := by omega
      have z1 : (⟨#[45, 32]⟩ : ByteArray).size = 2 := rfl
      have z2 : (⟨#[]⟩ : ByteArray).size = 0 := rfl
      have zt : t.size ≤ 800 := by
        have e := sN_len (h := 1) (by decide) k
        have e2 : t.size = (sN 1 k).length := size_of HS.out
        omega
      go_wp2_with fail
      refine ⟨⟨k + 1, _, by omega, by go_num, rfl, ?_⟩, by simp [intOf]; omega⟩
      first | exact HS' | (have e := HS'.out; simpa [Hid] using e)
    · obtain rfl : k = r := by omega
      obtain rfl := bytes_of HS.out
      clear HS
      have hki : ¬ ((k : Int) < (k : Int)) := by omega
      obtain ⟨R, hsc, hRn, hlen, hor⟩ := CK.out
      have hsz : (ByteArray.mk (sN 1 k).toArray).size ≤ 16384 := by simpa [ByteArray.size] using hlen
      rcases hor with ⟨h60, hbd⟩ | ⟨h60, y, kk, ws, dp, hbd, hkk, hkd, hrx, hwx, hdp, hwl, hjl, hj⟩
      · have E1 : Hid _ := Expr_bad ⟨(sN 1 k).toArray⟩ R 600 120 31 W (HK.out.later B0.out) hsz hsc hRn hbd (by decide)
        have g60 : (60 : Int) < (k : Int) + 1 := by omega
        clear hsc hRn hlen hbd hsz CK
        go_wp2_with fail
        refine Calls.mono E1.out ?_
        rintro e w1 ⟨rfl, b1⟩
        have B1 : Hid (Below w.heap.size w (w1.alloc (.cells #[.int .i64 0, .string ⟨#[]⟩, .int .i64 0, .slice none 0 0] 25))) := (B0.out.trans (b1.mono B0.out.size)).trans ((box_below w1 _).mono (B0.out.trans (b1.mono B0.out.size)).size)
        clear b1
        go_wp2_with fail
        refine Calls.mono (known3 _ (HK.out.later B1.out) (HT.out.later B1.out (Nat.le_refl _))) ?_
        rintro e w2 ⟨rfl, b2⟩
        have B2 : Hid (Below w.heap.size w w2) := B1.out.trans (b2.mono B1.out.size)
        clear b2
        go_wp2_with fail
        go_ret
        exact ⟨rfl, B2.out⟩
      · obtain ⟨yk, yn, ym, yl⟩ := y
        have E1 : Hid _ := Expr_ok ⟨(sN 1 k).toArray⟩ R 600 (.mk yk yn ym yl) kk W (HK.out.later B0.out) hsz hsc hRn hbd hkk hkd
        have g60 : ¬ ((60 : Int) < (k : Int) + 1) := by omega
        have HP : Hid (∀ (sa : Option Addr) (sn sc : Nat) (V : World), Kw V → Tab V → ExS (fun g => W.heap.size ≤ g) V (.slice sa sn sc) yl → Calls Tryz.prog 10 #[.agg #[.int .i64 yk, .string ⟨yn.toArray⟩, .int .i64 ym, .slice sa sn sc]] V fun e w' => e = .returned (.tuple #[.string ⟨(Lib.join ws [32]).toArray⟩, .int .i64 0]) ∧ Below V.heap.size V w') := fun sa sn sc V h1 h2 h3 => PrintExpr_ok _ 200 yk yn ym sa sn sc yl ws dp V h1 h2 h3 hrx hwx (by decide) hdp hwl hjl
        have hj2 : Lib.join ws [32] = sN 1 k := hj
        rw [hj2] at HP
        clear hj hj2
        clear hsc hRn hlen hbd hsz CK hkk hkd hrx hwx hdp hwl hjl
        go_wp2_with fail
        refine Calls.mono E1.out ?_
        rintro e w1 ⟨k1, n1, m1, sa, sn, sc, l1, he, rfl, X1, b1⟩
        injection he with q1 q2 q3 q4
        subst q1 q2 q3 q4
        have B1 : Hid (Below w.heap.size w (w1.alloc (.cells #[.int .i64 yk, .string ⟨yn.toArray⟩, .int .i64 ym, .slice sa sn sc] 25))) := (B0.out.trans (b1.mono B0.out.size)).trans ((box_below w1 _).mono (B0.out.trans (b1.mono B0.out.size)).size)
        have E2 : Hid _ := HP.out sa sn sc (w1.alloc (.cells #[.int .i64 yk, .string ⟨yn.toArray⟩, .int .i64 ym, .slice sa sn sc] 25)) (HK.out.later B1.out) (HT.out.later B1.out (Nat.le_refl _)) (X1.later (box_below _ _) (Nat.le_refl _))
        clear b1 X1 HP
        go_wp2_with fail
        refine Calls.mono E2.out ?_
        rintro e w2 ⟨rfl, b2⟩
        have B2 : Hid (Below w.heap.size w w2) := B1.out.trans (b2.mono B1.out.size)
        clear b2
        go_wp2_with fail
        refine (EB.out _).mono ?_
        rintro e w9 ⟨rfl, hw⟩
        rw [hw]
        clear hw w9
        go_wp2_with fail
        refine (EB.out _).mono ?_
        rintro e w9 ⟨rfl, hw⟩
        rw [hw]
        clear hw w9
        go_wp2_with fail
        refine Calls.mono (known3 _ (HK.out.later B2.out) (HT.out.later B2.out (Nat.le_refl _))) ?_
        rintro e w3 ⟨rfl, b3⟩
        have B3 : Hid (Below w.heap.size w w3) := B2.out.trans (b3.mono B2.out.size)
        clear b3
        go_wp2_with fail
        go_ret
        exact ⟨rfl, B3.out⟩
end Go.Proofs.YtlhklpnkelcnbaaGreatDoor

namespace Go.Proofs.YtlhklpnkelcnbaaGreatDoor
open Go.RowKit

set_option maxRecDepth 100000 in
set_option maxHeartbeats 4000000 in
theorem deep2 (ck : ∀ n, n < 90 → chk 2 n = true) (n how : Int) (r : Nat) (hr : r < 90) (ea : ∀ w, Calls Tryz.prog 8 #[.int .i64 n, .int .i64 90] w fun e w' => e = .returned (.int .i64 (r : Int)) ∧ w' = w) (eb : ∀ w, Calls Tryz.prog 8 #[.int .i64 how, .int .i64 5] w fun e w' => e = .returned (.int .i64 2) ∧ w' = w) (w : World) (hk : Kw w) (ht : Tab w) :
    Calls Tryz.prog 4 #[.int .i64 n, .int .i64 how] w fun e w' => e = .returned (.bool true) ∧ Below w.heap.size w w' := by
  have EA : Hid (∀ w, Calls Tryz.prog 8 #[.int .i64 n, .int .i64 90] w fun e w' => e = .returned (.int .i64 (r : Int)) ∧ w' = w) := ea
  have EB : Hid (∀ w, Calls Tryz.prog 8 #[.int .i64 how, .int .i64 5] w fun e w' => e = .returned (.int .i64 2) ∧ w' = w) := eb
  have HK : Hid (Kw w) := hk
  have HT : Hid (Tab w) := ht
  have CK : Hid _ := chk_out (ck r hr)
  have hwr : IntKind.i64.wrap ((r : Int) + 1) = (r : Int) + 1 := by rw [IntKind.wrap_i64]; omega
  clear ea eb hk ht ck
  go_enter Tryz.func4, Tryz.ntmps4
  go_wp2_with fail
  refine (EA.out _).mono ?_
  rintro e w1 ⟨rfl, hw⟩
  rw [hw]
  clear hw w1
  go_wp2_with fail
  refine (EB.out _).mono ?_
  rintro e w1 ⟨rfl, hw⟩
  rw [hw]
  clear hw w1
  go_wp2_with fail
  refine (EB.out _).mono ?_
  rintro e w1 ⟨rfl, hw⟩
  rw [hw]
  clear hw w1
  go_wp2_with fail
  have b0 : Below w.heap.size w ((w.alloc (.cells #[.string ⟨#[40, 32]⟩, .string ⟨#[45, 32]⟩, .string ⟨#[33, 32]⟩, .string ⟨#[97, 32, 91, 32]⟩, .string ⟨#[49, 32, 43, 32, 40, 32]⟩] 9)).alloc (.cells #[.string ⟨#[32, 41]⟩, .string ⟨#[]⟩, .string ⟨#[]⟩, .string ⟨#[32, 93]⟩, .string ⟨#[32, 41]⟩] 9)) := by go_grown
  generalize (w.alloc (.cells #[.string ⟨#[40, 32]⟩, .string ⟨#[45, 32]⟩, .string ⟨#[33, 32]⟩, .string ⟨#[97, 32, 91, 32]⟩, .string ⟨#[49, 32, 43, 32, 40, 32]⟩] 9)).alloc (.cells #[.string ⟨#[32, 41]⟩, .string ⟨#[]⟩, .string ⟨#[]⟩, .string ⟨#[32, 93]⟩, .string ⟨#[32, 41]⟩] 9) = W at *
  have B0 : Hid _ := b0
  clear b0
  go_loop [7, 8] (fun s i => ∃ (k : Nat) (t : ByteArray), k ≤ r ∧ i = .int .i64 k ∧ s = .string t ∧ Hid (t.data.toList = sN 2 k)) (fun _ i => r - (intOf i).toNat)
  case atStart => exact ⟨0, ⟨#[48]⟩, by omega, rfl, rfl, rfl⟩
  case round =>
    obtain ⟨k, t, hkr, rfl, rfl, HS⟩ := hrel
    by_cases hlt : k < r
    · have HS' : Hid ((⟨#[33, 32]⟩ ++ t ++ ⟨#[]⟩ : ByteArray).data.toList = sN 2 (k + 1)) := by unfold Hid; simp [HS.out, sN, opn, cls]
      have hwk : IntKind.i64.wrap ((k : Int) + 1) = (k : Int) + 1 := by rw [IntKind.wrap_i64]; omega
      have hki : (k : Int) < (r : Int) := by omega
      have z1 : (⟨#[33, 32]⟩ : ByteArray).size = 2 := rfl
      have z2 : (⟨#[]⟩ : ByteArray).size = 0 := rfl
      have zt : t.size ≤ 800 := by
        have e := sN_len (h := 2) (by decide) k
        have e2 : t.size = (sN 2 k).length := size_of HS.out
        omega
      go_wp2_with fail
      refine ⟨⟨k + 1, _, by omega, by go_num, rfl, ?_⟩, by simp [intOf]; omega⟩
      first | exact HS' | (have e := HS'.out; simpa [Hid] using e)
    · obtain rfl : k = r := by omega
      obtain rfl := bytes_of HS.out
      clear HS
      have hki : ¬ ((k : Int) < (k : Int)) := by omega
      obtain ⟨R, hsc, hRn, hlen, hor⟩ := CK.out
      have hsz : (ByteArray.mk (sN 2 k).toArray).size ≤ 16384 := by simpa [ByteArray.size] using hlen
      rcases hor with ⟨h60, hbd⟩ | ⟨h60, y, kk, ws, dp, hbd, hkk, hkd, hrx, hwx, hdp, hwl, hjl, hj⟩
      · have E1 : Hid _ := Expr_bad ⟨(sN 2 k).toArray⟩ R 600 120 31 W (HK.out.later B0.out) hsz hsc hRn hbd (by decide)
        have g60 : (60 : Int) < (k : Int) + 1 := by omega
        clear hsc hRn hlen hbd hsz CK
        go_wp2_with fail
        refine Calls.mono E1.out ?_
        rintro e w1 ⟨rfl, b1⟩
        have B1 : Hid (Below w.heap.size w (w1.alloc (.cells #[.int .i64 0, .string ⟨#[]⟩, .int .i64 0, .slice none 0 0] 25))) := (B0.out.trans (b1.mono B0.out.size)).trans ((box_below w1 _).mono (B0.out.trans (b1.mono B0.out.size)).size)
        clear b1
        go_wp2_with fail
        refine Calls.mono (known3 _ (HK.out.later B1.out) (HT.out.later B1.out (Nat.le_refl _))) ?_
        rintro e w2 ⟨rfl, b2⟩
        have B2 : Hid (Below w.heap.size w w2) := B1.out.trans (b2.mono B1.out.size)
        clear b2
        go_wp2_with fail
        go_ret
        exact ⟨rfl, B2.out⟩
      · obtain ⟨yk, yn, ym, yl⟩ := y
        have E1 : Hid _ := Expr_ok ⟨(sN 2 k).toArray⟩ R 600 (.mk yk yn ym yl) kk W (HK.out.later B0.out) hsz hsc hRn hbd hkk hkd
        have g60 : ¬ ((60 : Int) < (k : Int) + 1) := by omega
        have HP : Hid (∀ (sa : Option Addr) (sn sc : Nat) (V : World), Kw V → Tab V → ExS (fun g => W.heap.size ≤ g) V (.slice sa sn sc) yl → Calls Tryz.prog 10 #[.agg #[.int .i64 yk, .string ⟨yn.toArray⟩, .int .i64 ym, .slice sa sn sc]] V fun e w' => e = .returned (.tuple #[.string ⟨(Lib.join ws [32]).toArray⟩, .int .i64 0]) ∧ Below V.heap.size V w') := fun sa sn sc V h1 h2 h3 => PrintExpr_ok _ 200 yk yn ym sa sn sc yl ws dp V h1 h2 h3 hrx hwx (by decide) hdp hwl hjl
        have hj2 : Lib.join ws [32] = sN 2 k := hj
        rw [hj2] at HP
        clear hj hj2
        clear hsc hRn hlen hbd hsz CK hkk hkd hrx hwx hdp hwl hjl
        go_wp2_with fail
        refine Calls.mono E1.out ?_
        rintro e w1 ⟨k1, n1, m1, sa, sn, sc, l1, he, rfl, X1, b1⟩
        injection he with q1 q2 q3 q4
        subst q1 q2 q3 q4
        have B1 : Hid (Below w.heap.size w (w1.alloc (.cells #[.int .i64 yk, .string ⟨yn.toArray⟩, .int .i64 ym, .slice sa sn sc] 25))) := (B0.out.trans (b1.mono B0.out.size)).trans ((box_below w1 _).mono (B0.out.trans (b1.mono B0.out.size)).size)
        have E2 : Hid _ := HP.out sa sn sc (w1.alloc (.cells #[.int .i64 yk, .string ⟨yn.toArray⟩, .int .i64 ym, .slice sa sn sc] 25)) (HK.out.later B1.out) (HT.out.later B1.out (Nat.le_refl _)) (X1.later (box_below _ _) (Nat.le_refl _))
        clear b1 X1 HP
        go_wp2_with fail
        refine Calls.mono E2.out ?_
        rintro e w2 ⟨rfl, b2⟩
        have B2 : Hid (Below w.heap.size w w2) := B1.out.trans (b2.mono B1.out.size)
        clear b2
        go_wp2_with fail
        refine (EB.out _).mono ?_
        rintro e w9 ⟨rfl, hw⟩
        rw [hw]
        clear hw w9
        go_wp2_with fail
        refine (EB.out _).mono ?_
        rintro e w9 ⟨rfl, hw⟩
        rw [hw]
        clear hw w9
        go_wp2_with fail
        refine Calls.mono (known3 _ (HK.out.later B2.out) (HT.out.later B2.out (Nat.le_refl _))) ?_
        rintro e w3 ⟨rfl, b3⟩
        have B3 : Hid (Below w.heap.size w w3) := B2.out.trans (b3.mono B2.out.size)
        clear b3
        go_wp2_with fail
        go_ret
        exact ⟨rfl, B3.out⟩
end Go.Proofs.YtlhklpnkelcnbaaGreatDoor
