/- SynDeep walked, for the way number 3. -/
/- SynDeep walked, for the way number 4. -/
import Derived.Test.YtlhklpnkelcnbaaGreatDoorGrH
namespace Go.Proofs.YtlhklpnkelcnbaaGreatDoor
open Go.RowKit

set_option maxRecDepth 100000 in
set_option maxHeartbeats 4000000 in
theorem deep3 (ck : ∀ n, n < 90 → chk 3 n = true) (n how : Int) (r : Nat) (hr : r < 90) (ea : ∀ w, Calls Tryz.prog 8 #[.int .i64 n, .int .i64 90] w fun e w' => e = .returned (.int .i64 (r : Int)) ∧ w' = w) (eb : ∀ w, Calls Tryz.prog 8 #[.int .i64 how, .int .i64 5] w fun e w' => e = .returned (.int .i64 3) ∧ w' = w) (w : World) (hk : Kw w) (ht : Tab w) :
    Calls Tryz.prog 4 #[.int .i64 n, .int .i64 how] w fun e w' => e = .returned (.bool true) ∧ Below w.heap.size w w' := by
  have EA : Hid (∀ w, Calls Tryz.prog 8 #[.int .i64 n, .int .i64 90] w fun e w' => e = .returned (.int .i64 (r : Int)) ∧ w' = w) := ea
  have EB : Hid (∀ w, Calls Tryz.prog 8 #[.int .i64 how, .int .i64 5] w fun e w' => e = .returned (.int .i64 3) ∧ w' = w) := eb
  have HK : Hid (Kw w) := hk
  have HT : Hid (Tab w) := ht
  have CK : Hid _ := chk_out (ck r hr)
  have hwr : IntKind.i64.wrap ((r : Int) + 1) = (r : Int) + 1 := by rw [IntKind.wrap_i64]; omega
  clear ea eb hk ht ck
  go_enter Tryz.func4, Tryz.ntmps4
  go_wp2_with fail
  refine (EA.out _).mono ?_
  rintro e w1 ⟨rfl, hw⟩
  rw [hw]
  clear hw w1
  go_wp2_with fail
  refine (EB.out _).mono ?_
  rintro e w1 ⟨rfl, hw⟩
  rw [hw]
  clear hw w1
  go_wp2_with fail
  refine (EB.out _).mono ?_
  rintro e w1 ⟨rfl, hw⟩
  rw [hw]
  clear hw w1
  go_wp2_with fail
  have b0 : Below w.heap.size w ((w.alloc (.cells #[.string ⟨#[40, 32]⟩, .string ⟨#[45, 32]⟩, .string ⟨#[33, 32]⟩, .string ⟨#[97, 32, 91, 32]⟩, .string ⟨#[49, 32, 43, 32, 40, 32]⟩] 9)).alloc (.cells #[.string ⟨#[32, 41]⟩, .string ⟨#[]⟩, .string ⟨#[]⟩, .string ⟨#[32, 93]⟩, .string ⟨#[32, 41]⟩] 9)) := by go_grown
  generalize (w.alloc (.cells #[.string ⟨#[40, 32]⟩, .string ⟨#[45, 32]⟩, .string ⟨#[33, 32]⟩, .string ⟨#[97, 32, 91, 32]⟩, .string ⟨#[49, 32, 43, 32, 40, 32]⟩] 9)).alloc (.cells #[.string ⟨#[32, 41]⟩, .string ⟨#[]⟩, .string ⟨#[]⟩, .string ⟨#[32, 93]⟩, .string ⟨#[32, 41]⟩] 9) = W at *
  have B0 : Hid _ := b0
  clear b0
  go_loop [7, 8] (fun s i => ∃ (k : Nat) (t : ByteArray), k ≤ r ∧ i = .int .i64 k ∧ s = .string t ∧ Hid (t.data.toList = sN 3 k)) (fun _ i => r - (intOf i).toNat)
  case atStart => exact ⟨0, ⟨#[48]⟩, by omega, rfl, rfl, rfl⟩
  case round =>
    obtain ⟨k, t, hkr, rfl, rfl, HS⟩ := hrel
    by_cases hlt : k < r
    · have HS' : Hid ((⟨#[97, 32, 91, 32]⟩ ++ t ++ ⟨#[32, 93]⟩ : ByteArray).data.toList = sN 3 (k + 1)) := by unfold Hid; simp [HS.out, sN, opn, cls]
      have hwk : IntKind.i64.wrap ((k : Int) + 1) = (k : Int) + 1 := by rw [IntKind.wrap_i64]; omega
      have hki : (k : Int) < (r : Int) := by omega
      have z1 : (⟨#[97, 32, 91, 32]⟩ : ByteArray).size = 4 := rfl
      have z2 : (⟨#[32, 93]⟩ : ByteArray).size = 2 := rfl
      have zt : t.size ≤ 800 := by
        have e := sN_len (h := 3) (by decide) k
        have e2 : t.size = (sN 3 k).length := size_of HS.out
        omega
      go_wp2_with fail
      refine ⟨⟨k + 1, _, by omega, by go_num, rfl, ?_⟩, by simp [intOf]; omega⟩
      first | exact HS' | (have e := HS'.out; simpa [Hid] using e)
    · obtain rfl : k = r := by omega
      obtain rfl := bytes_of HS.out
      clear HS
      have hki : ¬ ((k : Int) < (k : Int)) := by omega
      obtain ⟨R, hsc, hRn, hlen, hor⟩ := CK.out
      have hsz : (ByteArray.mk (sN 3 k).toArray).size ≤ 16384 := by simpa [ByteArray.size] using hlen
      rcases hor with ⟨h60, hbd⟩ | ⟨h60, y, kk, ws, dp, hbd, hkk, hkd, hrx, hwx, hdp, hwl, hjl, hj⟩
      · have E1 : Hid _ := Expr_bad ⟨(sN 3 k).toArray⟩ R 600 240 31 W (HK.out.later B0.out) hsz hsc hRn hbd (by decide)
        have g60 : (60 : Int) < (k : Int) + 1 := by omega
        clear hsc hRn hlen hbd hsz CK
        go_wp2_with fail
        refine Calls.mono E1.out ?_
        rintro e w1 ⟨rfl, b1⟩
        have B1 : Hid (Below w.heap.size w (w1.alloc (.cells #[.int .i64 0, .string ⟨#[]⟩, .int .i64 0, .slice none 0 0] 25))) := (B0.out.trans (b1.mono B0.out.size)).trans ((box_below w1 _).mono (B0.out.trans (b1.mono B0.out.size)).size)
        clear b1
        go_wp2_with fail
        refine Calls.mono (known3 _ (HK.out.later B1.out) (HT.out.later B1.out (Nat.le_refl _))) ?_
        rintro e w2 ⟨rfl, b2⟩
        have B2 : Hid (Below w.heap.size w w2) := B1.out.trans (b2.mono B1.out.size)
        clear b2
        go_wp2_with fail
        go_ret
        exact ⟨rfl, B2.out⟩
      · obtain ⟨yk, yn, ym, yl⟩ := y
        have E1 : Hid _ := Expr_ok ⟨(sN 3 k).toArray⟩ R 600 (.mk yk yn ym yl) kk W (HK.out.later B0.out) hsz hsc hRn hbd hkk hkd
        have g60 : ¬ ((60 : Int) < (k : Int) + 1) := by omega
        have HP : Hid (∀ (sa : Option Addr) (sn sc : Nat) (V : World), Kw V → Tab V → ExS (fun g => W.heap.size ≤ g) V (.slice sa sn sc) yl → Calls Tryz.prog 10 #[.agg #[.int .i64 yk, .string ⟨yn.toArray⟩, .int .i64 ym, .slice sa sn sc]] V fun e w' => e = .returned (.tuple #[.string ⟨(Lib.join ws [32]).toArray⟩, .int .i64 0]) ∧ Below V.heap.size V w') := fun sa sn sc V h1 h2 h3 => PrintExpr_ok _ 200 yk yn ym sa sn sc yl ws dp V h1 h2 h3 hrx hwx (by decide) hdp hwl hjl
        have hj2 : Lib.join ws [32] = sN 3 k := hj
        rw [hj2] at HP
        clear hj hj2
        clear hsc hRn hlen hbd hsz CK hkk hkd hrx hwx hdp hwl hjl
        go_wp2_with fail
        refine Calls.mono E1.out ?_
        rintro e w1 ⟨k1, n1, m1, sa, sn, sc, l1, he, rfl, X1, b1⟩
        injection he with q1 q2 q3 q4
        subst q1 q2 q3 q4
        have B1 : Hid (Below w.heap.size w (w1.alloc (.cells #[.int .i64 yk, .string ⟨yn.toArray⟩, .int .i64 ym, .slice sa sn sc] 25))) := (B0.out.trans (b1.mono B0.out.size)).trans ((box_below w1 _).mono (B0.out.trans (b1.mono B0.out.size)).size)
        have E2 : Hid _ := HP.out sa sn sc (w1.alloc (.cells #[.int .i64 yk, .string ⟨yn.toArray⟩, .int .i64 ym, .slice sa sn sc] 25)) (HK.out.later B1.out) (HT.out.later B1.out (Nat.le_refl _)) (X1.later (box_below _ _) (Nat.le_refl _))
        clear b1 X1 HP
        go_wp2_with fail
        refine Calls.mono E2.out ?_
        rintro e w2 ⟨rfl, b2⟩
        have B2 : Hid (Below w.heap.size w w2) := B1.out.trans (b2.mono B1.out.size)
        clear b2
        go_wp2_with fail
        refine (EB.out _).mono ?_
        rintro e w9 ⟨rfl, hw⟩
        rw [hw]
        clear hw w9
        go_wp2_with fail
        refine (EB.out _).mono ?_
        rintro e w9 ⟨rfl, hw⟩
        rw [hw]
        clear hw w9
        go_wp2_with fail
        refine Calls.mono (known3 _ (HK.out.later B2.out) (HT.out.later B2.out (Nat.le_refl _))) ?_
        rintro e w3 ⟨rfl, b3⟩
        have B3 : Hid (Below w.heap.size w w3) := B2.out.trans (b3.mono B2.out.size)
        clear b3
        go_wp2_with fail
        go_ret
        exact ⟨rfl, B3.out⟩
end Go.Proofs.YtlhklpnkelcnbaaGreatDoor

namespace Go.Proofs.YtlhklpnkelcnbaaGreatDoor
open Go.RowKit

set_option maxRecDepth 100000 in
set_option maxHeartbeats 4000000 in
theorem deep4 (ck : ∀ n, n < 90 → chk 4 n = true) (n how : Int) (r : Nat) (hr : r < 90) (ea : ∀ w, Calls Tryz.prog 8 #[.int .i64 n, .int .i64 90] w fun e w' => e = .returned (.int .i64 (r : Int)) ∧ w' = w) (eb : ∀ w, Calls Tryz.prog 8 #[.int .i64 how, .int .i64 5] w fun e w' => e = .returned (.int .i64 4) ∧ w' = w) (w : World) (hk : Kw w) (ht : Tab w) :
    Calls Tryz.prog 4 #[.int .i64 n, .int .i64 how] w fun e w' => e = .returned (.bool true) ∧ Below w.heap.size w w' := by
  have EA : Hid (∀ w, Calls Tryz.prog 8 #[.int .i64 n, .int .i64 90] w fun e w' => e = .returned (.int .i64 (r : Int)) ∧ w' = w) := ea
  have EB : Hid (∀ w, Calls Tryz.prog 8 #[.int .i64 how, .int .i64 5] w fun e w' => e = .returned (.int .i64 4) ∧ w' = w) := eb
  have HK : Hid (Kw w) := hk
  have HT : Hid (Tab w) := ht
  have CK : Hid _ := chk_out (ck r hr)
  have hwr : IntKind.i64.wrap ((r : Int) + 1) = (r : Int) + 1 := by rw [IntKind.wrap_i64]; omega
  clear ea eb hk ht ck
  go_enter Tryz.func4, Tryz.ntmps4
  go_wp2_with fail
  refine (EA.out _).mono ?_
  rintro e w1 ⟨rfl, hw⟩
  rw [hw]
  clear hw w1
  go_wp2_with fail
  refine (EB.out _).mono ?_
  rintro e w1 ⟨rfl, hw⟩
  rw [hw]
  clear hw w1
  go_wp2_with fail
  refine (EB.out _).mono ?_
  rintro e w1 ⟨rfl, hw⟩
  rw [hw]
  clear hw w1
  go_wp2_with fail
  have b0 : Below w.heap.size w ((w.alloc (.cells #[.string ⟨#[40, 32]⟩, .string ⟨#[45, 32]⟩, .string ⟨#[33, 32]⟩, .string ⟨#[97, 32, 91, 32]⟩, .string ⟨#[49, 32, 43, 32, 40, 32]⟩] 9)).alloc (.cells #[.string ⟨#[32, 41]⟩, .string ⟨#[]⟩, .string ⟨#[]⟩, .string ⟨#[32, 93]⟩, .string ⟨#[32, 41]⟩] 9)) := by go_grown
  generalize (w.alloc (.cells #[.string ⟨#[40, 32]⟩, .string ⟨#[45, 32]⟩, .string ⟨#[33, 32]⟩, .string ⟨#[97, 32, 91, 32]⟩, .string ⟨#[49, 32, 43, 32, 40, 32]⟩] 9)).alloc (.cells #[.string ⟨#[32, 41]⟩, .string ⟨#[]⟩, .string ⟨#[]⟩, .string ⟨#[32, 93]⟩, .string ⟨#[32, 41]⟩] 9) = W at *
  have B0 : Hid _ := b0
  clear b0
  go_loop [7, 8] (fun s i => ∃ (k : Nat) (t : ByteArray), k ≤ r ∧ i = .int .i64 k ∧ s = .string t ∧ Hid (t.data.toList = sN 4 k)) (fun _ i => r - (intOf i).toNat)
  case atStart => exact ⟨0, ⟨#[48]⟩, by omega, rfl, rfl, rfl⟩
  case round =>
    obtain ⟨k, t, hkr, rfl, rfl, HS⟩ := hrel
    by_cases hlt : k < r
    · have HS' : Hid ((⟨#[49, 32, 43, 32, 40, 32]⟩ ++ t ++ ⟨#[32, 41]⟩ : ByteArray).data.toList = sN 4 (k + 1)) := by unfold Hid; simp [HS.out, sN, opn, cls]
      have hwk : IntKind.i64.wrap ((k : Int) + 1) = (k : Int) + 1 := by rw [IntKind.wrap_i64]; omega
      have hki : (k : Int) < (r : Int) := by omega
      have z1 : (⟨#[49, 32, 43, 32, 40, 32]⟩ : ByteArray).size = 6 := rfl
      have z2 : (⟨#[32, 41]⟩ : ByteArray).size = 2 := rfl
      have zt : t.size ≤ 800 := by
        have e := sN_len (h := 4) (by decide) k
        have e2 : t.size = (sN 4 k).length := size_of HS.out
        omega
      go_wp2_with fail
      refine ⟨⟨k + 1, _, by omega, by go_num, rfl, ?_⟩, by simp [intOf]; omega⟩
      first | exact HS' | (have e := HS'.out; simpa [Hid] using e)
    · obtain rfl : k = r := by omega
      obtain rfl := bytes_of HS.out
      clear HS
      have hki : ¬ ((k : Int) < (k : Int)) := by omega
      obtain ⟨R, hsc, hRn, hlen, hor⟩ := CK.out
      have hsz : (ByteArray.mk (sN 4 k).toArray).size ≤ 16384 := by simpa [ByteArray.size] using hlen
      rcases hor with ⟨h60, hbd⟩ | ⟨h60, y, kk, ws, dp, hbd, hkk, hkd, hrx, hwx, hdp, hwl, hjl, hj⟩
      · have E1 : Hid _ := Expr_bad ⟨(sN 4 k).toArray⟩ R 600 360 31 W (HK.out.later B0.out) hsz hsc hRn hbd (by decide)
        have g60 : (60 : Int) < (k : Int) + 1 := by omega
        clear hsc hRn hlen hbd hsz CK
        go_wp2_with fail
        refine Calls.mono E1.out ?_
        rintro e w1 ⟨rfl, b1⟩
        have B1 : Hid (Below w.heap.size w (w1.alloc (.cells #[.int .i64 0, .string ⟨#[]⟩, .int .i64 0, .slice none 0 0] 25))) := (B0.out.trans (b1.mono B0.out.size)).trans ((box_below w1 _).mono (B0.out.trans (b1.mono B0.out.size)).size)
        clear b1
        go_wp2_with fail
        refine Calls.mono (known3 _ (HK.out.later B1.out) (HT.out.later B1.out (Nat.le_refl _))) ?_
        rintro e w2 ⟨rfl, b2⟩
        have B2 : Hid (Below w.heap.size w w2) := B1.out.trans (b2.mono B1.out.size)
        clear b2
        go_wp2_with fail
        go_ret
        exact ⟨rfl, B2.out⟩
      · obtain ⟨yk, yn, ym, yl⟩ := y
        have E1 : Hid _ := Expr_ok ⟨(sN 4 k).toArray⟩ R 600 (.mk yk yn ym yl) kk W (HK.out.later B0.out) hsz hsc hRn hbd hkk hkd
        have g60 : ¬ ((60 : Int) < (k : Int) + 1) := by omega
        have HP : Hid (∀ (sa : Option Addr) (sn sc : Nat) (V : World), Kw V → Tab V → ExS (fun g => W.heap.size ≤ g) V (.slice sa sn sc) yl → Calls Tryz.prog 10 #[.agg #[.int .i64 yk, .string ⟨yn.toArray⟩, .int .i64 ym, .slice sa sn sc]] V fun e w' => e = .returned (.tuple #[.string ⟨(Lib.join ws [32]).toArray⟩, .int .i64 0]) ∧ Below V.heap.size V w') := fun sa sn sc V h1 h2 h3 => PrintExpr_ok _ 200 yk yn ym sa sn sc yl ws dp V h1 h2 h3 hrx hwx (by decide) hdp hwl hjl
        have hj2 : 0 < (Lib.join ws [32]).length := hj
        clear hj
        generalize Lib.join ws [32] = jn at *
        have hjp : (0 : Int) < (jn.length : Int) := by omega
        clear hsc hRn hlen hbd hsz CK hkk hkd hrx hwx hdp hwl hjl
        go_wp2_with fail
        refine Calls.mono E1.out ?_
        rintro e w1 ⟨k1, n1, m1, sa, sn, sc, l1, he, rfl, X1, b1⟩
        injection he with q1 q2 q3 q4
        subst q1 q2 q3 q4
        have B1 : Hid (Below w.heap.size w (w1.alloc (.cells #[.int .i64 yk, .string ⟨yn.toArray⟩, .int .i64 ym, .slice sa sn sc] 25))) := (B0.out.trans (b1.mono B0.out.size)).trans ((box_below w1 _).mono (B0.out.trans (b1.mono B0.out.size)).size)
        have E2 : Hid _ := HP.out sa sn sc (w1.alloc (.cells #[.int .i64 yk, .string ⟨yn.toArray⟩, .int .i64 ym, .slice sa sn sc] 25)) (HK.out.later B1.out) (HT.out.later B1.out (Nat.le_refl _)) (X1.later (box_below _ _) (Nat.le_refl _))
        clear b1 X1 HP
        go_wp2_with fail
        refine Calls.mono E2.out ?_
        rintro e w2 ⟨rfl, b2⟩
        have B2 : Hid (Below w.heap.size w w2) := B1.out.trans (b2.mono B1.out.size)
        clear b2
        go_wp2_with fail
        refine (EB.out _).mono ?_
        rintro e w9 ⟨rfl, hw⟩
        rw [hw]
        clear hw w9
        go_wp2_with fail
        refine (EB.out _).mono ?_
        rintro e w9 ⟨rfl, hw⟩
        rw [hw]
        clear hw w9
        go_wp2_with fail
        refine Calls.mono (known3 _ (HK.out.later B2.out) (HT.out.later B2.out (Nat.le_refl _))) ?_
        rintro e w3 ⟨rfl, b3⟩
        have B3 : Hid (Below w.heap.size w w3) := B2.out.trans (b3.mono B2.out.size)
        clear b3
        go_wp2_with fail
        go_ret
        exact ⟨rfl, B3.out⟩
end Go.Proofs.YtlhklpnkelcnbaaGreatDoor
