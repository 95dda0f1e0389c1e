/- SynBrackets walked. -/
import Derived.Test.YtlhklpnkelcnbaaGreatDoorSypE
import Derived.Test.YtlhklpnkelcnbaaGreatDoorGrC
import Derived.Test.YtlhklpnkelcnbaaGreatDoorGrH
namespace Go.Proofs.YtlhklpnkelcnbaaGreatDoor
open Go.RowKit

theorem EXis.form {w : World} {r : Option Sx.Ex} {er : Int} {e : Ending} {w' : World} (h : EXis w r er e w') (h0 : ∀ y, r = some y → er = 0) :
    ∃ kk nn mm sa sn sc a, e = .returned (.tuple #[.agg #[.int .i64 kk, .string ⟨(nn : List UInt8).toArray⟩, .int .i64 mm, .slice sa sn sc], .int .i64 a, .int .i64 er]) ∧ Below w.heap.size w w' ∧ Hid (∀ y, r = some y → ∃ ll, y = .mk kk nn mm ll ∧ ExS (fun g => w.heap.size ≤ g) w' (.slice sa sn sc) ll) := by
  cases r with
  | none =>
    obtain ⟨a, rfl, b⟩ := h
    exact ⟨0, [], 0, none, 0, 0, a, rfl, b, fun _ h => by cases h⟩
  | some y =>
    obtain rfl := h0 y rfl
    obtain ⟨kk, nn, mm, sa, sn, sc, ll, rfl, rfl, X, b⟩ := h
    exact ⟨kk, nn, mm, sa, sn, sc, 0, rfl, b, fun y' h => by cases h; exact ⟨ll, rfl, X⟩⟩
set_option maxRecDepth 100000 in
set_option maxHeartbeats 4000000 in
theorem brackets_walk (s : ByteArray) (n : Int) (w : World) (ht : Kw w ∧ Tab w) (_h1 : s.size ≤ 140737488351232) (_h2 : (Lit.int .i64 n).wf = true) : Calls Tryz.prog 3 #[.string s, .int .i64 n] w fun e w' => e = .returned (.bool true) ∧ Below w.heap.size w w' := by
  by_cases hs : 2000 < s.size
  · have hsi : (2000 : Int) < (s.size : Int) := by omega
    have HT : Hid (Kw w ∧ Tab w) := ht
    clear ht hs
    go_enter Tryz.func3, Tryz.ntmps3
    go_wp2_with fail
    refine Calls.mono (known3 _ HT.out.1 HT.out.2) ?_
    rintro e w1 ⟨rfl, b1⟩
    go_wp2_with fail
    go_ret
    exact ⟨rfl, b1⟩
  · obtain ⟨m, hm, ea⟩ := among_det n 10 (by decide) (by decide)
    have hsz : s.size = s.data.toList.length := size_of rfl
    obtain ⟨r, er, r2, er2, hx, hx2, hor⟩ := brackets (l := s.data.toList) (by omega) (n := m) (by omega)
    have h0 : ∀ y, r = some y → er = 0 := by
      rcases hor with ⟨y, _, e, _⟩ | ⟨e, _⟩
      · exact fun _ _ => e
      · intro y hy; rw [e] at hy; cases hy
    have h02 : ∀ y, r2 = some y → er2 = 0 := by
      intro y hy
      subst hy
      cases hx2
      rfl
    have EA : Hid (∀ w, Calls Tryz.prog 8 #[.int .i64 n, .int .i64 10] w fun e w' => e = .returned (.int .i64 (m : Int)) ∧ w' = w) := ea
    have E1 : Hid (Calls Tryz.prog 7 #[.string s] w (EXis w r er)) := Expr_any s r er w ht.1 (by omega) hx
    have E2 : Hid (∀ (t : ByteArray) (W : World), t.data.toList = Lx.opnL m ++ s.data.toList ++ Lx.shuL m → Below w.heap.size w W → Calls Tryz.prog 7 #[.string t] W (EXis W r2 er2)) := by
      intro t W ht' hW
      refine Expr_any t r2 er2 W (ht.1.later hW) ?_ (by rw [ht']; exact hx2)
      have e : t.size = t.data.toList.length := size_of rfl
      rw [e, ht', Lx.len_mid]
      omega
    have HT : Hid (Kw w ∧ Tab w) := ht
    have OR : Hid _ := hor
    have H0 : Hid _ := h0
    have H02 : Hid _ := h02
    have hsi : ¬ ((2000 : Int) < (s.size : Int)) := by omega
    have hss : s.size ≤ 2000 := by omega
    clear ht hs hx hx2 hor ea h0 h02 hsz
    go_enter Tryz.func3, Tryz.ntmps3
    go_wp2_with fail
    refine Calls.mono E1.out ?_
    intro e w1 hx1
    obtain ⟨kk, nn, mm, sa, sn, sc, a, rfl, b1, X1⟩ := hx1.form H0.out
    clear hx1
    go_wp2_with fail
    have bx : Below w.heap.size w (w1.alloc (.cells #[.int .i64 kk, .string ⟨nn.toArray⟩, .int .i64 mm, .slice sa sn sc] 25)) := b1.trans ((box_below w1 _).mono b1.size)
    have BX : Hid _ := bx
    have Q1 : Hid _ := Bx.new w1 25 (.int .i64 kk) (.string ⟨nn.toArray⟩) (.int .i64 mm) (.slice sa sn sc)
    have XX : Hid (∀ y, r = some y → ∃ ll, y = .mk kk nn mm ll ∧ ExS (fun g => w.heap.size ≤ g) (w1.alloc (.cells #[.int .i64 kk, .string ⟨nn.toArray⟩, .int .i64 mm, .slice sa sn sc] 25)) (.slice sa sn sc) ll) := by
      intro y hy
      obtain ⟨ll, e, X⟩ := X1.out y hy
      exact ⟨ll, e, X.later (box_below _ _) (Nat.le_refl _)⟩
    clear bx X1 b1
    generalize hg1 : w1.heap.size = g1 at *
    generalize w1.alloc (.cells #[.int .i64 kk, .string ⟨nn.toArray⟩, .int .i64 mm, .slice sa sn sc] 25) = W at *
    clear hg1
    go_loop [8, 9, 10] (fun o t i => ∃ (k : Nat) (p q : ByteArray), k ≤ m ∧ i = .int .i64 k ∧ o = .string p ∧ t = .string q ∧ Hid (p.data.toList = Lx.opnL k ∧ q.data.toList = Lx.shuL k)) (fun _ _ i => m - (intOf i).toNat)
    case atStart => exact ⟨0, ⟨#[]⟩, ⟨#[]⟩, by omega, rfl, rfl, rfl, rfl, rfl⟩
    case round =>
      obtain ⟨k, p, q, hkm, rfl, rfl, rfl, HS⟩ := hrel
      by_cases hlt : k < m
      · have HS' : Hid ((p ++ ⟨#[40, 32]⟩ : ByteArray).data.toList = Lx.opnL (k + 1) ∧ (q ++ ⟨#[10, 41]⟩ : ByteArray).data.toList = Lx.shuL (k + 1)) := by
          refine ⟨?_, ?_⟩
          · rw [← Lx.opnL_snoc, ← HS.out.1]; simp
          · rw [← Lx.shuL_snoc, ← HS.out.2]; simp
        have hwk : IntKind.i64.wrap ((k : Int) + 1) = (k : Int) + 1 := by rw [IntKind.wrap_i64]; omega
        have hki : (k : Int) < (m : Int) := by omega
        have z1 : (⟨#[40, 32]⟩ : ByteArray).size = 2 := rfl
        have z2 : (⟨#[10, 41]⟩ : ByteArray).size = 2 := rfl
        have zp : p.size ≤ 20 := by
          have e : p.size = p.data.toList.length := size_of rfl
          rw [e, HS.out.1, Lx.opnL_len]; omega
        have zq : q.size ≤ 20 := by
          have e : q.size = q.data.toList.length := size_of rfl
          rw [e, HS.out.2, Lx.shuL_len]; omega
        go_wp2_with fail
        refine (EA.out _).mono ?_
        rintro e w9 ⟨rfl, hw⟩
        rw [hw]
        clear hw w9
        go_wp2_with fail
        refine ⟨⟨k + 1, _, _, by omega, by go_num, rfl, rfl, ?_⟩, by simp [intOf]; omega⟩
        exact HS'
      · obtain rfl : k = m := by omega
        have hki : ¬ ((k : Int) < (k : Int)) := by omega
        have hts : (p ++ s ++ q : ByteArray).data.toList = Lx.opnL k ++ s.data.toList ++ Lx.shuL k := by
          rw [← HS.out.1, ← HS.out.2]; simp
        have zp : p.size ≤ 20 := by
          have e : p.size = p.data.toList.length := size_of rfl
          rw [e, HS.out.1, Lx.opnL_len]; omega
        have zq : q.size ≤ 20 := by
          have e : q.size = q.data.toList.length := size_of rfl
          rw [e, HS.out.2, Lx.shuL_len]; omega
        have E2' : Hid _ := E2.out (p ++ s ++ q) W hts BX.out
        clear HS hts E2 E1
        go_wp2_with fail
        refine (EA.out _).mono ?_
        rintro e w9 ⟨rfl, hw⟩
        rw [hw]
        clear hw w9
        go_wp2_with fail
        refine Calls.mono E2'.out ?_
        intro e w2 hx2
        obtain ⟨kk2, nn2, mm2, sa2, sn2, sc2, a2, rfl, b2, X2⟩ := hx2.form H02.out
        have B2 : Hid (Below w.heap.size w (w2.alloc (.cells #[.int .i64 kk2, .string ⟨nn2.toArray⟩, .int .i64 mm2, .slice sa2 sn2 sc2] 25))) := (BX.out.trans (b2.mono BX.out.size)).trans ((box_below w2 _).mono (BX.out.trans (b2.mono BX.out.size)).size)
        rcases OR.out with ⟨y, hy, rfl, sm, h⟩ | ⟨hr, her, h⟩
        · obtain ⟨ll, hyy, Y1⟩ := XX.out y hy
          rcases h with ⟨hy2, rfl⟩ | ⟨hy2, rfl⟩
          · obtain ⟨ll2, hyy2, Y2⟩ := X2.out y hy2
            obtain ⟨rfl, rfl, rfl, rfl⟩ : kk2 = kk ∧ nn2 = nn ∧ mm2 = mm ∧ ll2 = ll := by
              have e := hyy.symm.trans hyy2
              injection e with q1 q2 q3 q4
              exact ⟨q1.symm, q2.symm, q3.symm, q4.symm⟩
            have bq := b2.trans ((box_below w2 (.cells #[.int .i64 kk2, .string ⟨nn2.toArray⟩, .int .i64 mm2, .slice sa2 sn2 sc2] 25)).mono b2.size)
            have E3 : Hid _ := sameExpr_true sm _ _ kk2 nn2 mm2 ll2 sa sa2 sn sc sn2 sc2 (w2.alloc (.cells #[.int .i64 kk2, .string ⟨nn2.toArray⟩, .int .i64 mm2, .slice sa2 sn2 sc2] 25)) hyy (Y1.later bq (Nat.le_refl _)) (Y2.later (box_below _ _) (Nat.le_refl _))
            obtain ⟨c0, c1, c2, c3, f0, f1, f2, f3, zt⟩ := Q1.out.later bq Q1.out.lt
            clear b2 X2 hx2 Y1 Y2 bq hyy hyy2 hy hy2 sm XX OR H0 H02 E2'
            go_wp2_with fail
            refine Calls.mono E3.out ?_
            rintro e w3 ⟨rfl, b3⟩
            have B3 : Hid (Below w.heap.size w w3) := B2.out.trans (b3.mono B2.out.size)
            clear b3
            go_wp2_with fail
            refine Calls.mono (known3 _ (HT.out.1.later B3.out) (HT.out.2.later B3.out (Nat.le_refl _))) ?_
            rintro e w4 ⟨rfl, b4⟩
            have B4 : Hid (Below w.heap.size w w4) := B3.out.trans (b4.mono B3.out.size)
            clear b4
            go_wp2_with fail
            go_ret
            exact ⟨rfl, B4.out⟩
          · clear b2 X2 hx2 Y1 hyy hy hy2 sm XX OR H0 H02 E2'
            go_wp2_with fail
            refine Calls.mono (known3 _ (HT.out.1.later B2.out) (HT.out.2.later B2.out (Nat.le_refl _))) ?_
            rintro e w4 ⟨rfl, b4⟩
            have B4 : Hid (Below w.heap.size w w4) := B2.out.trans (b4.mono B2.out.size)
            clear b4
            go_wp2_with fail
            go_ret
            exact ⟨rfl, B4.out⟩
        · have be : (er == 0) = false := beq_eq_false_iff_ne.2 her
          by_cases c2 : er2 = 0
          · have c3 : er = 30 := by omega
            subst c2 c3
            clear b2 X2 hx2 her be h XX OR H0 H02 E2'
            go_wp2_with fail
            refine Calls.mono (known3 _ (HT.out.1.later B2.out) (HT.out.2.later B2.out (Nat.le_refl _))) ?_
            rintro e w4 ⟨rfl, b4⟩
            have B4 : Hid (Below w.heap.size w w4) := B2.out.trans (b4.mono B2.out.size)
            clear b4
            go_wp2_with fail
            go_ret
            exact ⟨rfl, B4.out⟩
          · have be2 : (er2 == 0) = false := beq_eq_false_iff_ne.2 c2
            clear b2 X2 hx2 h XX OR H0 H02 E2'
            go_wp2_with fail
            refine Calls.mono (known3 _ (HT.out.1.later B2.out) (HT.out.2.later B2.out (Nat.le_refl _))) ?_
            rintro e w4 ⟨rfl, b4⟩
            have B4 : Hid (Below w.heap.size w w4) := B2.out.trans (b4.mono B2.out.size)
            clear b4
            go_wp2_with fail
            go_ret
            exact ⟨rfl, B4.out⟩
end Go.Proofs.YtlhklpnkelcnbaaGreatDoor
