/- Layer 13: TapeCut. -/
import Derived.Test.YtneefpblfiedbaaZTwC
import Derived.BigQuiet
import Derived.Lib.MinMax
namespace Go.Proofs.Ytneefpblfiedbaa
open Go.RowKit
set_option linter.unusedVariables false
set_option linter.unusedSimpArgs false
theorem cutV_len {t : Tp.Tr} {j e : Nat} (hc : t.counts.length = t.ticks.length) (hj : j ≤ t.ticks.length) (he : e ≤ t.events.length) : (Tp.cutV t j e).ticks.length = j ∧ (Tp.cutV t j e).counts.length = j ∧ (Tp.cutV t j e).events.length = e := by
  unfold Tp.cutV
  dsimp only
  simp only [List.length_take]
  omega
theorem TrB.cut {t : Tp.Tr} (h : TrB t) (j e : Nat) : TrB (Tp.cutV t j e) := by
  refine ⟨?_, ?_, ?_, fun x hx => h.rt x (List.mem_of_mem_take hx), fun x hx => h.rc x (List.mem_of_mem_take hx), fun x hx => h.re x (List.mem_of_mem_take hx)⟩
  · have := h.l1; unfold Tp.cutV; dsimp only; rw [List.length_take]; omega
  · have := h.l2; unfold Tp.cutV; dsimp only; rw [List.length_take]; omega
  · have := h.l3; unfold Tp.cutV; dsimp only; rw [List.length_take]; omega
theorem recV_len {t : Tp.Tr} {j e : Nat} (h : Tp.rightT (Tp.cutV t j e) = true) (h1 : (Tp.cutV t j e).ticks.length ≤ 500) (h3 : (Tp.cutV t j e).events.length ≤ 500) : (Tp.recV t j e).length ≤ 22000 := by
  have h2 := Tp.wt_len2 _ h h1 h3
  simp only [Tp.wt, Tp.bodyT, List.length_append] at h2
  unfold Tp.cutV at h2
  unfold Tp.recV
  dsimp only at h2
  omega
theorem fzT {w : World} {P : Nat} {cs : Array Value} {T : TypeId} (h : w.heap[P]? = some (.cells cs T (0, 0))) (i : Nat) : w.frozen? ⟨P, i, none⟩ = false := by simp [World.frozen?, h]
theorem set3T {w : World} {P M : Nat} {a b c x y z : Value} {T : TypeId} (h : w.heap[P]? = some (.cells #[a, b, c] T (0, 0))) (hP : M ≤ P) : (((w.setCell ⟨P, 0, none⟩ x).setCell ⟨P, 1, none⟩ y).setCell ⟨P, 2, none⟩ z).heap[P]? = some (.cells #[x, y, z] T (0, 0)) ∧ Below M w (((w.setCell ⟨P, 0, none⟩ x).setCell ⟨P, 1, none⟩ y).setCell ⟨P, 2, none⟩ z) := by
  have h1 := heap_setCell_same w P 0 _ T x h
  have h2 := heap_setCell_same _ P 1 _ T y h1
  have h3 := heap_setCell_same _ P 2 _ T z h2
  refine ⟨by rw [h3]; rfl, ⟨rfl, rfl, rfl, by simp, fun i hi => ?_⟩⟩
  have hn : i ≠ P := by omega
  rw [heap_setCell_other _ _ i _ hn, heap_setCell_other _ _ i _ hn, heap_setCell_other _ _ i _ hn]
set_option maxRecDepth 100000 in
set_option maxHeartbeats 8000000 in
theorem cut_walk (w : World) (ta ca ea : Option Addr) (tc cc ec : Nat) (t : Tp.Tr) (ht : TrS w.heap.size w ta ca ea tc cc ec t) (hcp : t.ticks.length ≤ tc ∧ t.counts.length ≤ cc) (q : Int) :
    Calls Try.prog 5 #[trV ta ca ea tc cc ec t, .int .i64 q] w fun e w' => e = .returned (.bool true) ∧ Below w.heap.size w w' := by
  have EM := hidT (many_any ta ca ea tc cc ec t.ticks.length t.counts.length t.events.length)
  obtain ⟨M, hM⟩ : ∃ M, M = w.heap.size := ⟨_, rfl⟩
  obtain ⟨W0, hW0⟩ : ∃ W, W = w.alloc (.cells #[.slice ta t.ticks.length tc, .slice ca t.counts.length cc, .slice ea t.events.length ec] 26) := ⟨_, rfl⟩
  have K0 : Hid (Below w.heap.size w W0) := by rw [hW0]; exact (Below.refl _ _).alloc (Nat.le_refl _) _
  have HC : Hid (∀ W, Below W0.heap.size W0 W → W.cell? ⟨M, 0, none⟩ = some (.slice ta t.ticks.length tc) ∧ W.cell? ⟨M, 1, none⟩ = some (.slice ca t.counts.length cc) ∧ W.cell? ⟨M, 2, none⟩ = some (.slice ea t.events.length ec)) := by
    rw [hW0, hM]
    exact al3
  have HMl : Hid (M < W0.heap.size) := by rw [hW0, hM]; exact hidT (by simp)
  have HM := hidT hM
  have HW0 := hidT hW0
  have R0 : Hid (Below W0.heap.size W0 W0) := Below.refl _ _
  have KNW : Hid (∀ W, Below W0.heap.size W0 W → Calls Try.prog 8 #[] W fun e w' => e = .returned (.bool true) ∧ Below w.heap.size w w') := fun W q => (known13 W).mono fun e w' h => ⟨h.1, belTo (belTo K0.out q) h.2⟩
  by_cases hmany : 500 < t.ticks.length ∨ 500 < t.counts.length ∨ 500 < t.events.length
  · rw [decide_eq_true hmany] at EM
    clear hmany ht hW0 hM hcp
    unfold trV
    generalize t.ticks.length = n1 at *
    generalize t.counts.length = n2 at *
    generalize t.events.length = n3 at *
    obtain ⟨t0, t1, t2⟩ := HC.out _ R0.out
    go_enter Try.func5, Try.ntmps5
    go_upto_region 1 with fail
    rw [← HW0.out, ← HM.out]
    go_wp2_with fail
    refine (EM.out _).mono ?_
    rintro e w4 ⟨rfl, k4⟩
    have K4 := hidT k4
    clear k4
    go_wp2_with fail
    refine (KNW.out _ K4.out).mono ?_
    rintro e w5 ⟨rfl, k5⟩
    have K5 := hidT k5
    clear k5
    go_wp2_with fail
    go_ret
    exact ⟨rfl, K5.out⟩
  rw [decide_eq_false hmany] at EM
  have HWr := hidT (fun W (b : Below w.heap.size w W) => writeTr_any t ta ca ea tc cc ec W ((ht.later b (Nat.le_refl _)).mono b.size) (by omega) (by omega) (by omega))
  by_cases hR : Tp.rightT t = true
  case neg =>
    have HWn : Hid (∀ W, Below w.heap.size w W → Calls Try.prog 9 #[trV ta ca ea tc cc ec t] W fun e w' => e = .returned (.tuple #[.slice none 0 0, .int .i64 32]) ∧ Below W.heap.size W w') := fun W b => (HWr.out W b).mono fun e w' h => by unfold wtQ at h; rw [if_neg hR] at h; exact h
    clear HWr hmany ht hW0 hM hcp hR
    unfold trV at HWn ⊢
    generalize t.ticks.length = n1 at *
    generalize t.counts.length = n2 at *
    generalize t.events.length = n3 at *
    obtain ⟨t0, t1, t2⟩ := HC.out _ R0.out
    go_enter Try.func5, Try.ntmps5
    go_upto_region 1 with fail
    rw [← HW0.out, ← HM.out]
    go_wp2_with fail
    refine (EM.out _).mono ?_
    rintro e w4 ⟨rfl, k4⟩
    have K4 := hidT k4
    clear k4 t0 t1 t2
    obtain ⟨t0, t1, t2⟩ := HC.out _ K4.out
    go_wp2_with fail
    refine (HWn.out _ (belTo K0.out K4.out)).mono ?_
    rintro e w5 ⟨rfl, k5⟩
    have K5 := hidT (K4.out.trans (k5.mono K4.out.size))
    clear k5
    go_wp2_with fail
    refine (KNW.out _ K5.out).mono ?_
    rintro e w6 ⟨rfl, k6⟩
    have K6 := hidT k6
    clear k6
    go_wp2_with fail
    go_ret
    exact ⟨rfl, K6.out⟩
  case pos =>
    have hrg := right_rg hR
    have hNe : ∀ e ∈ t.events, -9223372036854775808 ≤ e.n ∧ e.n ≤ 9223372036854775807 := fun x hx => (ht.re x hx).2
    have hby : Tp.Byt (Tp.wt t) := Tp.Byt.app (bodyT_byt t hrg hNe) (Tp.sl4_byt _)
    have hWL : (Tp.wt t).length ≤ 22000 := Tp.wt_len2 t hR (by omega) (by omega)
    have hW10 : 10 ≤ (Tp.wt t).length := by
      simp only [Tp.wt, Tp.bodyT, List.length_append, List.length_cons, Tp.sl4, Tp.head]
      simp
      omega
    obtain ⟨r, hr1, hA⟩ := amongT q (Tp.wt t).length (by omega) (by omega)
    have hr2 : r < (Tp.wt t).length := by omega
    obtain ⟨j, e, s, i, x, hrt, hcases⟩ := Tp.cut_rt t hR hNe hby r hr2
    have hx : x ≠ 0 := Tp.rtB_err _ (hby.take r) _ _ _ _ hrt
    have hje : j ≤ t.ticks.length ∧ e ≤ t.events.length ∧ s ≤ r ∧ Tp.rightT (Tp.cutV t j e) = true := by
      rcases hcases with ⟨h5, rfl, rfl, rfl⟩ | ⟨h5, hC⟩
      · exact ⟨Nat.zero_le _, Nat.zero_le _, Nat.zero_le _, by simp [Tp.rightT, Tp.cutV, Tp.okC]⟩
      · exact ⟨hC.lj, hC.le, hC.sk, hC.rt⟩
    obtain ⟨hj, he, hsr, hRv⟩ := hje
    obtain ⟨cl1, cl2, cl3⟩ := cutV_len (t := t) hrg.c hj he
    have HWy : Hid (∀ W, Below w.heap.size w W → Calls Try.prog 9 #[trV ta ca ea tc cc ec t] W fun e w' => ∃ g cb, e = .returned (.tuple #[.slice (some ⟨g, 0, none⟩) (Tp.wt t).length cb, .int .i64 0]) ∧ Hid ((Tp.wt t).length ≤ cb ∧ ByB w' g (Tp.wt t) ∧ Below W.heap.size W w')) := fun W b => (HWr.out W b).mono fun e w' h => by
      unfold wtQ at h
      rw [if_pos hR] at h
      obtain ⟨v, rfl, o, k⟩ := h
      obtain ⟨g, cb, rfl, hb, hcb, B⟩ := o.open' (by omega)
      exact ⟨g, cb, rfl, hcb, B, k⟩
    have HSg : Hid (∀ W g cb, ByB W g (Tp.wt t) → (Tp.wt t).length ≤ cb → Calls Try.prog 18 #[.slice (some ⟨g, 0, none⟩) r cb] W fun e1 w' => ∃ ua uc va vc ya yc, e1 = .returned (.tuple #[.agg #[.slice ua j uc, .slice va j vc, .slice ya e yc], .int .i64 (s : Int), .int .i64 x]) ∧ Hid (TrS w'.heap.size w' ua va ya uc vc yc (Tp.cutV t j e) ∧ Below W.heap.size W w')) := fun W g cb hB hcb => by
      have hl : ((Tp.wt t).take r).length = r := by rw [List.length_take]; omega
      have h := salvage_any ((Tp.wt t).take r) (some ⟨g, 0, none⟩) cb W (hby.take r) (B := W.heap.size) (fun _ => ⟨g, 0, rfl, hB.lt, fun i y hy => by rw [Nat.zero_add]; exact hB.c i y (getTk hy)⟩) (Nat.le_refl _) (by rw [hl]; omega) (by rw [hl]; omega)
      rw [hl, hrt] at h
      refine h.mono fun e1 w' h => ?_
      obtain ⟨ua, uc, va, vc, ya, yc, rfl, ts, k⟩ := sgTr (ht.tb.cut j e) h
      rw [cl1, cl2, cl3]
      exact ⟨ua, uc, va, vc, ya, yc, rfl, ts, k⟩
    obtain ⟨L, hL⟩ : ∃ L, L = (Tp.wt t).length := ⟨_, rfl⟩
    have HL := hidT hL
    rw [← hL] at HWy HSg hA hr2 hWL hW10
    have hA' := hidT hA
    have HHt := hidT ht
    have HRr := hidT hR
    have HRv := hidT hRv
    have HCs := hidT hcases
    have HJE : Hid (j ≤ t.ticks.length ∧ e ≤ t.events.length ∧ s ≤ r) := ⟨hj, he, hsr⟩
    have HNc : Hid (t.counts.length = t.ticks.length) := hrg.c
    have HNm : Hid (t.ticks.length ≤ 500 ∧ t.events.length ≤ 500) := by unfold Hid; omega
    have HCp := hidT hcp
    have HEt := hidT (fun (W : World) => @sameTr_yes W)
    obtain ⟨n1, hn1⟩ : ∃ n, n = t.ticks.length := ⟨_, rfl⟩
    obtain ⟨n3, hn3⟩ : ∃ n, n = t.events.length := ⟨_, rfl⟩
    have HN1 := hidT hn1
    have HN3 := hidT hn3
    unfold trV at HWy ⊢
    rw [hrg.c, ← hn1, ← hn3] at EM HC HW0 HWy ⊢
    have qx : (x == 0) = false := by simpa using hx
    have d10 : decide ((L : Int) < 10) = false := decide_eq_false (by omega)
    have d10n : decide (L < 10) = false := decide_eq_false (by omega)
    have drs : decide ((r : Int) < (s : Int)) = false := decide_eq_false (by omega)
    have drsn : decide (r < s) = false := decide_eq_false (by omega)
    have dnj : decide ((n1 : Int) < (j : Int)) = false := decide_eq_false (by omega)
    have dnjn : decide (n1 < j) = false := decide_eq_false (by omega)
    have dne : decide ((n3 : Int) < (e : Int)) = false := decide_eq_false (by omega)
    have dnen : decide (n3 < e) = false := decide_eq_false (by omega)
    have qj : ((j : Int) == (j : Int)) = true := beq_self_eq_true _
    have HrL : Hid (r < L ∧ L ≤ 22000) := ⟨hr2, hWL⟩
    clear HWr hmany ht hW0 hM hcp hR hrg hNe hby hWL hW10 hr1 hA hr2 hrt hcases hx hj he hsr hRv cl1 cl2 cl3 hL hn1 hn3
    obtain ⟨t0, t1, t2⟩ := HC.out _ R0.out
    go_enter Try.func5, Try.ntmps5
    go_upto_region 1 with fail
    rw [← HW0.out, ← HM.out]
    go_wp2_with fail
    refine (EM.out _).mono ?_
    rintro e1 w4 ⟨rfl, k4⟩
    have K4 := hidT k4
    clear k4 t0 t1 t2
    obtain ⟨t0, t1, t2⟩ := HC.out _ K4.out
    go_wp2_with fail
    refine (HWy.out _ (belTo K0.out K4.out)).mono ?_
    rintro e1 w5 ⟨g, cb, rfl, h5⟩
    have K5 := hidT (K4.out.trans (h5.out.2.2.mono K4.out.size))
    have HB5 := hidT h5.out.2.1
    have HCb := hidT h5.out.1
    clear h5 t0 t1 t2
    go_wp2_with fail
    refine (hA'.out _).mono ?_
    rintro e1 w6 ⟨rfl, rfl⟩
    obtain ⟨AD, hra, hAD⟩ := slP (P := Try.prog) Try.underlying27 (by kernel_rfl) infoB'.choose_spec.1 (some ⟨g, 0, none⟩) (n := L) (ca := cb) (U := r) (by have := HrL.out; have := HCb.out; omega)
    have hAD0 := hAD g 0 rfl
    subst hAD0
    go_wp2_with fail
    refine (HSg.out _ g cb HB5.out HCb.out).mono ?_
    rintro e1 w7 ⟨ua, uc, va, vc, ya, yc, rfl, h7⟩
    have K7 := hidT (K5.out.trans (h7.out.2.mono K5.out.size))
    have T7 := hidT h7.out.1
    have HB7 : Hid (ByB w7 g (Tp.wt t)) := HB5.out.kept (h7.out.2.block g HB5.out.lt)
    clear h7 HSg HWy hA' EM hra HB5
    obtain ⟨P8, hP8⟩ : ∃ P, P = w7.heap.size := ⟨_, rfl⟩
    obtain ⟨W8, hW8⟩ : ∃ W, W = w7.alloc (.cells #[.slice ua j uc, .slice va j vc, .slice ya e yc] 26) := ⟨_, rfl⟩
    have B78 : Hid (Below w7.heap.size w7 W8) := by rw [hW8]; exact (Below.refl _ _).alloc (Nat.le_refl _) _
    have UC : Hid (∀ W, Below W8.heap.size W8 W → W.cell? ⟨P8, 0, none⟩ = some (.slice ua j uc) ∧ W.cell? ⟨P8, 1, none⟩ = some (.slice va j vc) ∧ W.cell? ⟨P8, 2, none⟩ = some (.slice ya e yc)) := by rw [hW8, hP8]; exact al3
    have HP8 : Hid (P8 < W8.heap.size) := by rw [hW8, hP8]; exact hidT (by simp)
    have K8 := hidT (K7.out.trans (B78.out.mono K7.out.size))
    have T8 := hidT ((T7.out.later B78.out (Nat.le_refl _)).mono B78.out.size)
    have HB8 : Hid (ByB W8 g (Tp.wt t)) := HB7.out.kept (B78.out.block g HB7.out.lt)
    have R8 : Hid (Below W8.heap.size W8 W8) := Below.refl _ _
    clear T7 HB7
    obtain ⟨t0, t1, t2⟩ := HC.out _ K8.out
    obtain ⟨u0, u1, u2⟩ := UC.out _ R8.out
    go_upto_region 10 with fail
    rw [← hW8, ← hP8]
    clear hW8 hP8
    obtain ⟨i1, gi1, -⟩ := info_of infoTk
    obtain ⟨i2, gi2, -⟩ := infoJ
    obtain ⟨i3, gi3, -⟩ := info_of infoEv
    obtain ⟨A1, ra1, hA1⟩ := slP (P := Try.prog) Try.underlying22 (by kernel_rfl) gi1 ta (n := n1) (ca := tc) (U := j) (by have := HJE.out; have := HCp.out; have := HN1.out; omega)
    obtain ⟨A2, ra2, hA2⟩ := slP (P := Try.prog) Try.underlying23 (by kernel_rfl) gi2 ca (n := n1) (ca := cc) (U := j) (by have := HJE.out; have := HCp.out; have := HN1.out; have := HNc.out; omega)
    obtain ⟨A3, ra3, hA3⟩ := slP (P := Try.prog) Try.underlying24 (by kernel_rfl) gi3 ea (n := n3) (ca := ec) (U := e) (by have := HJE.out; have := HHt.out.ce; omega)
    have TV : Hid (TrS w.heap.size w A1 A2 A3 tc cc ec (Tp.cutV t j e)) := HHt.out.cut hA1 hA2 hA3 j j e
    have FS : Hid (∀ W, Below W8.heap.size W8 W → (W.cell? ⟨M, 0, none⟩ = some (.slice ta n1 tc) ∧ W.cell? ⟨M, 1, none⟩ = some (.slice ca n1 cc) ∧ W.cell? ⟨M, 2, none⟩ = some (.slice ea n3 ec)) ∧ W.cell? ⟨P8, 0, none⟩ = some (.slice ua j uc) ∧ W.cell? ⟨P8, 1, none⟩ = some (.slice va j vc) ∧ W.cell? ⟨P8, 2, none⟩ = some (.slice ya e yc)) := fun W b => ⟨HC.out W (K8.out.trans (b.mono K8.out.size)), UC.out W b⟩
    have hMl8 : M < W8.heap.size := Nat.lt_of_lt_of_le HMl.out K8.out.size
    have hPl8 : P8 < W8.heap.size := HP8.out
    have hAr := hidT (And.intro hA1 hA2)
    have HA3h := hidT hA3
    clear hA1 hA2 hA3
    go_upto_region 12 with fail
    go_cut [11] from 75 to 93 (fun s11 wx => ∃ P11, s11 = .pointer (some ⟨P11, 0, none⟩) ∧ Hid (wx.heap[P11]? = some (.cells #[.slice A1 j tc, .slice A2 j cc, .slice A3 e ec] 26 (0, 0)) ∧ Below W8.heap.size W8 wx))
    case first =>
      go_region_held3 (fun X => (X.cell? ⟨M, 0, none⟩ = some (.slice ta n1 tc) ∧ X.cell? ⟨M, 1, none⟩ = some (.slice ca n1 cc) ∧ X.cell? ⟨M, 2, none⟩ = some (.slice ea n3 ec)) ∧ X.cell? ⟨P8, 0, none⟩ = some (.slice ua j uc) ∧ X.cell? ⟨P8, 1, none⟩ = some (.slice va j vc) ∧ X.cell? ⟨P8, 2, none⟩ = some (.slice ya e yc)) (first | (exact ⟨⟨t0, t1, t2⟩, u0, u1, u2⟩) | go_keep) (fail)
      all_goals
        go_wp2_with fail
        go_meet
        exact ⟨_, rfl, heap_alloc_new W8 _, ((Below.refl _ _).alloc (Nat.le_refl _) _).drew⟩
    case rest =>
      obtain ⟨P11, rfl, h11⟩ := hcut
      obtain ⟨W11, hW11⟩ : ∃ W, W = wc := ⟨_, rfl⟩
      subst hW11
      have K11 := hidT (K8.out.trans (h11.out.2.mono K8.out.size))
      have J11 := hidT h11.out.2
      have VC : Hid (∀ W, Below W11.heap.size W11 W → W.cell? ⟨P11, 0, none⟩ = some (.slice A1 j tc) ∧ W.cell? ⟨P11, 1, none⟩ = some (.slice A2 j cc) ∧ W.cell? ⟨P11, 2, none⟩ = some (.slice A3 e ec)) := fun W b => box3T W _ _ _ 26 ((b.block P11 (Array.getElem?_eq_some_iff.1 h11.out.1).1).trans h11.out.1)
      have HP11 : Hid (P11 < W11.heap.size) := (Array.getElem?_eq_some_iff.1 h11.out.1).1
      have HB11 : Hid (ByB W11 g (Tp.wt t)) := HB8.out.kept (h11.out.2.block g HB8.out.lt)
      have CL := hidT (cutV_len (t := t) HNc.out HJE.out.1 HJE.out.2.1)
      have U11 := hidT ((T8.out.later h11.out.2 (Nat.le_refl _)).mono h11.out.2.size)
      have V11 := hidT ((TV.out.later (belTo K0.out K11.out) (Nat.le_refl _)).mono (belTo K0.out K11.out).size)
      have R11 : Hid (Below W11.heap.size W11 W11) := Below.refl _ _
      have ESm : Hid (Calls Try.prog 13 #[.agg #[.slice ua j uc, .slice va j vc, .slice ya e yc], .agg #[.slice A1 j tc, .slice A2 j cc, .slice A3 e ec]] W11 fun e w' => e = .returned (.bool true) ∧ Below W11.heap.size W11 w') := by
        have h := HEt.out W11 ua va ya A1 A2 A3 uc vc yc tc cc ec (Tp.cutV t j e) U11.out V11.out (by rw [CL.out.1, CL.out.2.1]) (by rw [CL.out.1]; have := HJE.out; have := HNm.out; omega) (by rw [CL.out.2.2]; have := HJE.out; have := HNm.out; omega)
        unfold trV at h
        rw [CL.out.1, CL.out.2.1, CL.out.2.2] at h
        exact h
      clear h11 u0 u1 u2 t0 t1 t2 HEt
      obtain ⟨-, u0, u1, u2⟩ := FS.out _ J11.out
      obtain ⟨v0, v1, v2⟩ := VC.out _ R11.out
      by_cases h5 : r < 5
      · have d5 : decide ((r : Int) < 5) = true := decide_eq_true (by omega)
        have d5n : decide (r < 5) = true := decide_eq_true h5
        have hs0 : s = 0 := by
          rcases HCs.out with ⟨_, _, _, h⟩ | ⟨h, _⟩
          · exact h
          · omega
        subst hs0
        go_wp2_with fail
        refine ESm.out.mono ?_
        rintro e1 w12 ⟨rfl, k12⟩
        have K12 := hidT (K11.out.trans (k12.mono K11.out.size))
        clear k12
        go_wp2_with fail
        refine (KNW.out _ K12.out).mono ?_
        rintro e1 w13 ⟨rfl, k13⟩
        have K13 := hidT k13
        clear k13
        go_wp2_with fail
        go_ret
        exact ⟨rfl, K13.out⟩
      · have d5 : decide ((r : Int) < 5) = false := decide_eq_false (by omega)
        have d5n : decide (r < 5) = false := decide_eq_false h5
        have HCR : Hid (Tp.CutR t r j e s) := by
          rcases HCs.out with ⟨h, _⟩ | ⟨_, h⟩
          · omega
          · exact h
        clear HCs
        go_wp2_with fail
        refine ESm.out.mono ?_
        rintro e1 w12 ⟨rfl, k12⟩
        have J12 := hidT k12
        have K12 := hidT (K11.out.trans (k12.mono K11.out.size))
        clear k12 u0 u1 u2 v0 v1 v2
        obtain ⟨v0, v1, v2⟩ := VC.out _ J12.out
        have EPv : Hid (∀ W, Below W0.heap.size W0 W → Calls Try.prog 20 #[.agg #[.slice A1 j tc, .slice A2 j cc, .slice A3 e ec]] W (PuQ W W.heap.size (Tp.recV t j e))) := fun W b => by
          have h := rRecords_any (Tp.cutV t j e) A1 A2 A3 tc cc ec W ((TV.out.later (belTo K0.out b) (Nat.le_refl _)).mono (belTo K0.out b).size) (Nat.le_refl _) (right_rg HRv.out) (by rw [CL.out.1]; have := HJE.out; have := HNm.out; omega) (by rw [CL.out.2.2]; have := HJE.out; have := HNm.out; omega)
          unfold trV at h
          rw [CL.out.1, CL.out.2.1, CL.out.2.2] at h
          exact h
        obtain ⟨rv, hrv⟩ : ∃ l, l = Tp.recV t j e := ⟨_, rfl⟩
        have HRV := hidT hrv
        rw [← hrv] at EPv
        have HSe : Hid (s = 5 + rv.length ∧ s ≤ r) := by rw [hrv]; exact ⟨HCR.out.se, HCR.out.sk⟩
        clear hrv
        have HLL : Hid ((Tp.head 2).length + rv.length ≤ 10000000) := by have := HSe.out; have := HrL.out; have h2 : (Tp.head 2).length = 5 := rfl; unfold Hid; omega
        have hP12 : P11 < w12.heap.size := Nat.lt_of_lt_of_le HP11.out J12.out.size
        go_upto_region 17 with fail
        go_cut [12] from 105 to 108 (fun s12 wx => Hid (OwB wx w12.heap.size s12 (Tp.head 2 ++ rv) ∧ Below w12.heap.size w12 wx))
        case first =>
          go_region_held3 (fun X => X.cell? ⟨P11, 0, none⟩ = some (.slice A1 j tc) ∧ X.cell? ⟨P11, 1, none⟩ = some (.slice A2 j cc) ∧ X.cell? ⟨P11, 2, none⟩ = some (.slice A3 e ec)) (first | (exact ⟨v0, v1, v2⟩) | go_keep) (first
            | (go_at_call 19; refine Calls.mono (rHead_any 2 _) ?_; rintro e5 w5 ⟨v5, rfl, o5, k5⟩; have B5 := hidT (Below.trans (by go_grown : Below w12.heap.size w12 _) (k5.mono (by go_size))); obtain ⟨va5, vc5, rfl⟩ := ownShT o5; have O5 : Hid (OwB w5 w12.heap.size (.slice va5 (Tp.head 2).length vc5) (Tp.head 2)) := World.ownsRow.mono o5 (by go_size); obtain ⟨v0, v1, v2⟩ := VC.out w5 (J12.out.trans (B5.out.mono J12.out.size)); clear o5 k5)
            | (go_at_call 20; refine Calls.mono (EPv.out _ (K12.out.trans ((B5.out.trans ((by go_grown : Below w5.heap.size w5 _).mono B5.out.size)).mono K12.out.size))) ?_; rintro e6 w6 ⟨v6, rfl, o6, k6⟩; have kk6 := Below.trans (by go_grown : Below w5.heap.size w5 _) (k6.mono (by go_size)); have K6 := hidT (B5.out.trans (kk6.mono B5.out.size)); have O6 := hidT (ownLtT O5.out kk6); obtain ⟨va6, vc6, rfl⟩ := ownShT o6; have BY6 := hidT (OwB.bys o6); obtain ⟨v0, v1, v2⟩ := VC.out w6 (J12.out.trans (K6.out.mono J12.out.size)); clear o6 k6 kk6)
            | ((first | rw [if_pos (by rfl)] | skip); refine wp_app_by _ _ rfl w12.heap.size _ (Tp.head 2) rfl (ownLtT O6.out (by go_grown)) _ _ _ rv rfl rfl (BY6.out.later (by go_grown : Below w6.heap.size w6 _) (Nat.le_refl _)) HLL.out (Nat.le_trans K6.out.size (by go_size)) ?_; intro v8 w8 o8 k8 u8; have F := hidT (And.intro o8 (K6.out.trans (Below.trans ((by go_grown : Below w6.heap.size w6 _).mono K6.out.size) k8))); obtain ⟨v0, v1, v2⟩ := VC.out w8 (J12.out.trans (F.out.2.mono J12.out.size)); clear o8 k8 u8))
          all_goals
            go_wp2_with fail
            go_meet
            exact F.out
        case rest =>
          have F17 := hcut
          clear hcut v0 v1 v2
          obtain ⟨W17, hW17⟩ : ∃ W, W = wc := ⟨_, rfl⟩
          subst hW17
          have J17 := hidT (J12.out.trans (F17.out.2.mono J12.out.size))
          have K17 := hidT (K12.out.trans (F17.out.2.mono K12.out.size))
          have O17 := hidT F17.out.1
          have hN17 : (Tp.head 2 ++ rv).length = s := by rw [List.length_append, HSe.out.1]; rfl
          obtain ⟨va17, vc17, hv17⟩ := ownShT O17.out
          have BY17 : Hid (ByS W17.heap.size W17 va17 (Tp.head 2 ++ rv)) := by have o17 := O17.out; rw [hv17] at o17; exact OwB.bys o17
          rw [hN17] at hv17
          subst hv17
          have HB17 : Hid (ByB W17 g (Tp.wt t)) := (HB11.out.kept (J12.out.block g HB11.out.lt)).kept (F17.out.2.block g ((HB11.out.kept (J12.out.block g HB11.out.lt)).lt))
          have CVb : Hid (∀ W, Below W17.heap.size W17 W → (convert 27 9 (.slice (some ⟨g, 0, none⟩) s cb)).run Try.prog W = .ok (.string (strOfNums (Tp.head 2 ++ rv))) W) := fun W b => by
            have hl : ((Tp.wt t).take s).length = s := by rw [List.length_take, ← HL.out]; have := HSe.out; have := HrL.out; omega
            have h := cv_at W g 0 cb ((Tp.wt t).take s) (fun i y hy => by rw [Nat.zero_add]; exact (HB17.out.kept (b.block g HB17.out.lt)).c i y (getTk hy))
            rw [hl, HCR.out.tk, ← HRV.out] at h
            exact h
          have CVo : Hid (∀ W, Below W17.heap.size W17 W → (convert 27 9 (.slice va17 s vc17)).run Try.prog W = .ok (.string (strOfNums (Tp.head 2 ++ rv))) W) := fun W b => by
            obtain ⟨g', o', e', hg', hc'⟩ := (BY17.out.later b (Nat.le_refl _)) (by rw [hN17, HSe.out.1]; omega)
            subst e'
            have h := cv_at W g' o' vc17 (Tp.head 2 ++ rv) hc'
            rw [hN17] at h
            exact h
          obtain ⟨ST, hST⟩ : ∃ S, S = strOfNums (Tp.head 2 ++ rv) := ⟨_, rfl⟩
          have qst : (ST.toList == ST.toList) = true := beq_self_eq_true _
          rw [← hST] at CVb CVo
          have qs : ((s : Int) == (s : Int)) = true := beq_self_eq_true _
          obtain ⟨AD5, ra5, hAD5⟩ := slP (P := Try.prog) Try.underlying27 (by kernel_rfl) infoB'.choose_spec.1 (some ⟨g, 0, none⟩) (n := L) (ca := cb) (U := s) (by have := HrL.out; have := HCb.out; have := HSe.out; omega)
          have hAD50 := hAD5 g 0 rfl
          subst hAD50
          have cb1 := CVb.out W17 (Below.refl _ _)
          have cb2 := CVb.out W17.drew (Below.refl _ _).drew
          have co1 := CVo.out W17 (Below.refl _ _)
          have co2 := CVo.out W17.drew (Below.refl _ _).drew
          clear hST hAD5 hN17
          go_upto_region 18 with fail
          go_cut [121] from 109 to 121 (fun sv wx => sv = .bool false ∧ Hid (Below W17.heap.size W17 wx))
          case first =>
            go_region_held3 (fun X => (convert 27 9 (.slice (some ⟨g, 0, none⟩) s cb)).run Try.prog X = .ok (.string ST) X ∧ (convert 27 9 (.slice va17 s vc17)).run Try.prog X = .ok (.string ST) X) (first | (exact ⟨cb1, co1⟩) | (exact ⟨cb2, co2⟩) | go_keep) (fail)
            all_goals
              go_wp2_with fail
              go_meet
              exact ⟨rfl, (Below.refl _ _).drew⟩
          case rest =>
            obtain ⟨rfl, h18⟩ := hcut
            obtain ⟨W18, hW18⟩ : ∃ W, W = wc := ⟨_, rfl⟩
            subst hW18
            have J18 := hidT (J17.out.trans (h18.out.mono J17.out.size))
            have K18 := hidT (K17.out.trans (h18.out.mono K17.out.size))
            clear h18 cb1 cb2 co1 co2 CVb CVo ra5 BY17 O17 F17 HB17
            obtain ⟨U, hU⟩ : ∃ U, U = min n3 (e + 1) := ⟨_, rfl⟩
            have hmin : min (n3 : Int) ((e : Int) + 1) = (U : Int) := by omega
            have HU : Hid (U = min t.events.length (e + 1)) := by rw [← HN3.out]; exact hU
            have HMn : ∀ W : World, (Builtin.min_ #[3, 3] 3 #[.int .i64 (n3 : Int), .int .i64 ((e : Int) + 1)]).run Try.prog W = .ok (.int .i64 (U : Int)) W := fun W => by rw [← hmin]; exact Lib.run_min_ints W _ _ .i64 .i64 _ _
            have we1 : wrap64 ((e : Int) + 1) = (e : Int) + 1 := by have := HJE.out; have := HNm.out; unfold wrap64; omega
            have we2 : IntKind.i64.wrap ((e : Int) + 1) = (e : Int) + 1 := (IntWalk.i64_left _).trans we1
            clear hmin
            have hUl : U ≤ n3 := by omega
            obtain ⟨A6, ra6, hA6⟩ := slP (P := Try.prog) Try.underlying24 (by kernel_rfl) gi3 ea (n := n3) (ca := ec) (U := U) (by have := HHt.out.ce; have := HN3.out; omega)
            have TV6 : Hid (TrS w.heap.size w A1 A2 A6 tc cc ec (Tp.cutV t j U)) := HHt.out.cut hAr.out.1 hAr.out.2 hA6 j j U
            obtain ⟨t0, t1, t2⟩ := HC.out _ K18.out
            obtain ⟨v0, v1, v2⟩ := VC.out _ J18.out
            have hM18 : M < W18.heap.size := Nat.lt_of_lt_of_le HMl.out K18.out.size
            have hP18 : P11 < W18.heap.size := Nat.lt_of_lt_of_le HP11.out J18.out.size
            clear hA6 hU
            go_upto_region 20 with fail
            go_cut [13] from 122 to 137 (fun s13 wx => ∃ P13, s13 = .pointer (some ⟨P13, 0, none⟩) ∧ Hid (wx.heap[P13]? = some (.cells #[.slice A1 j tc, .slice A2 j cc, .slice A6 U ec] 26 (0, 0)) ∧ Below W18.heap.size W18 wx ∧ W18.heap.size ≤ P13))
            case first =>
              go_region_held3 (fun X => (X.cell? ⟨M, 0, none⟩ = some (.slice ta n1 tc) ∧ X.cell? ⟨M, 1, none⟩ = some (.slice ca n1 cc) ∧ X.cell? ⟨M, 2, none⟩ = some (.slice ea n3 ec)) ∧ X.cell? ⟨P11, 0, none⟩ = some (.slice A1 j tc) ∧ X.cell? ⟨P11, 1, none⟩ = some (.slice A2 j cc) ∧ X.cell? ⟨P11, 2, none⟩ = some (.slice A3 e ec)) (first | (exact ⟨⟨t0, t1, t2⟩, v0, v1, v2⟩) | go_keep) (fail)
              all_goals
                go_wp2_with fail
                go_meet
                exact ⟨_, rfl, heap_alloc_new W18 _, ((Below.refl _ _).alloc (Nat.le_refl _) _).drew, Nat.le_refl _⟩
            case rest =>
              obtain ⟨P13, rfl, h13⟩ := hcut
              obtain ⟨W20, hW20⟩ : ∃ W, W = wc := ⟨_, rfl⟩
              subst hW20
              have H13 := hidT h13
              have J20 := hidT (J18.out.trans (h13.out.2.1.mono J18.out.size))
              have K20 := hidT (K18.out.trans (h13.out.2.1.mono K18.out.size))
              have hP20 : P13 < W20.heap.size := (Array.getElem?_eq_some_iff.1 h13.out.1).1
              have CU := hidT (cutV_len (t := t) (j := j) (e := U) HNc.out HJE.out.1 (by have := HU.out; omega))
              have HRU : Hid (Tp.rightT (Tp.cutV t j U) = true) := by rw [HU.out]; exact Tp.right_min HRr.out HRv.out HJE.out.2.1
              have EPw : Hid (∀ W, Below W0.heap.size W0 W → Calls Try.prog 20 #[.agg #[.slice A1 j tc, .slice A2 j cc, .slice A6 U ec]] W (PuQ W W.heap.size (Tp.recV t j U))) := fun W b => by
                have h := rRecords_any (Tp.cutV t j U) A1 A2 A6 tc cc ec W ((TV6.out.later (belTo K0.out b) (Nat.le_refl _)).mono (belTo K0.out b).size) (Nat.le_refl _) (right_rg HRU.out) (by rw [CU.out.1]; have := HJE.out; have := HNm.out; omega) (by rw [CU.out.2.2]; have := HU.out; have := HNm.out; omega)
                unfold trV at h
                rw [CU.out.1, CU.out.2.1, CU.out.2.2] at h
                exact h
              obtain ⟨lw, hlw⟩ : ∃ l, l = Tp.recV t j U := ⟨_, rfl⟩
              have HLW := hidT hlw
              have HLl : Hid (lw.length ≤ 22000) := by rw [hlw]; exact recV_len HRU.out (by rw [CU.out.1]; have := HJE.out; have := HNm.out; omega) (by rw [CU.out.2.2]; have := HU.out; have := HNm.out; omega)
              rw [← hlw] at EPw
              clear hlw h13 t0 t1 t2 v0 v1 v2 ra6 HMn we1 we2
              obtain ⟨N, hN⟩ : ∃ N, N = lw.length + 5 := ⟨_, rfl⟩
              have wl5 : wrap64 ((lw.length : Int) + 5) = (N : Int) := by have := HLl.out; unfold wrap64; omega
              have HN := hidT hN
              obtain ⟨x0, x1, x2⟩ := box3T W20 _ _ _ 26 H13.out.1
              clear hN
              go_wp2_with fail
              refine Calls.mono (EPw.out _ K20.out) ?_
              rintro e6 w6 ⟨v6, rfl, o6, h21'⟩
              have h21 := hidT h21'
              obtain ⟨va6, vc6, rfl⟩ := ownShT o6
              clear h21' o6 x0 x1 x2
              obtain ⟨W21, hW21⟩ : ∃ W, W = w6 := ⟨_, rfl⟩
              subst hW21
              have K21 := hidT (K20.out.trans (h21.out.mono K20.out.size))
              have J21 := hidT (J20.out.trans (h21.out.mono J20.out.size))
              have hX21 : W21.heap[P13]? = some (.cells #[.slice A1 j tc, .slice A2 j cc, .slice A6 U ec] 26 (0, 0)) := (h21.out.block P13 hP20).trans H13.out.1
              have HX21 := hidT hX21
              have B21 : Hid (Below W18.heap.size W18 W21) := H13.out.2.1.trans (h21.out.mono H13.out.2.1.size)
              have hM21 : M < W21.heap.size := Nat.lt_of_lt_of_le hM18 B21.out.size
              have hP21 : P11 < W21.heap.size := Nat.lt_of_lt_of_le hP18 B21.out.size
              have hP13 : P13 < W21.heap.size := Nat.lt_of_lt_of_le hP20 h21.out.size
              have WAY : Hid (j = n1 ∨ ∃ gc oc c, ca = some ⟨gc, oc, none⟩ ∧ gc < w.heap.size ∧ j < n1 ∧ t.counts[j]? = some c ∧ w.cell? ⟨gc, oc + j, none⟩ = some (.int .i64 c)) := by
                rcases Nat.lt_or_ge j n1 with h | h
                · have hl : j < t.counts.length := by have := HNc.out; have := HN1.out; omega
                  obtain ⟨gc, oc, e1, e2, e3⟩ := HHt.out.ct (by omega)
                  exact .inr ⟨gc, oc, t.counts[j], e1, e2, h, List.getElem?_eq_getElem hl, e3 j _ (List.getElem?_eq_getElem hl)⟩
                · exact .inl (by have := HJE.out; have := HN1.out; omega)
              have HN2 : Hid ((∀ c, t.counts[j]? = some c → (e : Int) < c) → N = s ∨ r < N) := fun h => by
                have h2 := (HCR.out.n2 h).2
                rw [← HU.out, ← HLW.out] at h2
                have := HN.out
                omega
              obtain ⟨t0, t1, t2⟩ := HC.out _ K21.out
              obtain ⟨v0, v1, v2⟩ := VC.out _ J21.out
              clear h21 hX21
              rcases WAY.out with hj1 | ⟨gc, oc, c, hca, hgc, hjn, hcj, hcell⟩
              · have HE : Hid (N = s ∨ r < N) := HN2.out fun c hc => by
                  have hl : t.counts.length ≤ j := by have := HNc.out; have := HN1.out; omega
                  rw [List.getElem?_eq_none hl] at hc
                  cases hc
                have dj : decide ((j : Int) < (n1 : Int)) = false := decide_eq_false (by omega)
                have djn : decide (j < n1) = false := decide_eq_false (by omega)
                clear hj1 WAY
                go_upto_region 22 with fail
                go_cut [161] from 142 to 161 (fun s161 wx => s161 = .bool false ∧ Hid (Below W21.heap.size W21 wx))
                case first =>
                  go_quiet (fail)
                  have BQ : Hid (Below W21.heap.size W21 (W21.drewN nq)) := ⟨by rfl, by rfl, by rfl, Nat.le_refl _, fun _ _ => by rfl⟩
                  go_wp2_with fail
                  go_meet
                  exact ⟨rfl, BQ.out⟩
                case rest =>
                  obtain ⟨rfl, h22⟩ := hcut
                  have K22 := hidT (K21.out.trans (h22.out.mono K21.out.size))
                  clear h22 t0 t1 t2 v0 v1 v2
                  by_cases hq : N = s
                  · have q1 : ((N : Int) == (s : Int)) = true := by rw [hq]; exact beq_self_eq_true _
                    clear hq
                    go_wp2_with fail
                    refine (KNW.out _ K22.out).mono ?_
                    rintro e1 wz ⟨rfl, kz⟩
                    have KZ := hidT kz
                    clear kz
                    go_wp2_with fail
                    go_ret
                    exact ⟨rfl, KZ.out⟩
                  · have q1 : ((N : Int) == (s : Int)) = false := by simpa using (by omega : ¬ (N : Int) = (s : Int))
                    have hlt : r < N := by have := HE.out; omega
                    have q2 : decide ((r : Int) < (N : Int)) = true := decide_eq_true (by omega)
                    have q2n : decide (r < N) = true := decide_eq_true hlt
                    clear hq hlt
                    go_wp2_with fail
                    refine (KNW.out _ K22.out).mono ?_
                    rintro e1 wz ⟨rfl, kz⟩
                    have KZ := hidT kz
                    clear kz
                    go_wp2_with fail
                    go_ret
                    exact ⟨rfl, KZ.out⟩
              · subst hca
                have c1 := (K0.out.trans (K21.out.mono K0.out.size)).cell (p := ⟨gc, oc + j, none⟩) hgc |>.trans hcell
                have hg21 : gc < W21.heap.size := Nat.lt_of_lt_of_le hgc (K0.out.trans (K21.out.mono K0.out.size)).size
                have HCJ := hidT hcj
                have dj : decide ((j : Int) < (n1 : Int)) = true := decide_eq_true (by omega)
                have djn : decide (j < n1) = true := decide_eq_true hjn
                have hji : (j : Int) < (n1 : Int) := by omega
                have hj0 : (0 : Int) ≤ (j : Int) := by omega
                clear WAY hcj hcell
                by_cases hce : c ≤ (e : Int)
                case neg =>
                  have HE : Hid (N = s ∨ r < N) := HN2.out fun c' hc' => by
                    rw [HCJ.out] at hc'
                    cases hc'
                    omega
                  have dc : decide (c ≤ (e : Int)) = false := decide_eq_false hce
                  clear hce
                  go_upto_region 22 with fail
                  go_cut [161] from 142 to 161 (fun s161 wx => s161 = .bool false ∧ Hid (Below W21.heap.size W21 wx))
                  case first =>
                    go_quiet (fail)
                    have BQ : Hid (Below W21.heap.size W21 (W21.drewN nq)) := ⟨by rfl, by rfl, by rfl, Nat.le_refl _, fun _ _ => by rfl⟩
                    go_wp2_with fail
                    go_meet
                    exact ⟨rfl, BQ.out⟩
                  case rest =>
                    obtain ⟨rfl, h22⟩ := hcut
                    have K22 := hidT (K21.out.trans (h22.out.mono K21.out.size))
                    clear h22 t0 t1 t2 v0 v1 v2 c1
                    by_cases hq : N = s
                    · have q1 : ((N : Int) == (s : Int)) = true := by rw [hq]; exact beq_self_eq_true _
                      clear hq
                      go_wp2_with fail
                      refine (KNW.out _ K22.out).mono ?_
                      rintro e1 wz ⟨rfl, kz⟩
                      have KZ := hidT kz
                      clear kz
                      go_wp2_with fail
                      go_ret
                      exact ⟨rfl, KZ.out⟩
                    · have q1 : ((N : Int) == (s : Int)) = false := by simpa using (by omega : ¬ (N : Int) = (s : Int))
                      have hlt : r < N := by have := HE.out; omega
                      have q2 : decide ((r : Int) < (N : Int)) = true := decide_eq_true (by omega)
                      have q2n : decide (r < N) = true := decide_eq_true hlt
                      clear hq hlt
                      go_wp2_with fail
                      refine (KNW.out _ K22.out).mono ?_
                      rintro e1 wz ⟨rfl, kz⟩
                      have KZ := hidT kz
                      clear kz
                      go_wp2_with fail
                      go_ret
                      exact ⟨rfl, KZ.out⟩
                case pos =>
                  have dc : decide (c ≤ (e : Int)) = true := decide_eq_true hce
                  have HNx := hidT (HCR.out.n1 c HCJ.out hce)
                  clear hce
                  go_upto_region 22 with fail
                  go_cut [161] from 142 to 161 (fun s161 wx => s161 = .bool true ∧ Hid (Below W21.heap.size W21 wx))
                  case first =>
                    go_quiet (fail)
                    have BQ : Hid (Below W21.heap.size W21 (W21.drewN nq)) := ⟨by rfl, by rfl, by rfl, Nat.le_refl _, fun _ _ => by rfl⟩
                    go_wp2_with fail
                    go_meet
                    exact ⟨rfl, BQ.out⟩
                  case rest =>
                    obtain ⟨rfl, h22⟩ := hcut
                    obtain ⟨W22, hW22⟩ : ∃ W, W = wc := ⟨_, rfl⟩
                    subst hW22
                    have K22 := hidT (K21.out.trans (h22.out.mono K21.out.size))
                    have J22 := hidT (J21.out.trans (h22.out.mono J21.out.size))
                    have B22 := hidT (B21.out.trans (h22.out.mono B21.out.size))
                    have hX22 : W22.heap[P13]? = some (.cells #[.slice A1 j tc, .slice A2 j cc, .slice A6 U ec] 26 (0, 0)) := (h22.out.block P13 hP13).trans HX21.out
                    have HX22 := hidT hX22
                    have fz := fzT hX22
                    have f0 := fz 0
                    have f1 := fz 1
                    have f2 := fz 2
                    obtain ⟨x0, x1, x2⟩ := box3T W22 _ _ _ 26 hX22
                    clear h22 hX22 fz t0 t1 t2 v0 v1 v2 c1 dc dj djn
                    obtain ⟨t0, t1, t2⟩ := HC.out _ K22.out
                    obtain ⟨v0, v1, v2⟩ := VC.out _ J22.out
                    obtain ⟨J1, hJ1⟩ : ∃ J, J = j + 1 := ⟨_, rfl⟩
                    have HJ1 := hidT hJ1
                    obtain ⟨C1, rc1, hC1⟩ := slP (P := Try.prog) Try.underlying22 (by kernel_rfl) gi1 ta (n := n1) (ca := tc) (U := J1) (by have := HJE.out; have := HCp.out; have := HN1.out; omega)
                    obtain ⟨C2, rc2, hC2⟩ := slP (P := Try.prog) Try.underlying23 (by kernel_rfl) gi2 (some ⟨gc, oc, none⟩) (n := n1) (ca := cc) (U := J1) (by have := HJE.out; have := HCp.out; have := HN1.out; have := HNc.out; omega)
                    have TVc : Hid (TrS w.heap.size w C1 C2 A3 tc cc ec (Tp.cutV t J1 e)) := by
                      have HA3 : ∀ g o, ea = some ⟨g, o, none⟩ → A3 = some ⟨g, o, none⟩ := HA3h.out
                      exact HHt.out.cut hC1 hC2 HA3 J1 J1 e
                    clear hC1 hC2 hji
                    have hM22 : M < W22.heap.size := Nat.lt_of_lt_of_le hM18 B22.out.size
                    have hP22 : P11 < W22.heap.size := Nat.lt_of_lt_of_le hP18 B22.out.size
                    have hP132 : P13 < W22.heap.size := (Array.getElem?_eq_some_iff.1 HX22.out).1
                    have wj : wrap64 ((j : Int) + 1) = (J1 : Int) := by rw [hJ1]; exact wrT j (by have := HJE.out; have := HNm.out; omega)
                    have wj2 : IntKind.i64.wrap ((j : Int) + 1) = (J1 : Int) := (IntWalk.i64_left _).trans wj
                    clear hJ1
                    go_upto_region 23 with fail
                    try simp only [wl5]
                    go_cut [] from 162 to 178 (fun wx => Hid (wx.heap[P13]? = some (.cells #[.slice C1 J1 tc, .slice C2 J1 cc, .slice A3 e ec] 26 (0, 0)) ∧ Below W18.heap.size W18 wx))
                    case first =>
                      go_region_held3 (fun X => (X.cell? ⟨M, 0, none⟩ = some (.slice ta n1 tc) ∧ X.cell? ⟨M, 1, none⟩ = some (.slice (some ⟨gc, oc, none⟩) n1 cc) ∧ X.cell? ⟨M, 2, none⟩ = some (.slice ea n3 ec)) ∧ X.cell? ⟨P11, 0, none⟩ = some (.slice A1 j tc) ∧ X.cell? ⟨P11, 1, none⟩ = some (.slice A2 j cc) ∧ X.cell? ⟨P11, 2, none⟩ = some (.slice A3 e ec)) (first | (exact ⟨⟨t0, t1, t2⟩, v0, v1, v2⟩) | (exact ⟨HC.out _ (K18.out.trans ((B22.out.trans (set3T HX22.out H13.out.2.2).2).mono K18.out.size)), VC.out _ (J18.out.trans ((B22.out.trans (set3T HX22.out H13.out.2.2).2).mono J18.out.size))⟩) | (exact ⟨HC.out _ (K18.out.trans ((B22.out.trans (set3T HX22.out H13.out.2.2).2).drew.mono K18.out.size)), VC.out _ (J18.out.trans ((B22.out.trans (set3T HX22.out H13.out.2.2).2).drew.mono J18.out.size))⟩) | go_keep) (fail)
                      all_goals
                        go_wp2_with fail
                        go_meet
                        first
                        | exact ⟨(set3T HX22.out H13.out.2.2).1, B22.out.trans (set3T HX22.out H13.out.2.2).2⟩
                        | exact ⟨(set3T HX22.out H13.out.2.2).1, (B22.out.trans (set3T HX22.out H13.out.2.2).2).drew⟩
                        | (trace_state; sorry)
                    case rest =>
                      have H23 := hidT hcut
                      obtain ⟨W23, hW23⟩ : ∃ W, W = wc := ⟨_, rfl⟩
                      subst hW23
                      clear hcut x0 x1 x2 f0 f1 f2 t0 t1 t2 v0 v1 v2 rc1 rc2 wj wj2
                      have K23 := hidT (K18.out.trans (H23.out.2.mono K18.out.size))
                      have CC := hidT (cutV_len (t := t) (j := J1) (e := e) HNc.out (by have := HJ1.out; have := HN1.out; omega) HJE.out.2.1)
                      have HRc : Hid (Tp.rightT (Tp.cutV t J1 e) = true) := by rw [HJ1.out]; exact HNx.out.1
                      have EPc : Hid (∀ W, Below W0.heap.size W0 W → Calls Try.prog 20 #[.agg #[.slice C1 J1 tc, .slice C2 J1 cc, .slice A3 e ec]] W (PuQ W W.heap.size (Tp.recV t J1 e))) := fun W b => by
                        have h := rRecords_any (Tp.cutV t J1 e) C1 C2 A3 tc cc ec W ((TVc.out.later (belTo K0.out b) (Nat.le_refl _)).mono (belTo K0.out b).size) (Nat.le_refl _) (right_rg HRc.out) (by rw [CC.out.1]; have := HJ1.out; have := HN1.out; have := HNm.out; omega) (by rw [CC.out.2.2]; have := HJE.out; have := HNm.out; omega)
                        unfold trV at h
                        rw [CC.out.1, CC.out.2.1, CC.out.2.2] at h
                        exact h
                      have hlt0 : r < 5 + (Tp.recV t J1 e).length := by rw [HJ1.out]; exact HNx.out.2
                      have hDl0 : (Tp.recV t J1 e).length ≤ 22000 := recV_len HRc.out (by rw [CC.out.1]; have := HJ1.out; have := HN1.out; have := HNm.out; omega) (by rw [CC.out.2.2]; have := HJE.out; have := HNm.out; omega)
                      obtain ⟨ld, hld⟩ : ∃ l, l = Tp.recV t J1 e := ⟨_, rfl⟩
                      rw [← hld] at EPc hlt0 hDl0
                      clear hld
                      obtain ⟨N7, hN7⟩ : ∃ N, N = ld.length + 5 := ⟨_, rfl⟩
                      have hsr7 := HJE.out.2.2
                      have q1 : ((N7 : Int) == (s : Int)) = false := by simpa using (by omega : ¬ (N7 : Int) = (s : Int))
                      have q2 : decide ((r : Int) < (N7 : Int)) = true := decide_eq_true (by omega)
                      have q2n : decide (r < N7) = true := decide_eq_true (by omega)
                      have wl6 : wrap64 ((ld.length : Int) + 5) = (N7 : Int) := by unfold wrap64; omega
                      obtain ⟨x0, x1, x2⟩ := box3T W23 _ _ _ 26 H23.out.1
                      clear hsr7 hlt0 hDl0 hN7
                      go_wp2_with fail
                      refine Calls.mono (EPc.out _ K23.out) ?_
                      rintro e7 w7 ⟨v7, rfl, o7, h24⟩
                      have K24 := hidT (K23.out.trans (h24.mono K23.out.size))
                      obtain ⟨va7, vc7, rfl⟩ := ownShT o7
                      clear h24 o7 x0 x1 x2
                      go_wp2_with fail
                      refine (KNW.out _ K24.out).mono ?_
                      rintro e1 wz ⟨rfl, kz⟩
                      have KZ := hidT kz
                      clear kz
                      go_wp2_with fail
                      go_ret
                      exact ⟨rfl, KZ.out⟩
end Go.Proofs.Ytneefpblfiedbaa
