/- Layer 15: the document's least matching, walked. -/
import Derived.Test.YthglhcabdadlpaaDoorAlEc
import Derived.Test.YthglhcabdadlpaaDoorAlJ
namespace Go.Proofs.YthglhcabdadlpaaDoor
open Go.RowKit
set_option linter.unusedVariables false
set_option linter.unusedSimpArgs false
set_option maxRecDepth 100000
theorem ls_nums {N T x y : Nat} (hN : N ≤ 100) (hT : T ≤ N) (hx : x ≤ 100) (hy : y ≤ 100) : wrap64 ((N : Int) - (T : Int)) = ((N - T : Nat) : Int) ∧ wrap64 ((T : Int) + (x : Int)) = ((T + x : Nat) : Int) ∧ wrap64 ((T : Int) + (y : Int)) = ((T + y : Nat) : Int) := by
  unfold wrap64; omega
theorem ls_in {T P1 P2 N M x h : Nat} (hN : T + P1 = N) (hM : T + P2 = M) (h1 : P1 ≤ 100) (h2 : P2 ≤ 100) (h3 : T ≤ 100) (hx : x < P1) (hh : h < P2) : T + x < N ∧ T + h < M ∧ wrap64 ((T : Int) + (x : Int)) = ((T + x : Nat) : Int) ∧ wrap64 ((T : Int) + (h : Int)) = ((T + h : Nat) : Int) ∧ wrap64 ((h : Int) + 1) = ((h + 1 : Nat) : Int) := by
  unfold wrap64; omega
theorem ne_beqN {a b : Nat} (h : a ≠ b) : ((a : Int) == (b : Int)) = false := by
  simp; omega
/-- The same memory, whatever was drawn. -/
def SM (w w' : World) : Prop := w'.os = w.os ∧ w'.tape = w.tape ∧ w'.output = w.output ∧ w'.heap = w.heap
theorem SM.below {w w' : World} (h : SM w w') (B : Nat) : Below B w w' := ⟨h.1, h.2.1, h.2.2.1, by rw [h.2.2.2]; exact Nat.le_refl _, fun i _ => by rw [h.2.2.2]⟩
theorem SM.refl (w : World) : SM w w := ⟨rfl, rfl, rfl, rfl⟩
set_option maxHeartbeats 4000000 in
theorem rleast_any (w : World) (a b : Option Addr) (ca cb : Nat) (l m : List Al.Ev) (T : Nat) {B : Nat} (ha : EvR B w a l) (hb : EvR B w b m) (hB : B ≤ w.heap.size) (hl : l.length ≤ 100) (hm : m.length ≤ 100) (hca : l.length ≤ ca) (hcb : m.length ≤ cb) (hT1 : T ≤ l.length) (hT2 : T ≤ m.length) :
    Calls Tryd.prog 38 #[.slice a l.length ca, .slice b m.length cb, .int .i64 (T : Int), .int .i64 (T : Int)] w fun e w' => ∃ v, e = .returned v ∧ OwP w' w.heap.size 66 v (Al.prs (Al.mtR T T (l.drop T) (m.drop T))) ∧ Below w.heap.size w w' := by
  obtain ⟨i0, hi, zi0, zi1, zi2⟩ := infoRp
  obtain ⟨iv, hv, vz, vs1, vb⟩ := infoEv
  obtain ⟨P1, hP1⟩ : ∃ P1, P1 = l.length - T := ⟨_, rfl⟩
  obtain ⟨P2, hP2⟩ : ∃ P2, P2 = m.length - T := ⟨_, rfl⟩
  obtain ⟨l', hl'⟩ : ∃ l', l' = l.drop T := ⟨_, rfl⟩
  obtain ⟨m', hm'⟩ : ∃ m', m' = m.drop T := ⟨_, rfl⟩
  have LL : Hid (l'.length = P1 ∧ m'.length = P2 ∧ P1 ≤ 100 ∧ P2 ≤ 100 ∧ T ≤ 100) := ⟨by rw [hl', hP1, List.length_drop], by rw [hm', hP2, List.length_drop], by omega, by omega, by omega⟩
  have GA : Hid (∀ x, l'[x]? = l[T + x]?) := fun x => by rw [hl', List.getElem?_drop]
  have GB : Hid (∀ x, m'[x]? = m[T + x]?) := fun x => by rw [hm', List.getElem?_drop]
  have SQ : Hid (∀ (wz : World) (x y : Option Addr) (cx cy : Nat), Below w.heap.size w wz → EvR B wz x l' → EvR B wz y m' → Calls Tryd.prog 52 #[.slice x P1 cx, .slice y P2 cy] wz fun e w' => ∃ g c, e = .returned (.slice (some ⟨g, 0, none⟩) (P1 + 1) c) ∧ SzT w' g l' m' ∧ Below w.heap.size w w') := fun wz x y cx cy hz hx hy => by
    have h := rsizes_any wz x y cx cy l' m' hx hy (Nat.le_trans hB hz.size) (by rw [LL.out.1]; exact LL.out.2.2.1) (by rw [LL.out.2.1]; exact LL.out.2.2.2.1)
    rw [LL.out.1, LL.out.2.1] at h
    exact h.mono fun e w' h => by
      obtain ⟨g, c, h1, h2, h3⟩ := h
      exact ⟨g, c, h1, h2, hz.trans (h3.mono hz.size)⟩
  obtain ⟨XA, hsa, hra⟩ := slA Tryd.underlying22 (by kernel_rfl) hv vs1 a hT1 hca (P := Tryd.prog)
  obtain ⟨XB, hsb, hrb⟩ := slA Tryd.underlying22 (by kernel_rfl) hv vs1 b hT2 hcb (P := Tryd.prog)
  have EX : Hid (∀ wz, Below w.heap.size w wz → EvR B wz XA l' ∧ EvR B wz XB m') := fun wz hz => by
    rw [hl', hm']
    exact ⟨hra B wz l rfl (ha.later hz hB), hrb B wz m rfl (hb.later hz hB)⟩
  have EA : Hid (∀ wz, Below w.heap.size w wz → EvR B wz a l ∧ EvR B wz b m) := fun wz hz => ⟨ha.later hz hB, hb.later hz hB⟩
  obtain ⟨TG, hTG⟩ : ∃ TG, TG = Al.prs (Al.mtR T T l' m') := ⟨_, rfl⟩
  rw [← hl', ← hm', ← hTG]
  have HTG := hidA hTG
  have nA := (ls_nums (x := 0) (y := 0) hl hT1 (by decide) (by decide)).1
  have nB := (ls_nums (x := 0) (y := 0) hm hT2 (by decide) (by decide)).1
  rw [← hP1] at nA hsa
  rw [← hP2] at nB hsb
  obtain ⟨N, hN⟩ : ∃ N, N = l.length := ⟨_, rfl⟩
  obtain ⟨M, hM⟩ : ∃ M, M = m.length := ⟨_, rfl⟩
  have LN : Hid (N = l.length ∧ M = m.length ∧ T + P1 = N ∧ T + P2 = M) := ⟨hN, hM, by omega, by omega⟩
  rw [← hN] at nA hsa
  rw [← hM] at nB hsb
  rw [← hN, ← hM]
  clear hra hrb ha hb hB hl hm hca hcb hT1 hT2 hP1 hP2 hl' hm' hTG hN hM
  obtain ⟨Q1, hQ1⟩ : ∃ Q1, Q1 = P1 + 1 := ⟨_, rfl⟩
  obtain ⟨Q2, hQ2⟩ : ∃ Q2, Q2 = P2 + 1 := ⟨_, rfl⟩
  have HQ : Hid (Q1 = P1 + 1 ∧ Q2 = P2 + 1) := ⟨hQ1, hQ2⟩
  rw [← hQ1] at SQ
  clear hQ1 hQ2
  obtain ⟨S, hS⟩ : ∃ S, S = w.heap.size := ⟨_, rfl⟩
  have HS := hidA hS
  rw [← hS]
  rw [← hS] at SQ EX EA
  clear hS
  have B0 : Hid (Below S w w) := Below.refl _ _
  go_enter Tryd.func38, Tryd.ntmps38
  go_upto_region 1 with fail
  go_cut [9] from 15 to 21 (fun s9 wx => ∃ g c, s9 = .slice (some ⟨g, 0, none⟩) Q1 c ∧ Hid (SzT wx g l' m' ∧ Below S w wx))
  case first =>
    have z1 : ∀ wz, Below S w wz → Below S w wz := fun _ h => h
    go_region_with (first
      | (go_at_call 52; refine Calls.mono (SQ.out _ _ _ _ _ (B0.out.trans (by go_grown)) (EX.out _ (B0.out.trans (by go_grown))).1 (EX.out _ (B0.out.trans (by go_grown))).2) ?_; rintro e5 w5 ⟨g, c, rfl, hh⟩; have H5 := hidA hh; clear hh))
    all_goals
      go_wp2_with fail
      go_meet
      exact ⟨_, _, rfl, H5.out⟩
  case rest =>
    obtain ⟨g, c9, rfl, H5⟩ := hcut
    obtain ⟨W1, hW1⟩ : ∃ W1, W1 = wc := ⟨_, rfl⟩
    subst hW1
    obtain ⟨S2, hS2⟩ : ∃ S2, S2 = W1.heap.size := ⟨_, rfl⟩
    have HS2 := hidA hS2
    have TB : Hid (SzT W1 g l' m') := H5.out.1
    have BW1 : Hid (Below S w W1) := H5.out.2
    have SS : Hid (S ≤ S2) := by rw [HS2.out, HS.out]; rw [HS.out] at BW1; exact BW1.out.size
    have RD : Hid (∀ wz, Below S2 W1 wz → ∀ x, x ≤ P1 → ∃ gi, wz.cell? ⟨g, x, none⟩ = some (.slice (some ⟨gi, 0, none⟩) Q2 Q2) ∧ ∀ y, y ≤ P2 → wz.cell? ⟨gi, y, none⟩ = some (.int .i64 (Al.lcs (l'.drop x) (m'.drop y) : Nat))) := fun wz hz x hx => by
      rw [HS2.out] at hz
      obtain ⟨gi, h1, -, h3⟩ := (TB.out.later hz).2 x (by rw [LL.out.1]; exact hx)
      rw [LL.out.2.1, ← HQ.out.2] at h1
      exact ⟨gi, h1, fun y hy => h3 y (by rw [LL.out.2.1]; exact hy)⟩
    have EV2 : Hid (∀ wz, Below S2 W1 wz → EvR B wz a l ∧ EvR B wz b m) := fun wz hz => EA.out wz (BW1.out.trans (hz.mono SS.out))
    have ATS : Hid (([] : List Al.Ev) ++ Al.prs (Al.mtR (T + 0) (T + 0) (l'.drop 0) (m'.drop 0)) = TG) := by
      rw [HTG.out]
      exact hidA rfl
    clear hsa hsb H5 hS2 SQ EX EA TB HTG
    go_wp2_with fail
    go_loopg [10, 11, 12] P1 (fun gk y10 y11 y12 wr => ∃ (x y : Nat) (acc : List Al.Ev), x + gk = P1 ∧ y11 = .int .i64 x ∧ y12 = .int .i64 y ∧ Hid (y ≤ P2 ∧ OwP wr S2 66 y10 acc ∧ Below S2 W1 wr ∧ acc ++ Al.prs (Al.mtR (T + x) (T + y) (l'.drop x) (m'.drop y)) = TG ∧ acc.length ≤ x))
    case atStart => exact ⟨0, 0, [], Nat.zero_add _, rfl, rfl, Nat.zero_le _, OwP.nil _ _ _, Below.refl _ _, ATS.out, Nat.le_refl _⟩
    case round =>
      obtain ⟨x, y, acc, hk, rfl, rfl, RR⟩ := hrel
      have FINI : Hid (Al.lcs (l'.drop x) (m'.drop y) = 0 → OwP wr S 66 u10 TG ∧ Below S w wr) := fun h => by
        have h1 := RR.out.2.2.2.1
        rw [Al.mtR_no h] at h1
        have h2 : acc = TG := by simpa [Al.prs] using h1
        rw [← h2]
        exact ⟨RR.out.2.1.base SS.out, BW1.out.trans (RR.out.2.2.1.mono SS.out)⟩
      rcases gk with _ | gO
      · obtain rfl : P1 = x := by omega
        have d1 : decide ((P1 : Int) < (P1 : Int)) = false := decide_eq_false (Int.lt_irrefl _)
        have FIN := hidA (FINI.out (by rw [List.drop_eq_nil_of_le (show l'.length ≤ P1 by rw [LL.out.1]; exact Nat.le_refl _), Al.lcs_nil]))
        clear FINI RR ATS
        go_wp2_with fail
        go_ret
        exact ⟨_, rfl, FIN.out⟩
      · obtain ⟨k6, dk, dk2, hxP, hk3⟩ := mch_k hk
        by_cases hy2 : y < P2
        case neg =>
          have d1 : decide ((y : Int) < (P2 : Int)) = false := decide_eq_false (fun h => hy2 (Int.ofNat_lt.1 h))
          have d2 : decide (y < P2) = false := decide_eq_false hy2
          have FIN := hidA (FINI.out (by rw [show m'.drop y = [] from List.drop_eq_nil_of_le (by rw [LL.out.2.1]; omega), Al.lcs_nilr]))
          clear FINI RR ATS hy2
          go_wp2_with fail
          go_ret
          exact ⟨_, rfl, FIN.out⟩
        case pos =>
          obtain ⟨L, hL⟩ : ∃ L, L = Al.lcs (l'.drop x) (m'.drop y) := ⟨_, rfl⟩
          have dy : decide ((y : Int) < (P2 : Int)) = true := decide_eq_true (Int.ofNat_lt.2 hy2)
          have dy2 : decide (y < P2) = true := decide_eq_true hy2
          obtain ⟨i1, i2, i3⟩ := ix_nums (show x < Q1 by rw [HQ.out.1]; exact Nat.lt_succ_of_lt hxP)
          obtain ⟨j1, j2, j3⟩ := ix_nums (show y < Q2 by rw [HQ.out.2]; exact Nat.lt_succ_of_lt hy2)
          obtain ⟨gx, r0, r1⟩ := RD.out wr RR.out.2.2.1 x (Nat.le_of_lt hxP)
          have s0 := r1 y (Nat.le_of_lt hy2)
          rw [← hL] at s0 FINI
          clear r1
          by_cases hL0 : L = 0
          · have d1 : decide ((0 : Int) < (L : Int)) = false := decide_eq_false (by omega)
            have d2 : decide (0 < L) = false := decide_eq_false (by omega)
            have FIN := hidA (FINI.out hL0)
            clear FINI RR ATS hL0 hL
            go_wp2_with fail
            go_ret
            exact ⟨_, rfl, FIN.out⟩
          · have d1 : decide ((0 : Int) < (L : Int)) = true := decide_eq_true (by omega)
            have d2 : decide (0 < L) = true := decide_eq_true (by omega)
            obtain ⟨e, he⟩ : ∃ e, l'[x]? = some e := ⟨_, List.getElem?_eq_getElem (by rw [LL.out.1]; exact hxP)⟩
            obtain ⟨TT, hTT⟩ : ∃ TT, TT = Al.fnd e (l'.drop (x + 1)) L (m'.drop y) := ⟨_, rfl⟩
            have STP : Hid ((∀ k, TT = some k → Al.mtR (T + x) (T + y) (l'.drop x) (m'.drop y) = (T + x, T + (y + k)) :: Al.mtR (T + (x + 1)) (T + (y + k + 1)) (l'.drop (x + 1)) (m'.drop (y + k + 1))) ∧ (TT = none → Al.mtR (T + x) (T + y) (l'.drop x) (m'.drop y) = Al.mtR (T + (x + 1)) (T + y) (l'.drop (x + 1)) (m'.drop y))) := by
              rw [hTT, hL]
              exact Al.mtR_two he (by rw [← hL]; exact hL0)
            have FN0 : Hid (Al.FN TT e (l'.drop (x + 1)) L m' y y (-1)) := by rw [hTT]; exact Al.FN.start _ _ _ _ _
            obtain ⟨Wi, hWi⟩ : ∃ Wi, Wi = wr := ⟨_, rfl⟩
            subst hWi
            obtain ⟨V10, hV10⟩ : ∃ V10, V10 = u10 := ⟨_, rfl⟩
            subst hV10
            have LH : Hid (L = Al.lcs (l'.drop x) (m'.drop y)) := hL
            have HE := hidA he
            obtain ⟨G0, hG0⟩ : ∃ G0, y + G0 = P2 := ⟨P2 - y, by omega⟩
            obtain ⟨X1, hX1⟩ : ∃ X1, X1 = x + 1 := ⟨_, rfl⟩
            have WX : wrap64 ((x : Int) + 1) = (X1 : Int) := by rw [hX1]; exact wrK x (Nat.le_trans (Nat.le_of_lt hxP) (Nat.le_trans LL.out.2.2.1 (by decide)))
            have HX1 := hidA hX1
            have HY2 := hidA hy2
            clear FINI ATS hL0 hL hTT he hX1 hy2
            go_wp2_with fail
            go_loopg [13, 14] G0 (fun gh y13 y14 wz => ∃ (h : Nat) (F : Int), h + gh = P2 ∧ y14 = .int .i64 h ∧ y13 = .int .i64 F ∧ Hid (Al.FN TT e (l'.drop (x + 1)) L m' y h F ∧ SM Wi wz))
            case atStart => exact ⟨y, -1, hG0, rfl, rfl, FN0.out, SM.refl _⟩
            case round =>
              obtain ⟨h, F, hh, rfl, rfl, QR⟩ := hrel
              by_cases hF : F = -1
              case pos =>
                subst hF
                rcases gk with _ | gH
                · obtain rfl : P2 = h := by omega
                  have d3 : decide ((P2 : Int) < (P2 : Int)) = false := decide_eq_false (Int.lt_irrefl _)
                  have NX : Hid (y ≤ P2 ∧ OwP wr S2 66 V10 acc ∧ Below S2 W1 wr ∧ acc ++ Al.prs (Al.mtR (T + X1) (T + y) (l'.drop X1) (m'.drop y)) = TG ∧ acc.length ≤ X1) := by
                    obtain ⟨h1, h2, h3, h4, h5⟩ := RR.out
                    have hn : TT = none := by have h := QR.out.1; rw [← LL.out.2.1] at h; exact h.none
                    refine ⟨h1, h2.later (QR.out.2.below _), h3.trans (QR.out.2.below _), ?_, by rw [HX1.out]; exact Nat.le_succ_of_le h5⟩
                    rw [STP.out.2 hn, ← HX1.out] at h4
                    exact h4
                  clear RR QR STP FN0
                  go_wp2_with fail
                  go_roundg gO
                  case measure => omega
                  case rel => exact ⟨X1, y, acc, by rw [HX1.out]; exact hk3, by first | exact congrArg _ WX | rfl, rfl, NX.out⟩
                · obtain ⟨h6, dh, dh2, hhP, hh3⟩ := mch_k hh
                  obtain ⟨yv, hyv⟩ : ∃ yv, m'[h]? = some yv := ⟨_, List.getElem?_eq_getElem (by rw [LL.out.2.1]; exact hhP)⟩
                  have b2 : Below S2 W1 wr := RR.out.2.2.1.trans (QR.out.2.below _)
                  obtain ⟨EVa, EVb⟩ := EV2.out wr b2
                  obtain ⟨TX, hTX⟩ : ∃ TX, TX = T + x := ⟨_, rfl⟩
                  obtain ⟨TH, hTH⟩ : ∃ TH, TH = T + h := ⟨_, rfl⟩
                  obtain ⟨hTXN, hTHM, w1, w2, w3⟩ := ls_in LN.out.2.2.1 LN.out.2.2.2 LL.out.2.2.1 LL.out.2.2.2.1 LL.out.2.2.2.2 hxP hhP
                  rw [← hTX] at hTXN w1
                  rw [← hTH] at hTHM w2
                  obtain ⟨ga, oa, rfl, -, csa⟩ := EVa (by rw [← LN.out.1]; exact Nat.lt_of_le_of_lt (Nat.zero_le _) hTXN)
                  obtain ⟨gb, ob, rfl, -, csb⟩ := EVb (by rw [← LN.out.2.1]; exact Nat.lt_of_le_of_lt (Nat.zero_le _) hTHM)
                  obtain ⟨x0, x1⟩ := csa TX e (by rw [hTX, ← GA.out]; exact HE.out)
                  obtain ⟨y0, y1⟩ := csb TH yv (by rw [hTH, ← GB.out]; exact hyv)
                  obtain ⟨a1, a2, a3⟩ := ix_nums hTXN
                  obtain ⟨b1, b3, b4⟩ := ix_nums hTHM
                  obtain ⟨H1, hH1⟩ : ∃ H1, H1 = h + 1 := ⟨_, rfl⟩
                  rw [← hH1] at w3
                  obtain ⟨c1, c2, c3⟩ := ix_nums (show X1 < Q1 by rw [HQ.out.1, HX1.out]; exact Nat.succ_lt_succ hxP)
                  obtain ⟨f1, f2, f3⟩ := ix_nums (show H1 < Q2 by rw [HQ.out.2, hH1]; exact Nat.succ_lt_succ hhP)
                  obtain ⟨gz, t0, t1⟩ := RD.out wr b2 X1 (by rw [HX1.out]; exact hxP)
                  have t2 := t1 H1 (by rw [hH1]; exact hhP)
                  obtain ⟨gy, v0, v1⟩ := RD.out wr b2 x (Nat.le_of_lt hxP)
                  have v2 := v1 y (Nat.le_of_lt HY2.out)
                  rw [← LH.out] at v2
                  clear t1 v1
                  obtain ⟨D, hD⟩ : ∃ D, D = Al.lcs (l'.drop X1) (m'.drop H1) := ⟨_, rfl⟩
                  rw [← hD] at t2
                  have DB : Hid (D ≤ 100) := by rw [hD]; exact lcs_db _ _ _ _ (by rw [LL.out.1]; exact LL.out.2.2.1)
                  have w4 := wrM D DB.out
                  have w5 := wrM' D (Nat.le_trans DB.out (by decide))
                  obtain ⟨D1, hD1⟩ : ∃ D1, D1 = D + 1 := ⟨_, rfl⟩
                  rw [← hD1] at w4 w5
                  have HIT : Hid (e = yv → D1 = L → Al.FN TT e (l'.drop (x + 1)) L m' y H1 (h : Int)) := fun h1 h2 => by
                    rw [hH1]
                    exact QR.out.1.hit hyv h1 (by rw [← hH1, ← HX1.out, ← hD, ← hD1]; exact h2)
                  have MISS : Hid (¬ (e = yv ∧ D1 = L) → Al.FN TT e (l'.drop (x + 1)) L m' y H1 (-1)) := fun h1 => by
                    rw [hH1]
                    exact QR.out.1.miss hyv (fun h2 => h1 ⟨h2.1, by rw [hD1, hD, hH1, HX1.out]; exact h2.2⟩)
                  have hh4 : H1 + gH = P2 := by rw [hH1]; exact hh3
                  have SMR := hidA QR.out.2
                  clear QR csa csb hTX hTH hH1 hD hD1 hyv STP FN0 RR EVa EVb b2
                  by_cases hxy : e = yv
                  · have z0 : (e.1 == yv.1) = true := by rw [hxy]; exact beq_self_eq_true _
                    have z9 : (e.2 == yv.2) = true := by rw [hxy]; exact beq_self_eq_true _
                    by_cases hd : D1 = L
                    · have q1 : ((D1 : Int) == (L : Int)) = true := by rw [hd]; exact beq_self_eq_true _
                      have FX := hidA (HIT.out hxy hd)
                      clear hxy hd HIT MISS HE
                      generalize e.1 = xa at x0 z0
                      generalize e.2 = xb at x1 z9
                      generalize yv.1 = ya at y0 z0
                      generalize yv.2 = yb at y1 z9
                      go_upto_region 9 with fail
                      go_quiet (fail)
                      go_wp2_with fail
                      go_roundg gH
                      case measure => omega
                      case rel => exact ⟨H1, (h : Int), hh4, by first | exact congrArg _ w3 | rfl, rfl, FX.out, SMR.out⟩
                    · have q1 : ((D1 : Int) == (L : Int)) = false := ne_beqN hd
                      have FX := hidA (MISS.out (fun h => hd h.2))
                      clear hxy hd HIT MISS HE
                      generalize e.1 = xa at x0 z0
                      generalize e.2 = xb at x1 z9
                      generalize yv.1 = ya at y0 z0
                      generalize yv.2 = yb at y1 z9
                      go_upto_region 9 with fail
                      go_quiet (fail)
                      go_wp2_with fail
                      go_roundg gH
                      case measure => omega
                      case rel => exact ⟨H1, -1, hh4, by first | exact congrArg _ w3 | rfl, rfl, FX.out, SMR.out⟩
                  · have FX := hidA (MISS.out (fun h => hxy h.1))
                    have zz := ev_ne hxy
                    clear hxy HIT MISS HE
                    generalize e.1 = xa at x0 zz
                    generalize e.2 = xb at x1 zz
                    generalize yv.1 = ya at y0 zz
                    generalize yv.2 = yb at y1 zz
                    rcases zz with z0 | ⟨z0, z9⟩
                    all_goals
                      go_upto_region 9 with fail
                      go_quiet (fail)
                      go_wp2_with fail
                      go_roundg gH
                      case measure => omega
                      case rel => exact ⟨H1, -1, hh4, by first | exact congrArg _ w3 | rfl, rfl, FX.out, SMR.out⟩
              case neg =>
                obtain ⟨k, hFk, hTk, hfl⟩ : ∃ k, F = ((y + k : Nat) : Int) ∧ TT = some k ∧ y + k < m'.length := by
                  rcases QR.out.1 with h | h
                  · exact absurd h.1 hF
                  · exact h
                obtain ⟨f, hf⟩ : ∃ f, f = y + k := ⟨_, rfl⟩
                rw [← hf] at hFk hfl
                subst hFk
                have hfP : f < P2 := by rw [← LL.out.2.1]; exact hfl
                have dn : decide ((f : Int) < 0) = false := decide_eq_false (Int.not_lt.2 (Int.natCast_nonneg _))
                have dp : decide ((0 : Int) ≤ (f : Int)) = true := decide_eq_true (Int.natCast_nonneg _)
                obtain ⟨-, -, w1, w2, w3⟩ := ls_in LN.out.2.2.1 LN.out.2.2.2 LL.out.2.2.1 LL.out.2.2.2.1 LL.out.2.2.2.2 hxP hfP
                obtain ⟨TX, hTX⟩ : ∃ TX, TX = T + x := ⟨_, rfl⟩
                obtain ⟨TF, hTF⟩ : ∃ TF, TF = T + f := ⟨_, rfl⟩
                obtain ⟨F1, hF1⟩ : ∃ F1, F1 = f + 1 := ⟨_, rfl⟩
                rw [← hTX] at w1
                rw [← hTF] at w2
                rw [← hF1] at w3
                obtain ⟨LA, hLA⟩ : ∃ LA, LA = acc.length := ⟨_, rfl⟩
                have OP := hidA (RR.out.2.1.later (QR.out.2.below _))
                have OW : Hid (wr.ownsRow S2 66 2 V10 LA (prC acc)) := by rw [hLA]; exact OP.out
                have H63 := hidA (own63b (k := LA) (by rw [hLA]; exact Nat.le_trans RR.out.2.2.2.2 (Nat.le_trans (Nat.le_of_lt hxP) (Nat.le_trans LL.out.2.2.1 (by decide)))))
                have ONE := hidA (prC_one ((TX : Int), (TF : Int)))
                have SZ : Hid (S2 ≤ wr.heap.size) := by rw [HS2.out]; exact Nat.le_trans (by have := RR.out.2.2.1; rw [HS2.out] at this; exact this.size) (QR.out.2.below 0).size
                have NX : Hid (∀ (v8 : Value) (w8 : World) (o : Obj), w8.ownsRow S2 66 2 v8 (LA + 1) (prC acc ++ [.int .i64 (TX : Int), .int .i64 (TF : Int)]) → (wr.alloc o).grownBy w8 V10.ownBlock → F1 ≤ P2 ∧ OwP w8 S2 66 v8 (acc ++ [((TX : Int), (TF : Int))]) ∧ Below S2 W1 w8 ∧ (acc ++ [((TX : Int), (TF : Int))]) ++ Al.prs (Al.mtR (T + X1) (T + F1) (l'.drop X1) (m'.drop F1)) = TG ∧ (acc ++ [((TX : Int), (TF : Int))]).length ≤ X1) := fun v8 w8 o h8 g8 => by
                  obtain ⟨h1, h2⟩ := OwP.grown (e := ((TX : Int), (TF : Int))) OP.out SZ.out (by rw [← hLA]; exact h8) g8
                  refine ⟨by rw [hF1]; exact hfP, h1, (RR.out.2.2.1.trans (QR.out.2.below _)).trans h2, ?_, by rw [List.length_append, HX1.out]; exact Nat.succ_le_succ RR.out.2.2.2.2⟩
                  have h4 := RR.out.2.2.2.1
                  rw [STP.out.1 k hTk, ← HX1.out, ← hf, ← hTX, ← hTF, ← hF1, Al.prs_cons] at h4
                  rw [List.append_assoc]
                  exact h4
                clear RR QR STP FN0 hTX hTF hF1 hLA hf hTk hfl hfP hF OP
                rcases gk with _ | gH
                · obtain rfl : P2 = h := by omega
                  have d3 : decide ((P2 : Int) < (P2 : Int)) = false := decide_eq_false (Int.lt_irrefl _)
                  go_wp2_with (at_builtin; refine wpList_append_tolA rfl _ _ 33 rfl S2 66 i0 (.agg #[.int .i64 0, .int .i64 0]) 2 16 Tryd.underlying33 hi zi0 zi1 zi2 rfl (by decide) _ _ _ rfl (ownA OW.out ((Below.refl _ _).alloc (Nat.le_refl _) _)) ⟨wr.heap.size, 0, none⟩ 1 1 [.int .i64 (TX : Int), .int .i64 (TF : Int)] rfl rfl (two2 _ _ _ _) ONE.out H63.out.1 H63.out.2 (Nat.le_trans SZ.out ((Below.refl wr.heap.size wr).alloc (Nat.le_refl _) _).size) (by decide) ?_)
                  intro v8 w8 h8 g8 o8
                  have NN := hidA (NX.out v8 w8 _ h8 g8)
                  clear h8 g8 o8 NX OW
                  go_wp2_with fail
                  go_roundg gO
                  case measure => omega
                  case rel => exact ⟨X1, F1, _, by rw [HX1.out]; exact hk3, by first | exact congrArg _ WX | rfl, by first | exact congrArg _ w3 | rfl, NN.out⟩
                · obtain ⟨h6, dh, dh2, hhP, hh3⟩ := mch_k hh
                  go_wp2_with (at_builtin; refine wpList_append_tolA rfl _ _ 33 rfl S2 66 i0 (.agg #[.int .i64 0, .int .i64 0]) 2 16 Tryd.underlying33 hi zi0 zi1 zi2 rfl (by decide) _ _ _ rfl (ownA OW.out ((Below.refl _ _).alloc (Nat.le_refl _) _)) ⟨wr.heap.size, 0, none⟩ 1 1 [.int .i64 (TX : Int), .int .i64 (TF : Int)] rfl rfl (two2 _ _ _ _) ONE.out H63.out.1 H63.out.2 (Nat.le_trans SZ.out ((Below.refl wr.heap.size wr).alloc (Nat.le_refl _) _).size) (by decide) ?_)
                  intro v8 w8 h8 g8 o8
                  have NN := hidA (NX.out v8 w8 _ h8 g8)
                  clear h8 g8 o8 NX OW
                  go_wp2_with fail
                  go_roundg gO
                  case measure => omega
                  case rel => exact ⟨X1, F1, _, by rw [HX1.out]; exact hk3, by first | exact congrArg _ WX | rfl, by first | exact congrArg _ w3 | rfl, NN.out⟩
end Go.Proofs.YthglhcabdadlpaaDoor
