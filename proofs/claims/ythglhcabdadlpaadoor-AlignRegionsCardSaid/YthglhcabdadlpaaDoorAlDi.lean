/- Layer 15: the document's Hunks, walked. -/
import Derived.Test.YthglhcabdadlpaaDoorAlDh
namespace Go.Proofs.YthglhcabdadlpaaDoor
open Go.RowKit
set_option linter.unusedVariables false
set_option linter.unusedSimpArgs false
set_option maxRecDepth 100000
theorem rh_nums {n m cR pt pb x1 x2 x3 x4 : Int} {l : List Al.Rg} (h0 : 0 ≤ n ∧ 0 ≤ m ∧ n ≤ 3000 ∧ m ≤ 3000) (hc : 0 ≤ cR ∧ cR ≤ 3000) (h : Al.ch n m pt pb (⟨x1, x2, x3, x4⟩ :: l)) :
    (0 ≤ x1 ∧ x1 ≤ 3000 ∧ 0 ≤ x3 ∧ x3 ≤ 3000) ∧ (0 ≤ x2 ∧ x2 ≤ n ∧ 0 ≤ x4 ∧ x4 ≤ m) ∧ wrap64 (x1 - pt) = x1 - pt ∧ wrap64 (2 * cR) = 2 * cR ∧ Al.ch n m x2 x4 l := by
  obtain ⟨h1, h2, h3, h4, h5, h6, h7⟩ := h
  simp only at h1 h4 h5 h6 h7
  have h8 := Al.ch_le h7
  refine ⟨?_, ?_, (wrX ?_ ?_).1, (wrX ?_ ?_).1, h7⟩ <;> omega
theorem in_nums {j gk D : Nat} (hj : j + (gk + 1) = D) (hD : D ≤ 3000) : ∃ J1 : Nat, J1 = j + 1 ∧ j < D ∧ wrap64 ((j : Int) + 1) = (J1 : Int) ∧ J1 + gk = D ∧ (∀ x a : Int, a = x - j → a - 1 = x - (J1 : Int)) ∧ (∀ x a : Int, a = x + j → a + 1 = x + (J1 : Int)) :=
  ⟨j + 1, rfl, by omega, wrK j (by omega), by omega, fun x a h => by omega, fun x a h => by omega⟩
theorem wl0 : wrap64 (((0 : Nat) : Int) - 1) = -1 := by unfold wrap64; omega
def RhQ (w : World) (n m : Int) (l : List Al.Ev) (c : Int) (e : Ending) (w' : World) : Prop := ∃ v, e = .returned (.tuple #[v, .int .i64 (Al.hunks n m l c).2]) ∧ OwG w' w.heap.size 55 v (Al.hunks n m l c).1 ∧ Below w.heap.size w w'
set_option maxHeartbeats 2000000 in
theorem rhunks_any (w : World) (a : Option Addr) (ca : Nat) (l : List Al.Ev) (n m c : Int) {B : Nat} (ha : EvR B w a l) (hB : B ≤ w.heap.size) (hl : l.length ≤ 800) (hc2 : c ≤ 9223372036854775807) (hn : n ≤ 3000) (hm : m ≤ 3000) :
    Calls Tryd.prog 25 #[.int .i64 n, .int .i64 m, .slice a l.length ca, .int .i64 c] w (RhQ w n m l c) := by
  have HRG := hidA (rregs_any w a ca l n m ha hB (Nat.le_trans hl (by decide)) (by omega) (by omega))
  have GL : Hid ((Al.gaps n m 0 0 l).length ≤ 900) := Nat.le_trans (Al.gaps_len _ _ _ _ _) (Nat.le_trans (Nat.succ_le_succ hl) (by decide))
  obtain ⟨Q, hQ⟩ : ∃ Q, Q = RhQ w n m l c := ⟨_, rfl⟩
  have Q1 : Hid ((n < 0 ∨ m < 0 ∨ c < 0) → ∀ w', Below w.heap.size w w' → Q (.returned (.tuple #[.slice none 0 0, .int .i64 1])) w') := fun h w' hb => by
    rw [hQ]
    refine ⟨.slice none 0 0, ?_⟩
    unfold Al.hunks
    rw [if_pos h]
    exact ⟨rfl, OwG.nil _ _ _, hb⟩
  have Q2 : Hid (¬ (n < 0 ∨ m < 0 ∨ c < 0) → Al.rise n m (-1, -1) l = false → ∀ w', Below w.heap.size w w' → Q (.returned (.tuple #[.slice none 0 0, .int .i64 90])) w') := fun h hr w' hb => by
    rw [hQ]
    refine ⟨.slice none 0 0, ?_⟩
    unfold Al.hunks
    rw [if_neg h, hr]
    exact ⟨rfl, OwG.nil _ _ _, hb⟩
  have Q3 : Hid (¬ (n < 0 ∨ m < 0 ∨ c < 0) → Al.rise n m (-1, -1) l = true → ∀ v w', OwG w' w.heap.size 55 v (Al.hR n m (min c n) 0 [] (Al.gaps n m 0 0 l)) → Below w.heap.size w w' → Q (.returned (.tuple #[v, .int .i64 0])) w') := fun h hr v w' ho hb => by
    rw [hQ]
    refine ⟨v, ?_⟩
    unfold Al.hunks
    rw [if_neg h, if_pos hr, Al.hunks_eq (by omega) (by omega) (by omega) hr]
    exact ⟨rfl, ho, hb⟩
  rw [← hQ]
  clear hQ
  generalize l.length = NL at *
  clear ha hB hl hc2
  by_cases c1 : n < 0
  · have d1 : decide (n < 0) = true := decide_eq_true c1
    have F := hidA (Q1.out (.inl c1) w (Below.refl _ _))
    clear Q1 Q2 Q3 HRG
    go_enter Tryd.func25, Tryd.ntmps25
    go_wp2_with fail
    exact F.out
  have d1 : decide (n < 0) = false := decide_eq_false c1
  by_cases c2 : m < 0
  · have d2 : decide (m < 0) = true := decide_eq_true c2
    have F := hidA (Q1.out (.inr (.inl c2)) w (Below.refl _ _))
    clear Q1 Q2 Q3 HRG
    go_enter Tryd.func25, Tryd.ntmps25
    go_wp2_with fail
    exact F.out
  have d2 : decide (m < 0) = false := decide_eq_false c2
  by_cases c3 : c < 0
  · have d3 : decide (c < 0) = true := decide_eq_true c3
    have F := hidA (Q1.out (.inr (.inr c3)) w (Below.refl _ _))
    clear Q1 Q2 Q3 HRG
    go_enter Tryd.func25, Tryd.ntmps25
    go_wp2_with fail
    exact F.out
  have d3 : decide (c < 0) = false := decide_eq_false c3
  have c4 : ¬ (n < 0 ∨ m < 0 ∨ c < 0) := fun h => h.elim c1 (fun h => h.elim c2 c3)
  have Q2' := hidA (Q2.out c4)
  have Q3' := hidA (Q3.out c4)
  have CHG : Hid (Al.rise n m (-1, -1) l = true → Al.ch n m 0 0 (Al.gaps n m 0 0 l)) := fun hr => Al.ch_gaps 0 0 (-1, -1) l hr (by decide) (by decide) (by decide) (by decide) (by omega) (by omega)
  have NMC : Hid (0 ≤ n ∧ 0 ≤ m ∧ 0 ≤ c ∧ n ≤ 3000 ∧ m ≤ 3000) := ⟨by omega, by omega, by omega, hn, hm⟩
  have RG1 : Hid (Al.rise n m (-1, -1) l = true → Al.regs n m l = (Al.gaps n m 0 0 l, 0)) := fun hr => by
    unfold Al.regs
    rw [if_neg (fun h => h.elim c1 c2), if_pos hr]
  have RG2 : Hid (Al.rise n m (-1, -1) l = false → Al.regs n m l = ([], 90)) := fun hr => by
    unfold Al.regs
    rw [if_neg (fun h => h.elim c1 c2), hr]
    rfl
  clear Q1 Q2 Q3 c1 c2 c3 c4 hn hm
  obtain ⟨R, hR⟩ : ∃ R, R = Al.rise n m (-1, -1) l := ⟨_, rfl⟩
  rw [← hR] at Q2' Q3' RG1 RG2 CHG
  clear hR
  cases R
  · have Q2'' := hidA (Q2'.out rfl)
    have RE := hidA (RG2.out rfl)
    clear Q2' Q3' RG1 RG2 CHG
    go_enter Tryd.func25, Tryd.ntmps25
    go_wp2_with fail
    refine HRG.out.mono ?_
    rintro e w1 ⟨v, rfl, -, b1⟩
    rw [RE.out]
    have F := hidA (Q2''.out w1 b1)
    clear b1 HRG
    go_wp2_with fail
    exact F.out
  have Q3'' := hidA (Q3'.out rfl)
  have RE := hidA (RG1.out rfl)
  have CH0 := hidA (CHG.out rfl)
  clear Q2' Q3' RG1 RG2 CHG
  obtain ⟨G, hG⟩ : ∃ G, G = Al.gaps n m 0 0 l := ⟨_, rfl⟩
  rw [← hG] at Q3'' RE CH0 GL
  clear hG
  obtain ⟨j0, hj, zj0, zj1, zj2⟩ := infoRr
  obtain ⟨cR, hcR⟩ : ∃ cR, cR = min c n := ⟨_, rfl⟩
  rw [← hcR] at Q3''
  have CRB : Hid (0 ≤ cR ∧ cR ≤ 3000 ∧ cR ≤ n) := by have := NMC.out; refine ⟨?_, ?_, ?_⟩ <;> omega
  have CRE : Hid ((n < c ∧ cR = n) ∨ (¬ n < c ∧ cR = c)) := by
    by_cases e : n < c
    · exact .inl ⟨e, by omega⟩
    · exact .inr ⟨e, by omega⟩
  clear hcR
  go_enter Tryd.func25, Tryd.ntmps25
  go_wp2_with fail
  refine HRG.out.mono ?_
  rintro e w1 ⟨v, rfl, ho, b1⟩
  rw [RE.out] at ho ⊢
  obtain ⟨ag, cg, rfl, rg⟩ := ho.rb
  have RGG := hidA rg
  have B1 := hidA b1
  obtain ⟨N, hN⟩ : ∃ N, N = G.length := ⟨_, rfl⟩
  have HN := hidA hN
  simp only
  rw [← hN]
  clear ho b1 rg hN HRG RE
  go_upto_if 40 with fail
  go_cut [3] from 38 to 41 (fun s3 wx => s3 = .int .i64 cR ∧ wx = w1)
  case first =>
    rcases CRE.out with ⟨e, rfl⟩ | ⟨e, rfl⟩
    · have d4 : decide (cR < c) = true := decide_eq_true e
      go_wp2_with fail
      go_meet
      exact ⟨rfl, rfl⟩
    · have d4 : decide (n < cR) = false := decide_eq_false (by omega)
      go_wp2_with fail
      go_meet
      exact ⟨rfl, rfl⟩
  case rest =>
    obtain ⟨rfl, hw⟩ := hcut
    rw [hw]
    clear hw CRE d1 d2 d3
    obtain ⟨p, hp⟩ : ∃ p, p = w1.heap.size := ⟨_, rfl⟩
    have HP := hidA hp
    obtain ⟨T, hT⟩ : ∃ T, T = Al.hR n m cR 0 [] G := ⟨_, rfl⟩
    rw [← hT] at Q3''
    have HTT := hidA hT
    clear hp hT
    go_wp2_with fail
    go_loopg [12, 13] N (fun gk y12 y13 wr => ∃ (k : Nat) (pt pb : Int) (acc : List Al.Rg), k + gk = N ∧ y13 = .int .i64 k ∧ Hid (OwG wr p 55 y12 acc ∧ Below p w1 wr ∧ Al.hR n m cR pt acc (G.drop k) = T ∧ Al.ch n m pt pb (G.drop k) ∧ acc.length ≤ k ∧ (acc = [] ↔ k = 0) ∧ (∀ i, k = i + 1 → ∃ y, G[i]? = some y ∧ y.ta = pt)))
    case atStart => exact ⟨0, 0, 0, [], by omega, rfl, OwG.nil _ _ _, Below.refl _ _, HTT.out.symm, CH0.out, Nat.le_refl _, by simp, fun i h => by omega⟩
    case round =>
      obtain ⟨k, pt, pb, acc, hk, rfl, RR⟩ := hrel
      rcases gk with _ | gO
      · obtain rfl : N = k := by omega
        have dk : decide ((N : Int) < (N : Int)) = false := decide_eq_false (Int.lt_irrefl _)
        have FIN : Hid (Q (.returned (.tuple #[u12, .int .i64 0])) wr) := by
          obtain ⟨h1, h2, h3, -⟩ := RR.out
          rw [List.drop_eq_nil_of_le (by rw [HN.out]; exact Nat.le_refl _)] at h3
          simp only [Al.hR] at h3
          rw [h3] at h1
          rw [HP.out] at h1 h2
          exact Q3''.out _ _ (h1.base B1.out.size) (B1.out.trans (h2.mono B1.out.size))
        clear RR
        go_wp2_with fail
        exact FIN.out
      · obtain ⟨k6, dk, dk2, hkN, hk3⟩ := mch_k hk
        have kz : (0 : Int) ≤ (k : Int) := Int.natCast_nonneg k
        obtain ⟨⟨x1, x2, x3, x4⟩, hx⟩ : ∃ x, G[k]? = some x := ⟨_, List.getElem?_eq_getElem (by rw [← HN.out]; exact hkN)⟩
        have hd : G.drop k = ⟨x1, x2, x3, x4⟩ :: G.drop (k + 1) := by
          obtain ⟨h1, h2⟩ := List.getElem?_eq_some_iff.1 hx
          rw [List.drop_eq_getElem_cons h1, h2]
        obtain ⟨ga, rfl, hga, cs⟩ := (RGG.out.later RR.out.2.1 (by rw [HP.out]; exact Nat.le_refl _)) (by rw [← HN.out]; exact Nat.lt_of_le_of_lt (Nat.zero_le k) hkN)
        obtain ⟨a0, a1, a2, a3⟩ := cs k _ hx
        simp only at a0 a1 a2 a3
        obtain ⟨Wq, hWq⟩ : ∃ Wq, Wq = wr := ⟨_, rfl⟩
        subst hWq
        obtain ⟨V12, hV12⟩ : ∃ V12, V12 = u12 := ⟨_, rfl⟩
        subst hV12
        have SQ : Hid (p ≤ Wq.heap.size) := by rw [HP.out]; exact RR.out.2.1.size
        have GA0 : Hid (∀ V, Below Wq.heap.size Wq V → V.cell? ⟨ga, k * 4, none⟩ = some (.int .i64 x1)) := fun V b => (b.cell (p := ⟨ga, _, none⟩) (Nat.lt_of_lt_of_le hga SQ.out)).trans a0
        have PV : Hid (∀ i, k = i + 1 → ∀ V, Below Wq.heap.size Wq V → V.cell? ⟨ga, i * 4 + 1, none⟩ = some (.int .i64 pt)) := fun i hi V b => by
          obtain ⟨y, hy, hp⟩ := RR.out.2.2.2.2.2.2 i hi
          rw [← hp]
          exact (b.cell (p := ⟨ga, _, none⟩) (Nat.lt_of_lt_of_le hga SQ.out)).trans (cs i y hy).2.1
        obtain ⟨n1, n2, w1a, w2a, hch⟩ := rh_nums ⟨NMC.out.1, NMC.out.2.1, NMC.out.2.2.2⟩ ⟨CRB.out.1, CRB.out.2.1⟩ (show Al.ch n m pt pb (⟨x1, x2, x3, x4⟩ :: G.drop (k + 1)) by rw [← hd]; exact RR.out.2.2.2.1)
        have CHN := hidA hch
        have STP := hidA (hR_step (show Al.hR n m cR pt acc (⟨x1, x2, x3, x4⟩ :: G.drop (k + 1)) = T by rw [← hd]; exact RR.out.2.2.1))
        have WK := hidA (wrK k (Nat.le_trans (Nat.le_of_lt hkN) (Nat.le_trans (by rw [HN.out]; exact GL.out) (by decide))))
        have NXP : Hid (∀ i, k + 1 = i + 1 → ∃ y, G[i]? = some y ∧ y.ta = x2) := fun i hi => by
          obtain rfl : k = i := Nat.succ.inj hi
          exact ⟨_, hx, rfl⟩
        obtain ⟨D1, D1b, D1e, DS, DE⟩ := dn_all CRB.out.1 CRB.out.2.1 n1.1 n1.2.2.1 n1.2.1 n1.2.2.2
        obtain ⟨D2, D2b, D2e, US, UE⟩ := up_all CRB.out.1 CRB.out.2.1 n2.1 n2.2.2.1 n2.2.1 n2.2.2.2 NMC.out.2.2.2.1 NMC.out.2.2.2.2
        have WR : Hid (Al.wR n m cR ⟨x1, x2, x3, x4⟩ = ⟨x1 - D1, x2 + D2, x3 - D1, x4 + D2⟩) := by
          unfold Hid Al.wR
          rw [D1e, D2e]
        have DSH := hidA DS
        have DEH := hidA DE
        have USH := hidA US
        have UEH := hidA UE
        have DB : Hid (D1 ≤ 3000 ∧ D2 ≤ 3000) := ⟨D1b, D2b⟩
        have W1A := hidA w1a
        have W2A := hidA w2a
        obtain ⟨W3, hW3⟩ : ∃ W3, W3 = Wq.alloc (.cells #[.int .i64 x1, .int .i64 x2, .int .i64 x3, .int .i64 x4] 55) := ⟨_, rfl⟩
        obtain ⟨gb, hgb⟩ : ∃ gb, gb = Wq.heap.size := ⟨_, rfl⟩
        have IN0 : Hid (RgI Wq gb x1 x2 x3 x4 W3) := by rw [hW3, hgb]; exact RgI.made _ _ _ _ _
        clear hx hd cs hch n1 n2 w1a w2a D1b D1e D2b D2e DS DE US UE CH0 HTT
        go_upto_region 13 with fail
        rw [← hW3, ← hgb]
        clear hW3 hgb a0 a1 a2 a3
        go_wp2_with fail
        go_loopg [15] D1 (fun gk y wr => ∃ (j : Nat) (a b : Int), j + gk = D1 ∧ y = .int .i64 j ∧ Hid (a = x1 - j ∧ b = x3 - j ∧ RgI Wq gb a x2 b x4 wr))
        case atStart => exact ⟨0, x1, x3, Nat.zero_add _, rfl, (Int.sub_zero _).symm, (Int.sub_zero _).symm, IN0.out⟩
        case round =>
          obtain ⟨j, a, b, hj, rfl, IN⟩ := hrel
          rcases gk with _ | gk
          · obtain rfl : j = D1 := hj
            have DE2 := hidA (DEH.out a b IN.out.1 IN.out.2.1)
            have IN1 : Hid (RgI Wq gb (x1 - j) x2 (x3 - j) x4 wr) := by
              have h := IN.out.2.2
              rw [IN.out.1, IN.out.2.1] at h
              exact h
            obtain ⟨e0, e1, e2, e3, f0, f1, f2, f3⟩ := box4 IN.out.2.2.2.2
            clear DSH DEH IN IN0
            go_upto_region 14 with fail
            go_cut [64] from 52 to 63 (fun s64 wx => s64 = .bool false ∧ wx = wr)
            case first =>
              rcases DE2.out with d1 | ⟨d1, d2⟩ | ⟨d1, d2, d3⟩
              all_goals
                go_wp2_with fail
                go_meet
                exact ⟨rfl, rfl⟩
            case rest =>
              obtain ⟨rfl, hw⟩ := hcut
              rw [hw]
              clear hw e0 e1 e2 e3 f0 f1 f2 f3
              obtain ⟨X1, hX1⟩ : ∃ X1, X1 = x1 - (j : Int) := ⟨_, rfl⟩
              obtain ⟨X3, hX3⟩ : ∃ X3, X3 = x3 - (j : Int) := ⟨_, rfl⟩
              rw [← hX1, ← hX3] at IN1 WR
              clear hX1 hX3
              go_wp2_with fail
              go_loopg [16] D2 (fun gk y wr => ∃ (i : Nat) (a b : Int), i + gk = D2 ∧ y = .int .i64 i ∧ Hid (a = x2 + i ∧ b = x4 + i ∧ RgI Wq gb X1 a X3 b wr))
              case atStart => exact ⟨0, x2, x4, Nat.zero_add _, rfl, (Int.add_zero _).symm, (Int.add_zero _).symm, IN1.out⟩
              case round =>
                obtain ⟨i, a2, b2, hi2, rfl, IN⟩ := hrel
                rcases gk with _ | gk
                · obtain rfl : i = D2 := hi2
                  have DE3 := hidA (UEH.out a2 b2 IN.out.1 IN.out.2.1)
                  have IN2 : Hid (RgI Wq gb X1 (x2 + i) X3 (x4 + i) wr) := by
                    have h := IN.out.2.2
                    rw [IN.out.1, IN.out.2.1] at h
                    exact h
                  obtain ⟨e0, e1, e2, e3, f0, f1, f2, f3⟩ := box4 IN.out.2.2.2.2
                  clear USH UEH IN IN1
                  go_upto_region 19 with fail
                  go_cut [89] from 75 to 88 (fun s89 wx => s89 = .bool false ∧ wx = wr)
                  case first =>
                    rcases DE3.out with d1 | ⟨d1, d2⟩ | ⟨d1, d2, d3⟩
                    all_goals
                      go_wp2_with fail
                      go_meet
                      exact ⟨rfl, rfl⟩
                  case rest =>
                    obtain ⟨rfl, hw⟩ := hcut
                    rw [hw]
                    clear hw e0 e1 e2 e3 f0 f1 f2 f3
                    obtain ⟨Y2, hY2⟩ : ∃ Y2, Y2 = x2 + (i : Int) := ⟨_, rfl⟩
                    obtain ⟨Y4, hY4⟩ : ∃ Y4, Y4 = x4 + (i : Int) := ⟨_, rfl⟩
                    rw [← hY2, ← hY4] at IN2 WR
                    clear hY2 hY4
                    obtain ⟨LN, hLN⟩ : ∃ LN, LN = acc.length := ⟨_, rfl⟩
                    have HLN := hidA hLN
                    have OW0 : Hid (Wq.ownsRow p 55 4 V12 LN (rgC acc)) := by rw [hLN]; exact RR.out.1
                    obtain ⟨av, cv, hV⟩ := ownShA OW0.out
                    subst hV
                    have GA : Hid (∀ V : World, V.os = wr.os → V.tape = wr.tape → V.output = wr.output → V.heap = wr.heap → Below Wq.heap.size Wq V) := fun V h1 h2 h3 h4 => IN2.out.1.trans ⟨h1, h2, h3, by rw [h4]; exact Nat.le_refl _, fun q _ => by rw [h4]⟩
                    have r0 := GA0.out wr IN2.out.1
                    have RG0 : Hid (OwG Wq p 55 (.slice av LN cv) acc ∧ Below p w1 Wq) := ⟨RR.out.1, RR.out.2.1⟩
                    have ACC : Hid (acc = [] ↔ k = 0) := RR.out.2.2.2.2.2.1
                    have ACL : Hid (acc.length ≤ k) := RR.out.2.2.2.2.1
                    have K900 : Hid (k ≤ 900) := Nat.le_trans (Nat.le_of_lt hkN) (by rw [HN.out]; exact GL.out)
                    have LENA : Hid ((acc ++ [⟨X1, Y2, X3, Y4⟩] : List Al.Rg).length ≤ k + 1) := by
                      unfold Hid
                      rw [List.length_append]
                      exact Nat.succ_le_succ ACL.out
                    have H63 := hidA (own63g (k := LN) (by rw [HLN.out]; exact Nat.le_trans ACL.out (Nat.le_trans K900.out (by decide))))
                    have ONE := hidA (rg_one X1 Y2 X3 Y4)
                    have NXA : Hid (¬ (acc ≠ [] ∧ x1 - pt ≤ 2 * cR) → Al.hR n m cR x2 (acc ++ [⟨X1, Y2, X3, Y4⟩]) (G.drop (k + 1)) = T) := fun h => by
                      have h2 := STP.out
                      rw [WR.out, if_neg h] at h2
                      exact h2
                    have FYA : Hid (∀ W5, Below Wq.heap.size Wq W5 → ∀ v8 w8, w8.ownsRow p 55 4 v8 (LN + 1) (rgC acc ++ [.int .i64 X1, .int .i64 Y2, .int .i64 X3, .int .i64 Y4]) → (W5.alloc (.cells #[.int .i64 X1, .int .i64 Y2, .int .i64 X3, .int .i64 Y4] 55)).grownBy w8 (Value.slice av LN cv).ownBlock → OwG w8 p 55 v8 (acc ++ [⟨X1, Y2, X3, Y4⟩]) ∧ Below p w1 w8) := fun W5 b5 v8 w8 h8 g8 => by
                      refine ⟨?_, ?_⟩
                      · unfold OwG
                        rw [rgC_app, List.length_append, ← HLN.out]
                        exact h8
                      · have z := SQ.out
                        have z2 := b5.size
                        exact RG0.out.2.trans ((b5.mono z).trans (((Below.refl p W5).alloc (Nat.le_trans z z2) _).trans ⟨g8.os, g8.tape, g8.output, g8.size, fun q hq => g8.block q (by simp; omega) (fun e => by have := (World.ownsRow.lt OW0.out _ e.symm).1; omega)⟩))
                    obtain ⟨e0, e1, e2, e3, -, -, -, -⟩ := box4 IN2.out.2.2
                    have W1B := W1A.out
                    have W2B := W2A.out
                    clear RR hLN
                    rcases Nat.eq_zero_or_pos k with hk0 | hk0
                    · have HCOND : Hid (¬ (acc ≠ [] ∧ x1 - pt ≤ 2 * cR)) := fun h => h.1 (ACC.out.2 hk0)
                      have HK0 := hidA hk0
                      have wl : wrap64 ((LN : Int) - 1) = -1 := by
                        have h : LN = 0 := by rw [HLN.out, ACC.out.2 hk0]; rfl
                        rw [h]; exact wl0
                      go_upto_region 24 with fail
                      go_cut [121] from 103 to 120 (fun s wx => s = .bool false ∧ Hid (wx.os = wr.os ∧ wx.tape = wr.tape ∧ wx.output = wr.output ∧ wx.heap = wr.heap))
                      case first =>
                        go_region
                        all_goals
                          go_wp2_with fail
                          go_meet
                          exact ⟨rfl, rfl, rfl, rfl, rfl⟩
                      case rest =>
                        obtain ⟨rfl, CC⟩ := hcut
                        obtain ⟨W5, hW5⟩ : ∃ W5, W5 = wc := ⟨_, rfl⟩
                        subst hW5
                        have B5 := hidA (GA.out W5 CC.out.1 CC.out.2.1 CC.out.2.2.1 CC.out.2.2.2)
                        have FY := hidA (FYA.out W5 B5.out)
                        have OR3 : Hid (W5.ownsRow p 55 4 (.slice av LN cv) LN (rgC acc)) := ownA OW0.out B5.out
                        have SC : Hid (p ≤ W5.heap.size) := Nat.le_trans SQ.out B5.out.size
                        have gbx : W5.heap[gb]? = some (.cells #[.int .i64 X1, .int .i64 Y2, .int .i64 X3, .int .i64 Y4] 55 (0, 0)) := by rw [CC.out.2.2.2]; exact IN2.out.2.2
                        obtain ⟨f0, f1, f2, f3, -, -, -, -⟩ := box4 gbx
                        clear gbx e0 e1 e2 e3 CC
                        go_wp2_with (at_builtin; refine wpList_append_tolA rfl _ _ 46 rfl p 55 j0 (.agg #[.int .i64 0, .int .i64 0, .int .i64 0, .int .i64 0]) 4 32 Tryd.underlying46 hj zj0 zj1 zj2 rfl (by decide) _ _ _ rfl (ownA OR3.out ((Below.refl _ _).alloc (Nat.le_refl _) _)) ⟨W5.heap.size, 0, none⟩ 1 1 [.int .i64 X1, .int .i64 Y2, .int .i64 X3, .int .i64 Y4] rfl rfl (four4A _ _ _ _ _ _) ONE.out H63.out.1 H63.out.2 (Nat.le_trans SC.out ((Below.refl W5.heap.size W5).alloc (Nat.le_refl _) _).size) (by decide) ?_)
                        intro v8 w8 h8 g8 o8
                        have F8 := hidA (FY.out v8 w8 h8 g8)
                        have NX := hidA (NXA.out HCOND.out)
                        clear h8 g8 o8 FY
                        go_wp2_with fail
                        go_roundg gO
                        case measure => omega
                        case rel => exact ⟨k + 1, x2, x4, _, hk3, (by first | exact congrArg _ WK.out | (rw [HK0.out]; rfl)), F8.out.1, F8.out.2, NX.out, CHN.out, LENA.out, by simp, NXP.out⟩
                    have hne : acc ≠ [] := fun e => absurd (ACC.out.1 e) (Nat.ne_of_gt hk0)
                    obtain ⟨KM, hKM, eK, i1, i2, i3⟩ := len_m (L := k) (Nat.ne_of_gt hk0) (Nat.le_trans K900.out (by decide))
                    obtain ⟨i4, i5, -⟩ := ix_nums (show KM < N from Nat.lt_trans (of_decide_eq_true i2) hkN)
                    obtain ⟨M, hM, eM, j1, j2, j3⟩ := len_m (L := LN) (by rw [HLN.out]; exact fun e => hne (List.eq_nil_of_length_eq_zero e)) (by rw [HLN.out]; exact Nat.le_trans ACL.out (Nat.le_trans K900.out (by decide)))
                    have r1 := PV.out KM hKM wr IN2.out.1
                    have eLM : acc.length - 1 = M := by rw [← HLN.out, hM]; rfl
                    clear hKM hM
                    by_cases hcc : x1 - pt ≤ 2 * cR
                    · have dc : decide (x1 - pt ≤ 2 * cR) = true := decide_eq_true hcc
                      go_upto_region 24 with fail
                      go_cut [121] from 103 to 120 (fun s wx => s = .bool true ∧ Hid (wx.os = wr.os ∧ wx.tape = wr.tape ∧ wx.output = wr.output ∧ wx.heap = wr.heap))
                      case first =>
                        go_region
                        all_goals
                          go_wp2_with fail
                          go_meet
                          exact ⟨rfl, rfl, rfl, rfl, rfl⟩
                      case rest =>
                        obtain ⟨rfl, CC⟩ := hcut
                        obtain ⟨W5, hW5⟩ : ∃ W5, W5 = wc := ⟨_, rfl⟩
                        subst hW5
                        have B5 := hidA (GA.out W5 CC.out.1 CC.out.2.1 CC.out.2.2.1 CC.out.2.2.2)
                        have gbx : W5.heap[gb]? = some (.cells #[.int .i64 X1, .int .i64 Y2, .int .i64 X3, .int .i64 Y4] 55 (0, 0)) := by rw [CC.out.2.2.2]; exact IN2.out.2.2
                        obtain ⟨f0, f1, f2, f3, -, -, -, -⟩ := box4 gbx
                        clear gbx e0 e1 e2 e3 r0 r1 CC
                        obtain ⟨gv, cw, hu, hgb, hgs, z1, z3, ⟨y1, y3, q1, q3⟩, O1, O2⟩ := (RG0.out.1.later B5.out).last hne ⟨X1, Y2, X3, Y4⟩
                        rw [eLM] at z1 z3 q1 q3 O1
                        rw [← HLN.out] at hu
                        injection hu with hu1 hu2 hu3
                        subst hu1 hu3
                        simp only at O1
                        have gvl : gv < Wq.heap.size := (World.ownsRow.lt OW0.out gv rfl).2
                        have gbe : gb = Wq.heap.size := IN2.out.2.1
                        have gne5 : ¬ gb = gv := by omega
                        have gne6 : ¬ gv = gb := fun e => gne5 e.symm
                        have FINB : Hid (∀ V : World, V.os = W5.os → V.tape = W5.tape → V.output = W5.output → V.heap = ((W5.setCell ⟨gv, M * 4 + 1, none⟩ (.int .i64 Y2)).setCell ⟨gv, M * 4 + 3, none⟩ (.int .i64 Y4)).heap → OwG V p 55 (.slice (some ⟨gv, 0, none⟩) LN cv) (Al.setL acc ⟨X1, Y2, X3, Y4⟩) ∧ Below p w1 V) := fun V h1 h2 h3 h4 => by
                          refine ⟨owg_same O1 h1 h2 h3 h4, RG0.out.2.trans ((B5.out.mono SQ.out).trans ⟨h1, h2, h3, by rw [h4]; simp, fun q hq => by rw [h4, heap_setCell_other _ _ q _ (by simp; omega), heap_setCell_other _ _ q _ (by simp; omega)]⟩)⟩
                        have NXB : Hid (Al.hR n m cR x2 (Al.setL acc ⟨X1, Y2, X3, Y4⟩) (G.drop (k + 1)) = T) := by
                          have h2 := STP.out
                          rw [WR.out, if_pos ⟨hne, hcc⟩] at h2
                          exact h2
                        have LENB : Hid ((Al.setL acc ⟨X1, Y2, X3, Y4⟩).length ≤ k + 1) := by
                          unfold Hid
                          rw [setL_len]
                          exact Nat.le_succ_of_le ACL.out
                        have NEB : Hid (Al.setL acc ⟨X1, Y2, X3, Y4⟩ = [] ↔ k + 1 = 0) := ⟨fun e => absurd e (setL_ne hne), fun e => absurd e (Nat.succ_ne_zero k)⟩
                        have FZ := hidA (FINB.out ((W5.setCell ⟨gv, M * 4 + 1, none⟩ (.int .i64 Y2)).setCell ⟨gv, M * 4 + 3, none⟩ (.int .i64 Y4)) rfl rfl rfl rfl)
                        clear O1 O2 eLM gvl gbe hcc hne NXA LENA STP ACC hgb
                        go_wp2_with fail
                        go_roundg gO
                        case measure => omega
                        case rel => exact ⟨k + 1, x2, x4, _, hk3, congrArg _ WK.out, FZ.out.1, FZ.out.2, NXB.out, CHN.out, LENB.out, NEB.out, NXP.out⟩
                    · have dc : decide (x1 - pt ≤ 2 * cR) = false := decide_eq_false hcc
                      have HCOND : Hid (¬ (acc ≠ [] ∧ x1 - pt ≤ 2 * cR)) := fun h => hcc h.2
                      clear hcc
                      go_upto_region 24 with fail
                      go_cut [121] from 103 to 120 (fun s wx => s = .bool false ∧ Hid (wx.os = wr.os ∧ wx.tape = wr.tape ∧ wx.output = wr.output ∧ wx.heap = wr.heap))
                      case first =>
                        go_region
                        all_goals
                          go_wp2_with fail
                          go_meet
                          exact ⟨rfl, rfl, rfl, rfl, rfl⟩
                      case rest =>
                        obtain ⟨rfl, CC⟩ := hcut
                        obtain ⟨W5, hW5⟩ : ∃ W5, W5 = wc := ⟨_, rfl⟩
                        subst hW5
                        have B5 := hidA (GA.out W5 CC.out.1 CC.out.2.1 CC.out.2.2.1 CC.out.2.2.2)
                        have gbx : W5.heap[gb]? = some (.cells #[.int .i64 X1, .int .i64 Y2, .int .i64 X3, .int .i64 Y4] 55 (0, 0)) := by rw [CC.out.2.2.2]; exact IN2.out.2.2
                        obtain ⟨f0, f1, f2, f3, -, -, -, -⟩ := box4 gbx
                        clear gbx e0 e1 e2 e3 r0 r1 CC
                        have FY := hidA (FYA.out W5 B5.out)
                        have OR3 : Hid (W5.ownsRow p 55 4 (.slice av LN cv) LN (rgC acc)) := ownA OW0.out B5.out
                        have SC : Hid (p ≤ W5.heap.size) := Nat.le_trans SQ.out B5.out.size
                        go_wp2_with (at_builtin; refine wpList_append_tolA rfl _ _ 46 rfl p 55 j0 (.agg #[.int .i64 0, .int .i64 0, .int .i64 0, .int .i64 0]) 4 32 Tryd.underlying46 hj zj0 zj1 zj2 rfl (by decide) _ _ _ rfl (ownA OR3.out ((Below.refl _ _).alloc (Nat.le_refl _) _)) ⟨W5.heap.size, 0, none⟩ 1 1 [.int .i64 X1, .int .i64 Y2, .int .i64 X3, .int .i64 Y4] rfl rfl (four4A _ _ _ _ _ _) ONE.out H63.out.1 H63.out.2 (Nat.le_trans SC.out ((Below.refl W5.heap.size W5).alloc (Nat.le_refl _) _).size) (by decide) ?_)
                        intro v8 w8 h8 g8 o8
                        have F8 := hidA (FY.out v8 w8 h8 g8)
                        have NX := hidA (NXA.out HCOND.out)
                        clear h8 g8 o8 FY
                        go_wp2_with fail
                        go_roundg gO
                        case measure => omega
                        case rel => exact ⟨k + 1, x2, x4, _, hk3, (by first | exact congrArg _ WK.out | (rw [HK0.out]; rfl)), F8.out.1, F8.out.2, NX.out, CHN.out, LENA.out, by simp, NXP.out⟩
                · obtain ⟨J1, hJ1, hjl, wj, hj2, AM, AP⟩ := in_nums hi2 DB.out.2
                  obtain ⟨d1, d2, d3, q1, q2⟩ := USH.out i a2 b2 hjl IN.out.1 IN.out.2.1
                  obtain ⟨e0, e1, e2, e3, f0, f1, f2, f3⟩ := box4 IN.out.2.2.2.2
                  have FIN := hidA (IN.out.2.2.to (a2 + 1) (b2 + 1))
                  have AE := hidA (And.intro (AP x2 a2 IN.out.1) (AP x4 b2 IN.out.2.1))
                  clear hJ1 hi2 IN AM AP
                  go_wp2_with fail
                  go_roundg gk
                  case measure => omega
                  case rel => exact ⟨J1, a2 + 1, b2 + 1, hj2, congrArg _ wj, AE.out.1, AE.out.2, FIN.out⟩
          · obtain ⟨J1, hJ1, hjl, wj, hj2, AM, AP⟩ := in_nums hj DB.out.1
            obtain ⟨d1, d2, d3, q1, q2⟩ := DSH.out j a b hjl IN.out.1 IN.out.2.1
            obtain ⟨e0, e1, e2, e3, f0, f1, f2, f3⟩ := box4 IN.out.2.2.2.2
            have FIN := hidA (IN.out.2.2.fr (a - 1) (b - 1))
            have AE := hidA (And.intro (AM x1 a IN.out.1) (AM x3 b IN.out.2.1))
            clear hJ1 hj IN AM AP
            go_wp2_with fail
            go_roundg gk
            case measure => omega
            case rel => exact ⟨J1, a - 1, b - 1, hj2, congrArg _ wj, AE.out.1, AE.out.2, FIN.out⟩
end Go.Proofs.YthglhcabdadlpaaDoor
