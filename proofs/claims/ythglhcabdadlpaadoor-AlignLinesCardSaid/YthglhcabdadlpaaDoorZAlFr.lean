/- Layer 15: the document's Lines, walked up to its own loop. -/
/- Layer 15: the document's Lines, walked. -/
/- AlignLines. -/
/- Layer 15: arguments that are rows of two numbers each: what their readings give. -/
import Derived.Test.YthglhcabdadlpaaDoorZAlEd
import Derived.Test.YthglhcabdadlpaaDoorZAlGf
import Derived.LaidMore
import Derived.Stop.Joined
import Derived.Stop.LaidErr
import Derived.Lib.LaidTab
import Derived.ShutString
import Derived.ProofKit
import Derived.OpenShut
import Derived.ChangeOld
import Derived.Below
import Derived.Lay
import Derived.SizedLaws
namespace Go.Proofs.YthglhcabdadlpaaDoor
open Go.RowKit
set_option linter.unusedVariables false
set_option linter.unusedSimpArgs false
set_option maxRecDepth 100000
/-- What one pair, or the region's end, leaves to be put. -/
theorem lin_step {l m : List Al.Ev} {ta tb i j k : Nat} {q : List (Nat × Nat)} {acc T : List ByteArray} (hk : k ≤ q.length) (h1 : acc ++ Al.lnsP l m ta tb i j (q.drop k) = T) (h2 : Al.chn ta tb i j (q.drop k)) (hta : ta ≤ l.length) (htb : tb ≤ m.length) :
    ∃ (X Y : Nat) (R : List ByteArray), (q ++ [(ta, tb)])[k]? = some (X, Y) ∧ i ≤ X ∧ X ≤ l.length ∧ j ≤ Y ∧ Y ≤ m.length ∧ acc ++ (Al.seg 45 l i X ++ (Al.seg 43 m j Y ++ R)) = T ∧ ((k < q.length ∧ X < l.length ∧ Y < m.length ∧ R = Al.seg 32 l X (X + 1) ++ Al.lnsP l m ta tb (X + 1) (Y + 1) (q.drop (k + 1)) ∧ Al.chn ta tb (X + 1) (Y + 1) (q.drop (k + 1))) ∨ (k = q.length ∧ R = [])) := by
  by_cases c : k < q.length
  · obtain ⟨x, hx⟩ : ∃ x, q[k]? = some x := ⟨_, List.getElem?_eq_getElem c⟩
    rw [drop_getL hx] at h1 h2
    obtain ⟨k1, k2, k3, k4, k5⟩ := h2
    exact ⟨x.1, x.2, _, by rw [List.getElem?_append_left c, hx], k1, by omega, k2, by omega, h1, .inl ⟨c, by omega, by omega, rfl, k5⟩⟩
  · obtain rfl : k = q.length := by omega
    rw [List.drop_eq_nil_of_le (Nat.le_refl _)] at h1 h2
    exact ⟨ta, tb, [], by simp, h2.1, hta, h2.2, htb, by rw [List.append_nil]; exact h1, .inr ⟨rfl, rfl⟩⟩
theorem own63M {k : Nat} (h : k ≤ 1000) : k + 1 ≤ maxLen ∧ (k + 1) * 16 ≤ 140737488355328 := own63S h
theorem sz2n {s : UInt8} {l : List UInt8} (h : l.length ≤ 1000) : ¬ (9223372036854775807 < 2 + (⟨l.toArray⟩ : ByteArray).size) := by
  have := sizeA l
  omega
end Go.Proofs.YthglhcabdadlpaaDoor

namespace Go.Proofs.YthglhcabdadlpaaDoor
open Go.RowKit
set_option linter.unusedVariables false
set_option linter.unusedSimpArgs false
set_option maxRecDepth 100000
set_option maxHeartbeats 8000000 in
theorem rlinesOk_any (w : World) (a b c : Option Addr) (ca cb cc : Nat) (l m ps : List Al.Ev) (q : List (Nat × Nat)) (fa ta fb tb : Nat) {B : Nat} (ha : EvR B w a l) (hb : EvR B w b m) (hc : EvR B w c ps) (hB : B ≤ w.heap.size) (hRl : ∀ x ∈ l, Al.R64 x.1 ∧ Al.R64 x.2) (hRm : ∀ x ∈ m, Al.R64 x.1 ∧ Al.R64 x.2) (hf : Al.fits l m ps = true) (hiq : Al.insd ⟨fa, ta, fb, tb⟩ ps = Al.prs q) (hch : Al.chn ta tb fa fb q) (h1 : fa ≤ ta) (h2 : fb ≤ tb) (hta : ta ≤ l.length) (htb : tb ≤ m.length) (hl : l.length ≤ 300) (hm : m.length ≤ 300) (hq : ps.length ≤ 300) :
    Calls Tryd.prog 29 #[.slice a l.length ca, .slice b m.length cb, .slice c ps.length cc, .agg #[.int .i64 (fa : Int), .int .i64 (ta : Int), .int .i64 (fb : Int), .int .i64 (tb : Int)]] w (LnsQ w (Al.lnsP l m ta tb fa fb q) 0) := by
  obtain ⟨i0, hi, zi0, zi1, zi2⟩ := infoRp
  obtain ⟨j0, hj, zj0, zj1, zj2⟩ := infoStrA
  obtain ⟨FA, hFA⟩ : ∃ FA : Int, FA = fa := ⟨_, rfl⟩
  obtain ⟨TA, hTA⟩ : ∃ TA : Int, TA = ta := ⟨_, rfl⟩
  obtain ⟨FB, hFB⟩ : ∃ FB : Int, FB = fb := ⟨_, rfl⟩
  obtain ⟨TB, hTB⟩ : ∃ TB : Int, TB = tb := ⟨_, rfl⟩
  rw [← hFA, ← hTA, ← hFB, ← hTB]
  have HFT : Hid (FA = fa ∧ TA = ta ∧ FB = fb ∧ TB = tb) := ⟨hFA, hTA, hFB, hTB⟩
  obtain ⟨M, hM⟩ : ∃ M, M = w.heap.size := ⟨_, rfl⟩
  obtain ⟨W0, hW0⟩ : ∃ W0, W0 = w.alloc (.cells #[.int .i64 FA, .int .i64 TA, .int .i64 FB, .int .i64 TB] 55) := ⟨_, rfl⟩
  have K0 : Hid (Below w.heap.size w W0) := by rw [hW0]; exact (Below.refl _ _).alloc (Nat.le_refl _) _
  have UP : Hid (∀ W, Below W0.heap.size W0 W → Below w.heap.size w W) := fun W h => K0.out.trans (h.mono K0.out.size)
  have HRB : Hid (∀ W, Below W0.heap.size W0 W → W.heap[M]? = some (.cells #[.int .i64 FA, .int .i64 TA, .int .i64 FB, .int .i64 TB] 55 (0, 0))) := fun W hW => by
    rw [hW.block M (by rw [hW0, hM]; simp), hW0, hM]
    exact Array.getElem?_push_size
  have HF := hidA (rfits_any W0 a b c ca cb cc l m ps (ha.later K0.out hB) (hb.later K0.out hB) (hc.later K0.out hB) (Nat.le_trans hB K0.out.size) (Nat.le_trans hq (by decide)))
  rw [hf] at HF
  have EA : Hid (∀ W, Below W0.heap.size W0 W → EvR B W a l ∧ EvR B W b m ∧ EvR B W c ps) := fun W hW => ⟨ha.later (UP.out W hW) hB, hb.later (UP.out W hW) hB, hc.later (UP.out W hW) hB⟩
  have TXL : Hid (∀ x ∈ l, ∀ wz, Calls Tryd.prog 13 #[.agg #[.int .i64 x.1, .int .i64 x.2]] wz fun e w' => e = .returned (.string ⟨(Al.tx x).toArray⟩) ∧ Below wz.heap.size wz w') := fun x hx wz => rtex_any wz x (hRl x hx).1 (hRl x hx).2
  have TXM : Hid (∀ x ∈ m, ∀ wz, Calls Tryd.prog 13 #[.agg #[.int .i64 x.1, .int .i64 x.2]] wz fun e w' => e = .returned (.string ⟨(Al.tx x).toArray⟩) ∧ Below wz.heap.size wz w') := fun x hx wz => rtex_any wz x (hRm x hx).1 (hRm x hx).2
  have SZL : Hid (∀ x ∈ l, (Al.tx x).length ≤ 1000) := fun x hx => tx_len x (hRl x hx).1 (hRl x hx).2
  have SZM : Hid (∀ x ∈ m, (Al.tx x).length ≤ 1000) := fun x hx => tx_len x (hRm x hx).1 (hRm x hx).2
  have TLEN : Hid ((Al.lnsP l m ta tb fa fb q).length ≤ 600) := by
    have := Al.lnsP_len (a := l) (b := m) hch
    unfold Hid
    omega
  obtain ⟨T, hT⟩ : ∃ T, T = Al.lnsP l m ta tb fa fb q := ⟨_, rfl⟩
  have HT0 : Hid (([] : List ByteArray) ++ Al.lnsP l m ta tb fa fb (q.drop 0) = T ∧ Al.chn ta tb fa fb (q.drop 0)) := ⟨hT.symm, hch⟩
  rw [← hT] at TLEN ⊢
  obtain ⟨r, hr⟩ : ∃ r : Al.Rg, r = ⟨fa, ta, fb, tb⟩ := ⟨_, rfl⟩
  have HIQ : Hid (Al.insd r ps = Al.prs q ∧ (Al.insd r ps).length ≤ 300) := ⟨by rw [hr]; exact hiq, Nat.le_trans (Al.insd_len' _ _) hq⟩
  have HR := hidA hr
  have d1 : decide (FA < 0) = false := decide_eq_false (by omega)
  have d2 : decide (TA < FA) = false := decide_eq_false (by omega)
  have d3 : decide ((l.length : Int) < TA) = false := decide_eq_false (by omega)
  have d4 : decide (FB < 0) = false := decide_eq_false (by omega)
  have d5 : decide (TB < FB) = false := decide_eq_false (by omega)
  have d6 : decide ((m.length : Int) < TB) = false := decide_eq_false (by omega)
  obtain ⟨N, hN⟩ : ∃ N, N = l.length := ⟨_, rfl⟩
  obtain ⟨O, hO⟩ : ∃ O, O = m.length := ⟨_, rfl⟩
  obtain ⟨P, hP⟩ : ∃ P, P = ps.length := ⟨_, rfl⟩
  have HN : Hid (N = l.length ∧ O = m.length ∧ P = ps.length ∧ P ≤ 300 ∧ N ≤ 300 ∧ O ≤ 300 ∧ ta ≤ N ∧ tb ≤ O) := ⟨hN, hO, hP, by omega, by omega, by omega, by omega, by omega⟩
  rw [← hN] at d3
  rw [← hO] at d6
  rw [← hN, ← hO, ← hP] at HF
  rw [← hN, ← hO, ← hP]
  have HM := hidA hM
  have HW0 := hidA hW0
  clear ha hb hc hB hRl hRm hf hiq hch h1 h2 hta htb hl hm hq hM hW0 hT hr hN hO hP hFA hTA hFB hTB
  go_enter Tryd.func29, Tryd.ntmps29
  go_upto_region 1 with fail
  rw [← HW0.out, ← HM.out]
  go_wp2_with fail
  refine HF.out.mono ?_
  rintro e w1 ⟨rfl, b1⟩
  have B1 := hidA b1
  obtain ⟨e0, e1, e2, e3, -, -, -, -⟩ := box4 (HRB.out w1 b1)
  obtain ⟨S1, hS1⟩ : ∃ S1, S1 = w1.heap.size := ⟨_, rfl⟩
  have HS1 := hidA hS1
  have O1 : Hid (OwP w1 S1 66 (.slice none 0 0) (Al.insd r (ps.take 0)) ∧ Below S1 w1 w1) := ⟨OwP.nil _ _ _, Below.refl _ _⟩
  have BW1 : Hid (∀ W, Below S1 w1 W → Below W0.heap.size W0 W) := fun W h => B1.out.trans (h.mono (by rw [HS1.out]; exact B1.out.size))
  clear b1 hS1 HF
  go_upto_region 6 with fail
  clear e0 e1 e2 e3 d1 d2 d3 d4 d5 d6
  go_wp2_with fail
  go_loopg [10, 11] P (fun gk y10 y11 wr => ∃ k : Nat, k + gk = P ∧ y11 = .int .i64 k ∧ Hid (OwP wr S1 66 y10 (Al.insd r (ps.take k)) ∧ Below S1 w1 wr))
  case atStart => exact ⟨0, Nat.zero_add _, rfl, O1.out⟩
  case round =>
    obtain ⟨k, hk, rfl, RR⟩ := hrel
    obtain ⟨e0, e1, e2, e3, -, -, -, -⟩ := box4 (HRB.out wr (BW1.out wr RR.out.2))
    rcases gk with _ | gO
    · obtain rfl : P = k := by omega
      have dk : decide ((P : Int) < (P : Int)) = false := decide_eq_false (Int.lt_irrefl _)
      have PQ : Hid (OwP wr S1 66 u10 (Al.prs q) ∧ Below S1 w1 wr) := by
        have h := RR.out
        rw [List.take_of_length_le (by rw [HN.out.2.2.1]; exact Nat.le_refl _), HIQ.out.1] at h
        exact h
      obtain ⟨G, hG⟩ : ∃ G, G = (Al.prs q).length := ⟨_, rfl⟩
      have GQ : Hid (G = q.length ∧ G ≤ 300) := ⟨by rw [hG, Al.prs_len], by have := HIQ.out.2; rw [HIQ.out.1] at this; rw [hG]; exact this⟩
      have OWQ : Hid (wr.ownsRow S1 66 2 u10 G (prC (Al.prs q))) := by rw [hG]; exact PQ.out.1
      have HG := hidA hG
      have H63 := hidA (own63b (k := G) (Nat.le_trans GQ.out.2 (by decide)))
      have ONE : Hid (∀ u ∈ [Value.int .i64 TA, .int .i64 TB], u.oneCell' = true) := prC_one (TA, TB)
      have SW : Hid (S1 ≤ wr.heap.size) := by have := RR.out.2; rw [HS1.out] at this ⊢; exact this.size
      clear RR O1 hG
      go_wp2_with (at_builtin; refine wpList_append_tolA rfl _ _ 33 rfl S1 66 i0 (.agg #[.int .i64 0, .int .i64 0]) 2 16 Tryd.underlying33 hi zi0 zi1 zi2 rfl (by decide) _ _ _ rfl (ownA OWQ.out ((Below.refl _ _).alloc (Nat.le_refl _) _)) ⟨wr.heap.size, 0, none⟩ 1 1 [.int .i64 TA, .int .i64 TB] rfl rfl (two2 _ _ _ _) ONE.out H63.out.1 H63.out.2 (Nat.le_trans SW.out ((Below.refl wr.heap.size wr).alloc (Nat.le_refl _) _).size) (by decide) ?_)
      intro v8 w8 h8 g8 o8
      have QQ : OwP w8 S1 66 v8 (Al.prs (q ++ [(ta, tb)])) ∧ Below S1 w1 w8 := by
        obtain ⟨h1, h2⟩ := OwP.grown (e := (TA, TB)) PQ.out.1 SW.out (by rw [← HG.out]; exact h8) g8
        refine ⟨?_, PQ.out.2.trans h2⟩
        rw [Al.prs_app, show Al.prs [(ta, tb)] = [(TA, TB)] by rw [HFT.out.2.1, HFT.out.2.2.2]; rfl]
        exact h1
      obtain ⟨sI, cI, rfl, evI, hcI⟩ := QQ.1.ev
      have EI := hidA evI
      have B8 : Hid (Below W0.heap.size W0 w8) := BW1.out w8 QQ.2
      obtain ⟨G1, hG1⟩ : ∃ G1, G1 = G + 1 := ⟨_, rfl⟩
      have HG1 : Hid (G1 = G + 1 ∧ (Al.prs (q ++ [(ta, tb)])).length = G1) := ⟨hG1, by rw [Al.prs_len, List.length_append, hG1, GQ.out.1]; rfl⟩
      rw [HG1.out.2]
      obtain ⟨gi, oi, rfl, hgi, csi⟩ := evI (by rw [HG1.out.2, hG1]; exact Nat.succ_pos _)
      have wG : wrap64 ((G1 : Int) - 1) = (G : Int) := by have := GQ.out.2; rw [hG1]; unfold wrap64; omega
      have CSI := hidA csi
      have HGI := hidA hgi
      clear h8 g8 o8 QQ evI hcI csi hgi hG1 PQ OWQ e0 e1 e2 e3
      obtain ⟨e0, e1, e2, e3, -, -, -, -⟩ := box4 (HRB.out w8 B8.out)
      go_upto_region 13 with fail
      go_quiet (fail)
      have S8 : Hid (SM w8 (w8.drewN nq)) := ⟨by rfl, by rfl, by rfl, by rfl⟩
      generalize w8.drewN nq = W2 at *
      clear e0 e1 e2 e3
      obtain ⟨S2, hS2⟩ : ∃ S2, S2 = W2.heap.size := ⟨_, rfl⟩
      have HS2 := hidA hS2
      have BW2 : Hid (∀ W, Below S2 W2 W → Below W0.heap.size W0 W) := fun W h => B8.out.trans ((S8.out.below _).trans (h.mono (by rw [HS2.out, S8.out.2.2.2]; exact B8.out.size)))
      have INC : Hid (∀ W, Below S2 W2 W → ∀ (k X Y : Nat), (q ++ [(ta, tb)])[k]? = some (X, Y) → W.cell? ⟨gi, oi + k * 2, none⟩ = some (.int .i64 (X : Int)) ∧ W.cell? ⟨gi, oi + k * 2 + 1, none⟩ = some (.int .i64 (Y : Int))) := fun W h k X Y hk => by
        have h1 : gi < S2 := by rw [HS2.out, S8.out.2.2.2]; exact HGI.out
        have h2 := CSI.out k ((X : Int), (Y : Int)) (by unfold Al.prs; rw [List.getElem?_map, hk]; rfl)
        have e : W2.heap = w8.heap := S8.out.2.2.2
        have c := fun o => (h.cell (p := ⟨gi, o, none⟩) h1).trans (show W2.cell? ⟨gi, o, none⟩ = w8.cell? ⟨gi, o, none⟩ by simp only [World.cell?]; rw [e])
        exact ⟨(c _).trans h2.1, (c _).trans h2.2⟩
      have O2 : Hid (OwnS W2 S2 (.slice none 0 0) [] ∧ Below S2 W2 W2) := ⟨OwnS.nil _ _, Below.refl _ _⟩
      clear hS2 CSI EI
      go_wp2_with fail
      go_loopg [12, 13, 14, 15] G1 (fun gk y12 y13 y14 y15 wr => ∃ (k i j : Nat) (acc : List ByteArray), k + gk = G1 ∧ y15 = .int .i64 k ∧ y13 = .int .i64 i ∧ y14 = .int .i64 j ∧ Hid ((OwnS wr S2 y12 acc ∧ Below S2 W2 wr) ∧ ((k ≤ G ∧ acc ++ Al.lnsP l m ta tb i j (q.drop k) = T ∧ Al.chn ta tb i j (q.drop k)) ∨ (k = G1 ∧ acc = T))))
      case atStart => exact ⟨0, fa, fb, [], Nat.zero_add _, rfl, congrArg _ HFT.out.1, congrArg _ HFT.out.2.2.1, O2.out, .inl ⟨Nat.zero_le _, HT0.out⟩⟩
      case round =>
        obtain ⟨k, i, j, acc, hk, rfl, rfl, rfl, RR⟩ := hrel
        rcases gk with _ | gO
        · obtain rfl : G1 = k := by omega
          have dk : decide ((G1 : Int) < (G1 : Int)) = false := decide_eq_false (Int.lt_irrefl _)
          have FIN : Hid (OwnS wr w.heap.size u12 T ∧ Below w.heap.size w wr) := by
            have hT : acc = T := by
              rcases RR.out.2 with h | h
              · have := HG1.out.1; omega
              · exact h.2
            have h := RR.out.1
            rw [hT] at h
            have b2 := BW2.out wr h.2
            have s : w.heap.size ≤ S2 := by rw [HS2.out, S8.out.2.2.2]; exact (UP.out _ B8.out).size
            exact ⟨World.ownsRow.mono h.1 s, UP.out wr b2⟩
          clear RR O2
          go_wp2_with fail
          go_ret2
          exact ⟨_, rfl, FIN.out⟩
        · obtain ⟨h6, dk, dk2, hkG, hk3⟩ := mch_k hk
          have hkle : k ≤ G := by have := HG1.out.1; omega
          obtain ⟨X, Y, R, hXY, hiX, hXN, hjY, hYO, hTT0, hend⟩ := lin_step (l := l) (m := m) (ta := ta) (tb := tb) (i := i) (j := j) (k := k) (q := q) (acc := acc) (T := T) (by rw [← GQ.out.1]; exact hkle) (by rcases RR.out.2 with h | h; exact h.2.1; (have := h.1; have := HG1.out.1; omega)) (by rcases RR.out.2 with h | h; exact h.2.2; (have := h.1; have := HG1.out.1; omega)) (by rw [← HN.out.1]; exact HN.out.2.2.2.2.2.2.1) (by rw [← HN.out.2.1]; exact HN.out.2.2.2.2.2.2.2)
          rw [← GQ.out.1, ← HN.out.1, ← HN.out.2.1] at hend
          rw [← HN.out.1] at hXN
          rw [← HN.out.2.1] at hYO
          have HEQ := hidA hTT0
          have HEND := hidA hend
          have LENT : Hid (acc.length + (X - i) + (Y - j) + R.length ≤ 600) := by
            have h := TLEN.out
            rw [← hTT0] at h
            simp only [List.length_append, seg_lenE 45 (show X ≤ l.length by rw [← HN.out.1]; exact hXN) hiX, seg_lenE 43 (show Y ≤ m.length by rw [← HN.out.2.1]; exact hYO) hjY] at h
            unfold Hid
            omega
          have BND : Hid (i ≤ X ∧ X ≤ N ∧ j ≤ Y ∧ Y ≤ O) := ⟨hiX, hXN, hjY, hYO⟩
          have HXY := hidA hXY
          have HK3 := hidA hk3
          obtain ⟨kx1, kx2, kx3⟩ := ix_nums hkG
          have WK := hidA (wrK k (Nat.le_trans hkle (Nat.le_trans GQ.out.2 (by decide))))
          obtain ⟨g0, hg0⟩ : ∃ g0, i + g0 = X := ⟨X - i, by omega⟩
          obtain ⟨g1, hg1⟩ : ∃ g1, j + g1 = Y := ⟨Y - j, by omega⟩
          have HGG : Hid (i + g0 = X ∧ j + g1 = Y) := ⟨hg0, hg1⟩
          have STA : Hid (i ≤ i ∧ OwnS wr S2 u12 (acc ++ Al.seg 45 l i i) ∧ Below S2 W2 wr) := by
            rw [Al.seg_self, List.append_nil]
            exact ⟨Nat.le_refl _, RR.out.1⟩
          clear hXY hiX hXN hjY hYO hTT0 hend hkle hg0 hg1 RR O2 hk3
          go_wp2_with fail
          go_loopg [12, 13] g0 (fun g y12 y13 wz => ∃ i' : Nat, i' + g = X ∧ y13 = .int .i64 i' ∧ Hid (i ≤ i' ∧ OwnS wz S2 y12 (acc ++ Al.seg 45 l i i') ∧ Below S2 W2 wz))
          case atStart => exact ⟨i, HGG.out.1, rfl, STA.out⟩
          case round =>
            obtain ⟨i', hi', rfl, QR⟩ := hrel
            obtain ⟨n0, n1⟩ := INC.out wr QR.out.2.2 k X Y HXY.out
            rcases gk with _ | gI
            · obtain rfl : i' = X := hi'
              have dX : decide ((i' : Int) < (i' : Int)) = false := decide_eq_false (Int.lt_irrefl _)
              have STB : Hid (j ≤ j ∧ OwnS wr S2 u12 ((acc ++ Al.seg 45 l i i') ++ Al.seg 43 m j j) ∧ Below S2 W2 wr) := by
                rw [Al.seg_self, List.append_nil]
                exact ⟨Nat.le_refl _, QR.out.2⟩
              clear QR STA
              go_wp2_with fail
              go_loopg [12, 14] g1 (fun g y12 y14 wz => ∃ j' : Nat, j' + g = Y ∧ y14 = .int .i64 j' ∧ Hid (j ≤ j' ∧ OwnS wz S2 y12 ((acc ++ Al.seg 45 l i i') ++ Al.seg 43 m j j') ∧ Below S2 W2 wz))
              case atStart => exact ⟨j, HGG.out.2, rfl, STB.out⟩
              case round =>
                obtain ⟨j', hj', rfl, QS⟩ := hrel
                clear n0 n1
                obtain ⟨n0, n1⟩ := INC.out wr QS.out.2.2 k i' Y HXY.out
                rcases gk with _ | gJ
                · obtain rfl : j' = Y := hj'
                  have dY : decide ((j' : Int) < (j' : Int)) = false := decide_eq_false (Int.lt_irrefl _)
                  rcases HEND.out with ⟨he1, he2, he3, he4, he5⟩ | ⟨he1, he2⟩
                  · have dE : decide ((k : Int) < (G : Int)) = true := decide_eq_true (Int.ofNat_lt.2 he1)
                    have dE2 : decide (k < G) = true := decide_eq_true he1
                    obtain ⟨ix1, ix2, ix3⟩ := ix_nums he2
                    have HE5 := hidA he5
                    have HE4 := hidA he4
                    have RL1 : Hid ((((acc ++ Al.seg 45 l i i') ++ Al.seg 43 m j j') ++ Al.seg 32 l i' (i' + 1)) ++ Al.lnsP l m ta tb (i' + 1) (j' + 1) (q.drop (k + 1)) = T) := by
                      have h := HEQ.out
                      rw [he4] at h
                      rw [← h]
                      exact hidA (by simp only [List.append_assoc])
                    obtain ⟨x, hx⟩ : ∃ x, l[i']? = some x := ⟨_, List.getElem?_eq_getElem (by rw [← HN.out.1]; exact he2)⟩
                    have hxm := List.mem_of_getElem? hx
                    obtain ⟨ga, oa, rfl, -, csa⟩ := (EA.out wr (BW2.out wr QS.out.2.2)).1 (by rw [← HN.out.1]; exact Nat.lt_of_le_of_lt (Nat.zero_le _) he2)
                    obtain ⟨x0, x1⟩ := csa i' x hx
                    have TXW := hidA (TXL.out x hxm wr)
                    have sz3 := sz2n (s := 32) (SZL.out x hxm)
                    obtain ⟨TT, hTT⟩ : ∃ TT : ByteArray, TT = ⟨(Al.tx x).toArray⟩ := ⟨_, rfl⟩
                    rw [← hTT] at TXW sz3
                    have LE : Hid ((⟨#[32, 32]⟩ : ByteArray) ++ TT = Al.ln 32 x) := by rw [hTT]; exact ln_eq2 32 x
                    obtain ⟨ac, hac⟩ : ∃ ac, ac = ((acc ++ Al.seg 45 l i i') ++ Al.seg 43 m j j') := ⟨_, rfl⟩
                    obtain ⟨LA, hLA⟩ : ∃ LA, LA = ac.length := ⟨_, rfl⟩
                    have H63 := hidA (own63S (k := LA) (by rw [hLA, hac]; exact (by have := LENT.out; rw [List.length_append, List.length_append, seg_lenE 45 (show i' ≤ l.length by rw [← HN.out.1]; exact Nat.le_of_lt he2) BND.out.1, seg_lenE 43 (show j' ≤ m.length by rw [← HN.out.2.1]; exact BND.out.2.2.2) BND.out.2.2.1]; omega)))
                    have OWS : Hid (OwnS wr S2 u12 ac ∧ Below S2 W2 wr) := by rw [hac]; exact QS.out.2
                    have SN0 : Hid (((acc ++ Al.seg 45 l i i') ++ Al.seg 43 m j j') ++ Al.seg 32 l i' (i' + 1) = ((acc ++ Al.seg 45 l i i') ++ Al.seg 43 m j j') ++ [Al.ln 32 x]) := by unfold Hid; rw [Al.seg_snoc 32 (Nat.le_refl i') hx, Al.seg_self, List.nil_append]
                    have SN : Hid (((acc ++ Al.seg 45 l i i') ++ Al.seg 43 m j j') ++ Al.seg 32 l i' (i' + 1) = ac ++ [Al.ln 32 x]) := SN0.out.trans (by rw [hac])
                    clear SN0
                    have HLA := hidA hLA
                    have ONE : Hid (∀ u ∈ [Value.string ((⟨#[32, 32]⟩ : ByteArray) ++ TT)], u.oneCell' = true) := one_one_s _
                    generalize x.1 = xa at *
                    generalize x.2 = xb at *
                    have w1' := (wrL i' (Nat.le_trans BND.out.2.1 (Nat.le_trans HN.out.2.2.2.2.1 (by decide)))).1
                    have w2' := (wrL j' (Nat.le_trans BND.out.2.2.2 (Nat.le_trans HN.out.2.2.2.2.2.1 (by decide)))).1
                    clear hx hxm csa hac hLA hTT he1 he2 he3 he4 he5 QS STB
                    go_wp2_with fail
                    refine TXW.out.mono ?_
                    rintro e w5 ⟨rfl, b5⟩
                    have OW5 : Hid (w5.ownsRow S2 9 1 u12 LA (ac.map Value.string) ∧ Below S2 W2 w5 ∧ S2 ≤ w5.heap.size) := by
                      have s2 : S2 ≤ wr.heap.size := by have := OWS.out.2; rw [HS2.out] at this ⊢; exact this.size
                      exact ⟨by rw [HLA.out]; exact ownA (show wr.ownsRow _ _ 1 _ _ _ from OWS.out.1) b5, OWS.out.2.trans (b5.mono s2), Nat.le_trans s2 b5.size⟩
                    clear b5 x0 x1
                    go_wp2_with (at_builtin; refine wpList_append_tolA rfl _ _ 56 rfl S2 9 j0 (.string ⟨#[]⟩) 1 16 Tryd.underlying56 hj zj0 zj1 zj2 rfl (by decide) _ _ _ rfl (ownA OW5.out.1 ((Below.refl _ _).alloc (Nat.le_refl _) _)) ⟨w5.heap.size, 0, none⟩ 1 1 [.string ((⟨#[32, 32]⟩ : ByteArray) ++ TT)] rfl rfl (one1A _ _ _) ONE.out H63.out.1 H63.out.2 (Nat.le_trans OW5.out.2.2 ((Below.refl w5.heap.size w5).alloc (Nat.le_refl _) _).size) (by decide) ?_)
                    intro v8 w8 h8 g8 o8
                    have NN : Hid (OwnS w8 S2 v8 (ac ++ [Al.ln 32 x]) ∧ Below S2 W2 w8) := by
                      rw [HLA.out] at h8
                      have h9 := OwnS.snoc (w := w5) (s := _) (show OwnS w5 S2 _ ac by have h := OW5.out.1; rw [HLA.out] at h; exact h) (Below.refl _ _) OW5.out.2.2 h8 g8
                      rw [LE.out] at h9
                      exact ⟨h9.1, OW5.out.2.1.trans h9.2⟩
                    clear h8 g8 o8 OWS OW5
                    have NX : Hid ((OwnS w8 S2 v8 (((acc ++ Al.seg 45 l i i') ++ Al.seg 43 m j j') ++ Al.seg 32 l i' (i' + 1)) ∧ Below S2 W2 w8) ∧ ((k + 1 ≤ G ∧ (((acc ++ Al.seg 45 l i i') ++ Al.seg 43 m j j') ++ Al.seg 32 l i' (i' + 1)) ++ Al.lnsP l m ta tb (i' + 1) (j' + 1) (q.drop (k + 1)) = T ∧ Al.chn ta tb (i' + 1) (j' + 1) (q.drop (k + 1))) ∨ (k + 1 = G1 ∧ (((acc ++ Al.seg 45 l i i') ++ Al.seg 43 m j j') ++ Al.seg 32 l i' (i' + 1)) = T))) := by
                      refine ⟨?_, .inl ⟨of_decide_eq_true dE2, RL1.out, HE5.out⟩⟩
                      rw [SN.out]
                      exact NN.out
                    clear n0 n1
                    go_wp2_with fail
                    go_roundg gO
                    case measure => omega
                    case rel => exact ⟨k + 1, i' + 1, j' + 1, _, HK3.out, congrArg _ WK.out, by first | exact congrArg _ w1' | rfl, by first | exact congrArg _ w2' | rfl, NX.out⟩
                  · have dE : decide ((k : Int) < (G : Int)) = false := decide_eq_false (by omega)
                    have dE2 : decide (k < G) = false := decide_eq_false (by omega)
                    have NX : Hid ((OwnS wr S2 u12 ((acc ++ Al.seg 45 l i i') ++ Al.seg 43 m j j') ∧ Below S2 W2 wr) ∧ ((k + 1 ≤ G ∧ ((acc ++ Al.seg 45 l i i') ++ Al.seg 43 m j j') ++ Al.lnsP l m ta tb i' j' (q.drop (k + 1)) = T ∧ Al.chn ta tb i' j' (q.drop (k + 1))) ∨ (k + 1 = G1 ∧ (acc ++ Al.seg 45 l i i') ++ Al.seg 43 m j j' = T))) := by
                      refine ⟨QS.out.2, .inr ⟨by rw [HG1.out.1, he1], ?_⟩⟩
                      rw [← HEQ.out, he2, List.append_nil, List.append_assoc]
                    clear he1 he2 QS STB
                    go_wp2_with fail
                    go_roundg gO
                    case measure => omega
                    case rel => exact ⟨k + 1, i', j', _, HK3.out, congrArg _ WK.out, rfl, rfl, NX.out⟩
                · obtain ⟨h7, dj, dj2, hjY, hj3⟩ := mch_k hj'
                  have hjO : j' < O := Nat.lt_of_lt_of_le hjY BND.out.2.2.2
                  obtain ⟨ix1, ix2, ix3⟩ := ix_nums hjO
                  obtain ⟨x, hx⟩ : ∃ x, m[j']? = some x := ⟨_, List.getElem?_eq_getElem (by rw [← HN.out.2.1]; exact hjO)⟩
                  have hxm := List.mem_of_getElem? hx
                  obtain ⟨ga, oa, rfl, -, csa⟩ := (EA.out wr (BW2.out wr QS.out.2.2)).2.1 (by rw [← HN.out.2.1]; exact Nat.lt_of_le_of_lt (Nat.zero_le _) hjO)
                  obtain ⟨x0, x1⟩ := csa j' x hx
                  have TXW := hidA (TXM.out x hxm wr)
                  have sz3 := sz2n (s := 43) (SZM.out x hxm)
                  obtain ⟨TT, hTT⟩ : ∃ TT : ByteArray, TT = ⟨(Al.tx x).toArray⟩ := ⟨_, rfl⟩
                  rw [← hTT] at TXW sz3
                  have LE : Hid ((⟨#[43, 32]⟩ : ByteArray) ++ TT = Al.ln 43 x) := by rw [hTT]; exact ln_eq2 43 x
                  obtain ⟨ac, hac⟩ : ∃ ac, ac = ((acc ++ Al.seg 45 l i i') ++ Al.seg 43 m j j') := ⟨_, rfl⟩
                  obtain ⟨LA, hLA⟩ : ∃ LA, LA = ac.length := ⟨_, rfl⟩
                  have H63 := hidA (own63S (k := LA) (by rw [hLA, hac]; exact (by have := LENT.out; rw [List.length_append, List.length_append, seg_lenE 45 (show i' ≤ l.length by rw [← HN.out.1]; exact BND.out.2.1) BND.out.1, seg_lenE 43 (show j' ≤ m.length by rw [← HN.out.2.1]; exact Nat.le_of_lt hjO) QS.out.1]; omega)))
                  have OWS : Hid (OwnS wr S2 u12 ac ∧ Below S2 W2 wr) := by rw [hac]; exact QS.out.2
                  have SN0 : Hid ((acc ++ Al.seg 45 l i i') ++ Al.seg 43 m j (j' + 1) = ((acc ++ Al.seg 45 l i i') ++ Al.seg 43 m j j') ++ [Al.ln 43 x]) := by unfold Hid; rw [Al.seg_snoc 43 QS.out.1 hx, ← List.append_assoc]
                  have SN : Hid ((acc ++ Al.seg 45 l i i') ++ Al.seg 43 m j (j' + 1) = ac ++ [Al.ln 43 x]) := SN0.out.trans (by rw [hac])
                  clear SN0
                  have HLA := hidA hLA
                  have ONE : Hid (∀ u ∈ [Value.string ((⟨#[43, 32]⟩ : ByteArray) ++ TT)], u.oneCell' = true) := one_one_s _
                  generalize x.1 = xa at *
                  generalize x.2 = xb at *
                  have w2' := (wrL j' (Nat.le_trans (Nat.le_of_lt hjO) (Nat.le_trans HN.out.2.2.2.2.2.1 (by decide)))).1
                  have JLE : Hid (j ≤ j' + 1) := Nat.le_succ_of_le QS.out.1
                  clear hx hxm csa hac hLA hTT QS STB
                  go_wp2_with fail
                  refine TXW.out.mono ?_
                  rintro e w5 ⟨rfl, b5⟩
                  have OW5 : Hid (w5.ownsRow S2 9 1 u12 LA (ac.map Value.string) ∧ Below S2 W2 w5 ∧ S2 ≤ w5.heap.size) := by
                    have s2 : S2 ≤ wr.heap.size := by have := OWS.out.2; rw [HS2.out] at this ⊢; exact this.size
                    exact ⟨by rw [HLA.out]; exact ownA (show wr.ownsRow _ _ 1 _ _ _ from OWS.out.1) b5, OWS.out.2.trans (b5.mono s2), Nat.le_trans s2 b5.size⟩
                  clear b5 x0 x1
                  go_wp2_with (at_builtin; refine wpList_append_tolA rfl _ _ 56 rfl S2 9 j0 (.string ⟨#[]⟩) 1 16 Tryd.underlying56 hj zj0 zj1 zj2 rfl (by decide) _ _ _ rfl (ownA OW5.out.1 ((Below.refl _ _).alloc (Nat.le_refl _) _)) ⟨w5.heap.size, 0, none⟩ 1 1 [.string ((⟨#[43, 32]⟩ : ByteArray) ++ TT)] rfl rfl (one1A _ _ _) ONE.out H63.out.1 H63.out.2 (Nat.le_trans OW5.out.2.2 ((Below.refl w5.heap.size w5).alloc (Nat.le_refl _) _).size) (by decide) ?_)
                  intro v8 w8 h8 g8 o8
                  have NN : Hid (OwnS w8 S2 v8 (ac ++ [Al.ln 43 x]) ∧ Below S2 W2 w8) := by
                    rw [HLA.out] at h8
                    have h9 := OwnS.snoc (w := w5) (s := _) (show OwnS w5 S2 _ ac by have h := OW5.out.1; rw [HLA.out] at h; exact h) (Below.refl _ _) OW5.out.2.2 h8 g8
                    rw [LE.out] at h9
                    exact ⟨h9.1, OW5.out.2.1.trans h9.2⟩
                  clear h8 g8 o8 OWS OW5
                  have NX : Hid (j ≤ j' + 1 ∧ OwnS w8 S2 v8 ((acc ++ Al.seg 45 l i i') ++ Al.seg 43 m j (j' + 1)) ∧ Below S2 W2 w8) := by
                    refine ⟨JLE.out, ?_⟩
                    rw [SN.out]
                    exact NN.out
                  clear n0 n1
                  go_wp2_with fail
                  go_roundg gJ
                  case measure => omega
                  case rel => exact ⟨j' + 1, hj3, by first | exact congrArg _ w2' | rfl, NX.out⟩
            · obtain ⟨h7, di, di2, hiX, hi3⟩ := mch_k hi'
              have hiN : i' < N := Nat.lt_of_lt_of_le hiX BND.out.2.1
              obtain ⟨ix1, ix2, ix3⟩ := ix_nums hiN
              obtain ⟨x, hx⟩ : ∃ x, l[i']? = some x := ⟨_, List.getElem?_eq_getElem (by rw [← HN.out.1]; exact hiN)⟩
              have hxm := List.mem_of_getElem? hx
              obtain ⟨ga, oa, rfl, -, csa⟩ := (EA.out wr (BW2.out wr QR.out.2.2)).1 (by rw [← HN.out.1]; exact Nat.lt_of_le_of_lt (Nat.zero_le _) hiN)
              obtain ⟨x0, x1⟩ := csa i' x hx
              have TXW := hidA (TXL.out x hxm wr)
              have sz3 := sz2n (s := 45) (SZL.out x hxm)
              obtain ⟨TT, hTT⟩ : ∃ TT : ByteArray, TT = ⟨(Al.tx x).toArray⟩ := ⟨_, rfl⟩
              rw [← hTT] at TXW sz3
              have LE : Hid ((⟨#[45, 32]⟩ : ByteArray) ++ TT = Al.ln 45 x) := by rw [hTT]; exact ln_eq2 45 x
              obtain ⟨ac, hac⟩ : ∃ ac, ac = (acc ++ Al.seg 45 l i i') := ⟨_, rfl⟩
              obtain ⟨LA, hLA⟩ : ∃ LA, LA = ac.length := ⟨_, rfl⟩
              have H63 := hidA (own63S (k := LA) (by rw [hLA, hac]; exact (by have := LENT.out; rw [List.length_append, seg_lenE 45 (show i' ≤ l.length by rw [← HN.out.1]; exact Nat.le_of_lt hiN) QR.out.1]; omega)))
              have OWS : Hid (OwnS wr S2 u12 ac ∧ Below S2 W2 wr) := by rw [hac]; exact QR.out.2
              have SN0 : Hid (acc ++ Al.seg 45 l i (i' + 1) = (acc ++ Al.seg 45 l i i') ++ [Al.ln 45 x]) := by unfold Hid; rw [Al.seg_snoc 45 QR.out.1 hx, ← List.append_assoc]
              have SN : Hid (acc ++ Al.seg 45 l i (i' + 1) = ac ++ [Al.ln 45 x]) := SN0.out.trans (by rw [hac])
              clear SN0
              have HLA := hidA hLA
              have ONE : Hid (∀ u ∈ [Value.string ((⟨#[45, 32]⟩ : ByteArray) ++ TT)], u.oneCell' = true) := one_one_s _
              generalize x.1 = xa at *
              generalize x.2 = xb at *
              have w2' := (wrL i' (Nat.le_trans (Nat.le_of_lt hiN) (Nat.le_trans HN.out.2.2.2.2.1 (by decide)))).1
              have ILE : Hid (i ≤ i' + 1) := Nat.le_succ_of_le QR.out.1
              clear hx hxm csa hac hLA hTT QR STA
              go_wp2_with fail
              refine TXW.out.mono ?_
              rintro e w5 ⟨rfl, b5⟩
              have OW5 : Hid (w5.ownsRow S2 9 1 u12 LA (ac.map Value.string) ∧ Below S2 W2 w5 ∧ S2 ≤ w5.heap.size) := by
                have s2 : S2 ≤ wr.heap.size := by have := OWS.out.2; rw [HS2.out] at this ⊢; exact this.size
                exact ⟨by rw [HLA.out]; exact ownA (show wr.ownsRow _ _ 1 _ _ _ from OWS.out.1) b5, OWS.out.2.trans (b5.mono s2), Nat.le_trans s2 b5.size⟩
              clear b5 x0 x1
              go_wp2_with (at_builtin; refine wpList_append_tolA rfl _ _ 56 rfl S2 9 j0 (.string ⟨#[]⟩) 1 16 Tryd.underlying56 hj zj0 zj1 zj2 rfl (by decide) _ _ _ rfl (ownA OW5.out.1 ((Below.refl _ _).alloc (Nat.le_refl _) _)) ⟨w5.heap.size, 0, none⟩ 1 1 [.string ((⟨#[45, 32]⟩ : ByteArray) ++ TT)] rfl rfl (one1A _ _ _) ONE.out H63.out.1 H63.out.2 (Nat.le_trans OW5.out.2.2 ((Below.refl w5.heap.size w5).alloc (Nat.le_refl _) _).size) (by decide) ?_)
              intro v8 w8 h8 g8 o8
              have NN : Hid (OwnS w8 S2 v8 (ac ++ [Al.ln 45 x]) ∧ Below S2 W2 w8) := by
                rw [HLA.out] at h8
                have h9 := OwnS.snoc (w := w5) (s := _) (show OwnS w5 S2 _ ac by have h := OW5.out.1; rw [HLA.out] at h; exact h) (Below.refl _ _) OW5.out.2.2 h8 g8
                rw [LE.out] at h9
                exact ⟨h9.1, OW5.out.2.1.trans h9.2⟩
              clear h8 g8 o8 OWS OW5
              have NX : Hid (i ≤ i' + 1 ∧ OwnS w8 S2 v8 (acc ++ Al.seg 45 l i (i' + 1)) ∧ Below S2 W2 w8) := by
                refine ⟨ILE.out, ?_⟩
                rw [SN.out]
                exact NN.out
              clear n0 n1
              go_wp2_with fail
              go_roundg gI
              case measure => omega
              case rel => exact ⟨i' + 1, hi3, by first | exact congrArg _ w2' | rfl, NX.out⟩
    · obtain ⟨h6, dk, dk2, hkP, hk3⟩ := mch_k hk
      obtain ⟨x, hx⟩ : ∃ x, ps[k]? = some x := ⟨_, List.getElem?_eq_getElem (by rw [← HN.out.2.2.1]; exact hkP)⟩
      obtain ⟨gc, oc, rfl, hgc, csc⟩ := (EA.out wr (BW1.out wr RR.out.2)).2.2 (by rw [← HN.out.2.2.1]; exact Nat.lt_of_le_of_lt (Nat.zero_le k) hkP)
      obtain ⟨x0, x1⟩ := csc k x hx
      have HCX : Hid (∀ W, SM wr W → W.cell? ⟨gc, oc + k * 2, none⟩ = some (.int .i64 x.1) ∧ W.cell? ⟨gc, oc + k * 2 + 1, none⟩ = some (.int .i64 x.2)) := fun W h => by
        have e : W.heap = wr.heap := h.2.2.2
        simp only [World.cell?] at x0 x1 ⊢
        rw [e]
        exact ⟨x0, x1⟩
      have SNC := hidA (insd_snoc (r := r) hx)
      have WK := hidA (wrK k (Nat.le_trans (Nat.le_of_lt hkP) (Nat.le_trans HN.out.2.2.2.1 (by decide))))
      obtain ⟨C, hC⟩ : ∃ C, C = Al.inR r x := ⟨_, rfl⟩
      rw [← hC] at SNC
      obtain ⟨q1, t1⟩ : ∃ q, decide (FA ≤ x.1) = q := ⟨_, rfl⟩
      obtain ⟨q2, t2⟩ : ∃ q, decide (x.1 < TA) = q := ⟨_, rfl⟩
      obtain ⟨q3, t3⟩ : ∃ q, decide (FB ≤ x.2) = q := ⟨_, rfl⟩
      obtain ⟨q4, t4⟩ : ∃ q, decide (x.2 < TB) = q := ⟨_, rfl⟩
      have HCC : Hid (C = ((q1 && q2) && q3 && q4)) := by rw [hC, HR.out, ← t1, ← t2, ← t3, ← t4, HFT.out.1, HFT.out.2.1, HFT.out.2.2.1, HFT.out.2.2.2]; exact hidA rfl
      obtain ⟨acc, hacc⟩ : ∃ acc, acc = Al.insd r (ps.take k) := ⟨_, rfl⟩
      obtain ⟨LA, hLA⟩ : ∃ LA, LA = acc.length := ⟨_, rfl⟩
      have H63 := hidA (own63b (k := LA) (by rw [hLA, hacc]; exact Nat.le_trans (insd_len _ _ _) (Nat.le_trans (Nat.le_of_lt hkP) (Nat.le_trans HN.out.2.2.2.1 (by decide)))))
      have RRH : Hid (OwP wr S1 66 u10 acc ∧ Below S1 w1 wr) := by rw [hacc]; exact RR.out
      rw [← hacc] at SNC
      have HLA := hidA hLA
      have ONE : Hid (∀ u ∈ [Value.int .i64 x.1, .int .i64 x.2], u.oneCell' = true) := prC_one x
      have SW : Hid (S1 ≤ wr.heap.size) := by have := RR.out.2; rw [HS1.out] at this ⊢; exact this.size
      have GR : Hid (∀ (W3 : World) (v8 : Value) (w8 : World) (o : Obj), SM wr W3 → w8.ownsRow S1 66 2 v8 (LA + 1) (prC acc ++ [.int .i64 x.1, .int .i64 x.2]) → (W3.alloc o).grownBy w8 u10.ownBlock → OwP w8 S1 66 v8 (acc ++ [x]) ∧ Below S1 w1 w8) := fun W3 v8 w8 o hs h8 g8 => by
        obtain ⟨h1, h2⟩ := OwP.grown (e := x) (RRH.out.1.later (hs.below _)) (by rw [hs.2.2.2]; exact SW.out) (by rw [← HLA.out]; exact h8) g8
        exact ⟨h1, (RRH.out.2.trans (hs.below _)).trans h2⟩
      have HX0 : Hid (∀ W, SM wr W → W.ownsRow S1 66 2 u10 LA (prC acc) ∧ S1 ≤ W.heap.size) := fun W h => ⟨by rw [HLA.out]; exact RRH.out.1.later (h.below _), by rw [h.2.2.2]; exact SW.out⟩
      generalize x.1 = xa at *
      generalize x.2 = xb at *
      clear hx csc hC hacc hLA RR O1
      go_upto_region 9 with fail
      go_cut [100] from 63 to 100 (fun s wx => s = .bool C ∧ Hid (SM wr wx))
      case first =>
        cases q1
        · obtain rfl := HCC.out
          go_quiet (fail)
          have S3 : Hid (SM wr (wr.drewN nq)) := ⟨by rfl, by rfl, by rfl, by rfl⟩
          go_wp2_with fail
          go_meet
          exact ⟨rfl, S3.out⟩
        cases q2
        · obtain rfl := HCC.out
          go_quiet (fail)
          have S3 : Hid (SM wr (wr.drewN nq)) := ⟨by rfl, by rfl, by rfl, by rfl⟩
          go_wp2_with fail
          go_meet
          exact ⟨rfl, S3.out⟩
        cases q3
        · obtain rfl := HCC.out
          go_quiet (fail)
          have S3 : Hid (SM wr (wr.drewN nq)) := ⟨by rfl, by rfl, by rfl, by rfl⟩
          go_wp2_with fail
          go_meet
          exact ⟨rfl, S3.out⟩
        cases q4
        · obtain rfl := HCC.out
          go_quiet (fail)
          have S3 : Hid (SM wr (wr.drewN nq)) := ⟨by rfl, by rfl, by rfl, by rfl⟩
          go_wp2_with fail
          go_meet
          exact ⟨rfl, S3.out⟩
        · obtain rfl := HCC.out
          go_quiet (fail)
          have S3 : Hid (SM wr (wr.drewN nq)) := ⟨by rfl, by rfl, by rfl, by rfl⟩
          go_wp2_with fail
          go_meet
          exact ⟨rfl, S3.out⟩
      case rest =>
        obtain ⟨rfl, SS⟩ := hcut
        obtain ⟨W3, hW3⟩ : ∃ W3, W3 = wc := ⟨_, rfl⟩
        subst hW3
        clear x0 x1 e0 e1 e2 e3 t1 t2 t3 t4 HCC
        obtain ⟨x0, x1⟩ := HCX.out W3 SS.out
        cases C with
        | false =>
          have NX : Hid (OwP W3 S1 66 u10 (Al.insd r (ps.take (k + 1))) ∧ Below S1 w1 W3) := by
            rw [SNC.out]
            simp only [Bool.false_eq_true, if_false, List.append_nil]
            exact ⟨RRH.out.1.later (SS.out.below _), RRH.out.2.trans (SS.out.below _)⟩
          go_wp2_with fail
          go_roundg gO
          case measure => omega
          case rel => exact ⟨k + 1, hk3, congrArg _ WK.out, NX.out⟩
        | true =>
          have HXX := hidA (HX0.out W3 SS.out)
          go_wp2_with (at_builtin; refine wpList_append_tolA rfl _ _ 33 rfl S1 66 i0 (.agg #[.int .i64 0, .int .i64 0]) 2 16 Tryd.underlying33 hi zi0 zi1 zi2 rfl (by decide) _ _ _ rfl (ownA HXX.out.1 ((Below.refl _ _).alloc (Nat.le_refl _) _)) ⟨W3.heap.size, 0, none⟩ 1 1 [.int .i64 xa, .int .i64 xb] rfl rfl (two2 _ _ _ _) ONE.out H63.out.1 H63.out.2 (Nat.le_trans HXX.out.2 ((Below.refl W3.heap.size W3).alloc (Nat.le_refl _) _).size) (by decide) ?_)
          intro v8 w8 h8 g8 o8
          have NN := hidA (GR.out W3 v8 w8 _ SS.out h8 g8)
          have NX : Hid (OwP w8 S1 66 v8 (Al.insd r (ps.take (k + 1)))) := by
            rw [SNC.out]
            exact NN.out.1
          clear h8 g8 o8 GR HXX
          go_wp2_with fail
          go_roundg gO
          case measure => omega
          case rel => exact ⟨k + 1, hk3, congrArg _ WK.out, NX.out, NN.out.2⟩
end Go.Proofs.YthglhcabdadlpaaDoor

namespace Go.Proofs.YthglhcabdadlpaaDoor
open Go.RowKit
set_option linter.unusedVariables false
set_option linter.unusedSimpArgs false
set_option maxRecDepth 100000
theorem rliness_any (w : World) (a b c : Option Addr) (ca cb cc : Nat) (l m ps : List Al.Ev) (r : Al.Rg) {B : Nat} (ha : EvR B w a l) (hb : EvR B w b m) (hc : EvR B w c ps) (hB : B ≤ w.heap.size) (hRl : ∀ x ∈ l, Al.R64 x.1 ∧ Al.R64 x.2) (hRm : ∀ x ∈ m, Al.R64 x.1 ∧ Al.R64 x.2) (hl : l.length ≤ 300) (hm : m.length ≤ 300) (hq : ps.length ≤ 300) :
    Calls Tryd.prog 29 #[.slice a l.length ca, .slice b m.length cb, .slice c ps.length cc, .agg #[.int .i64 r.fa, .int .i64 r.ta, .int .i64 r.fb, .int .i64 r.tb]] w (LnsQ w (Al.lns l m ps r).1 (Al.lns l m ps r).2) := by
  by_cases h : Al.fits l m ps = false ∨ Al.rok l.length m.length r = false
  · exact rlinesBad_any w a b c ca cb cc l m ps r ha hb hc hB hq h
  · have h1 : Al.fits l m ps = true := by cases e : Al.fits l m ps; exact absurd (.inl e) h; rfl
    have h2 : Al.rok l.length m.length r = true := by cases e : Al.rok l.length m.length r; exact absurd (.inr e) h; rfl
    obtain ⟨fa, ta, fb, tb, q, e1, e2, hch, k1, k2, hta, htb, e3⟩ := Al.lns_ok h1 h2
    rw [e3, e1]
    rw [e1] at e2
    exact rlinesOk_any w a b c ca cb cc l m ps q fa ta fb tb ha hb hc hB hRl hRm h1 e2 hch k1 k2 hta htb hl hm hq
theorem lns_len (l m ps : List Al.Ev) (r : Al.Rg) (hl : l.length ≤ 300) (hm : m.length ≤ 300) : (Al.lns l m ps r).1.length ≤ 1000000 := by
  by_cases h1 : Al.fits l m ps = true
  · by_cases h2 : Al.rok l.length m.length r = true
    · obtain ⟨fa, ta, fb, tb, q, e1, e2, hch, k1, k2, hta, htb, e3⟩ := Al.lns_ok h1 h2
      rw [e3]
      have := Al.lnsP_len (a := l) (b := m) hch
      simp only
      omega
    · unfold Al.lns
      rw [if_pos h1, if_neg h2]
      exact Nat.zero_le _
  · unfold Al.lns
    rw [if_neg h1]
    exact Nat.zero_le _
/-- Where texts lie. -/
def SlS (w : World) (a : Option Addr) (L : List ByteArray) : Prop := L ≠ [] → ∃ g, a = some ⟨g, 0, none⟩ ∧ Sa w g 0 L
theorem SlS.later {w w' : World} {a : Option Addr} {L : List ByteArray} (h : SlS w a L) (b : Below w.heap.size w w') : SlS w' a L := fun hn => by
  obtain ⟨g, e, s⟩ := h hn
  exact ⟨g, e, s.later b⟩
theorem OwnS.sl {w : World} {base : Nat} {v : Value} {L : List ByteArray} (h : OwnS w base v L) : ∃ a c, v = .slice a L.length c ∧ SlS w a L := by
  by_cases hn : L = []
  · subst hn
    rcases h.2 with ⟨e, _⟩ | ⟨g, cap, cur, e, _⟩
    · exact ⟨none, 0, e, fun h => absurd rfl h⟩
    · exact ⟨_, cap, e, fun h => absurd rfl h⟩
  · obtain ⟨g, cap, e, _, s⟩ := h.sa hn
    exact ⟨_, cap, e, fun _ => ⟨g, rfl, s⟩⟩
theorem same_anyL (w : World) (a b : Option Addr) (c d : Nat) (L : List ByteArray) (ha : SlS w a L) (hb : SlS w b L) (hl : L.length ≤ 1000000) : Calls Tryd.prog 30 #[.slice a L.length c, .slice b L.length d] w fun e w' => e = .returned (.bool true) ∧ Below w.heap.size w w' := by
  by_cases hn : L = []
  · subst hn
    exact (same_none a b c d w).mono fun e w' h => ⟨h.1, by rw [h.2]; exact Below.refl _ _⟩
  · obtain ⟨g1, rfl, s1⟩ := ha hn
    obtain ⟨g2, rfl, s2⟩ := hb hn
    exact same_true g1 0 c g2 0 d L w s1 s2 hl
set_option maxHeartbeats 4000000 in
theorem linesL_walk (w : World) (ht : Tab w) (a : Option Addr) (l : List Al.Ev) (ca : Nat) (ha : EvR w.heap.size w a l) (hca : l.length ≤ ca) (_ : l.length ≤ 1000000000000000) (hRl : ∀ x ∈ l, Al.R64 x.1 ∧ Al.R64 x.2) (b : Option Addr) (m : List Al.Ev) (cb : Nat) (hb : EvR w.heap.size w b m) (hcb : m.length ≤ cb) (_ : m.length ≤ 1000000000000000) (hRm : ∀ x ∈ m, Al.R64 x.1 ∧ Al.R64 x.2) (c : Option Addr) (ps : List Al.Ev) (cc : Nat) (hc : EvR w.heap.size w c ps) (hcc : ps.length ≤ cc) (_ : ps.length ≤ 1000000000000000) (_ : ∀ x ∈ ps, Al.R64 x.1 ∧ Al.R64 x.2) (r : Al.Rg) (_ : True) :
    Calls Tryd.prog 7 #[.slice a l.length ca, .slice b m.length cb, .slice c ps.length cc, .agg #[.int .i64 r.fa, .int .i64 r.ta, .int .i64 r.fb, .int .i64 r.tb]] w fun e w' => e = .returned (.bool true) ∧ Below w.heap.size w w' := by
  obtain ⟨M, hM⟩ : ∃ M, M = w.heap.size := ⟨_, rfl⟩
  obtain ⟨W0, hW0⟩ : ∃ W0, W0 = w.alloc (.cells #[.int .i64 r.fa, .int .i64 r.ta, .int .i64 r.fb, .int .i64 r.tb] 55) := ⟨_, rfl⟩
  have K0 : Hid (Below w.heap.size w W0) := by rw [hW0]; exact (Below.refl _ _).alloc (Nat.le_refl _) _
  have UP : Hid (∀ W, Below W0.heap.size W0 W → Below w.heap.size w W) := fun W h => K0.out.trans (h.mono K0.out.size)
  have HRB : Hid (∀ W, Below W0.heap.size W0 W → W.heap[M]? = some (.cells #[.int .i64 r.fa, .int .i64 r.ta, .int .i64 r.fb, .int .i64 r.tb] 55 (0, 0))) := fun W hW => by
    rw [hW.block M (by rw [hW0, hM]; simp), hW0, hM]
    exact Array.getElem?_push_size
  have R0 : Hid (Below W0.heap.size W0 W0) := Below.refl _ _
  have KN : Hid (∀ wz, Below W0.heap.size W0 wz → Calls Tryd.prog 9 #[] wz fun e w' => e = .returned (.bool true) ∧ Below w.heap.size w w') := fun wz hz => (known15 wz (ht.later (UP.out wz hz) (Nat.le_refl _))).mono fun e w' h => ⟨h.1, (UP.out wz hz).trans (h.2.mono (UP.out wz hz).size)⟩
  have HM := hidA hM
  have HW0 := hidA hW0
  by_cases cm : l.length ≤ 300 ∧ m.length ≤ 300 ∧ ps.length ≤ 300
  case neg =>
    have BAD : Hid (300 < l.length ∨ (¬ 300 < l.length ∧ 300 < m.length) ∨ (¬ 300 < l.length ∧ ¬ 300 < m.length ∧ 300 < ps.length)) := by unfold Hid; omega
    generalize l.length = n at *
    generalize m.length = k at *
    generalize ps.length = N at *
    clear ht ha hb hc hca hcb hcc hRl hRm cm hM hW0
    rcases BAD.out with c1 | ⟨c1, c2⟩ | ⟨c1, c2, c3⟩
    · have d1 : decide ((300 : Int) < (n : Int)) = true := decide_eq_true (by omega)
      clear BAD c1
      go_enter Tryd.func7, Tryd.ntmps7
      go_upto_region 1 with fail
      rw [← HW0.out, ← HM.out]
      go_wp2_with fail
      refine (KN.out W0 R0.out).mono ?_
      rintro e w4 ⟨rfl, b4⟩
      have B4 := hidA b4
      clear b4
      go_wp2_with fail
      go_ret
      exact ⟨rfl, B4.out⟩
    · have d1 : decide ((300 : Int) < (n : Int)) = false := decide_eq_false (by omega)
      have d2 : decide ((300 : Int) < (k : Int)) = true := decide_eq_true (by omega)
      clear BAD c1 c2
      go_enter Tryd.func7, Tryd.ntmps7
      go_upto_region 1 with fail
      rw [← HW0.out, ← HM.out]
      go_wp2_with fail
      refine (KN.out W0 R0.out).mono ?_
      rintro e w4 ⟨rfl, b4⟩
      have B4 := hidA b4
      clear b4
      go_wp2_with fail
      go_ret
      exact ⟨rfl, B4.out⟩
    · have d1 : decide ((300 : Int) < (n : Int)) = false := decide_eq_false (by omega)
      have d2 : decide ((300 : Int) < (k : Int)) = false := decide_eq_false (by omega)
      have d3 : decide ((300 : Int) < (N : Int)) = true := decide_eq_true (by omega)
      clear BAD c1 c2 c3
      go_enter Tryd.func7, Tryd.ntmps7
      go_upto_region 1 with fail
      rw [← HW0.out, ← HM.out]
      go_wp2_with fail
      refine (KN.out W0 R0.out).mono ?_
      rintro e w4 ⟨rfl, b4⟩
      have B4 := hidA b4
      clear b4
      go_wp2_with fail
      go_ret
      exact ⟨rfl, B4.out⟩
  obtain ⟨l1, m1, p1⟩ := cm
  have d1 : decide ((300 : Int) < (l.length : Int)) = false := decide_eq_false (by omega)
  have d2 : decide ((300 : Int) < (m.length : Int)) = false := decide_eq_false (by omega)
  have d3 : decide ((300 : Int) < (ps.length : Int)) = false := decide_eq_false (by omega)
  have LLEN := hidA (lns_len l m ps r l1 m1)
  have OW : Hid (∀ wz, Below W0.heap.size W0 wz → Calls Tryd.prog 20 #[.slice c ps.length cc] wz fun e w' => ∃ a8 c8, e = .returned (.slice a8 ps.length c8) ∧ EvR w'.heap.size w' a8 ps ∧ Below W0.heap.size W0 w') := fun wz hz => by
    have h0 := UP.out wz hz
    exact (own_any wz c cc ps ((hc.later h0 (Nat.le_refl _)).mono h0.size) (Nat.le_refl _) (Nat.le_trans p1 (by decide))).mono fun e w' h => by
      obtain ⟨v, e1, o, bb⟩ := h
      obtain ⟨a8, c8, e2, ev, -⟩ := o.ev
      exact ⟨a8, c8, by rw [e1, e2], ev, hz.trans (bb.mono hz.size)⟩
  have L1 : Hid (∀ wz a8 c8, Below W0.heap.size W0 wz → EvR wz.heap.size wz a8 ps → Calls Tryd.prog 28 #[.slice a l.length ca, .slice b m.length cb, .slice a8 ps.length c8, .agg #[.int .i64 r.fa, .int .i64 r.ta, .int .i64 r.fb, .int .i64 r.tb]] wz fun e w' => ∃ a9 c9, e = .returned (.tuple #[.slice a9 (Al.lns l m ps r).1.length c9, .int .i64 (Al.lns l m ps r).2]) ∧ SlS w' a9 (Al.lns l m ps r).1 ∧ Below W0.heap.size W0 w') := fun wz a8 c8 hz ev => by
    have h0 := UP.out wz hz
    exact (liness_any wz a b a8 ca cb c8 l m ps r ((ha.later h0 (Nat.le_refl _)).mono h0.size) ((hb.later h0 (Nat.le_refl _)).mono h0.size) ev (Nat.le_refl _) (ht.later h0 (Nat.le_refl _)) hRl hRm l1 m1 p1 hca hcb).mono fun e w' h => by
      obtain ⟨v, e1, o, bb⟩ := h
      obtain ⟨a9, c9, e2, s⟩ := o.sl
      exact ⟨a9, c9, by rw [e1, e2], s, hz.trans (bb.mono hz.size)⟩
  have L2 : Hid (∀ wz, Below W0.heap.size W0 wz → Calls Tryd.prog 29 #[.slice a l.length ca, .slice b m.length cb, .slice c ps.length cc, .agg #[.int .i64 r.fa, .int .i64 r.ta, .int .i64 r.fb, .int .i64 r.tb]] wz fun e w' => ∃ a9 c9, e = .returned (.tuple #[.slice a9 (Al.lns l m ps r).1.length c9, .int .i64 (Al.lns l m ps r).2]) ∧ SlS w' a9 (Al.lns l m ps r).1 ∧ Below wz.heap.size wz w') := fun wz hz => by
    have h0 := UP.out wz hz
    exact (rliness_any wz a b c ca cb cc l m ps r ((ha.later h0 (Nat.le_refl _)).mono h0.size) ((hb.later h0 (Nat.le_refl _)).mono h0.size) ((hc.later h0 (Nat.le_refl _)).mono h0.size) (Nat.le_refl _) hRl hRm l1 m1 p1).mono fun e w' h => by
      obtain ⟨v, e1, o, bb⟩ := h
      obtain ⟨a9, c9, e2, s⟩ := o.sl
      exact ⟨a9, c9, by rw [e1, e2], s, bb⟩
  have SS : Hid (∀ wz a1 c1 a2 c2, SlS wz a1 (Al.lns l m ps r).1 → SlS wz a2 (Al.lns l m ps r).1 → Calls Tryd.prog 30 #[.slice a1 (Al.lns l m ps r).1.length c1, .slice a2 (Al.lns l m ps r).1.length c2] wz fun e w' => e = .returned (.bool true) ∧ Below wz.heap.size wz w') := fun wz a1 c1 a2 c2 h1 h2 => same_anyL wz a1 a2 c1 c2 _ h1 h2 LLEN.out
  generalize (Al.lns l m ps r).2 = E at *
  generalize (Al.lns l m ps r).1 = L at *
  have q1 : (E == E) = true := beq_self_eq_true E
  generalize L.length = LN at *
  generalize l.length = N at *
  generalize m.length = O at *
  generalize ps.length = P at *
  generalize r.fa = fa at *
  generalize r.ta = ta at *
  generalize r.fb = fb at *
  generalize r.tb = tb at *
  clear ht ha hb hc hca hcb hcc hRl hRm l1 m1 p1 hM hW0 LLEN
  obtain ⟨e0, e1, e2, e3, -, -, -, -⟩ := box4 (HRB.out W0 R0.out)
  have KS : Hid (∀ X, Below W0.heap.size W0 X → X.cell? ⟨M, 0, none⟩ = some (.int .i64 fa) ∧ X.cell? ⟨M, 1, none⟩ = some (.int .i64 ta) ∧ X.cell? ⟨M, 2, none⟩ = some (.int .i64 fb) ∧ X.cell? ⟨M, 3, none⟩ = some (.int .i64 tb)) := fun X hX => by
    obtain ⟨h0, h1, h2, h3, -, -, -, -⟩ := box4 (HRB.out X hX)
    exact ⟨h0, h1, h2, h3⟩
  have s0 := KS.out W0 R0.out
  go_enter Tryd.func7, Tryd.ntmps7
  go_upto_region 1 with fail
  rw [← HW0.out, ← HM.out]
  go_upto_region 3 with fail
  go_cut [9, 10] from 27 to 43 (fun s9 s10 wx => s10 = .int .i64 E ∧ ∃ a9 c9, s9 = .slice a9 LN c9 ∧ Hid (SlS wx a9 L ∧ Below W0.heap.size W0 wx))
  case first =>
    go_region_held3 (fun X => X.cell? ⟨M, 0, none⟩ = some (.int .i64 fa) ∧ X.cell? ⟨M, 1, none⟩ = some (.int .i64 ta) ∧ X.cell? ⟨M, 2, none⟩ = some (.int .i64 fb) ∧ X.cell? ⟨M, 3, none⟩ = some (.int .i64 tb)) (first | (exact s6) | (exact s5) | (exact s0) | go_keep) (first
      | (go_at_call 20; refine Calls.mono (OW.out _ R0.out.drew) ?_; rintro e5 w5 ⟨a5, c5, rfl, ev5, bb5⟩; have B5 := hidA bb5; have E5 := hidA ev5; have s5 := KS.out w5 bb5; clear ev5 bb5)
      | (go_at_call 28; refine Calls.mono (L1.out w5 a5 c5 B5.out E5.out) ?_; rintro e6 w6 ⟨a6, c6, rfl, hs, hb6⟩; have F6 := hidA (And.intro hs hb6); have s6 := KS.out w6 hb6; clear hs hb6))
    all_goals
      go_wp2_with fail
      go_meet
      exact ⟨rfl, _, _, rfl, F6.out⟩
  case rest =>
    obtain ⟨rfl, a9, c9, rfl, F6⟩ := hcut
    obtain ⟨W6, hW6⟩ : ∃ W, W = wc := ⟨_, rfl⟩
    subst hW6
    have X6 := hidA (L2.out W6 F6.out.2)
    clear e0 e1 e2 e3 L1 L2 OW
    obtain ⟨e0, e1, e2, e3, -, -, -, -⟩ := box4 (HRB.out W6 F6.out.2)
    go_wp2_with fail
    refine X6.out.mono ?_
    rintro e w7 ⟨a7, c7, rfl, s7, b7⟩
    have B7 : Hid (Below W0.heap.size W0 w7) := F6.out.2.trans (b7.mono F6.out.2.size)
    have X7 := hidA (SS.out w7 a9 c9 a7 c7 (F6.out.1.later b7) s7)
    clear e0 e1 e2 e3 s7 b7 X6 SS
    go_wp2_with fail
    refine X7.out.mono ?_
    rintro e w8 ⟨rfl, b8⟩
    have B8 : Hid (Below W0.heap.size W0 w8) := B7.out.trans (b8.mono B7.out.size)
    clear b8 X7
    go_wp2_with fail
    refine (KN.out w8 B8.out).mono ?_
    rintro e w9 ⟨rfl, b9⟩
    have B9 := hidA b9
    clear b9
    go_wp2_with fail
    go_ret
    exact ⟨rfl, B9.out⟩
end Go.Proofs.YthglhcabdadlpaaDoor

namespace Go.Proofs.YthglhcabdadlpaaDoor
open Go.ChangeShapes Go.WideShapes Go.ChangeAt Go.RowKit
set_option maxRecDepth 100000
set_option linter.unusedVariables false
theorem own : ownKnob Tryd.prog.godebug = none := by kernel_rfl
theorem laidOut : laidOutB Tryd.prog = true := by kernel_rfl
def L3 : List (String × DataW Unit) := [("math/bits.deBruijn32tab", Rows.laid_math_bits_deBruijn32tab), ("math/bits.deBruijn64tab", Rows.laid_math_bits_deBruijn64tab), ("internal/strconv.uint64pow10", Rows.laid_internal_strconv_uint64pow10)]
theorem door3 (os : Os) (args : Array Value) : laidMetH Tryd.prog L3 ((World.doorLaid Tryd.prog 60 os).forCall (fun _ _ => 0) ⟨#[], args, []⟩).memory :=
  laidMetH_of_parts3 (fuel := 8) (laidMet_of_run' 8 (by kernel_rfl) (by kernel_rfl)) (by kernel_rfl) (by kernel_rfl)

theorem powData : (Rows.laid_internal_strconv_uint64pow10 : DataW Unit) = Lib.tabData .u64 Lib.pow10Tab := by kernel_rfl
theorem tPow : (Tryd.prog.globals[0]?).map (·.type) = some 119 := by kernel_rfl
theorem cE : Tryd.prog.cellsOf 81 = 1 := by kernel_rfl
theorem cT : Tryd.prog.cellsOf 119 = 20 := by kernel_rfl

theorem lt_of_var {P : Program} {w : World} {n : String} {g : Nat} {cs : Array Value} (hg : P.globalNamed n = some g) (hv : w.var? P n = some cs) : g < w.heap.size := by
  unfold World.var? at hv
  rw [hg] at hv
  simp only [Option.bind_some] at hv
  rcases Nat.lt_or_ge g w.heap.size with h | h
  · exact h
  · rw [Array.getElem?_eq_none h] at hv
    cases hv

theorem tab_of_head {r : List (String × DataW Unit)} {W : World} (h : laidMet Tryd.prog (("internal/strconv.uint64pow10", Rows.laid_internal_strconv_uint64pow10) :: r) W) : Tab W := by
  rw [powData] at h
  have ht := Lib.tabIs_of_head gPow tPow Tryd.underlying119 Tryd.underlying81 cE cT h
  exact ⟨ht, lt_of_var gPow ht⟩

theorem tab_of_L3 {W : World} (h : laidMetH Tryd.prog L3 W) : Tab W := by
  rw [MakeChecks.laidMetH_plain _ _ _ (by kernel_rfl)] at h
  exact tab_of_head (laidMet.tail (laidMet.tail h))
theorem bdWA {n : Int} (h : (Lit.int .i64 n).wf = true) : -9223372036854775808 ≤ n ∧ n ≤ 9223372036854775807 := by
  simp only [Lit.wf, IntKind.min, IntKind.max, IntKind.signed, IntKind.bits, Bool.and_eq_true, decide_eq_true_eq, if_true] at h
  omega
theorem short_ofA {H : Type} {P : Program} {t e : TypeId} {elems rest : List (DataW H)} (ht : P.underlying t = some (.slice e)) (hb : 0 < P.bytesOf e) (hw : ∀ q, q ∈ (DataW.slice elems rest : DataW H).weights P t → q ≤ reachBytes) : elems.length ≤ 1000000000000000 := by
  rw [DataW.weights, ht] at hw
  have h := hw _ (List.mem_cons_self ..)
  have h2 : elems.length ≤ (elems.length + rest.length) * P.bytesOf e := Nat.le_trans (Nat.le_add_right _ _) (Nat.le_mul_of_pos_right _ hb)
  have h3 : reachBytes ≤ 1000000000000000 := by decide
  omega
theorem list_of_eachA {α : Type} {Q : Nat → α → Prop} : ∀ n, (∀ i, i < n → ∃ y, Q i y) → ∃ l : List α, l.length = n ∧ ∀ i y, l[i]? = some y → Q i y
  | 0, _ => ⟨[], rfl, fun i y h => by simp at h⟩
  | n + 1, h => by
    obtain ⟨l, hl, hq⟩ := list_of_eachA n fun i hi => h i (by omega)
    obtain ⟨y, hy⟩ := h n (by omega)
    refine ⟨l ++ [y], by simp [hl], fun i z hz => ?_⟩
    by_cases c : i < n
    · rw [List.getElem?_append_left (by omega)] at hz
      exact hq i z hz
    · have hi : i < n + 1 := by
        have := (List.getElem?_eq_some_iff.1 hz).1
        simp [hl] at this
        omega
      obtain rfl : i = n := by omega
      rw [List.getElem?_append_right (by omega)] at hz
      simp [hl] at hz
      subst hz
      exact hy
theorem sln_openA {H : Type} {enc : TypeId × Value → H} {P : Program} {W : World} {t e : TypeId} {fuel c : Nat} {v : Value} {z : DataW H × List MemPlace} (ht : P.underlying t = some (.slice e)) (he : P.cellsOf e = c)
    (hf : DataW.trod enc P W 0 (fun _ => true) true fuel t [v] = some z) : v = .slice none 0 0 ∨ ∃ (x : Addr) (cap : Nat) (elems rest : List (DataW H × List MemPlace)) (n : Nat), fuel = n + 1 ∧ v = .slice (some x) elems.length cap ∧ elems.length ≤ cap ∧ z.1 = .slice (elems.map (·.1)) (rest.map (·.1)) ∧
      ∀ i, (hi : i < elems.length) → ∃ cs, cs.length = c ∧ (∀ j, (hj : j < cs.length) → W.cell? ((x.add (i * c)).add j) = some cs[j]) ∧ DataW.trod enc P W 0 (fun _ => true) true n e cs = some elems[i] := by
  rcases DataW.trod_slice ht hf with ⟨hcs, _⟩ | ⟨x, len, cp, elems, rest, n, hn, hcs, hx, _, hl, hm, hlen, hel, _, _⟩
  · simp at hcs
    exact .inl hcs
  · simp at hcs
    subst hcs
    subst hlen
    refine .inr ⟨x, cp, elems, rest, n, hn, rfl, hl, (Prod.ext_iff.1 hx).1, fun i hi => ?_⟩
    have h1 := hel i hi
    rw [List.getElem?_eq_getElem hi, he, Option.bind_eq_some_iff] at h1
    obtain ⟨cs', h2, h3⟩ := h1
    obtain ⟨_, hlen', hcell⟩ := World.cells?_some h2
    refine ⟨cs', hlen', fun j hj => ?_, h3⟩
    have := hcell j (by omega)
    rw [this]
    exact List.getElem?_eq_getElem hj
theorem addTA {b o n : Nat} : (⟨b, o, none⟩ : Addr).add n = ⟨b, o + n, none⟩ := by unfold Addr.add; split <;> simp_all
theorem cellsIt : Tryd.prog.cellsOf 3 = 1 := by kernel_rfl
theorem cellsI6 : Tryd.prog.cellsOf 2 = 1 := by kernel_rfl
theorem evA_two : Tryd.prog.cellsOf 24 = 2 := by kernel_rfl
theorem evA_byt : 0 < Tryd.prog.bytesOf 24 := of_decide_eq_true (by kernel_rfl)
theorem evA_cells {H : Type} {enc : TypeId × Value → H} {W : World} {n : Nat} {cs : List Value} {y : DataW H × List MemPlace} (hl : cs.length = 2) (h2 : DataW.trod enc Tryd.prog W 0 (fun _ => true) true n 24 cs = some y) : ∃ i : Al.Ev, cs = [.int .i64 i.1, .int .i64 i.2] ∧ (Al.R64 i.1 ∧ Al.R64 i.2) := by
  obtain ⟨xs, k, hk, hxy, _, hxl, hf⟩ := DataW.trod_struct Tryd.underlying24 h2
  match xs, hxl, cs, hl with
  | [y0, y1], _, [v0, v1], _ =>
    have g0 := hf 0 _ rfl
    have g1 := hf 1 _ rfl
    simp [cellsIt, cellsI6] at g0 g1
    obtain ⟨a0, b0, d0, wf0⟩ := DataW.trod_int Tryd.underlying3 g0
    obtain ⟨a1, b1, d1, wf1⟩ := DataW.trod_int Tryd.underlying2 g1
    simp at b0 b1
    subst b0 b1
    exact ⟨⟨a0, a1⟩, rfl, bdWA wf0, bdWA wf1⟩
theorem evA_open {H : Type} {enc : TypeId × Value → H} {W : World} (fuel : Nat) (v : Value) (z : DataW H × List MemPlace) (hf : DataW.trod enc Tryd.prog W 0 (fun _ => true) true fuel 22 [v] = some z) (hw : ∀ q, q ∈ z.1.weights Tryd.prog 22 → q ≤ reachBytes) : ∃ (a : Option Addr) (l : List Al.Ev) (c : Nat), v = .slice a l.length c ∧ EvR W.heap.size W a l ∧ l.length ≤ c ∧ l.length ≤ 1000000000000000 ∧ ∀ x ∈ l, Al.R64 x.1 ∧ Al.R64 x.2 := by
  rcases sln_openA Tryd.underlying22 evA_two hf with rfl | ⟨x, cap, elems, rest, n, hn, rfl, hcap, hz, hel⟩
  · exact ⟨none, [], 0, rfl, fun h => absurd h (Nat.lt_irrefl 0), Nat.le_refl _, by decide, fun i h => (by cases h)⟩
  · rw [hz] at hw
    have hlen := short_ofA Tryd.underlying22 evA_byt hw
    rw [List.length_map] at hlen
    have each : ∀ i, i < elems.length → ∃ y : Al.Ev, (Al.R64 y.1 ∧ Al.R64 y.2) ∧ W.cell? ((x.add (i * 2)).add 0) = some (.int .i64 y.1) ∧ W.cell? ((x.add (i * 2)).add 1) = some (.int .i64 y.2) := by
      intro i hi
      obtain ⟨cs, hcl, hcell, htr⟩ := hel i hi
      obtain ⟨y, rfl, ok⟩ := evA_cells hcl htr
      exact ⟨y, ok, hcell 0 (by simp), hcell 1 (by simp)⟩
    obtain ⟨l, hll, hQ⟩ := list_of_eachA elems.length each
    refine ⟨some x, l, cap, by rw [hll], fun h0 => ?_, by omega, by omega, fun i hi => ?_⟩
    · obtain ⟨_, _, e0, _⟩ := each 0 (by omega)
      have hsp : ∃ b o, x = ⟨b, o, none⟩ := by
        obtain ⟨bb, oo, ss⟩ := x
        have : ss = none := by simpa [Addr.add] using World.cell?_spot e0
        exact ⟨bb, oo, by rw [this]⟩
      obtain ⟨g, off, rfl⟩ := hsp
      simp only [addTA, Nat.add_zero] at hQ e0
      refine ⟨g, off, rfl, World.block_lt_of_cell? W _ e0, fun j i hj => ?_⟩
      exact (hQ j i hj).2
    · obtain ⟨j, hj⟩ := List.getElem?_of_mem hi
      exact (hQ j i hj).1
theorem arg_evA {H : Type} {enc : TypeId × Value → H} {W : World} {v : Value} {d : DataW H} {p : List MemPlace} {ts : List TypeId} {ds : List (DataW H)} {j base : Nat}
    (hv : Value.okWide Tryd.prog W .any base 22 v)
    (h : ∃ fuel, DataW.trod enc Tryd.prog W 0 (fun _ => true) true fuel 22 v.cells.toList = some (d, p))
    (hsz : (DataW.weightsEach Tryd.prog ts ds).all (· ≤ reachBytes) = true) (ht : ts[j]? = some 22) (hd : ds[j]? = some d) :
    ∃ (a : Option Addr) (l : List Al.Ev) (c : Nat), v = .slice a l.length c ∧ EvR W.heap.size W a l ∧ l.length ≤ c ∧ l.length ≤ 1000000000000000 ∧ ∀ x ∈ l, Al.R64 x.1 ∧ Al.R64 x.2 := by
  obtain ⟨a, len, cap, rfl⟩ := okWide_slice Tryd.underlying22 hv
  obtain ⟨fuel, hf⟩ := h
  have key : ∀ q, q ∈ d.weights Tryd.prog 22 → q ≤ reachBytes := fun q hq => of_decide_eq_true (List.all_eq_true.1 hsz _ (DataW.weights_mem_each ht hd _ hq))
  exact evA_open fuel _ (d, p) (by simpa [Value.cells] using hf) key
/-- An argument of two numbers. -/
theorem one_evA {H : Type} {enc : TypeId × Value → H} {W : World} {v : Value} {d : DataW H} {p : List MemPlace} {base : Nat}
    (hv : Value.okWide Tryd.prog W .any base 24 v)
    (h : ∃ fuel, DataW.trod enc Tryd.prog W 0 (fun _ => true) true fuel 24 v.cells.toList = some (d, p)) :
    ∃ x : Al.Ev, v = .agg #[.int .i64 x.1, .int .i64 x.2] ∧ Al.R64 x.1 ∧ Al.R64 x.2 := by
  obtain ⟨cs, rfl, hc⟩ := okWide_struct Tryd.underlying24 hv
  rw [evA_two] at hc
  obtain ⟨fuel, hf⟩ := h
  have e0 : (Value.agg cs).cells.toList = cs.toList := by simp [Value.cells]
  rw [e0] at hf
  obtain ⟨i, hcs, ok⟩ := evA_cells (by simpa using hc) hf
  refine ⟨i, ?_, ok⟩
  have : cs = #[.int .i64 i.1, .int .i64 i.2] := by
    cases cs with | mk l => simp at hcs; rw [hcs]
  rw [this]
theorem rpA_two : Tryd.prog.cellsOf 66 = 2 := by kernel_rfl
theorem rpA_byt : 0 < Tryd.prog.bytesOf 66 := of_decide_eq_true (by kernel_rfl)
theorem rpA_cells {H : Type} {enc : TypeId × Value → H} {W : World} {n : Nat} {cs : List Value} {y : DataW H × List MemPlace} (hl : cs.length = 2) (h2 : DataW.trod enc Tryd.prog W 0 (fun _ => true) true n 66 cs = some y) : ∃ i : Al.Ev, cs = [.int .i64 i.1, .int .i64 i.2] ∧ (Al.R64 i.1 ∧ Al.R64 i.2) := by
  obtain ⟨xs, k, hk, hxy, _, hxl, hf⟩ := DataW.trod_struct Tryd.underlying66 h2
  match xs, hxl, cs, hl with
  | [y0, y1], _, [v0, v1], _ =>
    have g0 := hf 0 _ rfl
    have g1 := hf 1 _ rfl
    simp [cellsIt, cellsIt] at g0 g1
    obtain ⟨a0, b0, d0, wf0⟩ := DataW.trod_int Tryd.underlying3 g0
    obtain ⟨a1, b1, d1, wf1⟩ := DataW.trod_int Tryd.underlying3 g1
    simp at b0 b1
    subst b0 b1
    exact ⟨⟨a0, a1⟩, rfl, bdWA wf0, bdWA wf1⟩
theorem rpA_open {H : Type} {enc : TypeId × Value → H} {W : World} (fuel : Nat) (v : Value) (z : DataW H × List MemPlace) (hf : DataW.trod enc Tryd.prog W 0 (fun _ => true) true fuel 33 [v] = some z) (hw : ∀ q, q ∈ z.1.weights Tryd.prog 33 → q ≤ reachBytes) : ∃ (a : Option Addr) (l : List Al.Ev) (c : Nat), v = .slice a l.length c ∧ EvR W.heap.size W a l ∧ l.length ≤ c ∧ l.length ≤ 1000000000000000 ∧ ∀ x ∈ l, Al.R64 x.1 ∧ Al.R64 x.2 := by
  rcases sln_openA Tryd.underlying33 rpA_two hf with rfl | ⟨x, cap, elems, rest, n, hn, rfl, hcap, hz, hel⟩
  · exact ⟨none, [], 0, rfl, fun h => absurd h (Nat.lt_irrefl 0), Nat.le_refl _, by decide, fun i h => (by cases h)⟩
  · rw [hz] at hw
    have hlen := short_ofA Tryd.underlying33 rpA_byt hw
    rw [List.length_map] at hlen
    have each : ∀ i, i < elems.length → ∃ y : Al.Ev, (Al.R64 y.1 ∧ Al.R64 y.2) ∧ W.cell? ((x.add (i * 2)).add 0) = some (.int .i64 y.1) ∧ W.cell? ((x.add (i * 2)).add 1) = some (.int .i64 y.2) := by
      intro i hi
      obtain ⟨cs, hcl, hcell, htr⟩ := hel i hi
      obtain ⟨y, rfl, ok⟩ := rpA_cells hcl htr
      exact ⟨y, ok, hcell 0 (by simp), hcell 1 (by simp)⟩
    obtain ⟨l, hll, hQ⟩ := list_of_eachA elems.length each
    refine ⟨some x, l, cap, by rw [hll], fun h0 => ?_, by omega, by omega, fun i hi => ?_⟩
    · obtain ⟨_, _, e0, _⟩ := each 0 (by omega)
      have hsp : ∃ b o, x = ⟨b, o, none⟩ := by
        obtain ⟨bb, oo, ss⟩ := x
        have : ss = none := by simpa [Addr.add] using World.cell?_spot e0
        exact ⟨bb, oo, by rw [this]⟩
      obtain ⟨g, off, rfl⟩ := hsp
      simp only [addTA, Nat.add_zero] at hQ e0
      refine ⟨g, off, rfl, World.block_lt_of_cell? W _ e0, fun j i hj => ?_⟩
      exact (hQ j i hj).2
    · obtain ⟨j, hj⟩ := List.getElem?_of_mem hi
      exact (hQ j i hj).1
theorem arg_rpA {H : Type} {enc : TypeId × Value → H} {W : World} {v : Value} {d : DataW H} {p : List MemPlace} {ts : List TypeId} {ds : List (DataW H)} {j base : Nat}
    (hv : Value.okWide Tryd.prog W .any base 33 v)
    (h : ∃ fuel, DataW.trod enc Tryd.prog W 0 (fun _ => true) true fuel 33 v.cells.toList = some (d, p))
    (hsz : (DataW.weightsEach Tryd.prog ts ds).all (· ≤ reachBytes) = true) (ht : ts[j]? = some 33) (hd : ds[j]? = some d) :
    ∃ (a : Option Addr) (l : List Al.Ev) (c : Nat), v = .slice a l.length c ∧ EvR W.heap.size W a l ∧ l.length ≤ c ∧ l.length ≤ 1000000000000000 ∧ ∀ x ∈ l, Al.R64 x.1 ∧ Al.R64 x.2 := by
  obtain ⟨a, len, cap, rfl⟩ := okWide_slice Tryd.underlying33 hv
  obtain ⟨fuel, hf⟩ := h
  have key : ∀ q, q ∈ d.weights Tryd.prog 33 → q ≤ reachBytes := fun q hq => of_decide_eq_true (List.all_eq_true.1 hsz _ (DataW.weights_mem_each ht hd _ hq))
  exact rpA_open fuel _ (d, p) (by simpa [Value.cells] using hf) key
/-- An argument of two numbers. -/
theorem one_rpA {H : Type} {enc : TypeId × Value → H} {W : World} {v : Value} {d : DataW H} {p : List MemPlace} {base : Nat}
    (hv : Value.okWide Tryd.prog W .any base 66 v)
    (h : ∃ fuel, DataW.trod enc Tryd.prog W 0 (fun _ => true) true fuel 66 v.cells.toList = some (d, p)) :
    ∃ x : Al.Ev, v = .agg #[.int .i64 x.1, .int .i64 x.2] ∧ Al.R64 x.1 ∧ Al.R64 x.2 := by
  obtain ⟨cs, rfl, hc⟩ := okWide_struct Tryd.underlying66 hv
  rw [rpA_two] at hc
  obtain ⟨fuel, hf⟩ := h
  have e0 : (Value.agg cs).cells.toList = cs.toList := by simp [Value.cells]
  rw [e0] at hf
  obtain ⟨i, hcs, ok⟩ := rpA_cells (by simpa using hc) hf
  refine ⟨i, ?_, ok⟩
  have : cs = #[.int .i64 i.1, .int .i64 i.2] := by
    cases cs with | mk l => simp at hcs; rw [hcs]
  rw [this]
end Go.Proofs.YthglhcabdadlpaaDoor
