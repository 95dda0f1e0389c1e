/- Layer 15: the document's Fits; AlignFits. -/
import Derived.Test.YtpfkoglmfbaadaaDoorAlX
import Derived.Test.YtpfkoglmfbaadaaDoorAlQ
namespace Go.Proofs.YtpfkoglmfbaadaaDoor
open Go.RowKit
set_option linter.unusedVariables false
set_option linter.unusedSimpArgs false
set_option maxRecDepth 100000
set_option maxHeartbeats 8000000 in
theorem rfits_any (w : World) (a b c : Option Addr) (ca cb cc : Nat) (l m ps : List Al.Ev) {B : Nat} (ha : EvR B w a l) (hb : EvR B w b m) (hc : EvR B w c ps) (hB : B ≤ w.heap.size) (hl : ps.length ≤ 100000) : Calls Tryd.prog 21 #[.slice a l.length ca, .slice b m.length cb, .slice c ps.length cc] w fun e w' => e = .returned (.bool (Al.fits l m ps)) ∧ Below w.heap.size w w' := by
  have HR := hidA (rrises_any w c cc ps l.length m.length hc hB hl)
  have HA := hidA ha
  have HB := hidA hb
  have HC := hidA hc
  have HBB := hidA hB
  have HRA : Hid (Al.rise l.length m.length (-1, -1) ps = true → ∀ k, k < ps.length → ∃ (i j : Nat) (x y : Al.Ev), ps[k]? = some ((i : Int), (j : Int)) ∧ i < l.length ∧ j < m.length ∧ l[i]? = some x ∧ m[j]? = some y) := fun h k hk => rise_at h hk
  obtain ⟨T, hT⟩ : ∃ T, T = Al.fits l m ps := ⟨_, rfl⟩
  have HT := hidA hT
  unfold Al.fits at HT
  rw [← hT]
  obtain ⟨R, hR⟩ : ∃ R, R = Al.rise l.length m.length (-1, -1) ps := ⟨_, rfl⟩
  rw [← hR] at HR HT HRA
  obtain ⟨n, hn⟩ : ∃ n, n = l.length := ⟨_, rfl⟩
  obtain ⟨k2, hk2⟩ : ∃ k2, k2 = m.length := ⟨_, rfl⟩
  obtain ⟨N, hN⟩ : ∃ N, N = ps.length := ⟨_, rfl⟩
  have HL : Hid (n = l.length ∧ k2 = m.length ∧ N = ps.length ∧ N ≤ 100000) := ⟨hn, hk2, hN, by rw [hN]; exact hl⟩
  rw [← hn, ← hk2, ← hN] at HRA
  rw [← hn, ← hk2, ← hN] at HR
  rw [← hn, ← hk2, ← hN]
  clear ha hb hc hB hl hT hR hn hk2 hN
  cases R
  · obtain rfl : T = false := HT.out
    go_enter Tryd.func21, Tryd.ntmps21
    go_wp2_with fail
    refine HR.out.mono ?_
    rintro e w1 ⟨rfl, b1⟩
    have B1 := hidA b1
    clear b1
    go_wp2_with fail
    go_ret
    exact ⟨rfl, B1.out⟩
  · have HRB := hidA (HRA.out rfl)
    have HTT : Hid (T = Al.alike l m (ps.drop 0)) := HT.out
    clear HRA HT
    go_enter Tryd.func21, Tryd.ntmps21
    go_wp2_with fail
    refine HR.out.mono ?_
    rintro e w1 ⟨rfl, b1⟩
    have B1 := hidA b1
    clear b1 HR
    go_wp2_with fail
    go_loopg [7] N (fun gk y wr => ∃ k : Nat, k + gk = N ∧ y = .int .i64 k ∧ Hid (Below w.heap.size w wr ∧ T = Al.alike l m (ps.drop k)))
    case atStart => exact ⟨0, by omega, rfl, B1.out, HTT.out⟩
    case round =>
      obtain ⟨k, hk, rfl, RR⟩ := hrel
      rcases gk with _ | gk
      · obtain rfl : N = k := by omega
        have dk : decide ((N : Int) < (N : Int)) = false := decide_eq_false (Int.lt_irrefl _)
        have E : Hid (T = true) := by unfold Hid; rw [RR.out.2, List.drop_eq_nil_of_le (by rw [HL.out.2.2.1]; exact Nat.le_refl _)]; rfl
        obtain rfl : T = true := E.out
        go_wp2_with fail
        go_ret
        exact ⟨rfl, RR.out.1⟩
      · obtain ⟨k6, dk, dk2, hkN, hk3⟩ := mch_k hk
        obtain ⟨i, j, x, y, hp, hi, hj, hx, hy⟩ := HRB.out k hkN
        have AS := hidA (alike_step hp hx hy)
        obtain ⟨ga, oa, rfl, hga, cs⟩ := (HA.out.later RR.out.1 HBB.out) (by rw [← HL.out.1]; exact Nat.lt_of_le_of_lt (Nat.zero_le i) hi)
        obtain ⟨gb, ob, rfl, hgb, cs2⟩ := (HB.out.later RR.out.1 HBB.out) (by rw [← HL.out.2.1]; exact Nat.lt_of_le_of_lt (Nat.zero_le j) hj)
        obtain ⟨gc, oc, rfl, hgc, cs3⟩ := (HC.out.later RR.out.1 HBB.out) (by rw [← HL.out.2.2.1]; exact Nat.lt_of_le_of_lt (Nat.zero_le k) hkN)
        have p0 : wr.cell? ⟨gc, oc + k * 2, none⟩ = some (.int .i64 (i : Int)) := (cs3 k _ hp).1
        have p1 : wr.cell? ⟨gc, oc + k * 2 + 1, none⟩ = some (.int .i64 (j : Int)) := (cs3 k _ hp).2
        have a0 : wr.cell? ⟨ga, oa + i * 2, none⟩ = some (.int .i64 x.1) := (cs i x hx).1
        have a1 : wr.cell? ⟨ga, oa + i * 2 + 1, none⟩ = some (.int .i64 x.2) := (cs i x hx).2
        have b0 : wr.cell? ⟨gb, ob + j * 2, none⟩ = some (.int .i64 y.1) := (cs2 j y hy).1
        have b1 : wr.cell? ⟨gb, ob + j * 2 + 1, none⟩ = some (.int .i64 y.2) := (cs2 j y hy).2
        have WK := hidA (wrK k (Nat.le_trans (Nat.le_of_lt hkN) (Nat.le_trans HL.out.2.2.2 (by decide))))
        obtain ⟨i1, i2, i3⟩ := ix_nums hi
        obtain ⟨j1, j2, j3⟩ := ix_nums hj
        have BDR : Hid (∀ r, Below w.heap.size w (wr.drewN r)) := fun r => below_drA RR.out.1 r
        have TT : Hid (T = (decide (x = y) && Al.alike l m (ps.drop (k + 1)))) := RR.out.2.trans AS.out
        clear cs cs2 cs3 hp hx hy RR AS
        by_cases hxy : x = y
        · subst hxy
          have ST : Hid (T = Al.alike l m (ps.drop (k + 1))) := by have h := TT.out; rw [decide_eq_true rfl, Bool.true_and] at h; exact h
          clear TT HTT
          generalize x.1 = x1 at a0 b0
          generalize x.2 = x2 at a1 b1
          have q1 : (x1 == x1) = true := beq_self_eq_true x1
          have q2 : (x2 == x2) = true := beq_self_eq_true x2
          go_upto_region 6 with fail
          go_quiet (fail)
          have BQ := hidA (BDR.out nq)
          generalize wr.drewN nq = W5 at BQ ⊢
          clear a0 a1 b0 b1 p0 p1
          go_wp2_with fail
          go_roundg gk
          case measure => omega
          case rel => exact ⟨k + 1, hk3, congrArg _ WK.out, BQ.out, ST.out⟩
        · have E : Hid (T = false) := by have h := TT.out; rw [decide_eq_false hxy, Bool.false_and] at h; exact h
          clear TT HTT
          obtain rfl : T = false := E.out
          have qq := ev_ne hxy
          clear hxy
          generalize x.1 = x1 at a0 qq
          generalize x.2 = x2 at a1 qq
          generalize y.1 = y1 at b0 qq
          generalize y.2 = y2 at b1 qq
          rcases qq with q1 | ⟨q1, q2⟩
          all_goals
            go_upto_region 6 with fail
            go_quiet (fail)
            have BQ := hidA (BDR.out nq)
            generalize wr.drewN nq = W5 at BQ ⊢
            clear a0 a1 b0 b1 p0 p1
            go_wp2_with fail
            go_ret
            exact ⟨rfl, BQ.out⟩
set_option maxHeartbeats 8000000 in
theorem fitsL_walk (w : World) (ht : Tab w) (a : Option Addr) (l : List Al.Ev) (ca : Nat) (ha : EvR w.heap.size w a l) (hca : l.length ≤ ca) (_ : l.length ≤ 1000000000000000) (_ : ∀ x ∈ l, Al.R64 x.1 ∧ Al.R64 x.2) (b : Option Addr) (m : List Al.Ev) (cb : Nat) (hb : EvR w.heap.size w b m) (hcb : m.length ≤ cb) (_ : m.length ≤ 1000000000000000) (_ : ∀ x ∈ m, Al.R64 x.1 ∧ Al.R64 x.2) (c : Option Addr) (ps : List Al.Ev) (cc : Nat) (hc : EvR w.heap.size w c ps) (hcc : ps.length ≤ cc) (_ : ps.length ≤ 1000000000000000) (_ : ∀ x ∈ ps, Al.R64 x.1 ∧ Al.R64 x.2) :
    Calls Tryd.prog 5 #[.slice a l.length ca, .slice b m.length cb, .slice c ps.length cc] w fun e w' => e = .returned (.bool true) ∧ Below w.heap.size w w' := by
  have KN : Hid (∀ wz, Below w.heap.size w wz → Calls Tryd.prog 9 #[] wz fun e w' => e = .returned (.bool true) ∧ Below w.heap.size w w') := fun wz hz => (known15 wz (ht.later hz (Nat.le_refl _))).mono fun e w' h => ⟨h.1, hz.trans (h.2.mono hz.size)⟩
  have BIG : Hid (Below w.heap.size w w) := Below.refl _ _
  have OW : Hid (ps.length ≤ 1000 → Calls Tryd.prog 20 #[.slice c ps.length cc] w fun e w' => ∃ a8 c8, e = .returned (.slice a8 ps.length c8) ∧ EvR w'.heap.size w' a8 ps ∧ Below w.heap.size w w') := fun h => (own_any w c cc ps hc (Nat.le_refl _) (Nat.le_trans h (by decide))).mono fun e w' h => by
    obtain ⟨v, e1, o, bb⟩ := h
    obtain ⟨a8, c8, e2, ev, -⟩ := o.ev
    exact ⟨a8, c8, by rw [e1, e2], ev, bb⟩
  have F1 : Hid (ps.length ≤ 1000 → ∀ wz a8 c8, EvR wz.heap.size wz a8 ps → Below w.heap.size w wz → Calls Tryd.prog 19 #[.slice a l.length ca, .slice b m.length cb, .slice a8 ps.length c8] wz fun e w' => e = .returned (.bool (Al.fits l m ps)) ∧ Below w.heap.size w w') := fun h wz a8 c8 ev hz => (fits_any wz a b a8 ca cb c8 l m ps ((ha.later hz (Nat.le_refl _)).mono hz.size) ((hb.later hz (Nat.le_refl _)).mono hz.size) ev (Nat.le_refl _) (Nat.le_trans h (by decide))).mono fun e w' h => ⟨h.1, hz.trans (h.2.mono hz.size)⟩
  have F2 : Hid (ps.length ≤ 1000 → ∀ wz, Below w.heap.size w wz → Calls Tryd.prog 21 #[.slice a l.length ca, .slice b m.length cb, .slice c ps.length cc] wz fun e w' => e = .returned (.bool (Al.fits l m ps)) ∧ Below w.heap.size w w') := fun h wz hz => (rfits_any wz a b c ca cb cc l m ps (ha.later hz (Nat.le_refl _)) (hb.later hz (Nat.le_refl _)) (hc.later hz (Nat.le_refl _)) hz.size (Nat.le_trans h (by decide))).mono fun e w' h => ⟨h.1, hz.trans (h.2.mono hz.size)⟩
  generalize Al.fits l m ps = T at *
  clear ht ha hb hca hcb hc hcc
  generalize l.length = n at *
  generalize m.length = k at *
  generalize ps.length = N at *
  by_cases c1 : 1000 < n
  · have d1 : decide ((1000 : Int) < (n : Int)) = true := decide_eq_true (by omega)
    clear c1 OW F1 F2
    go_enter Tryd.func5, Tryd.ntmps5
    go_wp2_with fail
    refine (KN.out w BIG.out).mono ?_
    rintro e w4 ⟨rfl, b4⟩
    have B4 := hidA b4
    clear b4
    go_wp2_with fail
    go_ret
    exact ⟨rfl, B4.out⟩
  have d1 : decide ((1000 : Int) < (n : Int)) = false := decide_eq_false (by omega)
  by_cases c2 : 1000 < k
  · have d2 : decide ((1000 : Int) < (k : Int)) = true := decide_eq_true (by omega)
    clear c1 c2 OW F1 F2
    go_enter Tryd.func5, Tryd.ntmps5
    go_wp2_with fail
    refine (KN.out w BIG.out).mono ?_
    rintro e w4 ⟨rfl, b4⟩
    have B4 := hidA b4
    clear b4
    go_wp2_with fail
    go_ret
    exact ⟨rfl, B4.out⟩
  have d2 : decide ((1000 : Int) < (k : Int)) = false := decide_eq_false (by omega)
  by_cases c3 : 1000 < N
  · have d3 : decide ((1000 : Int) < (N : Int)) = true := decide_eq_true (by omega)
    clear c1 c2 c3 OW F1 F2
    go_enter Tryd.func5, Tryd.ntmps5
    go_wp2_with fail
    refine (KN.out w BIG.out).mono ?_
    rintro e w4 ⟨rfl, b4⟩
    have B4 := hidA b4
    clear b4
    go_wp2_with fail
    go_ret
    exact ⟨rfl, B4.out⟩
  have d3 : decide ((1000 : Int) < (N : Int)) = false := decide_eq_false (by omega)
  have OW' := hidA (OW.out (by omega))
  have F1' := hidA (F1.out (by omega))
  have F2' := hidA (F2.out (by omega))
  clear c1 c2 c3 OW F1 F2
  have q : (T == T) = true := beq_self_eq_true T
  go_enter Tryd.func5, Tryd.ntmps5
  go_wp2_with fail
  refine OW'.out.mono ?_
  rintro e w1 ⟨a8, c8, rfl, ev, b1⟩
  have FF := hidA (F1'.out w1 a8 c8 ev b1)
  clear ev b1 OW' F1'
  go_wp2_with fail
  refine FF.out.mono ?_
  rintro e w2 ⟨rfl, b2⟩
  have FG := hidA (F2'.out w2 b2)
  clear b2 FF F2'
  go_wp2_with fail
  refine FG.out.mono ?_
  rintro e w3 ⟨rfl, b3⟩
  have B3 := hidA b3
  clear b3 FG
  go_wp2_with fail
  refine (KN.out w3 B3.out).mono ?_
  rintro e w4 ⟨rfl, b4⟩
  have B4 := hidA b4
  clear b4
  go_wp2_with fail
  go_ret
  exact ⟨rfl, B4.out⟩
end Go.Proofs.YtpfkoglmfbaadaaDoor
