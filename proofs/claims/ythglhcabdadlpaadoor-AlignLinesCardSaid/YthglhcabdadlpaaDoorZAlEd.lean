/- Layer 15: the document's Fits; AlignFits. -/
/- Layer 15: the document's Parting, Text. -/
/- Layer 15: the document's Text. -/
/- Layer 15: the document's Lines, where something is wrong; what its walk wants. -/
/- Layer 15: the document's Sizes. -/
/- Layer 15: the document's Sizes, walked. -/
/- Layer 15: the document's least matching, plain. -/
/- Layer 15: the document's least matching, walked. -/
import Derived.Test.YthglhcabdadlpaaDoorZAlX
import Derived.Test.YthglhcabdadlpaaDoorZAlGf
import Derived.Test.YthglhcabdadlpaaDoorZAlGg
import Derived.Test.YthglhcabdadlpaaDoorZAlJ
namespace Go.Proofs.YthglhcabdadlpaaDoor
open Go.RowKit
set_option linter.unusedVariables false
set_option linter.unusedSimpArgs false
set_option maxRecDepth 100000
set_option maxHeartbeats 8000000 in
theorem rfits_any (w : World) (a b c : Option Addr) (ca cb cc : Nat) (l m ps : List Al.Ev) {B : Nat} (ha : EvR B w a l) (hb : EvR B w b m) (hc : EvR B w c ps) (hB : B ≤ w.heap.size) (hl : ps.length ≤ 100000) : Calls Tryd.prog 21 #[.slice a l.length ca, .slice b m.length cb, .slice c ps.length cc] w fun e w' => e = .returned (.bool (Al.fits l m ps)) ∧ Below w.heap.size w w' := by
  have HR := hidA (rrises_any w c cc ps l.length m.length hc hB hl)
  have HA := hidA ha
  have HB := hidA hb
  have HC := hidA hc
  have HBB := hidA hB
  have HRA : Hid (Al.rise l.length m.length (-1, -1) ps = true → ∀ k, k < ps.length → ∃ (i j : Nat) (x y : Al.Ev), ps[k]? = some ((i : Int), (j : Int)) ∧ i < l.length ∧ j < m.length ∧ l[i]? = some x ∧ m[j]? = some y) := fun h k hk => rise_at h hk
  obtain ⟨T, hT⟩ : ∃ T, T = Al.fits l m ps := ⟨_, rfl⟩
  have HT := hidA hT
  unfold Al.fits at HT
  rw [← hT]
  obtain ⟨R, hR⟩ : ∃ R, R = Al.rise l.length m.length (-1, -1) ps := ⟨_, rfl⟩
  rw [← hR] at HR HT HRA
  obtain ⟨n, hn⟩ : ∃ n, n = l.length := ⟨_, rfl⟩
  obtain ⟨k2, hk2⟩ : ∃ k2, k2 = m.length := ⟨_, rfl⟩
  obtain ⟨N, hN⟩ : ∃ N, N = ps.length := ⟨_, rfl⟩
  have HL : Hid (n = l.length ∧ k2 = m.length ∧ N = ps.length ∧ N ≤ 100000) := ⟨hn, hk2, hN, by rw [hN]; exact hl⟩
  rw [← hn, ← hk2, ← hN] at HRA
  rw [← hn, ← hk2, ← hN] at HR
  rw [← hn, ← hk2, ← hN]
  clear ha hb hc hB hl hT hR hn hk2 hN
  cases R
  · obtain rfl : T = false := HT.out
    go_enter Tryd.func21, Tryd.ntmps21
    go_wp2_with fail
    refine HR.out.mono ?_
    rintro e w1 ⟨rfl, b1⟩
    have B1 := hidA b1
    clear b1
    go_wp2_with fail
    go_ret
    exact ⟨rfl, B1.out⟩
  · have HRB := hidA (HRA.out rfl)
    have HTT : Hid (T = Al.alike l m (ps.drop 0)) := HT.out
    clear HRA HT
    go_enter Tryd.func21, Tryd.ntmps21
    go_wp2_with fail
    refine HR.out.mono ?_
    rintro e w1 ⟨rfl, b1⟩
    have B1 := hidA b1
    clear b1 HR
    go_wp2_with fail
    go_loopg [7] N (fun gk y wr => ∃ k : Nat, k + gk = N ∧ y = .int .i64 k ∧ Hid (Below w.heap.size w wr ∧ T = Al.alike l m (ps.drop k)))
    case atStart => exact ⟨0, by omega, rfl, B1.out, HTT.out⟩
    case round =>
      obtain ⟨k, hk, rfl, RR⟩ := hrel
      rcases gk with _ | gk
      · obtain rfl : N = k := by omega
        have dk : decide ((N : Int) < (N : Int)) = false := decide_eq_false (Int.lt_irrefl _)
        have E : Hid (T = true) := by unfold Hid; rw [RR.out.2, List.drop_eq_nil_of_le (by rw [HL.out.2.2.1]; exact Nat.le_refl _)]; rfl
        obtain rfl : T = true := E.out
        go_wp2_with fail
        go_ret
        exact ⟨rfl, RR.out.1⟩
      · obtain ⟨k6, dk, dk2, hkN, hk3⟩ := mch_k hk
        obtain ⟨i, j, x, y, hp, hi, hj, hx, hy⟩ := HRB.out k hkN
        have AS := hidA (alike_step hp hx hy)
        obtain ⟨ga, oa, rfl, hga, cs⟩ := (HA.out.later RR.out.1 HBB.out) (by rw [← HL.out.1]; exact Nat.lt_of_le_of_lt (Nat.zero_le i) hi)
        obtain ⟨gb, ob, rfl, hgb, cs2⟩ := (HB.out.later RR.out.1 HBB.out) (by rw [← HL.out.2.1]; exact Nat.lt_of_le_of_lt (Nat.zero_le j) hj)
        obtain ⟨gc, oc, rfl, hgc, cs3⟩ := (HC.out.later RR.out.1 HBB.out) (by rw [← HL.out.2.2.1]; exact Nat.lt_of_le_of_lt (Nat.zero_le k) hkN)
        have p0 : wr.cell? ⟨gc, oc + k * 2, none⟩ = some (.int .i64 (i : Int)) := (cs3 k _ hp).1
        have p1 : wr.cell? ⟨gc, oc + k * 2 + 1, none⟩ = some (.int .i64 (j : Int)) := (cs3 k _ hp).2
        have a0 : wr.cell? ⟨ga, oa + i * 2, none⟩ = some (.int .i64 x.1) := (cs i x hx).1
        have a1 : wr.cell? ⟨ga, oa + i * 2 + 1, none⟩ = some (.int .i64 x.2) := (cs i x hx).2
        have b0 : wr.cell? ⟨gb, ob + j * 2, none⟩ = some (.int .i64 y.1) := (cs2 j y hy).1
        have b1 : wr.cell? ⟨gb, ob + j * 2 + 1, none⟩ = some (.int .i64 y.2) := (cs2 j y hy).2
        have WK := hidA (wrK k (Nat.le_trans (Nat.le_of_lt hkN) (Nat.le_trans HL.out.2.2.2 (by decide))))
        obtain ⟨i1, i2, i3⟩ := ix_nums hi
        obtain ⟨j1, j2, j3⟩ := ix_nums hj
        have BDR : Hid (∀ r, Below w.heap.size w (wr.drewN r)) := fun r => below_drA RR.out.1 r
        have TT : Hid (T = (decide (x = y) && Al.alike l m (ps.drop (k + 1)))) := RR.out.2.trans AS.out
        clear cs cs2 cs3 hp hx hy RR AS
        by_cases hxy : x = y
        · subst hxy
          have ST : Hid (T = Al.alike l m (ps.drop (k + 1))) := by have h := TT.out; rw [decide_eq_true rfl, Bool.true_and] at h; exact h
          clear TT HTT
          generalize x.1 = x1 at a0 b0
          generalize x.2 = x2 at a1 b1
          have q1 : (x1 == x1) = true := beq_self_eq_true x1
          have q2 : (x2 == x2) = true := beq_self_eq_true x2
          go_upto_region 6 with fail
          go_quiet (fail)
          have BQ := hidA (BDR.out nq)
          generalize wr.drewN nq = W5 at BQ ⊢
          clear a0 a1 b0 b1 p0 p1
          go_wp2_with fail
          go_roundg gk
          case measure => omega
          case rel => exact ⟨k + 1, hk3, congrArg _ WK.out, BQ.out, ST.out⟩
        · have E : Hid (T = false) := by have h := TT.out; rw [decide_eq_false hxy, Bool.false_and] at h; exact h
          clear TT HTT
          obtain rfl : T = false := E.out
          have qq := ev_ne hxy
          clear hxy
          generalize x.1 = x1 at a0 qq
          generalize x.2 = x2 at a1 qq
          generalize y.1 = y1 at b0 qq
          generalize y.2 = y2 at b1 qq
          rcases qq with q1 | ⟨q1, q2⟩
          all_goals
            go_upto_region 6 with fail
            go_quiet (fail)
            have BQ := hidA (BDR.out nq)
            generalize wr.drewN nq = W5 at BQ ⊢
            clear a0 a1 b0 b1 p0 p1
            go_wp2_with fail
            go_ret
            exact ⟨rfl, BQ.out⟩
set_option maxHeartbeats 8000000 in
theorem fitsL_walk (w : World) (ht : Tab w) (a : Option Addr) (l : List Al.Ev) (ca : Nat) (ha : EvR w.heap.size w a l) (hca : l.length ≤ ca) (_ : l.length ≤ 1000000000000000) (_ : ∀ x ∈ l, Al.R64 x.1 ∧ Al.R64 x.2) (b : Option Addr) (m : List Al.Ev) (cb : Nat) (hb : EvR w.heap.size w b m) (hcb : m.length ≤ cb) (_ : m.length ≤ 1000000000000000) (_ : ∀ x ∈ m, Al.R64 x.1 ∧ Al.R64 x.2) (c : Option Addr) (ps : List Al.Ev) (cc : Nat) (hc : EvR w.heap.size w c ps) (hcc : ps.length ≤ cc) (_ : ps.length ≤ 1000000000000000) (_ : ∀ x ∈ ps, Al.R64 x.1 ∧ Al.R64 x.2) :
    Calls Tryd.prog 5 #[.slice a l.length ca, .slice b m.length cb, .slice c ps.length cc] w fun e w' => e = .returned (.bool true) ∧ Below w.heap.size w w' := by
  have KN : Hid (∀ wz, Below w.heap.size w wz → Calls Tryd.prog 9 #[] wz fun e w' => e = .returned (.bool true) ∧ Below w.heap.size w w') := fun wz hz => (known15 wz (ht.later hz (Nat.le_refl _))).mono fun e w' h => ⟨h.1, hz.trans (h.2.mono hz.size)⟩
  have BIG : Hid (Below w.heap.size w w) := Below.refl _ _
  have OW : Hid (ps.length ≤ 1000 → Calls Tryd.prog 20 #[.slice c ps.length cc] w fun e w' => ∃ a8 c8, e = .returned (.slice a8 ps.length c8) ∧ EvR w'.heap.size w' a8 ps ∧ Below w.heap.size w w') := fun h => (own_any w c cc ps hc (Nat.le_refl _) (Nat.le_trans h (by decide))).mono fun e w' h => by
    obtain ⟨v, e1, o, bb⟩ := h
    obtain ⟨a8, c8, e2, ev, -⟩ := o.ev
    exact ⟨a8, c8, by rw [e1, e2], ev, bb⟩
  have F1 : Hid (ps.length ≤ 1000 → ∀ wz a8 c8, EvR wz.heap.size wz a8 ps → Below w.heap.size w wz → Calls Tryd.prog 19 #[.slice a l.length ca, .slice b m.length cb, .slice a8 ps.length c8] wz fun e w' => e = .returned (.bool (Al.fits l m ps)) ∧ Below w.heap.size w w') := fun h wz a8 c8 ev hz => (fits_any wz a b a8 ca cb c8 l m ps ((ha.later hz (Nat.le_refl _)).mono hz.size) ((hb.later hz (Nat.le_refl _)).mono hz.size) ev (Nat.le_refl _) (Nat.le_trans h (by decide))).mono fun e w' h => ⟨h.1, hz.trans (h.2.mono hz.size)⟩
  have F2 : Hid (ps.length ≤ 1000 → ∀ wz, Below w.heap.size w wz → Calls Tryd.prog 21 #[.slice a l.length ca, .slice b m.length cb, .slice c ps.length cc] wz fun e w' => e = .returned (.bool (Al.fits l m ps)) ∧ Below w.heap.size w w') := fun h wz hz => (rfits_any wz a b c ca cb cc l m ps (ha.later hz (Nat.le_refl _)) (hb.later hz (Nat.le_refl _)) (hc.later hz (Nat.le_refl _)) hz.size (Nat.le_trans h (by decide))).mono fun e w' h => ⟨h.1, hz.trans (h.2.mono hz.size)⟩
  generalize Al.fits l m ps = T at *
  clear ht ha hb hca hcb hc hcc
  generalize l.length = n at *
  generalize m.length = k at *
  generalize ps.length = N at *
  by_cases c1 : 1000 < n
  · have d1 : decide ((1000 : Int) < (n : Int)) = true := decide_eq_true (by omega)
    clear c1 OW F1 F2
    go_enter Tryd.func5, Tryd.ntmps5
    go_wp2_with fail
    refine (KN.out w BIG.out).mono ?_
    rintro e w4 ⟨rfl, b4⟩
    have B4 := hidA b4
    clear b4
    go_wp2_with fail
    go_ret
    exact ⟨rfl, B4.out⟩
  have d1 : decide ((1000 : Int) < (n : Int)) = false := decide_eq_false (by omega)
  by_cases c2 : 1000 < k
  · have d2 : decide ((1000 : Int) < (k : Int)) = true := decide_eq_true (by omega)
    clear c1 c2 OW F1 F2
    go_enter Tryd.func5, Tryd.ntmps5
    go_wp2_with fail
    refine (KN.out w BIG.out).mono ?_
    rintro e w4 ⟨rfl, b4⟩
    have B4 := hidA b4
    clear b4
    go_wp2_with fail
    go_ret
    exact ⟨rfl, B4.out⟩
  have d2 : decide ((1000 : Int) < (k : Int)) = false := decide_eq_false (by omega)
  by_cases c3 : 1000 < N
  · have d3 : decide ((1000 : Int) < (N : Int)) = true := decide_eq_true (by omega)
    clear c1 c2 c3 OW F1 F2
    go_enter Tryd.func5, Tryd.ntmps5
    go_wp2_with fail
    refine (KN.out w BIG.out).mono ?_
    rintro e w4 ⟨rfl, b4⟩
    have B4 := hidA b4
    clear b4
    go_wp2_with fail
    go_ret
    exact ⟨rfl, B4.out⟩
  have d3 : decide ((1000 : Int) < (N : Int)) = false := decide_eq_false (by omega)
  have OW' := hidA (OW.out (by omega))
  have F1' := hidA (F1.out (by omega))
  have F2' := hidA (F2.out (by omega))
  clear c1 c2 c3 OW F1 F2
  have q : (T == T) = true := beq_self_eq_true T
  go_enter Tryd.func5, Tryd.ntmps5
  go_wp2_with fail
  refine OW'.out.mono ?_
  rintro e w1 ⟨a8, c8, rfl, ev, b1⟩
  have FF := hidA (F1'.out w1 a8 c8 ev b1)
  clear ev b1 OW' F1'
  go_wp2_with fail
  refine FF.out.mono ?_
  rintro e w2 ⟨rfl, b2⟩
  have FG := hidA (F2'.out w2 b2)
  clear b2 FF F2'
  go_wp2_with fail
  refine FG.out.mono ?_
  rintro e w3 ⟨rfl, b3⟩
  have B3 := hidA b3
  clear b3 FG
  go_wp2_with fail
  refine (KN.out w3 B3.out).mono ?_
  rintro e w4 ⟨rfl, b4⟩
  have B4 := hidA b4
  clear b4
  go_wp2_with fail
  go_ret
  exact ⟨rfl, B4.out⟩
end Go.Proofs.YthglhcabdadlpaaDoor

namespace Go.Proofs.YthglhcabdadlpaaDoor
open Go.RowKit
set_option linter.unusedVariables false
set_option linter.unusedSimpArgs false
set_option maxRecDepth 100000
theorem ix_nums' {i n : Nat} (h : i < n) : (i : Int) < (n : Int) ∧ decide (i < n) = true ∧ (0 : Int) ≤ (i : Int) := ⟨by omega, decide_eq_true h, by omega⟩
theorem part_at {l m : List Al.Ev} {k : Nat} (h : TgI l m k) (h1 : k ≤ l.length) (h2 : k ≤ m.length) (h3 : k = l.length ∨ k = m.length ∨ l[k]? ≠ m[k]?) : Al.part l m = if k = l.length ∧ k = m.length then -1 else (k : Int) := by
  have e : Al.tog l m = k := Al.tog_is l m k h1 h2 h h3
  unfold Al.part
  rw [e]
set_option maxHeartbeats 8000000 in
theorem rpart_any (w : World) (a b : Option Addr) (ca cb : Nat) (l m : List Al.Ev) {B : Nat} (ha : EvR B w a l) (hb : EvR B w b m) (hB : B ≤ w.heap.size) (hl : l.length ≤ 100000) (hm : m.length ≤ 100000) : Calls Tryd.prog 11 #[.slice a l.length ca, .slice b m.length cb] w fun e w' => e = .returned (.int .i64 (Al.part l m)) ∧ Below w.heap.size w w' := by
  have HA := hidA ha
  have HB := hidA hb
  have HBB := hidA hB
  have HP : Hid (∀ k, TgI l m k → k ≤ l.length → k ≤ m.length → (k = l.length ∨ k = m.length ∨ l[k]? ≠ m[k]?) → Al.part l m = if k = l.length ∧ k = m.length then -1 else (k : Int)) := fun k => part_at
  generalize Al.part l m = P at *
  obtain ⟨N, hN⟩ : ∃ N, N = l.length := ⟨_, rfl⟩
  obtain ⟨M, hM⟩ : ∃ M, M = m.length := ⟨_, rfl⟩
  have HN : Hid (N = l.length ∧ M = m.length ∧ N ≤ 100000 ∧ M ≤ 100000) := ⟨hN, hM, by rw [hN]; exact hl, by rw [hM]; exact hm⟩
  rw [← hN, ← hM] at HP ⊢
  clear ha hb hB hN hM hl hm
  go_enter Tryd.func11, Tryd.ntmps11
  go_wp2_with fail
  go_loopg [5] N (fun gk y wr => ∃ k : Nat, k + gk = N ∧ y = .int .i64 k ∧ Hid (Below w.heap.size w wr ∧ TgI l m k ∧ k ≤ M))
  case atStart => exact ⟨0, by omega, rfl, Below.refl _ _, fun i hi => absurd hi (Nat.not_lt_zero i), Nat.zero_le _⟩
  case round =>
    obtain ⟨k, hk, rfl, RR⟩ := hrel
    have BDR : Hid (∀ r, Below w.heap.size w (wr.drewN r)) := fun r => below_drA RR.out.1 r
    rcases gk with _ | gk
    · obtain rfl : N = k := by omega
      have dk : decide ((N : Int) < (N : Int)) = false := decide_eq_false (Int.lt_irrefl _)
      have dk1 : decide (N < N) = false := decide_eq_false (Nat.lt_irrefl _)
      have q1 : ((N : Int) == (N : Int)) = true := beq_self_eq_true _
      by_cases c : N = M
      · have q2 : ((N : Int) == (M : Int)) = true := by rw [c]; exact beq_self_eq_true _
        obtain rfl : P = -1 := by rw [HP.out N RR.out.2.1 (Nat.le_refl _) RR.out.2.2 (.inl rfl), if_pos ⟨rfl, c⟩]
        clear c HP RR
        go_upto_region 2 with fail
        go_quiet (fail)
        have BQ := hidA (BDR.out nq)
        generalize wr.drewN nq = W5 at BQ ⊢
        go_wp2_with fail
        go_ret
        exact ⟨rfl, BQ.out⟩
      · have q2 : ((N : Int) == (M : Int)) = false := nbeqA c
        obtain rfl : P = (N : Int) := by rw [HP.out N RR.out.2.1 (Nat.le_refl _) RR.out.2.2 (.inl rfl), if_neg (fun h => c h.2)]
        clear c HP RR
        go_upto_region 2 with fail
        go_quiet (fail)
        have BQ := hidA (BDR.out nq)
        generalize wr.drewN nq = W5 at BQ ⊢
        go_wp2_with fail
        go_ret
        exact ⟨rfl, BQ.out⟩
    · obtain ⟨k6, dk, dk2, hkN, hk3⟩ := mch_k hk
      have q1 : ((k : Int) == (N : Int)) = false := nbeqA (Nat.ne_of_lt hkN)
      by_cases c : k = M
      · have e1 : decide ((k : Int) < (M : Int)) = false := decide_eq_false (by rw [c]; exact Int.lt_irrefl _)
        have e2 : decide (k < M) = false := decide_eq_false (by rw [c]; exact Nat.lt_irrefl _)
        obtain rfl : P = (k : Int) := by rw [HP.out k RR.out.2.1 (Nat.le_of_lt hkN) RR.out.2.2 (.inr (.inl c)), if_neg (fun h => absurd h.1 (Nat.ne_of_lt hkN))]
        clear c HP RR
        go_upto_region 2 with fail
        go_quiet (fail)
        have BQ := hidA (BDR.out nq)
        generalize wr.drewN nq = W5 at BQ ⊢
        go_wp2_with fail
        go_ret
        exact ⟨rfl, BQ.out⟩
      · have hkM : k < M := Nat.lt_of_le_of_ne RR.out.2.2 c
        obtain ⟨e0, e2, e3⟩ := ix_nums' hkM
        have e1 : decide ((k : Int) < (M : Int)) = true := decide_eq_true e0
        obtain ⟨x, hx⟩ : ∃ x, l[k]? = some x := ⟨_, List.getElem?_eq_getElem (by rw [← HN.out.1]; exact hkN)⟩
        obtain ⟨y, hy⟩ : ∃ y, m[k]? = some y := ⟨_, List.getElem?_eq_getElem (by rw [← HN.out.2.1]; exact hkM)⟩
        obtain ⟨ga, oa, rfl, hga, cs⟩ := (HA.out.later RR.out.1 HBB.out) (by rw [← HN.out.1]; exact Nat.lt_of_le_of_lt (Nat.zero_le k) hkN)
        obtain ⟨gb, ob, rfl, hgb, cs2⟩ := (HB.out.later RR.out.1 HBB.out) (by rw [← HN.out.2.1]; exact Nat.lt_of_le_of_lt (Nat.zero_le k) hkM)
        have a0 := (cs k x hx).1
        have a1 := (cs k x hx).2
        have b0 := (cs2 k y hy).1
        have b1 := (cs2 k y hy).2
        have WK := hidA (wrK k (Nat.le_trans (Nat.le_of_lt hkN) (Nat.le_trans HN.out.2.2.1 (by decide))))
        by_cases hxy : x = y
        · subst hxy
          have ST : Hid (TgI l m (k + 1) ∧ k + 1 ≤ M) := ⟨RR.out.2.1.step hx hy, hkM⟩
          clear cs cs2 hx hy RR HP c
          generalize x.1 = x1 at a0 b0
          generalize x.2 = x2 at a1 b1
          have z1 : (x1 == x1) = true := beq_self_eq_true x1
          have z2 : (x2 == x2) = true := beq_self_eq_true x2
          go_upto_region 2 with fail
          go_quiet (fail)
          have BQ := hidA (BDR.out nq)
          generalize wr.drewN nq = W5 at BQ ⊢
          clear a0 a1 b0 b1
          go_wp2_with fail
          go_roundg gk
          case measure => omega
          case rel => exact ⟨k + 1, hk3, congrArg _ WK.out, BQ.out, ST.out.1, ST.out.2⟩
        · obtain rfl : P = (k : Int) := by rw [HP.out k RR.out.2.1 (Nat.le_of_lt hkN) RR.out.2.2 (.inr (.inr (by rw [hx, hy]; intro h; exact hxy (Option.some.inj h)))), if_neg (fun h => absurd h.1 (Nat.ne_of_lt hkN))]
          have qq := ev_ne hxy
          clear cs cs2 hx hy RR HP hxy c
          generalize x.1 = x1 at a0 qq
          generalize x.2 = x2 at a1 qq
          generalize y.1 = y1 at b0 qq
          generalize y.2 = y2 at b1 qq
          rcases qq with z1 | ⟨z1, z2⟩
          all_goals
            go_upto_region 2 with fail
            go_quiet (fail)
            have BQ := hidA (BDR.out nq)
            generalize wr.drewN nq = W5 at BQ ⊢
            clear a0 a1 b0 b1
            go_wp2_with fail
            go_ret
            exact ⟨rfl, BQ.out⟩
end Go.Proofs.YthglhcabdadlpaaDoor

namespace Go.Proofs.YthglhcabdadlpaaDoor
open Go.RowKit
set_option linter.unusedVariables false
set_option linter.unusedSimpArgs false
set_option maxRecDepth 100000
theorem catA (l : List UInt8) (s : ByteArray) (t : List UInt8) (h : s = ⟨t.toArray⟩) : ((⟨l.toArray⟩ : ByteArray) ++ s).data.toList = l ++ t := by subst h; simp
theorem szA {l : List UInt8} {s : ByteArray} (hl : l.length ≤ 20) (hs : s.size ≤ 200) : (⟨l.toArray⟩ : ByteArray).size + s.size ≤ 9223372036854775807 := by rw [sizeA]; omega
theorem cells6 (w : World) (a b c d e f : Value) (t : TypeId) : (w.alloc (.cells #[a, b, c, d, e, f] t)).cell? ⟨w.heap.size, 1, none⟩ = some b ∧ (w.alloc (.cells #[a, b, c, d, e, f] t)).cell? ⟨w.heap.size, 2, none⟩ = some c ∧ (w.alloc (.cells #[a, b, c, d, e, f] t)).cell? ⟨w.heap.size, 3, none⟩ = some d ∧ (w.alloc (.cells #[a, b, c, d, e, f] t)).cell? ⟨w.heap.size, 4, none⟩ = some e ∧ (w.alloc (.cells #[a, b, c, d, e, f] t)).cell? ⟨w.heap.size, 5, none⟩ = some f := ⟨by simp, by simp, by simp, by simp, by simp⟩
set_option maxHeartbeats 8000000 in
theorem rtex_any (w : World) (x : Al.Ev) (h1 : Al.R64 x.1) (h2 : Al.R64 x.2) : Calls Tryd.prog 13 #[.agg #[.int .i64 x.1, .int .i64 x.2]] w (TxQ w x) := by
  obtain ⟨Q, hQ⟩ : ∃ Q, Q = TxQ w x := ⟨_, rfl⟩
  have HQ : Hid (∀ (t : ByteArray) w', t.data.toList = Al.tx x → Below w.heap.size w w' → Q (.returned (.string t)) w') := fun t w' h b => by rw [hQ]; exact ⟨by rw [← h], b⟩
  rw [← hQ]
  clear hQ
  have HX : Hid (Al.tx x = if x.1 = 1 then Al.wPrint ++ 32 :: Lib.itoa x.2 else if x.1 = 2 then Al.wRead ++ 32 :: Lib.itoa x.2 else if x.1 = 3 then Al.wEnd else if x.1 = 4 then Al.wTrap ++ 32 :: Lib.itoa x.2 else if x.1 = 5 then Al.wFuel
    else Al.wEvent ++ 32 :: (Lib.itoa x.1 ++ 32 :: Lib.itoa x.2)) := rfl
  obtain ⟨T, hT⟩ : ∃ T, T = Al.tx x := ⟨_, rfl⟩
  rw [← hT] at HX HQ
  clear hT
  generalize x.1 = k at *
  generalize x.2 = n at *
  obtain ⟨W0, hW0⟩ : ∃ W0, W0 = w.alloc (.cells #[.int .i64 k, .int .i64 n] 24) := ⟨_, rfl⟩
  obtain ⟨p, hp⟩ : ∃ p, p = w.heap.size := ⟨_, rfl⟩
  have B0 : Hid (Below w.heap.size w W0 ∧ p = w.heap.size ∧ W0.heap.size = p + 1) := ⟨by rw [hW0]; exact (Below.refl _ _).alloc (Nat.le_refl _) _, hp, by rw [hW0, hp]; simp⟩
  have C0 : W0.cell? ⟨p, 0, none⟩ = some (.int .i64 k) ∧ W0.cell? ⟨p, 1, none⟩ = some (.int .i64 n) := by rw [hW0, hp]; exact box2A _ _ _ _
  obtain ⟨c0, c1⟩ := C0
  obtain ⟨sn, hsn⟩ : ∃ sn : ByteArray, sn = ⟨(Lib.itoa n).toArray⟩ := ⟨_, rfl⟩
  obtain ⟨sk, hsk⟩ : ∃ sk : ByteArray, sk = ⟨(Lib.itoa k).toArray⟩ := ⟨_, rfl⟩
  have RN := hidA (rtext_any n W0 h2.1 h2.2)
  have RK : Hid (∀ wz, Calls Tryd.prog 35 #[.int .i64 k] wz fun e w' => e = .returned (.string ⟨(Lib.itoa k).toArray⟩) ∧ Below wz.heap.size wz w') := fun wz => rtext_any k wz h1.1 h1.2
  rw [← hsn] at RN
  rw [← hsk] at RK
  have n1 : sn.size ≤ 200 := by rw [hsn, sizeA]; exact itA n h2
  have n2 : sk.size ≤ 200 := by rw [hsk, sizeA]; exact itA k h1
  have z1 : (⟨#[112, 114, 105, 110, 116, 32]⟩ : ByteArray).size + sn.size ≤ 9223372036854775807 := szA (l := [112, 114, 105, 110, 116, 32]) (by decide) n1
  have z2 : (⟨#[114, 101, 97, 100, 32]⟩ : ByteArray).size + sn.size ≤ 9223372036854775807 := szA (l := [114, 101, 97, 100, 32]) (by decide) n1
  have z3 : (⟨#[116, 114, 97, 112, 32]⟩ : ByteArray).size + sn.size ≤ 9223372036854775807 := szA (l := [116, 114, 97, 112, 32]) (by decide) n1
  have Z4 : Hid ((⟨#[101, 118, 101, 110, 116, 32]⟩ : ByteArray).size + sk.size ≤ 9223372036854775807 ∧ ((⟨#[101, 118, 101, 110, 116, 32]⟩ : ByteArray) ++ sk).size + (⟨#[32]⟩ : ByteArray).size ≤ 9223372036854775807 ∧ ((⟨#[101, 118, 101, 110, 116, 32]⟩ : ByteArray) ++ sk ++ (⟨#[32]⟩ : ByteArray)).size + sn.size ≤ 9223372036854775807) := by
    have e1 : (⟨#[101, 118, 101, 110, 116, 32]⟩ : ByteArray).size = 6 := rfl
    have e2 : (⟨#[32]⟩ : ByteArray).size = 1 := rfl
    refine ⟨?_, ?_, ?_⟩ <;> simp only [ByteArray.size_append, e1, e2] <;> omega
  have K1 : Hid (((⟨#[112, 114, 105, 110, 116, 32]⟩ : ByteArray) ++ sn).data.toList = Al.wPrint ++ 32 :: Lib.itoa n) := catA [112, 114, 105, 110, 116, 32] sn _ hsn
  have K2 : Hid (((⟨#[114, 101, 97, 100, 32]⟩ : ByteArray) ++ sn).data.toList = Al.wRead ++ 32 :: Lib.itoa n) := catA [114, 101, 97, 100, 32] sn _ hsn
  have K4 : Hid (((⟨#[116, 114, 97, 112, 32]⟩ : ByteArray) ++ sn).data.toList = Al.wTrap ++ 32 :: Lib.itoa n) := catA [116, 114, 97, 112, 32] sn _ hsn
  have K6 : Hid (((⟨#[101, 118, 101, 110, 116, 32]⟩ : ByteArray) ++ sk ++ (⟨#[32]⟩ : ByteArray) ++ sn).data.toList = Al.wEvent ++ 32 :: (Lib.itoa k ++ 32 :: Lib.itoa n)) := by
    rw [hsn, hsk]
    unfold Hid
    simp [Al.wEvent]
  have HT := HX.out
  clear h1 h2 hsn hsk n1 n2 HX
  go_enter Tryd.func13, Tryd.ntmps13
  go_upto_region 1 with fail
  rw [← hW0, ← hp]
  clear hW0 hp
  have hpW : p < W0.heap.size := by have := B0.out.2.2; omega
  go_wp2_with fail
  refine RN.out.mono ?_
  rintro e w1 ⟨rfl, b1⟩
  have d0 := (b1.cell (p := ⟨p, 0, none⟩) hpW).trans c0
  have d1 := (b1.cell (p := ⟨p, 1, none⟩) hpW).trans c1
  obtain ⟨q, hq⟩ : ∃ q, q = w1.heap.size := ⟨_, rfl⟩
  obtain ⟨W2, hW2⟩ : ∃ W2, W2 = w1.alloc (.cells #[.string ⟨#[]⟩, .string ((⟨#[112, 114, 105, 110, 116, 32]⟩ : ByteArray) ++ sn), .string ((⟨#[114, 101, 97, 100, 32]⟩ : ByteArray) ++ sn), .string ⟨#[101, 110, 100]⟩, .string ((⟨#[116, 114, 97, 112, 32]⟩ : ByteArray) ++ sn), .string ⟨#[102, 117, 101, 108]⟩] 9) := ⟨_, rfl⟩
  have C2 := cells6 w1 (.string ⟨#[]⟩) (.string ((⟨#[112, 114, 105, 110, 116, 32]⟩ : ByteArray) ++ sn)) (.string ((⟨#[114, 101, 97, 100, 32]⟩ : ByteArray) ++ sn)) (.string ⟨#[101, 110, 100]⟩) (.string ((⟨#[116, 114, 97, 112, 32]⟩ : ByteArray) ++ sn)) (.string ⟨#[102, 117, 101, 108]⟩) 9
  rw [← hW2, ← hq] at C2
  obtain ⟨f1, f2, f3, f4, f5⟩ := C2
  have b2 : Below w1.heap.size w1 W2 := by rw [hW2]; exact (Below.refl _ _).alloc (Nat.le_refl _) _
  have g0 := (b2.cell (p := ⟨p, 0, none⟩) (Nat.lt_of_lt_of_le hpW b1.size)).trans d0
  have g1 := (b2.cell (p := ⟨p, 1, none⟩) (Nat.lt_of_lt_of_le hpW b1.size)).trans d1
  have BW2 : Hid (Below w.heap.size w W2) := B0.out.1.trans ((b1.trans (b2.mono b1.size)).mono B0.out.1.size)
  clear b1 b2 c0 c1 hpW RN
  go_upto_region 3 with fail
  rw [← hW2, ← hq]
  clear hW2 hq d0 d1 z1 z2 z3
  by_cases k1 : k = 1
  · rw [if_pos k1] at HT
    have F := hidA (HQ.out _ W2 (K1.out.trans HT.symm) BW2.out)
    subst k1
    clear HT
    go_wp2_with fail
    exact F.out
  · rw [if_neg k1] at HT
    by_cases k2 : k = 2
    · rw [if_pos k2] at HT
      have F := hidA (HQ.out _ W2 (K2.out.trans HT.symm) BW2.out)
      subst k2
      clear HT
      go_wp2_with fail
      exact F.out
    · rw [if_neg k2] at HT
      by_cases k3 : k = 3
      · rw [if_pos k3] at HT
        have F := hidA (HQ.out ⟨#[101, 110, 100]⟩ W2 ((rfl : (⟨#[101, 110, 100]⟩ : ByteArray).data.toList = Al.wEnd).trans HT.symm) BW2.out)
        subst k3
        clear HT
        go_wp2_with fail
        exact F.out
      · rw [if_neg k3] at HT
        by_cases k4 : k = 4
        · rw [if_pos k4] at HT
          have F := hidA (HQ.out _ W2 (K4.out.trans HT.symm) BW2.out)
          subst k4
          clear HT
          go_wp2_with fail
          exact F.out
        · rw [if_neg k4] at HT
          by_cases k5 : k = 5
          · rw [if_pos k5] at HT
            have F := hidA (HQ.out ⟨#[102, 117, 101, 108]⟩ W2 ((rfl : (⟨#[102, 117, 101, 108]⟩ : ByteArray).data.toList = Al.wFuel).trans HT.symm) BW2.out)
            subst k5
            clear HT
            go_wp2_with fail
            exact F.out
          · rw [if_neg k5] at HT
            have e1 : (decide (k < 1) = true ∧ decide (5 < k) = false) ∨ (decide (k < 1) = false ∧ decide (5 < k) = true) := by
              rcases Int.lt_or_le k 1 with c | c
              · exact .inl ⟨decide_eq_true c, decide_eq_false (by omega)⟩
              · exact .inr ⟨decide_eq_false (by omega), decide_eq_true (by omega)⟩
            have F := hidA (fun w' (b : Below w.heap.size w w') => HQ.out _ w' (K6.out.trans HT.symm) b)
            obtain ⟨z4, z5, z6⟩ := Z4.out
            clear HT k1 k2 k3 k4 k5 f1 f2 f3 f4 f5
            rcases e1 with ⟨e1, e2⟩ | ⟨e1, e2⟩
            all_goals
              go_wp2_with fail
              refine (RK.out W2).mono ?_
              rintro e w3 ⟨rfl, b3⟩
              have FF := hidA (F.out w3 (BW2.out.trans (b3.mono BW2.out.size)))
              clear b3
              go_wp2_with fail
              exact FF.out
end Go.Proofs.YthglhcabdadlpaaDoor

namespace Go.Proofs.YthglhcabdadlpaaDoor
open Go.RowKit
set_option linter.unusedVariables false
set_option linter.unusedSimpArgs false
set_option maxRecDepth 100000
theorem rok_bad {n m : Int} {r : Al.Rg} (h : Al.rok n m r = false) : r.fa < 0 ∨ (¬ r.fa < 0 ∧ r.ta < r.fa) ∨ (¬ r.fa < 0 ∧ ¬ r.ta < r.fa ∧ n < r.ta) ∨ (¬ r.fa < 0 ∧ ¬ r.ta < r.fa ∧ ¬ n < r.ta ∧ r.fb < 0) ∨ (¬ r.fa < 0 ∧ ¬ r.ta < r.fa ∧ ¬ n < r.ta ∧ ¬ r.fb < 0 ∧ r.tb < r.fb) ∨ (¬ r.fa < 0 ∧ ¬ r.ta < r.fa ∧ ¬ n < r.ta ∧ ¬ r.fb < 0 ∧ ¬ r.tb < r.fb ∧ m < r.tb) := by
  by_cases c : r.fa < 0 ∨ r.ta < r.fa ∨ n < r.ta ∨ r.fb < 0 ∨ r.tb < r.fb ∨ m < r.tb
  · omega
  · exfalso
    have : Al.rok n m r = true := by
      unfold Al.rok
      simp only [Bool.and_eq_true, decide_eq_true_eq]
      omega
    rw [this] at h
    cases h
set_option maxHeartbeats 4000000 in
theorem rlinesBad_any (w : World) (a b c : Option Addr) (ca cb cc : Nat) (l m ps : List Al.Ev) (r : Al.Rg) {B : Nat} (ha : EvR B w a l) (hb : EvR B w b m) (hc : EvR B w c ps) (hB : B ≤ w.heap.size) (hq : ps.length ≤ 300) (hbad : Al.fits l m ps = false ∨ Al.rok l.length m.length r = false) :
    Calls Tryd.prog 29 #[.slice a l.length ca, .slice b m.length cb, .slice c ps.length cc, .agg #[.int .i64 r.fa, .int .i64 r.ta, .int .i64 r.fb, .int .i64 r.tb]] w (LnsQ w (Al.lns l m ps r).1 (Al.lns l m ps r).2) := by
  obtain ⟨M, hM⟩ : ∃ M, M = w.heap.size := ⟨_, rfl⟩
  obtain ⟨W0, hW0⟩ : ∃ W0, W0 = w.alloc (.cells #[.int .i64 r.fa, .int .i64 r.ta, .int .i64 r.fb, .int .i64 r.tb] 55) := ⟨_, rfl⟩
  have K0 : Hid (Below w.heap.size w W0) := by rw [hW0]; exact (Below.refl _ _).alloc (Nat.le_refl _) _
  have UP : Hid (∀ W, Below W0.heap.size W0 W → Below w.heap.size w W) := fun W h => K0.out.trans (h.mono K0.out.size)
  have HRB : Hid (∀ W, Below W0.heap.size W0 W → W.heap[M]? = some (.cells #[.int .i64 r.fa, .int .i64 r.ta, .int .i64 r.fb, .int .i64 r.tb] 55 (0, 0))) := fun W hW => by
    rw [hW.block M (by rw [hW0, hM]; simp), hW0, hM]
    exact Array.getElem?_push_size
  have HF := hidA (rfits_any W0 a b c ca cb cc l m ps (ha.later K0.out hB) (hb.later K0.out hB) (hc.later K0.out hB) (Nat.le_trans hB K0.out.size) (Nat.le_trans hq (by decide)))
  have HM := hidA hM
  have HW0 := hidA hW0
  cases hF : Al.fits l m ps with
  | false =>
    have EQ : Hid (Al.lns l m ps r = ([], 90)) := by unfold Hid Al.lns; rw [hF]; rfl
    rw [hF] at HF
    rw [EQ.out]
    generalize l.length = N at *
    generalize m.length = O at *
    generalize ps.length = G at *
    clear ha hb hc hB hq hbad hF hM hW0
    go_enter Tryd.func29, Tryd.ntmps29
    go_upto_region 1 with fail
    rw [← HW0.out, ← HM.out]
    go_wp2_with fail
    refine HF.out.mono ?_
    rintro e w1 ⟨rfl, b1⟩
    have FIN := hidA (UP.out w1 b1)
    clear b1
    go_wp2_with fail
    go_ret2
    exact ⟨_, rfl, OwnS.nil _ _, FIN.out⟩
  | true =>
    have hR : Al.rok l.length m.length r = false := hbad.resolve_left (by rw [hF]; decide)
    have EQ : Hid (Al.lns l m ps r = ([], 1)) := by unfold Hid Al.lns; rw [hF, hR]; rfl
    rw [hF] at HF
    rw [EQ.out]
    have RB := rok_bad hR
    generalize l.length = N at *
    generalize m.length = O at *
    generalize ps.length = G at *
    generalize r.fa = fa at *
    generalize r.ta = ta at *
    generalize r.fb = fb at *
    generalize r.tb = tb at *
    clear ha hb hc hB hq hbad hF hM hW0 hR
    rcases RB with c1 | ⟨c1, c2⟩ | ⟨c1, c2, c3⟩ | ⟨c1, c2, c3, c4⟩ | ⟨c1, c2, c3, c4, c5⟩ | ⟨c1, c2, c3, c4, c5, c6⟩
    · have d1 : decide (fa < 0) = true := decide_eq_true c1
      go_enter Tryd.func29, Tryd.ntmps29
      go_upto_region 1 with fail
      rw [← HW0.out, ← HM.out]
      go_wp2_with fail
      refine HF.out.mono ?_
      rintro e w1 ⟨rfl, b1⟩
      have FIN := hidA (UP.out w1 b1)
      obtain ⟨e0, e1, e2, e3, -, -, -, -⟩ := box4 (HRB.out w1 b1)
      clear b1
      go_wp2_with fail
      go_ret2
      exact ⟨_, rfl, OwnS.nil _ _, FIN.out⟩
    · have d1 : decide (fa < 0) = false := decide_eq_false c1
      have d2 : decide (ta < fa) = true := decide_eq_true c2
      go_enter Tryd.func29, Tryd.ntmps29
      go_upto_region 1 with fail
      rw [← HW0.out, ← HM.out]
      go_wp2_with fail
      refine HF.out.mono ?_
      rintro e w1 ⟨rfl, b1⟩
      have FIN := hidA (UP.out w1 b1)
      obtain ⟨e0, e1, e2, e3, -, -, -, -⟩ := box4 (HRB.out w1 b1)
      clear b1
      go_wp2_with fail
      go_ret2
      exact ⟨_, rfl, OwnS.nil _ _, FIN.out⟩
    · have d1 : decide (fa < 0) = false := decide_eq_false c1
      have d2 : decide (ta < fa) = false := decide_eq_false c2
      have d3 : decide ((N : Int) < ta) = true := decide_eq_true c3
      go_enter Tryd.func29, Tryd.ntmps29
      go_upto_region 1 with fail
      rw [← HW0.out, ← HM.out]
      go_wp2_with fail
      refine HF.out.mono ?_
      rintro e w1 ⟨rfl, b1⟩
      have FIN := hidA (UP.out w1 b1)
      obtain ⟨e0, e1, e2, e3, -, -, -, -⟩ := box4 (HRB.out w1 b1)
      clear b1
      go_wp2_with fail
      go_ret2
      exact ⟨_, rfl, OwnS.nil _ _, FIN.out⟩
    · have d1 : decide (fa < 0) = false := decide_eq_false c1
      have d2 : decide (ta < fa) = false := decide_eq_false c2
      have d3 : decide ((N : Int) < ta) = false := decide_eq_false c3
      have d4 : decide (fb < 0) = true := decide_eq_true c4
      go_enter Tryd.func29, Tryd.ntmps29
      go_upto_region 1 with fail
      rw [← HW0.out, ← HM.out]
      go_wp2_with fail
      refine HF.out.mono ?_
      rintro e w1 ⟨rfl, b1⟩
      have FIN := hidA (UP.out w1 b1)
      obtain ⟨e0, e1, e2, e3, -, -, -, -⟩ := box4 (HRB.out w1 b1)
      clear b1
      go_wp2_with fail
      go_ret2
      exact ⟨_, rfl, OwnS.nil _ _, FIN.out⟩
    · have d1 : decide (fa < 0) = false := decide_eq_false c1
      have d2 : decide (ta < fa) = false := decide_eq_false c2
      have d3 : decide ((N : Int) < ta) = false := decide_eq_false c3
      have d4 : decide (fb < 0) = false := decide_eq_false c4
      have d5 : decide (tb < fb) = true := decide_eq_true c5
      go_enter Tryd.func29, Tryd.ntmps29
      go_upto_region 1 with fail
      rw [← HW0.out, ← HM.out]
      go_wp2_with fail
      refine HF.out.mono ?_
      rintro e w1 ⟨rfl, b1⟩
      have FIN := hidA (UP.out w1 b1)
      obtain ⟨e0, e1, e2, e3, -, -, -, -⟩ := box4 (HRB.out w1 b1)
      clear b1
      go_wp2_with fail
      go_ret2
      exact ⟨_, rfl, OwnS.nil _ _, FIN.out⟩
    · have d1 : decide (fa < 0) = false := decide_eq_false c1
      have d2 : decide (ta < fa) = false := decide_eq_false c2
      have d3 : decide ((N : Int) < ta) = false := decide_eq_false c3
      have d4 : decide (fb < 0) = false := decide_eq_false c4
      have d5 : decide (tb < fb) = false := decide_eq_false c5
      have d6 : decide ((O : Int) < tb) = true := decide_eq_true c6
      go_enter Tryd.func29, Tryd.ntmps29
      go_upto_region 1 with fail
      rw [← HW0.out, ← HM.out]
      go_wp2_with fail
      refine HF.out.mono ?_
      rintro e w1 ⟨rfl, b1⟩
      have FIN := hidA (UP.out w1 b1)
      obtain ⟨e0, e1, e2, e3, -, -, -, -⟩ := box4 (HRB.out w1 b1)
      clear b1
      go_wp2_with fail
      go_ret2
      exact ⟨_, rfl, OwnS.nil _ _, FIN.out⟩
theorem ln_eq2 (s : UInt8) (x : Al.Ev) : ((⟨#[s, 32]⟩ : ByteArray) ++ ⟨(Al.tx x).toArray⟩ : ByteArray) = Al.ln s x := by
  apply ByteArray.ext
  unfold Al.ln
  simp
end Go.Proofs.YthglhcabdadlpaaDoor

namespace Go.Proofs.YthglhcabdadlpaaDoor
open Go.RowKit
set_option linter.unusedVariables false
set_option linter.unusedSimpArgs false
set_option maxRecDepth 100000
/-- The cells of rows of numbers, each in a block of its own. -/
def slC (M1 : Nat) (gs : List Nat) : List Value := gs.map fun g => Value.slice (some ⟨g, 0, none⟩) M1 M1
theorem slC_len (M1 : Nat) (gs : List Nat) : (slC M1 gs).length = gs.length := by simp [slC]
theorem slC_one (M1 : Nat) (gs : List Nat) : ∀ u ∈ slC M1 gs, u.oneCell' = true := fun u h => by
  unfold slC at h
  obtain ⟨g, -, rfl⟩ := List.mem_map.1 h
  rfl
theorem infoSi : ∃ i, Tryd.prog.info? 78 = some i ∧ i.zero = some (.slice none 0 0) ∧ i.size = 1 ∧ i.bytes = 24 := infoP _ _ _ _ _ (by kernel_rfl)
/-- The rows of sizes from one on. -/
def SzG (w : World) (l m : List Al.Ev) (i : Nat) (gs : List Nat) : Prop := ∀ k g, gs[k]? = some g → g < w.heap.size ∧ ∀ j, j ≤ m.length → w.cell? ⟨g, j, none⟩ = some (.int .i64 (Al.lcs (l.drop (i + k)) (m.drop j) : Nat))
theorem SzG.later {w w' : World} {l m : List Al.Ev} {i : Nat} {gs : List Nat} (h : SzG w l m i gs) (b : Below w.heap.size w w') : SzG w' l m i gs := fun k g hk => by
  obtain ⟨h1, h2⟩ := h k g hk
  exact ⟨Nat.lt_of_lt_of_le h1 b.size, fun j hj => (b.cell (p := ⟨g, _, none⟩) h1).trans (h2 j hj)⟩
theorem SzG.cons {w : World} {l m : List Al.Ev} {i g0 : Nat} {gs : List Nat} (h : SzG w l m (i + 1) gs) (h0 : g0 < w.heap.size) (h1 : ∀ j, j ≤ m.length → w.cell? ⟨g0, j, none⟩ = some (.int .i64 (Al.lcs (l.drop i) (m.drop j) : Nat))) : SzG w l m i (g0 :: gs) := fun k g hk => by
  cases k with
  | zero => simp at hk; subst hk; exact ⟨h0, h1⟩
  | succ k =>
    have := h k g (by simpa using hk)
    rw [show i + 1 + k = i + (k + 1) from by omega] at this
    exact this
/-- The table that Sizes answers: in the block g a row a cell. -/
def SzT (w : World) (g : Nat) (l m : List Al.Ev) : Prop := g < w.heap.size ∧ ∀ i, i ≤ l.length → ∃ gi, w.cell? ⟨g, i, none⟩ = some (.slice (some ⟨gi, 0, none⟩) (m.length + 1) (m.length + 1)) ∧ gi < w.heap.size ∧ ∀ j, j ≤ m.length → w.cell? ⟨gi, j, none⟩ = some (.int .i64 (Al.lcs (l.drop i) (m.drop j) : Nat))
theorem SzT.later {w w' : World} {g : Nat} {l m : List Al.Ev} (h : SzT w g l m) (b : Below w.heap.size w w') : SzT w' g l m := by
  refine ⟨Nat.lt_of_lt_of_le h.1 b.size, fun i hi => ?_⟩
  obtain ⟨gi, h1, h2, h3⟩ := h.2 i hi
  exact ⟨gi, (b.cell (p := ⟨g, _, none⟩) h.1).trans h1, Nat.lt_of_lt_of_le h2 b.size, fun j hj => (b.cell (p := ⟨gi, _, none⟩) h2).trans (h3 j hj)⟩
/-- A row that is being filled: block gr, all else as it was. -/
def PR (W0 : World) (B gr M1 J : Nat) (f : Nat → Nat) (n : Nat) (V : World) : Prop := Below B W0 V ∧ NB V gr M1 (fun k => if k = J then n else f k)
theorem PR.set {W0 : World} {B gr M1 J : Nat} {f : Nat → Nat} {n n' : Nat} {V : World} (h : PR W0 B gr M1 J f n V) (hg : B ≤ gr) (hJ : J < M1) : PR W0 B gr M1 J f n' (V.setCell ⟨gr, J, none⟩ (.int .i64 (n' : Nat))) :=
  ⟨below_set h.1 hg _, (h.2.set (v := n') hJ).congr fun j hj => by
    by_cases c : j = J
    · rw [if_pos c, if_pos c]
    · rw [if_neg c, if_neg c, if_neg c]⟩
theorem PR.same {W0 : World} {B gr M1 J : Nat} {f : Nat → Nat} {n : Nat} {V V' : World} (h : PR W0 B gr M1 J f n V) (h1 : V'.os = V.os) (h2 : V'.tape = V.tape) (h3 : V'.output = V.output) (h4 : V'.heap = V.heap) : PR W0 B gr M1 J f n V' := by
  have b : Below V.heap.size V V' := ⟨h1, h2, h3, by rw [h4]; exact Nat.le_refl _, fun i hi => by rw [h4]⟩
  refine ⟨h.1.trans ⟨h1, h2, h3, by rw [h4]; exact Nat.le_refl _, fun i hi => by rw [h4]⟩, ?_⟩
  exact h.2.later b h.2.1
theorem drop_get {α : Type} {l : List α} {i : Nat} {x : α} (h : l[i]? = some x) : l.drop i = x :: l.drop (i + 1) := by
  obtain ⟨h1, h2⟩ := List.getElem?_eq_some_iff.1 h
  rw [List.drop_eq_getElem_cons h1, h2]
theorem lcs_db (l m : List Al.Ev) (i j : Nat) (h : l.length ≤ 100) : Al.lcs (l.drop i) (m.drop j) ≤ 100 := by
  have := (Al.lcs_bd (l.drop i) (m.drop j)).1
  simp only [List.length_drop] at this
  omega
theorem own63s {k : Nat} (h : k ≤ 1000) : k + 1 ≤ maxLen ∧ (k + 1) * 24 ≤ 140737488355328 := by unfold maxLen; omega
theorem own63t {k : Nat} (h : k ≤ 1000) : 1 + k ≤ maxLen ∧ (1 + k) * 24 ≤ 140737488355328 := by unfold maxLen; omega
theorem dn_nums (k : Nat) (h : k ≤ 200) : wrap64 ((k : Int) - 1) = (k : Int) - 1 ∧ wrap64 (((k + 1 : Nat) : Int) - 1) = (k : Int) := by unfold wrap64; omega
end Go.Proofs.YthglhcabdadlpaaDoor

namespace Go.Proofs.YthglhcabdadlpaaDoor
open Go.RowKit
set_option linter.unusedVariables false
set_option linter.unusedSimpArgs false
set_option maxRecDepth 100000
theorem own_low {w w8 : World} {base n : Nat} {e : TypeId} {v : Value} {xs : List Value} {o : Obj} (h : w.ownsRow base e 1 v n xs) (hb : base ≤ w.heap.size) (g8 : (w.alloc o).grownBy w8 v.ownBlock) : Below base w w8 :=
  ((Below.refl base w).alloc hb o).trans ⟨g8.os, g8.tape, g8.output, g8.size, fun k hk => g8.block k (by simp; omega) (fun e => by have := (World.ownsRow.lt h _ e.symm).1; omega)⟩
set_option maxHeartbeats 4000000 in
theorem rsizes_any (w : World) (a b : Option Addr) (ca cb : Nat) (l m : List Al.Ev) {B : Nat} (ha : EvR B w a l) (hb : EvR B w b m) (hB : B ≤ w.heap.size) (hl : l.length ≤ 100) (hm : m.length ≤ 100) : Calls Tryd.prog 52 #[.slice a l.length ca, .slice b m.length cb] w fun e w' => ∃ g c, e = .returned (.slice (some ⟨g, 0, none⟩) (l.length + 1) c) ∧ SzT w' g l m ∧ Below w.heap.size w w' := by
  obtain ⟨i0, hi, zi0, zi1, zi2⟩ := infoSi
  have HA := hidA ha
  have HB := hidA hb
  have HBB := hidA hB
  obtain ⟨S, hS⟩ : ∃ S, S = w.heap.size := ⟨_, rfl⟩
  have HS := hidA hS
  rw [← hS]
  obtain ⟨N, hN⟩ : ∃ N, N = l.length := ⟨_, rfl⟩
  obtain ⟨M, hM⟩ : ∃ M, M = m.length := ⟨_, rfl⟩
  have HN : Hid (N = l.length ∧ M = m.length ∧ N ≤ 100 ∧ M ≤ 100) := ⟨hN, hM, by rw [hN]; exact hl, by rw [hM]; exact hm⟩
  have e1 : wrap64 ((M : Int) + 1) = ((M + 1 : Nat) : Int) := wrM M HN.out.2.2.2
  obtain ⟨M1, hM1⟩ : ∃ M1, M1 = M + 1 := ⟨_, rfl⟩
  rw [← hM1] at e1
  have HM1 := hidA hM1
  have HMK : ∀ wz : World, (Instr.makeSlice 78 (.int .i64 (M1 : Int)) (.int .i64 (M1 : Int))).run Tryd.prog wz = .ok (.slice (some ⟨wz.heap.size, 0, none⟩) M1 M1) (wz.alloc (.cells (madeCells (Value.int .i64 0).cells (M1 * 1)) 3)) := fun wz => sz_mk wz M1 (by rw [hM1]; omega)
  have NBM : Hid (∀ wz : World, NB (wz.alloc (.cells (madeCells (Value.int .i64 0).cells (M1 * 1)) 3)) wz.heap.size M1 (fun _ => 0)) := fun wz => NB.made wz M1
  obtain ⟨MC, hMC⟩ : ∃ MC, MC = madeCells (Value.int .i64 0).cells (M1 * 1) := ⟨_, rfl⟩
  rw [← hMC] at HMK NBM
  obtain ⟨W0, hW0⟩ : ∃ W0, W0 = w.alloc (.cells MC 3) := ⟨_, rfl⟩
  have F0 : Hid (Below S w W0 ∧ W0.heap.size = S + 1 ∧ NB W0 S M1 (fun _ => 0)) := ⟨by rw [hW0, hS]; exact (Below.refl _ _).alloc (Nat.le_refl _) _, by rw [hW0, hS]; simp, by rw [hW0, hS]; exact NBM.out w⟩
  obtain ⟨W1, hW1⟩ : ∃ W1, W1 = W0.alloc (.cells #[.slice (some ⟨S, 0, none⟩) M1 M1] 78) := ⟨_, rfl⟩
  have O0 : Hid (W1.ownsRow S 78 1 (.slice (some ⟨S + 1, 0, none⟩) 1 1) 1 (slC M1 [S]) ∧ Below S w W1 ∧ SzG W1 l m N [S]) := by
    have h1 := World.ownsRow_lit (base := S) (size := 1) (e := 78) W0 #[.slice (some ⟨S, 0, none⟩) M1 M1] 1 (by rw [F0.out.2.1]; omega) (by unfold maxLen; omega) (by simp)
    rw [F0.out.2.1, ← hW1] at h1
    have b1 : Below (S + 1) W0 W1 := by rw [hW1]; exact (Below.refl _ _).alloc (by rw [F0.out.2.1]; exact Nat.le_refl _) _
    refine ⟨h1, F0.out.1.trans (b1.mono (Nat.le_succ S)), fun k g hk => ?_⟩
    cases k with
    | succ k => simp at hk
    | zero =>
      simp at hk
      subst hk
      refine ⟨by rw [hW1]; simp; rw [F0.out.2.1]; omega, fun j hj => ?_⟩
      rw [(b1.cell (p := ⟨S, _, none⟩) (Nat.lt_succ_self S)).trans (F0.out.2.2.2 j (by rw [hM1, hM]; omega)).1, Nat.add_zero, List.drop_eq_nil_of_le (by rw [hN]; exact Nat.le_refl _), Al.lcs_nil]
  have SZ0 : Hid (W0.heap.size = S + 1) := F0.out.2.1
  have TB0 : Hid (l.length + 1 = N + 1 ∧ m.length + 1 = M1) := ⟨by rw [hN], by rw [hM1, hM]⟩
  rw [← hN, ← hM]
  clear ha hb hB hl hm hN hM hM1 hMC F0
  obtain ⟨I0, hI0⟩ : ∃ I0 : Int, I0 = (N : Int) - 1 := ⟨_, rfl⟩
  have dn0 : wrap64 ((N : Int) - 1) = I0 := (dn_nums N (by have := HN.out; omega)).1.trans hI0.symm
  have HI0 := hidA hI0
  obtain ⟨S1, hS1⟩ : ∃ S1, S1 = S + 1 := ⟨_, rfl⟩
  have HS1 := hidA hS1
  rw [← hS1] at O0 SZ0
  have HW0 := hidA hW0
  have HW1 := hidA hW1
  clear hI0 hS1 hW0 hW1 hS
  go_enter Tryd.func52, Tryd.ntmps52
  go_upto_region 2 with fail
  rw [← HW0.out, ← HS.out]
  go_upto_region 3 with fail
  rw [SZ0.out, ← HW1.out, e1]
  go_wp2_with fail
  rw [dn0]
  clear dn0
  go_loopg [5, 6, 7] N (fun gk y5 y6 y7 wr => ∃ (gb : Nat) (gs : List Nat) (I : Int), y5 = .slice (some ⟨gb, 0, none⟩) M1 M1 ∧ y7 = .int .i64 I ∧ gk ≤ N ∧ Hid (I = (gk : Int) - 1) ∧ Hid (wr.ownsRow S 78 1 y6 gs.length (slC M1 gs) ∧ Below S w wr ∧ SzG wr l m gk gs ∧ gs.length + gk = N + 1 ∧ gs[0]? = some gb))
  case atStart => exact ⟨S, [S], I0, rfl, rfl, Nat.le_refl _, HI0.out, O0.out.1, O0.out.2.1, O0.out.2.2, Nat.add_comm _ _, rfl⟩
  case round =>
    obtain ⟨gb, gs, I, rfl, rfl, hgk, HI, RR⟩ := hrel
    have SW : Hid (S ≤ wr.heap.size) := by rw [HS.out]; exact RR.out.2.1.size
    rcases gk with _ | gO
    · have dk : decide ((0 : Int) ≤ I) = false := decide_eq_false (by have := HI.out; omega)
      have FIN : Hid (∃ g c, u6 = .slice (some ⟨g, 0, none⟩) (N + 1) c ∧ SzT wr g l m ∧ Below S w wr) := by
        obtain ⟨h1, h2, h3, h4, -⟩ := RR.out
        have h4' : gs.length = N + 1 := h4
        rcases h1.2 with ⟨_, hn⟩ | ⟨g, cap, cur, rfl, hbg, hg, _⟩
        · omega
        · have hc := h1.cells (g := g) rfl
          refine ⟨g, cap, by rw [h4'], ⟨(Array.getElem?_eq_some_iff.1 hg).1, fun i hi => ?_⟩, h2⟩
          obtain ⟨gi, hgi⟩ : ∃ gi, gs[i]? = some gi := ⟨_, List.getElem?_eq_getElem (by rw [h4', HN.out.1]; omega)⟩
          obtain ⟨k1, k2⟩ := h3 i gi hgi
          refine ⟨gi, ?_, k1, fun j hj => by have := k2 j hj; rwa [Nat.zero_add] at this⟩
          have := hc i (.slice (some ⟨gi, 0, none⟩) M1 M1) (by unfold slC; rw [List.getElem?_map, hgi]; rfl)
          rw [add0A] at this
          rw [this, TB0.out.2]
      obtain ⟨g, c, e6, fs, fb⟩ := FIN.out
      have FS := hidA fs
      have FB := hidA fb
      subst e6
      clear RR O0 FIN fs fb
      go_wp2_with fail
      go_ret
      exact ⟨g, c, rfl, FS.out, FB.out⟩
    · obtain rfl : I = (gO : Int) := by have := HI.out; omega
      have hgO : gO < N := hgk
      have dk : decide ((0 : Int) ≤ (gO : Int)) = true := decide_eq_true (Int.natCast_nonneg _)
      obtain ⟨n1, n2, n3⟩ := ix_nums hgO
      obtain ⟨x, hx⟩ : ∃ x, l[gO]? = some x := ⟨_, List.getElem?_eq_getElem (by rw [← HN.out.1]; exact hgO)⟩
      have HX := hidA hx
      have XD := hidA (drop_get hx)
      obtain ⟨Wi, hWi⟩ : ∃ Wi, Wi = wr := ⟨_, rfl⟩
      subst hWi
      obtain ⟨V6, hV6⟩ : ∃ V6, V6 = u6 := ⟨_, rfl⟩
      subst hV6
      obtain ⟨gr, hgr⟩ : ∃ gr, gr = Wi.heap.size := ⟨_, rfl⟩
      have HGR := hidA hgr
      obtain ⟨W2, hW2⟩ : ∃ W2, W2 = Wi.alloc (.cells MC 3) := ⟨_, rfl⟩
      have HW2 := hidA hW2
      obtain ⟨J0, hJ0⟩ : ∃ J0 : Int, J0 = (M : Int) - 1 := ⟨_, rfl⟩
      have dnM : wrap64 ((M : Int) - 1) = J0 := (dn_nums M (by have := HN.out; omega)).1.trans hJ0.symm
      have HJ0 := hidA hJ0
      have GB : Hid (gb < Wi.heap.size ∧ ∀ j, j ≤ M → Wi.cell? ⟨gb, j, none⟩ = some (.int .i64 (Al.lcs (l.drop (gO + 1)) (m.drop j) : Nat))) := by
        have h := RR.out.2.2.1 0 gb RR.out.2.2.2.2
        rw [← HN.out.2.1, Nat.add_zero] at h
        exact h
      have R0 : Hid (Below gr Wi W2 ∧ NB W2 gr M1 (fun j => if M ≤ j then Al.lcs (l.drop gO) (m.drop j) else 0)) := by
        refine ⟨by rw [hW2, hgr]; exact (Below.refl _ _).alloc (Nat.le_refl _) _, ?_⟩
        rw [hW2, hgr]
        refine (NBM.out Wi).congr fun j hj => ?_
        by_cases c : M ≤ j
        · rw [if_pos c, show m.drop j = [] from List.drop_eq_nil_of_le (by rw [← HN.out.2.1]; exact c), Al.lcs_nilr]
        · rw [if_neg c]
      have BW : Hid (Below S w Wi) := RR.out.2.1
      clear hx hgr hW2 hJ0 n2
      go_upto_region 7 with fail
      rw [← HW2.out, ← HGR.out]
      go_wp2_with fail
      go_loopg [9] M (fun gj y9 wz => ∃ J : Int, y9 = .int .i64 J ∧ gj ≤ M ∧ Hid (J = (gj : Int) - 1) ∧ Hid (Below gr Wi wz ∧ NB wz gr M1 (fun j => if gj ≤ j then Al.lcs (l.drop gO) (m.drop j) else 0)))
      case atStart => exact ⟨J0, congrArg _ dnM, Nat.le_refl _, HJ0.out, R0.out⟩
      case round =>
        obtain ⟨J, rfl, hgj, HJ, QR⟩ := hrel
        rcases gk with _ | gJ
        · have dj : decide ((0 : Int) ≤ J) = false := decide_eq_false (by have := HJ.out; omega)
          obtain ⟨Q, hQ⟩ : ∃ Q, Q = gs.length := ⟨_, rfl⟩
          have HQ : Hid (Q = gs.length ∧ 0 < Q ∧ Q ≤ 101) := by have := RR.out.2.2.2.1; have := HN.out; exact ⟨hQ, by omega, by omega⟩
          obtain ⟨g6, c6, e6⟩ : ∃ g6 c6, V6 = .slice (some ⟨g6, 0, none⟩) Q c6 := by
            rcases RR.out.1.2 with ⟨_, hn⟩ | ⟨g, cap, cur, e, _⟩
            · have := HQ.out; omega
            · exact ⟨g, cap, by rw [e, hQ]⟩
          obtain ⟨W7, hW7⟩ : ∃ W7, W7 = wr := ⟨_, rfl⟩
          subst hW7
          have B7 : Hid (Below Wi.heap.size Wi W7) := by have h := QR.out.1; rw [HGR.out] at h; exact h
          have O7 : Hid (∀ V, Below W7.heap.size W7 V → ∀ (j : Nat) (u : Value), (slC M1 gs)[j]? = some u → V.cell? ((⟨g6, 0, none⟩ : Addr).add j) = some u) := fun V hV => by
            have h := ownA (ownA RR.out.1 B7.out) hV
            exact h.cells (g := g6) (by rw [e6]; rfl)
          have N7 := hidA QR.out.2
          have H63a := hidA (own63s (k := 0) (by decide))
          have H63b := hidA (own63t (k := Q) (Nat.le_trans HQ.out.2.2 (by decide)))
          have ON0 : Hid (W7.ownsRow W7.heap.size 78 1 (.slice none 0 0) 0 []) := World.ownsRow_nil _ _ _ _
          have ONE : Hid (∀ u ∈ [Value.slice (some ⟨gr, 0, none⟩) M1 M1], u.oneCell' = true) := slC_one M1 [gr]
          have ONS := hidA (slC_one M1 gs)
          have LS : Hid ((slC M1 gs).length = Q * 1) := by unfold Hid; rw [slC_len, hQ, Nat.mul_one]
          subst e6
          clear hQ QR HX XD
          go_wp2_with (first
            | (have qq := OR2.out; at_builtin; refine wpList_append_tolA rfl _ _ 90 rfl W7.heap.size 78 i0 (.slice none 0 0) 1 24 Tryd.underlying90 hi zi0 zi1 zi2 rfl (by decide) _ _ _ rfl OR2.out ⟨g6, 0, none⟩ Q c6 (slC M1 gs) rfl LS.out (O7.out _ B8.out) ONS.out H63b.out.1 H63b.out.2 B8.out.size HQ.out.2.1 ?_)
            | (at_builtin; refine wpList_append_tolA rfl _ _ 90 rfl W7.heap.size 78 i0 (.slice none 0 0) 1 24 Tryd.underlying90 hi zi0 zi1 zi2 rfl (by decide) _ _ _ rfl (ownA ON0.out ((Below.refl _ _).alloc (Nat.le_refl _) _)) ⟨W7.heap.size, 0, none⟩ 1 1 [.slice (some ⟨gr, 0, none⟩) M1 M1] rfl rfl (one1A _ _ _) ONE.out H63a.out.1 H63a.out.2 (by simp) (by decide) ?_; intro v8 w8 h8 g8 o8; have B8 := hidA (own_low ON0.out (Nat.le_refl _) g8); have OR2 := hidA h8; clear h8 g8 o8))
          intro v9 w9 h9 g9 o9
          have F9 : Hid (w9.ownsRow S 78 1 v9 (gr :: gs).length (slC M1 (gr :: gs)) ∧ Below S w w9 ∧ SzG w9 l m gO (gr :: gs) ∧ (gr :: gs).length + gO = N + 1) := by
            have b9 : Below W7.heap.size W7 w9 := B8.out.trans ⟨g9.os, g9.tape, g9.output, g9.size, fun k hk => g9.block k (Nat.lt_of_lt_of_le hk B8.out.size) (fun e => by have := (World.ownsRow.lt OR2.out _ e.symm).1; omega)⟩
            have s7 : S ≤ W7.heap.size := Nat.le_trans SW.out B7.out.size
            have h : w9.ownsRow W7.heap.size 78 1 v9 (1 + Q) (slC M1 (gr :: gs)) := h9
            rw [show 1 + Q = (gr :: gs).length by rw [List.length_cons, ← HQ.out.1, Nat.add_comm]] at h
            refine ⟨⟨h.1, ?_⟩, BW.out.trans ((B7.out.mono SW.out).trans (b9.mono s7)), ?_, by have := RR.out.2.2.2.1; simp only [List.length_cons]; omega⟩
            · rcases h.2 with h | ⟨g, cap, cur, e, hg, r⟩
              · exact .inl h
              · exact .inr ⟨g, cap, cur, e, Nat.le_trans s7 hg, r⟩
            · have n9 := N7.out.later b9 N7.out.1
              refine ((RR.out.2.2.1.later B7.out).later b9).cons n9.1 fun j hj => ?_
              have := (n9.2 j (by rw [HM1.out, HN.out.2.1]; omega)).1
              exact this
          clear h9 g9 o9 RR GB R0 N7 O7 B7 B8 OR2
          have dO := (dn_nums gO (by have := HN.out; omega)).1
          go_wp2_with fail
          go_roundg gO
          case measure => omega
          case rel => exact ⟨gr, gr :: gs, _, rfl, rfl, Nat.le_of_lt hgO, dO, F9.out.1, F9.out.2.1, F9.out.2.2.1, F9.out.2.2.2, rfl⟩
        · obtain rfl : J = (gJ : Int) := by have := HJ.out; omega
          have hgJ : gJ < M := hgj
          have dj : decide ((0 : Int) ≤ (gJ : Int)) = true := decide_eq_true (Int.natCast_nonneg _)
          obtain ⟨y, hy⟩ : ∃ y, m[gJ]? = some y := ⟨_, List.getElem?_eq_getElem (by rw [← HN.out.2.1]; exact hgJ)⟩
          have HM2 : Hid (gJ < M1 ∧ gJ + 1 < M1) := by have := HM1.out; exact ⟨by omega, by omega⟩
          obtain ⟨U, hU⟩ : ∃ U, U = Al.lcs (l.drop (gO + 1)) (m.drop gJ) := ⟨_, rfl⟩
          obtain ⟨L, hL⟩ : ∃ L, L = Al.lcs (l.drop gO) (m.drop (gJ + 1)) := ⟨_, rfl⟩
          obtain ⟨D, hD⟩ : ∃ D, D = Al.lcs (l.drop (gO + 1)) (m.drop (gJ + 1)) := ⟨_, rfl⟩
          have ST : Hid (Al.lcs (l.drop gO) (m.drop gJ) = (if x = y ∧ (if U < L then L else U) < D + 1 then D + 1 else (if U < L then L else U))) := by
            unfold Hid
            rw [hU, hL, hD, XD.out, drop_get hy]
            exact Al.lcs_stb (l.drop (gO + 1)) (m.drop (gJ + 1)) x y
          have DB : Hid (D ≤ 100) := by rw [hD]; exact lcs_db _ _ _ _ (by rw [← HN.out.1]; exact HN.out.2.2.1)
          obtain ⟨F, hF⟩ : ∃ F : Nat → Nat, F = fun j => if gJ + 1 ≤ j then Al.lcs (l.drop gO) (m.drop j) else 0 := ⟨_, rfl⟩
          have FL : Hid (F (gJ + 1) = L) := by rw [hF, hL]; exact if_pos (Nat.le_refl _)
          have FE : Hid (∀ V, PR Wi gr gr M1 gJ F (Al.lcs (l.drop gO) (m.drop gJ)) V → NB V gr M1 (fun j => if gJ ≤ j then Al.lcs (l.drop gO) (m.drop j) else 0)) := fun V h => h.2.congr fun j hj => by
            rw [hF]
            show (if j = gJ then Al.lcs (l.drop gO) (m.drop gJ) else if gJ + 1 ≤ j then Al.lcs (l.drop gO) (m.drop j) else 0) = if gJ ≤ j then Al.lcs (l.drop gO) (m.drop j) else 0
            by_cases c : j = gJ
            · rw [if_pos c, if_pos (by omega), c]
            · rw [if_neg c]
              by_cases c2 : gJ + 1 ≤ j
              · rw [if_pos c2, if_pos (by omega)]
              · rw [if_neg c2, if_neg (by omega)]
          have P0 : Hid (PR Wi gr gr M1 gJ F (F gJ) wr) := ⟨QR.out.1, QR.out.2.congr fun j hj => by
            rw [hF]
            by_cases c : j = gJ
            · rw [if_pos c, c]
            · rw [if_neg c]⟩
          have CB : Hid (∀ V n, PR Wi gr gr M1 gJ F n V → V.cell? ⟨gb, gJ, none⟩ = some (.int .i64 (U : Int)) ∧ V.cell? ⟨gb, gJ + 1, none⟩ = some (.int .i64 (D : Int)) ∧ V.cell? ⟨gr, gJ + 1, none⟩ = some (.int .i64 (L : Int)) ∧ V.cell? ⟨gr, gJ, none⟩ = some (.int .i64 (n : Int)) ∧ V.frozen? ⟨gr, gJ, none⟩ = false) := fun V n h => by
            have hb := GB.out.1
            have b1 := h.1
            rw [HGR.out] at b1
            refine ⟨(b1.cell (p := ⟨gb, _, none⟩) hb).trans ?_, (b1.cell (p := ⟨gb, _, none⟩) hb).trans ?_, ?_, ?_, ?_⟩
            · rw [hU]; exact GB.out.2 gJ (Nat.le_of_lt hgJ)
            · rw [hD]; exact GB.out.2 (gJ + 1) hgJ
            · have this : V.cell? ⟨gr, gJ + 1, none⟩ = some (.int .i64 ((if gJ + 1 = gJ then n else F (gJ + 1) : Nat) : Int)) := (h.2.2 (gJ + 1) HM2.out.2).1
              rw [if_neg (by omega), FL.out] at this
              exact this
            · have this : V.cell? ⟨gr, gJ, none⟩ = some (.int .i64 ((if gJ = gJ then n else F gJ : Nat) : Int)) := (h.2.2 gJ HM2.out.1).1
              rw [if_pos rfl] at this
              exact this
            · exact (h.2.2 gJ HM2.out.1).2
          have EV : Hid (∀ V n, PR Wi gr gr M1 gJ F n V → ∃ ga oa gb ob, a = some ⟨ga, oa, none⟩ ∧ b = some ⟨gb, ob, none⟩ ∧ EvC V ga (oa + gO * 2) x ∧ EvC V gb (ob + gJ * 2) y) := fun V n h => by
            have b1 := h.1
            have bb : Below w.heap.size w V := by rw [← HS.out]; exact BW.out.trans (b1.mono (by rw [HGR.out]; exact SW.out))
            obtain ⟨ga, oa, e1, -, ca⟩ := (HA.out.later bb HBB.out) (by rw [← HN.out.1]; exact Nat.lt_of_le_of_lt (Nat.zero_le gO) hgO)
            obtain ⟨gb, ob, e2, -, cb⟩ := (HB.out.later bb HBB.out) (by rw [← HN.out.2.1]; exact Nat.lt_of_le_of_lt (Nat.zero_le gJ) hgJ)
            exact ⟨ga, oa, gb, ob, e1, e2, ca gO x HX.out, cb gJ y hy⟩
          clear hU hL hD hF hy QR R0
          obtain ⟨u0, u1, l0, r0, f0⟩ := CB.out wr _ P0.out
          obtain ⟨i1, i2, i3⟩ := ix_nums HM2.out.1
          obtain ⟨j1, j2, j3⟩ := ix_nums HM2.out.2
          have P1 : Hid (PR Wi gr gr M1 gJ F U (wr.setCell ⟨gr, gJ, none⟩ (.int .i64 (U : Int)))) := P0.out.set (Nat.le_refl _) HM2.out.1
          obtain ⟨W3, hW3⟩ : ∃ W3, W3 = wr.setCell ⟨gr, gJ, none⟩ (.int .i64 (U : Int)) := ⟨_, rfl⟩
          rw [← hW3] at P1
          have HW3 := hidA hW3
          clear hW3
          have WJ := wrK gJ (Nat.le_trans (Nat.le_of_lt hgJ) (Nat.le_trans HN.out.2.2.2 (by decide)))
          obtain ⟨J1, hJ1⟩ : ∃ J1, J1 = gJ + 1 := ⟨_, rfl⟩
          have HJ1 := hidA hJ1
          rw [← hJ1] at WJ j1 j2 j3 u1 l0
          clear hJ1
          obtain ⟨n, hn⟩ : ∃ n, n = if U < L then L else U := ⟨_, rfl⟩
          rw [← hn] at ST
          have HNN := hidA hn
          clear hn
          go_upto_region 11 with fail
          rw [← HW3.out]
          obtain ⟨a1, a2, a3, a4, a5⟩ := CB.out W3 _ P1.out
          rw [← HJ1.out] at a2 a3
          clear u0 u1 l0 r0 f0
          obtain ⟨q, hq⟩ : ∃ q, q = decide (U < L) := ⟨_, rfl⟩
          have d1 : decide ((U : Int) < (L : Int)) = q := by
            rw [hq]
            exact decide_eq_decide.2 Int.ofNat_lt
          have d2 : decide (U < L) = q := hq.symm
          have HQ := hidA hq
          clear hq
          go_quiet (fail)
          have P2 := hidA (P1.out.same (V' := W3.drewN nq) (by rfl) (by rfl) (by rfl) (by rfl))
          generalize W3.drewN nq = W4 at *
          clear a1 a2 a3 a4 a5
          obtain ⟨a1, a2, a3, a4, a5⟩ := CB.out W4 _ P2.out
          rw [← HJ1.out] at a2 a3
          clear P1 d1 d2
          go_upto_if 51 with fail
          go_cut [8] from 52 to 59 (fun s8 wx => s8 = .slice (some ⟨gr, 0, none⟩) M1 M1 ∧ Hid (PR Wi gr gr M1 gJ F n wx))
          case first =>
            cases q with
            | true =>
              have P3 : Hid (PR Wi gr gr M1 gJ F n (W4.setCell ⟨gr, gJ, none⟩ (.int .i64 (L : Int)))) := by
                have h := P2.out.set (n' := L) (Nat.le_refl _) HM2.out.1
                have c : U < L := of_decide_eq_true HQ.out.symm
                rw [show n = L by rw [HNN.out, if_pos c]]
                exact h
              go_wp2_with fail
              go_meet
              exact ⟨rfl, P3.out⟩
            | false =>
              have P3 : Hid (PR Wi gr gr M1 gJ F n W4) := by
                have c : ¬ U < L := of_decide_eq_false HQ.out.symm
                rw [show n = U by rw [HNN.out, if_neg c]]
                exact P2.out
              go_wp2_with fail
              go_meet
              exact ⟨rfl, P3.out⟩
          case rest =>
            obtain ⟨rfl, P3⟩ := hcut
            obtain ⟨W5, hW5⟩ : ∃ W5, W5 = wc := ⟨_, rfl⟩
            subst hW5
            clear P2 a1 a2 a3 a4 a5
            obtain ⟨a1, a2, a3, a4, a5⟩ := CB.out W5 _ P3.out
            rw [← HJ1.out] at a2 a3
            obtain ⟨ga, oa, gx, ob, rfl, rfl, ca, cb⟩ := EV.out W5 _ P3.out
            obtain ⟨x0, x1⟩ := ca
            obtain ⟨y0, y1⟩ := cb
            have WD := wrM D DB.out
            have WD2 := wrM' D (Nat.le_trans DB.out (by decide))
            obtain ⟨D1, hD1⟩ : ∃ D1, D1 = D + 1 := ⟨_, rfl⟩
            rw [← hD1] at ST WD WD2
            have dJ := (dn_nums gJ (by have := HN.out; omega)).1
            clear hD1
            obtain ⟨m1, m2, m3⟩ := ix_nums hgJ
            by_cases hxy : x = y
            · by_cases c : n < D1
              · have c1 : decide ((n : Int) < (D1 : Int)) = true := decide_eq_true (Int.ofNat_lt.2 c)
                have c2 : decide (n < D1) = true := decide_eq_true c
                have RS : Hid (Al.lcs (l.drop gO) (m.drop gJ) = D1) := by rw [ST.out, if_pos ⟨hxy, c⟩]; exact hidA rfl
                have z0 : (x.1 == y.1) = true := by rw [hxy]; exact beq_self_eq_true _
                have z9 : (x.2 == y.2) = true := by rw [hxy]; exact beq_self_eq_true _
                clear c hxy ST
                generalize x.1 = xa at x0 z0
                generalize x.2 = xb at x1 z9
                generalize y.1 = ya at y0 z0
                generalize y.2 = yb at y1 z9
                go_upto_region 13 with fail
                go_quiet (fail)
                have P4 := hidA (P3.out.same (V' := W5.drewN nq) (by rfl) (by rfl) (by rfl) (by rfl))
                generalize W5.drewN nq = W6 at *
                clear a1 a2 a3 a4 a5
                obtain ⟨a1, a2, a3, a4, a5⟩ := CB.out W6 _ P4.out
                rw [← HJ1.out] at a2 a3
                have FIN : Hid (Below gr Wi (W6.setCell ⟨gr, gJ, none⟩ (.int .i64 (D1 : Int))) ∧ NB (W6.setCell ⟨gr, gJ, none⟩ (.int .i64 (D1 : Int))) gr M1 (fun j => if gJ ≤ j then Al.lcs (l.drop gO) (m.drop j) else 0)) := by
                  have h := P4.out.set (n' := D1) (Nat.le_refl _) HM2.out.1
                  exact ⟨h.1, FE.out _ (by rw [RS.out]; exact h)⟩
                go_wp2_with fail
                go_roundg gJ
                case measure => omega
                case rel => exact ⟨_, rfl, Nat.le_of_lt hgJ, dJ, FIN.out⟩
              · have c1 : decide ((n : Int) < (D1 : Int)) = false := decide_eq_false (fun h => c (Int.ofNat_lt.1 h))
                have c2 : decide (n < D1) = false := decide_eq_false c
                have RS : Hid (Al.lcs (l.drop gO) (m.drop gJ) = n) := by rw [ST.out, if_neg (fun h => c h.2)]; exact hidA rfl
                have z0 : (x.1 == y.1) = true := by rw [hxy]; exact beq_self_eq_true _
                have z9 : (x.2 == y.2) = true := by rw [hxy]; exact beq_self_eq_true _
                clear c hxy ST
                generalize x.1 = xa at x0 z0
                generalize x.2 = xb at x1 z9
                generalize y.1 = ya at y0 z0
                generalize y.2 = yb at y1 z9
                go_upto_region 13 with fail
                go_quiet (fail)
                have P4 := hidA (P3.out.same (V' := W5.drewN nq) (by rfl) (by rfl) (by rfl) (by rfl))
                generalize W5.drewN nq = W6 at *
                clear a1 a2 a3 a4 a5
                have FIN : Hid (Below gr Wi W6 ∧ NB W6 gr M1 (fun j => if gJ ≤ j then Al.lcs (l.drop gO) (m.drop j) else 0)) := ⟨P4.out.1, FE.out _ (by rw [RS.out]; exact P4.out)⟩
                go_wp2_with fail
                go_roundg gJ
                case measure => omega
                case rel => exact ⟨_, rfl, Nat.le_of_lt hgJ, dJ, FIN.out⟩
            · have RS : Hid (Al.lcs (l.drop gO) (m.drop gJ) = n) := by rw [ST.out, if_neg (fun h => hxy h.1)]; exact hidA rfl
              have zz := ev_ne hxy
              clear hxy ST
              generalize x.1 = xa at x0 zz
              generalize x.2 = xb at x1 zz
              generalize y.1 = ya at y0 zz
              generalize y.2 = yb at y1 zz
              rcases zz with z0 | ⟨z0, z9⟩
              all_goals
                go_upto_region 13 with fail
                go_quiet (fail)
                have P4 := hidA (P3.out.same (V' := W5.drewN nq) (by rfl) (by rfl) (by rfl) (by rfl))
                generalize W5.drewN nq = W6 at *
                clear a1 a2 a3 a4 a5
                have FIN : Hid (Below gr Wi W6 ∧ NB W6 gr M1 (fun j => if gJ ≤ j then Al.lcs (l.drop gO) (m.drop j) else 0)) := ⟨P4.out.1, FE.out _ (by rw [RS.out]; exact P4.out)⟩
                go_wp2_with fail
                go_roundg gJ
                case measure => omega
                case rel => exact ⟨_, rfl, Nat.le_of_lt hgJ, dJ, FIN.out⟩
end Go.Proofs.YthglhcabdadlpaaDoor

namespace Go.Proofs.YthglhcabdadlpaaDoor.Al
set_option linter.unusedVariables false
set_option linter.unusedSimpArgs false
/-- What the search for an index of b has found up to h. -/
def FN (T : Option Nat) (e : Ev) (a : List Ev) (L : Nat) (m : List Ev) (y h : Nat) (F : Int) : Prop :=
  (F = -1 ∧ y ≤ h ∧ T = (fnd e a L (m.drop h)).map (· + (h - y))) ∨ (∃ k, F = ((y + k : Nat) : Int) ∧ T = some k ∧ y + k < m.length)
theorem FN.start (e : Ev) (a : List Ev) (L : Nat) (m : List Ev) (y : Nat) : FN (fnd e a L (m.drop y)) e a L m y y (-1) :=
  .inl ⟨rfl, Nat.le_refl _, by rw [Nat.sub_self]; cases fnd e a L (m.drop y) <;> rfl⟩
theorem FN.none {T : Option Nat} {e : Ev} {a : List Ev} {L : Nat} {m : List Ev} {y : Nat} (h : FN T e a L m y m.length (-1)) : T = none := by
  rcases h with ⟨-, -, h⟩ | ⟨k, h, -⟩
  · rw [h, List.drop_eq_nil_of_le (Nat.le_refl _)]
    rfl
  · omega
theorem FN.hit {T : Option Nat} {e yv : Ev} {a : List Ev} {L : Nat} {m : List Ev} {y h : Nat} (hF : FN T e a L m y h (-1)) (hy : m[h]? = some yv) (he : e = yv) (hL : lcs a (m.drop (h + 1)) + 1 = L) : FN T e a L m y (h + 1) (h : Int) := by
  rcases hF with ⟨-, h1, h2⟩ | ⟨k, h, -⟩
  · refine .inr ⟨h - y, by omega, ?_, ?_⟩
    · rw [h2, drop_get hy]
      unfold fnd
      rw [if_pos ⟨he, hL⟩]
      simp
    · obtain ⟨h3, -⟩ := List.getElem?_eq_some_iff.1 hy
      omega
  · omega
theorem FN.miss {T : Option Nat} {e yv : Ev} {a : List Ev} {L : Nat} {m : List Ev} {y h : Nat} (hF : FN T e a L m y h (-1)) (hy : m[h]? = some yv) (hn : ¬ (e = yv ∧ lcs a (m.drop (h + 1)) + 1 = L)) : FN T e a L m y (h + 1) (-1) := by
  rcases hF with ⟨-, h1, h2⟩ | ⟨k, h, -⟩
  · refine .inl ⟨rfl, by omega, ?_⟩
    have hs : fnd e a L (yv :: m.drop (h + 1)) = (fnd e a L (m.drop (h + 1))).map (· + 1) := by
      rw [fnd, if_neg hn]
    rw [h2, drop_get hy, hs]
    cases fnd e a L (m.drop (h + 1)) with
    | none => rfl
    | some k => simp; omega
  · omega
/-- One index of a. -/
theorem mtR_step {i j x y : Nat} {l m : List Ev} {e : Ev} (he : l[x]? = some e) (h0 : lcs (l.drop x) (m.drop y) ≠ 0) :
    mtR (i + x) (j + y) (l.drop x) (m.drop y) = match fnd e (l.drop (x + 1)) (lcs (l.drop x) (m.drop y)) (m.drop y) with
      | some k => (i + x, j + (y + k)) :: mtR (i + (x + 1)) (j + (y + k + 1)) (l.drop (x + 1)) (m.drop (y + k + 1))
      | none => mtR (i + (x + 1)) (j + y) (l.drop (x + 1)) (m.drop y) := by
  rw [drop_get he] at h0 ⊢
  rw [mtR, if_neg h0]
  cases fnd e (l.drop (x + 1)) (lcs (e :: l.drop (x + 1)) (m.drop y)) (m.drop y) with
  | none => rfl
  | some k =>
    simp only [List.drop_drop]
    rw [show j + y + k = j + (y + k) from by omega, show i + x + 1 = i + (x + 1) from rfl, show j + (y + k) + 1 = j + (y + k + 1) from by omega, show y + (k + 1) = y + k + 1 from by omega]
theorem mtR_two {i j x y : Nat} {l m : List Ev} {e : Ev} (he : l[x]? = some e) (h0 : lcs (l.drop x) (m.drop y) ≠ 0) :
    (∀ k, fnd e (l.drop (x + 1)) (lcs (l.drop x) (m.drop y)) (m.drop y) = some k → mtR (i + x) (j + y) (l.drop x) (m.drop y) = (i + x, j + (y + k)) :: mtR (i + (x + 1)) (j + (y + k + 1)) (l.drop (x + 1)) (m.drop (y + k + 1))) ∧
    (fnd e (l.drop (x + 1)) (lcs (l.drop x) (m.drop y)) (m.drop y) = none → mtR (i + x) (j + y) (l.drop x) (m.drop y) = mtR (i + (x + 1)) (j + y) (l.drop (x + 1)) (m.drop y)) := by
  have h := mtR_step (i := i) (j := j) he h0
  constructor
  · intro k hk
    rw [hk] at h
    exact h
  · intro hk
    rw [hk] at h
    exact h
theorem mtR_no {i j x y : Nat} {l m : List Ev} (h0 : lcs (l.drop x) (m.drop y) = 0) : mtR (i + x) (j + y) (l.drop x) (m.drop y) = [] := by
  cases hx : l.drop x with
  | nil => rfl
  | cons e a =>
    rw [hx] at h0
    rw [mtR, if_pos h0]
end Go.Proofs.YthglhcabdadlpaaDoor.Al

namespace Go.Proofs.YthglhcabdadlpaaDoor
open Go.RowKit
set_option linter.unusedVariables false
set_option linter.unusedSimpArgs false
set_option maxRecDepth 100000
theorem ls_nums {N T x y : Nat} (hN : N ≤ 100) (hT : T ≤ N) (hx : x ≤ 100) (hy : y ≤ 100) : wrap64 ((N : Int) - (T : Int)) = ((N - T : Nat) : Int) ∧ wrap64 ((T : Int) + (x : Int)) = ((T + x : Nat) : Int) ∧ wrap64 ((T : Int) + (y : Int)) = ((T + y : Nat) : Int) := by
  unfold wrap64; omega
theorem ls_in {T P1 P2 N M x h : Nat} (hN : T + P1 = N) (hM : T + P2 = M) (h1 : P1 ≤ 100) (h2 : P2 ≤ 100) (h3 : T ≤ 100) (hx : x < P1) (hh : h < P2) : T + x < N ∧ T + h < M ∧ wrap64 ((T : Int) + (x : Int)) = ((T + x : Nat) : Int) ∧ wrap64 ((T : Int) + (h : Int)) = ((T + h : Nat) : Int) ∧ wrap64 ((h : Int) + 1) = ((h + 1 : Nat) : Int) := by
  unfold wrap64; omega
theorem ne_beqN {a b : Nat} (h : a ≠ b) : ((a : Int) == (b : Int)) = false := by
  simp; omega
/-- The same memory, whatever was drawn. -/
def SM (w w' : World) : Prop := w'.os = w.os ∧ w'.tape = w.tape ∧ w'.output = w.output ∧ w'.heap = w.heap
theorem SM.below {w w' : World} (h : SM w w') (B : Nat) : Below B w w' := ⟨h.1, h.2.1, h.2.2.1, by rw [h.2.2.2]; exact Nat.le_refl _, fun i _ => by rw [h.2.2.2]⟩
theorem SM.refl (w : World) : SM w w := ⟨rfl, rfl, rfl, rfl⟩
set_option maxHeartbeats 4000000 in
theorem rleast_any (w : World) (a b : Option Addr) (ca cb : Nat) (l m : List Al.Ev) (T : Nat) {B : Nat} (ha : EvR B w a l) (hb : EvR B w b m) (hB : B ≤ w.heap.size) (hl : l.length ≤ 100) (hm : m.length ≤ 100) (hca : l.length ≤ ca) (hcb : m.length ≤ cb) (hT1 : T ≤ l.length) (hT2 : T ≤ m.length) :
    Calls Tryd.prog 38 #[.slice a l.length ca, .slice b m.length cb, .int .i64 (T : Int), .int .i64 (T : Int)] w fun e w' => ∃ v, e = .returned v ∧ OwP w' w.heap.size 66 v (Al.prs (Al.mtR T T (l.drop T) (m.drop T))) ∧ Below w.heap.size w w' := by
  obtain ⟨i0, hi, zi0, zi1, zi2⟩ := infoRp
  obtain ⟨iv, hv, vz, vs1, vb⟩ := infoEv
  obtain ⟨P1, hP1⟩ : ∃ P1, P1 = l.length - T := ⟨_, rfl⟩
  obtain ⟨P2, hP2⟩ : ∃ P2, P2 = m.length - T := ⟨_, rfl⟩
  obtain ⟨l', hl'⟩ : ∃ l', l' = l.drop T := ⟨_, rfl⟩
  obtain ⟨m', hm'⟩ : ∃ m', m' = m.drop T := ⟨_, rfl⟩
  have LL : Hid (l'.length = P1 ∧ m'.length = P2 ∧ P1 ≤ 100 ∧ P2 ≤ 100 ∧ T ≤ 100) := ⟨by rw [hl', hP1, List.length_drop], by rw [hm', hP2, List.length_drop], by omega, by omega, by omega⟩
  have GA : Hid (∀ x, l'[x]? = l[T + x]?) := fun x => by rw [hl', List.getElem?_drop]
  have GB : Hid (∀ x, m'[x]? = m[T + x]?) := fun x => by rw [hm', List.getElem?_drop]
  have SQ : Hid (∀ (wz : World) (x y : Option Addr) (cx cy : Nat), Below w.heap.size w wz → EvR B wz x l' → EvR B wz y m' → Calls Tryd.prog 52 #[.slice x P1 cx, .slice y P2 cy] wz fun e w' => ∃ g c, e = .returned (.slice (some ⟨g, 0, none⟩) (P1 + 1) c) ∧ SzT w' g l' m' ∧ Below w.heap.size w w') := fun wz x y cx cy hz hx hy => by
    have h := rsizes_any wz x y cx cy l' m' hx hy (Nat.le_trans hB hz.size) (by rw [LL.out.1]; exact LL.out.2.2.1) (by rw [LL.out.2.1]; exact LL.out.2.2.2.1)
    rw [LL.out.1, LL.out.2.1] at h
    exact h.mono fun e w' h => by
      obtain ⟨g, c, h1, h2, h3⟩ := h
      exact ⟨g, c, h1, h2, hz.trans (h3.mono hz.size)⟩
  obtain ⟨XA, hsa, hra⟩ := slA Tryd.underlying22 (by kernel_rfl) hv vs1 a hT1 hca (P := Tryd.prog)
  obtain ⟨XB, hsb, hrb⟩ := slA Tryd.underlying22 (by kernel_rfl) hv vs1 b hT2 hcb (P := Tryd.prog)
  have EX : Hid (∀ wz, Below w.heap.size w wz → EvR B wz XA l' ∧ EvR B wz XB m') := fun wz hz => by
    rw [hl', hm']
    exact ⟨hra B wz l rfl (ha.later hz hB), hrb B wz m rfl (hb.later hz hB)⟩
  have EA : Hid (∀ wz, Below w.heap.size w wz → EvR B wz a l ∧ EvR B wz b m) := fun wz hz => ⟨ha.later hz hB, hb.later hz hB⟩
  obtain ⟨TG, hTG⟩ : ∃ TG, TG = Al.prs (Al.mtR T T l' m') := ⟨_, rfl⟩
  rw [← hl', ← hm', ← hTG]
  have HTG := hidA hTG
  have nA := (ls_nums (x := 0) (y := 0) hl hT1 (by decide) (by decide)).1
  have nB := (ls_nums (x := 0) (y := 0) hm hT2 (by decide) (by decide)).1
  rw [← hP1] at nA hsa
  rw [← hP2] at nB hsb
  obtain ⟨N, hN⟩ : ∃ N, N = l.length := ⟨_, rfl⟩
  obtain ⟨M, hM⟩ : ∃ M, M = m.length := ⟨_, rfl⟩
  have LN : Hid (N = l.length ∧ M = m.length ∧ T + P1 = N ∧ T + P2 = M) := ⟨hN, hM, by omega, by omega⟩
  rw [← hN] at nA hsa
  rw [← hM] at nB hsb
  rw [← hN, ← hM]
  clear hra hrb ha hb hB hl hm hca hcb hT1 hT2 hP1 hP2 hl' hm' hTG hN hM
  obtain ⟨Q1, hQ1⟩ : ∃ Q1, Q1 = P1 + 1 := ⟨_, rfl⟩
  obtain ⟨Q2, hQ2⟩ : ∃ Q2, Q2 = P2 + 1 := ⟨_, rfl⟩
  have HQ : Hid (Q1 = P1 + 1 ∧ Q2 = P2 + 1) := ⟨hQ1, hQ2⟩
  rw [← hQ1] at SQ
  clear hQ1 hQ2
  obtain ⟨S, hS⟩ : ∃ S, S = w.heap.size := ⟨_, rfl⟩
  have HS := hidA hS
  rw [← hS]
  rw [← hS] at SQ EX EA
  clear hS
  have B0 : Hid (Below S w w) := Below.refl _ _
  go_enter Tryd.func38, Tryd.ntmps38
  go_upto_region 1 with fail
  go_cut [9] from 15 to 21 (fun s9 wx => ∃ g c, s9 = .slice (some ⟨g, 0, none⟩) Q1 c ∧ Hid (SzT wx g l' m' ∧ Below S w wx))
  case first =>
    have z1 : ∀ wz, Below S w wz → Below S w wz := fun _ h => h
    go_region_with (first
      | (go_at_call 52; refine Calls.mono (SQ.out _ _ _ _ _ (B0.out.trans (by go_grown)) (EX.out _ (B0.out.trans (by go_grown))).1 (EX.out _ (B0.out.trans (by go_grown))).2) ?_; rintro e5 w5 ⟨g, c, rfl, hh⟩; have H5 := hidA hh; clear hh))
    all_goals
      go_wp2_with fail
      go_meet
      exact ⟨_, _, rfl, H5.out⟩
  case rest =>
    obtain ⟨g, c9, rfl, H5⟩ := hcut
    obtain ⟨W1, hW1⟩ : ∃ W1, W1 = wc := ⟨_, rfl⟩
    subst hW1
    obtain ⟨S2, hS2⟩ : ∃ S2, S2 = W1.heap.size := ⟨_, rfl⟩
    have HS2 := hidA hS2
    have TB : Hid (SzT W1 g l' m') := H5.out.1
    have BW1 : Hid (Below S w W1) := H5.out.2
    have SS : Hid (S ≤ S2) := by rw [HS2.out, HS.out]; rw [HS.out] at BW1; exact BW1.out.size
    have RD : Hid (∀ wz, Below S2 W1 wz → ∀ x, x ≤ P1 → ∃ gi, wz.cell? ⟨g, x, none⟩ = some (.slice (some ⟨gi, 0, none⟩) Q2 Q2) ∧ ∀ y, y ≤ P2 → wz.cell? ⟨gi, y, none⟩ = some (.int .i64 (Al.lcs (l'.drop x) (m'.drop y) : Nat))) := fun wz hz x hx => by
      rw [HS2.out] at hz
      obtain ⟨gi, h1, -, h3⟩ := (TB.out.later hz).2 x (by rw [LL.out.1]; exact hx)
      rw [LL.out.2.1, ← HQ.out.2] at h1
      exact ⟨gi, h1, fun y hy => h3 y (by rw [LL.out.2.1]; exact hy)⟩
    have EV2 : Hid (∀ wz, Below S2 W1 wz → EvR B wz a l ∧ EvR B wz b m) := fun wz hz => EA.out wz (BW1.out.trans (hz.mono SS.out))
    have ATS : Hid (([] : List Al.Ev) ++ Al.prs (Al.mtR (T + 0) (T + 0) (l'.drop 0) (m'.drop 0)) = TG) := by
      rw [HTG.out]
      exact hidA rfl
    clear hsa hsb H5 hS2 SQ EX EA TB HTG
    go_wp2_with fail
    go_loopg [10, 11, 12] P1 (fun gk y10 y11 y12 wr => ∃ (x y : Nat) (acc : List Al.Ev), x + gk = P1 ∧ y11 = .int .i64 x ∧ y12 = .int .i64 y ∧ Hid (y ≤ P2 ∧ OwP wr S2 66 y10 acc ∧ Below S2 W1 wr ∧ acc ++ Al.prs (Al.mtR (T + x) (T + y) (l'.drop x) (m'.drop y)) = TG ∧ acc.length ≤ x))
    case atStart => exact ⟨0, 0, [], Nat.zero_add _, rfl, rfl, Nat.zero_le _, OwP.nil _ _ _, Below.refl _ _, ATS.out, Nat.le_refl _⟩
    case round =>
      obtain ⟨x, y, acc, hk, rfl, rfl, RR⟩ := hrel
      have FINI : Hid (Al.lcs (l'.drop x) (m'.drop y) = 0 → OwP wr S 66 u10 TG ∧ Below S w wr) := fun h => by
        have h1 := RR.out.2.2.2.1
        rw [Al.mtR_no h] at h1
        have h2 : acc = TG := by simpa [Al.prs] using h1
        rw [← h2]
        exact ⟨RR.out.2.1.base SS.out, BW1.out.trans (RR.out.2.2.1.mono SS.out)⟩
      rcases gk with _ | gO
      · obtain rfl : P1 = x := by omega
        have d1 : decide ((P1 : Int) < (P1 : Int)) = false := decide_eq_false (Int.lt_irrefl _)
        have FIN := hidA (FINI.out (by rw [List.drop_eq_nil_of_le (show l'.length ≤ P1 by rw [LL.out.1]; exact Nat.le_refl _), Al.lcs_nil]))
        clear FINI RR ATS
        go_wp2_with fail
        go_ret
        exact ⟨_, rfl, FIN.out⟩
      · obtain ⟨k6, dk, dk2, hxP, hk3⟩ := mch_k hk
        by_cases hy2 : y < P2
        case neg =>
          have d1 : decide ((y : Int) < (P2 : Int)) = false := decide_eq_false (fun h => hy2 (Int.ofNat_lt.1 h))
          have d2 : decide (y < P2) = false := decide_eq_false hy2
          have FIN := hidA (FINI.out (by rw [show m'.drop y = [] from List.drop_eq_nil_of_le (by rw [LL.out.2.1]; omega), Al.lcs_nilr]))
          clear FINI RR ATS hy2
          go_wp2_with fail
          go_ret
          exact ⟨_, rfl, FIN.out⟩
        case pos =>
          obtain ⟨L, hL⟩ : ∃ L, L = Al.lcs (l'.drop x) (m'.drop y) := ⟨_, rfl⟩
          have dy : decide ((y : Int) < (P2 : Int)) = true := decide_eq_true (Int.ofNat_lt.2 hy2)
          have dy2 : decide (y < P2) = true := decide_eq_true hy2
          obtain ⟨i1, i2, i3⟩ := ix_nums (show x < Q1 by rw [HQ.out.1]; exact Nat.lt_succ_of_lt hxP)
          obtain ⟨j1, j2, j3⟩ := ix_nums (show y < Q2 by rw [HQ.out.2]; exact Nat.lt_succ_of_lt hy2)
          obtain ⟨gx, r0, r1⟩ := RD.out wr RR.out.2.2.1 x (Nat.le_of_lt hxP)
          have s0 := r1 y (Nat.le_of_lt hy2)
          rw [← hL] at s0 FINI
          clear r1
          by_cases hL0 : L = 0
          · have d1 : decide ((0 : Int) < (L : Int)) = false := decide_eq_false (by omega)
            have d2 : decide (0 < L) = false := decide_eq_false (by omega)
            have FIN := hidA (FINI.out hL0)
            clear FINI RR ATS hL0 hL
            go_wp2_with fail
            go_ret
            exact ⟨_, rfl, FIN.out⟩
          · have d1 : decide ((0 : Int) < (L : Int)) = true := decide_eq_true (by omega)
            have d2 : decide (0 < L) = true := decide_eq_true (by omega)
            obtain ⟨e, he⟩ : ∃ e, l'[x]? = some e := ⟨_, List.getElem?_eq_getElem (by rw [LL.out.1]; exact hxP)⟩
            obtain ⟨TT, hTT⟩ : ∃ TT, TT = Al.fnd e (l'.drop (x + 1)) L (m'.drop y) := ⟨_, rfl⟩
            have STP : Hid ((∀ k, TT = some k → Al.mtR (T + x) (T + y) (l'.drop x) (m'.drop y) = (T + x, T + (y + k)) :: Al.mtR (T + (x + 1)) (T + (y + k + 1)) (l'.drop (x + 1)) (m'.drop (y + k + 1))) ∧ (TT = none → Al.mtR (T + x) (T + y) (l'.drop x) (m'.drop y) = Al.mtR (T + (x + 1)) (T + y) (l'.drop (x + 1)) (m'.drop y))) := by
              rw [hTT, hL]
              exact Al.mtR_two he (by rw [← hL]; exact hL0)
            have FN0 : Hid (Al.FN TT e (l'.drop (x + 1)) L m' y y (-1)) := by rw [hTT]; exact Al.FN.start _ _ _ _ _
            obtain ⟨Wi, hWi⟩ : ∃ Wi, Wi = wr := ⟨_, rfl⟩
            subst hWi
            obtain ⟨V10, hV10⟩ : ∃ V10, V10 = u10 := ⟨_, rfl⟩
            subst hV10
            have LH : Hid (L = Al.lcs (l'.drop x) (m'.drop y)) := hL
            have HE := hidA he
            obtain ⟨G0, hG0⟩ : ∃ G0, y + G0 = P2 := ⟨P2 - y, by omega⟩
            obtain ⟨X1, hX1⟩ : ∃ X1, X1 = x + 1 := ⟨_, rfl⟩
            have WX : wrap64 ((x : Int) + 1) = (X1 : Int) := by rw [hX1]; exact wrK x (Nat.le_trans (Nat.le_of_lt hxP) (Nat.le_trans LL.out.2.2.1 (by decide)))
            have HX1 := hidA hX1
            have HY2 := hidA hy2
            clear FINI ATS hL0 hL hTT he hX1 hy2
            go_wp2_with fail
            go_loopg [13, 14] G0 (fun gh y13 y14 wz => ∃ (h : Nat) (F : Int), h + gh = P2 ∧ y14 = .int .i64 h ∧ y13 = .int .i64 F ∧ Hid (Al.FN TT e (l'.drop (x + 1)) L m' y h F ∧ SM Wi wz))
            case atStart => exact ⟨y, -1, hG0, rfl, rfl, FN0.out, SM.refl _⟩
            case round =>
              obtain ⟨h, F, hh, rfl, rfl, QR⟩ := hrel
              by_cases hF : F = -1
              case pos =>
                subst hF
                rcases gk with _ | gH
                · obtain rfl : P2 = h := by omega
                  have d3 : decide ((P2 : Int) < (P2 : Int)) = false := decide_eq_false (Int.lt_irrefl _)
                  have NX : Hid (y ≤ P2 ∧ OwP wr S2 66 V10 acc ∧ Below S2 W1 wr ∧ acc ++ Al.prs (Al.mtR (T + X1) (T + y) (l'.drop X1) (m'.drop y)) = TG ∧ acc.length ≤ X1) := by
                    obtain ⟨h1, h2, h3, h4, h5⟩ := RR.out
                    have hn : TT = none := by have h := QR.out.1; rw [← LL.out.2.1] at h; exact h.none
                    refine ⟨h1, h2.later (QR.out.2.below _), h3.trans (QR.out.2.below _), ?_, by rw [HX1.out]; exact Nat.le_succ_of_le h5⟩
                    rw [STP.out.2 hn, ← HX1.out] at h4
                    exact h4
                  clear RR QR STP FN0
                  go_wp2_with fail
                  go_roundg gO
                  case measure => omega
                  case rel => exact ⟨X1, y, acc, by rw [HX1.out]; exact hk3, by first | exact congrArg _ WX | rfl, rfl, NX.out⟩
                · obtain ⟨h6, dh, dh2, hhP, hh3⟩ := mch_k hh
                  obtain ⟨yv, hyv⟩ : ∃ yv, m'[h]? = some yv := ⟨_, List.getElem?_eq_getElem (by rw [LL.out.2.1]; exact hhP)⟩
                  have b2 : Below S2 W1 wr := RR.out.2.2.1.trans (QR.out.2.below _)
                  obtain ⟨EVa, EVb⟩ := EV2.out wr b2
                  obtain ⟨TX, hTX⟩ : ∃ TX, TX = T + x := ⟨_, rfl⟩
                  obtain ⟨TH, hTH⟩ : ∃ TH, TH = T + h := ⟨_, rfl⟩
                  obtain ⟨hTXN, hTHM, w1, w2, w3⟩ := ls_in LN.out.2.2.1 LN.out.2.2.2 LL.out.2.2.1 LL.out.2.2.2.1 LL.out.2.2.2.2 hxP hhP
                  rw [← hTX] at hTXN w1
                  rw [← hTH] at hTHM w2
                  obtain ⟨ga, oa, rfl, -, csa⟩ := EVa (by rw [← LN.out.1]; exact Nat.lt_of_le_of_lt (Nat.zero_le _) hTXN)
                  obtain ⟨gb, ob, rfl, -, csb⟩ := EVb (by rw [← LN.out.2.1]; exact Nat.lt_of_le_of_lt (Nat.zero_le _) hTHM)
                  obtain ⟨x0, x1⟩ := csa TX e (by rw [hTX, ← GA.out]; exact HE.out)
                  obtain ⟨y0, y1⟩ := csb TH yv (by rw [hTH, ← GB.out]; exact hyv)
                  obtain ⟨a1, a2, a3⟩ := ix_nums hTXN
                  obtain ⟨b1, b3, b4⟩ := ix_nums hTHM
                  obtain ⟨H1, hH1⟩ : ∃ H1, H1 = h + 1 := ⟨_, rfl⟩
                  rw [← hH1] at w3
                  obtain ⟨c1, c2, c3⟩ := ix_nums (show X1 < Q1 by rw [HQ.out.1, HX1.out]; exact Nat.succ_lt_succ hxP)
                  obtain ⟨f1, f2, f3⟩ := ix_nums (show H1 < Q2 by rw [HQ.out.2, hH1]; exact Nat.succ_lt_succ hhP)
                  obtain ⟨gz, t0, t1⟩ := RD.out wr b2 X1 (by rw [HX1.out]; exact hxP)
                  have t2 := t1 H1 (by rw [hH1]; exact hhP)
                  obtain ⟨gy, v0, v1⟩ := RD.out wr b2 x (Nat.le_of_lt hxP)
                  have v2 := v1 y (Nat.le_of_lt HY2.out)
                  rw [← LH.out] at v2
                  clear t1 v1
                  obtain ⟨D, hD⟩ : ∃ D, D = Al.lcs (l'.drop X1) (m'.drop H1) := ⟨_, rfl⟩
                  rw [← hD] at t2
                  have DB : Hid (D ≤ 100) := by rw [hD]; exact lcs_db _ _ _ _ (by rw [LL.out.1]; exact LL.out.2.2.1)
                  have w4 := wrM D DB.out
                  have w5 := wrM' D (Nat.le_trans DB.out (by decide))
                  obtain ⟨D1, hD1⟩ : ∃ D1, D1 = D + 1 := ⟨_, rfl⟩
                  rw [← hD1] at w4 w5
                  have HIT : Hid (e = yv → D1 = L → Al.FN TT e (l'.drop (x + 1)) L m' y H1 (h : Int)) := fun h1 h2 => by
                    rw [hH1]
                    exact QR.out.1.hit hyv h1 (by rw [← hH1, ← HX1.out, ← hD, ← hD1]; exact h2)
                  have MISS : Hid (¬ (e = yv ∧ D1 = L) → Al.FN TT e (l'.drop (x + 1)) L m' y H1 (-1)) := fun h1 => by
                    rw [hH1]
                    exact QR.out.1.miss hyv (fun h2 => h1 ⟨h2.1, by rw [hD1, hD, hH1, HX1.out]; exact h2.2⟩)
                  have hh4 : H1 + gH = P2 := by rw [hH1]; exact hh3
                  have SMR := hidA QR.out.2
                  clear QR csa csb hTX hTH hH1 hD hD1 hyv STP FN0 RR EVa EVb b2
                  by_cases hxy : e = yv
                  · have z0 : (e.1 == yv.1) = true := by rw [hxy]; exact beq_self_eq_true _
                    have z9 : (e.2 == yv.2) = true := by rw [hxy]; exact beq_self_eq_true _
                    by_cases hd : D1 = L
                    · have q1 : ((D1 : Int) == (L : Int)) = true := by rw [hd]; exact beq_self_eq_true _
                      have FX := hidA (HIT.out hxy hd)
                      clear hxy hd HIT MISS HE
                      generalize e.1 = xa at x0 z0
                      generalize e.2 = xb at x1 z9
                      generalize yv.1 = ya at y0 z0
                      generalize yv.2 = yb at y1 z9
                      go_upto_region 9 with fail
                      go_quiet (fail)
                      go_wp2_with fail
                      go_roundg gH
                      case measure => omega
                      case rel => exact ⟨H1, (h : Int), hh4, by first | exact congrArg _ w3 | rfl, rfl, FX.out, SMR.out⟩
                    · have q1 : ((D1 : Int) == (L : Int)) = false := ne_beqN hd
                      have FX := hidA (MISS.out (fun h => hd h.2))
                      clear hxy hd HIT MISS HE
                      generalize e.1 = xa at x0 z0
                      generalize e.2 = xb at x1 z9
                      generalize yv.1 = ya at y0 z0
                      generalize yv.2 = yb at y1 z9
                      go_upto_region 9 with fail
                      go_quiet (fail)
                      go_wp2_with fail
                      go_roundg gH
                      case measure => omega
                      case rel => exact ⟨H1, -1, hh4, by first | exact congrArg _ w3 | rfl, rfl, FX.out, SMR.out⟩
                  · have FX := hidA (MISS.out (fun h => hxy h.1))
                    have zz := ev_ne hxy
                    clear hxy HIT MISS HE
                    generalize e.1 = xa at x0 zz
                    generalize e.2 = xb at x1 zz
                    generalize yv.1 = ya at y0 zz
                    generalize yv.2 = yb at y1 zz
                    rcases zz with z0 | ⟨z0, z9⟩
                    all_goals
                      go_upto_region 9 with fail
                      go_quiet (fail)
                      go_wp2_with fail
                      go_roundg gH
                      case measure => omega
                      case rel => exact ⟨H1, -1, hh4, by first | exact congrArg _ w3 | rfl, rfl, FX.out, SMR.out⟩
              case neg =>
                obtain ⟨k, hFk, hTk, hfl⟩ : ∃ k, F = ((y + k : Nat) : Int) ∧ TT = some k ∧ y + k < m'.length := by
                  rcases QR.out.1 with h | h
                  · exact absurd h.1 hF
                  · exact h
                obtain ⟨f, hf⟩ : ∃ f, f = y + k := ⟨_, rfl⟩
                rw [← hf] at hFk hfl
                subst hFk
                have hfP : f < P2 := by rw [← LL.out.2.1]; exact hfl
                have dn : decide ((f : Int) < 0) = false := decide_eq_false (Int.not_lt.2 (Int.natCast_nonneg _))
                have dp : decide ((0 : Int) ≤ (f : Int)) = true := decide_eq_true (Int.natCast_nonneg _)
                obtain ⟨-, -, w1, w2, w3⟩ := ls_in LN.out.2.2.1 LN.out.2.2.2 LL.out.2.2.1 LL.out.2.2.2.1 LL.out.2.2.2.2 hxP hfP
                obtain ⟨TX, hTX⟩ : ∃ TX, TX = T + x := ⟨_, rfl⟩
                obtain ⟨TF, hTF⟩ : ∃ TF, TF = T + f := ⟨_, rfl⟩
                obtain ⟨F1, hF1⟩ : ∃ F1, F1 = f + 1 := ⟨_, rfl⟩
                rw [← hTX] at w1
                rw [← hTF] at w2
                rw [← hF1] at w3
                obtain ⟨LA, hLA⟩ : ∃ LA, LA = acc.length := ⟨_, rfl⟩
                have OP := hidA (RR.out.2.1.later (QR.out.2.below _))
                have OW : Hid (wr.ownsRow S2 66 2 V10 LA (prC acc)) := by rw [hLA]; exact OP.out
                have H63 := hidA (own63b (k := LA) (by rw [hLA]; exact Nat.le_trans RR.out.2.2.2.2 (Nat.le_trans (Nat.le_of_lt hxP) (Nat.le_trans LL.out.2.2.1 (by decide)))))
                have ONE := hidA (prC_one ((TX : Int), (TF : Int)))
                have SZ : Hid (S2 ≤ wr.heap.size) := by rw [HS2.out]; exact Nat.le_trans (by have := RR.out.2.2.1; rw [HS2.out] at this; exact this.size) (QR.out.2.below 0).size
                have NX : Hid (∀ (v8 : Value) (w8 : World) (o : Obj), w8.ownsRow S2 66 2 v8 (LA + 1) (prC acc ++ [.int .i64 (TX : Int), .int .i64 (TF : Int)]) → (wr.alloc o).grownBy w8 V10.ownBlock → F1 ≤ P2 ∧ OwP w8 S2 66 v8 (acc ++ [((TX : Int), (TF : Int))]) ∧ Below S2 W1 w8 ∧ (acc ++ [((TX : Int), (TF : Int))]) ++ Al.prs (Al.mtR (T + X1) (T + F1) (l'.drop X1) (m'.drop F1)) = TG ∧ (acc ++ [((TX : Int), (TF : Int))]).length ≤ X1) := fun v8 w8 o h8 g8 => by
                  obtain ⟨h1, h2⟩ := OwP.grown (e := ((TX : Int), (TF : Int))) OP.out SZ.out (by rw [← hLA]; exact h8) g8
                  refine ⟨by rw [hF1]; exact hfP, h1, (RR.out.2.2.1.trans (QR.out.2.below _)).trans h2, ?_, by rw [List.length_append, HX1.out]; exact Nat.succ_le_succ RR.out.2.2.2.2⟩
                  have h4 := RR.out.2.2.2.1
                  rw [STP.out.1 k hTk, ← HX1.out, ← hf, ← hTX, ← hTF, ← hF1, Al.prs_cons] at h4
                  rw [List.append_assoc]
                  exact h4
                clear RR QR STP FN0 hTX hTF hF1 hLA hf hTk hfl hfP hF OP
                rcases gk with _ | gH
                · obtain rfl : P2 = h := by omega
                  have d3 : decide ((P2 : Int) < (P2 : Int)) = false := decide_eq_false (Int.lt_irrefl _)
                  go_wp2_with (at_builtin; refine wpList_append_tolA rfl _ _ 33 rfl S2 66 i0 (.agg #[.int .i64 0, .int .i64 0]) 2 16 Tryd.underlying33 hi zi0 zi1 zi2 rfl (by decide) _ _ _ rfl (ownA OW.out ((Below.refl _ _).alloc (Nat.le_refl _) _)) ⟨wr.heap.size, 0, none⟩ 1 1 [.int .i64 (TX : Int), .int .i64 (TF : Int)] rfl rfl (two2 _ _ _ _) ONE.out H63.out.1 H63.out.2 (Nat.le_trans SZ.out ((Below.refl wr.heap.size wr).alloc (Nat.le_refl _) _).size) (by decide) ?_)
                  intro v8 w8 h8 g8 o8
                  have NN := hidA (NX.out v8 w8 _ h8 g8)
                  clear h8 g8 o8 NX OW
                  go_wp2_with fail
                  go_roundg gO
                  case measure => omega
                  case rel => exact ⟨X1, F1, _, by rw [HX1.out]; exact hk3, by first | exact congrArg _ WX | rfl, by first | exact congrArg _ w3 | rfl, NN.out⟩
                · obtain ⟨h6, dh, dh2, hhP, hh3⟩ := mch_k hh
                  go_wp2_with (at_builtin; refine wpList_append_tolA rfl _ _ 33 rfl S2 66 i0 (.agg #[.int .i64 0, .int .i64 0]) 2 16 Tryd.underlying33 hi zi0 zi1 zi2 rfl (by decide) _ _ _ rfl (ownA OW.out ((Below.refl _ _).alloc (Nat.le_refl _) _)) ⟨wr.heap.size, 0, none⟩ 1 1 [.int .i64 (TX : Int), .int .i64 (TF : Int)] rfl rfl (two2 _ _ _ _) ONE.out H63.out.1 H63.out.2 (Nat.le_trans SZ.out ((Below.refl wr.heap.size wr).alloc (Nat.le_refl _) _).size) (by decide) ?_)
                  intro v8 w8 h8 g8 o8
                  have NN := hidA (NX.out v8 w8 _ h8 g8)
                  clear h8 g8 o8 NX OW
                  go_wp2_with fail
                  go_roundg gO
                  case measure => omega
                  case rel => exact ⟨X1, F1, _, by rw [HX1.out]; exact hk3, by first | exact congrArg _ WX | rfl, by first | exact congrArg _ w3 | rfl, NN.out⟩
end Go.Proofs.YthglhcabdadlpaaDoor
