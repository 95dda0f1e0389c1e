/- Layer 15: Fits; the document's Rises, Fits. -/
/- Layer 15: lies, inside. -/
/- Layer 15, plain: sizes of greatest matchings reckoned from the front (the document's Size), and the document's search for the least one. -/
import Derived.Test.YthglhcabdadlpaaDoorZMag
import Derived.Test.YthglhcabdadlpaaDoorZAlPm
import Derived.Test.YthglhcabdadlpaaDoorZAlGa
import Derived.Test.YthglhcabdadlpaaDoorZAlP
namespace Go.Proofs.YthglhcabdadlpaaDoor
open Go.RowKit
set_option linter.unusedVariables false
set_option linter.unusedSimpArgs false
set_option maxRecDepth 100000
theorem drop_at {l : List Al.Ev} {k : Nat} {x : Al.Ev} (hx : l[k]? = some x) : l.drop k = x :: l.drop (k + 1) := by
  obtain ⟨h1, h2⟩ := List.getElem?_eq_some_iff.1 hx
  rw [List.drop_eq_getElem_cons h1, h2]
theorem alike_step {a b : List Al.Ev} {l : List Al.Ev} {k i j : Nat} {x y : Al.Ev} (hp : l[k]? = some ((i : Int), (j : Int))) (ha : a[i]? = some x) (hb : b[j]? = some y) : Al.alike a b (l.drop k) = (decide (x = y) && Al.alike a b (l.drop (k + 1))) := by
  rw [drop_at hp]
  unfold Al.alike
  rw [List.all_cons]
  congr 1
  show (a[((i : Nat) : Int).toNat]? == b[((j : Nat) : Int).toNat]?) = _
  rw [Int.toNat_natCast, Int.toNat_natCast, ha, hb]
  by_cases e : x = y
  · subst e; simp
  · rw [decide_eq_false e]
    simpa using e
/-- A pair that lies within, as two indices. -/
theorem rise_at {a b l : List Al.Ev} {k : Nat} (hr : Al.rise a.length b.length (-1, -1) l = true) (hk : k < l.length) : ∃ (i j : Nat) (x y : Al.Ev), l[k]? = some ((i : Int), (j : Int)) ∧ i < a.length ∧ j < b.length ∧ a[i]? = some x ∧ b[j]? = some y := by
  obtain ⟨p, hp⟩ : ∃ p, l[k]? = some p := ⟨_, List.getElem?_eq_getElem hk⟩
  obtain ⟨h1, h2, h3, h4⟩ := Al.rise_mem hr p (List.mem_of_getElem? hp)
  simp only at h1 h3
  refine ⟨p.1.toNat, p.2.toNat, a[p.1.toNat]'(by omega), b[p.2.toNat]'(by omega), ?_, by omega, by omega, List.getElem?_eq_getElem _, List.getElem?_eq_getElem _⟩
  rw [hp]
  congr 1
  exact Prod.ext (by simp only; omega) (by simp only; omega)
theorem ix_nums {i n : Nat} (h : i < n) : (i : Int) < (n : Int) ∧ decide (i < n) = true ∧ (0 : Int) ≤ (i : Int) := ⟨by omega, decide_eq_true h, by omega⟩
set_option maxHeartbeats 8000000 in
theorem fits_any (w : World) (a b c : Option Addr) (ca cb cc : Nat) (l m ps : List Al.Ev) {B : Nat} (ha : EvR B w a l) (hb : EvR B w b m) (hc : EvR B w c ps) (hB : B ≤ w.heap.size) (hl : ps.length ≤ 1000000) : Calls Tryd.prog 19 #[.slice a l.length ca, .slice b m.length cb, .slice c ps.length cc] w fun e w' => e = .returned (.bool (Al.fits l m ps)) ∧ Below w.heap.size w w' := by
  have HR := hidA (rise_any w c cc ps l.length m.length hc hB hl)
  have HA := hidA ha
  have HB := hidA hb
  have HC := hidA hc
  have HBB := hidA hB
  have HRA : Hid (Al.rise l.length m.length (-1, -1) ps = true → ∀ k, k < ps.length → ∃ (i j : Nat) (x y : Al.Ev), ps[k]? = some ((i : Int), (j : Int)) ∧ i < l.length ∧ j < m.length ∧ l[i]? = some x ∧ m[j]? = some y) := fun h k hk => rise_at h hk
  obtain ⟨T, hT⟩ : ∃ T, T = Al.fits l m ps := ⟨_, rfl⟩
  have HT := hidA hT
  unfold Al.fits at HT
  rw [← hT]
  obtain ⟨R, hR⟩ : ∃ R, R = Al.rise l.length m.length (-1, -1) ps := ⟨_, rfl⟩
  rw [← hR] at HR HT HRA
  obtain ⟨n, hn⟩ : ∃ n, n = l.length := ⟨_, rfl⟩
  obtain ⟨k2, hk2⟩ : ∃ k2, k2 = m.length := ⟨_, rfl⟩
  obtain ⟨N, hN⟩ : ∃ N, N = ps.length := ⟨_, rfl⟩
  have HL : Hid (n = l.length ∧ k2 = m.length ∧ N = ps.length ∧ N ≤ 1000000) := ⟨hn, hk2, hN, by rw [hN]; exact hl⟩
  rw [← hn, ← hk2, ← hN] at HRA
  rw [← hn, ← hk2, ← hN] at HR
  rw [← hn, ← hk2, ← hN]
  clear ha hb hc hB hl hT hR hn hk2 hN
  cases R
  · obtain rfl : T = false := HT.out
    go_enter Tryd.func19, Tryd.ntmps19
    go_wp2_with fail
    refine HR.out.mono ?_
    rintro e w1 ⟨rfl, b1⟩
    have B1 := hidA b1
    clear b1
    go_wp2_with fail
    go_ret
    exact ⟨rfl, B1.out⟩
  · have HRB := hidA (HRA.out rfl)
    have HTT : Hid (T = Al.alike l m (ps.drop 0)) := HT.out
    clear HRA HT
    go_enter Tryd.func19, Tryd.ntmps19
    go_wp2_with fail
    refine HR.out.mono ?_
    rintro e w1 ⟨rfl, b1⟩
    have B1 := hidA b1
    clear b1 HR
    go_wp2_with fail
    go_loopg [18] N (fun gk y wr => ∃ k : Nat, k + gk = N ∧ y = .int .i64 k ∧ Hid (Below w.heap.size w wr ∧ T = Al.alike l m (ps.drop k)))
    case atStart => exact ⟨0, by omega, rfl, B1.out, HTT.out⟩
    case round =>
      obtain ⟨k, hk, rfl, RR⟩ := hrel
      rcases gk with _ | gk
      · obtain rfl : N = k := by omega
        have dk : decide ((N : Int) < (N : Int)) = false := decide_eq_false (Int.lt_irrefl _)
        have E : Hid (T = true) := by unfold Hid; rw [RR.out.2, List.drop_eq_nil_of_le (by rw [HL.out.2.2.1]; exact Nat.le_refl _)]; rfl
        obtain rfl : T = true := E.out
        go_wp2_with fail
        go_ret
        exact ⟨rfl, RR.out.1⟩
      · obtain ⟨k6, dk, dk2, hkN, hk3⟩ := mch_k hk
        obtain ⟨i, j, x, y, hp, hi, hj, hx, hy⟩ := HRB.out k hkN
        have AS := hidA (alike_step hp hx hy)
        obtain ⟨ga, oa, rfl, hga, cs⟩ := (HA.out.later RR.out.1 HBB.out) (by rw [← HL.out.1]; exact Nat.lt_of_le_of_lt (Nat.zero_le i) hi)
        obtain ⟨gb, ob, rfl, hgb, cs2⟩ := (HB.out.later RR.out.1 HBB.out) (by rw [← HL.out.2.1]; exact Nat.lt_of_le_of_lt (Nat.zero_le j) hj)
        obtain ⟨gc, oc, rfl, hgc, cs3⟩ := (HC.out.later RR.out.1 HBB.out) (by rw [← HL.out.2.2.1]; exact Nat.lt_of_le_of_lt (Nat.zero_le k) hkN)
        have p0 : wr.cell? ⟨gc, oc + k * 2, none⟩ = some (.int .i64 (i : Int)) := (cs3 k _ hp).1
        have p1 : wr.cell? ⟨gc, oc + k * 2 + 1, none⟩ = some (.int .i64 (j : Int)) := (cs3 k _ hp).2
        obtain ⟨W3, hW3⟩ : ∃ W3, W3 = wr.alloc (.cells #[.int .i64 (i : Int), .int .i64 (j : Int)] 64) := ⟨_, rfl⟩
        obtain ⟨q, hq⟩ : ∃ q, q = wr.heap.size := ⟨_, rfl⟩
        have W3B : Below wr.heap.size wr W3 := by rw [hW3]; exact (Below.refl _ _).alloc (Nat.le_refl _) _
        have W3C : W3.cell? ⟨q, 0, none⟩ = some (.int .i64 (i : Int)) ∧ W3.cell? ⟨q, 1, none⟩ = some (.int .i64 (j : Int)) := by rw [hW3, hq]; exact box2A _ _ _ _
        obtain ⟨c0, c1⟩ := W3C
        have BW3 : Below w.heap.size w W3 := RR.out.1.trans (W3B.mono RR.out.1.size)
        have a0 : W3.cell? ⟨ga, oa + i * 2, none⟩ = some (.int .i64 x.1) := (W3B.cell (p := ⟨ga, _, none⟩) (Nat.lt_of_lt_of_le hga (Nat.le_trans HBB.out RR.out.1.size))).trans (cs i x hx).1
        have a1 : W3.cell? ⟨ga, oa + i * 2 + 1, none⟩ = some (.int .i64 x.2) := (W3B.cell (p := ⟨ga, _, none⟩) (Nat.lt_of_lt_of_le hga (Nat.le_trans HBB.out RR.out.1.size))).trans (cs i x hx).2
        have b0 : W3.cell? ⟨gb, ob + j * 2, none⟩ = some (.int .i64 y.1) := (W3B.cell (p := ⟨gb, _, none⟩) (Nat.lt_of_lt_of_le hgb (Nat.le_trans HBB.out RR.out.1.size))).trans (cs2 j y hy).1
        have b1 : W3.cell? ⟨gb, ob + j * 2 + 1, none⟩ = some (.int .i64 y.2) := (W3B.cell (p := ⟨gb, _, none⟩) (Nat.lt_of_lt_of_le hgb (Nat.le_trans HBB.out RR.out.1.size))).trans (cs2 j y hy).2
        have WK := hidA (wrK k (Nat.le_trans (Nat.le_of_lt hkN) HL.out.2.2.2))
        obtain ⟨i1, i2, i3⟩ := ix_nums hi
        obtain ⟨j1, j2, j3⟩ := ix_nums hj
        have BDR : Hid (∀ r, Below w.heap.size w (W3.drewN r)) := fun r => below_drA BW3 r
        have TT : Hid (T = (decide (x = y) && Al.alike l m (ps.drop (k + 1)))) := RR.out.2.trans AS.out
        clear cs cs2 cs3 hp hx hy W3B BW3 RR AS
        by_cases hxy : x = y
        · subst hxy
          have ST : Hid (T = Al.alike l m (ps.drop (k + 1))) := by have h := TT.out; rw [decide_eq_true rfl, Bool.true_and] at h; exact h
          clear TT HTT
          generalize x.1 = x1 at a0 b0
          generalize x.2 = x2 at a1 b1
          have q1 : (x1 == x1) = true := beq_self_eq_true x1
          have q2 : (x2 == x2) = true := beq_self_eq_true x2
          go_upto_region 6 with fail
          rw [← hW3, ← hq]
          clear hW3 hq p0 p1
          go_quiet (fail)
          have BQ := hidA (BDR.out nq)
          generalize W3.drewN nq = W5 at BQ ⊢
          clear a0 a1 b0 b1 c0 c1
          go_wp2_with fail
          go_roundg gk
          case measure => omega
          case rel => exact ⟨k + 1, hk3, congrArg _ WK.out, BQ.out, ST.out⟩
        · have E : Hid (T = false) := by have h := TT.out; rw [decide_eq_false hxy, Bool.false_and] at h; exact h
          clear TT HTT
          obtain rfl : T = false := E.out
          have qq := ev_ne hxy
          clear hxy
          generalize x.1 = x1 at a0 qq
          generalize x.2 = x2 at a1 qq
          generalize y.1 = y1 at b0 qq
          generalize y.2 = y2 at b1 qq
          rcases qq with q1 | ⟨q1, q2⟩
          all_goals
            go_upto_region 6 with fail
            rw [← hW3, ← hq]
            clear hW3 hq p0 p1
            go_quiet (fail)
            have BQ := hidA (BDR.out nq)
            generalize W3.drewN nq = W5 at BQ ⊢
            clear a0 a1 b0 b1 c0 c1
            go_wp2_with fail
            go_ret
            exact ⟨rfl, BQ.out⟩
end Go.Proofs.YthglhcabdadlpaaDoor

namespace Go.Proofs.YthglhcabdadlpaaDoor
open Go.RowKit
set_option linter.unusedVariables false
set_option linter.unusedSimpArgs false
set_option maxRecDepth 100000
theorem lies_any (x y n : Int) (w : World) : Calls Tryd.prog 43 #[.int .i64 x, .int .i64 y, .int .i64 n] w fun e w' => e = .returned (.bool (decide (0 ≤ x) && (decide (x ≤ y) && decide (y ≤ n)))) ∧ w' = w := by
  obtain ⟨q1, h1⟩ : ∃ q, decide (0 ≤ x) = q := ⟨_, rfl⟩
  obtain ⟨q2, h2⟩ : ∃ q, decide (x ≤ y) = q := ⟨_, rfl⟩
  obtain ⟨q3, h3⟩ : ∃ q, decide (y ≤ n) = q := ⟨_, rfl⟩
  rw [h1, h2, h3]
  cases q1
  · go_enter Tryd.func43, Tryd.ntmps43
    go_wp2_with fail
    go_ret
    exact ⟨rfl, rfl⟩
  cases q2
  · go_enter Tryd.func43, Tryd.ntmps43
    go_wp2_with fail
    go_ret
    exact ⟨rfl, rfl⟩
  cases q3
  · go_enter Tryd.func43, Tryd.ntmps43
    go_wp2_with fail
    go_ret
    exact ⟨rfl, rfl⟩
  · go_enter Tryd.func43, Tryd.ntmps43
    go_wp2_with fail
    go_ret
    exact ⟨rfl, rfl⟩
theorem insd_snoc {r : Al.Rg} {l : List Al.Ev} {k : Nat} {x : Al.Ev} (hx : l[k]? = some x) : Al.insd r (l.take (k + 1)) = Al.insd r (l.take k) ++ (if Al.inR r x then [x] else []) := by
  unfold Al.insd
  rw [List.take_add_one, hx, List.filter_append]
  congr 1
  by_cases c : Al.inR r x = true
  · simp [c]
  · simp [c]
theorem insd_len (r : Al.Rg) (l : List Al.Ev) (k : Nat) : (Al.insd r (l.take k)).length ≤ k := by
  unfold Al.insd
  exact Nat.le_trans (List.length_filter_le _ _) (by rw [List.length_take]; omega)
theorem box2R {w : World} {r : Nat} {a b : Value} {T : TypeId} (h : w.heap[r]? = some (.cells #[a, b] T (0, 0))) : w.cell? ⟨r, 0, none⟩ = some a ∧ w.cell? ⟨r, 1, none⟩ = some b := ⟨by simp [World.cell?, h], by simp [World.cell?, h]⟩
set_option maxHeartbeats 4000000 in
theorem inside_any (w : World) (a : Option Addr) (ca : Nat) (l : List Al.Ev) (r : Al.Rg) {B : Nat} (ha : EvR B w a l) (hB : B ≤ w.heap.size) (hl : l.length ≤ 1000) :
    Calls Tryd.prog 45 #[.slice a l.length ca, .agg #[.int .i64 r.fa, .int .i64 r.ta, .int .i64 r.fb, .int .i64 r.tb]] w fun e w' => ∃ v, e = .returned v ∧ OwP w' w.heap.size 64 v (Al.insd r l) ∧ Below w.heap.size w w' := by
  obtain ⟨i0, hi, zi0, zi1, zi2⟩ := infoPair
  have HA := hidA ha
  have HBB := hidA hB
  obtain ⟨M, hM⟩ : ∃ M, M = w.heap.size := ⟨_, rfl⟩
  obtain ⟨W0, hW0⟩ : ∃ W0, W0 = w.alloc (.cells #[.int .i64 r.fa, .int .i64 r.ta, .int .i64 r.fb, .int .i64 r.tb] 59) := ⟨_, rfl⟩
  have K0 : Hid (Below w.heap.size w W0) := by rw [hW0]; exact (Below.refl _ _).alloc (Nat.le_refl _) _
  obtain ⟨S0, hS0⟩ : ∃ S0, S0 = W0.heap.size := ⟨_, rfl⟩
  have HC : Hid (∀ W, Below S0 W0 W → W.heap[M]? = some (.cells #[.int .i64 r.fa, .int .i64 r.ta, .int .i64 r.fb, .int .i64 r.tb] 59 (0, 0))) := fun W q => by
    rw [hS0] at q
    rw [q.block M (by rw [hW0, hM]; simp), hW0, hM]
    exact Array.getElem?_push_size
  obtain ⟨N, hN⟩ : ∃ N, N = l.length := ⟨_, rfl⟩
  have HN : Hid (N = l.length ∧ N ≤ 1000) := ⟨hN, by rw [hN]; exact hl⟩
  have HM := hidA hM
  have HW0 := hidA hW0
  have HS0 := hidA hS0
  have SM0 : Hid (M < S0 ∧ w.heap.size ≤ S0) := by rw [hS0, hW0, hM]; exact ⟨by simp, by simp⟩
  have O0 : Hid (OwP W0 S0 64 (.slice none 0 0) (Al.insd r (l.take 0)) ∧ Below S0 W0 W0) := ⟨OwP.nil _ _ _, Below.refl _ _⟩
  rw [← hN]
  clear ha hB hl hN hM hW0 hS0
  go_enter Tryd.func45, Tryd.ntmps45
  go_upto_region 1 with fail
  rw [← HW0.out, ← HM.out]
  go_wp2_with fail
  go_loopg [5, 10] N (fun gk y5 y10 wr => ∃ k : Nat, k + gk = N ∧ y10 = .int .i64 k ∧ Hid (OwP wr S0 64 y5 (Al.insd r (l.take k)) ∧ Below S0 W0 wr))
  case atStart => exact ⟨0, Nat.zero_add _, rfl, O0.out⟩
  case round =>
    obtain ⟨k, hk, rfl, RR⟩ := hrel
    rcases gk with _ | gO
    · obtain rfl : N = k := by omega
      have dk : decide ((N : Int) < (N : Int)) = false := decide_eq_false (Int.lt_irrefl _)
      have FIN : Hid (OwP wr w.heap.size 64 u5 (Al.insd r l) ∧ Below w.heap.size w wr) := by
        have h := RR.out.1.base SM0.out.2
        rw [List.take_of_length_le (by rw [HN.out.1]; exact Nat.le_refl _)] at h
        exact ⟨h, K0.out.trans (RR.out.2.mono SM0.out.2)⟩
      clear RR O0
      go_wp2_with fail
      go_ret
      exact ⟨_, rfl, by have := FIN.out; rw [← HM.out] at this ⊢; exact this.1, by have := FIN.out; rw [← HM.out] at this ⊢; exact this.2⟩
    · obtain ⟨h6, dk, dk2, hkN, hk3⟩ := mch_k hk
      obtain ⟨x, hx⟩ : ∃ x, l[k]? = some x := ⟨_, List.getElem?_eq_getElem (by rw [← HN.out.1]; exact hkN)⟩
      have BW : Below w.heap.size w wr := K0.out.trans (RR.out.2.mono SM0.out.2)
      obtain ⟨ga, oa, rfl, hga, csa⟩ := (HA.out.later BW HBB.out) (by rw [← HN.out.1]; exact Nat.lt_of_le_of_lt (Nat.zero_le k) hkN)
      obtain ⟨x0, x1⟩ := csa k x hx
      obtain ⟨W3, hW3⟩ : ∃ W3, W3 = wr.alloc (.cells #[.int .i64 x.1, .int .i64 x.2] 64) := ⟨_, rfl⟩
      obtain ⟨gb, hgb⟩ : ∃ gb, gb = wr.heap.size := ⟨_, rfl⟩
      have HW3 := hidA hW3
      have HGB := hidA hgb
      have b3 : Below wr.heap.size wr W3 := by rw [hW3]; exact (Below.refl _ _).alloc (Nat.le_refl _) _
      have SW : S0 ≤ wr.heap.size := by have := RR.out.2; rw [HS0.out] at this ⊢; exact this.size
      have B3 : Hid (Below S0 W0 W3) := RR.out.2.trans (b3.mono SW)
      have OP3 := hidA (RR.out.1.later b3)
      obtain ⟨f0, f1⟩ := box2R (w := W3) (r := gb) (by rw [hW3, hgb]; exact Array.getElem?_push_size)
      obtain ⟨e0, e1, e2, e3, -, -, -, -⟩ := box4 (HC.out W3 B3.out)
      have SNC := hidA (insd_snoc (r := r) hx)
      have WK := hidA (wrK k (Nat.le_trans (Nat.le_of_lt hkN) (Nat.le_trans HN.out.2 (by decide))))
      obtain ⟨C, hC⟩ : ∃ C, C = Al.inR r x := ⟨_, rfl⟩
      rw [← hC] at SNC
      obtain ⟨q1, d1⟩ : ∃ q, decide (r.fa ≤ x.1) = q := ⟨_, rfl⟩
      obtain ⟨q2, d2⟩ : ∃ q, decide (x.1 < r.ta) = q := ⟨_, rfl⟩
      obtain ⟨q3, d3⟩ : ∃ q, decide (r.fb ≤ x.2) = q := ⟨_, rfl⟩
      obtain ⟨q4, d4⟩ : ∃ q, decide (x.2 < r.tb) = q := ⟨_, rfl⟩
      have HCC : Hid (C = ((q1 && q2) && q3 && q4)) := by rw [hC]; unfold Hid Al.inR; rw [d1, d2, d3, d4]
      obtain ⟨acc, hacc⟩ : ∃ acc, acc = Al.insd r (l.take k) := ⟨_, rfl⟩
      rw [← hacc] at OP3 SNC
      obtain ⟨LA, hLA⟩ : ∃ LA, LA = acc.length := ⟨_, rfl⟩
      have H63 := hidA (own63b (k := LA) (by rw [hLA, hacc]; exact Nat.le_trans (insd_len _ _ _) (Nat.le_trans (Nat.le_of_lt hkN) HN.out.2)))
      have OW : Hid (W3.ownsRow S0 64 2 u5 LA (prC acc)) := by rw [hLA]; exact OP3.out
      have SZ : Hid (S0 ≤ W3.heap.size) := Nat.le_trans SW b3.size
      have ONE : Hid (∀ u ∈ [Value.int .i64 x.1, .int .i64 x.2], u.oneCell' = true) := prC_one x
      have GR : Hid (∀ (v8 : Value) (w8 : World) (o : Obj), w8.ownsRow S0 64 2 v8 (LA + 1) (prC acc ++ [.int .i64 x.1, .int .i64 x.2]) → (W3.alloc o).grownBy w8 u5.ownBlock → OwP w8 S0 64 v8 (acc ++ [x]) ∧ Below S0 W0 w8) := fun v8 w8 o h8 g8 => by
        obtain ⟨h1, h2⟩ := OwP.grown (e := x) OP3.out SZ.out (by rw [← hLA]; exact h8) g8
        exact ⟨h1, B3.out.trans h2⟩
      generalize x.1 = xa at *
      generalize x.2 = xb at *
      generalize r.fa = fa at *
      generalize r.ta = ta at *
      generalize r.fb = fb at *
      generalize r.tb = tb at *
      clear hx csa hW3 hgb hC hacc hLA RR O0 b3 BW SW
      go_upto_region 5 with fail
      rw [← HW3.out, ← HGB.out]
      go_cut [39] from 14 to 39 (fun s wx => s = .bool C ∧ wx = W3)
      case first =>
        clear x0 x1
        cases q1
        · obtain rfl := HCC.out
          go_wp2_with fail
          go_meet
          exact ⟨rfl, rfl⟩
        cases q2
        · obtain rfl := HCC.out
          go_wp2_with fail
          go_meet
          exact ⟨rfl, rfl⟩
        cases q3
        · obtain rfl := HCC.out
          go_wp2_with fail
          go_meet
          exact ⟨rfl, rfl⟩
        cases q4
        · obtain rfl := HCC.out
          go_wp2_with fail
          go_meet
          exact ⟨rfl, rfl⟩
        · obtain rfl := HCC.out
          go_wp2_with fail
          go_meet
          exact ⟨rfl, rfl⟩
      case rest =>
        obtain ⟨rfl, hw⟩ := hcut
        rw [hw]
        clear hw d1 d2 d3 d4 HCC
        cases C with
        | false =>
          have NX : Hid (OwP W3 S0 64 u5 (Al.insd r (l.take (k + 1)))) := by
            rw [SNC.out]
            simp only [Bool.false_eq_true, if_false, List.append_nil]
            exact OP3.out
          go_wp2_with fail
          go_roundg gO
          case measure => omega
          case rel => exact ⟨k + 1, hk3, congrArg _ WK.out, NX.out, B3.out⟩
        | true =>
          go_wp2_with (at_builtin; refine wpList_append_tolA rfl _ _ 30 rfl S0 64 i0 (.agg #[.int .i64 0, .int .i64 0]) 2 16 Tryd.underlying30 hi zi0 zi1 zi2 rfl (by decide) _ _ _ rfl (ownA OW.out ((Below.refl _ _).alloc (Nat.le_refl _) _)) ⟨W3.heap.size, 0, none⟩ 1 1 [.int .i64 xa, .int .i64 xb] rfl rfl (two2 _ _ _ _) ONE.out H63.out.1 H63.out.2 (Nat.le_trans SZ.out ((Below.refl W3.heap.size W3).alloc (Nat.le_refl _) _).size) (by decide) ?_)
          intro v8 w8 h8 g8 o8
          have NN := hidA (GR.out v8 w8 _ h8 g8)
          have NX : Hid (OwP w8 S0 64 v8 (Al.insd r (l.take (k + 1)))) := by
            rw [SNC.out]
            exact NN.out.1
          clear h8 g8 o8 GR OW
          go_wp2_with fail
          go_roundg gO
          case measure => omega
          case rel => exact ⟨k + 1, hk3, congrArg _ WK.out, NX.out, NN.out.2⟩
end Go.Proofs.YthglhcabdadlpaaDoor

namespace Go.Proofs.YthglhcabdadlpaaDoor.Al
set_option linter.unusedVariables false
set_option linter.unusedSimpArgs false
theorem lcs_one_ne {x y : Ev} (h : x ≠ y) : ∀ b : List Ev, lcs [x] (b ++ [y]) = lcs [x] b
  | [] => by simp [lcs_cons, lcs_nil, lcs_nilr, h]
  | z :: b => by
    rw [List.cons_append, lcs_cons, lcs_cons, lcs_one_ne h b]
    simp only [lcs_nil]
theorem lcs_snoc_ne {x y : Ev} (h : x ≠ y) : ∀ a b : List Ev, lcs (a ++ [x]) (b ++ [y]) = max (lcs a (b ++ [y])) (lcs (a ++ [x]) b)
  | [], b => by rw [List.nil_append, lcs_one_ne h, lcs_nil]; omega
  | p :: a, [] => by
    rw [List.nil_append, lcs_comm _ [y], lcs_one_ne (Ne.symm h), lcs_comm _ [y], lcs_nilr]
    omega
  | p :: a, q :: b => by
    rw [List.cons_append, List.cons_append, lcs_cons, lcs_cons]
    have h1 := lcs_snoc_ne h a b
    have h2 := lcs_snoc_ne h a (q :: b)
    have h3 := lcs_snoc_ne h (p :: a) b
    rw [List.cons_append] at h2 h3
    rw [lcs_cons p q (a ++ [x]) b]
    split <;> omega
  termination_by a b => a.length + b.length
theorem lcs_snoc_le (a b : List Ev) (x y : Ev) : lcs a (b ++ [y]) ≤ lcs a b + 1 := by
  have : ∀ a b : List Ev, lcs a (b ++ [y]) ≤ lcs a b + 1 := fun a => by
    induction a with
    | nil => intro b; simp [lcs_nil]
    | cons p a ih =>
      intro b
      induction b with
      | nil =>
        have := (lcs_bd (p :: a) [y]).2
        rw [List.nil_append, lcs_nilr]
        simpa using this
      | cons q b ih2 =>
        have h1 := ih b
        have h2 := ih (q :: b)
        rw [List.cons_append] at h2 ⊢
        rw [lcs_cons, lcs_cons]
        split <;> omega
  exact this a b
/-- The step of the document's Size. -/
def stp (x y : Ev) (u l d : Nat) : Nat :=
  let n := if u < l then l else u
  if x = y ∧ n < d + 1 then d + 1 else n
theorem lcs_stp (a b : List Ev) (x y : Ev) : lcs (a ++ [x]) (b ++ [y]) = stp x y (lcs a (b ++ [y])) (lcs (a ++ [x]) b) (lcs a b) := by
  unfold stp
  have h1 := lcs_snoc_le a b x y
  have h2 : lcs (a ++ [x]) b ≤ lcs a b + 1 := by
    rw [lcs_comm, lcs_comm a]
    exact lcs_snoc_le b a y x
  by_cases e : x = y
  · subst e
    rw [lcs_snoc]
    simp only [true_and]
    (repeat' split) <;> omega
  · rw [lcs_snoc_ne e]
    simp only [e, false_and, if_false]
    split <;> omega
/-- The step of the document's Sizes. -/
theorem lcs_stb (a b : List Ev) (x y : Ev) : lcs (x :: a) (y :: b) = (let n := if lcs a (y :: b) < lcs (x :: a) b then lcs (x :: a) b else lcs a (y :: b); if x = y ∧ n < lcs a b + 1 then lcs a b + 1 else n) := by
  have h1 := ((lcs_step a b).1 x).2
  have h2 := ((lcs_step a b).2 y).2
  rw [lcs_cons]
  by_cases e : x = y
  · simp only [e, true_and, if_true]
    subst e
    (repeat' split) <;> omega
  · simp only [e, false_and, if_false]
    split <;> omega
/-- The first index at which the event stands and nothing is lost behind it. -/
def fnd (e : Ev) (a : List Ev) (L : Nat) : List Ev → Option Nat
  | [] => none
  | y :: b => if e = y ∧ lcs a b + 1 = L then some 0 else (fnd e a L b).map (· + 1)
theorem fnd_low (e : Ev) (a : List Ev) (L : Nat) : ∀ b : List Ev, lcs a b + 1 < L → fnd e a L b = none
  | [], _ => rfl
  | y :: b, h => by
    have h1 := ((lcs_step a b).2 y).1
    unfold fnd
    rw [if_neg (fun c => by omega), fnd_low e a L b (by omega)]
    rfl
theorem fnd_idx (e : Ev) (a : List Ev) (L : Nat) : ∀ b : List Ev, lcs (e :: a) b ≤ L → fnd e a L b = match idx e b with | some k => if lcs a (b.drop (k + 1)) + 1 = L then some k else none | none => none
  | [], _ => rfl
  | y :: b, h => by
    have h1 := ((lcs_step (e :: a) b).2 y).1
    unfold fnd idx
    by_cases c : e = y
    · subst c
      rw [lcs_cons, if_pos rfl] at h
      simp only [true_and, if_true, Nat.zero_add, List.drop_succ_cons, List.drop_zero]
      split
      · rfl
      · rw [fnd_low e a L b (by omega)]
        rfl
    · rw [if_neg (fun h => c h.1), if_neg c, fnd_idx e a L b (by omega)]
      cases idx e b with
      | none => rfl
      | some k =>
        simp only [Option.map_some, List.drop_succ_cons]
        split <;> rfl
/-- The document's least one. -/
def mtR : Nat → Nat → List Ev → List Ev → List (Nat × Nat)
  | _, _, [], _ => []
  | i, j, e :: a, b => if lcs (e :: a) b = 0 then [] else
    match fnd e a (lcs (e :: a) b) b with
    | some k => (i, j + k) :: mtR (i + 1) (j + k + 1) a (b.drop (k + 1))
    | none => mtR (i + 1) j a b
theorem mtR_eq : ∀ (i j : Nat) (a b : List Ev), mtR i j a b = mt i j a b
  | _, _, [], b => rfl
  | i, j, e :: a, b => by
    simp only [mtR, mt]
    split
    · rfl
    · rw [fnd_idx e a _ b (Nat.le_refl _)]
      cases idx e b with
      | none => exact mtR_eq (i + 1) j a b
      | some k =>
        by_cases c : lcs a (b.drop (k + 1)) + 1 = lcs (e :: a) b
        · simp only [c, if_true]
          exact congrArg _ (mtR_eq (i + 1) (j + k + 1) a (b.drop (k + 1)))
        · simp only [c, if_false]
          exact mtR_eq (i + 1) j a b
/-- The document's Rises: each pair for itself, and against the one ahead of it. -/
def ris (n m : Int) (l : List Ev) : Prop := ∀ (i : Nat) (p : Ev), l[i]? = some p → (0 ≤ p.1 ∧ 0 ≤ p.2 ∧ p.1 < n ∧ p.2 < m) ∧ ∀ q : Ev, 0 < i → l[i - 1]? = some q → q.1 < p.1 ∧ q.2 < p.2
theorem rise_ris {n m : Int} : ∀ (q : Ev) (l : List Ev), -1 ≤ q.1 → -1 ≤ q.2 → (rise n m q l = true ↔ ris n m l ∧ ∀ p, l[0]? = some p → q.1 < p.1 ∧ q.2 < p.2)
  | q, [], _, _ => by simp [rise, ris]
  | q, p :: l, h1, h2 => by
    constructor
    · intro h
      obtain ⟨a, b, c, d, e⟩ := rise_cons h
      have ih := (rise_ris (n := n) (m := m) p l (by omega) (by omega)).1 e
      refine ⟨fun i x hx => ?_, fun x hx => by simp at hx; subst hx; exact ⟨a, c⟩⟩
      cases i with
      | zero =>
        simp at hx; subst hx
        exact ⟨⟨by omega, by omega, b, d⟩, fun y hy => absurd hy (Nat.lt_irrefl 0)⟩
      | succ i =>
        have hx' : l[i]? = some x := by simpa using hx
        refine ⟨(ih.1 i x hx').1, fun y _ hy => ?_⟩
        cases i with
        | zero => simp at hy; subst hy; exact ih.2 x hx'
        | succ i => exact (ih.1 (i + 1) x hx').2 y (Nat.succ_pos i) (by simpa using hy)
    · rintro ⟨h, k⟩
      have hp := h 0 p rfl
      have kp := k p rfl
      refine rise_mk kp.1 hp.1.2.2.1 kp.2 hp.1.2.2.2 ((rise_ris p l (by omega) (by omega)).2 ⟨fun i x hx => ?_, fun x hx => ?_⟩)
      · have := h (i + 1) x (by simpa using hx)
        refine ⟨this.1, fun y hi hy => this.2 y (Nat.succ_pos i) ?_⟩
        obtain ⟨i, rfl⟩ : ∃ j, i = j + 1 := ⟨i - 1, by omega⟩
        simpa using hy
      · exact (h 1 x (by simpa using hx)).2 p (Nat.succ_pos 0) rfl
end Go.Proofs.YthglhcabdadlpaaDoor.Al
