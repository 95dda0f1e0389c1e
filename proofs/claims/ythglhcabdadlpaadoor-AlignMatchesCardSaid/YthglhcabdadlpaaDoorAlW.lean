/- Layer 15: Fits; the document's Rises, Fits. -/
import Derived.Test.YthglhcabdadlpaaDoorAlK
import Derived.Test.YthglhcabdadlpaaDoorAlPm
namespace Go.Proofs.YthglhcabdadlpaaDoor
open Go.RowKit
set_option linter.unusedVariables false
set_option linter.unusedSimpArgs false
set_option maxRecDepth 100000
theorem drop_at {l : List Al.Ev} {k : Nat} {x : Al.Ev} (hx : l[k]? = some x) : l.drop k = x :: l.drop (k + 1) := by
  obtain ⟨h1, h2⟩ := List.getElem?_eq_some_iff.1 hx
  rw [List.drop_eq_getElem_cons h1, h2]
theorem alike_step {a b : List Al.Ev} {l : List Al.Ev} {k i j : Nat} {x y : Al.Ev} (hp : l[k]? = some ((i : Int), (j : Int))) (ha : a[i]? = some x) (hb : b[j]? = some y) : Al.alike a b (l.drop k) = (decide (x = y) && Al.alike a b (l.drop (k + 1))) := by
  rw [drop_at hp]
  unfold Al.alike
  rw [List.all_cons]
  congr 1
  show (a[((i : Nat) : Int).toNat]? == b[((j : Nat) : Int).toNat]?) = _
  rw [Int.toNat_natCast, Int.toNat_natCast, ha, hb]
  by_cases e : x = y
  · subst e; simp
  · rw [decide_eq_false e]
    simpa using e
/-- A pair that lies within, as two indices. -/
theorem rise_at {a b l : List Al.Ev} {k : Nat} (hr : Al.rise a.length b.length (-1, -1) l = true) (hk : k < l.length) : ∃ (i j : Nat) (x y : Al.Ev), l[k]? = some ((i : Int), (j : Int)) ∧ i < a.length ∧ j < b.length ∧ a[i]? = some x ∧ b[j]? = some y := by
  obtain ⟨p, hp⟩ : ∃ p, l[k]? = some p := ⟨_, List.getElem?_eq_getElem hk⟩
  obtain ⟨h1, h2, h3, h4⟩ := Al.rise_mem hr p (List.mem_of_getElem? hp)
  simp only at h1 h3
  refine ⟨p.1.toNat, p.2.toNat, a[p.1.toNat]'(by omega), b[p.2.toNat]'(by omega), ?_, by omega, by omega, List.getElem?_eq_getElem _, List.getElem?_eq_getElem _⟩
  rw [hp]
  congr 1
  exact Prod.ext (by simp only; omega) (by simp only; omega)
theorem ix_nums {i n : Nat} (h : i < n) : (i : Int) < (n : Int) ∧ decide (i < n) = true ∧ (0 : Int) ≤ (i : Int) := ⟨by omega, decide_eq_true h, by omega⟩
set_option maxHeartbeats 8000000 in
theorem fits_any (w : World) (a b c : Option Addr) (ca cb cc : Nat) (l m ps : List Al.Ev) {B : Nat} (ha : EvR B w a l) (hb : EvR B w b m) (hc : EvR B w c ps) (hB : B ≤ w.heap.size) (hl : ps.length ≤ 1000000) : Calls Tryd.prog 19 #[.slice a l.length ca, .slice b m.length cb, .slice c ps.length cc] w fun e w' => e = .returned (.bool (Al.fits l m ps)) ∧ Below w.heap.size w w' := by
  have HR := hidA (rise_any w c cc ps l.length m.length hc hB hl)
  have HA := hidA ha
  have HB := hidA hb
  have HC := hidA hc
  have HBB := hidA hB
  have HRA : Hid (Al.rise l.length m.length (-1, -1) ps = true → ∀ k, k < ps.length → ∃ (i j : Nat) (x y : Al.Ev), ps[k]? = some ((i : Int), (j : Int)) ∧ i < l.length ∧ j < m.length ∧ l[i]? = some x ∧ m[j]? = some y) := fun h k hk => rise_at h hk
  obtain ⟨T, hT⟩ : ∃ T, T = Al.fits l m ps := ⟨_, rfl⟩
  have HT := hidA hT
  unfold Al.fits at HT
  rw [← hT]
  obtain ⟨R, hR⟩ : ∃ R, R = Al.rise l.length m.length (-1, -1) ps := ⟨_, rfl⟩
  rw [← hR] at HR HT HRA
  obtain ⟨n, hn⟩ : ∃ n, n = l.length := ⟨_, rfl⟩
  obtain ⟨k2, hk2⟩ : ∃ k2, k2 = m.length := ⟨_, rfl⟩
  obtain ⟨N, hN⟩ : ∃ N, N = ps.length := ⟨_, rfl⟩
  have HL : Hid (n = l.length ∧ k2 = m.length ∧ N = ps.length ∧ N ≤ 1000000) := ⟨hn, hk2, hN, by rw [hN]; exact hl⟩
  rw [← hn, ← hk2, ← hN] at HRA
  rw [← hn, ← hk2, ← hN] at HR
  rw [← hn, ← hk2, ← hN]
  clear ha hb hc hB hl hT hR hn hk2 hN
  cases R
  · obtain rfl : T = false := HT.out
    go_enter Tryd.func19, Tryd.ntmps19
    go_wp2_with fail
    refine HR.out.mono ?_
    rintro e w1 ⟨rfl, b1⟩
    have B1 := hidA b1
    clear b1
    go_wp2_with fail
    go_ret
    exact ⟨rfl, B1.out⟩
  · have HRB := hidA (HRA.out rfl)
    have HTT : Hid (T = Al.alike l m (ps.drop 0)) := HT.out
    clear HRA HT
    go_enter Tryd.func19, Tryd.ntmps19
    go_wp2_with fail
    refine HR.out.mono ?_
    rintro e w1 ⟨rfl, b1⟩
    have B1 := hidA b1
    clear b1 HR
    go_wp2_with fail
    go_loopg [18] N (fun gk y wr => ∃ k : Nat, k + gk = N ∧ y = .int .i64 k ∧ Hid (Below w.heap.size w wr ∧ T = Al.alike l m (ps.drop k)))
    case atStart => exact ⟨0, by omega, rfl, B1.out, HTT.out⟩
    case round =>
      obtain ⟨k, hk, rfl, RR⟩ := hrel
      rcases gk with _ | gk
      · obtain rfl : N = k := by omega
        have dk : decide ((N : Int) < (N : Int)) = false := decide_eq_false (Int.lt_irrefl _)
        have E : Hid (T = true) := by unfold Hid; rw [RR.out.2, List.drop_eq_nil_of_le (by rw [HL.out.2.2.1]; exact Nat.le_refl _)]; rfl
        obtain rfl : T = true := E.out
        go_wp2_with fail
        go_ret
        exact ⟨rfl, RR.out.1⟩
      · obtain ⟨k6, dk, dk2, hkN, hk3⟩ := mch_k hk
        obtain ⟨i, j, x, y, hp, hi, hj, hx, hy⟩ := HRB.out k hkN
        have AS := hidA (alike_step hp hx hy)
        obtain ⟨ga, oa, rfl, hga, cs⟩ := (HA.out.later RR.out.1 HBB.out) (by rw [← HL.out.1]; exact Nat.lt_of_le_of_lt (Nat.zero_le i) hi)
        obtain ⟨gb, ob, rfl, hgb, cs2⟩ := (HB.out.later RR.out.1 HBB.out) (by rw [← HL.out.2.1]; exact Nat.lt_of_le_of_lt (Nat.zero_le j) hj)
        obtain ⟨gc, oc, rfl, hgc, cs3⟩ := (HC.out.later RR.out.1 HBB.out) (by rw [← HL.out.2.2.1]; exact Nat.lt_of_le_of_lt (Nat.zero_le k) hkN)
        have p0 : wr.cell? ⟨gc, oc + k * 2, none⟩ = some (.int .i64 (i : Int)) := (cs3 k _ hp).1
        have p1 : wr.cell? ⟨gc, oc + k * 2 + 1, none⟩ = some (.int .i64 (j : Int)) := (cs3 k _ hp).2
        obtain ⟨W3, hW3⟩ : ∃ W3, W3 = wr.alloc (.cells #[.int .i64 (i : Int), .int .i64 (j : Int)] 64) := ⟨_, rfl⟩
        obtain ⟨q, hq⟩ : ∃ q, q = wr.heap.size := ⟨_, rfl⟩
        have W3B : Below wr.heap.size wr W3 := by rw [hW3]; exact (Below.refl _ _).alloc (Nat.le_refl _) _
        have W3C : W3.cell? ⟨q, 0, none⟩ = some (.int .i64 (i : Int)) ∧ W3.cell? ⟨q, 1, none⟩ = some (.int .i64 (j : Int)) := by rw [hW3, hq]; exact box2A _ _ _ _
        obtain ⟨c0, c1⟩ := W3C
        have BW3 : Below w.heap.size w W3 := RR.out.1.trans (W3B.mono RR.out.1.size)
        have a0 : W3.cell? ⟨ga, oa + i * 2, none⟩ = some (.int .i64 x.1) := (W3B.cell (p := ⟨ga, _, none⟩) (Nat.lt_of_lt_of_le hga (Nat.le_trans HBB.out RR.out.1.size))).trans (cs i x hx).1
        have a1 : W3.cell? ⟨ga, oa + i * 2 + 1, none⟩ = some (.int .i64 x.2) := (W3B.cell (p := ⟨ga, _, none⟩) (Nat.lt_of_lt_of_le hga (Nat.le_trans HBB.out RR.out.1.size))).trans (cs i x hx).2
        have b0 : W3.cell? ⟨gb, ob + j * 2, none⟩ = some (.int .i64 y.1) := (W3B.cell (p := ⟨gb, _, none⟩) (Nat.lt_of_lt_of_le hgb (Nat.le_trans HBB.out RR.out.1.size))).trans (cs2 j y hy).1
        have b1 : W3.cell? ⟨gb, ob + j * 2 + 1, none⟩ = some (.int .i64 y.2) := (W3B.cell (p := ⟨gb, _, none⟩) (Nat.lt_of_lt_of_le hgb (Nat.le_trans HBB.out RR.out.1.size))).trans (cs2 j y hy).2
        have WK := hidA (wrK k (Nat.le_trans (Nat.le_of_lt hkN) HL.out.2.2.2))
        obtain ⟨i1, i2, i3⟩ := ix_nums hi
        obtain ⟨j1, j2, j3⟩ := ix_nums hj
        have BDR : Hid (∀ r, Below w.heap.size w (W3.drewN r)) := fun r => below_drA BW3 r
        have TT : Hid (T = (decide (x = y) && Al.alike l m (ps.drop (k + 1)))) := RR.out.2.trans AS.out
        clear cs cs2 cs3 hp hx hy W3B BW3 RR AS
        by_cases hxy : x = y
        · subst hxy
          have ST : Hid (T = Al.alike l m (ps.drop (k + 1))) := by have h := TT.out; rw [decide_eq_true rfl, Bool.true_and] at h; exact h
          clear TT HTT
          generalize x.1 = x1 at a0 b0
          generalize x.2 = x2 at a1 b1
          have q1 : (x1 == x1) = true := beq_self_eq_true x1
          have q2 : (x2 == x2) = true := beq_self_eq_true x2
          go_upto_region 6 with fail
          rw [← hW3, ← hq]
          clear hW3 hq p0 p1
          go_quiet (fail)
          have BQ := hidA (BDR.out nq)
          generalize W3.drewN nq = W5 at BQ ⊢
          clear a0 a1 b0 b1 c0 c1
          go_wp2_with fail
          go_roundg gk
          case measure => omega
          case rel => exact ⟨k + 1, hk3, congrArg _ WK.out, BQ.out, ST.out⟩
        · have E : Hid (T = false) := by have h := TT.out; rw [decide_eq_false hxy, Bool.false_and] at h; exact h
          clear TT HTT
          obtain rfl : T = false := E.out
          have qq := ev_ne hxy
          clear hxy
          generalize x.1 = x1 at a0 qq
          generalize x.2 = x2 at a1 qq
          generalize y.1 = y1 at b0 qq
          generalize y.2 = y2 at b1 qq
          rcases qq with q1 | ⟨q1, q2⟩
          all_goals
            go_upto_region 6 with fail
            rw [← hW3, ← hq]
            clear hW3 hq p0 p1
            go_quiet (fail)
            have BQ := hidA (BDR.out nq)
            generalize W3.drewN nq = W5 at BQ ⊢
            clear a0 a1 b0 b1 c0 c1
            go_wp2_with fail
            go_ret
            exact ⟨rfl, BQ.out⟩
end Go.Proofs.YthglhcabdadlpaaDoor
