/- Layer 15: Lines. -/
import Derived.Test.YthglhcabdadlpaaDoorZAlGf
namespace Go.Proofs.YthglhcabdadlpaaDoor
open Go.RowKit
set_option linter.unusedVariables false
set_option linter.unusedSimpArgs false
set_option maxRecDepth 100000
namespace Al
def nats (l : List Ev) : List (Nat × Nat) := l.map fun p => (p.1.toNat, p.2.toNat)
theorem nats_prs (q : List (Nat × Nat)) : nats (prs q) = q := by
  unfold nats prs
  rw [List.map_map]
  conv => rhs; rw [← List.map_id q]
  apply List.map_congr_left
  intro x _
  simp
/-- The lines of a region, or what is wrong. -/
def lns (l m ps : List Ev) (r : Rg) : List ByteArray × Int := if fits l m ps = true then (if rok l.length m.length r = true then (lnsP l m r.ta.toNat r.tb.toNat r.fa.toNat r.fb.toNat (nats (insd r ps)), 0) else ([], 1)) else ([], 90)
/-- Where nothing is wrong. -/
theorem lns_ok {l m ps : List Ev} {r : Rg} (hf : fits l m ps = true) (hr : rok l.length m.length r = true) : ∃ (fa ta fb tb : Nat) (q : List (Nat × Nat)), r = ⟨fa, ta, fb, tb⟩ ∧ insd r ps = prs q ∧ chn ta tb fa fb q ∧ fa ≤ ta ∧ fb ≤ tb ∧ ta ≤ l.length ∧ tb ≤ m.length ∧ lns l m ps r = (lnsP l m ta tb fa fb q, 0) := by
  have hr0 := hr
  unfold rok at hr
  simp only [Bool.and_eq_true, decide_eq_true_eq] at hr
  obtain ⟨⟨h1, h2, h3⟩, h4, h5, h6⟩ := hr
  obtain ⟨fa, ta, fb, tb⟩ := r
  simp only at h1 h2 h3 h4 h5 h6
  obtain ⟨fa, rfl⟩ := Int.eq_ofNat_of_zero_le h1
  obtain ⟨ta, rfl⟩ := Int.eq_ofNat_of_zero_le (Int.le_trans h1 h2)
  obtain ⟨fb, rfl⟩ := Int.eq_ofNat_of_zero_le h4
  obtain ⟨tb, rfl⟩ := Int.eq_ofNat_of_zero_le (Int.le_trans h4 h5)
  have hrise : rise l.length m.length (-1, -1) ps = true := by
    unfold fits at hf
    rw [Bool.and_eq_true] at hf
    exact hf.1
  obtain ⟨q, hq, hc⟩ := insd_chn (fa := fa) (ta := ta) (fb := fb) (tb := tb) (-1, -1) ps fa fb hrise (by decide) (by decide) (by omega) (by omega) (.inl (Int.le_refl _)) (.inl (Int.le_refl _))
  refine ⟨fa, ta, fb, tb, q, rfl, hq, hc, by omega, by omega, by omega, by omega, ?_⟩
  unfold lns
  rw [if_pos hf, if_pos hr0, hq, nats_prs]
  simp
theorem insd_len' (r : Rg) (l : List Ev) : (insd r l).length ≤ l.length := List.length_filter_le _ _
end Al
def LnsQ (w : World) (L : List ByteArray) (x : Int) (e : Ending) (w' : World) : Prop := ∃ v, e = .returned (.tuple #[v, .int .i64 x]) ∧ OwnS w' w.heap.size v L ∧ Below w.heap.size w w'
set_option maxHeartbeats 4000000 in
theorem liness_any (w : World) (a b c : Option Addr) (ca cb cc : Nat) (l m ps : List Al.Ev) (r : Al.Rg) {B : Nat} (ha : EvR B w a l) (hb : EvR B w b m) (hc : EvR B w c ps) (hB : B ≤ w.heap.size) (ht : Tab w) (hRl : ∀ x ∈ l, Al.R64 x.1 ∧ Al.R64 x.2) (hRm : ∀ x ∈ m, Al.R64 x.1 ∧ Al.R64 x.2) (hl : l.length ≤ 300) (hm : m.length ≤ 300) (hq : ps.length ≤ 300) (hca : l.length ≤ ca) (hcb : m.length ≤ cb) :
    Calls Tryd.prog 28 #[.slice a l.length ca, .slice b m.length cb, .slice c ps.length cc, .agg #[.int .i64 r.fa, .int .i64 r.ta, .int .i64 r.fb, .int .i64 r.tb]] w (LnsQ w (Al.lns l m ps r).1 (Al.lns l m ps r).2) := by
  obtain ⟨M, hM⟩ : ∃ M, M = w.heap.size := ⟨_, rfl⟩
  obtain ⟨W0, hW0⟩ : ∃ W0, W0 = w.alloc (.cells #[.int .i64 r.fa, .int .i64 r.ta, .int .i64 r.fb, .int .i64 r.tb] 59) := ⟨_, rfl⟩
  have K0 : Hid (Below w.heap.size w W0) := by rw [hW0]; exact (Below.refl _ _).alloc (Nat.le_refl _) _
  have UP : Hid (∀ W, Below W0.heap.size W0 W → Below w.heap.size w W) := fun W h => K0.out.trans (h.mono K0.out.size)
  have HRB : Hid (∀ W, Below W0.heap.size W0 W → W.heap[M]? = some (.cells #[.int .i64 r.fa, .int .i64 r.ta, .int .i64 r.fb, .int .i64 r.tb] 59 (0, 0))) := fun W hW => by
    rw [hW.block M (by rw [hW0, hM]; simp), hW0, hM]
    exact Array.getElem?_push_size
  have R0 : Hid (Below W0.heap.size W0 W0) := Below.refl _ _
  have HF := hidA (fits_any W0 a b c ca cb cc l m ps (ha.later K0.out hB) (hb.later K0.out hB) (hc.later K0.out hB) (Nat.le_trans hB K0.out.size) (Nat.le_trans hq (by decide)))
  obtain ⟨Q, hQ⟩ : ∃ Q, Q = LnsQ w (Al.lns l m ps r).1 (Al.lns l m ps r).2 := ⟨_, rfl⟩
  have Q1 : Hid (Al.fits l m ps = false → ∀ w', Below w.heap.size w w' → Q (.returned (.tuple #[.slice none 0 0, .int .i64 90])) w') := fun h w' hb => by
    rw [hQ]
    unfold Al.lns
    rw [if_neg (by rw [h]; decide)]
    exact ⟨_, rfl, OwnS.nil _ _, hb⟩
  have Q2 : Hid (Al.fits l m ps = true → Al.rok l.length m.length r = false → ∀ w', Below w.heap.size w w' → Q (.returned (.tuple #[.slice none 0 0, .int .i64 1])) w') := fun h h2 w' hb => by
    rw [hQ]
    unfold Al.lns
    rw [if_pos h, if_neg (by rw [h2]; decide)]
    exact ⟨_, rfl, OwnS.nil _ _, hb⟩
  have HIN : Hid (∀ W, Below W0.heap.size W0 W → Calls Tryd.prog 45 #[.slice c ps.length cc, .agg #[.int .i64 r.fa, .int .i64 r.ta, .int .i64 r.fb, .int .i64 r.tb]] W fun e w' => ∃ a2 c2, e = .returned (.slice a2 (Al.insd r ps).length c2) ∧ EvR w'.heap.size w' a2 (Al.insd r ps) ∧ Below W0.heap.size W0 w') := fun W hW => (inside_any W c cc ps r (hc.later (UP.out W hW) hB) (Nat.le_trans hB (UP.out W hW).size) (Nat.le_trans hq (by decide))).mono fun e w' h => by
    obtain ⟨v, e1, o, bb⟩ := h
    obtain ⟨a2, c2, e2, ev, -⟩ := o.ev
    exact ⟨a2, c2, by rw [e1, e2], ev, hW.trans (bb.mono hW.size)⟩
  have HLN : Hid (Al.fits l m ps = true → Al.rok l.length m.length r = true → ∀ W a2 c2, Below W0.heap.size W0 W → EvR W.heap.size W a2 (Al.insd r ps) → Calls Tryd.prog 44 #[.slice a l.length ca, .slice b m.length cb, .slice a2 (Al.insd r ps).length c2, .agg #[.int .i64 r.fa, .int .i64 r.ta, .int .i64 r.fb, .int .i64 r.tb]] W fun e w' => ∃ v, e = .returned v ∧ ∀ W2 : World, W2.os = w'.os → W2.tape = w'.tape → W2.output = w'.output → W2.heap = w'.heap → Q (.returned (.tuple #[v, .int .i64 0])) W2) := fun h1 h2 W a2 c2 hW ev => by
    obtain ⟨fa, ta, fb, tb, q, e1, e2, hch, -, -, hta, htb, e3⟩ := Al.lns_ok h1 h2
    have e4 : (Al.insd r ps).length = q.length := by rw [e2, Al.prs_len]
    rw [e2] at ev
    rw [hQ, e3, e4, e1]
    have hWw := UP.out W hW
    have r0 := lines_any W a b a2 ca cb c2 l m q fa ta fb tb ((ha.later hWw hB).mono (Nat.le_trans hB hWw.size)) ((hb.later hWw hB).mono (Nat.le_trans hB hWw.size)) ev (Nat.le_refl _) (ht.later hWw (Nat.le_refl _)) hRl hRm hch hta htb hl hm (by rw [← e4]; exact Nat.le_trans (Al.insd_len' _ _) hq) hca hcb
    exact r0.mono fun e w' h => by
      obtain ⟨v, e5, o, bb⟩ := h
      refine ⟨v, e5, fun W2 q1 q2 q3 q4 => ?_⟩
      have b2 : ∀ B, Below B w' W2 := fun B => ⟨q1, q2, q3, by rw [q4]; exact Nat.le_refl _, fun i _ => by rw [q4]⟩
      exact ⟨v, rfl, ownA (World.ownsRow.mono o hWw.size) (b2 _), hWw.trans ((bb.mono hWw.size).trans (b2 _))⟩
  obtain ⟨q1, hq1⟩ : ∃ q1, q1 = (decide (0 ≤ r.fa) && (decide (r.fa ≤ r.ta) && decide (r.ta ≤ (l.length : Int)))) := ⟨_, rfl⟩
  obtain ⟨q2, hq2⟩ : ∃ q2, q2 = (decide (0 ≤ r.fb) && (decide (r.fb ≤ r.tb) && decide (r.tb ≤ (m.length : Int)))) := ⟨_, rfl⟩
  have HK : Hid (Al.rok l.length m.length r = (q1 && q2)) := by rw [hq1, hq2]; exact hidA rfl
  have LI1 : Hid (∀ W, Calls Tryd.prog 43 #[.int .i64 r.fa, .int .i64 r.ta, .int .i64 (l.length : Int)] W fun e w' => e = .returned (.bool q1) ∧ w' = W) := fun W => by rw [hq1]; exact lies_any _ _ _ W
  have LI2 : Hid (∀ W, Calls Tryd.prog 43 #[.int .i64 r.fb, .int .i64 r.tb, .int .i64 (m.length : Int)] W fun e w' => e = .returned (.bool q2) ∧ w' = W) := fun W => by rw [hq2]; exact lies_any _ _ _ W
  rw [← hQ]
  obtain ⟨F, hF⟩ : ∃ F, F = Al.fits l m ps := ⟨_, rfl⟩
  rw [← hF] at HF Q1 Q2 HLN
  rw [HK.out] at Q2 HLN
  have HM := hidA hM
  have HW0 := hidA hW0
  generalize l.length = N at *
  generalize m.length = O at *
  generalize ps.length = G at *
  generalize (Al.insd r ps).length = IL at *
  generalize r.fa = fa at *
  generalize r.ta = ta at *
  generalize r.fb = fb at *
  generalize r.tb = tb at *
  clear ha hb hc hB ht hRl hRm hl hm hq hca hcb hM hW0 hq1 hq2 hF hQ HK
  obtain ⟨e0, e1, e2, e3, -, -, -, -⟩ := box4 (HRB.out W0 R0.out)
  cases F
  · have Q1' := hidA (Q1.out rfl)
    go_enter Tryd.func28, Tryd.ntmps28
    go_upto_region 1 with fail
    rw [← HW0.out, ← HM.out]
    go_wp2_with fail
    refine HF.out.mono ?_
    rintro e w1 ⟨rfl, b1⟩
    have FIN := hidA (Q1'.out w1 (UP.out w1 b1))
    clear b1
    go_wp2_with fail
    exact FIN.out
  · have Q2' := hidA (Q2.out rfl)
    have HL2 := hidA (HLN.out rfl)
    clear Q1 Q2 HLN
    go_enter Tryd.func28, Tryd.ntmps28
    go_upto_region 1 with fail
    rw [← HW0.out, ← HM.out]
    go_wp2_with fail
    refine HF.out.mono ?_
    rintro e w1 ⟨rfl, b1⟩
    have B1 := hidA b1
    clear b1 e0 e1 e2 e3
    obtain ⟨e0, e1, e2, e3, -, -, -, -⟩ := box4 (HRB.out w1 B1.out)
    cases q1
    · have FIN := hidA (Q2'.out rfl w1 (UP.out w1 B1.out))
      go_wp2_with fail
      refine (LI1.out w1).mono ?_
      rintro e w2 ⟨rfl, rfl⟩
      go_wp2_with fail
      exact FIN.out
    · cases q2
      · have FIN := hidA (Q2'.out rfl w1 (UP.out w1 B1.out))
        go_wp2_with fail
        refine (LI1.out w1).mono ?_
        rintro e w2 ⟨rfl, rfl⟩
        go_wp2_with fail
        refine (LI2.out w2).mono ?_
        rintro e w3 ⟨rfl, rfl⟩
        go_wp2_with fail
        exact FIN.out
      · have HL3 := hidA (HL2.out rfl)
        go_wp2_with fail
        refine (LI1.out w1).mono ?_
        rintro e w2 ⟨rfl, rfl⟩
        go_wp2_with fail
        refine (LI2.out w2).mono ?_
        rintro e w3 ⟨rfl, rfl⟩
        clear HF Q2' HL2
        go_upto_region 5 with fail
        go_region_with (first
          | (have qq := B5.out; go_at_call 44; refine Calls.mono (HL3.out w5 a5 c5 B5.out E5.out) ?_; rintro e6 w6 ⟨v6, rfl, hh⟩; have F6 := hidA hh; clear hh)
          | (go_at_call 45; refine Calls.mono (HIN.out _ (B1.out.trans (by go_grown))) ?_; rintro e5 w5 ⟨a5, c5, rfl, ev5, bb5⟩; have B5 := hidA bb5; have E5 := hidA ev5; clear ev5 bb5; obtain ⟨g0, g1, g2, g3, -, -, -, -⟩ := box4 (HRB.out w5 B5.out)))
        all_goals
          go_wp2_with fail
          go_ret2
          exact F6.out _ rfl rfl rfl rfl
end Go.Proofs.YthglhcabdadlpaaDoor
