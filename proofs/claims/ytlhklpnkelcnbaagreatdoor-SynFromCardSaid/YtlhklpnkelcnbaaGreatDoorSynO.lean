/- Layer 3: the writer of expressions: expr. -/
import Derived.Test.YtlhklpnkelcnbaaGreatDoorSynN
namespace Go.Proofs.YtlhklpnkelcnbaaGreatDoor
open Go.RowKit

theorem ExS.kid0 {A : Nat → Prop} {w : World} {g o sn sc : Nat} {k m : Int} {n : List UInt8} {l r : List Sx.Ex} (h : ExS A w (.slice (Option.some ⟨g, o, Option.none⟩) sn sc) (.mk k n m l :: r)) :
    ∃ sa' sn' sc', w.cell? ⟨g, o, Option.none⟩ = Option.some (.int .i64 k) ∧ w.cell? ⟨g, o + 1, Option.none⟩ = Option.some (.string ⟨n.toArray⟩) ∧ w.cell? ⟨g, o + 2, Option.none⟩ = Option.some (.int .i64 m) ∧ w.cell? ⟨g, o + 3, Option.none⟩ = Option.some (.slice sa' sn' sc') ∧ ExS A w (.slice sa' sn' sc') l := by
  obtain ⟨g', o', cap, e, _, _, _, hc⟩ := h.inv (by simp)
  cases e
  cases hc with
  | cons _ _ _ _ _ sl _ _ c0 c1 c2 c3 hs hr =>
    obtain ⟨sa, sn', sc', rfl⟩ := hs.form
    exact ⟨sa, sn', sc', c0, c1, c2, c3, hs⟩
theorem ExS.kid1 {A : Nat → Prop} {w : World} {g o sn sc : Nat} {k m : Int} {n : List UInt8} {l r : List Sx.Ex} {x : Sx.Ex} (h : ExS A w (.slice (Option.some ⟨g, o, Option.none⟩) sn sc) (x :: .mk k n m l :: r)) :
    ∃ sa' sn' sc', w.cell? ⟨g, o + 4, Option.none⟩ = Option.some (.int .i64 k) ∧ w.cell? ⟨g, o + 4 + 1, Option.none⟩ = Option.some (.string ⟨n.toArray⟩) ∧ w.cell? ⟨g, o + 4 + 2, Option.none⟩ = Option.some (.int .i64 m) ∧ w.cell? ⟨g, o + 4 + 3, Option.none⟩ = Option.some (.slice sa' sn' sc') ∧ ExS A w (.slice sa' sn' sc') l := by
  obtain ⟨g', o', cap, e, _, _, _, hc⟩ := h.inv (by simp)
  cases e
  cases hc with
  | cons _ _ _ _ _ sl _ _ c0 c1 c2 c3 hs hr =>
    cases hr with
    | cons _ _ _ _ _ sl _ _ c0 c1 c2 c3 hs hr =>
      obtain ⟨sa, sn', sc', rfl⟩ := hs.form
      exact ⟨sa, sn', sc', c0, c1, c2, c3, hs⟩
theorem In.grow {q g : Nat} {w0 : World} {v0 : Value} {k : Int} {n : List UInt8} {m : Int} {sl : Value} {l : List Sx.Ex} {w : World} {v : Value} {xs : List ByteArray} {dp : Nat} (h : In q g w0 v0 k n m sl l w v xs dp) {w' : World} (b : Below w.heap.size w w') : In q g w0 v0 k n m sl l w' v xs dp :=
  have S : WS q w v w' v := WS.of_below (Nat.le_of_lt h.wr.lt) b
  ⟨h.wr.later b, h.ws.trans S, h.bx.far S h.fr, S.frn h.fr, h.ex.ws S, h.tab.later b (Nat.le_refl _)⟩
set_option maxRecDepth 100000 in
set_option maxHeartbeats 4000000 in
theorem expr_step (q f : Nat) (hg : 2 < q) (hX : XC q f) : XC q (f + 1) := by
  intro k n m sa sn sc l d ws e v xs dp w ht hw hx hd hr hn
  have HO : Hid (OC q f) := operand_any q f hg hX
  have HX : Hid (XC q f) := hX
  have HG : Hid (2 < q) := hg
  have I0 : Hid _ := In.new (k := k) (n := n) (m := m) hw hx ht
  have HD : Hid (d + 2 * (f + 1) ≤ 1000000) := hd
  have HN : Hid (xs.length + ws.length ≤ 1000000) := hn
  have hw1 : IntKind.i64.wrap ((d : Int) + 1) = (d : Int) + 1 := by rw [IntKind.wrap_i64]; omega
  have HLEN : Hid (sn = l.length) := hx.len
  unfold Sx.wx at hr
  clear hn hd ht hw hX hg
  by_cases k1 : k = 1
  · subst k1
    rw [if_pos rfl] at hr
    by_cases hm : 0 ≤ m ∧ m ≤ 9223372036854775807
    · rw [if_pos hm] at hr
      obtain ⟨rfl, rfl⟩ := Prod.mk.inj (Option.some.inj hr)
      have HM : Hid (0 ≤ m ∧ m ≤ 9223372036854775807) := hm
      clear hr hm hx
      go_enter Tryz.func20, Tryz.ntmps20
      go_wp2_with fail
      refine (reach_any q dp d v xs _ I0.out.wr).mono ?_
      rintro e w1 ⟨rfl, W1, S1⟩
      have I1 : Hid _ := I0.out.step HG.out W1 S1
      clear W1 S1
      obtain ⟨c0, c1, c2, c3, -, -, -, -, zt⟩ := I1.out.bx
      go_wp2_with fail
      refine (text_any m w1 I1.out.tab (by have := HM.out; omega) HM.out.2).mono ?_
      rintro e w2 ⟨rfl, b2⟩
      have I2 : Hid _ := I1.out.grow b2
      clear b2 c0 c1 c2 c3 zt
      go_wp2_with fail
      refine (put1 q _ v xs (tb (Lib.itoa m)) _ I2.out.wr (by have := HN.out; simp at this; omega) _ _ rfl).mono ?_
      rintro e w3 ⟨rfl, v3, W3, S3⟩
      have PB : Hid _ := I2.out.step HG.out W3 S3
      clear W3 S3
      go_wp2_with fail
      go_end0
      exact ⟨rfl, v3, PB.out.wr, PB.out.ws⟩
    · rw [if_neg hm] at hr; cases hr
  · rw [if_neg k1] at hr
    have b1 : (k == 1) = false := beq_eq_false_iff_ne.2 k1
    clear k1
    by_cases k2 : k = 2
    · subst k2
      rw [if_pos rfl] at hr
      obtain ⟨bw, hbw⟩ : ∃ bw : List UInt8, (if m = 1 then [116, 114, 117, 101] else [102, 97, 108, 115, 101]) = bw := ⟨_, rfl⟩
      rw [hbw] at hr
      have HBW : Hid (∀ W, Calls Tryz.prog 40 #[.int .i64 m] W fun e w' => e = .returned (.string ⟨bw.toArray⟩) ∧ w' = W) := by
        intro W
        have e := boolWord_any m W
        rw [hbw] at e
        exact e
      obtain ⟨rfl, rfl⟩ := Prod.mk.inj (Option.some.inj hr)
      clear hr hx hbw
      go_enter Tryz.func20, Tryz.ntmps20
      go_wp2_with fail
      refine (reach_any q dp d v xs _ I0.out.wr).mono ?_
      rintro e w1 ⟨rfl, W1, S1⟩
      have I1 : Hid _ := I0.out.step HG.out W1 S1
      clear W1 S1
      obtain ⟨c0, c1, c2, c3, -, -, -, -, zt⟩ := I1.out.bx
      go_wp2_with fail
      refine (HBW.out w1).mono ?_
      rintro e w2 ⟨rfl, hw2⟩
      rw [hw2]
      clear hw2 w2
      go_wp2_with fail
      refine (put1 q _ v xs (tb bw) _ I1.out.wr (by have := HN.out; simp at this; omega) _ _ rfl).mono ?_
      rintro e w3 ⟨rfl, v3, W3, S3⟩
      have PB : Hid _ := I1.out.step HG.out W3 S3
      clear W3 S3
      go_wp2_with fail
      go_end0
      exact ⟨rfl, v3, PB.out.wr, PB.out.ws⟩
    · rw [if_neg k2] at hr
      have b2 : (k == 2) = false := beq_eq_false_iff_ne.2 k2
      clear k2
      by_cases k3 : k = 3
      · subst k3
        rw [if_pos rfl] at hr
        obtain ⟨rfl, rfl⟩ := Prod.mk.inj (Option.some.inj hr)
        clear hr hx
        go_enter Tryz.func20, Tryz.ntmps20
        go_wp2_with fail
        refine (reach_any q dp d v xs _ I0.out.wr).mono ?_
        rintro e w1 ⟨rfl, W1, S1⟩
        have I1 : Hid _ := I0.out.step HG.out W1 S1
        clear W1 S1
        obtain ⟨c0, c1, c2, c3, -, -, -, -, zt⟩ := I1.out.bx
        go_wp2_with fail
        refine (put1 q _ v xs (tb n) _ I1.out.wr (by have := HN.out; simp at this; omega) _ _ rfl).mono ?_
        rintro e w3 ⟨rfl, v3, W3, S3⟩
        have PB : Hid _ := I1.out.step HG.out W3 S3
        clear W3 S3
        go_wp2_with fail
        go_end0
        exact ⟨rfl, v3, PB.out.wr, PB.out.ws⟩
      · rw [if_neg k3] at hr
        have b3 : (k == 3) = false := beq_eq_false_iff_ne.2 k3
        clear k3
        by_cases k4 : k = 4
        · subst k4
          rw [if_pos rfl] at hr
          rcases l with _ | ⟨a, _ | ⟨b, r⟩⟩
          · cases hr
          · obtain ⟨ka, na, ma, la⟩ := a
            have hsn : sn = 1 := HLEN.out
            subst hsn
            obtain ⟨g, o, cap, esl, -⟩ := hx.inv (by simp)
            injection esl with ea eb ec; clear eb
            subst ea ec
            cases hq : Sx.wx f (.mk ka na ma la) (d + 1) with
            | none => simp only [hq] at hr; cases hr
            | some te =>
              obtain ⟨t, e1⟩ := te
              simp only [hq] at hr
              obtain ⟨hw', he'⟩ := Prod.mk.inj (Option.some.inj hr)
              have HW : Hid _ := hw'
              have HE : Hid _ := he'
              rw [← hw'] at HN
              clear hw' he'
              have HQ : Hid (Sx.wx f (.mk ka na ma la) (d + 1) = some (t, e1)) := hq
              clear hr hx hq
              go_enter Tryz.func20, Tryz.ntmps20
              go_wp2_with fail
              refine (reach_any q dp d v xs _ I0.out.wr).mono ?_
              rintro e w1 ⟨rfl, W1, S1⟩
              have I1 : Hid _ := I0.out.step HG.out W1 S1
              clear W1 S1
              obtain ⟨c0, c1, c2, c3, -, -, -, -, zt⟩ := I1.out.bx
              go_wp2_with fail
              refine (put2 q _ v xs (tb n) (tb [91]) _ I1.out.wr (by have := HN.out; simp at this; omega) _ _ rfl).mono ?_
              rintro e w2 ⟨rfl, v2, W2, S2⟩
              have I2 : Hid _ := I1.out.step HG.out W2 S2
              clear W2 S2 c0 c1 c2 c3 zt
              obtain ⟨c0, c1, c2, c3, -, -, -, -, zt⟩ := I2.out.bx
              obtain ⟨sa', sn', sc', j0, j1, j2, j3, X2⟩ := I2.out.ex.kid0
              have X2' : Hid _ := X2
              clear X2
              go_wp2_with fail
              refine (HX.out ka na ma sa' sn' sc' la (d + 1) t e1 v2 _ _ w2 I2.out.tab I2.out.wr X2'.out (by have := HD.out; omega) HQ.out (by have := HN.out; simp at this ⊢; omega)).mono ?_
              rintro e w3 ⟨rfl, v3, W3, S3⟩
              have I3 : Hid _ := I2.out.step HG.out W3 S3
              clear W3 S3 c0 c1 c2 c3 zt j0 j1 j2 j3
              go_wp2_with fail
              refine (put1 q _ v3 _ (tb [93]) _ I3.out.wr (by have := HN.out; simp at this ⊢; omega) _ _ rfl).mono ?_
              rintro e w4 ⟨rfl, v4, W4, S4⟩
              have PB : Hid _ := I3.out.step HG.out W4 S4
              clear W4 S4
              go_wp2_with fail
              go_end0
              refine ⟨rfl, _, ?_, PB.out.ws⟩
              rw [← HW.out, ← HE.out]
              have e := PB.out.wr
              simp only [List.append_assoc] at e
              simpa [Nat.max_assoc] using e
          · cases hr
        · rw [if_neg k4] at hr
          have b4 : (k == 4) = false := beq_eq_false_iff_ne.2 k4
          clear k4
          by_cases k5 : k = 5
          · subst k5
            rw [if_pos rfl] at hr
            rcases l with _ | ⟨a, _ | ⟨b, r⟩⟩
            · cases hr
            · obtain ⟨ka, na, ma, la⟩ := a
              have hsn : sn = 1 := HLEN.out
              subst hsn
              obtain ⟨g, o, cap, esl, -⟩ := hx.inv (by simp)
              injection esl with ea eb ec; clear eb
              subst ea ec
              cases hq : (if ka = 6 then (match Sx.wx f (.mk ka na ma la) (d + 1 + 1) with
                  | some (t, e) => some ([[40]] ++ t ++ [[41]], e)
                  | none => none) else Sx.wx f (.mk ka na ma la) (d + 1)) with
              | none => simp only [Sx.exK] at hr; erw [hq] at hr; cases hr
              | some te =>
                obtain ⟨t, e1⟩ := te
                simp only [Sx.exK] at hr
                erw [hq] at hr
                obtain ⟨hw', he'⟩ := Prod.mk.inj (Option.some.inj hr)
                have HW : Hid _ := hw'
                have HE : Hid _ := he'
                rw [← hw'] at HN
                clear hw' he'
                have HQ : Hid _ := hq
                clear hr hx hq
                go_enter Tryz.func20, Tryz.ntmps20
                go_wp2_with fail
                refine (reach_any q dp d v xs _ I0.out.wr).mono ?_
                rintro e w1 ⟨rfl, W1, S1⟩
                have I1 : Hid _ := I0.out.step HG.out W1 S1
                clear W1 S1
                obtain ⟨c0, c1, c2, c3, -, -, -, -, zt⟩ := I1.out.bx
                go_wp2_with fail
                refine (put1 q _ v xs (tb n) _ I1.out.wr (by have := HN.out; simp at this; omega) _ _ rfl).mono ?_
                rintro e w2 ⟨rfl, v2, W2, S2⟩
                have I2 : Hid _ := I1.out.step HG.out W2 S2
                clear W2 S2 c0 c1 c2 c3 zt
                obtain ⟨c0, c1, c2, c3, -, -, -, -, zt⟩ := I2.out.bx
                obtain ⟨sa', sn', sc', j0, j1, j2, j3, X2⟩ := I2.out.ex.kid0
                have X2' : Hid _ := X2
                clear X2
                go_wp2_with fail
                refine (HO.out ka na ma sa' sn' sc' la (d + 1) t e1 v2 _ _ w2 I2.out.tab I2.out.wr X2'.out (by have := HD.out; omega) HQ.out (by have := HN.out; simp at this ⊢; omega)).mono ?_
                rintro e w3 ⟨rfl, v3, W3, S3⟩
                have PB : Hid _ := I2.out.step HG.out W3 S3
                clear W3 S3
                go_wp2_with fail
                go_end0
                refine ⟨rfl, _, ?_, PB.out.ws⟩
                rw [← HW.out, ← HE.out]
                have e := PB.out.wr
                simp only [List.append_assoc] at e
                simpa [Nat.max_assoc] using e
            · cases hr
          · rw [if_neg k5] at hr
            have b5 : (k == 5) = false := beq_eq_false_iff_ne.2 k5
            clear k5
            by_cases k6 : k = 6
            · subst k6
              rw [if_pos rfl] at hr
              rcases l with _ | ⟨a, _ | ⟨b, _ | ⟨c, r⟩⟩⟩
              · cases hr
              · cases hr
              · obtain ⟨ka, na, ma, la⟩ := a
                obtain ⟨kb, nb, mb, lb⟩ := b
                have hsn : sn = 2 := HLEN.out
                subst hsn
                obtain ⟨g, o, cap, esl, -⟩ := hx.inv (by simp)
                injection esl with ea eb ec; clear eb
                subst ea ec
                cases hq : (if ka = 6 then (match Sx.wx f (.mk ka na ma la) (d + 1) with
                    | some (t, e) => some ([[40]] ++ t ++ [[41]], e)
                    | none => none) else Sx.wx f (.mk ka na ma la) d) with
                | none => simp only [Sx.exK] at hr; erw [hq] at hr; cases hr
                | some te =>
                  obtain ⟨t, e1⟩ := te
                  simp only [Sx.exK] at hr
                  erw [hq] at hr
                  cases hq2 : (if kb = 6 then (match Sx.wx f (.mk kb nb mb lb) (d + 1) with
                      | some (t, e) => some ([[40]] ++ t ++ [[41]], e)
                      | none => none) else Sx.wx f (.mk kb nb mb lb) d) with
                  | none => simp only at hr; erw [hq2] at hr; cases hr
                  | some te2 =>
                    obtain ⟨u, e2⟩ := te2
                    simp only at hr
                    erw [hq2] at hr
                    obtain ⟨hw', he'⟩ := Prod.mk.inj (Option.some.inj hr)
                    have HW : Hid _ := hw'
                    have HE : Hid _ := he'
                    rw [← hw'] at HN
                    clear hw' he'
                    have HQ : Hid _ := hq
                    have HQ2 : Hid _ := hq2
                    clear hr hx hq hq2
                    go_enter Tryz.func20, Tryz.ntmps20
                    go_wp2_with fail
                    refine (reach_any q dp d v xs _ I0.out.wr).mono ?_
                    rintro e w1 ⟨rfl, W1, S1⟩
                    have I1 : Hid _ := I0.out.step HG.out W1 S1
                    clear W1 S1
                    obtain ⟨c0, c1, c2, c3, -, -, -, -, zt⟩ := I1.out.bx
                    obtain ⟨sa', sn', sc', j0, j1, j2, j3, X1⟩ := I1.out.ex.kid0
                    have X1' : Hid _ := X1
                    clear X1
                    go_wp2_with fail
                    refine (HO.out ka na ma sa' sn' sc' la d t e1 v _ _ w1 I1.out.tab I1.out.wr X1'.out (by have := HD.out; omega) HQ.out (by have := HN.out; simp at this ⊢; omega)).mono ?_
                    rintro e w2 ⟨rfl, v2, W2, S2⟩
                    have I2 : Hid _ := I1.out.step HG.out W2 S2
                    clear W2 S2 c0 c1 c2 c3 zt j0 j1 j2 j3
                    obtain ⟨c0, c1, c2, c3, -, -, -, -, zt⟩ := I2.out.bx
                    go_wp2_with fail
                    refine (put1 q _ v2 _ (tb n) _ I2.out.wr (by have := HN.out; simp at this ⊢; omega) _ _ rfl).mono ?_
                    rintro e w3 ⟨rfl, v3, W3, S3⟩
                    have I3 : Hid _ := I2.out.step HG.out W3 S3
                    clear W3 S3 c0 c1 c2 c3 zt
                    obtain ⟨c0, c1, c2, c3, -, -, -, -, zt⟩ := I3.out.bx
                    obtain ⟨sb', sm', sd', j0, j1, j2, j3, X3⟩ := I3.out.ex.kid1
                    have X3' : Hid _ := X3
                    clear X3
                    go_wp2_with fail
                    refine (HO.out kb nb mb sb' sm' sd' lb d u e2 v3 _ _ w3 I3.out.tab I3.out.wr X3'.out (by have := HD.out; omega) HQ2.out (by have := HN.out; simp at this ⊢; omega)).mono ?_
                    rintro e w4 ⟨rfl, v4, W4, S4⟩
                    have PB : Hid _ := I3.out.step HG.out W4 S4
                    clear W4 S4
                    go_wp2_with fail
                    go_end0
                    refine ⟨rfl, _, ?_, PB.out.ws⟩
                    rw [← HW.out, ← HE.out]
                    have e := PB.out.wr
                    simp only [List.append_assoc] at e
                    simpa [Nat.max_assoc] using e
              · cases hr
            · rw [if_neg k6] at hr
              cases hr
theorem expr_w (q : Nat) (hg : 2 < q) : ∀ f, XC q f
  | 0 => fun _ _ _ _ _ _ _ _ _ _ _ _ _ _ _ _ _ _ hr _ => by unfold Sx.wx at hr; cases hr
  | f + 1 => expr_step q f hg (expr_w q hg f)
end Go.Proofs.YtlhklpnkelcnbaaGreatDoor
