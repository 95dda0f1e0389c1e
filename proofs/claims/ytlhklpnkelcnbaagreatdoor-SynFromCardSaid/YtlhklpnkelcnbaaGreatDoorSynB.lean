/- Layer 3: which signs bind, with which tokens expressions begin; taking the first token of a part. -/
import Derived.Test.YtlhklpnkelcnbaaGreatDoorSynA
import Derived.Test.YtlhklpnkelcnbaaGreatDoorSynPl
namespace Go.Proofs.YtlhklpnkelcnbaaGreatDoor
open Go.RowKit

theorem text_t {a b : List UInt8} (h : a = b) : (a == b) = true := by subst h; simp
theorem text_f {a b : List UInt8} (h : ¬ a = b) : (a == b) = false := by simpa using h
set_option maxRecDepth 100000 in
set_option maxHeartbeats 400000 in
theorem isUnary_any (s : List UInt8) (w : World) : Calls Tryz.prog 35 #[.string ⟨s.toArray⟩] w fun e w' => e = .returned (.bool (Sx.isUn s)) ∧ w' = w := by
  by_cases h1 : s = [45]
  · subst h1
    go_enter Tryz.func35, Tryz.ntmps35
    go_wp2_with fail
    go_ret
    exact ⟨rfl, rfl⟩
  · have e1 := text_f h1
    have H : Hid (Sx.isUn s = (s == [33])) := by unfold Hid Sx.isUn; rw [decide_eq_false h1, beq_dec]; rfl
    clear h1
    go_enter Tryz.func35, Tryz.ntmps35
    go_wp2_with fail
    go_ret
    exact ⟨ret_bool H.out.symm, rfl⟩
set_option maxRecDepth 100000 in
set_option maxHeartbeats 1000000 in
theorem binds_any (s : List UInt8) (w : World) : Calls Tryz.prog 36 #[.string ⟨s.toArray⟩] w fun e w' => e = .returned (.int .i64 (Sx.bindsB s : Int)) ∧ w' = w := by
  by_cases h0 : s = [124, 124]
  · subst h0
    go_enter Tryz.func36, Tryz.ntmps36
    go_wp2_with fail
    go_ret
    exact ⟨rfl, rfl⟩
  · have e0 := text_f h0
    by_cases h1 : s = [38, 38]
    · subst h1
      go_enter Tryz.func36, Tryz.ntmps36
      go_wp2_with fail
      go_ret
      exact ⟨rfl, rfl⟩
    · have e1 := text_f h1
      by_cases h2 : s = [61, 61]
      · subst h2
        go_enter Tryz.func36, Tryz.ntmps36
        go_wp2_with fail
        go_ret
        exact ⟨rfl, rfl⟩
      · have e2 := text_f h2
        by_cases h3 : s = [33, 61]
        · subst h3
          go_enter Tryz.func36, Tryz.ntmps36
          go_wp2_with fail
          go_ret
          exact ⟨rfl, rfl⟩
        · have e3 := text_f h3
          by_cases h4 : s = [60]
          · subst h4
            go_enter Tryz.func36, Tryz.ntmps36
            go_wp2_with fail
            go_ret
            exact ⟨rfl, rfl⟩
          · have e4 := text_f h4
            by_cases h5 : s = [60, 61]
            · subst h5
              go_enter Tryz.func36, Tryz.ntmps36
              go_wp2_with fail
              go_ret
              exact ⟨rfl, rfl⟩
            · have e5 := text_f h5
              by_cases h6 : s = [43]
              · subst h6
                go_enter Tryz.func36, Tryz.ntmps36
                go_wp2_with fail
                go_ret
                exact ⟨rfl, rfl⟩
              · have e6 := text_f h6
                by_cases h7 : s = [45]
                · subst h7
                  go_enter Tryz.func36, Tryz.ntmps36
                  go_wp2_with fail
                  go_ret
                  exact ⟨rfl, rfl⟩
                · have e7 := text_f h7
                  by_cases h8 : s = [42]
                  · subst h8
                    go_enter Tryz.func36, Tryz.ntmps36
                    go_wp2_with fail
                    go_ret
                    exact ⟨rfl, rfl⟩
                  · have e8 := text_f h8
                    by_cases h9 : s = [47]
                    · subst h9
                      go_enter Tryz.func36, Tryz.ntmps36
                      go_wp2_with fail
                      go_ret
                      exact ⟨rfl, rfl⟩
                    · have e9 := text_f h9
                      by_cases h10 : s = [37]
                      · subst h10
                        go_enter Tryz.func36, Tryz.ntmps36
                        go_wp2_with fail
                        go_ret
                        exact ⟨rfl, rfl⟩
                      · have e10 := text_f h10
                        have H : Hid (Sx.bindsB s = 0) := by unfold Hid Sx.bindsB; rw [if_neg h0, if_neg h1, if_neg h2, if_neg h3, if_neg h4, if_neg h5, if_neg h6, if_neg h7, if_neg h8, if_neg h9, if_neg h10]
                        clear h0 h1 h2 h3 h4 h5 h6 h7 h8 h9 h10
                        go_enter Tryz.func36, Tryz.ntmps36
                        go_wp2_with fail
                        go_ret
                        rw [H.out]
                        exact ⟨rfl, rfl⟩
set_option maxRecDepth 100000 in
set_option maxHeartbeats 1000000 in
theorem beginsExpr_any (x : Tok) (w : World) : Calls Tryz.prog 105 #[tokA x] w fun e w' => e = .returned (.bool (Sx.begE x)) ∧ Below w.heap.size w w' := by
  obtain ⟨⟨kd, tx, nm⟩, pl⟩ := x
  unfold tokA
  simp only
  have HB : Hid (Sx.begE (⟨kd, tx, nm⟩, pl) = (decide (kd = 2) || decide (kd = 1) || decide (tx = [116, 114, 117, 101]) || decide (tx = [102, 97, 108, 115, 101]) || decide (tx = [40]) || Sx.isUn tx)) := rfl
  by_cases k2 : kd = 2
  · subst k2
    have H : Hid (Sx.begE (⟨2, tx, nm⟩, pl) = true) := by unfold Hid; rw [HB.out]; rfl
    go_enter Tryz.func105, Tryz.ntmps105
    go_wp2_with fail
    go_ret
    rw [H.out]
    exact ⟨rfl, box_below _ _⟩
  · have b2 : (kd == 2) = false := beq_eq_false_iff_ne.2 k2
    by_cases k1 : kd = 1
    · subst k1
      have H : Hid (Sx.begE (⟨1, tx, nm⟩, pl) = true) := by unfold Hid; rw [HB.out]; rfl
      go_enter Tryz.func105, Tryz.ntmps105
      go_wp2_with fail
      go_ret
      rw [H.out]
      exact ⟨rfl, box_below _ _⟩
    · have b1 : (kd == 1) = false := beq_eq_false_iff_ne.2 k1
      have HB2 : Hid (Sx.begE (⟨kd, tx, nm⟩, pl) = (decide (tx = [116, 114, 117, 101]) || decide (tx = [102, 97, 108, 115, 101]) || decide (tx = [40]) || Sx.isUn tx)) := by unfold Hid; rw [HB.out, decide_eq_false k2, decide_eq_false k1]; rfl
      clear k1 k2 HB
      by_cases h1 : tx = [116, 114, 117, 101]
      · subst h1
        have H : Hid (Sx.begE (⟨kd, [116, 114, 117, 101], nm⟩, pl) = true) := by unfold Hid; rw [HB2.out]; rfl
        go_enter Tryz.func105, Tryz.ntmps105
        go_wp2_with fail
        go_ret
        rw [H.out]
        exact ⟨rfl, box_below _ _⟩
      · have e1 := text_f h1
        by_cases h2 : tx = [102, 97, 108, 115, 101]
        · subst h2
          have H : Hid (Sx.begE (⟨kd, [102, 97, 108, 115, 101], nm⟩, pl) = true) := by unfold Hid; rw [HB2.out]; rfl
          go_enter Tryz.func105, Tryz.ntmps105
          go_wp2_with fail
          go_ret
          rw [H.out]
          exact ⟨rfl, box_below _ _⟩
        · have e2 := text_f h2
          by_cases h3 : tx = [40]
          · subst h3
            have H : Hid (Sx.begE (⟨kd, [40], nm⟩, pl) = true) := by unfold Hid; rw [HB2.out]; rfl
            go_enter Tryz.func105, Tryz.ntmps105
            go_wp2_with fail
            go_ret
            rw [H.out]
            exact ⟨rfl, box_below _ _⟩
          · have e3 := text_f h3
            have H : Hid (Sx.begE (⟨kd, tx, nm⟩, pl) = Sx.isUn tx) := by unfold Hid; rw [HB2.out, decide_eq_false h1, decide_eq_false h2, decide_eq_false h3]; rfl
            clear h1 h2 h3 HB2
            go_enter Tryz.func105, Tryz.ntmps105
            go_wp2_with fail
            refine (isUnary_any tx _).mono ?_
            rintro e w1 ⟨rfl, hw⟩
            rw [hw]
            go_wp2_with fail
            go_ret
            rw [H.out]
            exact ⟨rfl, box_below _ _⟩

set_option maxRecDepth 100000 in
set_option maxHeartbeats 1000000 in
theorem begin_form (w : World) (p b o cap : Nat) (ts : List Tok) (k : Nat) (x : Tok) (d : Nat) (h : Rn w p b o cap ts k x) :
    Calls Tryz.prog 104 #[.pointer (some ⟨p, 0, none⟩), .bool false, .int .i64 (d : Int)] w fun e w' => e = pan x.2 30 ∧ Below w.heap.size w w' := by
  have H : Hid (Rn w p b o cap ts k x) := h
  clear h
  go_enter Tryz.func104, Tryz.ntmps104
  go_wp2_with fail
  refine (wrong_any _ p b o cap ts k x 30 (H.out.later (box_below w _))).mono ?_
  rintro e w2 ⟨rfl, b2⟩
  go_wp2_with fail
  exact ⟨rfl, rfl, (box_below w _).trans (b2.mono (by simp))⟩
set_option maxRecDepth 100000 in
set_option maxHeartbeats 1000000 in
theorem begin_deep (w : World) (p b o cap : Nat) (ts : List Tok) (k : Nat) (x : Tok) (d : Nat) (h : Rn w p b o cap ts k x) (hd : 60 < d) :
    Calls Tryz.prog 104 #[.pointer (some ⟨p, 0, none⟩), .bool true, .int .i64 (d : Int)] w fun e w' => e = pan x.2 31 ∧ Below w.heap.size w w' := by
  have H : Hid (Rn w p b o cap ts k x) := h
  clear h
  go_enter Tryz.func104, Tryz.ntmps104
  go_wp2_with fail
  refine (wrong_any _ p b o cap ts k x 31 (H.out.later (box_below w _))).mono ?_
  rintro e w2 ⟨rfl, b2⟩
  go_wp2_with fail
  exact ⟨rfl, rfl, (box_below w _).trans (b2.mono (by simp))⟩
set_option maxRecDepth 100000 in
set_option maxHeartbeats 1000000 in
theorem begin_ok (w : World) (p b o cap : Nat) (ts : List Tok) (k : Nat) (x : Tok) (d : Nat) (h : Rn w p b o cap ts k x) (hl : ts.length ≤ 1000000) (hd : d ≤ 60) :
    Calls Tryz.prog 104 #[.pointer (some ⟨p, 0, none⟩), .bool true, .int .i64 (d : Int)] w fun e w' => e = .returned (tokA x) ∧ Mov p w w' ∧ Rd w' p b o cap ts (k + 1) := by
  have H : Hid (Rn w p b o cap ts k x) := h
  clear h
  go_enter Tryz.func104, Tryz.ntmps104
  go_wp2_with fail
  refine (now_any _ p b o cap ts k x (H.out.later (box_below w _))).mono ?_
  rintro e w1 ⟨rfl, b1⟩
  unfold tokA
  have H1 := (H.out.later (box_below w _)).later b1
  have r1 := H1.rd.nx
  have f1' := H1.rd.fz
  have hp := H1.rd.lt
  have hkl := H1.hk
  have hpw := H.out.rd.lt
  have hbw := H.out.rd.ta.lt
  have hpn : p ≠ w.heap.size := by omega
  have hpn' : ¬ w.heap.size = p := by omega
  obtain ⟨⟨c0, c1, c2, c3⟩, ⟨f0, f1, f2, f3⟩, hz, hb⟩ := box_facts b1
  have ST : Hid _ := H1.rd.step
  have HB : Hid _ := hb
  have hbn : Hid (w.heap.size ≠ b) := by unfold Hid; omega
  clear b1 H1 hb hbw
  go_wp2_with fail
  refine bodyPost_ret (v := .agg #[.int .i64 x.1.kind, .string ⟨x.1.text.toArray⟩, .int .i64 x.1.num, .int .i64 x.2]) (by simp [results, Tryz.results104, go_sem, c0, c1, c2, c3, hz]) rfl ⟨rfl, ?_, ?_⟩
  · exact ((((((Mov.of_below HB.out).trans ST.out.2).set (Nat.le_refl _) _).set (Nat.le_refl _) _).set (Nat.le_refl _) _).set (Nat.le_refl _) _).alloc _
  · exact ((((ST.out.1.set hpn' hbn.out _).set hpn' hbn.out _).set hpn' hbn.out _).set hpn' hbn.out _).later (box_below _ _)
end Go.Proofs.YtlhklpnkelcnbaaGreatDoor
