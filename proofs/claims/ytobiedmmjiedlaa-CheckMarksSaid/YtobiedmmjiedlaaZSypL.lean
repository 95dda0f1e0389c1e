/- Layer 3: the document's one, operand by operand. -/
import Derived.Test.YtobiedmmjiedlaaZSypK
namespace Go.Proofs.Ytobiedmmjiedlaa
open Go.RowKit

set_option maxRecDepth 100000 in
set_option maxHeartbeats 2000000 in
theorem rone_int (w : World) (p b o cap : Nat) (ts : List Tok) (k d f : Nat) (r : Sx.Rs) (h : Ri w p b o cap ts k 0 0) (gd : Good ts) (rt : RT ts) (hd : d ≤ 60) (N45 : ¬ (ts.getD k tok0).1.text = [45]) (N33 : ¬ (ts.getD k tok0).1.text = [33]) (N40 : ¬ (ts.getD k tok0).1.text = [40]) (Ntr : ¬ (ts.getD k tok0).1.text = [116, 114, 117, 101]) (Nfa : ¬ (ts.getD k tok0).1.text = [102, 97, 108, 115, 101]) (hk2 : (ts.getD k tok0).1.kind = 2) (hr : Sx.un ts (f + 1) d k = some r) :
    Calls Try.prog 99 #[.pointer (some ⟨p, 0, none⟩), .int .i64 (d : Int)] w (PostR p b o cap ts w r) := by
  have H : Hid _ := h
  have hp : Hid (p < w.heap.size) := h.lt
  have hb : Hid (b < w.heap.size) := h.ta.lt
  have GD : Hid (Good ts) := gd
  have RTT : Hid (RT ts) := rt
  have HD : Hid (d ≤ 60) := hd
  have HR : Hid _ := hr
  have pz : ¬ p = w.heap.size := Nat.ne_of_lt h.lt
  have pz' : ¬ w.heap.size = p := fun e => pz e.symm
  have pz1 : ¬ p = w.heap.size + 1 := by have := h.lt; omega
  obtain ⟨x, hx⟩ : ∃ x, ts.getD k tok0 = x := ⟨_, rfl⟩
  have HX : Hid (ts.getD k tok0 = x) := hx
  have n45 : Hid (¬ (ts.getD k tok0).1.text = [45]) := N45
  have n33 : Hid (¬ (ts.getD k tok0).1.text = [33]) := N33
  have n40 : Hid (¬ (ts.getD k tok0).1.text = [40]) := N40
  have ntr : Hid (¬ (ts.getD k tok0).1.text = [116, 114, 117, 101]) := Ntr
  have nfa : Hid (¬ (ts.getD k tok0).1.text = [102, 97, 108, 115, 101]) := Nfa
  have b2 : (x.1.kind == 2) = true := by rw [← hx, hk2]; rfl
  have HK : Hid (k + 1 < ts.length) := gd.next h.hk (by intro e; rw [e] at hk2; exact absurd hk2 (by decide))
  have HR2 : Hid (r = .ok (.mk 1 [] x.1.num []) (k + 1)) := by
    have e := hr
    rw [Sx.un, if_neg (by unfold Sx.begE; rw [decide_eq_true hk2]; simp), if_neg (by omega), if_pos hk2, hx] at e
    exact (Option.some.inj e).symm
  clear hk2
  clear N45 N33 N40 Ntr Nfa
  have r0 := h.row
  have r1 := h.nx
  have r2 := h.ce
  have hpl := h.lt
  have hbl := h.ta.lt
  have c0 := h.ta.c0 k h.hk
  have c1 := h.ta.c1 k h.hk
  have c2 := h.ta.c2 k h.hk
  have c3 := h.ta.c3 k h.hk
  rw [hx] at c0 c1 c2 c3
  have hki : (k : Int) < (ts.length : Int) := by have := h.hk; omega
  have hk0 : (0 : Int) ≤ (k : Int) := by omega
  have hwk : IntKind.i64.wrap ((k : Int) + 1) = (k : Int) + 1 := by have := h.hl; have := h.hk; rw [IntKind.wrap_i64]; omega
  have hwd : IntKind.i64.wrap ((d : Int) + 1) = (d : Int) + 1 := by rw [IntKind.wrap_i64]; omega
  clear h gd rt hd hr hx
  go_enter Try.func99, Try.ntmps99
  go_wp2_with fail
  go_cut [5] from 15 (fun s wc => OneRel w p b o cap ts k x s wc)
  case first =>
    go_region
    all_goals (go_wp2_with fail; go_meet; case rel => exact OneRel.of H.out _)
  case rest =>
    obtain ⟨rfl, T, R, RI, BW⟩ := hcut
    have TT : Hid _ := T
    have RR : Hid _ := R
    have RII : Hid _ := RI
    have BB : Hid _ := BW
    clear T R RI BW r0 r1 r2 hpl hbl c0 c1 c2 c3
    have B0 : Hid (Below wc.heap.size wc wc) := Below.refl _ _
    go_wp2_with fail
    refine Calls.mono (ris_no _ p b o cap ts k 0 0 [45] (RII.out.later B0.out) (.inr n45.out)) ?_
    rintro e w1 ⟨rfl, b1⟩
    have B1 : Hid (Below wc.heap.size wc w1) := B0.out.trans (b1.mono B0.out.size)
    clear b1
    go_wp2_with fail
    refine Calls.mono (ris_no _ p b o cap ts k 0 0 [33] (RII.out.later B1.out) (.inr n33.out)) ?_
    rintro e w2 ⟨rfl, b2⟩
    have B2 : Hid (Below wc.heap.size wc w2) := B1.out.trans (b2.mono B1.out.size)
    clear b2
    go_wp2_with fail
    refine Calls.mono (rgot_no _ p b o cap ts k 0 0 [40] (RII.out.later B2.out) (.inr n40.out)) ?_
    rintro e w3 ⟨rfl, b3⟩
    have B3 : Hid (Below wc.heap.size wc w3) := B2.out.trans (b3.mono B2.out.size)
    clear b3
    go_wp2_with fail
    refine Calls.mono (rgot_no _ p b o cap ts k 0 0 [116, 114, 117, 101] (RII.out.later B3.out) (.inr ntr.out)) ?_
    rintro e w4 ⟨rfl, b4⟩
    have B4 : Hid (Below wc.heap.size wc w4) := B3.out.trans (b4.mono B3.out.size)
    clear b4
    go_wp2_with fail
    refine Calls.mono (rgot_no _ p b o cap ts k 0 0 [102, 97, 108, 115, 101] (RII.out.later B4.out) (.inr nfa.out)) ?_
    rintro e w5 ⟨rfl, b5⟩
    have B5 : Hid (Below wc.heap.size wc w5) := B4.out.trans (b5.mono B4.out.size)
    clear b5
    have RI5 := RII.out.later B5.out
    have r1 := RI5.nx
    have f1 := RI5.f1
    have hpl := RI5.lt
    have ST : Hid _ := RI5.step HK.out
    have T5 := TT.out.later B5.out TT.out.lt
    obtain ⟨c0, c1, c2, c3, g0, g1, g2, g3, zt⟩ := T5
    obtain ⟨d0, d1, d2, d3, e0, e1, e2, e3, zr⟩ := RR.out.later B5.out RR.out.lt
    clear RI5
    go_wp2_with fail
    refine bodyPost_ret (v := .agg #[.int .i64 1, .string ⟨#[]⟩, .int .i64 x.1.num, .slice none 0 0]) (by simp [results, Try.results99, go_sem, d0, d1, d2, d3]) rfl ?_
    rw [HR2.out]
    exact PostR.of_fill (n := []) ((Keep.of_below (BB.out.trans (B5.out.mono BB.out.size)) (Nat.le_refl _)).trans ST.out.2) ST.out.1 hp.out hb.out (.nil _ _)
set_option maxRecDepth 100000 in
set_option maxHeartbeats 2000000 in
theorem rone_true (w : World) (p b o cap : Nat) (ts : List Tok) (k d f : Nat) (r : Sx.Rs) (h : Ri w p b o cap ts k 0 0) (gd : Good ts) (rt : RT ts) (hd : d ≤ 60) (N45 : ¬ (ts.getD k tok0).1.text = [45]) (N33 : ¬ (ts.getD k tok0).1.text = [33]) (N40 : ¬ (ts.getD k tok0).1.text = [40]) (htx : (ts.getD k tok0).1.text = [116, 114, 117, 101]) (hr : Sx.un ts (f + 1) d k = some r) :
    Calls Try.prog 99 #[.pointer (some ⟨p, 0, none⟩), .int .i64 (d : Int)] w (PostR p b o cap ts w r) := by
  have H : Hid _ := h
  have hp : Hid (p < w.heap.size) := h.lt
  have hb : Hid (b < w.heap.size) := h.ta.lt
  have GD : Hid (Good ts) := gd
  have RTT : Hid (RT ts) := rt
  have HD : Hid (d ≤ 60) := hd
  have HR : Hid _ := hr
  have pz : ¬ p = w.heap.size := Nat.ne_of_lt h.lt
  have pz' : ¬ w.heap.size = p := fun e => pz e.symm
  have pz1 : ¬ p = w.heap.size + 1 := by have := h.lt; omega
  obtain ⟨x, hx⟩ : ∃ x, ts.getD k tok0 = x := ⟨_, rfl⟩
  have HX : Hid (ts.getD k tok0 = x) := hx
  have n45 : Hid (¬ (ts.getD k tok0).1.text = [45]) := N45
  have n33 : Hid (¬ (ts.getD k tok0).1.text = [33]) := N33
  have n40 : Hid (¬ (ts.getD k tok0).1.text = [40]) := N40
  have HT : Hid ((ts.getD k tok0).1.text = [116, 114, 117, 101]) := htx
  have K34 : Hid ((ts.getD k tok0).1.kind = 3 ∨ (ts.getD k tok0).1.kind = 4) := rt.sg k (by unfold Sx.tx; rw [htx]; simp)
  have HK : Hid (k + 1 < ts.length) := gd.next h.hk (by intro e; rw [e] at htx; exact absurd htx (by decide))
  have HR2 : Hid (r = .ok (.mk 2 [] 1 []) (k + 1)) := by
    have e := hr
    have hk34 := K34.out
    have htx' : Sx.tx ts k = [116, 114, 117, 101] := htx
    rw [Sx.un, if_neg (by unfold Sx.begE; rw [htx]; simp), if_neg (by omega), if_neg (by omega), if_neg (by omega), if_pos htx'] at e
    exact (Option.some.inj e).symm
  clear htx
  clear N45 N33 N40
  have r0 := h.row
  have r1 := h.nx
  have r2 := h.ce
  have hpl := h.lt
  have hbl := h.ta.lt
  have c0 := h.ta.c0 k h.hk
  have c1 := h.ta.c1 k h.hk
  have c2 := h.ta.c2 k h.hk
  have c3 := h.ta.c3 k h.hk
  rw [hx] at c0 c1 c2 c3
  have hki : (k : Int) < (ts.length : Int) := by have := h.hk; omega
  have hk0 : (0 : Int) ≤ (k : Int) := by omega
  have hwk : IntKind.i64.wrap ((k : Int) + 1) = (k : Int) + 1 := by have := h.hl; have := h.hk; rw [IntKind.wrap_i64]; omega
  have hwd : IntKind.i64.wrap ((d : Int) + 1) = (d : Int) + 1 := by rw [IntKind.wrap_i64]; omega
  clear h gd rt hd hr hx
  go_enter Try.func99, Try.ntmps99
  go_wp2_with fail
  go_cut [5] from 15 (fun s wc => OneRel w p b o cap ts k x s wc)
  case first =>
    go_region
    all_goals (go_wp2_with fail; go_meet; case rel => exact OneRel.of H.out _)
  case rest =>
    obtain ⟨rfl, T, R, RI, BW⟩ := hcut
    have TT : Hid _ := T
    have RR : Hid _ := R
    have RII : Hid _ := RI
    have BB : Hid _ := BW
    clear T R RI BW r0 r1 r2 hpl hbl c0 c1 c2 c3
    have B0 : Hid (Below wc.heap.size wc wc) := Below.refl _ _
    go_wp2_with fail
    refine Calls.mono (ris_no _ p b o cap ts k 0 0 [45] (RII.out.later B0.out) (.inr n45.out)) ?_
    rintro e w1 ⟨rfl, b1⟩
    have B1 : Hid (Below wc.heap.size wc w1) := B0.out.trans (b1.mono B0.out.size)
    clear b1
    go_wp2_with fail
    refine Calls.mono (ris_no _ p b o cap ts k 0 0 [33] (RII.out.later B1.out) (.inr n33.out)) ?_
    rintro e w2 ⟨rfl, b2⟩
    have B2 : Hid (Below wc.heap.size wc w2) := B1.out.trans (b2.mono B1.out.size)
    clear b2
    go_wp2_with fail
    refine Calls.mono (rgot_no _ p b o cap ts k 0 0 [40] (RII.out.later B2.out) (.inr n40.out)) ?_
    rintro e w3 ⟨rfl, b3⟩
    have B3 : Hid (Below wc.heap.size wc w3) := B2.out.trans (b3.mono B2.out.size)
    clear b3
    go_wp2_with fail
    refine Calls.mono (rgot_yes _ p b o cap ts k 0 [116, 114, 117, 101] (RII.out.later B3.out) HT.out K34.out HK.out) ?_
    rintro e w9 ⟨rfl, RI9, kp⟩
    have kw : Hid (Kp p wc w9) := (Keep.of_below B3.out (Nat.le_refl _)).trans kp
    have RI9' : Hid _ := RI9
    obtain ⟨d0, d1, d2, d3, e0, e1, e2, e3, zr⟩ := RR.out.kp kw.out pz'
    clear kp RI9
    go_wp2_with fail
    refine bodyPost_ret (v := .agg #[.int .i64 2, .string ⟨#[]⟩, .int .i64 1, .slice none 0 0]) (by simp [results, Try.results99, go_sem, d0, d1, d2, d3]) rfl ?_
    rw [HR2.out]
    exact PostR.of_fill (n := []) ((Keep.of_below BB.out (Nat.le_refl _)).trans kw.out) RI9'.out hp.out hb.out (.nil _ _)
set_option maxRecDepth 100000 in
set_option maxHeartbeats 2000000 in
theorem rone_false (w : World) (p b o cap : Nat) (ts : List Tok) (k d f : Nat) (r : Sx.Rs) (h : Ri w p b o cap ts k 0 0) (gd : Good ts) (rt : RT ts) (hd : d ≤ 60) (N45 : ¬ (ts.getD k tok0).1.text = [45]) (N33 : ¬ (ts.getD k tok0).1.text = [33]) (N40 : ¬ (ts.getD k tok0).1.text = [40]) (Ntr : ¬ (ts.getD k tok0).1.text = [116, 114, 117, 101]) (htx : (ts.getD k tok0).1.text = [102, 97, 108, 115, 101]) (hr : Sx.un ts (f + 1) d k = some r) :
    Calls Try.prog 99 #[.pointer (some ⟨p, 0, none⟩), .int .i64 (d : Int)] w (PostR p b o cap ts w r) := by
  have H : Hid _ := h
  have hp : Hid (p < w.heap.size) := h.lt
  have hb : Hid (b < w.heap.size) := h.ta.lt
  have GD : Hid (Good ts) := gd
  have RTT : Hid (RT ts) := rt
  have HD : Hid (d ≤ 60) := hd
  have HR : Hid _ := hr
  have pz : ¬ p = w.heap.size := Nat.ne_of_lt h.lt
  have pz' : ¬ w.heap.size = p := fun e => pz e.symm
  have pz1 : ¬ p = w.heap.size + 1 := by have := h.lt; omega
  obtain ⟨x, hx⟩ : ∃ x, ts.getD k tok0 = x := ⟨_, rfl⟩
  have HX : Hid (ts.getD k tok0 = x) := hx
  have n45 : Hid (¬ (ts.getD k tok0).1.text = [45]) := N45
  have n33 : Hid (¬ (ts.getD k tok0).1.text = [33]) := N33
  have n40 : Hid (¬ (ts.getD k tok0).1.text = [40]) := N40
  have ntr : Hid (¬ (ts.getD k tok0).1.text = [116, 114, 117, 101]) := Ntr
  have HT : Hid ((ts.getD k tok0).1.text = [102, 97, 108, 115, 101]) := htx
  have K34 : Hid ((ts.getD k tok0).1.kind = 3 ∨ (ts.getD k tok0).1.kind = 4) := rt.sg k (by unfold Sx.tx; rw [htx]; simp)
  have HK : Hid (k + 1 < ts.length) := gd.next h.hk (by intro e; rw [e] at htx; exact absurd htx (by decide))
  have HR2 : Hid (r = .ok (.mk 2 [] 0 []) (k + 1)) := by
    have e := hr
    have hk34 := K34.out
    have htx' : Sx.tx ts k = [102, 97, 108, 115, 101] := htx
    rw [Sx.un, if_neg (by unfold Sx.begE; rw [htx]; simp), if_neg (by omega), if_neg (by omega), if_neg (by omega), if_neg (fun e => by rw [htx'] at e; cases e), if_pos htx'] at e
    exact (Option.some.inj e).symm
  clear htx
  clear N45 N33 N40 Ntr
  have r0 := h.row
  have r1 := h.nx
  have r2 := h.ce
  have hpl := h.lt
  have hbl := h.ta.lt
  have c0 := h.ta.c0 k h.hk
  have c1 := h.ta.c1 k h.hk
  have c2 := h.ta.c2 k h.hk
  have c3 := h.ta.c3 k h.hk
  rw [hx] at c0 c1 c2 c3
  have hki : (k : Int) < (ts.length : Int) := by have := h.hk; omega
  have hk0 : (0 : Int) ≤ (k : Int) := by omega
  have hwk : IntKind.i64.wrap ((k : Int) + 1) = (k : Int) + 1 := by have := h.hl; have := h.hk; rw [IntKind.wrap_i64]; omega
  have hwd : IntKind.i64.wrap ((d : Int) + 1) = (d : Int) + 1 := by rw [IntKind.wrap_i64]; omega
  clear h gd rt hd hr hx
  go_enter Try.func99, Try.ntmps99
  go_wp2_with fail
  go_cut [5] from 15 (fun s wc => OneRel w p b o cap ts k x s wc)
  case first =>
    go_region
    all_goals (go_wp2_with fail; go_meet; case rel => exact OneRel.of H.out _)
  case rest =>
    obtain ⟨rfl, T, R, RI, BW⟩ := hcut
    have TT : Hid _ := T
    have RR : Hid _ := R
    have RII : Hid _ := RI
    have BB : Hid _ := BW
    clear T R RI BW r0 r1 r2 hpl hbl c0 c1 c2 c3
    have B0 : Hid (Below wc.heap.size wc wc) := Below.refl _ _
    go_wp2_with fail
    refine Calls.mono (ris_no _ p b o cap ts k 0 0 [45] (RII.out.later B0.out) (.inr n45.out)) ?_
    rintro e w1 ⟨rfl, b1⟩
    have B1 : Hid (Below wc.heap.size wc w1) := B0.out.trans (b1.mono B0.out.size)
    clear b1
    go_wp2_with fail
    refine Calls.mono (ris_no _ p b o cap ts k 0 0 [33] (RII.out.later B1.out) (.inr n33.out)) ?_
    rintro e w2 ⟨rfl, b2⟩
    have B2 : Hid (Below wc.heap.size wc w2) := B1.out.trans (b2.mono B1.out.size)
    clear b2
    go_wp2_with fail
    refine Calls.mono (rgot_no _ p b o cap ts k 0 0 [40] (RII.out.later B2.out) (.inr n40.out)) ?_
    rintro e w3 ⟨rfl, b3⟩
    have B3 : Hid (Below wc.heap.size wc w3) := B2.out.trans (b3.mono B2.out.size)
    clear b3
    go_wp2_with fail
    refine Calls.mono (rgot_no _ p b o cap ts k 0 0 [116, 114, 117, 101] (RII.out.later B3.out) (.inr ntr.out)) ?_
    rintro e w4 ⟨rfl, b4⟩
    have B4 : Hid (Below wc.heap.size wc w4) := B3.out.trans (b4.mono B3.out.size)
    clear b4
    go_wp2_with fail
    refine Calls.mono (rgot_yes _ p b o cap ts k 0 [102, 97, 108, 115, 101] (RII.out.later B4.out) HT.out K34.out HK.out) ?_
    rintro e w9 ⟨rfl, RI9, kp⟩
    have kw : Hid (Kp p wc w9) := (Keep.of_below B4.out (Nat.le_refl _)).trans kp
    have RI9' : Hid _ := RI9
    obtain ⟨d0, d1, d2, d3, e0, e1, e2, e3, zr⟩ := RR.out.kp kw.out pz'
    clear kp RI9
    go_wp2_with fail
    refine bodyPost_ret (v := .agg #[.int .i64 2, .string ⟨#[]⟩, .int .i64 0, .slice none 0 0]) (by simp [results, Try.results99, go_sem, d0, d1, d2, d3]) rfl ?_
    rw [HR2.out]
    exact PostR.of_fill (n := []) ((Keep.of_below BB.out (Nat.le_refl _)).trans kw.out) RI9'.out hp.out hb.out (.nil _ _)
set_option maxRecDepth 100000 in
set_option maxHeartbeats 2000000 in
theorem rone_none (w : World) (p b o cap : Nat) (ts : List Tok) (k d f : Nat) (r : Sx.Rs) (h : Ri w p b o cap ts k 0 0) (gd : Good ts) (rt : RT ts) (hd : d ≤ 60) (hbe : Sx.begE (ts.getD k tok0) = false) (hr : Sx.un ts (f + 1) d k = some r) :
    Calls Try.prog 99 #[.pointer (some ⟨p, 0, none⟩), .int .i64 (d : Int)] w (PostR p b o cap ts w r) := by
  have H : Hid _ := h
  have hp : Hid (p < w.heap.size) := h.lt
  have hb : Hid (b < w.heap.size) := h.ta.lt
  have GD : Hid (Good ts) := gd
  have RTT : Hid (RT ts) := rt
  have HD : Hid (d ≤ 60) := hd
  have HR : Hid _ := hr
  have pz : ¬ p = w.heap.size := Nat.ne_of_lt h.lt
  have pz' : ¬ w.heap.size = p := fun e => pz e.symm
  have pz1 : ¬ p = w.heap.size + 1 := by have := h.lt; omega
  obtain ⟨x, hx⟩ : ∃ x, ts.getD k tok0 = x := ⟨_, rfl⟩
  have HX : Hid (ts.getD k tok0 = x) := hx
  have hbe' := hbe
  unfold Sx.begE Sx.isUn at hbe'
  simp only [Bool.or_eq_false_iff, decide_eq_false_iff_not] at hbe'
  obtain ⟨⟨⟨⟨⟨hk2, hk1⟩, Ntr⟩, Nfa⟩, N40⟩, N45, N33⟩ := hbe'
  have n45 : Hid (¬ (ts.getD k tok0).1.text = [45]) := N45
  have n33 : Hid (¬ (ts.getD k tok0).1.text = [33]) := N33
  have n40 : Hid (¬ (ts.getD k tok0).1.text = [40]) := N40
  have ntr : Hid (¬ (ts.getD k tok0).1.text = [116, 114, 117, 101]) := Ntr
  have nfa : Hid (¬ (ts.getD k tok0).1.text = [102, 97, 108, 115, 101]) := Nfa
  have b2 : (x.1.kind == 2) = false := by rw [← hx]; exact beq_eq_false_iff_ne.2 hk2
  have HK1 : Hid (¬ (ts.getD k tok0).1.kind = 1) := hk1
  have HR2 : Hid (r = .bad (ts.getD k tok0).2 30) := by
    have e := hr
    rw [Sx.un, if_pos hbe] at e
    exact (Option.some.inj e).symm
  clear hbe hk2 hk1
  clear N45 N33 N40 Ntr Nfa
  have r0 := h.row
  have r1 := h.nx
  have r2 := h.ce
  have hpl := h.lt
  have hbl := h.ta.lt
  have c0 := h.ta.c0 k h.hk
  have c1 := h.ta.c1 k h.hk
  have c2 := h.ta.c2 k h.hk
  have c3 := h.ta.c3 k h.hk
  rw [hx] at c0 c1 c2 c3
  have hki : (k : Int) < (ts.length : Int) := by have := h.hk; omega
  have hk0 : (0 : Int) ≤ (k : Int) := by omega
  have hwk : IntKind.i64.wrap ((k : Int) + 1) = (k : Int) + 1 := by have := h.hl; have := h.hk; rw [IntKind.wrap_i64]; omega
  have hwd : IntKind.i64.wrap ((d : Int) + 1) = (d : Int) + 1 := by rw [IntKind.wrap_i64]; omega
  clear h gd rt hd hr hx
  go_enter Try.func99, Try.ntmps99
  go_wp2_with fail
  go_cut [5] from 15 (fun s wc => OneRel w p b o cap ts k x s wc)
  case first =>
    go_region
    all_goals (go_wp2_with fail; go_meet; case rel => exact OneRel.of H.out _)
  case rest =>
    obtain ⟨rfl, T, R, RI, BW⟩ := hcut
    have TT : Hid _ := T
    have RR : Hid _ := R
    have RII : Hid _ := RI
    have BB : Hid _ := BW
    clear T R RI BW r0 r1 r2 hpl hbl c0 c1 c2 c3
    have B0 : Hid (Below wc.heap.size wc wc) := Below.refl _ _
    go_wp2_with fail
    refine Calls.mono (ris_no _ p b o cap ts k 0 0 [45] (RII.out.later B0.out) (.inr n45.out)) ?_
    rintro e w1 ⟨rfl, b1⟩
    have B1 : Hid (Below wc.heap.size wc w1) := B0.out.trans (b1.mono B0.out.size)
    clear b1
    go_wp2_with fail
    refine Calls.mono (ris_no _ p b o cap ts k 0 0 [33] (RII.out.later B1.out) (.inr n33.out)) ?_
    rintro e w2 ⟨rfl, b2⟩
    have B2 : Hid (Below wc.heap.size wc w2) := B1.out.trans (b2.mono B1.out.size)
    clear b2
    go_wp2_with fail
    refine Calls.mono (rgot_no _ p b o cap ts k 0 0 [40] (RII.out.later B2.out) (.inr n40.out)) ?_
    rintro e w3 ⟨rfl, b3⟩
    have B3 : Hid (Below wc.heap.size wc w3) := B2.out.trans (b3.mono B2.out.size)
    clear b3
    go_wp2_with fail
    refine Calls.mono (rgot_no _ p b o cap ts k 0 0 [116, 114, 117, 101] (RII.out.later B3.out) (.inr ntr.out)) ?_
    rintro e w4 ⟨rfl, b4⟩
    have B4 : Hid (Below wc.heap.size wc w4) := B3.out.trans (b4.mono B3.out.size)
    clear b4
    go_wp2_with fail
    refine Calls.mono (rgot_no _ p b o cap ts k 0 0 [102, 97, 108, 115, 101] (RII.out.later B4.out) (.inr nfa.out)) ?_
    rintro e w5 ⟨rfl, b5⟩
    have B5 : Hid (Below wc.heap.size wc w5) := B4.out.trans (b5.mono B4.out.size)
    clear b5
    have T5 := TT.out.later B5.out TT.out.lt
    obtain ⟨c0, c1, c2, c3, g0, g1, g2, g3, zt⟩ := T5
    go_wp2_with fail
    refine Calls.mono (rword_no _ p b o cap ts k 0 (RII.out.later B5.out) HK1.out) ?_
    rintro e w8 ⟨rfl, RI8, kp⟩
    have kw : Hid (Kp p wc w8) := (Keep.of_below B5.out (Nat.le_refl _)).trans kp
    have RI8' : Hid _ := RI8
    clear kp RI8
    go_wp2_with fail
    refine Calls.mono (rgot_no _ p b o cap ts k 30 _ [91] RI8'.out (.inl (by decide))) ?_
    rintro e w9 ⟨rfl, b9⟩
    have RI9 : Hid _ := RI8'.out.later b9
    have kw9 : Hid (Kp p wc w9) := kw.out.trans (.of_below b9 (Nat.le_refl _))
    obtain ⟨d0, d1, d2, d3, e0, e1, e2, e3, zr⟩ := RR.out.kp kw9.out pz'
    clear b9 c0 c1 c2 c3 g0 g1 g2 g3 zt
    go_wp2_with fail
    refine bodyPost_ret (v := .agg #[.int .i64 3, .string ⟨#[]⟩, .int .i64 0, .slice none 0 0]) (by simp [results, Try.results99, go_sem, d0, d1, d2, d3]) rfl ?_
    rw [HR2.out]
    exact PostR.bad_fill (n := []) ((Keep.of_below BB.out (Nat.le_refl _)).trans kw9.out) RI9.out hp.out hb.out
end Go.Proofs.Ytobiedmmjiedlaa
namespace Go.Proofs.Ytobiedmmjiedlaa
open Go.RowKit

set_option maxRecDepth 100000 in
set_option maxHeartbeats 2000000 in
theorem rone_brackets (w : World) (p b o cap : Nat) (ts : List Tok) (k d f : Nat) (r : Sx.Rs) (h : Ri w p b o cap ts k 0 0) (gd : Good ts) (rt : RT ts) (hd : d ≤ 60) (he : ECr p b o cap ts f) (N45 : ¬ (ts.getD k tok0).1.text = [45]) (N33 : ¬ (ts.getD k tok0).1.text = [33]) (htx : (ts.getD k tok0).1.text = [40]) (hr : Sx.un ts (f + 1) d k = some r) :
    Calls Try.prog 99 #[.pointer (some ⟨p, 0, none⟩), .int .i64 (d : Int)] w (PostR p b o cap ts w r) := by
  have H : Hid _ := h
  have hp : Hid (p < w.heap.size) := h.lt
  have hb : Hid (b < w.heap.size) := h.ta.lt
  have GD : Hid (Good ts) := gd
  have RTT : Hid (RT ts) := rt
  have HD : Hid (d ≤ 60) := hd
  have HR : Hid _ := hr
  have pz : ¬ p = w.heap.size := Nat.ne_of_lt h.lt
  have pz' : ¬ w.heap.size = p := fun e => pz e.symm
  have pz1 : ¬ p = w.heap.size + 1 := by have := h.lt; omega
  obtain ⟨x, hx⟩ : ∃ x, ts.getD k tok0 = x := ⟨_, rfl⟩
  have HX : Hid (ts.getD k tok0 = x) := hx
  have n45 : Hid (¬ (ts.getD k tok0).1.text = [45]) := N45
  have n33 : Hid (¬ (ts.getD k tok0).1.text = [33]) := N33
  have HT : Hid ((ts.getD k tok0).1.text = [40]) := htx
  have K34 : Hid ((ts.getD k tok0).1.kind = 3 ∨ (ts.getD k tok0).1.kind = 4) := rt.sg k (by unfold Sx.tx; rw [htx]; simp)
  have HK : Hid (k + 1 < ts.length) := gd.next h.hk (by intro e; rw [e] at htx; exact absurd htx (by decide))
  have HR2 : Hid (Sx.shut ts [41] (fun x => x) (Sx.bd ts f 1 (d + 1) (k + 1)) = some r) := by
    have e := hr
    have hk34 := K34.out
    have htx' : Sx.tx ts k = [40] := htx
    rw [Sx.un, if_neg (by unfold Sx.begE; rw [htx]; simp), if_neg (by omega), if_neg (by omega), if_neg (by omega), if_neg (fun e => by rw [htx'] at e; cases e), if_neg (fun e => by rw [htx'] at e; cases e), if_pos htx'] at e
    exact e
  have HE : Hid (ECr p b o cap ts f) := he
  clear htx he
  clear N45 N33
  have r0 := h.row
  have r1 := h.nx
  have r2 := h.ce
  have hpl := h.lt
  have hbl := h.ta.lt
  have c0 := h.ta.c0 k h.hk
  have c1 := h.ta.c1 k h.hk
  have c2 := h.ta.c2 k h.hk
  have c3 := h.ta.c3 k h.hk
  rw [hx] at c0 c1 c2 c3
  have hki : (k : Int) < (ts.length : Int) := by have := h.hk; omega
  have hk0 : (0 : Int) ≤ (k : Int) := by omega
  have hwk : IntKind.i64.wrap ((k : Int) + 1) = (k : Int) + 1 := by have := h.hl; have := h.hk; rw [IntKind.wrap_i64]; omega
  have hwd : IntKind.i64.wrap ((d : Int) + 1) = (d : Int) + 1 := by rw [IntKind.wrap_i64]; omega
  clear h gd rt hd hr hx
  go_enter Try.func99, Try.ntmps99
  go_wp2_with fail
  go_cut [5] from 15 (fun s wc => OneRel w p b o cap ts k x s wc)
  case first =>
    go_region
    all_goals (go_wp2_with fail; go_meet; case rel => exact OneRel.of H.out _)
  case rest =>
    obtain ⟨rfl, T, R, RI, BW⟩ := hcut
    have TT : Hid _ := T
    have RR : Hid _ := R
    have RII : Hid _ := RI
    have BB : Hid _ := BW
    clear T R RI BW r0 r1 r2 hpl hbl c0 c1 c2 c3
    have B0 : Hid (Below wc.heap.size wc wc) := Below.refl _ _
    go_wp2_with fail
    refine Calls.mono (ris_no _ p b o cap ts k 0 0 [45] (RII.out.later B0.out) (.inr n45.out)) ?_
    rintro e w1 ⟨rfl, b1⟩
    have B1 : Hid (Below wc.heap.size wc w1) := B0.out.trans (b1.mono B0.out.size)
    clear b1
    go_wp2_with fail
    refine Calls.mono (ris_no _ p b o cap ts k 0 0 [33] (RII.out.later B1.out) (.inr n33.out)) ?_
    rintro e w2 ⟨rfl, b2⟩
    have B2 : Hid (Below wc.heap.size wc w2) := B1.out.trans (b2.mono B1.out.size)
    clear b2
    go_wp2_with fail
    refine Calls.mono (rgot_yes _ p b o cap ts k 0 [40] (RII.out.later B2.out) HT.out K34.out HK.out) ?_
    rintro e w6 ⟨rfl, RI6, kp⟩
    have kw : Hid (Kp p wc w6) := (Keep.of_below B2.out (Nat.le_refl _)).trans kp
    have RI6' : Hid _ := RI6
    clear kp RI6
    cases hB : Sx.bd ts f 1 (d + 1) (k + 1) with
    | none => exact absurd HR2.out (by rw [hB]; intro e; cases e)
    | some r1 =>
      have E1 : Hid _ := HE.out (d + 1) (k + 1) r1 w6 (by have := HD.out; omega) RI6'.out hB
      have HS : Hid _ := HR2.out
      rw [hB] at HS
      have HER : Hid (∀ a er, r1 = .bad a er → ¬ er = 0) := fun a er e => by
        rw [e] at hB
        have := (Sx.errs ts f).2.1 _ _ _ _ _ hB
        omega
      clear hB HR2
      go_wp2_with fail
      refine Calls.mono E1.out ?_
      cases r1 with
      | bad a er =>
        rintro e w7 ⟨kk, nn, mm, sa, sn, sc, k', rfl, RI7, kp7⟩
        have her := HER.out a er rfl
        have hr0 : Hid (r = .bad a er) := (Option.some.inj HS.out).symm
        have RI8 : Hid (Ri (w7.alloc (.cells #[.int .i64 kk, .string ⟨nn.toArray⟩, .int .i64 mm, .slice sa sn sc] 54)) p b o cap ts k' er a) := RI7.later (box_below _ _)
        have kw7 : Hid (Kp p wc w7) := kw.out.trans kp7
        have R7 : Hid _ := RR.out.kp kw7.out pz'
        have hn : Hid (w7.heap.size ≠ p) := Nat.ne_of_gt RI7.lt
        clear RI7 kp7
        go_wp2_with fail
        refine Calls.mono (rwant_err _ p b o cap ts k' er a [41] RI8.out her) ?_
        rintro e w9 ⟨rfl, b9⟩
        have RI9 : Hid _ := RI8.out.later b9
        have k9 : Kp p w7 w9 := ((Keep.refl (fun g => g = p) w7).alloc _).trans (.of_below b9 (Nat.le_refl _))
        have kw9 : Hid (Kp p wc w9) := kw7.out.trans k9
        have B8 := (Bx.new w7 54 (.int .i64 kk) (.string ⟨nn.toArray⟩) (.int .i64 mm) (.slice sa sn sc)).later b9 (by simp)
        have nw : ¬ w7.heap.size = w.heap.size := Nat.ne_of_gt R7.out.lt
        have nw' : ¬ w.heap.size = w7.heap.size := Nat.ne_of_lt R7.out.lt
        obtain ⟨g0, g1, g2, g3, i0, i1, i2, i3, zb⟩ := B8
        obtain ⟨d0, d1, d2, d3, e0, e1, e2, e3, zr⟩ := R7.out.kp k9 pz'
        clear b9 k9
        go_wp2_with fail
        refine bodyPost_ret (v := .agg #[.int .i64 kk, .string ⟨nn.toArray⟩, .int .i64 mm, .slice sa sn sc]) (by simp [results, Try.results99, go_sem, d0, d1, d2, d3]) rfl ?_
        rw [hr0.out]
        exact PostR.bad_fill ((Keep.of_below BB.out (Nat.le_refl _)).trans kw9.out) RI9.out hp.out hb.out
      | ok y k' =>
        rintro e w7 ⟨kk, nn, mm, sa, sn, sc, ll, rfl, rfl, X7, RI7, kp7⟩
        have RI8 : Hid (Ri (w7.alloc (.cells #[.int .i64 kk, .string ⟨nn.toArray⟩, .int .i64 mm, .slice sa sn sc] 54)) p b o cap ts k' 0 0) := RI7.later (box_below _ _)
        have kw7 : Hid (Kp p wc w7) := kw.out.trans kp7
        have R7 : Hid _ := RR.out.kp kw7.out pz'
        have hn : Hid (w7.heap.size ≠ p) := Nat.ne_of_gt RI7.lt
        have z6 : w.heap.size < w6.heap.size := Nat.lt_of_lt_of_le RR.out.lt kw.out.size
        have XX : Hid (ExS (fun g => w.heap.size < g) w7 (.slice sa sn sc) ll) := X7.mono fun g _ hg => Nat.lt_of_lt_of_le z6 hg
        clear RI7 kp7 X7 z6
        by_cases h41 : Sx.tx ts k' = [41]
        · have hr0 : Hid (r = .ok (.mk kk nn mm ll) (k' + 1)) := by have e := HS.out; rw [Sx.shut_ok, if_pos h41] at e; exact (Option.some.inj e).symm
          have H41 : Hid (Sx.tx ts k' = [41]) := h41
          have hk2 : Hid (k' + 1 < ts.length) := GD.out.next RI8.out.hk (fun e => by unfold Sx.tx at h41; rw [e] at h41; exact absurd h41 (by decide))
          clear HS h41
          go_wp2_with fail
          refine Calls.mono (rwant_yes _ p b o cap ts k' 0 [41] RI8.out H41.out (RTT.out.sg k' (by rw [H41.out]; simp)) hk2.out) ?_
          rintro e w9 ⟨rfl, RI9', kp9⟩
          have RI9 : Hid _ := RI9'
          have k9 : Kp p w7 w9 := ((Keep.refl (fun g => g = p) w7).alloc _).trans kp9
          have kw9 : Hid (Kp p wc w9) := kw7.out.trans k9
          have B8 := (Bx.new w7 54 (.int .i64 kk) (.string ⟨nn.toArray⟩) (.int .i64 mm) (.slice sa sn sc)).kp kp9 hn.out
          have nw : ¬ w7.heap.size = w.heap.size := Nat.ne_of_gt R7.out.lt
          have nw' : ¬ w.heap.size = w7.heap.size := Nat.ne_of_lt R7.out.lt
          have X9 : Hid _ := XX.out.kp k9 (fun e => by have := hp.out; omega)
          obtain ⟨g0, g1, g2, g3, i0, i1, i2, i3, zb⟩ := B8
          obtain ⟨d0, d1, d2, d3, e0, e1, e2, e3, zr⟩ := R7.out.kp k9 pz'
          clear kp9 k9 RI9'
          go_wp2_with fail
          refine bodyPost_ret (v := .agg #[.int .i64 kk, .string ⟨nn.toArray⟩, .int .i64 mm, .slice sa sn sc]) (by simp [results, Try.results99, go_sem, d0, d1, d2, d3]) rfl ?_
          rw [hr0.out]
          exact PostR.of_fill ((Keep.of_below BB.out (Nat.le_refl _)).trans kw9.out) RI9.out hp.out hb.out X9.out
        · have hr0 : Hid (r = .bad (ts.getD k' tok0).2 30) := by have e := HS.out; rw [Sx.shut_ok, if_neg h41] at e; exact (Option.some.inj e).symm
          have H41 : Hid (¬ Sx.tx ts k' = [41]) := h41
          clear HS h41
          go_wp2_with fail
          refine Calls.mono (rwant_no _ p b o cap ts k' 0 [41] RI8.out H41.out) ?_
          rintro e w9 ⟨rfl, RI9', kp9⟩
          have RI9 : Hid _ := RI9'
          have k9 : Kp p w7 w9 := ((Keep.refl (fun g => g = p) w7).alloc _).trans kp9
          have kw9 : Hid (Kp p wc w9) := kw7.out.trans k9
          have B8 := (Bx.new w7 54 (.int .i64 kk) (.string ⟨nn.toArray⟩) (.int .i64 mm) (.slice sa sn sc)).kp kp9 hn.out
          have nw : ¬ w7.heap.size = w.heap.size := Nat.ne_of_gt R7.out.lt
          have nw' : ¬ w.heap.size = w7.heap.size := Nat.ne_of_lt R7.out.lt
          obtain ⟨g0, g1, g2, g3, i0, i1, i2, i3, zb⟩ := B8
          obtain ⟨d0, d1, d2, d3, e0, e1, e2, e3, zr⟩ := R7.out.kp k9 pz'
          clear kp9 k9 RI9'
          go_wp2_with fail
          refine bodyPost_ret (v := .agg #[.int .i64 kk, .string ⟨nn.toArray⟩, .int .i64 mm, .slice sa sn sc]) (by simp [results, Try.results99, go_sem, d0, d1, d2, d3]) rfl ?_
          rw [hr0.out]
          exact PostR.bad_fill ((Keep.of_below BB.out (Nat.le_refl _)).trans kw9.out) RI9.out hp.out hb.out
end Go.Proofs.Ytobiedmmjiedlaa
namespace Go.Proofs.Ytobiedmmjiedlaa
open Go.RowKit

set_option maxRecDepth 100000 in
set_option maxHeartbeats 2000000 in
theorem rone_var (w : World) (p b o cap : Nat) (ts : List Tok) (k d f : Nat) (r : Sx.Rs) (h : Ri w p b o cap ts k 0 0) (gd : Good ts) (rt : RT ts) (hd : d ≤ 60) (he : ECr p b o cap ts f) (N45 : ¬ (ts.getD k tok0).1.text = [45]) (N33 : ¬ (ts.getD k tok0).1.text = [33]) (N40 : ¬ (ts.getD k tok0).1.text = [40]) (Ntr : ¬ (ts.getD k tok0).1.text = [116, 114, 117, 101]) (Nfa : ¬ (ts.getD k tok0).1.text = [102, 97, 108, 115, 101]) (hk1 : (ts.getD k tok0).1.kind = 1) (hr : Sx.un ts (f + 1) d k = some r) :
    Calls Try.prog 99 #[.pointer (some ⟨p, 0, none⟩), .int .i64 (d : Int)] w (PostR p b o cap ts w r) := by
  have H : Hid _ := h
  have hp : Hid (p < w.heap.size) := h.lt
  have hb : Hid (b < w.heap.size) := h.ta.lt
  have GD : Hid (Good ts) := gd
  have RTT : Hid (RT ts) := rt
  have HD : Hid (d ≤ 60) := hd
  have HR : Hid _ := hr
  have pz : ¬ p = w.heap.size := Nat.ne_of_lt h.lt
  have pz' : ¬ w.heap.size = p := fun e => pz e.symm
  have pz1 : ¬ p = w.heap.size + 1 := by have := h.lt; omega
  obtain ⟨x, hx⟩ : ∃ x, ts.getD k tok0 = x := ⟨_, rfl⟩
  have HX : Hid (ts.getD k tok0 = x) := hx
  have n45 : Hid (¬ (ts.getD k tok0).1.text = [45]) := N45
  have n33 : Hid (¬ (ts.getD k tok0).1.text = [33]) := N33
  have n40 : Hid (¬ (ts.getD k tok0).1.text = [40]) := N40
  have ntr : Hid (¬ (ts.getD k tok0).1.text = [116, 114, 117, 101]) := Ntr
  have nfa : Hid (¬ (ts.getD k tok0).1.text = [102, 97, 108, 115, 101]) := Nfa
  have b2 : (x.1.kind == 2) = false := by rw [← hx, hk1]; rfl
  have HK1 : Hid ((ts.getD k tok0).1.kind = 1) := hk1
  have HK : Hid (k + 1 < ts.length) := gd.next h.hk (by intro e; rw [e] at hk1; exact absurd hk1 (by decide))
  have HTX : Hid ((ts.getD k tok0).1.text = x.1.text) := by rw [← hx]; rfl
  have HR2 : Hid ((if Sx.tx ts (k + 1) = [91] then Sx.shut ts [93] (fun y => .mk 4 x.1.text 0 [y]) (Sx.bd ts f 1 (d + 1) (k + 2)) else some (.ok (.mk 3 x.1.text 0 []) (k + 1))) = some r) := by
    have e := hr
    have e1 : Sx.tx ts k = x.1.text := HTX.out
    rw [Sx.un, if_neg (by unfold Sx.begE; rw [decide_eq_true hk1]; simp), if_neg (by omega), if_neg (by omega), if_pos hk1, e1] at e
    exact e
  have HE : Hid (ECr p b o cap ts f) := he
  clear hk1 he
  clear N45 N33 N40 Ntr Nfa
  have r0 := h.row
  have r1 := h.nx
  have r2 := h.ce
  have hpl := h.lt
  have hbl := h.ta.lt
  have c0 := h.ta.c0 k h.hk
  have c1 := h.ta.c1 k h.hk
  have c2 := h.ta.c2 k h.hk
  have c3 := h.ta.c3 k h.hk
  rw [hx] at c0 c1 c2 c3
  have hki : (k : Int) < (ts.length : Int) := by have := h.hk; omega
  have hk0 : (0 : Int) ≤ (k : Int) := by omega
  have hwk : IntKind.i64.wrap ((k : Int) + 1) = (k : Int) + 1 := by have := h.hl; have := h.hk; rw [IntKind.wrap_i64]; omega
  have hwd : IntKind.i64.wrap ((d : Int) + 1) = (d : Int) + 1 := by rw [IntKind.wrap_i64]; omega
  clear h gd rt hd hr hx
  go_enter Try.func99, Try.ntmps99
  go_wp2_with fail
  go_cut [5] from 15 (fun s wc => OneRel w p b o cap ts k x s wc)
  case first =>
    go_region
    all_goals (go_wp2_with fail; go_meet; case rel => exact OneRel.of H.out _)
  case rest =>
    obtain ⟨rfl, T, R, RI, BW⟩ := hcut
    have TT : Hid _ := T
    have RR : Hid _ := R
    have RII : Hid _ := RI
    have BB : Hid _ := BW
    clear T R RI BW r0 r1 r2 hpl hbl c0 c1 c2 c3
    have B0 : Hid (Below wc.heap.size wc wc) := Below.refl _ _
    go_wp2_with fail
    refine Calls.mono (ris_no _ p b o cap ts k 0 0 [45] (RII.out.later B0.out) (.inr n45.out)) ?_
    rintro e w1 ⟨rfl, b1⟩
    have B1 : Hid (Below wc.heap.size wc w1) := B0.out.trans (b1.mono B0.out.size)
    clear b1
    go_wp2_with fail
    refine Calls.mono (ris_no _ p b o cap ts k 0 0 [33] (RII.out.later B1.out) (.inr n33.out)) ?_
    rintro e w2 ⟨rfl, b2⟩
    have B2 : Hid (Below wc.heap.size wc w2) := B1.out.trans (b2.mono B1.out.size)
    clear b2
    go_wp2_with fail
    refine Calls.mono (rgot_no _ p b o cap ts k 0 0 [40] (RII.out.later B2.out) (.inr n40.out)) ?_
    rintro e w3 ⟨rfl, b3⟩
    have B3 : Hid (Below wc.heap.size wc w3) := B2.out.trans (b3.mono B2.out.size)
    clear b3
    go_wp2_with fail
    refine Calls.mono (rgot_no _ p b o cap ts k 0 0 [116, 114, 117, 101] (RII.out.later B3.out) (.inr ntr.out)) ?_
    rintro e w4 ⟨rfl, b4⟩
    have B4 : Hid (Below wc.heap.size wc w4) := B3.out.trans (b4.mono B3.out.size)
    clear b4
    go_wp2_with fail
    refine Calls.mono (rgot_no _ p b o cap ts k 0 0 [102, 97, 108, 115, 101] (RII.out.later B4.out) (.inr nfa.out)) ?_
    rintro e w5 ⟨rfl, b5⟩
    have B5 : Hid (Below wc.heap.size wc w5) := B4.out.trans (b5.mono B4.out.size)
    clear b5
    have T5 := TT.out.later B5.out TT.out.lt
    obtain ⟨c0, c1, c2, c3, g0, g1, g2, g3, zt⟩ := T5
    have W1 : Hid _ := rword_yes w5 p b o cap ts k 0 (RII.out.later B5.out) HK1.out HK.out
    rw [HTX.out] at W1
    go_wp2_with fail
    refine Calls.mono W1.out ?_
    rintro e w6 ⟨rfl, RI6, kp⟩
    have kw : Hid (Kp p wc w6) := (Keep.of_below B5.out (Nat.le_refl _)).trans kp
    have RI6' : Hid _ := RI6
    clear kp RI6 c0 c1 c2 c3 g0 g1 g2 g3 zt W1
    by_cases h91 : Sx.tx ts (k + 1) = [91]
    · have HS0 : Hid (Sx.shut ts [93] (fun y => .mk 4 x.1.text 0 [y]) (Sx.bd ts f 1 (d + 1) (k + 2)) = some r) := by have e := HR2.out; rw [if_pos h91] at e; exact e
      have H91 : Hid (Sx.tx ts (k + 1) = [91]) := h91
      have HK2 : Hid (k + 1 + 1 < ts.length) := GD.out.next RI6'.out.hk (fun e => by unfold Sx.tx at h91; rw [e] at h91; exact absurd h91 (by decide))
      clear HR2 h91
      go_wp2_with fail
      refine Calls.mono (rgot_yes _ p b o cap ts (k + 1) 0 [91] RI6'.out H91.out (RTT.out.sg (k + 1) (by rw [H91.out]; simp)) HK2.out) ?_
      rintro e w7 ⟨rfl, RI7, kp⟩
      have kw7 : Hid (Kp p wc w7) := kw.out.trans kp
      have RI7' : Hid _ := RI7
      clear kp RI7
      cases hB : Sx.bd ts f 1 (d + 1) (k + 2) with
      | none => exact absurd HS0.out (by rw [hB]; intro e; cases e)
      | some r1 =>
        have E1 : Hid _ := HE.out (d + 1) (k + 2) r1 w7 (by have := HD.out; omega) RI7'.out hB
        have HS : Hid _ := HS0.out
        rw [hB] at HS
        have HER : Hid (∀ a er, r1 = .bad a er → ¬ er = 0) := fun a er e => by
          rw [e] at hB
          have := (Sx.errs ts f).2.1 _ _ _ _ _ hB
          omega
        clear hB HS0
        go_wp2_with fail
        refine Calls.mono E1.out ?_
        cases r1 with
        | bad a er =>
          rintro e w8 ⟨kk, nn, mm, sa, sn, sc, k', rfl, RI8', kp8⟩
          have her := HER.out a er rfl
          have hr0 : Hid (r = .bad a er) := (Option.some.inj HS.out).symm
          have RI8 : Hid (Ri (w8.alloc (.cells #[.int .i64 kk, .string ⟨nn.toArray⟩, .int .i64 mm, .slice sa sn sc] 54)) p b o cap ts k' er a) := RI8'.later (box_below _ _)
          have kw8 : Hid (Kp p wc w8) := kw7.out.trans kp8
          have R8 : Hid _ := RR.out.kp kw8.out pz'
          clear RI8' kp8
          go_wp2_with fail
          refine Calls.mono (rwant_err _ p b o cap ts k' er a [93] RI8.out her) ?_
          rintro e w9 ⟨rfl, b9⟩
          have RI9 : Hid _ := RI8.out.later b9
          have k9 : Kp p w8 w9 := ((Keep.refl (fun g => g = p) w8).alloc _).trans (.of_below b9 (Nat.le_refl _))
          have kw9 : Hid (Kp p wc w9) := kw8.out.trans k9
          have B8 := (Bx.new w8 54 (.int .i64 kk) (.string ⟨nn.toArray⟩) (.int .i64 mm) (.slice sa sn sc)).later b9 (by simp)
          have nw : ¬ w8.heap.size = w.heap.size := Nat.ne_of_gt R8.out.lt
          have nw' : ¬ w.heap.size = w8.heap.size := Nat.ne_of_lt R8.out.lt
          obtain ⟨g0, g1, g2, g3, i0, i1, i2, i3, zb⟩ := B8
          obtain ⟨d0, d1, d2, d3, e0, e1, e2, e3, zr⟩ := R8.out.kp k9 pz'
          have nz : ¬ w9.heap.size = w.heap.size := Nat.ne_of_gt zr
          have nz' : ¬ w.heap.size = w9.heap.size := Nat.ne_of_lt zr
          clear b9 k9
          go_wp2_with fail
          refine bodyPost_ret (v := .agg #[.int .i64 4, .string ⟨x.1.text.toArray⟩, .int .i64 0, .slice (some ⟨w9.heap.size, 0, none⟩) 1 1]) (by simp [results, Try.results99, go_sem, d0, d1, d2, d3, zr]) rfl ?_
          rw [hr0.out]
          exact PostR.bad_fillA ((Keep.of_below BB.out (Nat.le_refl _)).trans kw9.out) RI9.out hp.out hb.out
        | ok y k' =>
          rintro e w8 ⟨kk, nn, mm, sa, sn, sc, ll, rfl, rfl, X8, RI8', kp8⟩
          have RI8 : Hid (Ri (w8.alloc (.cells #[.int .i64 kk, .string ⟨nn.toArray⟩, .int .i64 mm, .slice sa sn sc] 54)) p b o cap ts k' 0 0) := RI8'.later (box_below _ _)
          have kw8 : Hid (Kp p wc w8) := kw7.out.trans kp8
          have R8 : Hid _ := RR.out.kp kw8.out pz'
          have hn : Hid (w8.heap.size ≠ p) := Nat.ne_of_gt RI8'.lt
          have z7 : w.heap.size < w7.heap.size := Nat.lt_of_lt_of_le RR.out.lt kw7.out.size
          have XX : Hid (ExS (fun g => w.heap.size < g) w8 (.slice sa sn sc) ll) := X8.mono fun g _ hg => Nat.lt_of_lt_of_le z7 hg
          clear RI8' kp8 X8 z7
          by_cases h93 : Sx.tx ts k' = [93]
          · have hr0 : Hid (r = .ok (.mk 4 x.1.text 0 [.mk kk nn mm ll]) (k' + 1)) := by have e := HS.out; rw [Sx.shut_ok, if_pos h93] at e; exact (Option.some.inj e).symm
            have H93 : Hid (Sx.tx ts k' = [93]) := h93
            have hk2 : Hid (k' + 1 < ts.length) := GD.out.next RI8.out.hk (fun e => by unfold Sx.tx at h93; rw [e] at h93; exact absurd h93 (by decide))
            clear HS h93
            go_wp2_with fail
            refine Calls.mono (rwant_yes _ p b o cap ts k' 0 [93] RI8.out H93.out (RTT.out.sg k' (by rw [H93.out]; simp)) hk2.out) ?_
            rintro e w9 ⟨rfl, RI9', kp9⟩
            have RI9 : Hid _ := RI9'
            have k9 : Kp p w8 w9 := ((Keep.refl (fun g => g = p) w8).alloc _).trans kp9
            have kw9 : Hid (Kp p wc w9) := kw8.out.trans k9
            have B8 := (Bx.new w8 54 (.int .i64 kk) (.string ⟨nn.toArray⟩) (.int .i64 mm) (.slice sa sn sc)).kp kp9 hn.out
            have nw : ¬ w8.heap.size = w.heap.size := Nat.ne_of_gt R8.out.lt
            have nw' : ¬ w.heap.size = w8.heap.size := Nat.ne_of_lt R8.out.lt
            have X9 : Hid _ := XX.out.kp k9 (fun e => by have := hp.out; omega)
            obtain ⟨g0, g1, g2, g3, i0, i1, i2, i3, zb⟩ := B8
            obtain ⟨d0, d1, d2, d3, e0, e1, e2, e3, zr⟩ := R8.out.kp k9 pz'
            have nz : ¬ w9.heap.size = w.heap.size := Nat.ne_of_gt zr
            have nz' : ¬ w.heap.size = w9.heap.size := Nat.ne_of_lt zr
            clear kp9 k9 RI9'
            go_wp2_with fail
            refine bodyPost_ret (v := .agg #[.int .i64 4, .string ⟨x.1.text.toArray⟩, .int .i64 0, .slice (some ⟨w9.heap.size, 0, none⟩) 1 1]) (by simp [results, Try.results99, go_sem, d0, d1, d2, d3, zr]) rfl ?_
            rw [hr0.out]
            exact PostR.of_fillA ((Keep.of_below BB.out (Nat.le_refl _)).trans kw9.out) RI9.out hp.out hb.out (X9.out.one' zr (Nat.lt_irrefl _) _ _ _ _ _ _ _ _)
          · have hr0 : Hid (r = .bad (ts.getD k' tok0).2 30) := by have e := HS.out; rw [Sx.shut_ok, if_neg h93] at e; exact (Option.some.inj e).symm
            have H93 : Hid (¬ Sx.tx ts k' = [93]) := h93
            clear HS h93
            go_wp2_with fail
            refine Calls.mono (rwant_no _ p b o cap ts k' 0 [93] RI8.out H93.out) ?_
            rintro e w9 ⟨rfl, RI9', kp9⟩
            have RI9 : Hid _ := RI9'
            have k9 : Kp p w8 w9 := ((Keep.refl (fun g => g = p) w8).alloc _).trans kp9
            have kw9 : Hid (Kp p wc w9) := kw8.out.trans k9
            have B8 := (Bx.new w8 54 (.int .i64 kk) (.string ⟨nn.toArray⟩) (.int .i64 mm) (.slice sa sn sc)).kp kp9 hn.out
            have nw : ¬ w8.heap.size = w.heap.size := Nat.ne_of_gt R8.out.lt
            have nw' : ¬ w.heap.size = w8.heap.size := Nat.ne_of_lt R8.out.lt
            obtain ⟨g0, g1, g2, g3, i0, i1, i2, i3, zb⟩ := B8
            obtain ⟨d0, d1, d2, d3, e0, e1, e2, e3, zr⟩ := R8.out.kp k9 pz'
            have nz : ¬ w9.heap.size = w.heap.size := Nat.ne_of_gt zr
            have nz' : ¬ w.heap.size = w9.heap.size := Nat.ne_of_lt zr
            clear kp9 k9 RI9'
            go_wp2_with fail
            refine bodyPost_ret (v := .agg #[.int .i64 4, .string ⟨x.1.text.toArray⟩, .int .i64 0, .slice (some ⟨w9.heap.size, 0, none⟩) 1 1]) (by simp [results, Try.results99, go_sem, d0, d1, d2, d3, zr]) rfl ?_
            rw [hr0.out]
            exact PostR.bad_fillA ((Keep.of_below BB.out (Nat.le_refl _)).trans kw9.out) RI9.out hp.out hb.out
    · have hr0 : Hid (r = .ok (.mk 3 x.1.text 0 []) (k + 1)) := by have e := HR2.out; rw [if_neg h91] at e; exact (Option.some.inj e).symm
      have H91 : Hid (¬ Sx.tx ts (k + 1) = [91]) := h91
      clear HR2 h91
      go_wp2_with fail
      refine Calls.mono (rgot_no _ p b o cap ts (k + 1) 0 0 [91] RI6'.out (.inr H91.out)) ?_
      rintro e w9 ⟨rfl, b9⟩
      have RI9 : Hid _ := RI6'.out.later b9
      have kw9 : Hid (Kp p wc w9) := kw.out.trans (.of_below b9 (Nat.le_refl _))
      obtain ⟨d0, d1, d2, d3, e0, e1, e2, e3, zr⟩ := RR.out.kp kw9.out pz'
      clear b9
      go_wp2_with fail
      refine bodyPost_ret (v := .agg #[.int .i64 3, .string ⟨x.1.text.toArray⟩, .int .i64 0, .slice none 0 0]) (by simp [results, Try.results99, go_sem, d0, d1, d2, d3]) rfl ?_
      rw [hr0.out]
      exact PostR.of_fill ((Keep.of_below BB.out (Nat.le_refl _)).trans kw9.out) RI9.out hp.out hb.out (.nil _ _)
end Go.Proofs.Ytobiedmmjiedlaa
