/- Layer 3: the document's one: unary signs. -/
import Derived.Test.YtobiedmmjiedlaaZSypK
namespace Go.Proofs.Ytobiedmmjiedlaa
open Go.RowKit

/-- What came of the operand is ready to be laid into its box. -/
def UReady (w : World) (p b o cap : Nat) (ts : List Tok) (r : Sx.Rs) (txt : List UInt8) (kk : Int) (nn : List UInt8) (mm : Int) (sa : Option Addr) (sn sc : Nat) (w5 : World) : Prop :=
  ∀ t : TypeId, PostR p b o cap ts w r (.returned (.agg #[.int .i64 5, .string ⟨txt.toArray⟩, .int .i64 0, .slice (some ⟨w5.heap.size, 0, none⟩) 1 1])) ((fill w5 w.heap.size (.int .i64 5) (.string ⟨txt.toArray⟩) (.int .i64 0) (.slice (some ⟨w5.heap.size, 0, none⟩) 1 1)).alloc (.cells #[.int .i64 kk, .string ⟨nn.toArray⟩, .int .i64 mm, .slice sa sn sc] t))
theorem UReady.of {w w4 : World} {p b o cap : Nat} {ts : List Tok} {k d f : Nat} {r r1 : Sx.Rs} {txt : List UInt8} (hu : UCr p b o cap ts f) (hp : p < w.heap.size) (hb : b < w.heap.size) (hz : w.heap.size < w4.heap.size) (M : Kp p w w4)
    (hr1 : Sx.un ts f (d + 1) (k + 1) = some r1) (hr : (match some r1 with | some (.ok y k') => some (Sx.Rs.ok (.mk 5 txt 0 [y]) k') | r => r) = some r)
    (hor : (Sx.begE (ts.getD (k + 1) tok0) = false ∧ Ri w4 p b o cap ts (k + 1) 30 (ts.getD (k + 1) tok0).2) ∨ (Sx.begE (ts.getD (k + 1) tok0) = true ∧ 60 < d + 1 ∧ Ri w4 p b o cap ts (k + 1) 31 (ts.getD (k + 1) tok0).2) ∨ (Sx.begE (ts.getD (k + 1) tok0) = true ∧ d + 1 ≤ 60 ∧ Ri w4 p b o cap ts (k + 1) 0 0)) :
    ∀ W, Below w4.heap.size w4 W → Calls Try.prog 99 #[.pointer (some ⟨p, 0, none⟩), .int .i64 ((d : Int) + 1)] W fun e w5 => ∃ kk nn mm sa sn sc, e = .returned (.agg #[.int .i64 kk, .string ⟨(nn : List UInt8).toArray⟩, .int .i64 mm, .slice sa sn sc]) ∧ Kp p w4 w5 ∧ UReady w p b o cap ts r txt kk nn mm sa sn sc w5 := by
  intro W hW
  have mW : Kp p w4 W := .of_below hW (Nat.le_refl _)
  have zW : w.heap.size < W.heap.size := Nat.lt_of_lt_of_le hz hW.size
  rcases hor with ⟨h1, RI⟩ | ⟨h1, h2, RI⟩ | ⟨h1, h2, RI⟩
  · have e1 := Sx.un_form h1 hr1
    subst e1
    have e2 := Option.some.inj hr
    subst e2
    refine (rone_err W p b o cap ts (k + 1) 30 _ _ (RI.later hW) (by decide)).mono ?_
    rintro e w5 ⟨rfl, b5⟩
    exact ⟨0, [], 0, none, 0, 0, rfl, mW.trans (.of_below b5 (Nat.le_refl _)), fun t => PostR.bad_fillA ((M.trans mW).trans (.of_below b5 (Nat.le_refl _))) ((RI.later hW).later b5) hp hb⟩
  · have e1 := Sx.un_deep h1 h2 hr1
    subst e1
    have e2 := Option.some.inj hr
    subst e2
    refine (rone_err W p b o cap ts (k + 1) 31 _ _ (RI.later hW) (by decide)).mono ?_
    rintro e w5 ⟨rfl, b5⟩
    exact ⟨0, [], 0, none, 0, 0, rfl, mW.trans (.of_below b5 (Nat.le_refl _)), fun t => PostR.bad_fillA ((M.trans mW).trans (.of_below b5 (Nat.le_refl _))) ((RI.later hW).later b5) hp hb⟩
  · refine Calls.mono (hu (d + 1) (k + 1) r1 W h2 (RI.later hW) hr1) ?_
    cases r1 with
    | bad a er =>
      rintro e w5 ⟨kk, nn, mm, sa, sn, sc, k', rfl, RI5, k5⟩
      have e2 := Option.some.inj hr
      subst e2
      exact ⟨kk, nn, mm, sa, sn, sc, rfl, mW.trans k5, fun t => PostR.bad_fillA ((M.trans mW).trans k5) RI5 hp hb⟩
    | ok y k' =>
      rintro e w5 ⟨kk, nn, mm, sa, sn, sc, ll, rfl, rfl, X, RI5, k5⟩
      have e2 := Option.some.inj hr
      subst e2
      exact ⟨kk, nn, mm, sa, sn, sc, rfl, mW.trans k5, fun t => PostR.of_fillA ((M.trans mW).trans k5) RI5 hp hb ((X.mono (A' := fun g => w.heap.size < g) fun g _ hg => Nat.lt_of_lt_of_le zW hg).one' (Nat.lt_of_lt_of_le zW k5.size) (Nat.lt_irrefl _) _ _ _ _ _ _ _ _)⟩
set_option maxRecDepth 100000 in
set_option maxHeartbeats 2000000 in
theorem rone_minus (w : World) (p b o cap : Nat) (ts : List Tok) (k d f : Nat) (r : Sx.Rs) (h : Ri w p b o cap ts k 0 0) (gd : Good ts) (rt : RT ts) (hd : d ≤ 60) (hu : UCr p b o cap ts f) (htx : (ts.getD k tok0).1.text = [45]) (hr : Sx.un ts (f + 1) d k = some r) :
    Calls Try.prog 99 #[.pointer (some ⟨p, 0, none⟩), .int .i64 (d : Int)] w (PostR p b o cap ts w r) := by
  have H : Hid _ := h
  have hp : Hid (p < w.heap.size) := h.lt
  have hb : Hid (b < w.heap.size) := h.ta.lt
  have GD : Hid (Good ts) := gd
  have RTT : Hid (RT ts) := rt
  have HD : Hid (d ≤ 60) := hd
  have HR : Hid _ := hr
  have pz : ¬ p = w.heap.size := Nat.ne_of_lt h.lt
  have pz' : ¬ w.heap.size = p := fun e => pz e.symm
  have pz1 : ¬ p = w.heap.size + 1 := by have := h.lt; omega
  obtain ⟨x, hx⟩ : ∃ x, ts.getD k tok0 = x := ⟨_, rfl⟩
  have HX : Hid (ts.getD k tok0 = x) := hx
  have HT : Hid ((ts.getD k tok0).1.text = [45]) := htx
  have K34 : Hid ((ts.getD k tok0).1.kind = 3 ∨ (ts.getD k tok0).1.kind = 4) := rt.sg k (by unfold Sx.tx; rw [htx]; simp)
  have HK : Hid (k + 1 < ts.length) := gd.next h.hk (by intro e; rw [e] at htx; exact absurd htx (by decide))
  have HR2 : Hid ((match Sx.un ts f (d + 1) (k + 1) with | some (.ok y k') => some (Sx.Rs.ok (.mk 5 x.1.text 0 [y]) k') | r => r) = some r) := by
    have e := hr
    have hk34 := K34.out
    have htx' : Sx.tx ts k = [45] := htx
    rw [Sx.un, if_neg (by unfold Sx.begE Sx.isUn; rw [htx]; simp), if_neg (by omega), if_neg (by omega), if_neg (by omega), if_neg (fun e => by rw [htx'] at e; cases e), if_neg (fun e => by rw [htx'] at e; cases e), if_neg (fun e => by rw [htx'] at e; cases e), show Sx.tx ts k = x.1.text by unfold Sx.tx; rw [hx]] at e
    exact e
  have HU : Hid (UCr p b o cap ts f) := hu
  clear htx hu
  have r0 := h.row
  have r1 := h.nx
  have r2 := h.ce
  have hpl := h.lt
  have hbl := h.ta.lt
  have c0 := h.ta.c0 k h.hk
  have c1 := h.ta.c1 k h.hk
  have c2 := h.ta.c2 k h.hk
  have c3 := h.ta.c3 k h.hk
  rw [hx] at c0 c1 c2 c3
  have hki : (k : Int) < (ts.length : Int) := by have := h.hk; omega
  have hk0 : (0 : Int) ≤ (k : Int) := by omega
  have hwk : IntKind.i64.wrap ((k : Int) + 1) = (k : Int) + 1 := by have := h.hl; have := h.hk; rw [IntKind.wrap_i64]; omega
  have hwd : IntKind.i64.wrap ((d : Int) + 1) = (d : Int) + 1 := by rw [IntKind.wrap_i64]; omega
  clear h gd rt hd hr hx
  go_enter Try.func99, Try.ntmps99
  go_wp2_with fail
  go_cut [5] from 15 (fun s wc => OneRel w p b o cap ts k x s wc)
  case first =>
    go_region
    all_goals (go_wp2_with fail; go_meet; case rel => exact OneRel.of H.out _)
  case rest =>
    obtain ⟨rfl, T, R, RI, BW⟩ := hcut
    have TT : Hid _ := T
    have RR : Hid _ := R
    have RII : Hid _ := RI
    have BB : Hid _ := BW
    clear T R RI BW r0 r1 r2 hpl hbl c0 c1 c2 c3
    have B0 : Hid (Below wc.heap.size wc wc) := Below.refl _ _
    go_wp2_with fail
    refine Calls.mono (ris_yes _ p b o cap ts k 0 [45] (RII.out.later B0.out) HT.out K34.out) ?_
    rintro e w8 ⟨rfl, b8⟩
    have B8 : Hid (Below wc.heap.size wc w8) := B0.out.trans (b8.mono B0.out.size)
    have RI8 := RII.out.later B8.out
    have r1 := RI8.nx
    have f1 := RI8.f1
    have hpl := RI8.lt
    have ST : Hid _ := RI8.step HK.out
    have E1 : Hid _ := ropens_any _ p b o cap ts (k + 1) 0 RTT.out ST.out.1
    clear b8 RI8
    go_wp2_with fail
    refine Calls.mono E1.out ?_
    rintro e w3 ⟨rfl, b3⟩
    have E2 : Hid _ := rpart_any w3 p b o cap ts (k + 1) (Sx.begE (ts.getD (k + 1) tok0)) (d + 1) (by have := HD.out; omega) (ST.out.1.later b3)
    have KW3 : Hid (Kp p wc w3) := ((Keep.of_below B8.out (Nat.le_refl _)).trans ST.out.2).trans (.of_below b3 (Nat.le_refl _))
    clear b3 r1 f1 hpl
    go_wp2_with fail
    refine Calls.mono E2.out ?_
    rintro e w4 ⟨rfl, k4, hor⟩
    have KW4 : Hid (Kp p wc w4) := KW3.out.trans k4
    have T4 : Hid _ := TT.out.kp KW4.out (fun e => pz1 e.symm)
    have R4 : Hid _ := RR.out.kp KW4.out pz'
    cases hB : Sx.un ts f (d + 1) (k + 1) with
    | none => exact absurd HR2.out (by rw [hB]; intro e; cases e)
    | some r1 =>
      have HS : Hid _ := HR2.out
      rw [hB] at HS
      have E5 : Hid _ := UReady.of HU.out hp.out hb.out R4.out.lt ((Keep.of_below BB.out (Nat.le_refl _)).trans KW4.out) hB HS.out hor
      obtain ⟨c0, c1, c2, c3, g0, g1, g2, g3, zt⟩ := T4.out
      obtain ⟨d0, d1, d2, d3, e0, e1, e2, e3, zr⟩ := R4.out
      clear hor k4 hB HS HR2
      go_wp2_with fail
      go_region_with (go_at_call 99; refine Calls.mono (E5.out _ (by go_grown)) ?_; rintro e w5 ⟨kk, nn, mm, sa, sn, sc, rfl, m5, ur⟩; have UR : Hid _ := ur; have T5 := T4.out.kp m5 (fun e => pz1 e.symm); have R5 := R4.out.kp m5 pz'; obtain ⟨c0', c1', c2', c3', f0', f1', f2', f3', zt'⟩ := T5; obtain ⟨d0', d1', d2', d3', e0', e1', e2', e3', zr'⟩ := R5; have nw : ¬ w5.heap.size = w.heap.size := Nat.ne_of_gt zr'; have nw' : ¬ w.heap.size = w5.heap.size := Nat.ne_of_lt zr'; clear ur m5)
      all_goals (go_wp2_with fail; refine bodyPost_ret (v := .agg #[.int .i64 5, .string ⟨x.1.text.toArray⟩, .int .i64 0, .slice (some ⟨w5.heap.size, 0, none⟩) 1 1]) (by simp [results, Try.results99, go_sem, d0', d1', d2', d3', zr']) rfl ?_; exact UR.out _)
set_option maxRecDepth 100000 in
set_option maxHeartbeats 2000000 in
theorem rone_not (w : World) (p b o cap : Nat) (ts : List Tok) (k d f : Nat) (r : Sx.Rs) (h : Ri w p b o cap ts k 0 0) (gd : Good ts) (rt : RT ts) (hd : d ≤ 60) (hu : UCr p b o cap ts f) (N45 : ¬ (ts.getD k tok0).1.text = [45]) (htx : (ts.getD k tok0).1.text = [33]) (hr : Sx.un ts (f + 1) d k = some r) :
    Calls Try.prog 99 #[.pointer (some ⟨p, 0, none⟩), .int .i64 (d : Int)] w (PostR p b o cap ts w r) := by
  have H : Hid _ := h
  have hp : Hid (p < w.heap.size) := h.lt
  have hb : Hid (b < w.heap.size) := h.ta.lt
  have GD : Hid (Good ts) := gd
  have RTT : Hid (RT ts) := rt
  have HD : Hid (d ≤ 60) := hd
  have HR : Hid _ := hr
  have pz : ¬ p = w.heap.size := Nat.ne_of_lt h.lt
  have pz' : ¬ w.heap.size = p := fun e => pz e.symm
  have pz1 : ¬ p = w.heap.size + 1 := by have := h.lt; omega
  obtain ⟨x, hx⟩ : ∃ x, ts.getD k tok0 = x := ⟨_, rfl⟩
  have HX : Hid (ts.getD k tok0 = x) := hx
  have n45 : Hid (¬ (ts.getD k tok0).1.text = [45]) := N45
  have HT : Hid ((ts.getD k tok0).1.text = [33]) := htx
  have K34 : Hid ((ts.getD k tok0).1.kind = 3 ∨ (ts.getD k tok0).1.kind = 4) := rt.sg k (by unfold Sx.tx; rw [htx]; simp)
  have HK : Hid (k + 1 < ts.length) := gd.next h.hk (by intro e; rw [e] at htx; exact absurd htx (by decide))
  have HR2 : Hid ((match Sx.un ts f (d + 1) (k + 1) with | some (.ok y k') => some (Sx.Rs.ok (.mk 5 x.1.text 0 [y]) k') | r => r) = some r) := by
    have e := hr
    have hk34 := K34.out
    have htx' : Sx.tx ts k = [33] := htx
    rw [Sx.un, if_neg (by unfold Sx.begE Sx.isUn; rw [htx]; simp), if_neg (by omega), if_neg (by omega), if_neg (by omega), if_neg (fun e => by rw [htx'] at e; cases e), if_neg (fun e => by rw [htx'] at e; cases e), if_neg (fun e => by rw [htx'] at e; cases e), show Sx.tx ts k = x.1.text by unfold Sx.tx; rw [hx]] at e
    exact e
  have HU : Hid (UCr p b o cap ts f) := hu
  clear htx hu
  clear N45
  have r0 := h.row
  have r1 := h.nx
  have r2 := h.ce
  have hpl := h.lt
  have hbl := h.ta.lt
  have c0 := h.ta.c0 k h.hk
  have c1 := h.ta.c1 k h.hk
  have c2 := h.ta.c2 k h.hk
  have c3 := h.ta.c3 k h.hk
  rw [hx] at c0 c1 c2 c3
  have hki : (k : Int) < (ts.length : Int) := by have := h.hk; omega
  have hk0 : (0 : Int) ≤ (k : Int) := by omega
  have hwk : IntKind.i64.wrap ((k : Int) + 1) = (k : Int) + 1 := by have := h.hl; have := h.hk; rw [IntKind.wrap_i64]; omega
  have hwd : IntKind.i64.wrap ((d : Int) + 1) = (d : Int) + 1 := by rw [IntKind.wrap_i64]; omega
  clear h gd rt hd hr hx
  go_enter Try.func99, Try.ntmps99
  go_wp2_with fail
  go_cut [5] from 15 (fun s wc => OneRel w p b o cap ts k x s wc)
  case first =>
    go_region
    all_goals (go_wp2_with fail; go_meet; case rel => exact OneRel.of H.out _)
  case rest =>
    obtain ⟨rfl, T, R, RI, BW⟩ := hcut
    have TT : Hid _ := T
    have RR : Hid _ := R
    have RII : Hid _ := RI
    have BB : Hid _ := BW
    clear T R RI BW r0 r1 r2 hpl hbl c0 c1 c2 c3
    have B0 : Hid (Below wc.heap.size wc wc) := Below.refl _ _
    go_wp2_with fail
    refine Calls.mono (ris_no _ p b o cap ts k 0 0 [45] (RII.out.later B0.out) (.inr n45.out)) ?_
    rintro e w1 ⟨rfl, b1⟩
    have B1 : Hid (Below wc.heap.size wc w1) := B0.out.trans (b1.mono B0.out.size)
    clear b1
    go_wp2_with fail
    refine Calls.mono (ris_yes _ p b o cap ts k 0 [33] (RII.out.later B1.out) HT.out K34.out) ?_
    rintro e w8 ⟨rfl, b8⟩
    have B8 : Hid (Below wc.heap.size wc w8) := B1.out.trans (b8.mono B1.out.size)
    have RI8 := RII.out.later B8.out
    have r1 := RI8.nx
    have f1 := RI8.f1
    have hpl := RI8.lt
    have ST : Hid _ := RI8.step HK.out
    have E1 : Hid _ := ropens_any _ p b o cap ts (k + 1) 0 RTT.out ST.out.1
    clear b8 RI8
    go_wp2_with fail
    refine Calls.mono E1.out ?_
    rintro e w3 ⟨rfl, b3⟩
    have E2 : Hid _ := rpart_any w3 p b o cap ts (k + 1) (Sx.begE (ts.getD (k + 1) tok0)) (d + 1) (by have := HD.out; omega) (ST.out.1.later b3)
    have KW3 : Hid (Kp p wc w3) := ((Keep.of_below B8.out (Nat.le_refl _)).trans ST.out.2).trans (.of_below b3 (Nat.le_refl _))
    clear b3 r1 f1 hpl
    go_wp2_with fail
    refine Calls.mono E2.out ?_
    rintro e w4 ⟨rfl, k4, hor⟩
    have KW4 : Hid (Kp p wc w4) := KW3.out.trans k4
    have T4 : Hid _ := TT.out.kp KW4.out (fun e => pz1 e.symm)
    have R4 : Hid _ := RR.out.kp KW4.out pz'
    cases hB : Sx.un ts f (d + 1) (k + 1) with
    | none => exact absurd HR2.out (by rw [hB]; intro e; cases e)
    | some r1 =>
      have HS : Hid _ := HR2.out
      rw [hB] at HS
      have E5 : Hid _ := UReady.of HU.out hp.out hb.out R4.out.lt ((Keep.of_below BB.out (Nat.le_refl _)).trans KW4.out) hB HS.out hor
      obtain ⟨c0, c1, c2, c3, g0, g1, g2, g3, zt⟩ := T4.out
      obtain ⟨d0, d1, d2, d3, e0, e1, e2, e3, zr⟩ := R4.out
      clear hor k4 hB HS HR2
      go_wp2_with fail
      go_region_with (go_at_call 99; refine Calls.mono (E5.out _ (by go_grown)) ?_; rintro e w5 ⟨kk, nn, mm, sa, sn, sc, rfl, m5, ur⟩; have UR : Hid _ := ur; have T5 := T4.out.kp m5 (fun e => pz1 e.symm); have R5 := R4.out.kp m5 pz'; obtain ⟨c0', c1', c2', c3', f0', f1', f2', f3', zt'⟩ := T5; obtain ⟨d0', d1', d2', d3', e0', e1', e2', e3', zr'⟩ := R5; have nw : ¬ w5.heap.size = w.heap.size := Nat.ne_of_gt zr'; have nw' : ¬ w.heap.size = w5.heap.size := Nat.ne_of_lt zr'; clear ur m5)
      all_goals (go_wp2_with fail; refine bodyPost_ret (v := .agg #[.int .i64 5, .string ⟨x.1.text.toArray⟩, .int .i64 0, .slice (some ⟨w5.heap.size, 0, none⟩) 1 1]) (by simp [results, Try.results99, go_sem, d0', d1', d2', d3', zr']) rfl ?_; exact UR.out _)
end Go.Proofs.Ytobiedmmjiedlaa
