/- Layer 3: bound: what signs between two hold together. -/
import Derived.Test.YtlhklpnkelcnbaaGreatDoorSynF
import Derived.Deep.LoopGhost
namespace Go.Proofs.YtlhklpnkelcnbaaGreatDoor
open Go.RowKit

/-- The expression y, read so far, lies in block h; the token behind it is number k'. -/
def NRel (w : World) (p b o cap : Nat) (ts : List Tok) (h : Nat) (y : Sx.Ex) (k' : Nat) (wr : World) : Prop :=
  ∃ kk nn mm sa sn sc ll, y = .mk kk nn mm ll ∧ Bx wr h (.int .i64 kk) (.string ⟨(nn : List UInt8).toArray⟩) (.int .i64 mm) (.slice sa sn sc) ∧ ExS (fun g => w.heap.size < g ∧ g ≠ h) wr (.slice sa sn sc) ll ∧
    Bx wr w.heap.size (.int .i64 0) (.string ⟨#[]⟩) (.int .i64 0) (.slice none 0 0) ∧ Rd wr p b o cap ts k' ∧ k' < ts.length ∧ Mov p w wr
/-- Where the loop of bound stands. -/
def LRel (w : World) (p b o cap : Nat) (ts : List Tok) (q d h f : Nat) (r : Sx.Rs) (gk : Nat) (wr : World) : Prop :=
  ∃ y k', NRel w p b o cap ts h y k' wr ∧ Sx.lp ts gk q d y k' = some r ∧ gk ≤ f
/-- Two are put together in block h. -/
theorem NRel.two {w W w4 : World} {p b o cap : Nat} {ts : List Tok} {h : Nat} {k4 : Nat} {kk mm kk' mm' : Int} {nn nn' sg : List UInt8} {sa sa' : Option Addr} {sn sc sn' sc' : Nat} {ll ll' : List Sx.Ex} (t : TypeId)
    (B : Bx W h (.int .i64 kk) (.string ⟨nn.toArray⟩) (.int .i64 mm) (.slice sa sn sc)) (X : ExS (fun g => w.heap.size < g ∧ g ≠ h) W (.slice sa sn sc) ll) (R : Bx W w.heap.size (.int .i64 0) (.string ⟨#[]⟩) (.int .i64 0) (.slice none 0 0)) (M : Mov p w W)
    (X4 : ExS (fun g => W.heap.size ≤ g) w4 (.slice sa' sn' sc') ll') (rd4 : Rd w4 p b o cap ts k4) (hk4 : k4 < ts.length) (m4 : Mov p W w4) (hp : p < w.heap.size) (hb : b < w.heap.size) (hh : w.heap.size < h) :
    NRel w p b o cap ts h (.mk 6 sg 0 [.mk kk nn mm ll, .mk kk' nn' mm' ll']) k4 ((fill w4 h (.int .i64 6) (.string ⟨sg.toArray⟩) (.int .i64 0) (.slice (some ⟨w4.heap.size, 0, none⟩) 2 2)).alloc (.cells #[.int .i64 kk, .string ⟨nn.toArray⟩, .int .i64 mm, .slice sa sn sc, .int .i64 kk', .string ⟨nn'.toArray⟩, .int .i64 mm', .slice sa' sn' sc'] t)) := by
  have B4 := B.mov m4 (by omega)
  have z4 : h < w4.heap.size := B4.lt
  refine ⟨_, _, _, _, _, _, _, rfl, (B4.fill _ _ _ _).later (box_below _ _) (by rw [fill_size]; exact z4), ?_, ((R.mov m4 (by omega)).filled (by omega) _ _ _ _).later (box_below _ _) (by rw [fill_size]; omega), (rd4.fill (by omega) (by omega) _ _ _ _).later (box_below _ _), hk4, ((M.trans m4).fill (by omega) _ _ _ _).alloc _⟩
  exact (X.mov m4 (fun e => by omega)).two' (X4.mono fun g _ hg => ⟨Nat.lt_of_lt_of_le R.lt hg, fun e => by have := B.lt; omega⟩) ⟨by omega, by omega⟩ (fun e => e.2 rfl) _ _ _ _ _ _ _ _ _ _ _
set_option maxRecDepth 100000 in
set_option maxHeartbeats 1000000 in
theorem bound_high (p b o cap : Nat) (ts : List Tok) (f : Nat) (hu : UC p b o cap ts f) (q d k : Nat) (r : Sx.Rs) (w : World) (hq : 5 < q) (hd : d ≤ 61) (rd : Rd w p b o cap ts k) (hk : k < ts.length) (hr : Sx.un ts f d k = some r) :
    Calls Tryz.prog 57 #[.pointer (some ⟨p, 0, none⟩), .int .i64 (q : Int), .int .i64 (d : Int)] w (Post p b o cap ts w r) := by
  have hp : Hid (p < w.heap.size) := rd.lt
  have hb : Hid (b < w.heap.size) := rd.ta.lt
  have rp : Hid (w.heap.size ≠ p) := by have := hp.out; unfold Hid; omega
  have E1 : Hid (∀ W, Rd W p b o cap ts k → Calls Tryz.prog 79 #[.pointer (some ⟨p, 0, none⟩), .int .i64 (d : Int)] W (Post p b o cap ts W r)) := fun W hW => hu d k r W hd hW hk hr
  have RDW : Hid _ := rd
  clear rd hk hd hr hu
  go_enter Tryz.func57, Tryz.ntmps57
  go_wp2_with fail
  refine (E1.out _ (RDW.out.later (box_below w _))).mono ?_
  cases r with
  | bad a er =>
    rintro e w' ⟨rfl, m'⟩
    exact ⟨rfl, rfl, (Mov.of_below (box_below w _)).trans m'⟩
  | ok y k' =>
    obtain ⟨kk, nn, mm, ll⟩ := y
    rintro e w' ⟨⟨v, rfl, sl, rfl, hs⟩, rd', hk', m'⟩
    obtain ⟨sa, sn, sc, rfl⟩ := hs.form
    have PB : Hid _ := Post.of_fill (kk := kk) (n := nn) (m := mm) ((Mov.of_below (box_below w _)).trans m') rd' hk' hp.out hb.out (hs.mono fun g _ hg => Nat.lt_of_lt_of_le (by simp) hg)
    have R' := (Bx.new w 25 (.int .i64 0) (.string ⟨#[]⟩) (.int .i64 0) (.slice none 0 0)).mov m' rp.out
    obtain ⟨d0', d1', d2', d3', e0', e1', e2', e3', zr'⟩ := R'
    clear hs rd' hk' m'
    go_wp2_with fail
    refine bodyPost_ret (v := .agg #[.int .i64 kk, .string ⟨nn.toArray⟩, .int .i64 mm, .slice sa sn sc]) (by simp [results, Tryz.results57, go_sem, d0', d1', d2', d3']) rfl ?_
    exact PB.out
set_option maxRecDepth 100000 in
set_option maxHeartbeats 2000000 in
theorem bound_low (p b o cap : Nat) (ts : List Tok) (f : Nat) (gd : Good ts) (hB : ∀ f', f' ≤ f → BC p b o cap ts f') (q d k : Nat) (r : Sx.Rs) (w : World) (h1 : 1 ≤ q) (hq : q ≤ 5) (hd : d ≤ 61) (rd : Rd w p b o cap ts k) (hk : k < ts.length) (hr : Sx.bd ts (f + 1) q d k = some r) :
    Calls Tryz.prog 57 #[.pointer (some ⟨p, 0, none⟩), .int .i64 (q : Int), .int .i64 (d : Int)] w (Post p b o cap ts w r) := by
  have hp : Hid (p < w.heap.size) := rd.lt
  have hb : Hid (b < w.heap.size) := rd.ta.lt
  have rp : Hid (w.heap.size ≠ p) := by have := hp.out; unfold Hid; omega
  have HB : Hid (∀ f', f' ≤ f → BC p b o cap ts f') := hB
  have GD : Hid (Good ts) := gd
  have RDW : Hid _ := rd
  have H1 : Hid (1 ≤ q) := h1
  have HQ : Hid (q ≤ 5) := hq
  have HD : Hid (d ≤ 61) := hd
  have hq5 : ¬ ((5 : Int) < (q : Int)) := by omega
  have hwq : IntKind.i64.wrap ((q : Int) + 1) = (q : Int) + 1 := by rw [IntKind.wrap_i64]; omega
  rw [Sx.bd, if_neg (by omega)] at hr
  cases hb1 : Sx.bd ts f (q + 1) d k with
  | none => exact absurd hr (by rw [hb1]; intro e; cases e)
  | some r1 =>
    have E1 : Hid (∀ W, Rd W p b o cap ts k → Calls Tryz.prog 57 #[.pointer (some ⟨p, 0, none⟩), .int .i64 ((q : Int) + 1), .int .i64 (d : Int)] W (Post p b o cap ts W r1)) := fun W hW => hB f (Nat.le_refl _) (q + 1) d k r1 W (by omega) (by omega) hd hW hk hb1
    rw [hb1] at hr
    have HR : Hid _ := hr
    clear rd hk hd hr hB gd h1 hq hb1
    go_enter Tryz.func57, Tryz.ntmps57
    go_wp2_with fail
    refine (E1.out _ (RDW.out.later (box_below w _))).mono ?_
    cases r1 with
    | bad a er =>
      rintro e w' ⟨rfl, m'⟩
      rw [← Option.some.inj HR.out]
      exact ⟨rfl, rfl, (Mov.of_below (box_below w _)).trans m'⟩
    | ok y k' =>
      obtain ⟨kk, nn, mm, ll⟩ := y
      rintro e w' ⟨⟨v, rfl, sl, rfl, hs⟩, rd', hk', m'⟩
      obtain ⟨sa, sn, sc, rfl⟩ := hs.form
      have R' := (Bx.new w 25 (.int .i64 0) (.string ⟨#[]⟩) (.int .i64 0) (.slice none 0 0)).mov m' rp.out
      have zw : w.heap.size < w'.heap.size := R'.lt
      have LR : Hid (∀ t : TypeId, LRel w p b o cap ts q d w'.heap.size f r f (w'.alloc (.cells #[.int .i64 kk, .string ⟨nn.toArray⟩, .int .i64 mm, .slice sa sn sc] t))) := fun t =>
        ⟨.mk kk nn mm ll, k', ⟨kk, nn, mm, sa, sn, sc, ll, rfl, Bx.new _ _ _ _ _ _, (hs.mono (A' := fun g => w.heap.size < g ∧ g ≠ w'.heap.size) fun g hg1 hg => ⟨Nat.lt_of_lt_of_le (by simp) hg, Nat.ne_of_lt hg1⟩).later (box_below _ _) (Nat.le_refl _), R'.later (box_below _ _) zw, rd'.later (box_below _ _), hk', ((Mov.of_below (box_below w _)).trans m').alloc _⟩, HR.out, Nat.le_refl _⟩
      have hn : Hid (w'.heap.size ≠ p) := by have := hp.out; unfold Hid; omega
      have hnb : Hid (w'.heap.size ≠ b) := by have := hb.out; unfold Hid; omega
      have nw : ¬ w'.heap.size = w.heap.size := Nat.ne_of_gt zw
      have nw' : ¬ w.heap.size = w'.heap.size := Nat.ne_of_lt zw
      clear hs rd' hk' m' R' E1 HR
      go_wp2_with fail
      have ZW : Hid (w.heap.size < w'.heap.size) := zw
      go_loopg [] f (fun gk wr => LRel w p b o cap ts q d w'.heap.size f r gk wr)
      case atStart => exact LR.out _
      case round =>
        obtain ⟨y, k', ⟨kk, nn, mm, sa, sn, sc, ll, rfl, B, X, R, rd, hk', M⟩, hl, hf⟩ := hrel
        cases gk with
        | zero => exact absurd hl (by rw [Sx.lp]; intro e; cases e)
        | succ g' =>
          rw [Sx.lp] at hl
          obtain ⟨x, hx⟩ : ∃ x, ts.getD k' tok0 = x := ⟨_, rfl⟩
          have htx : Sx.tx ts k' = x.1.text := by unfold Sx.tx; rw [hx]
          rw [htx] at hl
          have H : Hid (Rn wr p b o cap ts k' x) := ⟨rd, hk', hx⟩
          have HX : Hid (ts.getD k' tok0 = x) := hx
          clear hx htx
          have BB : Hid _ := B
          have XB : Hid _ := X
          have RB : Hid _ := R
          have MB : Hid _ := M
          have HF : Hid (g' + 1 ≤ f) := hf
          clear B X R rd M hf LR
          by_cases hbq : Sx.bindsB x.1.text = q
          · rw [if_pos hbq] at hl
            have HK1 : Hid (k' + 1 < ts.length) := GD.out.next hk' (fun e => by rw [HX.out] at e; have := H1.out; rw [← hbq, e] at this; exact absurd this (by decide))
            have hwk : IntKind.i64.wrap ((k' : Int) + 1) = (k' : Int) + 1 := by have := GD.out.len; rw [IntKind.wrap_i64]; omega
            have e26 : (((Sx.bindsB x.1.text : Nat) : Int) == (q : Int)) = true := by rw [hbq]; exact beq_self_eq_true _
            cases hb2 : Sx.bd ts g' (q + 1) d (k' + 1) with
            | none => exact absurd hl (by rw [hb2]; intro e; cases e)
            | some r2 =>
              have E2 : Hid (∀ W, Rd W p b o cap ts (k' + 1) → Calls Tryz.prog 57 #[.pointer (some ⟨p, 0, none⟩), .int .i64 ((q : Int) + 1), .int .i64 (d : Int)] W (Post p b o cap ts W r2)) := fun W hW => HB.out g' (by have := HF.out; omega) (q + 1) d (k' + 1) r2 W (by omega) (by have := HQ.out; omega) HD.out hW HK1.out hb2
              rw [hb2] at hl
              have HR : Hid _ := hl
              clear hl hbq hk' hb2
              go_wp2_with fail
              refine (now_any _ p b o cap ts k' x H.out).mono ?_
              rintro e w1 ⟨rfl, b1⟩
              unfold tokA
              have kf := fldT
              have HB1 : Hid _ := b1
              have H1' : Hid _ := H.out.later b1
              clear b1
              go_wp2_with fail
              refine (binds_any _ _).mono ?_
              rintro e w2 ⟨rfl, hw2⟩
              rw [hw2]
              clear hw2 w2
              go_wp2_with fail
              refine (now_any _ p b o cap ts k' x H1'.out).mono ?_
              rintro e w2 ⟨rfl, b2⟩
              unfold tokA
              have B12 := HB1.out.trans (b2.mono HB1.out.size)
              have H2 := H.out.later B12
              have r1 := H2.rd.nx
              have f1' := H2.rd.fz
              have hpl := H2.rd.lt
              have ST := H2.rd.step
              have M0 : Hid _ := (MB.out.below B12).trans ST.2
              have RD0 : Hid _ := ST.1
              have hz0 : Hid _ := (Mov.of_below (p := p) B12).trans ST.2
              clear b2 B12 H2 ST
              go_wp2_with fail
              have BB0 := BB.out.mov hz0.out hn.out
              have XB0 := XB.out.mov hz0.out (fun e => by have := hp.out; omega)
              have RB0 := RB.out.mov hz0.out rp.out
              clear hz0 r1 f1' hpl kf
              generalize w2.setCell ⟨p, 1, none⟩ (.int .i64 ((k' : Int) + 1)) = W0 at *
              replace BB : Hid _ := BB0
              replace XB : Hid _ := XB0
              replace RB : Hid _ := RB0
              clear BB0 XB0 RB0 HB1 H1' H MB
              have BBc := BB.out
              have RBc := RB.out
              obtain ⟨g0, g1, g2, g3, i0, i1, i2, i3, zb⟩ := BBc
              obtain ⟨d0, d1, d2, d3, e0, e1, e2, e3, zr⟩ := RBc
              cases r2 with
              | bad a er =>
                have hr0 : r = .bad a er := (Option.some.inj HR.out).symm
                subst hr0
                go_cut [] from 19 to 51 (fun _ => False)
                case rest => exact hcut.elim
                case first =>
                  go_region_with (first
                    | (go_at_call 57; refine shutWay (E2.out _ ?_) ?_ (.agg #[.int .i64 0, .string ⟨#[]⟩, .int .i64 0, .slice none 0 0]) ?_; exact RD0.out.later (by go_grown); (rintro e w4 ⟨rfl, m4⟩; exact ⟨rfl, rfl, (M0.out.trans (Mov.of_below (by go_grown))).trans m4⟩); intro hF; have hz1 : ∀ (W : World) (q : Addr), W.frozen? q = false := fun _ _ => hF.out _; have hz2 : ∀ (W : World) (q : Addr), W.cell? q = some (.int .i64 0) := fun _ _ => hF.out _))
                  all_goals exact hF.out _
              | ok y k4 =>
                obtain ⟨kk', nn', mm', ll'⟩ := y
                go_cut [] from 19 to 51 (fun wc => NRel w p b o cap ts w'.heap.size (.mk 6 x.1.text 0 [.mk kk nn mm ll, .mk kk' nn' mm' ll']) k4 wc)
                case first =>
                  go_region_with (first
                    | (go_at_call 57; refine (E2.out _ ?_).mono ?_; exact RD0.out.later (by go_grown); rintro e w4 ⟨⟨v, rfl, sl, rfl, hs⟩, rd4, hk4, m4⟩; obtain ⟨sa', sn', sc', rfl⟩ := hs.form; have MW : Mov p W0 w4 := (Mov.of_below (by go_grown)).trans m4; have PB : Hid _ := fun t : TypeId => NRel.two (sg := x.1.text) (kk' := kk') (nn' := nn') (mm' := mm') t BB.out XB.out RB.out M0.out hs rd4 hk4 MW hp.out hb.out ZW.out; have B4 := BB.out.mov MW hn.out; have R4 := RB.out.mov MW rp.out; obtain ⟨c0', c1', c2', c3', f0', f1', f2', f3', zt'⟩ := B4; obtain ⟨d0', d1', d2', d3', e0', e1', e2', e3', zr'⟩ := R4; have nw4 : ¬ w4.heap.size = w'.heap.size := Nat.ne_of_gt zt'; have nw4' : ¬ w'.heap.size = w4.heap.size := Nat.ne_of_lt zt'; clear hs rd4 hk4 m4 MW))
                  all_goals (go_wp2_with fail; go_meet; case rel => exact PB.out _)
                case rest =>
                  clear g0 g1 g2 g3 i0 i1 i2 i3 zb d0 d1 d2 d3 e0 e1 e2 e3 zr BB XB RB M0 RD0 E2
                  have HC : Hid _ := hcut
                  clear hcut
                  by_cases q3 : q = 3
                  · have HR2 : some (Sx.Rs.ok (.mk 6 x.1.text 0 [.mk kk nn mm ll, .mk kk' nn' mm' ll']) k4) = some r := by have e : (if q = 3 then some (Sx.Rs.ok (.mk 6 x.1.text 0 [.mk kk nn mm ll, .mk kk' nn' mm' ll']) k4) else Sx.lp ts g' q d (.mk 6 x.1.text 0 [.mk kk nn mm ll, .mk kk' nn' mm' ll']) k4) = some r := HR.out; rw [if_pos q3] at e; exact e
                    have hr0 := Option.some.inj HR2
                    obtain ⟨jk, jn, jm, ja, jl, jc, jll, hj, B, X, R, rd, hk4, M⟩ := HC.out
                    have PB : Hid _ := Post.of_fill (kk := jk) (n := jn) (m := jm) M rd hk4 hp.out hb.out (X.mono fun g _ hg => hg.1)
                    have HJ : Hid (Sx.Rs.ok (.mk jk jn jm jll) k4 = r) := by unfold Hid; rw [← hj]; exact hr0
                    obtain ⟨g0, g1, g2, g3, i0, i1, i2, i3, zb⟩ := B
                    obtain ⟨d0', d1', d2', d3', e0', e1', e2', e3', zr'⟩ := R
                    have e51 : ((q : Int) == 3) = true := by rw [q3]; rfl
                    clear hr0 hj X rd hk4 M HR2 q3 HR
                    go_wp2_with fail
                    refine bodyPost_ret (v := .agg #[.int .i64 jk, .string ⟨jn.toArray⟩, .int .i64 jm, .slice ja jl jc]) (by simp [results, Tryz.results57, go_sem, d0', d1', d2', d3']) rfl ?_
                    rw [← HJ.out]
                    exact PB.out
                  · have HR2 : Hid (Sx.lp ts g' q d (.mk 6 x.1.text 0 [.mk kk nn mm ll, .mk kk' nn' mm' ll']) k4 = some r) := by have e : (if q = 3 then some (Sx.Rs.ok (.mk 6 x.1.text 0 [.mk kk nn mm ll, .mk kk' nn' mm' ll']) k4) else Sx.lp ts g' q d (.mk 6 x.1.text 0 [.mk kk nn mm ll, .mk kk' nn' mm' ll']) k4) = some r := HR.out; rw [if_neg q3] at e; exact e
                    have e51 : ((q : Int) == 3) = false := by rw [beq_eq_false_iff_ne]; intro e; exact q3 (by omega)
                    clear q3 HR
                    go_wp2_with fail
                    go_roundg g'
                    case measure => exact Nat.lt_succ_self _
                    case rel => exact ⟨_, _, HC.out, HR2.out, Nat.le_of_succ_le HF.out⟩
          · rw [if_neg hbq] at hl
            have HR : Hid _ := hl
            have PB0 : Hid (∀ W, Below wr.heap.size wr W → Post p b o cap ts w (.ok (.mk kk nn mm ll) k') (.returned (.agg #[.int .i64 kk, .string ⟨nn.toArray⟩, .int .i64 mm, .slice sa sn sc])) (fill W w.heap.size (.int .i64 kk) (.string ⟨nn.toArray⟩) (.int .i64 mm) (.slice sa sn sc))) := fun W hW => Post.of_fill (MB.out.below hW) (H.out.rd.later hW) hk' hp.out hb.out ((XB.out.later hW (Nat.le_refl _)).mono fun g _ hg => hg.1)
            have e26 : (((Sx.bindsB x.1.text : Nat) : Int) == (q : Int)) = false := by rw [beq_eq_false_iff_ne]; intro e; exact hbq (by omega)
            clear hl hbq hk'
            go_wp2_with fail
            refine (now_any _ p b o cap ts k' x H.out).mono ?_
            rintro e w1 ⟨rfl, b1⟩
            unfold tokA
            have kf := fldT
            go_wp2_with fail
            refine (binds_any _ _).mono ?_
            rintro e w2 ⟨rfl, hw2⟩
            rw [hw2]
            clear hw2 w2
            have PB : Hid _ := PB0.out w1 b1
            have B1 := BB.out.later b1 BB.out.lt
            have R1 := RB.out.later b1 RB.out.lt
            obtain ⟨g0, g1, g2, g3, i0, i1, i2, i3, zb⟩ := B1
            obtain ⟨d0', d1', d2', d3', e0', e1', e2', e3', zr'⟩ := R1
            clear b1
            go_wp2_with fail
            refine bodyPost_ret (v := .agg #[.int .i64 kk, .string ⟨nn.toArray⟩, .int .i64 mm, .slice sa sn sc]) (by simp [results, Tryz.results57, go_sem, d0', d1', d2', d3']) rfl ?_
            rw [← Option.some.inj HR.out]
            exact PB.out

/-- Reading expressions, for every fuel of the plain function. -/
theorem read_any (p b o cap : Nat) (ts : List Tok) (gd : Good ts) : ∀ f, UC p b o cap ts f ∧ BC p b o cap ts f := by
  intro f
  induction f using Nat.strongRecOn with
  | _ f ih =>
    cases f with
    | zero => exact ⟨fun _ _ _ _ _ _ _ hr => (by rw [Sx.un] at hr; cases hr), fun _ _ _ _ _ _ _ _ _ _ hr => (by rw [Sx.bd] at hr; cases hr)⟩
    | succ f =>
      have ihU := (ih f (Nat.lt_succ_self _)).1
      have ihE := expr_any p b o cap ts f (ih f (Nat.lt_succ_self _)).2
      have ihV := variable_any p b o cap ts f gd ihE
      refine ⟨fun d k r w hd rd hk hr => ?_, fun q d k r w h1 h6 hd rd hk hr => ?_⟩
      · have H : Rn w p b o cap ts k (ts.getD k tok0) := ⟨rd, hk, rfl⟩
        cases hx : Sx.begE (ts.getD k tok0) with
        | false =>
          rw [Sx.un, if_pos hx] at hr
          rw [← Option.some.inj hr]
          exact unary_form w p b o cap ts k _ d H hx
        | true =>
          by_cases h60 : 60 < d
          · rw [Sx.un, if_neg (by rw [hx]; decide), if_pos h60] at hr
            rw [← Option.some.inj hr]
            exact unary_deep w p b o cap ts k _ d H hx h60
          · exact unary_ok w p b o cap ts k _ d f r H gd hx (by omega) ihU ihE ihV hr
      · by_cases h5 : 5 < q
        · rw [Sx.bd, if_pos h5] at hr
          exact bound_high p b o cap ts f ihU q d k r w h5 hd rd hk hr
        · exact bound_low p b o cap ts f gd (fun f' hf' => (ih f' (by omega)).2) q d k r w h1 (by omega) hd rd hk hr
end Go.Proofs.YtlhklpnkelcnbaaGreatDoor
