/- Layer 3: the document's tight. -/
import Derived.Test.YtobiedmmjiedlaaZSypK
import Derived.Test.YtobiedmmjiedlaaZSypJ
import Derived.Deep.LoopGhost
namespace Go.Proofs.Ytobiedmmjiedlaa
open Go.RowKit

/-- x, read so far, lies in block h; the token behind it is number k'. -/
def TNorm (w : World) (p b o cap : Nat) (ts : List Tok) (h : Nat) (x : Sx.Ex) (k' : Nat) (wr : World) : Prop :=
  ∃ kk nn mm sa sn sc ll, x = .mk kk nn mm ll ∧ Bx wr h (.int .i64 kk) (.string ⟨(nn : List UInt8).toArray⟩) (.int .i64 mm) (.slice sa sn sc) ∧ ExS (fun g => w.heap.size < g ∧ g ≠ h) wr (.slice sa sn sc) ll ∧
    Bx wr w.heap.size (.int .i64 0) (.string ⟨#[]⟩) (.int .i64 0) (.slice none 0 0) ∧ Ri wr p b o cap ts k' 0 0 ∧ Kp p w wr
/-- An error was noted; something lies in block h. -/
def TErr (w : World) (p b o cap : Nat) (ts : List Tok) (h : Nat) (er a : Int) (wr : World) : Prop :=
  ∃ kk nn mm sa sn sc k', Bx wr h (.int .i64 kk) (.string ⟨(nn : List UInt8).toArray⟩) (.int .i64 mm) (.slice sa sn sc) ∧ Bx wr w.heap.size (.int .i64 0) (.string ⟨#[]⟩) (.int .i64 0) (.slice none 0 0) ∧ Ri wr p b o cap ts k' er a ∧ Kp p w wr
def TRel (w : World) (p b o cap : Nat) (ts : List Tok) (n d h F : Nat) (r : Sx.Rs) (gk : Nat) (s : Value) (wr : World) : Prop :=
  ∃ m : Nat, m ≤ 5 ∧ s = .int .i64 (m : Int) ∧ ((∃ x k', gk = ts.length - k' + 1 ∧ TNorm w p b o cap ts h x k' wr ∧ Sx.Ch ts F d n m x k' r) ∨ (∃ a er, gk = 0 ∧ ¬ er = 0 ∧ TErr w p b o cap ts h er a wr ∧ r = .bad a er))
theorem TNorm.later {w wr V : World} {p b o cap : Nat} {ts : List Tok} {h : Nat} {x : Sx.Ex} {k' : Nat} (N : TNorm w p b o cap ts h x k' wr) (hV : Below wr.heap.size wr V) : TNorm w p b o cap ts h x k' V := by
  obtain ⟨kk, nn, mm, sa, sn, sc, ll, e, B, X, R, RI, M⟩ := N
  exact ⟨kk, nn, mm, sa, sn, sc, ll, e, B.later hV B.lt, X.later hV (Nat.le_refl _), R.later hV R.lt, RI.later hV, M.trans (.of_below hV (Nat.le_refl _))⟩
/-- Two are put together in block h. -/
theorem TNorm.two {w W w4 : World} {p b o cap : Nat} {ts : List Tok} {h : Nat} {k4 : Nat} {kk mm kk' mm' : Int} {nn nn' sg : List UInt8} {sa sa' : Option Addr} {sn sc sn' sc' : Nat} {ll ll' : List Sx.Ex} (t : TypeId)
    (B : Bx W h (.int .i64 kk) (.string ⟨nn.toArray⟩) (.int .i64 mm) (.slice sa sn sc)) (X : ExS (fun g => w.heap.size < g ∧ g ≠ h) W (.slice sa sn sc) ll) (R : Bx W w.heap.size (.int .i64 0) (.string ⟨#[]⟩) (.int .i64 0) (.slice none 0 0)) (M : Kp p w W)
    (X4 : ExS (fun g => W.heap.size ≤ g) w4 (.slice sa' sn' sc') ll') (rd4 : Ri w4 p b o cap ts k4 0 0) (m4 : Kp p W w4) (hp : p < w.heap.size) (hb : b < w.heap.size) (hh : w.heap.size < h) :
    TNorm w p b o cap ts h (.mk 6 sg 0 [.mk kk nn mm ll, .mk kk' nn' mm' ll']) k4 ((fill w4 h (.int .i64 6) (.string ⟨sg.toArray⟩) (.int .i64 0) (.slice (some ⟨w4.heap.size, 0, none⟩) 2 2)).alloc (.cells #[.int .i64 kk, .string ⟨nn.toArray⟩, .int .i64 mm, .slice sa sn sc, .int .i64 kk', .string ⟨nn'.toArray⟩, .int .i64 mm', .slice sa' sn' sc'] t)) := by
  have B4 := B.kp m4 (by omega)
  have z4 : h < w4.heap.size := B4.lt
  refine ⟨_, _, _, _, _, _, _, rfl, (B4.fill _ _ _ _).later (box_below _ _) (by rw [fill_size]; exact z4), ?_, ((R.kp m4 (by omega)).filled (by omega) _ _ _ _).later (box_below _ _) (by rw [fill_size]; omega), (rd4.fill (by omega) (by omega) _ _ _ _).later (box_below _ _), (Kp.fill (M.trans m4) (by omega) _ _ _ _).alloc _⟩
  exact (X.kp m4 (fun e => by omega)).two' (X4.mono fun g _ hg => ⟨Nat.lt_of_lt_of_le R.lt hg, fun e => by have := B.lt; omega⟩) ⟨by omega, by omega⟩ (fun e => e.2 rfl) _ _ _ _ _ _ _ _ _ _ _
theorem TErr.two {w W w4 : World} {p b o cap : Nat} {ts : List Tok} {h : Nat} {k4 : Nat} {er a : Int} {sg : List UInt8} {b0 b1 b2 b3 : Value} {blk : Obj} {ao : Option Addr} {l c : Nat}
    (B : Bx W h b0 b1 b2 b3) (R : Bx W w.heap.size (.int .i64 0) (.string ⟨#[]⟩) (.int .i64 0) (.slice none 0 0)) (M : Kp p w W)
    (rd4 : Ri w4 p b o cap ts k4 er a) (m4 : Kp p W w4) (hp : p < w.heap.size) (hb : b < w.heap.size) (hh : w.heap.size < h) :
    TErr w p b o cap ts h er a ((fill w4 h (.int .i64 6) (.string ⟨sg.toArray⟩) (.int .i64 0) (.slice ao l c)).alloc blk) := by
  have B4 := B.kp m4 (by omega)
  have z4 : h < w4.heap.size := B4.lt
  exact ⟨_, _, _, _, _, _, _, (B4.fill _ _ _ _).later (box_below _ _) (by rw [fill_size]; exact z4), ((R.kp m4 (by omega)).filled (by omega) _ _ _ _).later (box_below _ _) (by rw [fill_size]; omega), (rd4.fill (by omega) (by omega) _ _ _ _).later (box_below _ _), (Kp.fill (M.trans m4) (by omega) _ _ _ _).alloc _⟩
/-- What is needed at the loop's first test, at any world with more draws. -/
theorem TNorm.quiet {w wr : World} {p b o cap : Nat} {ts : List Tok} {h : Nat} {x : Sx.Ex} {k' : Nat} (N : TNorm w p b o cap ts h x k' wr) (n : Nat) : TNorm w p b o cap ts h x k' (wr.drewN n) := N.later (below_drewN (Below.refl _ _) n)
theorem TErr.quiet {w wr : World} {p b o cap : Nat} {ts : List Tok} {h : Nat} {er a : Int} (N : TErr w p b o cap ts h er a wr) (n : Nat) : TErr w p b o cap ts h er a (wr.drewN n) := by
  obtain ⟨kk, nn, mm, sa, sn, sc, k', B, R, RI, M⟩ := N
  have hV := below_drewN (Below.refl wr.heap.size wr) n
  exact ⟨kk, nn, mm, sa, sn, sc, k', B.later hV B.lt, R.later hV R.lt, RI.later hV, M.trans (.of_below hV (Nat.le_refl _))⟩
set_option maxRecDepth 100000 in
set_option maxHeartbeats 4000000 in
theorem rtight_all (p b o cap : Nat) (ts : List Tok) (gd : Good ts) (rt : RT ts) (f : Nat) (hU : ∀ g, g ≤ f → UCr p b o cap ts g) (hT : ∀ g, g ≤ f → TCr p b o cap ts g) : TCr p b o cap ts (f + 1) := by
  intro n d k r w h1 h6 hd h hr
  obtain ⟨g, r0, hg, hu, hor⟩ := Sx.bd_chain (6 - n) (f + 1) n r h1 (by omega) hr
  have E1 : Hid (∀ W, Below w.heap.size w W → Calls Try.prog 99 #[.pointer (some ⟨p, 0, none⟩), .int .i64 (d : Int)] W (PostR p b o cap ts W r0)) := fun W hW => hU g (by omega) d k r0 W hd (h.later hW) hu
  have HER : Hid (∀ a er, r0 = .bad a er → ¬ er = 0) := fun a er e => by
    rw [e] at hu
    have := (Sx.errs ts g).1 _ _ _ _ hu
    omega
  have hp : Hid (p < w.heap.size) := h.lt
  have hb : Hid (b < w.heap.size) := h.ta.lt
  have rp : Hid (w.heap.size ≠ p) := Nat.ne_of_gt h.lt
  have GD : Hid (Good ts) := gd
  have RTT : Hid (RT ts) := rt
  have HT : Hid (∀ g, g ≤ f → TCr p b o cap ts g) := hT
  have HD : Hid (d ≤ 60) := hd
  have H1 : Hid (1 ≤ n ∧ n ≤ 6) := ⟨h1, h6⟩
  have HO : Hid _ := hor
  have HL : Hid (ts.length ≤ 1000000) := h.hl
  clear h1 h6 hd h hr hu hU hT gd rt hor hg
  go_enter Try.func98, Try.ntmps98
  go_wp2_with fail
  refine Calls.mono (E1.out _ (box_below w _)) ?_
  intro e w' hpost
  have LR : ∃ kk nn mm sa sn sc, e = .returned (.agg #[.int .i64 kk, .string ⟨(nn : List UInt8).toArray⟩, .int .i64 mm, .slice sa sn sc]) ∧ w.heap.size < w'.heap.size ∧ Hid (∀ t : TypeId, ∃ gk, TRel w p b o cap ts n d w'.heap.size (f + 1) r gk (.int .i64 5) (w'.alloc (.cells #[.int .i64 kk, .string ⟨nn.toArray⟩, .int .i64 mm, .slice sa sn sc] t))) := by
    cases r0 with
    | bad a er =>
      obtain ⟨kk, nn, mm, sa, sn, sc, k', rfl, RI, kp⟩ := hpost
      have R' := (Bx.new w 54 (.int .i64 0) (.string ⟨#[]⟩) (.int .i64 0) (.slice none 0 0)).kp kp rp.out
      refine ⟨kk, nn, mm, sa, sn, sc, rfl, R'.lt, fun t => ⟨0, 5, by omega, rfl, .inr ⟨a, er, rfl, HER.out a er rfl, ?_, ?_⟩⟩⟩
      · exact ⟨kk, nn, mm, sa, sn, sc, k', Bx.new _ _ _ _ _ _, R'.later (box_below _ _) R'.lt, RI.later (box_below _ _), (((Keep.refl (fun g => g = p) w).alloc _).trans kp).alloc _⟩
      · rcases HO.out with ⟨x, k', e1, _⟩ | ⟨a', e', e1, h5⟩
        · cases e1
        · cases e1; exact h5
    | ok y k' =>
      obtain ⟨kk, nn, mm, sa, sn, sc, ll, rfl, rfl, X, RI, kp⟩ := hpost
      have R' := (Bx.new w 54 (.int .i64 0) (.string ⟨#[]⟩) (.int .i64 0) (.slice none 0 0)).kp kp rp.out
      refine ⟨kk, nn, mm, sa, sn, sc, rfl, R'.lt, fun t => ⟨_, 5, by omega, rfl, .inl ⟨.mk kk nn mm ll, k', rfl, ?_, ?_⟩⟩⟩
      · exact ⟨kk, nn, mm, sa, sn, sc, ll, rfl, Bx.new _ _ _ _ _ _, (X.mono (A' := fun g => w.heap.size < g ∧ g ≠ w'.heap.size) fun g hg1 hg => ⟨Nat.lt_of_lt_of_le (by simp) hg, Nat.ne_of_lt hg1⟩).later (box_below _ _) (Nat.le_refl _), R'.later (box_below _ _) R'.lt, RI.later (box_below _ _), (((Keep.refl (fun g => g = p) w).alloc _).trans kp).alloc _⟩
      · rcases HO.out with ⟨x, k1, e1, h5⟩ | ⟨a', e', e1, h5⟩
        · cases e1; exact h5
        · cases e1
  obtain ⟨kk, nn, mm, sa, sn, sc, rfl, zw, LR⟩ := LR
  have nw : ¬ w'.heap.size = w.heap.size := Nat.ne_of_gt zw
  have nw' : ¬ w.heap.size = w'.heap.size := Nat.ne_of_lt zw
  have ZW : Hid (w.heap.size < w'.heap.size) := zw
  have hn : Hid (w'.heap.size ≠ p) := by have := hp.out; unfold Hid; omega
  obtain ⟨g0, LR0⟩ := LR.out 54
  have LR1 : Hid _ := LR0
  clear hpost HO HER E1 LR LR0
  go_wp2_with fail
  go_loopg [8] g0 (fun gk s wr => TRel w p b o cap ts n d w'.heap.size (f + 1) r gk s wr)
  case atStart => exact LR1.out
  case round =>
    clear LR1
    obtain ⟨m, hm, rfl, hor⟩ := hrel
    rcases hor with ⟨x, k', hgk, N, hch⟩ | ⟨a, er, hgk, her, N, hr⟩
    · obtain ⟨kk, nn, mm, sa, sn, sc, ll, hx, B, X, R, RI, M⟩ := N
      subst hx
      have NN : Hid (∀ q, TNorm w p b o cap ts w'.heap.size (.mk kk nn mm ll) k' (wr.drewN q)) := fun q => TNorm.quiet ⟨kk, nn, mm, sa, sn, sc, ll, rfl, B, X, R, RI, M⟩ q
      obtain ⟨tk, htk⟩ : ∃ tk, ts.getD k' tok0 = tk := ⟨_, rfl⟩
      have TK : Hid (ts.getD k' tok0 = tk) := htk
      have r0 := RI.row
      have r1 := RI.nx
      have r2 := RI.ce
      have hpl := RI.lt
      have hbl := RI.ta.lt
      have c0 := RI.ta.c0 k' RI.hk
      rw [htk] at c0
      have hki : (k' : Int) < (ts.length : Int) := by have := RI.hk; omega
      have hk0 : (0 : Int) ≤ (k' : Int) := by omega
      have HK' : Hid (k' < ts.length) := RI.hk
      have GK : Hid (gk = ts.length - k' + 1) := hgk
      have CH : Hid _ := hch
      have HM : Hid (m ≤ 5) := hm
      clear B X R RI M hgk hch htk hm
      by_cases h4 : tk.1.kind = 4
      · have b4 : (tk.1.kind == 4) = true := by rw [h4]; rfl
        have HK1 : Hid (k' + 1 < ts.length) := GD.out.next HK'.out (by rw [TK.out]; intro e; rw [e] at h4; exact absurd h4 (by decide))
        clear h4
        go_wp2_with fail
        go_quiet (fail)
        have N1 := NN.out nq
        clear NN r0 r1 r2 c0 hpl hbl
        generalize wr.drewN nq = W at *
        obtain ⟨kk', nn', mm', sa, sn, sc, ll', hx, B, X, R, RI, M⟩ := N1
        injection hx with q1 q2 q3 q4
        subst q1 q2 q3 q4
        have NN : Hid (∀ q, TNorm w p b o cap ts w'.heap.size (.mk kk nn mm ll) k' (W.drewN q)) := fun q => TNorm.quiet ⟨kk, nn, mm, sa, sn, sc, ll, rfl, B, X, R, RI, M⟩ q
        have r0 := RI.row
        have r1 := RI.nx
        have hpl := RI.lt
        have hbl := RI.ta.lt
        have c1 := RI.ta.c1 k' RI.hk
        rw [TK.out] at c1
        clear B X R RI M
        go_wp2_with fail
        go_quiet (fail)
        have N2 := NN.out nq
        clear NN r0 r1 c1 hpl hbl
        generalize W.drewN nq = V at *
        have N2' : Hid (TNorm w p b o cap ts w'.heap.size (.mk kk nn mm ll) k' V) := N2
        clear N2
        go_wp2_with fail
        refine Calls.mono (rtight_any tk.1.text V) ?_
        rintro e w3 ⟨rfl, b3⟩
        have N3 : Hid (TNorm w p b o cap ts w'.heap.size (.mk kk nn mm ll) k' w3) := TNorm.later N2'.out b3
        clear b3 N2'
        obtain ⟨T, hT⟩ : ∃ T, Sx.bindsB tk.1.text = T := ⟨_, rfl⟩
        rw [hT]
        have HBT : Hid (Sx.bindsB (Sx.tx ts k') = T) := by unfold Hid Sx.tx; rw [TK.out]; exact hT
        clear hT
        by_cases t0 : T = 0
        · have eT : ((T : Int) == 0) = true := by rw [t0]; rfl
          have hr0 : Hid (r = .ok (.mk kk nn mm ll) k') := CH.out.stop (.inl (by rw [HBT.out]; have := H1.out.1; omega))
          clear t0
          obtain ⟨kk', nn', mm', sa, sn, sc, ll', hx, B, X, R, RI, M⟩ := N3.out
          injection hx with q1 q2 q3 q4
          subst q1 q2 q3 q4
          have PB : Hid _ := PostR.of_fill (kk := kk) (n := nn) (m := mm) M RI hp.out hb.out (X.mono fun g _ hg => hg.1)
          obtain ⟨g0, g1, g2, g3, i0, i1, i2, i3, zb⟩ := B
          obtain ⟨d0, d1, d2, d3, e0, e1, e2, e3, zr⟩ := R
          clear X RI M
          go_wp2_with fail
          refine bodyPost_ret (v := .agg #[.int .i64 kk, .string ⟨nn.toArray⟩, .int .i64 mm, .slice sa sn sc]) (by simp [results, Try.results98, go_sem, d0, d1, d2, d3]) rfl ?_
          rw [hr0.out]
          exact PB.out
        · have eT : ((T : Int) == 0) = false := by rw [beq_eq_false_iff_ne]; omega
          by_cases tn : T < n
          · have eN : (T : Int) < (n : Int) := by omega
            have hr0 : Hid (r = .ok (.mk kk nn mm ll) k') := CH.out.stop (.inl (by rw [HBT.out]; exact tn))
            clear t0 tn
            obtain ⟨kk', nn', mm', sa, sn, sc, ll', hx, B, X, R, RI, M⟩ := N3.out
            injection hx with q1 q2 q3 q4
            subst q1 q2 q3 q4
            have PB : Hid _ := PostR.of_fill (kk := kk) (n := nn) (m := mm) M RI hp.out hb.out (X.mono fun g _ hg => hg.1)
            obtain ⟨g0, g1, g2, g3, i0, i1, i2, i3, zb⟩ := B
            obtain ⟨d0, d1, d2, d3, e0, e1, e2, e3, zr⟩ := R
            clear X RI M
            go_wp2_with fail
            refine bodyPost_ret (v := .agg #[.int .i64 kk, .string ⟨nn.toArray⟩, .int .i64 mm, .slice sa sn sc]) (by simp [results, Try.results98, go_sem, d0, d1, d2, d3]) rfl ?_
            rw [hr0.out]
            exact PB.out
          · have eN : ¬ ((T : Int) < (n : Int)) := by omega
            by_cases tm : m < T
            · have eM : (m : Int) < (T : Int) := by omega
              have hr0 : Hid (r = .ok (.mk kk nn mm ll) k') := CH.out.stop (.inr (by rw [HBT.out]; exact tm))
              clear t0 tn tm
              obtain ⟨kk', nn', mm', sa, sn, sc, ll', hx, B, X, R, RI, M⟩ := N3.out
              injection hx with q1 q2 q3 q4
              subst q1 q2 q3 q4
              have PB : Hid _ := PostR.of_fill (kk := kk) (n := nn) (m := mm) M RI hp.out hb.out (X.mono fun g _ hg => hg.1)
              obtain ⟨g0, g1, g2, g3, i0, i1, i2, i3, zb⟩ := B
              obtain ⟨d0, d1, d2, d3, e0, e1, e2, e3, zr⟩ := R
              clear X RI M
              go_wp2_with fail
              refine bodyPost_ret (v := .agg #[.int .i64 kk, .string ⟨nn.toArray⟩, .int .i64 mm, .slice sa sn sc]) (by simp [results, Try.results98, go_sem, d0, d1, d2, d3]) rfl ?_
              rw [hr0.out]
              exact PB.out
            · have hnm : n ≤ T ∧ T ≤ m := by omega
              have eM : ¬ ((m : Int) < (T : Int)) := by omega
              obtain ⟨g, r1, hg, hb2, hor⟩ := CH.out.go (by rw [HBT.out]; exact hnm.1) (by rw [HBT.out]; exact hnm.2) H1.out.1
              rw [HBT.out] at hb2 hor
              have hm5 := HM.out
              have E3 : Hid (∀ W, Ri W p b o cap ts (k' + 1) 0 0 → Calls Try.prog 98 #[.pointer (some ⟨p, 0, none⟩), .int .i64 ((T : Int) + 1), .int .i64 (d : Int)] W (PostR p b o cap ts W r1)) := fun W hW => HT.out g (by omega) (T + 1) d (k' + 1) r1 W (by omega) (by omega) HD.out hW hb2
              have HER : Hid (∀ a er, r1 = .bad a er → ¬ er = 0) := fun a er e => by
                rw [e] at hb2
                have := (Sx.errs ts g).2.1 _ _ _ _ _ hb2
                omega
              have HIN : Hid (∀ y k4, r1 = .ok y k4 → k' + 1 < k4) := fun y k4 e => by
                rw [e] at hb2
                exact ((Sx.ok_in GD.out.ends g).2.1 _ _ _ _ _ hb2).1
              have HOR : Hid _ := hor
              have hwT : IntKind.i64.wrap ((T : Int) + 1) = (T : Int) + 1 := by rw [IntKind.wrap_i64]; omega
              have hwk : IntKind.i64.wrap ((k' : Int) + 1) = (k' : Int) + 1 := by have := HL.out; have := HK'.out; rw [IntKind.wrap_i64]; omega
              have HT5 : Hid (T ≤ 5) := by unfold Hid; omega
              clear hor hb2 hg hm5 hnm tm tn t0
              obtain ⟨kk', nn', mm', sa, sn, sc, ll', hx, B, X, R, RI, M⟩ := N3.out
              injection hx with q1 q2 q3 q4
              subst q1 q2 q3 q4
              have r1' := RI.nx
              have f1' := RI.f1
              have hpl := RI.lt
              have ST : Hid _ := RI.step HK1.out
              have BS : Hid _ := B.kp ST.out.2 hn.out
              have XS : Hid _ := X.kp ST.out.2 (fun e => by have := hp.out; omega)
              have RS : Hid _ := R.kp ST.out.2 rp.out
              have MS : Hid _ := M.trans ST.out.2
              have RIS : Hid _ := ST.out.1
              clear B X R RI M N3 ST
              go_wp2_with fail
              refine Calls.mono (E3.out _ RIS.out) ?_
              generalize w3.setCell ⟨p, 1, none⟩ (.int .i64 ((k' : Int) + 1)) = W0 at *
              clear r1' f1' hpl
              intro e w4 hpost
              cases r1 with
              | bad a er =>
                obtain ⟨jk, jn, jm, ja, jl, jc, k4, rfl, RI4, kp4⟩ := hpost
                have her : Hid (¬ er = 0) := HER.out a er rfl
                have hr0 : Hid (r = .bad a er) := by
                  rcases HOR.out with ⟨y, k1, e1, _⟩ | ⟨a', e', e1, h5⟩
                  · cases e1
                  · cases e1; exact h5
                go_upto_region 10 with fail
                have B11 := Bx.new w4 54 (.int .i64 jk) (.string ⟨jn.toArray⟩) (.int .i64 jm) (.slice ja jl jc)
                have RI5 : Hid _ := RI4.later (box_below w4 (.cells #[.int .i64 jk, .string ⟨jn.toArray⟩, .int .i64 jm, .slice ja jl jc] 54))
                have m5 : Kp p W0 (w4.alloc (.cells #[.int .i64 jk, .string ⟨jn.toArray⟩, .int .i64 jm, .slice ja jl jc] 54)) := kp4.alloc _
                have B5 := BS.out.kp m5 hn.out
                have R5 := RS.out.kp m5 rp.out
                have nz : ¬ w4.heap.size = w'.heap.size := Nat.ne_of_gt (BS.out.kp kp4 hn.out).lt
                have nz' : ¬ w'.heap.size = w4.heap.size := Nat.ne_of_lt (BS.out.kp kp4 hn.out).lt
                have M5 : Hid _ := m5
                clear kp4 RI4 m5
                generalize hg4 : w4.heap.size = g4 at *
                generalize w4.alloc (.cells #[.int .i64 jk, .string ⟨jn.toArray⟩, .int .i64 jm, .slice ja jl jc] 54) = W5 at *
                clear hg4
                obtain ⟨g0, g1, g2, g3, i0, i1, i2, i3, zb⟩ := B5
                obtain ⟨j0, j1, j2, j3, l0, l1, l2, l3, zj⟩ := B11
                have PB : Hid (∀ (blk : Obj) (ao : Option Addr) (l c : Nat), TErr w p b o cap ts w'.heap.size er a ((fill W5 w'.heap.size (.int .i64 6) (.string ⟨tk.1.text.toArray⟩) (.int .i64 0) (.slice ao l c)).alloc blk)) := fun blk ao l c => TErr.two BS.out RS.out MS.out RI5.out M5.out hp.out hb.out ZW.out
                clear R5
                by_cases t3 : T = 3
                · have e3 : ((T : Int) == 3) = true := by rw [t3]; rfl
                  go_wp2_with fail
                  go_roundg 0
                  case measure => rw [GK.out]; omega
                  case rel => exact ⟨2, by omega, rfl, .inr ⟨a, er, rfl, her.out, PB.out _ _ _ _, hr0.out⟩⟩
                · have e3 : ((T : Int) == 3) = false := by rw [beq_eq_false_iff_ne]; intro e; exact t3 (by omega)
                  go_wp2_with fail
                  go_roundg 0
                  case measure => rw [GK.out]; omega
                  case rel => exact ⟨T, HT5.out, rfl, .inr ⟨a, er, rfl, her.out, PB.out _ _ _ _, hr0.out⟩⟩
              | ok y k4 =>
                obtain ⟨jk, jn, jm, ja, jl, jc, jll, rfl, rfl, X4, RI4, kp4⟩ := hpost
                have hch : Hid (Sx.Ch ts (f + 1) d n (if T = 3 then 2 else T) (.mk 6 tk.1.text 0 [.mk kk nn mm ll, .mk jk jn jm jll]) k4 r) := by
                  rcases HOR.out with ⟨y, k1, e1, h5⟩ | ⟨a', e', e1, h5⟩
                  · cases e1
                    have e : Sx.tx ts k' = tk.1.text := by unfold Sx.tx; rw [TK.out]
                    rw [e] at h5
                    exact h5
                  · cases e1
                have hk4 : Hid (k' + 1 < k4) := HIN.out _ _ rfl
                have hk4' : Hid (k4 < ts.length) := RI4.hk
                go_upto_region 10 with fail
                have B11 := Bx.new w4 54 (.int .i64 jk) (.string ⟨jn.toArray⟩) (.int .i64 jm) (.slice ja jl jc)
                have RI5 : Hid _ := RI4.later (box_below w4 (.cells #[.int .i64 jk, .string ⟨jn.toArray⟩, .int .i64 jm, .slice ja jl jc] 54))
                have X5 : Hid _ := X4.later (box_below w4 (.cells #[.int .i64 jk, .string ⟨jn.toArray⟩, .int .i64 jm, .slice ja jl jc] 54)) (Nat.le_refl _)
                have m5 : Kp p W0 (w4.alloc (.cells #[.int .i64 jk, .string ⟨jn.toArray⟩, .int .i64 jm, .slice ja jl jc] 54)) := kp4.alloc _
                have B5 := BS.out.kp m5 hn.out
                have nz : ¬ w4.heap.size = w'.heap.size := Nat.ne_of_gt (BS.out.kp kp4 hn.out).lt
                have nz' : ¬ w'.heap.size = w4.heap.size := Nat.ne_of_lt (BS.out.kp kp4 hn.out).lt
                have M5 : Hid _ := m5
                clear kp4 RI4 m5 X4
                generalize hg4 : w4.heap.size = g4 at *
                generalize w4.alloc (.cells #[.int .i64 jk, .string ⟨jn.toArray⟩, .int .i64 jm, .slice ja jl jc] 54) = W5 at *
                clear hg4
                obtain ⟨g0, g1, g2, g3, i0, i1, i2, i3, zb⟩ := B5
                obtain ⟨j0, j1, j2, j3, l0, l1, l2, l3, zj⟩ := B11
                have PB : Hid _ := fun t : TypeId => TNorm.two (sg := tk.1.text) (kk' := jk) (nn' := jn) (mm' := jm) t BS.out XS.out RS.out MS.out X5.out RI5.out M5.out hp.out hb.out ZW.out
                by_cases t3 : T = 3
                · have e3 : ((T : Int) == 3) = true := by rw [t3]; rfl
                  have CH2 : Hid _ := hch.out
                  rw [if_pos t3] at CH2
                  clear hch
                  go_wp2_with fail
                  go_roundg (ts.length - k4 + 1)
                  case measure => rw [GK.out]; have := hk4.out; have := hk4'.out; omega
                  case rel => exact ⟨2, by omega, rfl, .inl ⟨_, k4, rfl, PB.out _, CH2.out⟩⟩
                · have e3 : ((T : Int) == 3) = false := by rw [beq_eq_false_iff_ne]; intro e; exact t3 (by omega)
                  have CH2 : Hid _ := hch.out
                  rw [if_neg t3] at CH2
                  clear hch
                  go_wp2_with fail
                  go_roundg (ts.length - k4 + 1)
                  case measure => rw [GK.out]; have := hk4.out; have := hk4'.out; omega
                  case rel => exact ⟨T, HT5.out, rfl, .inl ⟨_, k4, rfl, PB.out _, CH2.out⟩⟩
      · have b4 : (tk.1.kind == 4) = false := beq_eq_false_iff_ne.2 h4
        have hr0 : Hid (r = .ok (.mk kk nn mm ll) k') := CH.out.stop (.inl (by
          have e : Sx.bindsB (Sx.tx ts k') = 0 := by
            by_cases c : Sx.bindsB (Sx.tx ts k') = 0
            · exact c
            · exact absurd (by rw [← TK.out]; exact RTT.out.bi k' c) h4
          have := H1.out.1
          omega))
        clear h4
        go_wp2_with fail
        go_quiet (fail)
        have N1 := NN.out nq
        generalize wr.drewN nq = W at *
        obtain ⟨kk', nn', mm', sa, sn, sc, ll', hx, B, X, R, RI, M⟩ := N1
        injection hx with q1 q2 q3 q4
        subst q1 q2 q3 q4
        have PB : Hid _ := PostR.of_fill (kk := kk) (n := nn) (m := mm) M RI hp.out hb.out (X.mono fun g _ hg => hg.1)
        obtain ⟨g0, g1, g2, g3, i0, i1, i2, i3, zb⟩ := B
        obtain ⟨d0, d1, d2, d3, e0, e1, e2, e3, zr⟩ := R
        clear X RI M r0 r1 r2 c0
        go_wp2_with fail
        refine bodyPost_ret (v := .agg #[.int .i64 kk, .string ⟨nn.toArray⟩, .int .i64 mm, .slice sa sn sc]) (by simp [results, Try.results98, go_sem, d0, d1, d2, d3]) rfl ?_
        rw [hr0.out]
        exact PB.out
    · have NN : Hid (∀ q, TErr w p b o cap ts w'.heap.size er a (wr.drewN q)) := fun q => N.quiet q
      obtain ⟨kk, nn, mm, sa, sn, sc, k', B, R, RI, M⟩ := N
      have be : (er == 0) = false := beq_eq_false_iff_ne.2 her
      have hr0 : Hid (r = .bad a er) := hr
      have r0 := RI.row
      have r1 := RI.nx
      have r2 := RI.ce
      have hpl := RI.lt
      have hbl := RI.ta.lt
      have c0 := RI.ta.c0 k' RI.hk
      have hki : (k' : Int) < (ts.length : Int) := by have := RI.hk; omega
      have hk0 : (0 : Int) ≤ (k' : Int) := by omega
      generalize (ts.getD k' tok0).1.kind = K at c0
      clear B R RI M her hr hgk
      go_wp2_with fail
      go_quiet (fail)
      have N1 := NN.out nq
      generalize wr.drewN nq = W at *
      obtain ⟨kk, nn, mm, sa, sn, sc, k'', B, R, RI, M⟩ := N1
      have PB : Hid _ := PostR.bad_fill (kk := kk) (n := nn) (m := mm) (sa := sa) (sn := sn) (sc := sc) M RI hp.out hb.out
      obtain ⟨g0, g1, g2, g3, i0, i1, i2, i3, zb⟩ := B
      obtain ⟨d0, d1, d2, d3, e0, e1, e2, e3, zr⟩ := R
      clear RI M r0 r1 r2 c0
      go_wp2_with fail
      refine bodyPost_ret (v := .agg #[.int .i64 kk, .string ⟨nn.toArray⟩, .int .i64 mm, .slice sa sn sc]) (by simp [results, Try.results98, go_sem, d0, d1, d2, d3]) rfl ?_
      rw [hr0.out]
      exact PB.out
end Go.Proofs.Ytobiedmmjiedlaa
