/- The document's reader of programs, where it reads on: if, while. -/
import Derived.Test.YtobiedmmjiedlaaZRdG
namespace Go.Proofs.Ytobiedmmjiedlaa
open Go.RowKit

theorem SmS.set {A : Nat → Prop} {w : World} {sl : Value} {l : List Sy.St} (h : SmS A w sl l) {a : Addr} (ha : ¬ A a.block) (v : Value) : SmS A (w.setCell a v) sl l :=
  h.keep (fun _ _ x => x) (fun _ hA _ => World.cell?_setCell_other _ _ _ _ (fun e => ha (by rw [e]; exact hA))) (by simp)
theorem B7.set5 {w : World} {g : Nat} {a0 a1 a2 a3 a4 a5 a6 : Value} (h : B7 w g a0 a1 a2 a3 a4 a5 a6) (v : Value) : B7 (w.setCell ⟨g, 5, none⟩ v) g a0 a1 a2 a3 a4 v a6 := by
  constructor
  all_goals simp [h.c0, h.c1, h.c2, h.c3, h.c4, h.c5, h.c6, h.f0, h.f1, h.f2, h.f3, h.f4, h.f5, h.f6, h.lt, go_sem]
theorem B7.set6 {w : World} {g : Nat} {a0 a1 a2 a3 a4 a5 a6 : Value} (h : B7 w g a0 a1 a2 a3 a4 a5 a6) (v : Value) : B7 (w.setCell ⟨g, 6, none⟩ v) g a0 a1 a2 a3 a4 a5 v := by
  constructor
  all_goals simp [h.c0, h.c1, h.c2, h.c3, h.c4, h.c5, h.c6, h.f0, h.f1, h.f2, h.f3, h.f4, h.f5, h.f6, h.lt, go_sem]
set_option maxRecDepth 100000 in
set_option maxHeartbeats 4000000 in
theorem rstmt_if (p b o cap : Nat) (ts : List Tok) (d k : Nat) (w : World) (h : Ri w p b o cap ts k 0 0) (hd : d ≤ 60) (hbg : Begs ts k) (f k1 k2 : Nat) (x : Sx.Ex) (bl : List Sy.St) (hlb : bl.length ≤ 100000) (he : ECr p b o cap ts f) (t0 : TkA ts k [105, 102]) (t1 : TkA ts (k + 1) [40]) (hx : Sx.bd ts f 1 (d + 1) (k + 1 + 1) = some (.ok x k1)) (t2 : TkA ts k1 [41]) (t3 : TkA ts (k1 + 1) [123]) (hgl : GL p b o cap ts (d + 1) (k1 + 1 + 1) bl k2) (t4 : ¬ (ts.getD k2 tok0).1.text = [101, 108, 115, 101]) :
    Calls Try.prog 75 #[.pointer (some ⟨p, 0, none⟩), .int .i64 (d : Int)] w (PostS p b o cap ts w (.mk 4 [] [] 0 [x] bl []) (k2)) := by
  have hp : Hid (p < w.heap.size) := h.lt
  have hb : Hid (b < w.heap.size) := h.ta.lt
  have H0 : Hid (Ri (w.alloc zS) p b o cap ts k 0 0) := h.later (box_below _ _)
  have R0 : Hid _ := B7.new w 33 (.int .i64 0) (.string ⟨#[]⟩) (.string ⟨#[]⟩) (.int .i64 0) (.slice none 0 0) (.slice none 0 0) (.slice none 0 0)
  have EK : Hid (∀ W, Ri W p b o cap ts k 0 0 → _) := fun W hW => rkind_ok W p b o cap ts k 0 1 hW
  have EI : Hid (∀ j, j < 7 → ∀ W, Ri W p b o cap ts k 0 0 → _) := fun j hj W hW => ris_any W p b o cap ts k 0 (stW.getD j []) hW (hbg.kd _ (by match j, hj with | 0, _ => decide | 1, _ => decide | 2, _ => decide | 3, _ => decide | 4, _ => decide | 5, _ => decide | 6, _ => decide))
  have EP : Hid (∀ W, Ri W p b o cap ts k 0 0 → _) := fun W hW => rpart_any W p b o cap ts k true d (by omega) hW
  have BG : Hid _ := hbg.yes
  have HD : Hid _ := hd
  have EBr : Hid (∀ W, Ri W p b o cap ts (k + 1) 0 0 → Calls Try.prog 83 #[.pointer (some ⟨p, 0, none⟩), .int .i64 ((d : Int) + 1)] W (PostL p b o cap ts W [x] (k1 + 1))) := fun W hW => rbr_ok p b o cap ts f (d + 1) (k + 1) k1 x he (by omega) W hW t1 hx t2
  have EBl : Hid (∀ W, Ri W p b o cap ts (k1 + 1) 0 0 → Calls Try.prog 60 #[.pointer (some ⟨p, 0, none⟩), .int .i64 ((d : Int) + 1)] W (PostSL p b o cap ts W bl k2)) := fun W hW => rblock_ok p b o cap ts (d + 1) (k1 + 1) k2 bl hlb W hW t3 hgl
  have EY : Hid (∀ W, Ri W p b o cap ts k 0 0 → _) := fun W hW => rgot_yes W p b o cap ts k 0 [105, 102] hW t0.tx t0.kd t0.lt
  have EE : Hid (∀ W, Ri W p b o cap ts k2 0 0 → _) := fun W hW => rgot_no W p b o cap ts k2 0 0 [101, 108, 115, 101] hW (.inr t4)
  clear hlb he t0 t1 hx t2 t3 hgl t4
  clear h hbg hd
  go_enter Try.func75, Try.ntmps75
  go_wp2_with fail
  refine Calls.mono (EK.out _ H0.out) ?_
  rintro e u1 ⟨rfl, b1⟩
  obtain ⟨V, hV⟩ : ∃ V, V = u1.alloc (.cells #[.string ⟨#[118, 97, 114]⟩, .string ⟨#[105, 102]⟩, .string ⟨#[119, 104, 105, 108, 101]⟩, .string ⟨#[114, 101, 116, 117, 114, 110]⟩, .string ⟨#[112, 114, 105, 110, 116]⟩, .string ⟨#[114, 101, 97, 100]⟩, .string ⟨#[97, 115, 115, 101, 114, 116]⟩] 9) := ⟨_, rfl⟩
  have bV : Below u1.heap.size u1 V := by rw [hV]; exact box_below _ _
  have BV : Hid (Below (w.alloc zS).heap.size (w.alloc zS) V) := b1.trans (bV.mono b1.size)
  have CV : Hid (∀ j, j < 7 → V.cell? ⟨u1.heap.size, j, none⟩ = some (.string ⟨(stW.getD j []).toArray⟩)) := fun j hj => by rw [hV]; exact stA_get u1 _ j hj
  have zV : Hid (u1.heap.size < V.heap.size) := by unfold Hid; rw [hV]; simp
  have K0 : Hid (((ts.getD k tok0).1.kind == 1) = begS ts k 0) := by unfold Hid begS; simp
  rw [K0.out]
  clear b1 bV K0
  go_wp2_with fail
  rw [← hV]
  clear hV
  go_loopg [5, 7] 7 (fun gk v i wr => StL ts k V gk v i wr)
  case atStart => exact ⟨0, by omega, rfl, rfl, rfl, Below.refl _ _⟩
  case round =>
    obtain ⟨j, hj, hgk, rfl, rfl, hnx⟩ := hrel
    have GK : Hid _ := hgk
    have NX : Hid _ := hnx
    have NW : Hid (Below (w.alloc zS).heap.size (w.alloc zS) wr) := BV.out.trans (hnx.mono BV.out.size)
    clear hgk hnx
    by_cases hlt : j < 7
    · have hji : (j : Int) < 7 := by omega
      have hj0 : (0 : Int) ≤ (j : Int) := by omega
      have cj := (NX.out.cell (p := ⟨u1.heap.size, j, none⟩) zV.out).trans (CV.out j hlt)
      have ST : Hid _ := begS_step ts k j hlt
      generalize hs : stW.getD j [] = s at cj ST
      have E1 : Hid _ := EI.out j hlt wr (H0.out.later NW.out)
      rw [hs] at E1
      clear hs
      cases hbj : begS ts k j with
      | true =>
        rw [hbj] at ST
        have ST' : Hid (begS ts k (j + 1) = true) := ST.out
        clear hbj
        go_wp2_with fail
        go_roundg (7 - (j + 1))
        case measure => have := GK.out; omega
        case rel => exact ⟨j + 1, by omega, rfl, by go_num, by rw [ST'.out], NX.out⟩
      | false =>
        rw [hbj] at ST
        clear hbj
        go_wp2_with fail
        refine Calls.mono E1.out ?_
        rintro e u2 ⟨rfl, b2⟩
        have N2 : Hid (Below V.heap.size V u2) := NX.out.trans (b2.mono NX.out.size)
        have ST' : Hid (begS ts k (j + 1) = decide (Sx.tx ts k = s)) := ST.out
        clear b2
        go_wp2_with fail
        go_roundg (7 - (j + 1))
        case measure => have := GK.out; omega
        case rel => exact ⟨j + 1, by omega, rfl, by go_num, by rw [ST'.out], N2.out⟩
    · obtain rfl : j = 7 := by omega
      rw [BG.out]
      have H1 : Hid _ := H0.out.later NW.out
      clear GK EI EK CV
      go_wp2_with fail
      refine Calls.mono (EP.out _ H1.out) ?_
      rintro e u3 ⟨rfl, k3, hcase⟩
      have R3 : Ri u3 p b o cap ts k 0 0 := by
        rcases hcase with ⟨e, _⟩ | ⟨_, e, _⟩ | ⟨_, _, e⟩
        · cases e
        · have := HD.out; omega
        · exact e
      have H3 : Hid _ := R3
      have K3 : Hid (Kp p (w.alloc zS) u3) := (Keep.of_below NW.out (Nat.le_refl _) : Kp p (w.alloc zS) wr).trans k3
      clear hcase R3 k3
      go_wp2_with fail
      refine Calls.mono (EY.out _ H3.out) ?_
      rintro e u4 ⟨rfl, r4, k4⟩
      have H4 : Hid _ := r4
      have K4 : Hid (Kp p (w.alloc zS) u4) := K3.out.trans k4
      have hw1 : IntKind.i64.wrap ((d : Int) + 1) = (d : Int) + 1 := by have := HD.out; rw [IntKind.wrap_i64]; omega
      clear r4 k4
      go_wp2_with fail
      refine Calls.mono (EBr.out _ H4.out) ?_
      rintro e u5 ⟨sa, sc, rfl, xe, r5, k5⟩
      have K5 : Hid (Kp p (w.alloc zS) u5) := K4.out.trans k5
      have z4 : w.heap.size < u4.heap.size := Nat.lt_of_lt_of_le (by simp) K4.out.size
      have z5 : w.heap.size < u5.heap.size := Nat.lt_of_lt_of_le (by simp) K5.out.size
      have nz : ¬ u5.heap.size = w.heap.size := by omega
      have nz' : ¬ w.heap.size = u5.heap.size := by omega
      have np : u5.heap.size ≠ p := by have := hp.out; omega
      have nb : u5.heap.size ≠ b := by have := hb.out; omega
      obtain ⟨V5, hV5⟩ : ∃ V5, V5 = u5.alloc (.cells #[.int .i64 4, .string ⟨#[]⟩, .string ⟨#[]⟩, .int .i64 0, .slice sa 1 sc, .slice none 0 0, .slice none 0 0] 33) := ⟨_, rfl⟩
      have bV : Below u5.heap.size u5 V5 := by rw [hV5]; exact box_below _ _
      have XV : Hid (B7 V5 u5.heap.size (.int .i64 4) (.string ⟨#[]⟩) (.string ⟨#[]⟩) (.int .i64 0) (.slice sa 1 sc) (.slice none 0 0) (.slice none 0 0)) := by rw [hV5]; exact B7.new u5 _ _ _ _ _ _ _ _
      have RV : Hid _ := r5.later bV
      have KV : Hid (Kp p (w.alloc zS) V5) := K5.out.trans (Keep.of_below bV (Nat.le_refl _))
      have zV : u5.heap.size < V5.heap.size := XV.out.lt
      have XE : Hid (ExS (fun g => w.heap.size < g ∧ g < u5.heap.size) V5 (.slice sa 1 sc) [x]) := (xe.mono (A' := fun g => w.heap.size < g ∧ g < u5.heap.size) fun g hg hA => ⟨by omega, hg⟩).later bV (Nat.le_refl _)
      clear xe r5 k5 bV
      go_wp2_with fail
      rw [← hV5]
      clear hV5
      refine Calls.mono (EBl.out _ RV.out) ?_
      rintro e u6 ⟨ba, bc, rfl, xb, r6, k6⟩
      have pa : ¬ (w.heap.size < p ∧ p < u5.heap.size) := by have := hp.out; omega
      have X6 := XV.out.kp k6 np
      have K6 : Hid (Kp p (w.alloc zS) u6) := KV.out.trans k6
      have z6 : u5.heap.size < u6.heap.size := X6.lt
      have Y6 : Hid _ := X6.set5 (.slice ba bl.length bc)
      have R6 : Hid _ := r6.set (q := ⟨u5.heap.size, 5, none⟩) np nb (.slice ba bl.length bc)
      have KS : Hid (Kp p (w.alloc zS) (u6.setCell ⟨u5.heap.size, 5, none⟩ (.slice ba bl.length bc))) := K6.out.set (.inl (by simp; omega)) _
      have XE6 : Hid _ := (XE.out.kp k6 pa).set (a := ⟨u5.heap.size, 5, none⟩) (fun h => Nat.lt_irrefl _ h.2) (.slice ba bl.length bc)
      have XB6 : Hid (SmS (fun g => u5.heap.size < g) (u6.setCell ⟨u5.heap.size, 5, none⟩ (.slice ba bl.length bc)) (.slice ba bl.length bc) bl) := (xb.mono (A' := fun g => u5.heap.size < g) fun g _ hA => Nat.lt_of_lt_of_le zV hA).set (a := ⟨u5.heap.size, 5, none⟩) (Nat.lt_irrefl _) _
      have zs6 : (u6.setCell ⟨u5.heap.size, 5, none⟩ (.slice ba bl.length bc)).heap.size = u6.heap.size := by simp
      obtain ⟨q0, q1, q2, q3, q4, q5, q6, f0, f1, f2, f3, f4, f5, f6, zq⟩ := X6
      clear xb r6 k6
      go_wp2_with fail
      generalize u6.setCell ⟨u5.heap.size, 5, none⟩ (.slice ba bl.length bc) = U6 at *
      clear q0 q1 q2 q3 q4 q5 q6 f0 f1 f2 f3 f4 f5 f6 zq
      refine Calls.mono (EE.out _ R6.out) ?_
      rintro e u7 ⟨rfl, b7⟩
      have K7 : Hid (Kp p (w.alloc zS) u7) := KS.out.trans (Keep.of_below b7 (Nat.le_refl _))
      have X7 := Y6.out.kept (b7.block _ Y6.out.lt) b7.size
      have YE : Hid _ := XE6.out.later b7 (Nat.le_refl _)
      have YB : Hid _ := XB6.out.later b7 (Nat.le_refl _)
      have R7 : Hid _ := R6.out.later b7
      clear b7
      obtain ⟨q0, q1, q2, q3, q4, q5, q6, -, -, -, -, -, -, -, zq⟩ := X7
      go_upto_region 13 with fail
      go_cut [] from 52 (fun wc => B7 wc w.heap.size (.int .i64 4) (.string ⟨#[]⟩) (.string ⟨#[]⟩) (.int .i64 0) (.slice sa 1 sc) (.slice ba bl.length bc) (.slice none 0 0) ∧ PostS p b o cap ts w (.mk 4 [] [] 0 [x] bl []) (k2) (.returned (.agg #[.int .i64 4, .string ⟨#[]⟩, .string ⟨#[]⟩, .int .i64 0, .slice sa 1 sc, .slice ba bl.length bc, .slice none 0 0])) wc)
      case rest =>
        obtain ⟨B, T⟩ := hcut
        have TT : Hid _ := T
        clear q0 q1 q2 q3 q4 q5 q6 T
        obtain ⟨c0, c1, c2, c3, c4, c5, c6, -, -, -, -, -, -, -, zt⟩ := B
        go_wp2_with fail
        refine bodyPost_ret (v := .agg #[.int .i64 4, .string ⟨#[]⟩, .string ⟨#[]⟩, .int .i64 0, .slice sa 1 sc, .slice ba bl.length bc, .slice none 0 0]) (by simp [results, Try.results75, go_sem, c0, c1, c2, c3, c4, c5, c6]) rfl ?_
        exact TT.out
      case first =>
        have z7 : w.heap.size < u7.heap.size := Nat.lt_of_lt_of_le (by simp) K7.out.size
        have Y7 := R0.out.kp K7.out (by have := hp.out; omega)
        have PB : Hid (B7 (fill7 u7 w.heap.size (.int .i64 4) (.string ⟨#[]⟩) (.string ⟨#[]⟩) (.int .i64 0) (.slice sa 1 sc) (.slice ba bl.length bc) (.slice none 0 0)) w.heap.size (.int .i64 4) (.string ⟨#[]⟩) (.string ⟨#[]⟩) (.int .i64 0) (.slice sa 1 sc) (.slice ba bl.length bc) (.slice none 0 0) ∧ PostS p b o cap ts w (.mk 4 [] [] 0 [x] bl []) (k2) (.returned (.agg #[.int .i64 4, .string ⟨#[]⟩, .string ⟨#[]⟩, .int .i64 0, .slice sa 1 sc, .slice ba bl.length bc, .slice none 0 0])) (fill7 u7 w.heap.size (.int .i64 4) (.string ⟨#[]⟩) (.string ⟨#[]⟩) (.int .i64 0) (.slice sa 1 sc) (.slice ba bl.length bc) (.slice none 0 0))) := by
          have hp' := hp.out
          have hb' := hb.out
          refine ⟨Y7.fill _ _ _ _ _ _ _, _, _, _, _, _, _, _, _, _, _, _, _, _, rfl, rfl, (YE.out.fill7 (fun h => by omega) _ _ _ _ _ _ _).mono (fun g _ hg => by omega), (YB.out.fill7 (fun h => by omega) _ _ _ _ _ _ _).mono (fun g _ hg => by omega), .nil _ _, R7.out.fill7 (by omega) (by omega) _ _ _ _ _ _ _, Kp.fill7 ((Keep.of_below (box_below w zS) (Nat.le_refl _) : Kp p w (w.alloc zS)).trans K7.out) (Nat.le_refl _) _ _ _ _ _ _ _⟩
        obtain ⟨c0, c1, c2, c3, c4, c5, c6, f0, f1, f2, f3, f4, f5, f6, zt⟩ := Y7
        go_wp2_with fail
        go_meet
        case rel => exact PB.out
set_option maxRecDepth 100000 in
set_option maxHeartbeats 4000000 in
theorem rstmt_else (p b o cap : Nat) (ts : List Tok) (d k : Nat) (w : World) (h : Ri w p b o cap ts k 0 0) (hd : d ≤ 60) (hbg : Begs ts k) (f k1 k2 : Nat) (x : Sx.Ex) (bl : List Sy.St) (hlb : bl.length ≤ 100000) (he : ECr p b o cap ts f) (t0 : TkA ts k [105, 102]) (t1 : TkA ts (k + 1) [40]) (hx : Sx.bd ts f 1 (d + 1) (k + 1 + 1) = some (.ok x k1)) (t2 : TkA ts k1 [41]) (t3 : TkA ts (k1 + 1) [123]) (hgl : GL p b o cap ts (d + 1) (k1 + 1 + 1) bl k2) (k3 : Nat) (el : List Sy.St) (hle : el.length ≤ 100000) (t4 : TkA ts k2 [101, 108, 115, 101]) (t5 : TkA ts (k2 + 1) [123]) (hgl2 : GL p b o cap ts (d + 1) (k2 + 1 + 1) el k3) :
    Calls Try.prog 75 #[.pointer (some ⟨p, 0, none⟩), .int .i64 (d : Int)] w (PostS p b o cap ts w (.mk 4 [] [] 0 [x] bl el) (k3)) := by
  have hp : Hid (p < w.heap.size) := h.lt
  have hb : Hid (b < w.heap.size) := h.ta.lt
  have H0 : Hid (Ri (w.alloc zS) p b o cap ts k 0 0) := h.later (box_below _ _)
  have R0 : Hid _ := B7.new w 33 (.int .i64 0) (.string ⟨#[]⟩) (.string ⟨#[]⟩) (.int .i64 0) (.slice none 0 0) (.slice none 0 0) (.slice none 0 0)
  have EK : Hid (∀ W, Ri W p b o cap ts k 0 0 → _) := fun W hW => rkind_ok W p b o cap ts k 0 1 hW
  have EI : Hid (∀ j, j < 7 → ∀ W, Ri W p b o cap ts k 0 0 → _) := fun j hj W hW => ris_any W p b o cap ts k 0 (stW.getD j []) hW (hbg.kd _ (by match j, hj with | 0, _ => decide | 1, _ => decide | 2, _ => decide | 3, _ => decide | 4, _ => decide | 5, _ => decide | 6, _ => decide))
  have EP : Hid (∀ W, Ri W p b o cap ts k 0 0 → _) := fun W hW => rpart_any W p b o cap ts k true d (by omega) hW
  have BG : Hid _ := hbg.yes
  have HD : Hid _ := hd
  have EBr : Hid (∀ W, Ri W p b o cap ts (k + 1) 0 0 → Calls Try.prog 83 #[.pointer (some ⟨p, 0, none⟩), .int .i64 ((d : Int) + 1)] W (PostL p b o cap ts W [x] (k1 + 1))) := fun W hW => rbr_ok p b o cap ts f (d + 1) (k + 1) k1 x he (by omega) W hW t1 hx t2
  have EBl : Hid (∀ W, Ri W p b o cap ts (k1 + 1) 0 0 → Calls Try.prog 60 #[.pointer (some ⟨p, 0, none⟩), .int .i64 ((d : Int) + 1)] W (PostSL p b o cap ts W bl k2)) := fun W hW => rblock_ok p b o cap ts (d + 1) (k1 + 1) k2 bl hlb W hW t3 hgl
  have EY : Hid (∀ W, Ri W p b o cap ts k 0 0 → _) := fun W hW => rgot_yes W p b o cap ts k 0 [105, 102] hW t0.tx t0.kd t0.lt
  have EE : Hid (∀ W, Ri W p b o cap ts k2 0 0 → _) := fun W hW => rgot_yes W p b o cap ts k2 0 [101, 108, 115, 101] hW t4.tx t4.kd t4.lt
  have EL2 : Hid (∀ W, Ri W p b o cap ts (k2 + 1) 0 0 → Calls Try.prog 60 #[.pointer (some ⟨p, 0, none⟩), .int .i64 ((d : Int) + 1)] W (PostSL p b o cap ts W el k3)) := fun W hW => rblock_ok p b o cap ts (d + 1) (k2 + 1) k3 el hle W hW t5 hgl2
  clear hlb he t0 t1 hx t2 t3 hgl t4 hle t5 hgl2
  clear h hbg hd
  go_enter Try.func75, Try.ntmps75
  go_wp2_with fail
  refine Calls.mono (EK.out _ H0.out) ?_
  rintro e u1 ⟨rfl, b1⟩
  obtain ⟨V, hV⟩ : ∃ V, V = u1.alloc (.cells #[.string ⟨#[118, 97, 114]⟩, .string ⟨#[105, 102]⟩, .string ⟨#[119, 104, 105, 108, 101]⟩, .string ⟨#[114, 101, 116, 117, 114, 110]⟩, .string ⟨#[112, 114, 105, 110, 116]⟩, .string ⟨#[114, 101, 97, 100]⟩, .string ⟨#[97, 115, 115, 101, 114, 116]⟩] 9) := ⟨_, rfl⟩
  have bV : Below u1.heap.size u1 V := by rw [hV]; exact box_below _ _
  have BV : Hid (Below (w.alloc zS).heap.size (w.alloc zS) V) := b1.trans (bV.mono b1.size)
  have CV : Hid (∀ j, j < 7 → V.cell? ⟨u1.heap.size, j, none⟩ = some (.string ⟨(stW.getD j []).toArray⟩)) := fun j hj => by rw [hV]; exact stA_get u1 _ j hj
  have zV : Hid (u1.heap.size < V.heap.size) := by unfold Hid; rw [hV]; simp
  have K0 : Hid (((ts.getD k tok0).1.kind == 1) = begS ts k 0) := by unfold Hid begS; simp
  rw [K0.out]
  clear b1 bV K0
  go_wp2_with fail
  rw [← hV]
  clear hV
  go_loopg [5, 7] 7 (fun gk v i wr => StL ts k V gk v i wr)
  case atStart => exact ⟨0, by omega, rfl, rfl, rfl, Below.refl _ _⟩
  case round =>
    obtain ⟨j, hj, hgk, rfl, rfl, hnx⟩ := hrel
    have GK : Hid _ := hgk
    have NX : Hid _ := hnx
    have NW : Hid (Below (w.alloc zS).heap.size (w.alloc zS) wr) := BV.out.trans (hnx.mono BV.out.size)
    clear hgk hnx
    by_cases hlt : j < 7
    · have hji : (j : Int) < 7 := by omega
      have hj0 : (0 : Int) ≤ (j : Int) := by omega
      have cj := (NX.out.cell (p := ⟨u1.heap.size, j, none⟩) zV.out).trans (CV.out j hlt)
      have ST : Hid _ := begS_step ts k j hlt
      generalize hs : stW.getD j [] = s at cj ST
      have E1 : Hid _ := EI.out j hlt wr (H0.out.later NW.out)
      rw [hs] at E1
      clear hs
      cases hbj : begS ts k j with
      | true =>
        rw [hbj] at ST
        have ST' : Hid (begS ts k (j + 1) = true) := ST.out
        clear hbj
        go_wp2_with fail
        go_roundg (7 - (j + 1))
        case measure => have := GK.out; omega
        case rel => exact ⟨j + 1, by omega, rfl, by go_num, by rw [ST'.out], NX.out⟩
      | false =>
        rw [hbj] at ST
        clear hbj
        go_wp2_with fail
        refine Calls.mono E1.out ?_
        rintro e u2 ⟨rfl, b2⟩
        have N2 : Hid (Below V.heap.size V u2) := NX.out.trans (b2.mono NX.out.size)
        have ST' : Hid (begS ts k (j + 1) = decide (Sx.tx ts k = s)) := ST.out
        clear b2
        go_wp2_with fail
        go_roundg (7 - (j + 1))
        case measure => have := GK.out; omega
        case rel => exact ⟨j + 1, by omega, rfl, by go_num, by rw [ST'.out], N2.out⟩
    · obtain rfl : j = 7 := by omega
      rw [BG.out]
      have H1 : Hid _ := H0.out.later NW.out
      clear GK EI EK CV
      go_wp2_with fail
      refine Calls.mono (EP.out _ H1.out) ?_
      rintro e u3 ⟨rfl, k3, hcase⟩
      have R3 : Ri u3 p b o cap ts k 0 0 := by
        rcases hcase with ⟨e, _⟩ | ⟨_, e, _⟩ | ⟨_, _, e⟩
        · cases e
        · have := HD.out; omega
        · exact e
      have H3 : Hid _ := R3
      have K3 : Hid (Kp p (w.alloc zS) u3) := (Keep.of_below NW.out (Nat.le_refl _) : Kp p (w.alloc zS) wr).trans k3
      clear hcase R3 k3
      go_wp2_with fail
      refine Calls.mono (EY.out _ H3.out) ?_
      rintro e u4 ⟨rfl, r4, k4⟩
      have H4 : Hid _ := r4
      have K4 : Hid (Kp p (w.alloc zS) u4) := K3.out.trans k4
      have hw1 : IntKind.i64.wrap ((d : Int) + 1) = (d : Int) + 1 := by have := HD.out; rw [IntKind.wrap_i64]; omega
      clear r4 k4
      go_wp2_with fail
      refine Calls.mono (EBr.out _ H4.out) ?_
      rintro e u5 ⟨sa, sc, rfl, xe, r5, k5⟩
      have K5 : Hid (Kp p (w.alloc zS) u5) := K4.out.trans k5
      have z4 : w.heap.size < u4.heap.size := Nat.lt_of_lt_of_le (by simp) K4.out.size
      have z5 : w.heap.size < u5.heap.size := Nat.lt_of_lt_of_le (by simp) K5.out.size
      have nz : ¬ u5.heap.size = w.heap.size := by omega
      have nz' : ¬ w.heap.size = u5.heap.size := by omega
      have np : u5.heap.size ≠ p := by have := hp.out; omega
      have nb : u5.heap.size ≠ b := by have := hb.out; omega
      obtain ⟨V5, hV5⟩ : ∃ V5, V5 = u5.alloc (.cells #[.int .i64 4, .string ⟨#[]⟩, .string ⟨#[]⟩, .int .i64 0, .slice sa 1 sc, .slice none 0 0, .slice none 0 0] 33) := ⟨_, rfl⟩
      have bV : Below u5.heap.size u5 V5 := by rw [hV5]; exact box_below _ _
      have XV : Hid (B7 V5 u5.heap.size (.int .i64 4) (.string ⟨#[]⟩) (.string ⟨#[]⟩) (.int .i64 0) (.slice sa 1 sc) (.slice none 0 0) (.slice none 0 0)) := by rw [hV5]; exact B7.new u5 _ _ _ _ _ _ _ _
      have RV : Hid _ := r5.later bV
      have KV : Hid (Kp p (w.alloc zS) V5) := K5.out.trans (Keep.of_below bV (Nat.le_refl _))
      have zV : u5.heap.size < V5.heap.size := XV.out.lt
      have XE : Hid (ExS (fun g => w.heap.size < g ∧ g < u5.heap.size) V5 (.slice sa 1 sc) [x]) := (xe.mono (A' := fun g => w.heap.size < g ∧ g < u5.heap.size) fun g hg hA => ⟨by omega, hg⟩).later bV (Nat.le_refl _)
      clear xe r5 k5 bV
      go_wp2_with fail
      rw [← hV5]
      clear hV5
      refine Calls.mono (EBl.out _ RV.out) ?_
      rintro e u6 ⟨ba, bc, rfl, xb, r6, k6⟩
      have pa : ¬ (w.heap.size < p ∧ p < u5.heap.size) := by have := hp.out; omega
      have X6 := XV.out.kp k6 np
      have K6 : Hid (Kp p (w.alloc zS) u6) := KV.out.trans k6
      have z6 : u5.heap.size < u6.heap.size := X6.lt
      have Y6 : Hid _ := X6.set5 (.slice ba bl.length bc)
      have R6 : Hid _ := r6.set (q := ⟨u5.heap.size, 5, none⟩) np nb (.slice ba bl.length bc)
      have KS : Hid (Kp p (w.alloc zS) (u6.setCell ⟨u5.heap.size, 5, none⟩ (.slice ba bl.length bc))) := K6.out.set (.inl (by simp; omega)) _
      have XE6 : Hid _ := (XE.out.kp k6 pa).set (a := ⟨u5.heap.size, 5, none⟩) (fun h => Nat.lt_irrefl _ h.2) (.slice ba bl.length bc)
      have XB6 : Hid (SmS (fun g => u5.heap.size < g) (u6.setCell ⟨u5.heap.size, 5, none⟩ (.slice ba bl.length bc)) (.slice ba bl.length bc) bl) := (xb.mono (A' := fun g => u5.heap.size < g) fun g _ hA => Nat.lt_of_lt_of_le zV hA).set (a := ⟨u5.heap.size, 5, none⟩) (Nat.lt_irrefl _) _
      have zs6 : (u6.setCell ⟨u5.heap.size, 5, none⟩ (.slice ba bl.length bc)).heap.size = u6.heap.size := by simp
      obtain ⟨q0, q1, q2, q3, q4, q5, q6, f0, f1, f2, f3, f4, f5, f6, zq⟩ := X6
      clear xb r6 k6
      go_wp2_with fail
      generalize u6.setCell ⟨u5.heap.size, 5, none⟩ (.slice ba bl.length bc) = U6 at *
      clear q0 q1 q2 q3 q4 q5 q6 f0 f1 f2 f3 f4 f5 f6 zq
      refine Calls.mono (EE.out _ R6.out) ?_
      rintro e u7 ⟨rfl, r7, k7⟩
      have K7' : Hid (Kp p (w.alloc zS) u7) := KS.out.trans k7
      have X7' := Y6.out.kp k7 np
      have pa2 : ¬ (u5.heap.size < p) := by have := hp.out; omega
      have YE7 : Hid _ := XE6.out.kp k7 pa
      have YB7 : Hid _ := XB6.out.kp k7 pa2
      have R7' : Hid _ := r7
      have Y7' : Hid _ := X7'
      clear r7 k7
      go_wp2_with fail
      refine Calls.mono (EL2.out _ R7'.out) ?_
      rintro e u8 ⟨la, lc, rfl, xl, r8, k8⟩
      have X8 := Y7'.out.kp k8 np
      have K8 : Hid (Kp p (w.alloc zS) u8) := K7'.out.trans k8
      have z8 : u5.heap.size < u8.heap.size := X8.lt
      have Y8 : Hid _ := X8.set6 (.slice la el.length lc)
      have R8 : Hid _ := r8.set (q := ⟨u5.heap.size, 6, none⟩) np nb (.slice la el.length lc)
      have KS8 : Hid (Kp p (w.alloc zS) (u8.setCell ⟨u5.heap.size, 6, none⟩ (.slice la el.length lc))) := K8.out.set (.inl (by simp; omega)) _
      have XE8 : Hid _ := (YE7.out.kp k8 pa).set (a := ⟨u5.heap.size, 6, none⟩) (fun h => Nat.lt_irrefl _ h.2) (.slice la el.length lc)
      have XB8 : Hid _ := (YB7.out.kp k8 pa2).set (a := ⟨u5.heap.size, 6, none⟩) (Nat.lt_irrefl _) (.slice la el.length lc)
      have z7 : u5.heap.size < u7.heap.size := Y7'.out.lt
      have XL8 : Hid (SmS (fun g => u5.heap.size < g) (u8.setCell ⟨u5.heap.size, 6, none⟩ (.slice la el.length lc)) (.slice la el.length lc) el) := (xl.mono (A' := fun g => u5.heap.size < g) fun g _ hA => Nat.lt_of_lt_of_le z7 hA).set (a := ⟨u5.heap.size, 6, none⟩) (Nat.lt_irrefl _) _
      obtain ⟨q0, q1, q2, q3, q4, q5, q6, f0, f1, f2, f3, f4, f5, f6, zq⟩ := X8
      clear xl r8 k8 X7'
      go_upto_region 13 with fail
      generalize u8.setCell ⟨u5.heap.size, 6, none⟩ (.slice la el.length lc) = u9 at *
      clear q0 q1 q2 q3 q4 q5 q6 f0 f1 f2 f3 f4 f5 f6 zq
      have K7 : Hid _ := KS8.out
      have X7 := Y8.out
      have YE : Hid _ := XE8.out
      have YB : Hid _ := XB8.out
      have YL : Hid _ := XL8.out
      have R7 : Hid _ := R8.out
      obtain ⟨q0, q1, q2, q3, q4, q5, q6, -, -, -, -, -, -, -, zq⟩ := X7
      skip
      go_cut [] from 52 (fun wc => B7 wc w.heap.size (.int .i64 4) (.string ⟨#[]⟩) (.string ⟨#[]⟩) (.int .i64 0) (.slice sa 1 sc) (.slice ba bl.length bc) (.slice la el.length lc) ∧ PostS p b o cap ts w (.mk 4 [] [] 0 [x] bl el) (k3) (.returned (.agg #[.int .i64 4, .string ⟨#[]⟩, .string ⟨#[]⟩, .int .i64 0, .slice sa 1 sc, .slice ba bl.length bc, .slice la el.length lc])) wc)
      case rest =>
        obtain ⟨B, T⟩ := hcut
        have TT : Hid _ := T
        clear q0 q1 q2 q3 q4 q5 q6 T
        obtain ⟨c0, c1, c2, c3, c4, c5, c6, -, -, -, -, -, -, -, zt⟩ := B
        go_wp2_with fail
        refine bodyPost_ret (v := .agg #[.int .i64 4, .string ⟨#[]⟩, .string ⟨#[]⟩, .int .i64 0, .slice sa 1 sc, .slice ba bl.length bc, .slice la el.length lc]) (by simp [results, Try.results75, go_sem, c0, c1, c2, c3, c4, c5, c6]) rfl ?_
        exact TT.out
      case first =>
        have z7 : w.heap.size < u9.heap.size := Nat.lt_of_lt_of_le (by simp) K7.out.size
        have Y7 := R0.out.kp K7.out (by have := hp.out; omega)
        have PB : Hid (B7 (fill7 u9 w.heap.size (.int .i64 4) (.string ⟨#[]⟩) (.string ⟨#[]⟩) (.int .i64 0) (.slice sa 1 sc) (.slice ba bl.length bc) (.slice la el.length lc)) w.heap.size (.int .i64 4) (.string ⟨#[]⟩) (.string ⟨#[]⟩) (.int .i64 0) (.slice sa 1 sc) (.slice ba bl.length bc) (.slice la el.length lc) ∧ PostS p b o cap ts w (.mk 4 [] [] 0 [x] bl el) (k3) (.returned (.agg #[.int .i64 4, .string ⟨#[]⟩, .string ⟨#[]⟩, .int .i64 0, .slice sa 1 sc, .slice ba bl.length bc, .slice la el.length lc])) (fill7 u9 w.heap.size (.int .i64 4) (.string ⟨#[]⟩) (.string ⟨#[]⟩) (.int .i64 0) (.slice sa 1 sc) (.slice ba bl.length bc) (.slice la el.length lc))) := by
          have hp' := hp.out
          have hb' := hb.out
          refine ⟨Y7.fill _ _ _ _ _ _ _, _, _, _, _, _, _, _, _, _, _, _, _, _, rfl, rfl, (YE.out.fill7 (fun h => by omega) _ _ _ _ _ _ _).mono (fun g _ hg => by omega), (YB.out.fill7 (fun h => by omega) _ _ _ _ _ _ _).mono (fun g _ hg => by omega), (YL.out.fill7 (fun h => by omega) _ _ _ _ _ _ _).mono (fun g _ hg => by omega), R7.out.fill7 (by omega) (by omega) _ _ _ _ _ _ _, Kp.fill7 ((Keep.of_below (box_below w zS) (Nat.le_refl _) : Kp p w (w.alloc zS)).trans K7.out) (Nat.le_refl _) _ _ _ _ _ _ _⟩
        obtain ⟨c0, c1, c2, c3, c4, c5, c6, f0, f1, f2, f3, f4, f5, f6, zt⟩ := Y7
        go_wp2_with fail
        go_meet
        case rel => exact PB.out
set_option maxRecDepth 100000 in
set_option maxHeartbeats 4000000 in
theorem rstmt_while (p b o cap : Nat) (ts : List Tok) (d k : Nat) (w : World) (h : Ri w p b o cap ts k 0 0) (hd : d ≤ 60) (hbg : Begs ts k) (f k1 k2 : Nat) (x : Sx.Ex) (bl : List Sy.St) (hlb : bl.length ≤ 100000) (he : ECr p b o cap ts f) (t0 : TkA ts k [119, 104, 105, 108, 101]) (t1 : TkA ts (k + 1) [40]) (hx : Sx.bd ts f 1 (d + 1) (k + 1 + 1) = some (.ok x k1)) (t2 : TkA ts k1 [41]) (t3 : TkA ts (k1 + 1) [123]) (hgl : GL p b o cap ts (d + 1) (k1 + 1 + 1) bl k2) :
    Calls Try.prog 75 #[.pointer (some ⟨p, 0, none⟩), .int .i64 (d : Int)] w (PostS p b o cap ts w (.mk 5 [] [] 0 [x] bl []) (k2)) := by
  have hp : Hid (p < w.heap.size) := h.lt
  have hb : Hid (b < w.heap.size) := h.ta.lt
  have H0 : Hid (Ri (w.alloc zS) p b o cap ts k 0 0) := h.later (box_below _ _)
  have R0 : Hid _ := B7.new w 33 (.int .i64 0) (.string ⟨#[]⟩) (.string ⟨#[]⟩) (.int .i64 0) (.slice none 0 0) (.slice none 0 0) (.slice none 0 0)
  have EK : Hid (∀ W, Ri W p b o cap ts k 0 0 → _) := fun W hW => rkind_ok W p b o cap ts k 0 1 hW
  have EI : Hid (∀ j, j < 7 → ∀ W, Ri W p b o cap ts k 0 0 → _) := fun j hj W hW => ris_any W p b o cap ts k 0 (stW.getD j []) hW (hbg.kd _ (by match j, hj with | 0, _ => decide | 1, _ => decide | 2, _ => decide | 3, _ => decide | 4, _ => decide | 5, _ => decide | 6, _ => decide))
  have EP : Hid (∀ W, Ri W p b o cap ts k 0 0 → _) := fun W hW => rpart_any W p b o cap ts k true d (by omega) hW
  have BG : Hid _ := hbg.yes
  have HD : Hid _ := hd
  have EBr : Hid (∀ W, Ri W p b o cap ts (k + 1) 0 0 → Calls Try.prog 83 #[.pointer (some ⟨p, 0, none⟩), .int .i64 ((d : Int) + 1)] W (PostL p b o cap ts W [x] (k1 + 1))) := fun W hW => rbr_ok p b o cap ts f (d + 1) (k + 1) k1 x he (by omega) W hW t1 hx t2
  have EBl : Hid (∀ W, Ri W p b o cap ts (k1 + 1) 0 0 → Calls Try.prog 60 #[.pointer (some ⟨p, 0, none⟩), .int .i64 ((d : Int) + 1)] W (PostSL p b o cap ts W bl k2)) := fun W hW => rblock_ok p b o cap ts (d + 1) (k1 + 1) k2 bl hlb W hW t3 hgl
  have EY : Hid (∀ W, Ri W p b o cap ts k 0 0 → _) := fun W hW => rgot_yes W p b o cap ts k 0 [119, 104, 105, 108, 101] hW t0.tx t0.kd t0.lt
  have EN1 : Hid (∀ W, Ri W p b o cap ts k 0 0 → _) := fun W hW => rgot_no W p b o cap ts k 0 0 [105, 102] hW (.inr (by rw [t0.tx]; decide))
  clear hlb he t0 t1 hx t2 t3 hgl
  clear h hbg hd
  go_enter Try.func75, Try.ntmps75
  go_wp2_with fail
  refine Calls.mono (EK.out _ H0.out) ?_
  rintro e u1 ⟨rfl, b1⟩
  obtain ⟨V, hV⟩ : ∃ V, V = u1.alloc (.cells #[.string ⟨#[118, 97, 114]⟩, .string ⟨#[105, 102]⟩, .string ⟨#[119, 104, 105, 108, 101]⟩, .string ⟨#[114, 101, 116, 117, 114, 110]⟩, .string ⟨#[112, 114, 105, 110, 116]⟩, .string ⟨#[114, 101, 97, 100]⟩, .string ⟨#[97, 115, 115, 101, 114, 116]⟩] 9) := ⟨_, rfl⟩
  have bV : Below u1.heap.size u1 V := by rw [hV]; exact box_below _ _
  have BV : Hid (Below (w.alloc zS).heap.size (w.alloc zS) V) := b1.trans (bV.mono b1.size)
  have CV : Hid (∀ j, j < 7 → V.cell? ⟨u1.heap.size, j, none⟩ = some (.string ⟨(stW.getD j []).toArray⟩)) := fun j hj => by rw [hV]; exact stA_get u1 _ j hj
  have zV : Hid (u1.heap.size < V.heap.size) := by unfold Hid; rw [hV]; simp
  have K0 : Hid (((ts.getD k tok0).1.kind == 1) = begS ts k 0) := by unfold Hid begS; simp
  rw [K0.out]
  clear b1 bV K0
  go_wp2_with fail
  rw [← hV]
  clear hV
  go_loopg [5, 7] 7 (fun gk v i wr => StL ts k V gk v i wr)
  case atStart => exact ⟨0, by omega, rfl, rfl, rfl, Below.refl _ _⟩
  case round =>
    obtain ⟨j, hj, hgk, rfl, rfl, hnx⟩ := hrel
    have GK : Hid _ := hgk
    have NX : Hid _ := hnx
    have NW : Hid (Below (w.alloc zS).heap.size (w.alloc zS) wr) := BV.out.trans (hnx.mono BV.out.size)
    clear hgk hnx
    by_cases hlt : j < 7
    · have hji : (j : Int) < 7 := by omega
      have hj0 : (0 : Int) ≤ (j : Int) := by omega
      have cj := (NX.out.cell (p := ⟨u1.heap.size, j, none⟩) zV.out).trans (CV.out j hlt)
      have ST : Hid _ := begS_step ts k j hlt
      generalize hs : stW.getD j [] = s at cj ST
      have E1 : Hid _ := EI.out j hlt wr (H0.out.later NW.out)
      rw [hs] at E1
      clear hs
      cases hbj : begS ts k j with
      | true =>
        rw [hbj] at ST
        have ST' : Hid (begS ts k (j + 1) = true) := ST.out
        clear hbj
        go_wp2_with fail
        go_roundg (7 - (j + 1))
        case measure => have := GK.out; omega
        case rel => exact ⟨j + 1, by omega, rfl, by go_num, by rw [ST'.out], NX.out⟩
      | false =>
        rw [hbj] at ST
        clear hbj
        go_wp2_with fail
        refine Calls.mono E1.out ?_
        rintro e u2 ⟨rfl, b2⟩
        have N2 : Hid (Below V.heap.size V u2) := NX.out.trans (b2.mono NX.out.size)
        have ST' : Hid (begS ts k (j + 1) = decide (Sx.tx ts k = s)) := ST.out
        clear b2
        go_wp2_with fail
        go_roundg (7 - (j + 1))
        case measure => have := GK.out; omega
        case rel => exact ⟨j + 1, by omega, rfl, by go_num, by rw [ST'.out], N2.out⟩
    · obtain rfl : j = 7 := by omega
      rw [BG.out]
      have H1 : Hid _ := H0.out.later NW.out
      clear GK EI EK CV
      go_wp2_with fail
      refine Calls.mono (EP.out _ H1.out) ?_
      rintro e u3 ⟨rfl, k3, hcase⟩
      have R3 : Ri u3 p b o cap ts k 0 0 := by
        rcases hcase with ⟨e, _⟩ | ⟨_, e, _⟩ | ⟨_, _, e⟩
        · cases e
        · have := HD.out; omega
        · exact e
      have H3 : Hid _ := R3
      have K3 : Hid (Kp p (w.alloc zS) u3) := (Keep.of_below NW.out (Nat.le_refl _) : Kp p (w.alloc zS) wr).trans k3
      clear hcase R3 k3
      go_wp2_with fail
      refine Calls.mono (EN1.out _ H3.out) ?_
      rintro e u0 ⟨rfl, b0⟩
      have H3' : Hid _ := H3.out.later b0
      have K3' : Hid (Kp p (w.alloc zS) u0) := K3.out.trans (Keep.of_below b0 (Nat.le_refl _))
      clear b0
      go_wp2_with fail
      refine Calls.mono (EY.out _ H3'.out) ?_
      rintro e u4 ⟨rfl, r4, k4⟩
      have H4 : Hid _ := r4
      have K4 : Hid (Kp p (w.alloc zS) u4) := K3'.out.trans k4
      have hw1 : IntKind.i64.wrap ((d : Int) + 1) = (d : Int) + 1 := by have := HD.out; rw [IntKind.wrap_i64]; omega
      clear r4 k4
      go_wp2_with fail
      refine Calls.mono (EBr.out _ H4.out) ?_
      rintro e u5 ⟨sa, sc, rfl, xe, r5, k5⟩
      have K5 : Hid (Kp p (w.alloc zS) u5) := K4.out.trans k5
      have z4 : w.heap.size < u4.heap.size := Nat.lt_of_lt_of_le (by simp) K4.out.size
      have z5 : w.heap.size < u5.heap.size := Nat.lt_of_lt_of_le (by simp) K5.out.size
      have nz : ¬ u5.heap.size = w.heap.size := by omega
      have nz' : ¬ w.heap.size = u5.heap.size := by omega
      have np : u5.heap.size ≠ p := by have := hp.out; omega
      have nb : u5.heap.size ≠ b := by have := hb.out; omega
      obtain ⟨V5, hV5⟩ : ∃ V5, V5 = u5.alloc (.cells #[.int .i64 5, .string ⟨#[]⟩, .string ⟨#[]⟩, .int .i64 0, .slice sa 1 sc, .slice none 0 0, .slice none 0 0] 33) := ⟨_, rfl⟩
      have bV : Below u5.heap.size u5 V5 := by rw [hV5]; exact box_below _ _
      have XV : Hid (B7 V5 u5.heap.size (.int .i64 5) (.string ⟨#[]⟩) (.string ⟨#[]⟩) (.int .i64 0) (.slice sa 1 sc) (.slice none 0 0) (.slice none 0 0)) := by rw [hV5]; exact B7.new u5 _ _ _ _ _ _ _ _
      have RV : Hid _ := r5.later bV
      have KV : Hid (Kp p (w.alloc zS) V5) := K5.out.trans (Keep.of_below bV (Nat.le_refl _))
      have zV : u5.heap.size < V5.heap.size := XV.out.lt
      have XE : Hid (ExS (fun g => w.heap.size < g ∧ g < u5.heap.size) V5 (.slice sa 1 sc) [x]) := (xe.mono (A' := fun g => w.heap.size < g ∧ g < u5.heap.size) fun g hg hA => ⟨by omega, hg⟩).later bV (Nat.le_refl _)
      clear xe r5 k5 bV
      go_wp2_with fail
      rw [← hV5]
      clear hV5
      refine Calls.mono (EBl.out _ RV.out) ?_
      rintro e u6 ⟨ba, bc, rfl, xb, r6, k6⟩
      have pa : ¬ (w.heap.size < p ∧ p < u5.heap.size) := by have := hp.out; omega
      have X6 := XV.out.kp k6 np
      have K6 : Hid (Kp p (w.alloc zS) u6) := KV.out.trans k6
      have z6 : u5.heap.size < u6.heap.size := X6.lt
      have Y6 : Hid _ := X6.set5 (.slice ba bl.length bc)
      have R6 : Hid _ := r6.set (q := ⟨u5.heap.size, 5, none⟩) np nb (.slice ba bl.length bc)
      have KS : Hid (Kp p (w.alloc zS) (u6.setCell ⟨u5.heap.size, 5, none⟩ (.slice ba bl.length bc))) := K6.out.set (.inl (by simp; omega)) _
      have XE6 : Hid _ := (XE.out.kp k6 pa).set (a := ⟨u5.heap.size, 5, none⟩) (fun h => Nat.lt_irrefl _ h.2) (.slice ba bl.length bc)
      have XB6 : Hid (SmS (fun g => u5.heap.size < g) (u6.setCell ⟨u5.heap.size, 5, none⟩ (.slice ba bl.length bc)) (.slice ba bl.length bc) bl) := (xb.mono (A' := fun g => u5.heap.size < g) fun g _ hA => Nat.lt_of_lt_of_le zV hA).set (a := ⟨u5.heap.size, 5, none⟩) (Nat.lt_irrefl _) _
      have zs6 : (u6.setCell ⟨u5.heap.size, 5, none⟩ (.slice ba bl.length bc)).heap.size = u6.heap.size := by simp
      obtain ⟨q0, q1, q2, q3, q4, q5, q6, f0, f1, f2, f3, f4, f5, f6, zq⟩ := X6
      clear xb r6 k6
      go_upto_region 17 with fail
      generalize u6.setCell ⟨u5.heap.size, 5, none⟩ (.slice ba bl.length bc) = U6 at *
      clear q0 q1 q2 q3 q4 q5 q6 f0 f1 f2 f3 f4 f5 f6 zq
      have K7 : Hid _ := KS.out
      have X7 := Y6.out
      have YE : Hid _ := XE6.out
      have YB : Hid _ := XB6.out
      have R7 : Hid _ := R6.out
      obtain ⟨q0, q1, q2, q3, q4, q5, q6, -, -, -, -, -, -, -, zq⟩ := X7
      skip
      go_cut [] from 65 (fun wc => B7 wc w.heap.size (.int .i64 5) (.string ⟨#[]⟩) (.string ⟨#[]⟩) (.int .i64 0) (.slice sa 1 sc) (.slice ba bl.length bc) (.slice none 0 0) ∧ PostS p b o cap ts w (.mk 5 [] [] 0 [x] bl []) (k2) (.returned (.agg #[.int .i64 5, .string ⟨#[]⟩, .string ⟨#[]⟩, .int .i64 0, .slice sa 1 sc, .slice ba bl.length bc, .slice none 0 0])) wc)
      case rest =>
        obtain ⟨B, T⟩ := hcut
        have TT : Hid _ := T
        clear q0 q1 q2 q3 q4 q5 q6 T
        obtain ⟨c0, c1, c2, c3, c4, c5, c6, -, -, -, -, -, -, -, zt⟩ := B
        go_wp2_with fail
        refine bodyPost_ret (v := .agg #[.int .i64 5, .string ⟨#[]⟩, .string ⟨#[]⟩, .int .i64 0, .slice sa 1 sc, .slice ba bl.length bc, .slice none 0 0]) (by simp [results, Try.results75, go_sem, c0, c1, c2, c3, c4, c5, c6]) rfl ?_
        exact TT.out
      case first =>
        have z7 : w.heap.size < U6.heap.size := Nat.lt_of_lt_of_le (by simp) K7.out.size
        have Y7 := R0.out.kp K7.out (by have := hp.out; omega)
        have PB : Hid (B7 (fill7 U6 w.heap.size (.int .i64 5) (.string ⟨#[]⟩) (.string ⟨#[]⟩) (.int .i64 0) (.slice sa 1 sc) (.slice ba bl.length bc) (.slice none 0 0)) w.heap.size (.int .i64 5) (.string ⟨#[]⟩) (.string ⟨#[]⟩) (.int .i64 0) (.slice sa 1 sc) (.slice ba bl.length bc) (.slice none 0 0) ∧ PostS p b o cap ts w (.mk 5 [] [] 0 [x] bl []) (k2) (.returned (.agg #[.int .i64 5, .string ⟨#[]⟩, .string ⟨#[]⟩, .int .i64 0, .slice sa 1 sc, .slice ba bl.length bc, .slice none 0 0])) (fill7 U6 w.heap.size (.int .i64 5) (.string ⟨#[]⟩) (.string ⟨#[]⟩) (.int .i64 0) (.slice sa 1 sc) (.slice ba bl.length bc) (.slice none 0 0))) := by
          have hp' := hp.out
          have hb' := hb.out
          refine ⟨Y7.fill _ _ _ _ _ _ _, _, _, _, _, _, _, _, _, _, _, _, _, _, rfl, rfl, (YE.out.fill7 (fun h => by omega) _ _ _ _ _ _ _).mono (fun g _ hg => by omega), (YB.out.fill7 (fun h => by omega) _ _ _ _ _ _ _).mono (fun g _ hg => by omega), .nil _ _, R7.out.fill7 (by omega) (by omega) _ _ _ _ _ _ _, Kp.fill7 ((Keep.of_below (box_below w zS) (Nat.le_refl _) : Kp p w (w.alloc zS)).trans K7.out) (Nat.le_refl _) _ _ _ _ _ _ _⟩
        obtain ⟨c0, c1, c2, c3, c4, c5, c6, f0, f1, f2, f3, f4, f5, f6, zt⟩ := Y7
        go_wp2_with fail
        go_meet
        case rel => exact PB.out
end Go.Proofs.Ytobiedmmjiedlaa
