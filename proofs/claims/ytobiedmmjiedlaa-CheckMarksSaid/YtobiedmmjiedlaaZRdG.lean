/- The document's reader of programs, where it reads on: statements. -/
/- The document's reader of programs, where it reads on: blocks. -/
/- The document's reader of programs, where it reads on: a block whole. -/
import Derived.Test.YtobiedmmjiedlaaZRdC
import Derived.Test.YtobiedmmjiedlaaZRdD
import Derived.Deep.LoopGhost
namespace Go.Proofs.Ytobiedmmjiedlaa
open Go.RowKit

/-- The words with which statements begin. -/
def stW : List (List UInt8) := [[118, 97, 114], [105, 102], [119, 104, 105, 108, 101], [114, 101, 116, 117, 114, 110], [112, 114, 105, 110, 116], [114, 101, 97, 100], [97, 115, 115, 101, 114, 116]]
def begS (ts : List Tok) (k j : Nat) : Bool := ((ts.getD k tok0).1.kind == 1) || (stW.take j).any fun s => decide (Sx.tx ts k = s)
theorem begS_step (ts : List Tok) (k j : Nat) (hj : j < 7) : begS ts k (j + 1) = (begS ts k j || decide (Sx.tx ts k = stW.getD j [])) := by
  unfold begS
  have : stW.take (j + 1) = stW.take j ++ [stW.getD j []] := by
    match j, hj with
    | 0, _ => rfl | 1, _ => rfl | 2, _ => rfl | 3, _ => rfl | 4, _ => rfl | 5, _ => rfl | 6, _ => rfl
  rw [this, List.any_append]
  simp [Bool.or_assoc]
abbrev stA : Obj := .cells #[.string ⟨#[118, 97, 114]⟩, .string ⟨#[105, 102]⟩, .string ⟨#[119, 104, 105, 108, 101]⟩, .string ⟨#[114, 101, 116, 117, 114, 110]⟩, .string ⟨#[112, 114, 105, 110, 116]⟩, .string ⟨#[114, 101, 97, 100]⟩, .string ⟨#[97, 115, 115, 101, 114, 116]⟩] 110
theorem stA_get (w : World) (t : TypeId) (j : Nat) (hj : j < 7) : (w.alloc (.cells #[.string ⟨#[118, 97, 114]⟩, .string ⟨#[105, 102]⟩, .string ⟨#[119, 104, 105, 108, 101]⟩, .string ⟨#[114, 101, 116, 117, 114, 110]⟩, .string ⟨#[112, 114, 105, 110, 116]⟩, .string ⟨#[114, 101, 97, 100]⟩, .string ⟨#[97, 115, 115, 101, 114, 116]⟩] t)).cell? ⟨w.heap.size, j, none⟩ = some (.string ⟨(stW.getD j []).toArray⟩) := by
  rw [World.cell?_alloc_at _ _ _ _ rfl]
  match j, hj with
  | 0, _ => rfl | 1, _ => rfl | 2, _ => rfl | 3, _ => rfl | 4, _ => rfl | 5, _ => rfl | 6, _ => rfl
/-- A statement begins at token k. -/
structure Begs (ts : List Tok) (k : Nat) : Prop where
  yes : begS ts k 7 = true
  kd : ∀ s, s ∈ stW → Sx.tx ts k = s → (ts.getD k tok0).1.kind = 3 ∨ (ts.getD k tok0).1.kind = 4
def StL (ts : List Tok) (k : Nat) (V : World) (gk : Nat) (v i : Value) (wr : World) : Prop := ∃ j : Nat, j ≤ 7 ∧ gk = 7 - j ∧ i = .int .i64 j ∧ v = .bool (begS ts k j) ∧ Below V.heap.size V wr
theorem fill7_cell (w : World) (g : Nat) (a0 a1 a2 a3 a4 a5 a6 : Value) (q : Addr) (h : q.block ≠ g) : (fill7 w g a0 a1 a2 a3 a4 a5 a6).cell? q = w.cell? q := by
  have key : ∀ n, (⟨g, n, none⟩ : Addr) ≠ q := fun n e => h (by rw [← e])
  unfold fill7
  rw [World.cell?_setCell_other _ _ _ _ (key 6), World.cell?_setCell_other _ _ _ _ (key 5), World.cell?_setCell_other _ _ _ _ (key 4), World.cell?_setCell_other _ _ _ _ (key 3), World.cell?_setCell_other _ _ _ _ (key 2), World.cell?_setCell_other _ _ _ _ (key 1), World.cell?_setCell_other _ _ _ _ (key 0)]
theorem SmS.fill7 {A : Nat → Prop} {w : World} {sl : Value} {l : List Sy.St} (h : SmS A w sl l) {g : Nat} (ha : ¬ A g) (a0 a1 a2 a3 a4 a5 a6 : Value) : SmS A (Go.Proofs.Ytobiedmmjiedlaa.fill7 w g a0 a1 a2 a3 a4 a5 a6) sl l :=
  h.keep (fun _ _ a => a) (fun q hA _ => fill7_cell w g a0 a1 a2 a3 a4 a5 a6 q (fun e => ha (e ▸ hA))) (by rw [fill7_size]; exact Nat.le_refl _)
theorem SmS.kp {A : Nat → Prop} {p : Nat} {w w' : World} {sl : Value} {l : List Sy.St} (h : SmS A w sl l) (m : Kp p w w') (hp : ¬ A p) : SmS A w' sl l :=
  h.keep (fun _ _ a => a) (fun _ hA hq => m.cell hq (fun e => hp (e ▸ hA))) m.size
set_option maxRecDepth 100000 in
set_option maxHeartbeats 4000000 in
theorem rstmt_short (p b o cap : Nat) (ts : List Tok) (d k : Nat) (w : World) (h : Ri w p b o cap ts k 0 0) (hd : d ≤ 60) (hbg : Begs ts k) (s : Sy.St) (k1 : Nat) (n1 : ¬ (ts.getD k tok0).1.text = [105, 102]) (n2 : ¬ (ts.getD k tok0).1.text = [119, 104, 105, 108, 101]) (hsh : ∀ W, Ri W p b o cap ts k 0 0 → Calls Try.prog 84 #[.pointer (some ⟨p, 0, none⟩), .int .i64 ((d : Int) + 1)] W (PostS p b o cap ts W s k1)) (t1 : TkA ts k1 [59]) :
    Calls Try.prog 75 #[.pointer (some ⟨p, 0, none⟩), .int .i64 (d : Int)] w (PostS p b o cap ts w (s) (k1 + 1)) := by
  have hp : Hid (p < w.heap.size) := h.lt
  have hb : Hid (b < w.heap.size) := h.ta.lt
  have H0 : Hid (Ri (w.alloc zS) p b o cap ts k 0 0) := h.later (box_below _ _)
  have R0 : Hid _ := B7.new w 33 (.int .i64 0) (.string ⟨#[]⟩) (.string ⟨#[]⟩) (.int .i64 0) (.slice none 0 0) (.slice none 0 0) (.slice none 0 0)
  have EK : Hid (∀ W, Ri W p b o cap ts k 0 0 → _) := fun W hW => rkind_ok W p b o cap ts k 0 1 hW
  have EI : Hid (∀ j, j < 7 → ∀ W, Ri W p b o cap ts k 0 0 → _) := fun j hj W hW => ris_any W p b o cap ts k 0 (stW.getD j []) hW (hbg.kd _ (by match j, hj with | 0, _ => decide | 1, _ => decide | 2, _ => decide | 3, _ => decide | 4, _ => decide | 5, _ => decide | 6, _ => decide))
  have EP : Hid (∀ W, Ri W p b o cap ts k 0 0 → _) := fun W hW => rpart_any W p b o cap ts k true d (by omega) hW
  have BG : Hid _ := hbg.yes
  have HD : Hid _ := hd
  have EN1 : Hid (∀ W, Ri W p b o cap ts k 0 0 → _) := fun W hW => rgot_no W p b o cap ts k 0 0 [105, 102] hW (.inr n1)
  have EN2 : Hid (∀ W, Ri W p b o cap ts k 0 0 → _) := fun W hW => rgot_no W p b o cap ts k 0 0 [119, 104, 105, 108, 101] hW (.inr n2)
  have ESh : Hid _ := hsh
  have EW : Hid (∀ W, Ri W p b o cap ts k1 0 0 → _) := fun W hW => rwant_yes W p b o cap ts k1 0 [59] hW t1.tx t1.kd t1.lt
  clear n1 n2 hsh t1
  clear h hbg hd
  go_enter Try.func75, Try.ntmps75
  go_wp2_with fail
  refine Calls.mono (EK.out _ H0.out) ?_
  rintro e u1 ⟨rfl, b1⟩
  obtain ⟨V, hV⟩ : ∃ V, V = u1.alloc (.cells #[.string ⟨#[118, 97, 114]⟩, .string ⟨#[105, 102]⟩, .string ⟨#[119, 104, 105, 108, 101]⟩, .string ⟨#[114, 101, 116, 117, 114, 110]⟩, .string ⟨#[112, 114, 105, 110, 116]⟩, .string ⟨#[114, 101, 97, 100]⟩, .string ⟨#[97, 115, 115, 101, 114, 116]⟩] 9) := ⟨_, rfl⟩
  have bV : Below u1.heap.size u1 V := by rw [hV]; exact box_below _ _
  have BV : Hid (Below (w.alloc zS).heap.size (w.alloc zS) V) := b1.trans (bV.mono b1.size)
  have CV : Hid (∀ j, j < 7 → V.cell? ⟨u1.heap.size, j, none⟩ = some (.string ⟨(stW.getD j []).toArray⟩)) := fun j hj => by rw [hV]; exact stA_get u1 _ j hj
  have zV : Hid (u1.heap.size < V.heap.size) := by unfold Hid; rw [hV]; simp
  have K0 : Hid (((ts.getD k tok0).1.kind == 1) = begS ts k 0) := by unfold Hid begS; simp
  rw [K0.out]
  clear b1 bV K0
  go_wp2_with fail
  rw [← hV]
  clear hV
  go_loopg [5, 7] 7 (fun gk v i wr => StL ts k V gk v i wr)
  case atStart => exact ⟨0, by omega, rfl, rfl, rfl, Below.refl _ _⟩
  case round =>
    obtain ⟨j, hj, hgk, rfl, rfl, hnx⟩ := hrel
    have GK : Hid _ := hgk
    have NX : Hid _ := hnx
    have NW : Hid (Below (w.alloc zS).heap.size (w.alloc zS) wr) := BV.out.trans (hnx.mono BV.out.size)
    clear hgk hnx
    by_cases hlt : j < 7
    · have hji : (j : Int) < 7 := by omega
      have hj0 : (0 : Int) ≤ (j : Int) := by omega
      have cj := (NX.out.cell (p := ⟨u1.heap.size, j, none⟩) zV.out).trans (CV.out j hlt)
      have ST : Hid _ := begS_step ts k j hlt
      generalize hs : stW.getD j [] = s at cj ST
      have E1 : Hid _ := EI.out j hlt wr (H0.out.later NW.out)
      rw [hs] at E1
      clear hs
      cases hbj : begS ts k j with
      | true =>
        rw [hbj] at ST
        have ST' : Hid (begS ts k (j + 1) = true) := ST.out
        clear hbj
        go_wp2_with fail
        go_roundg (7 - (j + 1))
        case measure => have := GK.out; omega
        case rel => exact ⟨j + 1, by omega, rfl, by go_num, by rw [ST'.out], NX.out⟩
      | false =>
        rw [hbj] at ST
        clear hbj
        go_wp2_with fail
        refine Calls.mono E1.out ?_
        rintro e u2 ⟨rfl, b2⟩
        have N2 : Hid (Below V.heap.size V u2) := NX.out.trans (b2.mono NX.out.size)
        have ST' : Hid (begS ts k (j + 1) = decide (Sx.tx ts k = s)) := ST.out
        clear b2
        go_wp2_with fail
        go_roundg (7 - (j + 1))
        case measure => have := GK.out; omega
        case rel => exact ⟨j + 1, by omega, rfl, by go_num, by rw [ST'.out], N2.out⟩
    · obtain rfl : j = 7 := by omega
      rw [BG.out]
      have H1 : Hid _ := H0.out.later NW.out
      clear GK EI EK CV
      go_wp2_with fail
      refine Calls.mono (EP.out _ H1.out) ?_
      rintro e u3 ⟨rfl, k3, hcase⟩
      have R3 : Ri u3 p b o cap ts k 0 0 := by
        rcases hcase with ⟨e, _⟩ | ⟨_, e, _⟩ | ⟨_, _, e⟩
        · cases e
        · have := HD.out; omega
        · exact e
      have H3 : Hid _ := R3
      have K3 : Hid (Kp p (w.alloc zS) u3) := (Keep.of_below NW.out (Nat.le_refl _) : Kp p (w.alloc zS) wr).trans k3
      clear hcase R3 k3
      go_wp2_with fail
      refine Calls.mono (EN1.out _ H3.out) ?_
      rintro e u4 ⟨rfl, b4⟩
      have H4 : Hid _ := H3.out.later b4
      have K4 : Hid (Kp p (w.alloc zS) u4) := K3.out.trans (Keep.of_below b4 (Nat.le_refl _))
      clear b4
      go_wp2_with fail
      refine Calls.mono (EN2.out _ H4.out) ?_
      rintro e u5 ⟨rfl, b5⟩
      have H5 : Hid _ := H4.out.later b5
      have K5 : Hid (Kp p (w.alloc zS) u5) := K4.out.trans (Keep.of_below b5 (Nat.le_refl _))
      have hw1 : IntKind.i64.wrap ((d : Int) + 1) = (d : Int) + 1 := by have := HD.out; rw [IntKind.wrap_i64]; omega
      clear b5
      go_wp2_with fail
      refine Calls.mono (ESh.out _ H5.out) ?_
      rintro e u6 ⟨kk, nn, pp, mm, ex, bo, el, sa, sc, ba, bc, la, lc, rfl, rfl, xe, xb, xl, r6, k6⟩
      have K6 : Hid (Kp p (w.alloc zS) u6) := K5.out.trans k6
      have z5 : w.heap.size < u5.heap.size := Nat.lt_of_lt_of_le (by simp) K5.out.size
      have z6 : w.heap.size < u6.heap.size := Nat.lt_of_lt_of_le (by simp) K6.out.size
      have nz : ¬ u6.heap.size = w.heap.size := by omega
      have nz' : ¬ w.heap.size = u6.heap.size := by omega
      have np : u6.heap.size ≠ p := by have := hp.out; omega
      obtain ⟨V6, hV6⟩ : ∃ V6, V6 = u6.alloc (.cells #[.int .i64 kk, .string ⟨nn.toArray⟩, .string ⟨pp.toArray⟩, .int .i64 mm, .slice sa ex.length sc, .slice ba bo.length bc, .slice la el.length lc] 33) := ⟨_, rfl⟩
      have bV : Below u6.heap.size u6 V6 := by rw [hV6]; exact box_below _ _
      have XV : Hid (B7 V6 u6.heap.size (.int .i64 kk) (.string ⟨nn.toArray⟩) (.string ⟨pp.toArray⟩) (.int .i64 mm) (.slice sa ex.length sc) (.slice ba bo.length bc) (.slice la el.length lc)) := by rw [hV6]; exact B7.new u6 _ _ _ _ _ _ _ _
      have RV : Hid _ := r6.later bV
      have KV : Hid (Kp p (w.alloc zS) V6) := K6.out.trans (Keep.of_below bV (Nat.le_refl _))
      have XE : Hid (ExS (fun g => w.heap.size < g) V6 (.slice sa ex.length sc) ex) := (xe.later bV (Nat.le_refl _)).mono fun g _ hg => by omega
      have XB : Hid (SmS (fun g => w.heap.size < g) V6 (.slice ba bo.length bc) bo) := (xb.later bV (Nat.le_refl _)).mono fun g _ hg => by omega
      have XL : Hid (SmS (fun g => w.heap.size < g) V6 (.slice la el.length lc) el) := (xl.later bV (Nat.le_refl _)).mono fun g _ hg => by omega
      clear xe xb xl r6 k6 bV
      go_wp2_with fail
      rw [← hV6]
      clear hV6
      refine Calls.mono (EW.out _ RV.out) ?_
      rintro e u7 ⟨rfl, r7, k7⟩
      have K7 : Hid (Kp p (w.alloc zS) u7) := KV.out.trans k7
      have X7 := XV.out.kp k7 np
      have pa : ¬ (w.heap.size < p) := by have := hp.out; omega
      have YE : Hid _ := XE.out.kp k7 pa
      have YB : Hid _ := XB.out.kp k7 pa
      have YL : Hid _ := XL.out.kp k7 pa
      have R7 : Hid _ := r7
      obtain ⟨q0, q1, q2, q3, q4, q5, q6, -, -, -, -, -, -, -, zq⟩ := X7
      clear r7 k7
      go_upto_region 20 with fail
      go_cut [] from 72 (fun wc => B7 wc w.heap.size (.int .i64 kk) (.string ⟨nn.toArray⟩) (.string ⟨pp.toArray⟩) (.int .i64 mm) (.slice sa ex.length sc) (.slice ba bo.length bc) (.slice la el.length lc) ∧ PostS p b o cap ts w (.mk kk nn pp mm ex bo el) (k1 + 1) (.returned (.agg #[.int .i64 kk, .string ⟨nn.toArray⟩, .string ⟨pp.toArray⟩, .int .i64 mm, .slice sa ex.length sc, .slice ba bo.length bc, .slice la el.length lc])) wc)
      case rest =>
        obtain ⟨B, T⟩ := hcut
        have TT : Hid _ := T
        clear q0 q1 q2 q3 q4 q5 q6 T
        obtain ⟨c0, c1, c2, c3, c4, c5, c6, -, -, -, -, -, -, -, zt⟩ := B
        go_wp2_with fail
        refine bodyPost_ret (v := .agg #[.int .i64 kk, .string ⟨nn.toArray⟩, .string ⟨pp.toArray⟩, .int .i64 mm, .slice sa ex.length sc, .slice ba bo.length bc, .slice la el.length lc]) (by simp [results, Try.results75, go_sem, c0, c1, c2, c3, c4, c5, c6]) rfl ?_
        exact TT.out
      case first =>
        have z7 : w.heap.size < u7.heap.size := Nat.lt_of_lt_of_le (by simp) K7.out.size
        have Y7 := R0.out.kp K7.out (by have := hp.out; omega)
        have PB : Hid (B7 (fill7 u7 w.heap.size (.int .i64 kk) (.string ⟨nn.toArray⟩) (.string ⟨pp.toArray⟩) (.int .i64 mm) (.slice sa ex.length sc) (.slice ba bo.length bc) (.slice la el.length lc)) w.heap.size (.int .i64 kk) (.string ⟨nn.toArray⟩) (.string ⟨pp.toArray⟩) (.int .i64 mm) (.slice sa ex.length sc) (.slice ba bo.length bc) (.slice la el.length lc) ∧ PostS p b o cap ts w (.mk kk nn pp mm ex bo el) (k1 + 1) (.returned (.agg #[.int .i64 kk, .string ⟨nn.toArray⟩, .string ⟨pp.toArray⟩, .int .i64 mm, .slice sa ex.length sc, .slice ba bo.length bc, .slice la el.length lc])) (fill7 u7 w.heap.size (.int .i64 kk) (.string ⟨nn.toArray⟩) (.string ⟨pp.toArray⟩) (.int .i64 mm) (.slice sa ex.length sc) (.slice ba bo.length bc) (.slice la el.length lc))) := by
          have hp' := hp.out
          have hb' := hb.out
          refine ⟨Y7.fill _ _ _ _ _ _ _, kk, nn, pp, mm, ex, bo, el, sa, sc, ba, bc, la, lc, rfl, rfl, (YE.out.fill7 (Nat.lt_irrefl _) _ _ _ _ _ _ _).mono (fun g _ hg => Nat.le_of_lt hg), (YB.out.fill7 (Nat.lt_irrefl _) _ _ _ _ _ _ _).mono (fun g _ hg => Nat.le_of_lt hg), (YL.out.fill7 (Nat.lt_irrefl _) _ _ _ _ _ _ _).mono (fun g _ hg => Nat.le_of_lt hg), R7.out.fill7 (by omega) (by omega) _ _ _ _ _ _ _, Kp.fill7 ((Keep.of_below (box_below w zS) (Nat.le_refl _) : Kp p w (w.alloc zS)).trans K7.out) (Nat.le_refl _) _ _ _ _ _ _ _⟩
        obtain ⟨c0, c1, c2, c3, c4, c5, c6, f0, f1, f2, f3, f4, f5, f6, zt⟩ := Y7
        go_wp2_with fail
        go_meet
        case rel => exact PB.out
end Go.Proofs.Ytobiedmmjiedlaa

namespace Go.Proofs.Ytobiedmmjiedlaa
open Go.RowKit

theorem own_kp {p : Nat} {w w' : World} {base size n : Nat} {e : TypeId} {v : Value} {xs : List Value} (h : w.ownsRow base e size v n xs) (m : Kp p w w') (hp : p < base) : w'.ownsRow base e size v n xs := by
  refine ⟨h.1, ?_⟩
  rcases h.2 with h2 | ⟨g, cap, cur, e1, e2, e3, e4⟩
  · exact .inl h2
  · have hg : g < w.heap.size := by
      rcases Nat.lt_or_ge g w.heap.size with c | c
      · exact c
      · rw [Array.getElem?_eq_none c] at e3; cases e3
    exact .inr ⟨g, cap, cur, e1, e2, (m.block g hg (by show ¬ g = p; omega)).trans e3, e4⟩
/-- One statement that was read, in the row's cells. -/
structure MadeS (A : Nat → Prop) (wr : World) (cells : List Value) (q : Nat) (k : Int) (n p : List UInt8) (m : Int) (sa : Option Addr) (sc : Nat) (ba : Option Addr) (bc : Nat) (la : Option Addr) (lc : Nat) (e : List Sx.Ex) (b l : List Sy.St) : Prop where
  c0 : cells[q * 7]? = some (.int .i64 k)
  c1 : cells[q * 7 + 1]? = some (.string ⟨n.toArray⟩)
  c2 : cells[q * 7 + 2]? = some (.string ⟨p.toArray⟩)
  c3 : cells[q * 7 + 3]? = some (.int .i64 m)
  c4 : cells[q * 7 + 4]? = some (.slice sa e.length sc)
  c5 : cells[q * 7 + 5]? = some (.slice ba b.length bc)
  c6 : cells[q * 7 + 6]? = some (.slice la l.length lc)
  he : ExS A wr (.slice sa e.length sc) e
  hb : SmS A wr (.slice ba b.length bc) b
  hl : SmS A wr (.slice la l.length lc) l
/-- The statements of a block that were read so far, in the row v. -/
def EaS (w : World) (l : List Sy.St) (v : Value) (wr : World) : Prop :=
  ∃ cells, wr.ownsRow w.heap.size 33 7 v l.length cells ∧ cells.length = l.length * 7 ∧
    ∀ q x, l[q]? = some x → ∃ k n p m sa sc ba bc la lc e b ll, x = .mk k n p m e b ll ∧ MadeS (fun g => w.heap.size ≤ g ∧ ¬ v.ownBlock = some g) wr cells q k n p m sa sc ba bc la lc e b ll
theorem EaS.kp {p : Nat} {w wr W : World} {l : List Sy.St} {v : Value} (h : EaS w l v wr) (m : Kp p wr W) (hp : p < w.heap.size) : EaS w l v W := by
  obtain ⟨cells, hrow, hlen, hmade⟩ := h
  refine ⟨cells, own_kp hrow m hp, hlen, fun q x hx => ?_⟩
  obtain ⟨k, n, pp, mm, sa, sc, ba, bc, la, lc, e, b, ll, ex, M⟩ := hmade q x hx
  have na : ¬ (w.heap.size ≤ p ∧ ¬ v.ownBlock = some p) := fun h => by have := h.1; omega
  exact ⟨k, n, pp, mm, sa, sc, ba, bc, la, lc, e, b, ll, ex, ⟨M.c0, M.c1, M.c2, M.c3, M.c4, M.c5, M.c6, M.he.kp m na, M.hb.kp m na, M.hl.kp m na⟩⟩
theorem EaS.step {w wr W w4 : World} {l : List Sy.St} {v v' : Value} {cells : List Value} {k m : Int} {n pp : List UInt8} {sa : Option Addr} {sc : Nat} {ba : Option Addr} {bc : Nat} {la : Option Addr} {lc : Nat} {e : List Sx.Ex} {b ll : List Sy.St}
    (hlen : cells.length = l.length * 7)
    (hmade : ∀ q x, l[q]? = some x → ∃ k n p m sa sc ba bc la lc e b ll, x = .mk k n p m e b ll ∧ MadeS (fun g => w.heap.size ≤ g ∧ ¬ v.ownBlock = some g) W cells q k n p m sa sc ba bc la lc e b ll)
    (hz : w.heap.size ≤ wr.heap.size) (hv : ∀ g, v.ownBlock = some g → g < wr.heap.size ∧ w.heap.size ≤ g)
    (xe : ExS (fun g => wr.heap.size ≤ g) W (.slice sa e.length sc) e) (xb : SmS (fun g => wr.heap.size ≤ g) W (.slice ba b.length bc) b) (xl : SmS (fun g => wr.heap.size ≤ g) W (.slice la ll.length lc) ll)
    (h4 : w4.ownsRow w.heap.size 33 7 v' (l.length + 1) (cells ++ [.int .i64 k, .string ⟨n.toArray⟩, .string ⟨pp.toArray⟩, .int .i64 m, .slice sa e.length sc, .slice ba b.length bc, .slice la ll.length lc])) (g4 : W.grownBy w4 v.ownBlock) (o4 : v'.ownBlock = v.ownBlock ∨ ∃ g, v'.ownBlock = some g ∧ W.heap.size ≤ g) :
    EaS w (l ++ [.mk k n pp m e b ll]) v' w4 := by
  have cond : ∀ g, g < W.heap.size → (w.heap.size ≤ g ∧ ¬ v.ownBlock = some g) → (w.heap.size ≤ g ∧ ¬ v'.ownBlock = some g) := fun g hg hA => ⟨hA.1, fun e => by
    rcases o4 with e1 | ⟨g', e1, hg'⟩
    · exact hA.2 (e1.symm.trans e)
    · rw [e1] at e; cases e; omega⟩
  have keepE : ∀ {sl : Value} {l' : List Sx.Ex}, ExS (fun g => w.heap.size ≤ g ∧ ¬ v.ownBlock = some g) W sl l' → ExS (fun g => w.heap.size ≤ g ∧ ¬ v'.ownBlock = some g) w4 sl l' := fun h =>
    h.keep cond (fun q hA hq => World.cell?_of_block (w := W) (g4.block _ hq fun e => hA.2 e.symm)) g4.size
  have keepS : ∀ {sl : Value} {l' : List Sy.St}, SmS (fun g => w.heap.size ≤ g ∧ ¬ v.ownBlock = some g) W sl l' → SmS (fun g => w.heap.size ≤ g ∧ ¬ v'.ownBlock = some g) w4 sl l' := fun h =>
    h.keep cond (fun q hA hq => World.cell?_of_block (w := W) (g4.block _ hq fun e => hA.2 e.symm)) g4.size
  have new : ∀ g, wr.heap.size ≤ g → (w.heap.size ≤ g ∧ ¬ v.ownBlock = some g) := fun g hg => ⟨by omega, fun e => by have := (hv g e).1; omega⟩
  refine ⟨_, by rw [List.length_append]; exact h4, by simp [hlen]; omega, fun q x hx => ?_⟩
  by_cases c : q < l.length
  · rw [List.getElem?_append_left c] at hx
    obtain ⟨k', n', p', m', sa', sc', ba', bc', la', lc', e', b', ll', ex, M⟩ := hmade q x hx
    have ap : ∀ i, i < l.length * 7 → (cells ++ [.int .i64 k, .string ⟨n.toArray⟩, .string ⟨pp.toArray⟩, .int .i64 m, .slice sa e.length sc, .slice ba b.length bc, .slice la ll.length lc])[i]? = cells[i]? := fun i hi => List.getElem?_append_left (by omega)
    exact ⟨k', n', p', m', sa', sc', ba', bc', la', lc', e', b', ll', ex, ⟨(ap _ (by omega)).trans M.c0, (ap _ (by omega)).trans M.c1, (ap _ (by omega)).trans M.c2, (ap _ (by omega)).trans M.c3, (ap _ (by omega)).trans M.c4, (ap _ (by omega)).trans M.c5, (ap _ (by omega)).trans M.c6, keepE M.he, keepS M.hb, keepS M.hl⟩⟩
  · have hq : q = l.length := by
      have := (List.getElem?_eq_some_iff.1 hx).1
      simp at this
      omega
    subst hq
    rw [List.getElem?_append_right (Nat.le_refl _)] at hx
    simp at hx
    subst hx
    refine ⟨k, n, pp, m, sa, sc, ba, bc, la, lc, e, b, ll, rfl, ⟨?_, ?_, ?_, ?_, ?_, ?_, ?_, keepE (xe.mono fun g _ hg => new g hg), keepS (xb.mono fun g _ hg => new g hg), keepS (xl.mono fun g _ hg => new g hg)⟩⟩
    all_goals (rw [List.getElem?_append_right (by omega)]; simp [hlen])
theorem EaS.done {w wr : World} {l : List Sy.St} {v : Value} (h : EaS w l v wr) : ∃ sb sd, v = .slice sb l.length sd ∧ SmS (fun g => w.heap.size ≤ g) wr v l := by
  obtain ⟨cells, hrow, hlen, hmade⟩ := h
  have hc := @World.ownsRow.cells _ _ _ _ _ _ _ hrow
  have hlt := World.ownsRow.lt hrow
  rcases hrow.2 with ⟨rfl, h0⟩ | ⟨g, cap, cur, rfl, hb, _, hnc, _⟩
  · have : l = [] := List.length_eq_zero_iff.1 h0
    subst this
    exact ⟨none, 0, rfl, .nil none 0⟩
  · refine ⟨some ⟨g, 0, none⟩, cap, rfl, ?_⟩
    by_cases h0 : l.length = 0
    · have : l = [] := List.length_eq_zero_iff.1 h0
      subst this
      exact .nil _ _
    · have key : ∀ (i : Nat) (u : Value), cells[i]? = some u → wr.cell? ⟨g, 0 + i, none⟩ = some u := by
        intro i u hu
        have := @hc g rfl i u hu
        have e : (⟨g, 0, none⟩ : Addr).add i = ⟨g, 0 + i, none⟩ := by unfold Addr.add; split <;> simp_all
        rw [e] at this
        exact this
      refine .some g 0 cap l.length l rfl (by omega) hnc (hlt g rfl).1 (hlt g rfl).2 (SmC.of_cells _ 0 fun q hq => ?_)
      obtain ⟨k, n, p, m, sa, sc, ba, bc, la, lc, e, b, ll, ex, M⟩ := hmade q l[q] (List.getElem?_eq_getElem hq)
      exact ⟨k, n, p, m, sa, sc, ba, bc, la, lc, e, b, ll, by rw [List.getElem?_eq_getElem hq, ex], ⟨key _ _ M.c0, key _ _ M.c1, key _ _ M.c2, key _ _ M.c3, key _ _ M.c4, key _ _ M.c5, key _ _ M.c6, M.he.mono fun g _ hA => hA.1, M.hb.mono fun g _ hA => hA.1, M.hl.mono fun g _ hA => hA.1⟩⟩
/-- The statement at token k is read as s, as far as token k1. -/
def StR (p b o cap : Nat) (ts : List Tok) (d k : Nat) (s : Sy.St) (k1 : Nat) : Prop := ∀ W, Ri W p b o cap ts k 0 0 → Calls Try.prog 75 #[.pointer (some ⟨p, 0, none⟩), .int .i64 (d : Int)] W (PostS p b o cap ts W s k1)
/-- Statements, and the bracket behind them. -/
inductive GL (p b o cap : Nat) (ts : List Tok) (d : Nat) : Nat → List Sy.St → Nat → Prop
  | nil (k : Nat) (t : TkA ts k [125]) : GL p b o cap ts d k [] (k + 1)
  | cons (k : Nat) (s : Sy.St) (k1 : Nat) (l : List Sy.St) (k2 : Nat) (t : ¬ (ts.getD k tok0).1.text = [125]) (hs : StR p b o cap ts d k s k1) (hl : GL p b o cap ts d k1 l k2) : GL p b o cap ts d k (s :: l) k2
/-- A list of statements was read. -/
def PostSL (p b o cap : Nat) (ts : List Tok) (w : World) (l : List Sy.St) (k' : Nat) (e : Ending) (w' : World) : Prop :=
  ∃ sa sc, e = .returned (.slice sa l.length sc) ∧ SmS (fun g => w.heap.size ≤ g) w' (.slice sa l.length sc) l ∧ Ri w' p b o cap ts k' 0 0 ∧ Kp p w w'
def BlL (p b o cap : Nat) (ts : List Tok) (d : Nat) (w : World) (all : List Sy.St) (kz : Nat) (gk : Nat) (v : Value) (wr : World) : Prop :=
  ∃ l rest k1, all = l ++ rest ∧ gk = rest.length ∧ EaS w l v wr ∧ GL p b o cap ts d k1 rest kz ∧ Ri wr p b o cap ts k1 0 0 ∧ Kp p w wr
end Go.Proofs.Ytobiedmmjiedlaa

namespace Go.Proofs.Ytobiedmmjiedlaa
open Go.RowKit

theorem EaS.nil (w wr : World) : EaS w [] (.slice none 0 0) wr := ⟨[], World.ownsRow_nil _ _ _ _, rfl, fun q x h => by simp at h⟩
theorem EaS.row {w wr : World} {l : List Sy.St} {v : Value} (h : EaS w l v wr) : ∃ ao c, v = .slice ao l.length c := by
  obtain ⟨cells, hrow, _⟩ := h
  exact own_shape hrow
theorem MadeS.later {A : Nat → Prop} {w w' : World} {cells : List Value} {q : Nat} {k : Int} {n p : List UInt8} {m : Int} {sa : Option Addr} {sc : Nat} {ba : Option Addr} {bc : Nat} {la : Option Addr} {lc : Nat} {e : List Sx.Ex} {b l : List Sy.St} (h : MadeS A w cells q k n p m sa sc ba bc la lc e b l) (bl : Below w.heap.size w w') : MadeS A w' cells q k n p m sa sc ba bc la lc e b l :=
  ⟨h.c0, h.c1, h.c2, h.c3, h.c4, h.c5, h.c6, h.he.later bl (Nat.le_refl _), h.hb.later bl (Nat.le_refl _), h.hl.later bl (Nat.le_refl _)⟩
theorem Ta.low {n : Nat} {w w' : World} {b o : Nat} {ts : List Tok} (h : Ta w b o ts) (hb : Below n w w') (hn : b < n) : Ta w' b o ts :=
  ⟨Nat.lt_of_lt_of_le h.lt hb.size, fun j hj => (hb.cell (p := ⟨b, o + j * 4, none⟩) hn).trans (h.c0 j hj), fun j hj => (hb.cell (p := ⟨b, o + j * 4 + 1, none⟩) hn).trans (h.c1 j hj),
   fun j hj => (hb.cell (p := ⟨b, o + j * 4 + 2, none⟩) hn).trans (h.c2 j hj), fun j hj => (hb.cell (p := ⟨b, o + j * 4 + 3, none⟩) hn).trans (h.c3 j hj)⟩
theorem Ri.low {n : Nat} {w w' : World} {p b o cap : Nat} {ts : List Tok} {k : Nat} {er a : Int} (h : Ri w p b o cap ts k er a) (hb : Below n w w') (hp : p < n) (hn : b < n) : Ri w' p b o cap ts k er a :=
  ⟨(hb.cell (p := ⟨p, 0, none⟩) hp).trans h.row, (hb.cell (p := ⟨p, 1, none⟩) hp).trans h.nx, (hb.cell (p := ⟨p, 2, none⟩) hp).trans h.ce, (hb.cell (p := ⟨p, 3, none⟩) hp).trans h.ca, (hb.frozen (p := ⟨p, 1, none⟩) hp).trans h.f1, (hb.frozen (p := ⟨p, 2, none⟩) hp).trans h.f2, (hb.frozen (p := ⟨p, 3, none⟩) hp).trans h.f3, h.ta.low hb hn, h.ne, Nat.lt_of_lt_of_le h.lt hb.size, h.hk, h.hl⟩
theorem Kp.low {p : Nat} {a b c : World} (h : Kp p a b) (k : Below a.heap.size b c) : Kp p a c :=
  ⟨k.os.trans h.os, k.tape.trans h.tape, k.output.trans h.output, Nat.le_trans h.size k.size, fun i hi hp => (k.block i hi).trans (h.block i hi hp)⟩
set_option maxRecDepth 100000 in
set_option maxHeartbeats 4000000 in
theorem rblock_ok (p b o cap : Nat) (ts : List Tok) (d k k' : Nat) (l : List Sy.St) (hl : l.length ≤ 100000) (w : World) (h : Ri w p b o cap ts k 0 0) (t0 : TkA ts k [123]) (hg : GL p b o cap ts d (k + 1) l k') :
    Calls Try.prog 60 #[.pointer (some ⟨p, 0, none⟩), .int .i64 (d : Int)] w (PostSL p b o cap ts w l k') := by
  have hp : Hid (p < w.heap.size) := h.lt
  have hb : Hid (b < w.heap.size) := h.ta.lt
  have E0 : Hid _ := rwant_yes w p b o cap ts k 0 [123] h t0.tx t0.kd t0.lt
  have HG : Hid _ := hg
  have HL : Hid _ := hl
  obtain ⟨i0, hi, hz0, hz1, hz2⟩ := info_parts infoSt
  clear h t0 hg hl
  go_enter Try.func60, Try.ntmps60
  go_wp2_with fail
  refine Calls.mono E0.out ?_
  rintro e v1 ⟨rfl, r1, k1⟩
  have H1 : Hid _ := r1
  have K1 : Hid _ := k1
  clear r1 k1 E0
  go_wp2_with fail
  go_loopg [5] l.length (fun gk v wr => BlL p b o cap ts d w l k' gk v wr)
  case atStart => exact ⟨[], l, k + 1, rfl, rfl, EaS.nil _ _, HG.out, H1.out, K1.out⟩
  case round =>
    obtain ⟨l1, rest, kn, hall, hgk, hea, hgl, ri, kp⟩ := hrel
    have GK : Hid _ := hgk
    have ALL : Hid _ := hall
    have RI : Hid _ := ri
    have KP : Hid _ := kp
    have rr := ri.ce
    obtain ⟨ao, co, rfl⟩ := hea.row
    have EA : Hid (EaS w l1 (.slice ao l1.length co) wr) := hea
    clear hgk hall ri kp hea
    cases hgl with
    | nil _ t =>
      have EY : Hid _ := rgot_yes wr p b o cap ts kn 0 [125] RI.out t.tx t.kd t.lt
      clear t
      go_wp2_with fail
      refine Calls.mono EY.out ?_
      rintro e v2 ⟨rfl, r2, k2⟩
      have R2 : Hid _ := r2
      have K2 : Hid _ := KP.out.trans k2
      have D2 : Hid _ := EaS.done (EaS.kp EA.out k2 hp.out)
      have e1 : l = l1 := by rw [ALL.out, List.append_nil]
      clear r2 k2
      go_wp2_with fail
      go_ret
      obtain ⟨sb, sd, e2, X⟩ := D2.out
      injection e2 with e3 _ e4
      subst e3 e4 e1
      exact ⟨ao, co, rfl, X, R2.out, K2.out⟩
    | cons _ s kn1 rest' _ t hs hl' =>
      have EN : Hid _ := rgot_no wr p b o cap ts kn 0 0 [125] RI.out (.inr t)
      have HS : Hid _ := hs
      have HL' : Hid _ := hl'
      clear t hs hl'
      go_wp2_with fail
      refine Calls.mono EN.out ?_
      rintro e v2 ⟨rfl, b2⟩
      have ES : Hid _ := HS.out v2 (RI.out.later b2)
      have B2' : Hid _ := b2
      clear b2
      go_wp2_with fail
      refine Calls.mono ES.out ?_
      rintro e v3 ⟨kk, nn, pp, mm, ex, bo, el, sa, sc, ba, bc, la, lc, rfl, rfl, xe, xb, xl, r3, k3⟩
      have KW : Hid (Kp p wr v3) := (Keep.of_below B2'.out (Nat.le_refl _) : Kp p wr v2).trans k3
      have z3 : wr.heap.size ≤ v3.heap.size := KW.out.size
      have zw : w.heap.size ≤ wr.heap.size := KP.out.size
      obtain ⟨U, hU⟩ : ∃ U, U = v3.alloc (.cells #[.int .i64 kk, .string ⟨nn.toArray⟩, .string ⟨pp.toArray⟩, .int .i64 mm, .slice sa ex.length sc, .slice ba bo.length bc, .slice la el.length lc] 33) := ⟨_, rfl⟩
      have bU : Below v3.heap.size v3 U := by rw [hU]; exact box_below _ _
      have XU : Hid (B7 U v3.heap.size (.int .i64 kk) (.string ⟨nn.toArray⟩) (.string ⟨pp.toArray⟩) (.int .i64 mm) (.slice sa ex.length sc) (.slice ba bo.length bc) (.slice la el.length lc)) := by rw [hU]; exact B7.new v3 _ _ _ _ _ _ _ _
      have zU : v3.heap.size < U.heap.size := by rw [hU]; simp
      have z2 : wr.heap.size ≤ v2.heap.size := B2'.out.size
      have RU : Hid _ := r3.later bU
      have KU : Hid (Kp p wr U) := KW.out.trans (Keep.of_below bU (Nat.le_refl _))
      have XE : Hid (ExS (fun g => wr.heap.size ≤ g) U (.slice sa ex.length sc) ex) := (xe.later bU (Nat.le_refl _)).mono fun g _ hg => Nat.le_trans z2 hg
      have XB : Hid (SmS (fun g => wr.heap.size ≤ g) U (.slice ba bo.length bc) bo) := (xb.later bU (Nat.le_refl _)).mono fun g _ hg => Nat.le_trans z2 hg
      have XL : Hid (SmS (fun g => wr.heap.size ≤ g) U (.slice la el.length lc) el) := (xl.later bU (Nat.le_refl _)).mono fun g _ hg => Nat.le_trans z2 hg
      obtain ⟨cells, hrow, hlen, hmade⟩ := EaS.kp EA.out KU.out hp.out
      have bU2 := box_below U (.cells #[.int .i64 kk, .string ⟨nn.toArray⟩, .string ⟨pp.toArray⟩, .int .i64 mm, .slice sa ex.length sc, .slice ba bo.length bc, .slice la el.length lc] 33)
      have RW : Hid _ := own_later hrow bU2
      have ST : Hid (cells.length = l1.length * 7 ∧ ∀ q x, l1[q]? = some x → ∃ k n p m sa sc ba bc la lc e b ll, x = .mk k n p m e b ll ∧ MadeS (fun g => w.heap.size ≤ g ∧ ¬ (Value.slice ao l1.length co).ownBlock = some g) U cells q k n p m sa sc ba bc la lc e b ll) := ⟨hlen, hmade⟩
      have VB : Hid (∀ g, (Value.slice ao l1.length co).ownBlock = some g → g < wr.heap.size ∧ w.heap.size ≤ g) := fun g e => by
        obtain ⟨c2, hr2, _⟩ := EA.out
        exact ⟨(World.ownsRow.lt hr2 g e).2, (World.ownsRow.lt hr2 g e).1⟩
      have LL : Hid (l1.length + 1 ≤ 100000) := by have := HL.out; unfold Hid; rw [ALL.out] at this; simp at this; omega
      clear xe xb xl r3 k3 bU hrow hlen hmade bU2 ES
      obtain ⟨q0, q1, q2, q3, q4, q5, q6, -, -, -, -, -, -, -, zq⟩ := XU.out
      go_upto_region 5 with fail
      rw [← hU]
      clear hU
      go_wp2_with (at_builtin; refine wpList_append_told rfl _ _ 23 rfl w.heap.size 33 i0 (.agg #[.int .i64 0, .string ⟨#[]⟩, .string ⟨#[]⟩, .int .i64 0, .slice none 0 0, .slice none 0 0, .slice none 0 0]) 7 120 Try.underlying23 hi hz0 hz1 hz2 rfl (by decide) _ l1.length cells rfl RW.out ⟨U.heap.size, 0, none⟩ 1 1 [.int .i64 kk, .string ⟨nn.toArray⟩, .string ⟨pp.toArray⟩, .int .i64 mm, .slice sa ex.length sc, .slice ba bo.length bc, .slice la el.length lc] rfl rfl (seven_cells _ _ _ _ _ _ _ _ _) (by intro x hx; simp at hx; rcases hx with rfl | rfl | rfl | rfl | rfl | rfl | rfl <;> rfl) (by have := LL.out; simp only [maxLen]; omega) (by have := LL.out; omega) (by simp; omega) (by decide) ?_)
      intro v' w4 h4 g4 o4
      have bU2 := box_below U (.cells #[.int .i64 kk, .string ⟨nn.toArray⟩, .string ⟨pp.toArray⟩, .int .i64 mm, .slice sa ex.length sc, .slice ba bo.length bc, .slice la el.length lc] 33)
      have BG : Below w.heap.size (U.alloc (.cells #[.int .i64 kk, .string ⟨nn.toArray⟩, .string ⟨pp.toArray⟩, .int .i64 mm, .slice sa ex.length sc, .slice ba bo.length bc, .slice la el.length lc] 33)) w4 := ⟨g4.os, g4.tape, g4.output, g4.size, fun i hi => g4.block i (Nat.lt_of_lt_of_le (Nat.lt_of_lt_of_le hi zw) (Nat.le_trans (Nat.le_trans z3 (Nat.le_of_lt zU)) bU2.size)) (fun e => by have := (VB.out i e.symm).2; omega)⟩
      have EA4 : Hid (EaS w (l1 ++ [.mk kk nn pp mm ex bo el]) v' w4) := by
        obtain ⟨hlen, hmade⟩ := ST.out
        refine EaS.step (wr := wr) hlen (fun q x hx => ?_) zw VB.out (XE.out.later bU2 (Nat.le_refl _)) (XB.out.later bU2 (Nat.le_refl _)) (XL.out.later bU2 (Nat.le_refl _)) h4 g4 (o4.imp id fun ⟨g, h, h3⟩ => ⟨g, h, by simpa using h3⟩)
        obtain ⟨k, n, p, m, sa, sc, ba, bc, la, lc, e, b, ll, ex, M⟩ := hmade q x hx
        exact ⟨k, n, p, m, sa, sc, ba, bc, la, lc, e, b, ll, ex, M.later bU2⟩
      have R4 : Hid (Ri w4 p b o cap ts kn1 0 0) := (RU.out.later bU2).low BG hp.out hb.out
      have K4 : Hid (Kp p w w4) := Kp.low ((KP.out.trans KU.out).trans (Keep.of_below bU2 (Nat.le_refl _))) BG
      clear h4 g4 o4 bU2 BG ST RW XE XB XL q0 q1 q2 q3 q4 q5 q6 zq
      go_wp2_with fail
      go_roundg rest'.length
      case measure => have := GK.out; simp at this; omega
      case rel => exact ⟨l1 ++ [.mk kk nn pp mm ex bo el], rest', kn1, by rw [ALL.out, List.append_assoc]; rfl, rfl, EA4.out, HL'.out, R4.out, K4.out⟩
end Go.Proofs.Ytobiedmmjiedlaa
