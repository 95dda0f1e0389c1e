/- Layer 3: the reader of programs: a statement that prints. -/
import Derived.Test.YtlhklpnkelcnbaaGreatDoorGrA
namespace Go.Proofs.YtlhklpnkelcnbaaGreatDoor
open Go.RowKit

theorem B7.later {w w' : World} {g n : Nat} {a0 a1 a2 a3 a4 a5 a6 : Value} (h : B7 w g a0 a1 a2 a3 a4 a5 a6) (b : Below n w w') (hn : g < n) : B7 w' g a0 a1 a2 a3 a4 a5 a6 := h.kept (b.block g hn) b.size
theorem Mk.mov {w w' : World} {p : Nat} {v u : Value} {us is : List Value} (h : Mk w p v u us is) (m : Mov p w w') : Mk w' p v u us is := by
  have hg : w.grownBy w' (some p) := ⟨m.os, m.tape, m.output, m.size, fun k hk hn => m.block k hk (fun e => hn (by rw [e]))⟩
  have hv : v.ownBlock ≠ some p := fun e => by have := (World.ownsRow.lt h.ov _ e).1; omega
  have hu : u.ownBlock ≠ some p := fun e => by have := (World.ownsRow.lt h.ou _ e).1; omega
  exact ⟨(m.cell _ h.lt (by simp)).trans h.c2, (m.frozen _ h.lt).trans h.f2, World.ownsRow.kept h.ov hg (.inr hv), World.ownsRow.kept h.ou hg (.inr hu), h.ne, Nat.lt_of_lt_of_le h.lt m.size, h.bd⟩
theorem Rd.ps {w w' : World} {p b o cap : Nat} {ts : List Tok} {k : Nat} {v u v' u' : Value} (h : Rd w p b o cap ts k) (s : PS p w v u w' v' u') (hp : w'.heap[p]? = w.heap[p]?) (hb : ¬ v.ownBlock = some b ∧ ¬ u.ownBlock = some b) : Rd w' p b o cap ts k := by
  have e := (s.far b h.ta.lt h.ne hb.1 hb.2).1
  exact ⟨(World.cell?_of_block (w := w) (a := ⟨p, 0, none⟩) hp).trans h.row, (World.cell?_of_block (w := w) (a := ⟨p, 1, none⟩) hp).trans h.nx, (World.frozen?_of_block (w := w) (a := ⟨p, 1, none⟩) hp).trans h.fz,
    ⟨Nat.lt_of_lt_of_le h.ta.lt s.size, fun j hj => (World.cell?_of_block (w := w) (a := ⟨b, _, none⟩) e).trans (h.ta.c0 j hj), fun j hj => (World.cell?_of_block (w := w) (a := ⟨b, _, none⟩) e).trans (h.ta.c1 j hj), fun j hj => (World.cell?_of_block (w := w) (a := ⟨b, _, none⟩) e).trans (h.ta.c2 j hj), fun j hj => (World.cell?_of_block (w := w) (a := ⟨b, _, none⟩) e).trans (h.ta.c3 j hj)⟩, h.ne, Nat.lt_of_lt_of_le h.lt s.size⟩
set_option maxRecDepth 100000 in
set_option maxHeartbeats 400000 in
theorem beginsStmt_print (x : Tok) (w : World) (hx : x.1.text = [112, 114, 105, 110, 116]) : Calls Tryz.prog 149 #[tokA x] w fun e w' => e = .returned (.bool true) ∧ Below w.heap.size w w' := by
  obtain ⟨⟨kd, tx, nm⟩, pl⟩ := x
  simp only at hx
  subst hx
  unfold tokA
  simp only
  go_enter Tryz.func149, Tryz.ntmps149
  go_wp2_with fail
  go_ret
  exact ⟨rfl, box_below _ _⟩
/-- The first token x was taken, and lies in a box of its own; the box for the answer is empty. -/
def SRel (w : World) (p b o cap : Nat) (ts : List Tok) (k : Nat) (x : Tok) (s : Value) (wc : World) : Prop :=
  ∃ g, s = .pointer (some ⟨g, 0, none⟩) ∧ Bx wc g (.int .i64 x.1.kind) (.string ⟨x.1.text.toArray⟩) (.int .i64 x.1.num) (.int .i64 x.2) ∧ w.heap.size < g ∧
    B7 wc w.heap.size (.int .i64 0) (.string ⟨#[]⟩) (.string ⟨#[]⟩) (.int .i64 0) (.slice none 0 0) (.slice none 0 0) (.slice none 0 0) ∧ Mov p w wc ∧ Rd wc p b o cap ts (k + 1)
theorem fill_other (w : World) (g k : Nat) (b0 b1 b2 b3 : Value) (h : k ≠ g) : (fill w g b0 b1 b2 b3).heap[k]? = w.heap[k]? := by
  unfold fill
  rw [heap_setCell_other _ _ k _ h, heap_setCell_other _ _ k _ h, heap_setCell_other _ _ k _ h, heap_setCell_other _ _ k _ h]
theorem SRel.of {w w3 : World} {p b o cap : Nat} {ts : List Tok} {k g : Nat} {x : Tok} {a0 a1 a2 a3 : Value} (t : Bx w3 g a0 a1 a2 a3) (hg : w.heap.size < g) (hp : p < w.heap.size) (hb : b < w.heap.size) (r : B7 w3 w.heap.size (.int .i64 0) (.string ⟨#[]⟩) (.string ⟨#[]⟩) (.int .i64 0) (.slice none 0 0) (.slice none 0 0) (.slice none 0 0)) (m : Mov p w w3) (rd : Rd w3 p b o cap ts (k + 1)) :
    SRel w p b o cap ts k x (.pointer (some ⟨g, 0, none⟩)) (fill w3 g (.int .i64 x.1.kind) (.string ⟨x.1.text.toArray⟩) (.int .i64 x.1.num) (.int .i64 x.2)) :=
  ⟨g, rfl, t.fill _ _ _ _, hg, r.kept (fill_other _ _ _ _ _ _ _ (by omega)) (by rw [fill_size]; exact Nat.le_refl _), m.fill (by omega) _ _ _ _, rd.fill (by omega) (by omega) _ _ _ _⟩
theorem SRel.of_new {w w3 : World} {p b o cap : Nat} {ts : List Tok} {k : Nat} {x : Tok} (t : TypeId) (r : B7 w3 w.heap.size (.int .i64 0) (.string ⟨#[]⟩) (.string ⟨#[]⟩) (.int .i64 0) (.slice none 0 0) (.slice none 0 0) (.slice none 0 0)) (m : Mov p w w3) (rd : Rd w3 p b o cap ts (k + 1)) :
    SRel w p b o cap ts k x (.pointer (some ⟨w3.heap.size, 0, none⟩)) (w3.alloc (.cells #[.int .i64 x.1.kind, .string ⟨x.1.text.toArray⟩, .int .i64 x.1.num, .int .i64 x.2] t)) :=
  ⟨w3.heap.size, rfl, Bx.new _ _ _ _ _ _, r.lt, r.later (box_below _ _) r.lt, m.alloc _, rd.later (box_below _ _)⟩
theorem Bx.kept {w w' : World} {g : Nat} {a0 a1 a2 a3 : Value} (h : Bx w g a0 a1 a2 a3) (e : w'.heap[g]? = w.heap[g]?) (hz : w.heap.size ≤ w'.heap.size) : Bx w' g a0 a1 a2 a3 :=
  ⟨(World.cell?_of_block (w := w) e).trans h.c0, (World.cell?_of_block (w := w) e).trans h.c1, (World.cell?_of_block (w := w) e).trans h.c2, (World.cell?_of_block (w := w) e).trans h.c3, (World.frozen?_of_block (w := w) e).trans h.f0, (World.frozen?_of_block (w := w) e).trans h.f1, (World.frozen?_of_block (w := w) e).trans h.f2, (World.frozen?_of_block (w := w) e).trans h.f3, Nat.lt_of_lt_of_le h.lt hz⟩
theorem fill7_other (w : World) (g k : Nat) (a0 a1 a2 a3 a4 a5 a6 : Value) (h : k ≠ g) : (fill7 w g a0 a1 a2 a3 a4 a5 a6).heap[k]? = w.heap[k]? := by
  unfold fill7
  rw [heap_setCell_other _ _ k _ h, heap_setCell_other _ _ k _ h, heap_setCell_other _ _ k _ h, heap_setCell_other _ _ k _ h, heap_setCell_other _ _ k _ h, heap_setCell_other _ _ k _ h, heap_setCell_other _ _ k _ h]
theorem fill7_grown (w : World) (g : Nat) (a0 a1 a2 a3 a4 a5 a6 : Value) : w.grownBy (fill7 w g a0 a1 a2 a3 a4 a5 a6) (some g) :=
  ⟨by unfold fill7; simp [World.setCell], by unfold fill7; simp [World.setCell], by unfold fill7; simp [World.setCell], by rw [fill7_size]; exact Nat.le_refl _, fun k _ hn => fill7_other w g k _ _ _ _ _ _ _ (fun e => hn (by rw [e]))⟩
theorem Mk.kept {w w' : World} {p r : Nat} {v u : Value} {us is : List Value} (h : Mk w p v u us is) (hg : w.grownBy w' (some r)) (h1 : r ≠ p) (h2 : ¬ v.ownBlock = some r) (h3 : ¬ u.ownBlock = some r) : Mk w' p v u us is := by
  have e := hg.block p h.lt (fun e => h1 (Option.some.inj e).symm)
  exact ⟨(World.cell?_of_block (w := w) (a := ⟨p, 2, none⟩) e).trans h.c2, (World.frozen?_of_block (w := w) (a := ⟨p, 2, none⟩) e).trans h.f2, World.ownsRow.kept h.ov hg (.inr h2), World.ownsRow.kept h.ou hg (.inr h3), h.ne, Nat.lt_of_lt_of_le h.lt hg.size, h.bd⟩
theorem PS.grown {p : Nat} {w w' w'' : World} {v u v' u' : Value} (h : PS p w v u w' v' u') {r : Nat} (hg : w'.grownBy w'' (some r)) (hr : w.heap.size ≤ r) : PS p w v u w'' v' u' :=
  ⟨hg.os.trans h.os, hg.tape.trans h.tape, hg.output.trans h.output, Nat.le_trans h.size hg.size, fun g hg' h0 h1 h2 => by
    obtain ⟨a, b, c⟩ := h.far g hg' h0 h1 h2
    exact ⟨(hg.block g (Nat.lt_of_lt_of_le hg' h.size) (fun e => by have := Option.some.inj e; omega)).trans a, b, c⟩⟩
set_option maxRecDepth 100000 in
set_option maxHeartbeats 6000000 in
theorem stmt_print (w : World) (p b o cap : Nat) (ts : List Tok) (gd : Good ts) (f : Nat) (he : EC p b o cap ts f) (k d : Nat) (x : Tok) (v u : Value) (us is : List Value) (y : Sx.Ex) (k' : Nat) (h : Rn w p b o cap ts k x) (hm : Mk w p v u us is) (hbp : b < p) (hi2 : is.length + 1 ≤ 1000000) (hd : d ≤ 60) (hx : x.1.text = [112, 114, 105, 110, 116])
    (hr : Sx.bd ts f 1 (d + 1) (k + 1) = some (.ok y k')) (hsemi : Sx.tx ts k' = [59]) :
    Calls Tryz.prog 142 #[.pointer (some ⟨p, 0, none⟩), .int .i64 (d : Int)] w fun e w' => ∃ sa u', e = .returned (stV 8 (.slice sa 1 1)) ∧ Mk w' p v u' us (is ++ [.int .i64 x.2]) ∧ PS p w v u w' v u' ∧ Rd w' p b o cap ts (k' + 1) ∧ k' + 1 < ts.length ∧
      ExS (fun g => w.heap.size ≤ g ∧ ¬ v.ownBlock = some g ∧ ¬ u'.ownBlock = some g) w' (.slice sa 1 1) [y] := by
  have H : Hid (Rn w p b o cap ts k x) := h
  have HM : Hid (Mk w p v u us is) := hm
  have HD : Hid (d ≤ 60) := hd
  have HL : Hid (ts.length ≤ 1000000) := gd.len
  have GD : Hid (Good ts) := gd
  have HE : Hid (EC p b o cap ts f) := he
  have HBP : Hid (b < p) := hbp
  have HI : Hid (is.length + 1 ≤ 1000000) := hi2
  have HR : Hid (Sx.bd ts f 1 (d + 1) (k + 1) = some (.ok y k')) := hr
  have HS : Hid (Sx.tx ts k' = [59]) := hsemi
  have HX : Hid (x.1.text = [112, 114, 105, 110, 116]) := hx
  have HK : Hid (k + 1 < ts.length) := gd.next h.hk (by rw [h.tk]; intro e; rw [e] at hx; exact absurd hx (by decide))
  have HBG : Hid (∀ W, Calls Tryz.prog 149 #[tokA x] W fun e w' => e = .returned (.bool true) ∧ Below W.heap.size W w') := fun W => beginsStmt_print x W hx
  have hp : Hid (p < w.heap.size) := h.rd.lt
  have hb : Hid (b < w.heap.size) := h.rd.ta.lt
  have rp : Hid (w.heap.size ≠ p) := by have := hp.out; unfold Hid; omega
  clear h hm hd gd he hbp hi2 hr hsemi hx
  go_enter Tryz.func142, Tryz.ntmps142
  go_wp2_with fail
  go_cut [5] from 7 (fun s wc => SRel w p b o cap ts k x s wc)
  case rest =>
    obtain ⟨g, rfl, T, hg, R, M, RD⟩ := hcut
    have vo : Hid (∀ j, v.ownBlock = some j → p + 1 ≤ j ∧ j < w.heap.size) := World.ownsRow.lt HM.out.ov
    have uo : Hid (∀ j, u.ownBlock = some j → p + 1 ≤ j ∧ j < w.heap.size) := World.ownsRow.lt HM.out.ou
    rw [HX.out] at T
    have TB : Hid _ := T
    have RB : Hid _ := R
    have MB : Hid _ := M
    have RDB : Hid _ := RD
    have MK1 : Hid _ := HM.out.mov M
    have ZC : Hid (w.heap.size < wc.heap.size) := R.lt
    obtain ⟨c0, c1, c2, c3, f0, f1, f2, f3, zt⟩ := T
    clear M RD R
    go_wp2_with fail
    refine (mark_any p v u us is x.2 wc MK1.out HI.out).mono ?_
    rintro e w2 ⟨rfl, u', MK2, P2, hp2⟩
    have PS2 : Hid (PS p w v u w2 v u') := (PS.of_mov v u MB.out).trans P2
    have kR := P2.far w.heap.size ZC.out rp.out (fun e => by have := (vo.out _ e).2; omega) (fun e => by have := (uo.out _ e).2; omega)
    have kg := P2.far g zt (by have := hp.out; omega) (fun e => by have := (vo.out _ e).2; omega) (fun e => by have := (uo.out _ e).2; omega)
    have R2 : Hid _ := RB.out.kept kR.1 P2.size
    have T2 := TB.out.kept kg.1 P2.size
    have RD2 : Hid (Rd w2 p b o cap ts (k + 1)) := RDB.out.ps P2 hp2 ⟨fun e => by have := (vo.out _ e).1; have := HBP.out; omega, fun e => by have := (uo.out _ e).1; have := HBP.out; omega⟩
    have MK2' : Hid _ := MK2
    have Z2 : Hid (w.heap.size < w2.heap.size) := Nat.lt_of_lt_of_le ZC.out P2.size
    have KR : Hid _ := kR
    clear MK2 P2 hp2 kR kg c0 c1 c2 c3 f0 f1 f2 f3 zt
    obtain ⟨c0, c1, c2, c3, -, -, -, -, zt⟩ := T2
    go_upto_region 15 with fail
    go_cut [] from 56 (fun wc' => ∃ sa, B7 wc' w.heap.size (.int .i64 8) (.string ⟨#[]⟩) (.string ⟨#[]⟩) (.int .i64 0) (.slice sa 1 1) (.slice none 0 0) (.slice none 0 0) ∧ Mk wc' p v u' us (is ++ [.int .i64 x.2]) ∧ PS p w v u wc' v u' ∧ Rd wc' p b o cap ts (k' + 1) ∧ k' + 1 < ts.length ∧ ExS (fun g => w.heap.size ≤ g ∧ ¬ v.ownBlock = some g ∧ ¬ u'.ownBlock = some g) wc' (.slice sa 1 1) [y])
    case rest =>
      obtain ⟨sa, B, F⟩ := hcut
      have FF : Hid _ := F
      clear F c0 c1 c2 c3 zt
      obtain ⟨q0, q1, q2, q3, q4, q5, q6, -, -, -, -, -, -, -, zt⟩ := B
      go_wp2_with fail
      refine bodyPost_ret (v := .agg #[.int .i64 8, .string ⟨#[]⟩, .string ⟨#[]⟩, .int .i64 0, .slice sa 1 1, .slice none 0 0, .slice none 0 0]) (by simp [results, Tryz.results142, go_sem, q0, q1, q2, q3, q4, q5, q6]) rfl ?_
      exact ⟨sa, u', rfl, FF.out⟩
    case first =>
      go_wp2_with fail
      refine (told_ok p b o cap ts f HE.out 8 d (k + 1) y k' w2 HD.out RD2.out HK.out HR.out).mono ?_
      rintro e w3 ⟨sa, rfl, X3, r3, hk3, m3⟩
      have X3' : Hid _ := X3
      have R3' : Hid _ := r3
      have HK3 : Hid (k' < ts.length) := hk3
      have M3 : Hid _ := m3
      clear X3 r3 hk3 m3
      unfold stV
      go_wp2_with fail
      refine (closed_ok p b o cap ts GD.out 8 [] [] 0 sa none none 1 0 0 1 0 0 k' w3 R3'.out HK3.out HS.out).mono ?_
      rintro e w4 ⟨rfl, r4, hk4, m4⟩
      have M4 : Hid (Mov p w2 w4) := M3.out.trans m4
      have Y := R2.out.kept (M4.out.block _ R2.out.lt rp.out) M4.out.size
      have PB : Hid (∃ sa, B7 (fill7 w4 w.heap.size (.int .i64 8) (.string ⟨#[]⟩) (.string ⟨#[]⟩) (.int .i64 0) (.slice sa 1 1) (.slice none 0 0) (.slice none 0 0)) w.heap.size (.int .i64 8) (.string ⟨#[]⟩) (.string ⟨#[]⟩) (.int .i64 0) (.slice sa 1 1) (.slice none 0 0) (.slice none 0 0) ∧ True) := ⟨sa, Y.fill _ _ _ _ _ _ _, trivial⟩
      have PB2 : Hid (Mk (fill7 w4 w.heap.size (.int .i64 8) (.string ⟨#[]⟩) (.string ⟨#[]⟩) (.int .i64 0) (.slice sa 1 1) (.slice none 0 0) (.slice none 0 0)) p v u' us (is ++ [.int .i64 x.2]) ∧ PS p w v u (fill7 w4 w.heap.size (.int .i64 8) (.string ⟨#[]⟩) (.string ⟨#[]⟩) (.int .i64 0) (.slice sa 1 1) (.slice none 0 0) (.slice none 0 0)) v u' ∧ Rd (fill7 w4 w.heap.size (.int .i64 8) (.string ⟨#[]⟩) (.string ⟨#[]⟩) (.int .i64 0) (.slice sa 1 1) (.slice none 0 0) (.slice none 0 0)) p b o cap ts (k' + 1) ∧ k' + 1 < ts.length ∧ ExS (fun g => w.heap.size ≤ g ∧ ¬ v.ownBlock = some g ∧ ¬ u'.ownBlock = some g) (fill7 w4 w.heap.size (.int .i64 8) (.string ⟨#[]⟩) (.string ⟨#[]⟩) (.int .i64 0) (.slice sa 1 1) (.slice none 0 0) (.slice none 0 0)) (.slice sa 1 1) [y]) := by
        refine ⟨(MK2'.out.mov M4.out).kept (fill7_grown _ _ _ _ _ _ _ _ _) rp.out KR.out.2.1 KR.out.2.2, (PS2.out.trans (PS.of_mov v u' M4.out)).grown (fill7_grown _ _ _ _ _ _ _ _ _) (Nat.le_refl _), r4.fill7 rp.out (by have := hb.out; omega) _ _ _ _ _ _ _, hk4, ?_⟩
        refine ((X3'.out.mov m4 (by have := hp.out; have := Z2.out; omega)).fill7 (g := w.heap.size) (by have := Z2.out; omega) _ _ _ _ _ _ _).mono fun g _ hg => ⟨by have := Z2.out; omega, fun e => by have := (vo.out _ e).2; have := Z2.out; omega, fun e => by have := (World.ownsRow.lt MK2'.out.ou _ e).2; omega⟩
      have PB3 : Hid (B7 (fill7 w4 w.heap.size (.int .i64 8) (.string ⟨#[]⟩) (.string ⟨#[]⟩) (.int .i64 0) (.slice sa 1 1) (.slice none 0 0) (.slice none 0 0)) w.heap.size (.int .i64 8) (.string ⟨#[]⟩) (.string ⟨#[]⟩) (.int .i64 0) (.slice sa 1 1) (.slice none 0 0) (.slice none 0 0)) := Y.fill _ _ _ _ _ _ _
      obtain ⟨y0, y1, y2, y3, y4, y5, y6, f0, f1, f2, f3, f4, f5, f6, zy⟩ := Y
      clear r4 hk4 m4 PB c0 c1 c2 c3 zt
      go_wp2_with fail
      go_meet
      case rel => exact ⟨sa, PB3.out, PB2.out⟩
  case first =>
    go_region_with (first
      | (go_at_call 80; refine (now_any _ p b o cap ts k x ?_).mono ?_; exact H.out.later (by go_grown); rintro e w1 ⟨rfl, b1⟩; (try have t1 : Hid (Bx w1 (w.heap.size + 1) (.int .i64 0) (.string ⟨#[]⟩) (.int .i64 0) (.int .i64 0)) := Bx.later (by first | (constructor <;> first | (simp [go_sem]; done) | exact World.frozen?_alloc_at _ _ _ _ rfl | fail) | fail) b1 (by first | (simp; done) | fail)); replace b1 : Below (w.heap.size + 1) (w.alloc zS) w1 := Below.trans (by go_grown) (b1.mono (by go_size)); have z1 : w.heap.size + 1 ≤ w1.heap.size := sz1 b1)
      | (go_at_call 149; refine (HBG.out _).mono ?_; rintro e w2 ⟨rfl, b2⟩; (first | (have t2 : Hid (Bx w2 (w.heap.size + 1) (.int .i64 0) (.string ⟨#[]⟩) (.int .i64 0) (.int .i64 0)) := t1.out.later b2 t1.out.lt) | (have t2 : Hid (Bx w2 w1.heap.size (.int .i64 0) (.string ⟨#[]⟩) (.int .i64 0) (.int .i64 0)) := Bx.later (by first | (constructor <;> first | (simp [go_sem]; done) | exact World.frozen?_alloc_at _ _ _ _ rfl | fail) | fail) b2 (by first | (simp; done) | fail)) | skip); replace b2 : Below (w.heap.size + 1) (w.alloc zS) w2 := Below.trans (by go_grown) (b2.mono (by go_size)); have z2 : w.heap.size + 1 ≤ w2.heap.size := sz1 b2)
      | (go_at_call 104; refine (begin_ok _ p b o cap ts k x d (H.out.later ?_) HL.out HD.out).mono ?_; exact Below.trans (box_below w _) (Below.mono (B := w.heap.size + 1) (by go_grown) (by go_size)); rintro e w3 ⟨rfl, m3, r3⟩; unfold tokA; have q3 : Hid (B7 w3 w.heap.size (.int .i64 0) (.string ⟨#[]⟩) (.string ⟨#[]⟩) (.int .i64 0) (.slice none 0 0) (.slice none 0 0) (.slice none 0 0) ∧ Mov p w w3) := ⟨(B7.later (n := w.heap.size + 1) (B7.new w 137 _ _ _ _ _ _ _) (by go_grown) (Nat.lt_succ_self _)).kept (m3.block _ (Nat.lt_of_lt_of_le (Nat.lt_succ_self _) (by go_size)) rp.out) m3.size, (Mov.of_below (Below.trans (box_below w zS) (Below.mono (B := w.heap.size + 1) (by go_grown) (by go_size)))).trans m3⟩; (first | (have t3 : Bx w3 (w.heap.size + 1) (.int .i64 0) (.string ⟨#[]⟩) (.int .i64 0) (.int .i64 0) := t2.out.mov m3 (by have := hp.out; omega); obtain ⟨c0, c1, c2, c3, f0, f1, f2, f3, zt⟩ := t3) | (have t3 : Bx w3 w1.heap.size (.int .i64 0) (.string ⟨#[]⟩) (.int .i64 0) (.int .i64 0) := t2.out.mov m3 (by have := hp.out; omega); obtain ⟨c0, c1, c2, c3, f0, f1, f2, f3, zt⟩ := t3) | (have t3 : Bx w3 w2.heap.size (.int .i64 0) (.string ⟨#[]⟩) (.int .i64 0) (.int .i64 0) := Bx.mov (by first | (constructor <;> first | (simp [go_sem]; done) | exact World.frozen?_alloc_at _ _ _ _ rfl | fail) | fail) m3 (by have := hp.out; omega); obtain ⟨c0, c1, c2, c3, f0, f1, f2, f3, zt⟩ := t3) | skip)))
    all_goals (go_wp2_with fail; go_meet; case rel => first | exact SRel.of ⟨c0, c1, c2, c3, f0, f1, f2, f3, zt⟩ (by have := hp.out; omega) hp.out hb.out q3.out.1 q3.out.2 r3 | exact SRel.of_new _ q3.out.1 q3.out.2 r3)
end Go.Proofs.YtlhklpnkelcnbaaGreatDoor
