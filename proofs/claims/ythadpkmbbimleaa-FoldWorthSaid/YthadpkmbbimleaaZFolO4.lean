/- Layer 5: smallerTwo, by its sign: mul. -/
import Derived.Test.YthadpkmbbimleaaZFolO
namespace Go.Proofs.Ythadpkmbbimleaa
open Go.RowKit

set_option maxRecDepth 100000 in
set_option maxHeartbeats 8000000 in
theorem st_mul (A : Nat → Prop) (m k' m' k2 m2 : Int) (n' n2 : List UInt8) (ll ll2 : List Sx.Ex) (sa' sa2 : Option Addr) (sc' sc2 g o sc : Nat) (w : World) (hg : g < w.heap.size)
    (q0 : w.cell? ⟨g, o, none⟩ = some (.int .i64 k')) (q1 : w.cell? ⟨g, o + 1, none⟩ = some (.string ⟨n'.toArray⟩)) (q2 : w.cell? ⟨g, o + 2, none⟩ = some (.int .i64 m')) (q3 : w.cell? ⟨g, o + 3, none⟩ = some (.slice sa' ll.length sc'))
    (q4 : w.cell? ⟨g, o + 4, none⟩ = some (.int .i64 k2)) (q5 : w.cell? ⟨g, o + 5, none⟩ = some (.string ⟨n2.toArray⟩)) (q6 : w.cell? ⟨g, o + 6, none⟩ = some (.int .i64 m2)) (q7 : w.cell? ⟨g, o + 7, none⟩ = some (.slice sa2 ll2.length sc2))
    (HS : Hid (ExS (fun g => A g ∧ g < w.heap.size) w (.slice (some ⟨g, o, none⟩) 2 sc) [.mk k' n' m' ll, .mk k2 n2 m2 ll2])) (HA : Hid (ExS (fun g => A g ∧ g < w.heap.size) w (.slice sa' ll.length sc') ll)) (HB : Hid (ExS (fun g => A g ∧ g < w.heap.size) w (.slice sa2 ll2.length sc2) ll2)) :
    Calls Try.prog 57 #[.agg #[.int .i64 6, .string ⟨#[42]⟩, .int .i64 m, .slice (some ⟨g, o, none⟩) 2 sc]] w (RE (fun g => A g ∨ w.heap.size ≤ g) w (Fo.st (.mk 6 [42] m [.mk k' n' m' ll, .mk k2 n2 m2 ll2]))) := by
  have ST : Hid (Fo.st (.mk 6 [42] m [.mk k' n' m' ll, .mk k2 n2 m2 ll2]) = if Fo.isW 1 (.mk k2 n2 m2 ll2) then .mk k' n' m' ll else if Fo.isW 1 (.mk k' n' m' ll) then .mk k2 n2 m2 ll2 else .mk 6 [42] m [.mk k' n' m' ll, .mk k2 n2 m2 ll2]) := rfl
  obtain ⟨W0, hW0⟩ : ∃ W0, W0 = (w.alloc (.cells #[.int .i64 6, .string ⟨#[42]⟩, .int .i64 m, .slice (some ⟨g, o, none⟩) 2 sc] 24)).alloc zE := ⟨_, rfl⟩
  have bW : Below w.heap.size w W0 := by rw [hW0]; go_grown
  have BX0 : Bx W0 w.heap.size (.int .i64 6) (.string ⟨#[42]⟩) (.int .i64 m) (.slice (some ⟨g, o, none⟩) 2 sc) := by rw [hW0]; exact (Bx.new w _ _ _ _ _).later (box_below _ _) (by simp)
  have RX0 : Bx W0 (w.heap.size + 1) (.int .i64 0) (.string ⟨#[]⟩) (.int .i64 0) (.slice none 0 0) := by
    have B := Bx.new (w.alloc (.cells #[.int .i64 6, .string ⟨#[42]⟩, .int .i64 m, .slice (some ⟨g, o, none⟩) 2 sc] 24)) 24 (.int .i64 0) (.string ⟨#[]⟩) (.int .i64 0) (.slice none 0 0)
    have es : (w.alloc (.cells #[.int .i64 6, .string ⟨#[42]⟩, .int .i64 m, .slice (some ⟨g, o, none⟩) 2 sc] 24)).heap.size = w.heap.size + 1 := by simp
    rw [es] at B
    rw [hW0]; exact B
  have BX1 : Hid _ := BX0
  have RX1 : Hid _ := RX0
  have BW1 : Hid _ := bW
  have hg0 : g < W0.heap.size := Nat.lt_of_lt_of_le hg bW.size
  have t0 := (bW.cell (p := ⟨g, o, none⟩) hg).trans q0
  have t1 := (bW.cell (p := ⟨g, o + 1, none⟩) hg).trans q1
  have t2 := (bW.cell (p := ⟨g, o + 2, none⟩) hg).trans q2
  have t3 := (bW.cell (p := ⟨g, o + 3, none⟩) hg).trans q3
  have t4 := (bW.cell (p := ⟨g, o + 4, none⟩) hg).trans q4
  have t5 := (bW.cell (p := ⟨g, o + 5, none⟩) hg).trans q5
  have t6 := (bW.cell (p := ⟨g, o + 6, none⟩) hg).trans q6
  have t7 := (bW.cell (p := ⟨g, o + 7, none⟩) hg).trans q7
  obtain ⟨x0, x1, x2, x3, xf0, xf1, xf2, xf3, zx⟩ := BX0
  clear q0 q1 q2 q3 q4 q5 q6 q7 bW RX0
  go_enter Try.func57, Try.ntmps57
  go_upto_region 1 with fail
  rw [← hW0]
  clear hW0
  go_cut [3, 4] from 6 (fun s3 s4 wc => ABx W0 (.int .i64 k') (.string ⟨n'.toArray⟩) (.int .i64 m') (.slice sa' ll.length sc') (.int .i64 k2) (.string ⟨n2.toArray⟩) (.int .i64 m2) (.slice sa2 ll2.length sc2) s3 s4 wc)
  case first =>
    go_region
    all_goals (go_wp2_with fail; go_meet; case rel => first | exact ABx.of1 _ _ _ _ _ _ _ _ _ _ _ | exact ABx.of2 _ _ _ _ _ _ _ _ _ _ _)
  case rest =>
    clear t0 t1 t2 t3 t4 t5 t6 t7 x0 x1 x2 x3 xf0 xf1 xf2 xf3 zx
    obtain ⟨g3, g4, rfl, rfl, A0, C0, bx⟩ := hcut
    have BW : Hid (Below w.heap.size w wc) := BW1.out.trans (bx.mono BW1.out.size)
    have BX : Hid _ := BX1.out.later bx BX1.out.lt
    have RX : Hid _ := RX1.out.later bx RX1.out.lt
    have AX : Hid _ := A0
    have CX : Hid _ := C0
    have B0 : Hid (Below wc.heap.size wc wc) := Below.refl _ _
    have EWA1 : Hid (∀ W, Below wc.heap.size wc W → _) := fun W (_ : Below wc.heap.size wc W) => isWhole_any 1 k' n' m' ll sa' sc' W
    have EWB1 : Hid (∀ W, Below wc.heap.size wc W → _) := fun W (_ : Below wc.heap.size wc W) => isWhole_any 1 k2 n2 m2 ll2 sa2 sc2 W
    clear A0 C0 bx BX1 RX1 BW1
    obtain ⟨x0, x1, x2, x3, xf0, xf1, xf2, xf3, zx⟩ := BX.out.later B0.out BX.out.lt
    obtain ⟨r0, r1, r2, r3, rf0, rf1, rf2, rf3, zr⟩ := RX.out.later B0.out RX.out.lt
    obtain ⟨a0, a1, a2, a3, af0, af1, af2, af3, za⟩ := AX.out.later B0.out AX.out.lt
    obtain ⟨c0, c1, c2, c3, cf0, cf1, cf2, cf3, zc⟩ := CX.out.later B0.out CX.out.lt
    go_wp2_with fail
    cases hWB1 : Fo.isW 1 (.mk k2 n2 m2 ll2) with
    | true =>
      have HWB1 : Hid (Fo.isW 1 (.mk k2 n2 m2 ll2) = true) := hWB1
      rw [hWB1] at EWB1
      clear hWB1
      refine Calls.mono (EWB1.out _ B0.out) ?_
      rintro e w1 ⟨rfl, b1⟩
      have B1 : Hid (Below wc.heap.size wc w1) := B0.out.trans (b1.mono B0.out.size)
      clear x0 x1 x2 x3 xf0 xf1 xf2 xf3 zx r0 r1 r2 r3 rf0 rf1 rf2 rf3 zr a0 a1 a2 a3 af0 af1 af2 af3 za c0 c1 c2 c3 cf0 cf1 cf2 cf3 zc
      obtain ⟨x0, x1, x2, x3, xf0, xf1, xf2, xf3, zx⟩ := BX.out.later B1.out BX.out.lt
      obtain ⟨r0, r1, r2, r3, rf0, rf1, rf2, rf3, zr⟩ := RX.out.later B1.out RX.out.lt
      obtain ⟨a0, a1, a2, a3, af0, af1, af2, af3, za⟩ := AX.out.later B1.out AX.out.lt
      obtain ⟨c0, c1, c2, c3, cf0, cf1, cf2, cf3, zc⟩ := CX.out.later B1.out CX.out.lt
      clear b1
      go_wp2_with fail
      have R : Hid (Fo.st (.mk 6 [42] m [.mk k' n' m' ll, .mk k2 n2 m2 ll2]) = .mk k' n' m' ll) := by unfold Hid; rw [ST.out, HWB1.out]; rfl
      refine bodyPost_ret (v := .agg #[.int .i64 k', .string ⟨n'.toArray⟩, .int .i64 m', .slice sa' ll.length sc']) (by simp [results, Try.results57, go_sem, r0, r1, r2, r3]) rfl ?_
      rw [R.out]
      refine ⟨k', n', m', sa', sc', ll, rfl, rfl, ?_, ((((BW.out.trans (B1.out.mono BW.out.size)).setCell (by simp) _).setCell (by simp) _).setCell (by simp) _).setCell (by simp) _⟩
      exact ((HA.out.later (BW.out.trans (B1.out.mono BW.out.size)) (Nat.le_refl _)).fill (g := w.heap.size + 1) (fun h => by have := h.2; omega) _ _ _ _).mono fun _ _ h => .inl h.1
    | false =>
      have HWB1 : Hid (Fo.isW 1 (.mk k2 n2 m2 ll2) = false) := hWB1
      rw [hWB1] at EWB1
      clear hWB1
      refine Calls.mono (EWB1.out _ B0.out) ?_
      rintro e w1 ⟨rfl, b1⟩
      have B1 : Hid (Below wc.heap.size wc w1) := B0.out.trans (b1.mono B0.out.size)
      clear x0 x1 x2 x3 xf0 xf1 xf2 xf3 zx r0 r1 r2 r3 rf0 rf1 rf2 rf3 zr a0 a1 a2 a3 af0 af1 af2 af3 za c0 c1 c2 c3 cf0 cf1 cf2 cf3 zc
      obtain ⟨x0, x1, x2, x3, xf0, xf1, xf2, xf3, zx⟩ := BX.out.later B1.out BX.out.lt
      obtain ⟨r0, r1, r2, r3, rf0, rf1, rf2, rf3, zr⟩ := RX.out.later B1.out RX.out.lt
      obtain ⟨a0, a1, a2, a3, af0, af1, af2, af3, za⟩ := AX.out.later B1.out AX.out.lt
      obtain ⟨c0, c1, c2, c3, cf0, cf1, cf2, cf3, zc⟩ := CX.out.later B1.out CX.out.lt
      clear b1
      go_wp2_with fail
      cases hWA1 : Fo.isW 1 (.mk k' n' m' ll) with
      | true =>
        have HWA1 : Hid (Fo.isW 1 (.mk k' n' m' ll) = true) := hWA1
        rw [hWA1] at EWA1
        clear hWA1
        refine Calls.mono (EWA1.out _ B1.out) ?_
        rintro e w2 ⟨rfl, b2⟩
        have B2 : Hid (Below wc.heap.size wc w2) := B1.out.trans (b2.mono B1.out.size)
        clear x0 x1 x2 x3 xf0 xf1 xf2 xf3 zx r0 r1 r2 r3 rf0 rf1 rf2 rf3 zr a0 a1 a2 a3 af0 af1 af2 af3 za c0 c1 c2 c3 cf0 cf1 cf2 cf3 zc
        obtain ⟨x0, x1, x2, x3, xf0, xf1, xf2, xf3, zx⟩ := BX.out.later B2.out BX.out.lt
        obtain ⟨r0, r1, r2, r3, rf0, rf1, rf2, rf3, zr⟩ := RX.out.later B2.out RX.out.lt
        obtain ⟨a0, a1, a2, a3, af0, af1, af2, af3, za⟩ := AX.out.later B2.out AX.out.lt
        obtain ⟨c0, c1, c2, c3, cf0, cf1, cf2, cf3, zc⟩ := CX.out.later B2.out CX.out.lt
        clear b2
        go_wp2_with fail
        have R : Hid (Fo.st (.mk 6 [42] m [.mk k' n' m' ll, .mk k2 n2 m2 ll2]) = .mk k2 n2 m2 ll2) := by unfold Hid; rw [ST.out, HWB1.out, HWA1.out]; rfl
        refine bodyPost_ret (v := .agg #[.int .i64 k2, .string ⟨n2.toArray⟩, .int .i64 m2, .slice sa2 ll2.length sc2]) (by simp [results, Try.results57, go_sem, r0, r1, r2, r3]) rfl ?_
        rw [R.out]
        refine ⟨k2, n2, m2, sa2, sc2, ll2, rfl, rfl, ?_, ((((BW.out.trans (B2.out.mono BW.out.size)).setCell (by simp) _).setCell (by simp) _).setCell (by simp) _).setCell (by simp) _⟩
        exact ((HB.out.later (BW.out.trans (B2.out.mono BW.out.size)) (Nat.le_refl _)).fill (g := w.heap.size + 1) (fun h => by have := h.2; omega) _ _ _ _).mono fun _ _ h => .inl h.1
      | false =>
        have HWA1 : Hid (Fo.isW 1 (.mk k' n' m' ll) = false) := hWA1
        rw [hWA1] at EWA1
        clear hWA1
        refine Calls.mono (EWA1.out _ B1.out) ?_
        rintro e w2 ⟨rfl, b2⟩
        have B2 : Hid (Below wc.heap.size wc w2) := B1.out.trans (b2.mono B1.out.size)
        clear x0 x1 x2 x3 xf0 xf1 xf2 xf3 zx r0 r1 r2 r3 rf0 rf1 rf2 rf3 zr a0 a1 a2 a3 af0 af1 af2 af3 za c0 c1 c2 c3 cf0 cf1 cf2 cf3 zc
        obtain ⟨x0, x1, x2, x3, xf0, xf1, xf2, xf3, zx⟩ := BX.out.later B2.out BX.out.lt
        obtain ⟨r0, r1, r2, r3, rf0, rf1, rf2, rf3, zr⟩ := RX.out.later B2.out RX.out.lt
        obtain ⟨a0, a1, a2, a3, af0, af1, af2, af3, za⟩ := AX.out.later B2.out AX.out.lt
        obtain ⟨c0, c1, c2, c3, cf0, cf1, cf2, cf3, zc⟩ := CX.out.later B2.out CX.out.lt
        clear b2
        go_wp2_with fail
        have R : Hid (Fo.st (.mk 6 [42] m [.mk k' n' m' ll, .mk k2 n2 m2 ll2]) = .mk 6 [42] m [.mk k' n' m' ll, .mk k2 n2 m2 ll2]) := by unfold Hid; rw [ST.out, HWB1.out, HWA1.out]; rfl
        refine bodyPost_ret (v := .agg #[.int .i64 6, .string ⟨#[42]⟩, .int .i64 m, .slice (some ⟨g, o, none⟩) 2 sc]) (by simp [results, Try.results57, go_sem, r0, r1, r2, r3]) rfl ?_
        rw [R.out]
        refine ⟨6, [42], m, some ⟨g, o, none⟩, sc, [.mk k' n' m' ll, .mk k2 n2 m2 ll2], rfl, rfl, ?_, ((((BW.out.trans (B2.out.mono BW.out.size)).setCell (by simp) _).setCell (by simp) _).setCell (by simp) _).setCell (by simp) _⟩
        exact ((HS.out.later (BW.out.trans (B2.out.mono BW.out.size)) (Nat.le_refl _)).fill (g := w.heap.size + 1) (fun h => by have := h.2; omega) _ _ _ _).mono fun _ _ h => .inl h.1
end Go.Proofs.Ythadpkmbbimleaa
