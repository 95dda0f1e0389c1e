/- Layer 5: the rules of unary signs (the program's smallerUnary). -/
import Derived.Test.YthadpkmbbimleaaZFolM
namespace Go.Proofs.Ythadpkmbbimleaa
open Go.RowKit

def Fo.su (x : Sx.Ex) : Sx.Ex := if (Fo.isU [45] x && Fo.isU [45] ((Fo.pa x).getD 0 Fo.e0)) || (Fo.isU [33] x && Fo.isU [33] ((Fo.pa x).getD 0 Fo.e0) && Fo.tof ((Fo.pa ((Fo.pa x).getD 0 Fo.e0)).getD 0 Fo.e0)) then (Fo.pa ((Fo.pa x).getD 0 Fo.e0)).getD 0 Fo.e0 else x
theorem ExS.old {A : Nat → Prop} {w : World} {sl : Value} {l : List Sx.Ex} (h : ExS A w sl l) : ExS (fun g => A g ∧ g < w.heap.size) w sl l := h.mono fun _ hg hA => ⟨hA, hg⟩
set_option maxRecDepth 100000 in
set_option maxHeartbeats 4000000 in
theorem smallerUnary_any (A : Nat → Prop) (a : Sx.Ex) (n : List UInt8) (m : Int) (sa : Option Addr) (sc : Nat) (w : World) (hs : ExS A w (.slice sa 1 sc) [a]) :
    Calls Try.prog 56 #[.agg #[.int .i64 5, .string ⟨n.toArray⟩, .int .i64 m, .slice sa 1 sc]] w (RE (fun g => A g ∨ w.heap.size ≤ g) w (Fo.su (.mk 5 n m [a]))) := by
  obtain ⟨g, o, k', n', m', sa', sn', sc', ll, rfl, hg, el, c0, c1, c2, c3, hs'⟩ := hs.part 0 (by simp)
  have ea : a = .mk k' n' m' ll := by simpa using el
  have hln := hs'.len
  subst hln ea
  simp only [Nat.zero_mul, Nat.add_zero] at c0 c1 c2 c3
  obtain ⟨W0, hW0⟩ : ∃ W0, W0 = ((w.alloc (.cells #[.int .i64 5, .string ⟨n.toArray⟩, .int .i64 m, .slice (some ⟨g, o, none⟩) 1 sc] 24)).alloc zE).alloc (.cells #[.int .i64 k', .string ⟨n'.toArray⟩, .int .i64 m', .slice sa' ll.length sc'] 24) := ⟨_, rfl⟩
  have bW : Below w.heap.size w W0 := by rw [hW0]; go_grown
  have BX0 : Bx W0 w.heap.size (.int .i64 5) (.string ⟨n.toArray⟩) (.int .i64 m) (.slice (some ⟨g, o, none⟩) 1 sc) := by rw [hW0]; exact (Bx.new w _ _ _ _ _).later (n := w.heap.size + 1) (by go_grown) (by omega)
  have RX0 : Bx W0 (w.heap.size + 1) (.int .i64 0) (.string ⟨#[]⟩) (.int .i64 0) (.slice none 0 0) := by
    have B := Bx.new (w.alloc (.cells #[.int .i64 5, .string ⟨n.toArray⟩, .int .i64 m, .slice (some ⟨g, o, none⟩) 1 sc] 24)) 24 (.int .i64 0) (.string ⟨#[]⟩) (.int .i64 0) (.slice none 0 0)
    have es : (w.alloc (.cells #[.int .i64 5, .string ⟨n.toArray⟩, .int .i64 m, .slice (some ⟨g, o, none⟩) 1 sc] 24)).heap.size = w.heap.size + 1 := by simp
    rw [es] at B
    rw [hW0]; exact B.later (box_below _ _) (by simp)
  have IX0 : Bx W0 (w.heap.size + 2) (.int .i64 k') (.string ⟨n'.toArray⟩) (.int .i64 m') (.slice sa' ll.length sc') := by
    have B := Bx.new ((w.alloc (.cells #[.int .i64 5, .string ⟨n.toArray⟩, .int .i64 m, .slice (some ⟨g, o, none⟩) 1 sc] 24)).alloc zE) 24 (.int .i64 k') (.string ⟨n'.toArray⟩) (.int .i64 m') (.slice sa' ll.length sc')
    have es : ((w.alloc (.cells #[.int .i64 5, .string ⟨n.toArray⟩, .int .i64 m, .slice (some ⟨g, o, none⟩) 1 sc] 24)).alloc zE).heap.size = w.heap.size + 2 := by simp
    rw [es] at B
    rw [hW0]; exact B
  have BX : Hid _ := BX0
  have RX : Hid _ := RX0
  have IX : Hid _ := IX0
  have BW : Hid _ := bW
  have B0 : Hid (Below W0.heap.size W0 W0) := Below.refl _ _
  have HS : Hid _ := hs.old
  have HI : Hid (ExS A w (.slice sa' ll.length sc') ll) := hs'
  have E1 : Hid (∀ W, Below W0.heap.size W0 W → _) := fun W (_ : Below W0.heap.size W0 W) => fUnary_any [45] 5 n m [.mk k' n' m' ll] (some ⟨g, o, none⟩) sc W
  have E2 : Hid (∀ W, Below W0.heap.size W0 W → _) := fun W (_ : Below W0.heap.size W0 W) => fUnary_any [45] k' n' m' ll sa' sc' W
  have E3 : Hid (∀ W, Below W0.heap.size W0 W → _) := fun W (_ : Below W0.heap.size W0 W) => fUnary_any [33] 5 n m [.mk k' n' m' ll] (some ⟨g, o, none⟩) sc W
  have E4 : Hid (∀ W, Below W0.heap.size W0 W → _) := fun W (_ : Below W0.heap.size W0 W) => fUnary_any [33] k' n' m' ll sa' sc' W
  have SU : Hid (Fo.su (.mk 5 n m [.mk k' n' m' ll]) = if (Fo.isU [45] (.mk 5 n m [.mk k' n' m' ll]) && Fo.isU [45] (.mk k' n' m' ll)) || (Fo.isU [33] (.mk 5 n m [.mk k' n' m' ll]) && Fo.isU [33] (.mk k' n' m' ll) && Fo.tof (ll.getD 0 Fo.e0)) then ll.getD 0 Fo.e0 else .mk 5 n m [.mk k' n' m' ll]) := rfl
  have DP : Hid (∀ s, Fo.isU s (.mk k' n' m' ll) = true → ∃ g3 o3 k3 n3 m3 sa3 sc3 ll3, sa' = some ⟨g3, o3, none⟩ ∧ ll = [.mk k3 n3 m3 ll3] ∧ g3 < W0.heap.size ∧ ExS (fun g => A g ∧ g < w.heap.size) w (.slice sa3 ll3.length sc3) ll3 ∧ Hid (∀ W, Below W0.heap.size W0 W → W.cell? ⟨g3, o3, none⟩ = some (.int .i64 k3) ∧ W.cell? ⟨g3, o3 + 1, none⟩ = some (.string ⟨(n3 : List UInt8).toArray⟩) ∧ W.cell? ⟨g3, o3 + 2, none⟩ = some (.int .i64 m3) ∧ W.cell? ⟨g3, o3 + 3, none⟩ = some (.slice sa3 ll3.length sc3))) := by
    intro s hU
    obtain ⟨rfl, rfl, d, rfl⟩ := Fo.isU_parts hU
    obtain ⟨g3, o3, k3, n3, m3, sa3, sn3, sc3, ll3, rfl, hg3, el3, p0, p1, p2, p3, hs3⟩ := HI.out.part 0 (by simp)
    have ed : d = .mk k3 n3 m3 ll3 := by simpa using el3
    have hln3 := hs3.len
    subst hln3 ed
    have hz : g3 < W0.heap.size := Nat.lt_of_lt_of_le hg3 BW.out.size
    refine ⟨g3, o3, k3, n3, m3, sa3, sc3, ll3, rfl, rfl, hz, hs3.old, fun W hW => ?_⟩
    have bb := BW.out.trans (hW.mono BW.out.size)
    exact ⟨(bb.cell (p := ⟨g3, o3, none⟩) hg3).trans (by simpa using p0), (bb.cell (p := ⟨g3, o3 + 1, none⟩) hg3).trans (by simpa using p1), (bb.cell (p := ⟨g3, o3 + 2, none⟩) hg3).trans (by simpa using p2), (bb.cell (p := ⟨g3, o3 + 3, none⟩) hg3).trans (by simpa using p3)⟩
  clear hs hs' el bW BX0 RX0 IX0
  cases h1 : Fo.isU [45] (.mk 5 n m [.mk k' n' m' ll]) with
  | true =>
    rw [h1] at E1 SU
    have h3 : Fo.isU [33] (.mk 5 n m [.mk k' n' m' ll]) = false := by
      obtain ⟨_, rfl, _⟩ := Fo.isU_parts h1
      rfl
    rw [h3] at E3 SU
    clear h3 h1
    cases h2 : Fo.isU [45] (.mk k' n' m' ll) with
    | true =>
      rw [h2] at E2 SU
      obtain ⟨g3, o3, k3, n3, m3, sa3, sc3, ll3, rfl, hll, hg3, hd, CD⟩ := DP.out _ h2
      have h01 : 0 < ll.length := by rw [hll]; exact Nat.one_pos
      have h01i : (0 : Int) < (ll.length : Int) := by omega
      have HD : Hid _ := hd
      have R : Hid (Fo.su (.mk 5 n m [.mk k' n' m' ll]) = .mk k3 n3 m3 ll3) := by
        unfold Hid
        rw [SU.out, hll]; rfl
      clear hd h2 DP HI SU hll
      go_enter Try.func56, Try.ntmps56
      go_upto_region 2 with fail
      rw [← hW0]
      clear hW0 c0 c1 c2 c3
      obtain ⟨x0, x1, x2, x3, xf0, xf1, xf2, xf3, zx⟩ := BX.out.later B0.out BX.out.lt
      obtain ⟨r0, r1, r2, r3, rf0, rf1, rf2, rf3, zr⟩ := RX.out.later B0.out RX.out.lt
      obtain ⟨i0, i1, i2, i3, if0, if1, if2, if3, zi⟩ := IX.out.later B0.out IX.out.lt
      go_wp2_with fail
      refine Calls.mono (E1.out _ B0.out) ?_
      rintro e w1 ⟨rfl, b1⟩
      have B1 : Hid (Below W0.heap.size W0 w1) := B0.out.trans (b1.mono B0.out.size)
      clear x0 x1 x2 x3 xf0 xf1 xf2 xf3 zx r0 r1 r2 r3 rf0 rf1 rf2 rf3 zr i0 i1 i2 i3 if0 if1 if2 if3 zi
      obtain ⟨x0, x1, x2, x3, xf0, xf1, xf2, xf3, zx⟩ := BX.out.later B1.out BX.out.lt
      obtain ⟨r0, r1, r2, r3, rf0, rf1, rf2, rf3, zr⟩ := RX.out.later B1.out RX.out.lt
      obtain ⟨i0, i1, i2, i3, if0, if1, if2, if3, zi⟩ := IX.out.later B1.out IX.out.lt
      clear b1
      go_wp2_with fail
      refine Calls.mono (E2.out _ B1.out) ?_
      rintro e w2 ⟨rfl, b2⟩
      have B2 : Hid (Below W0.heap.size W0 w2) := B1.out.trans (b2.mono B1.out.size)
      clear x0 x1 x2 x3 xf0 xf1 xf2 xf3 zx r0 r1 r2 r3 rf0 rf1 rf2 rf3 zr i0 i1 i2 i3 if0 if1 if2 if3 zi
      obtain ⟨x0, x1, x2, x3, xf0, xf1, xf2, xf3, zx⟩ := BX.out.later B2.out BX.out.lt
      obtain ⟨r0, r1, r2, r3, rf0, rf1, rf2, rf3, zr⟩ := RX.out.later B2.out RX.out.lt
      obtain ⟨i0, i1, i2, i3, if0, if1, if2, if3, zi⟩ := IX.out.later B2.out IX.out.lt
      obtain ⟨p0, p1, p2, p3⟩ := CD.out _ B2.out
      have hgd : g3 < w2.heap.size := Nat.lt_of_lt_of_le hg3 B2.out.size
      clear b2
      go_wp2_with fail
      refine bodyPost_ret (v := .agg #[.int .i64 k3, .string ⟨n3.toArray⟩, .int .i64 m3, .slice sa3 ll3.length sc3]) (by simp [results, Try.results56, go_sem, r0, r1, r2, r3]) rfl ?_
      rw [R.out]
      refine ⟨k3, n3, m3, sa3, sc3, ll3, rfl, rfl, ?_, ((((BW.out.trans (B2.out.mono BW.out.size)).setCell (by simp) _).setCell (by simp) _).setCell (by simp) _).setCell (by simp) _⟩
      exact ((HD.out.later (BW.out.trans (B2.out.mono BW.out.size)) (Nat.le_refl _)).fill (g := w.heap.size + 1) (fun h => by have := h.2; omega) _ _ _ _).mono fun _ _ h => .inl h.1
    | false =>
      rw [h2] at E2 SU
      have R : Hid (Fo.su (.mk 5 n m [.mk k' n' m' ll]) = .mk 5 n m [.mk k' n' m' ll]) := SU
      clear h2 DP HI SU
      go_enter Try.func56, Try.ntmps56
      go_upto_region 2 with fail
      rw [← hW0]
      clear hW0 c0 c1 c2 c3
      obtain ⟨x0, x1, x2, x3, xf0, xf1, xf2, xf3, zx⟩ := BX.out.later B0.out BX.out.lt
      obtain ⟨r0, r1, r2, r3, rf0, rf1, rf2, rf3, zr⟩ := RX.out.later B0.out RX.out.lt
      obtain ⟨i0, i1, i2, i3, if0, if1, if2, if3, zi⟩ := IX.out.later B0.out IX.out.lt
      go_wp2_with fail
      refine Calls.mono (E1.out _ B0.out) ?_
      rintro e w1 ⟨rfl, b1⟩
      have B1 : Hid (Below W0.heap.size W0 w1) := B0.out.trans (b1.mono B0.out.size)
      clear x0 x1 x2 x3 xf0 xf1 xf2 xf3 zx r0 r1 r2 r3 rf0 rf1 rf2 rf3 zr i0 i1 i2 i3 if0 if1 if2 if3 zi
      obtain ⟨x0, x1, x2, x3, xf0, xf1, xf2, xf3, zx⟩ := BX.out.later B1.out BX.out.lt
      obtain ⟨r0, r1, r2, r3, rf0, rf1, rf2, rf3, zr⟩ := RX.out.later B1.out RX.out.lt
      obtain ⟨i0, i1, i2, i3, if0, if1, if2, if3, zi⟩ := IX.out.later B1.out IX.out.lt
      clear b1
      go_wp2_with fail
      refine Calls.mono (E2.out _ B1.out) ?_
      rintro e w2 ⟨rfl, b2⟩
      have B2 : Hid (Below W0.heap.size W0 w2) := B1.out.trans (b2.mono B1.out.size)
      clear x0 x1 x2 x3 xf0 xf1 xf2 xf3 zx r0 r1 r2 r3 rf0 rf1 rf2 rf3 zr i0 i1 i2 i3 if0 if1 if2 if3 zi
      obtain ⟨x0, x1, x2, x3, xf0, xf1, xf2, xf3, zx⟩ := BX.out.later B2.out BX.out.lt
      obtain ⟨r0, r1, r2, r3, rf0, rf1, rf2, rf3, zr⟩ := RX.out.later B2.out RX.out.lt
      obtain ⟨i0, i1, i2, i3, if0, if1, if2, if3, zi⟩ := IX.out.later B2.out IX.out.lt
      clear b2
      go_wp2_with fail
      refine Calls.mono (E3.out _ B2.out) ?_
      rintro e w3 ⟨rfl, b3⟩
      have B3 : Hid (Below W0.heap.size W0 w3) := B2.out.trans (b3.mono B2.out.size)
      clear x0 x1 x2 x3 xf0 xf1 xf2 xf3 zx r0 r1 r2 r3 rf0 rf1 rf2 rf3 zr i0 i1 i2 i3 if0 if1 if2 if3 zi
      obtain ⟨x0, x1, x2, x3, xf0, xf1, xf2, xf3, zx⟩ := BX.out.later B3.out BX.out.lt
      obtain ⟨r0, r1, r2, r3, rf0, rf1, rf2, rf3, zr⟩ := RX.out.later B3.out RX.out.lt
      obtain ⟨i0, i1, i2, i3, if0, if1, if2, if3, zi⟩ := IX.out.later B3.out IX.out.lt
      clear b3
      go_wp2_with fail
      refine bodyPost_ret (v := .agg #[.int .i64 5, .string ⟨n.toArray⟩, .int .i64 m, .slice (some ⟨g, o, none⟩) 1 sc]) (by simp [results, Try.results56, go_sem, r0, r1, r2, r3]) rfl ?_
      rw [R.out]
      refine ⟨5, n, m, some ⟨g, o, none⟩, sc, [.mk k' n' m' ll], rfl, rfl, ?_, ((((BW.out.trans (B3.out.mono BW.out.size)).setCell (by simp) _).setCell (by simp) _).setCell (by simp) _).setCell (by simp) _⟩
      exact ((HS.out.later (BW.out.trans (B3.out.mono BW.out.size)) (Nat.le_refl _)).fill (g := w.heap.size + 1) (fun h => by have := h.2; omega) _ _ _ _).mono fun _ _ h => .inl h.1
  | false =>
    rw [h1] at E1 SU
    clear h1
    cases h3 : Fo.isU [33] (.mk 5 n m [.mk k' n' m' ll]) with
    | false =>
      rw [h3] at E3 SU
      have R : Hid (Fo.su (.mk 5 n m [.mk k' n' m' ll]) = .mk 5 n m [.mk k' n' m' ll]) := SU
      clear h3 DP HI SU
      go_enter Try.func56, Try.ntmps56
      go_upto_region 2 with fail
      rw [← hW0]
      clear hW0 c0 c1 c2 c3
      obtain ⟨x0, x1, x2, x3, xf0, xf1, xf2, xf3, zx⟩ := BX.out.later B0.out BX.out.lt
      obtain ⟨r0, r1, r2, r3, rf0, rf1, rf2, rf3, zr⟩ := RX.out.later B0.out RX.out.lt
      obtain ⟨i0, i1, i2, i3, if0, if1, if2, if3, zi⟩ := IX.out.later B0.out IX.out.lt
      go_wp2_with fail
      refine Calls.mono (E1.out _ B0.out) ?_
      rintro e w1 ⟨rfl, b1⟩
      have B1 : Hid (Below W0.heap.size W0 w1) := B0.out.trans (b1.mono B0.out.size)
      clear x0 x1 x2 x3 xf0 xf1 xf2 xf3 zx r0 r1 r2 r3 rf0 rf1 rf2 rf3 zr i0 i1 i2 i3 if0 if1 if2 if3 zi
      obtain ⟨x0, x1, x2, x3, xf0, xf1, xf2, xf3, zx⟩ := BX.out.later B1.out BX.out.lt
      obtain ⟨r0, r1, r2, r3, rf0, rf1, rf2, rf3, zr⟩ := RX.out.later B1.out RX.out.lt
      obtain ⟨i0, i1, i2, i3, if0, if1, if2, if3, zi⟩ := IX.out.later B1.out IX.out.lt
      clear b1
      go_wp2_with fail
      refine Calls.mono (E3.out _ B1.out) ?_
      rintro e w2 ⟨rfl, b2⟩
      have B2 : Hid (Below W0.heap.size W0 w2) := B1.out.trans (b2.mono B1.out.size)
      clear x0 x1 x2 x3 xf0 xf1 xf2 xf3 zx r0 r1 r2 r3 rf0 rf1 rf2 rf3 zr i0 i1 i2 i3 if0 if1 if2 if3 zi
      obtain ⟨x0, x1, x2, x3, xf0, xf1, xf2, xf3, zx⟩ := BX.out.later B2.out BX.out.lt
      obtain ⟨r0, r1, r2, r3, rf0, rf1, rf2, rf3, zr⟩ := RX.out.later B2.out RX.out.lt
      obtain ⟨i0, i1, i2, i3, if0, if1, if2, if3, zi⟩ := IX.out.later B2.out IX.out.lt
      clear b2
      go_wp2_with fail
      refine bodyPost_ret (v := .agg #[.int .i64 5, .string ⟨n.toArray⟩, .int .i64 m, .slice (some ⟨g, o, none⟩) 1 sc]) (by simp [results, Try.results56, go_sem, r0, r1, r2, r3]) rfl ?_
      rw [R.out]
      refine ⟨5, n, m, some ⟨g, o, none⟩, sc, [.mk k' n' m' ll], rfl, rfl, ?_, ((((BW.out.trans (B2.out.mono BW.out.size)).setCell (by simp) _).setCell (by simp) _).setCell (by simp) _).setCell (by simp) _⟩
      exact ((HS.out.later (BW.out.trans (B2.out.mono BW.out.size)) (Nat.le_refl _)).fill (g := w.heap.size + 1) (fun h => by have := h.2; omega) _ _ _ _).mono fun _ _ h => .inl h.1
    | true =>
      rw [h3] at E3 SU
      clear h3
      cases h4 : Fo.isU [33] (.mk k' n' m' ll) with
      | false =>
        rw [h4] at E4 SU
        have R : Hid (Fo.su (.mk 5 n m [.mk k' n' m' ll]) = .mk 5 n m [.mk k' n' m' ll]) := SU
        clear h4 DP HI SU
        go_enter Try.func56, Try.ntmps56
        go_upto_region 2 with fail
        rw [← hW0]
        clear hW0 c0 c1 c2 c3
        obtain ⟨x0, x1, x2, x3, xf0, xf1, xf2, xf3, zx⟩ := BX.out.later B0.out BX.out.lt
        obtain ⟨r0, r1, r2, r3, rf0, rf1, rf2, rf3, zr⟩ := RX.out.later B0.out RX.out.lt
        obtain ⟨i0, i1, i2, i3, if0, if1, if2, if3, zi⟩ := IX.out.later B0.out IX.out.lt
        go_wp2_with fail
        refine Calls.mono (E1.out _ B0.out) ?_
        rintro e w1 ⟨rfl, b1⟩
        have B1 : Hid (Below W0.heap.size W0 w1) := B0.out.trans (b1.mono B0.out.size)
        clear x0 x1 x2 x3 xf0 xf1 xf2 xf3 zx r0 r1 r2 r3 rf0 rf1 rf2 rf3 zr i0 i1 i2 i3 if0 if1 if2 if3 zi
        obtain ⟨x0, x1, x2, x3, xf0, xf1, xf2, xf3, zx⟩ := BX.out.later B1.out BX.out.lt
        obtain ⟨r0, r1, r2, r3, rf0, rf1, rf2, rf3, zr⟩ := RX.out.later B1.out RX.out.lt
        obtain ⟨i0, i1, i2, i3, if0, if1, if2, if3, zi⟩ := IX.out.later B1.out IX.out.lt
        clear b1
        go_wp2_with fail
        refine Calls.mono (E3.out _ B1.out) ?_
        rintro e w2 ⟨rfl, b2⟩
        have B2 : Hid (Below W0.heap.size W0 w2) := B1.out.trans (b2.mono B1.out.size)
        clear x0 x1 x2 x3 xf0 xf1 xf2 xf3 zx r0 r1 r2 r3 rf0 rf1 rf2 rf3 zr i0 i1 i2 i3 if0 if1 if2 if3 zi
        obtain ⟨x0, x1, x2, x3, xf0, xf1, xf2, xf3, zx⟩ := BX.out.later B2.out BX.out.lt
        obtain ⟨r0, r1, r2, r3, rf0, rf1, rf2, rf3, zr⟩ := RX.out.later B2.out RX.out.lt
        obtain ⟨i0, i1, i2, i3, if0, if1, if2, if3, zi⟩ := IX.out.later B2.out IX.out.lt
        clear b2
        go_wp2_with fail
        refine Calls.mono (E4.out _ B2.out) ?_
        rintro e w3 ⟨rfl, b3⟩
        have B3 : Hid (Below W0.heap.size W0 w3) := B2.out.trans (b3.mono B2.out.size)
        clear x0 x1 x2 x3 xf0 xf1 xf2 xf3 zx r0 r1 r2 r3 rf0 rf1 rf2 rf3 zr i0 i1 i2 i3 if0 if1 if2 if3 zi
        obtain ⟨x0, x1, x2, x3, xf0, xf1, xf2, xf3, zx⟩ := BX.out.later B3.out BX.out.lt
        obtain ⟨r0, r1, r2, r3, rf0, rf1, rf2, rf3, zr⟩ := RX.out.later B3.out RX.out.lt
        obtain ⟨i0, i1, i2, i3, if0, if1, if2, if3, zi⟩ := IX.out.later B3.out IX.out.lt
        clear b3
        go_wp2_with fail
        refine bodyPost_ret (v := .agg #[.int .i64 5, .string ⟨n.toArray⟩, .int .i64 m, .slice (some ⟨g, o, none⟩) 1 sc]) (by simp [results, Try.results56, go_sem, r0, r1, r2, r3]) rfl ?_
        rw [R.out]
        refine ⟨5, n, m, some ⟨g, o, none⟩, sc, [.mk k' n' m' ll], rfl, rfl, ?_, ((((BW.out.trans (B3.out.mono BW.out.size)).setCell (by simp) _).setCell (by simp) _).setCell (by simp) _).setCell (by simp) _⟩
        exact ((HS.out.later (BW.out.trans (B3.out.mono BW.out.size)) (Nat.le_refl _)).fill (g := w.heap.size + 1) (fun h => by have := h.2; omega) _ _ _ _).mono fun _ _ h => .inl h.1
      | true =>
        rw [h4] at E4 SU
        obtain ⟨g3, o3, k3, n3, m3, sa3, sc3, ll3, rfl, hll, hg3, hd, CD⟩ := DP.out _ h4
        have h01 : 0 < ll.length := by rw [hll]; exact Nat.one_pos
        have h01i : (0 : Int) < (ll.length : Int) := by omega
        have HD : Hid _ := hd
        have E5 : Hid (∀ W, Below W0.heap.size W0 W → _) := fun W (_ : Below W0.heap.size W0 W) => tof_any k3 n3 m3 ll3 sa3 sc3 W
        clear hd h4 DP HI
        cases h5 : Fo.tof (.mk k3 n3 m3 ll3) with
        | true =>
          rw [h5] at E5
          have R : Hid (Fo.su (.mk 5 n m [.mk k' n' m' ll]) = .mk k3 n3 m3 ll3) := by
            unfold Hid
            rw [SU.out, hll]
            show (if (false || (true && true && Fo.tof (.mk k3 n3 m3 ll3))) = true then _ else _) = _
            rw [h5]; rfl
          clear h5 SU hll
          go_enter Try.func56, Try.ntmps56
          go_upto_region 2 with fail
          rw [← hW0]
          clear hW0 c0 c1 c2 c3
          obtain ⟨x0, x1, x2, x3, xf0, xf1, xf2, xf3, zx⟩ := BX.out.later B0.out BX.out.lt
          obtain ⟨r0, r1, r2, r3, rf0, rf1, rf2, rf3, zr⟩ := RX.out.later B0.out RX.out.lt
          obtain ⟨i0, i1, i2, i3, if0, if1, if2, if3, zi⟩ := IX.out.later B0.out IX.out.lt
          go_wp2_with fail
          refine Calls.mono (E1.out _ B0.out) ?_
          rintro e w1 ⟨rfl, b1⟩
          have B1 : Hid (Below W0.heap.size W0 w1) := B0.out.trans (b1.mono B0.out.size)
          clear x0 x1 x2 x3 xf0 xf1 xf2 xf3 zx r0 r1 r2 r3 rf0 rf1 rf2 rf3 zr i0 i1 i2 i3 if0 if1 if2 if3 zi
          obtain ⟨x0, x1, x2, x3, xf0, xf1, xf2, xf3, zx⟩ := BX.out.later B1.out BX.out.lt
          obtain ⟨r0, r1, r2, r3, rf0, rf1, rf2, rf3, zr⟩ := RX.out.later B1.out RX.out.lt
          obtain ⟨i0, i1, i2, i3, if0, if1, if2, if3, zi⟩ := IX.out.later B1.out IX.out.lt
          clear b1
          go_wp2_with fail
          refine Calls.mono (E3.out _ B1.out) ?_
          rintro e w2 ⟨rfl, b2⟩
          have B2 : Hid (Below W0.heap.size W0 w2) := B1.out.trans (b2.mono B1.out.size)
          clear x0 x1 x2 x3 xf0 xf1 xf2 xf3 zx r0 r1 r2 r3 rf0 rf1 rf2 rf3 zr i0 i1 i2 i3 if0 if1 if2 if3 zi
          obtain ⟨x0, x1, x2, x3, xf0, xf1, xf2, xf3, zx⟩ := BX.out.later B2.out BX.out.lt
          obtain ⟨r0, r1, r2, r3, rf0, rf1, rf2, rf3, zr⟩ := RX.out.later B2.out RX.out.lt
          obtain ⟨i0, i1, i2, i3, if0, if1, if2, if3, zi⟩ := IX.out.later B2.out IX.out.lt
          clear b2
          go_wp2_with fail
          refine Calls.mono (E4.out _ B2.out) ?_
          rintro e w3 ⟨rfl, b3⟩
          have B3 : Hid (Below W0.heap.size W0 w3) := B2.out.trans (b3.mono B2.out.size)
          clear x0 x1 x2 x3 xf0 xf1 xf2 xf3 zx r0 r1 r2 r3 rf0 rf1 rf2 rf3 zr i0 i1 i2 i3 if0 if1 if2 if3 zi
          obtain ⟨x0, x1, x2, x3, xf0, xf1, xf2, xf3, zx⟩ := BX.out.later B3.out BX.out.lt
          obtain ⟨r0, r1, r2, r3, rf0, rf1, rf2, rf3, zr⟩ := RX.out.later B3.out RX.out.lt
          obtain ⟨i0, i1, i2, i3, if0, if1, if2, if3, zi⟩ := IX.out.later B3.out IX.out.lt
          obtain ⟨p0, p1, p2, p3⟩ := CD.out _ B3.out
          have hgd : g3 < w3.heap.size := Nat.lt_of_lt_of_le hg3 B3.out.size
          clear b3
          go_wp2_with fail
          refine Calls.mono (E5.out _ B3.out) ?_
          rintro e w4 ⟨rfl, b4⟩
          have B4 : Hid (Below W0.heap.size W0 w4) := B3.out.trans (b4.mono B3.out.size)
          clear x0 x1 x2 x3 xf0 xf1 xf2 xf3 zx r0 r1 r2 r3 rf0 rf1 rf2 rf3 zr i0 i1 i2 i3 if0 if1 if2 if3 zi
          clear p0 p1 p2 p3 hgd
          obtain ⟨x0, x1, x2, x3, xf0, xf1, xf2, xf3, zx⟩ := BX.out.later B4.out BX.out.lt
          obtain ⟨r0, r1, r2, r3, rf0, rf1, rf2, rf3, zr⟩ := RX.out.later B4.out RX.out.lt
          obtain ⟨i0, i1, i2, i3, if0, if1, if2, if3, zi⟩ := IX.out.later B4.out IX.out.lt
          obtain ⟨p0, p1, p2, p3⟩ := CD.out _ B4.out
          have hgd : g3 < w4.heap.size := Nat.lt_of_lt_of_le hg3 B4.out.size
          clear b4
          go_wp2_with fail
          refine bodyPost_ret (v := .agg #[.int .i64 k3, .string ⟨n3.toArray⟩, .int .i64 m3, .slice sa3 ll3.length sc3]) (by simp [results, Try.results56, go_sem, r0, r1, r2, r3]) rfl ?_
          rw [R.out]
          refine ⟨k3, n3, m3, sa3, sc3, ll3, rfl, rfl, ?_, ((((BW.out.trans (B4.out.mono BW.out.size)).setCell (by simp) _).setCell (by simp) _).setCell (by simp) _).setCell (by simp) _⟩
          exact ((HD.out.later (BW.out.trans (B4.out.mono BW.out.size)) (Nat.le_refl _)).fill (g := w.heap.size + 1) (fun h => by have := h.2; omega) _ _ _ _).mono fun _ _ h => .inl h.1
        | false =>
          rw [h5] at E5
          have R : Hid (Fo.su (.mk 5 n m [.mk k' n' m' ll]) = .mk 5 n m [.mk k' n' m' ll]) := by
            unfold Hid
            rw [SU.out, hll]
            show (if (false || (true && true && Fo.tof (.mk k3 n3 m3 ll3))) = true then _ else _) = _
            rw [h5]; rfl
          clear h5 SU hll
          go_enter Try.func56, Try.ntmps56
          go_upto_region 2 with fail
          rw [← hW0]
          clear hW0 c0 c1 c2 c3
          obtain ⟨x0, x1, x2, x3, xf0, xf1, xf2, xf3, zx⟩ := BX.out.later B0.out BX.out.lt
          obtain ⟨r0, r1, r2, r3, rf0, rf1, rf2, rf3, zr⟩ := RX.out.later B0.out RX.out.lt
          obtain ⟨i0, i1, i2, i3, if0, if1, if2, if3, zi⟩ := IX.out.later B0.out IX.out.lt
          go_wp2_with fail
          refine Calls.mono (E1.out _ B0.out) ?_
          rintro e w1 ⟨rfl, b1⟩
          have B1 : Hid (Below W0.heap.size W0 w1) := B0.out.trans (b1.mono B0.out.size)
          clear x0 x1 x2 x3 xf0 xf1 xf2 xf3 zx r0 r1 r2 r3 rf0 rf1 rf2 rf3 zr i0 i1 i2 i3 if0 if1 if2 if3 zi
          obtain ⟨x0, x1, x2, x3, xf0, xf1, xf2, xf3, zx⟩ := BX.out.later B1.out BX.out.lt
          obtain ⟨r0, r1, r2, r3, rf0, rf1, rf2, rf3, zr⟩ := RX.out.later B1.out RX.out.lt
          obtain ⟨i0, i1, i2, i3, if0, if1, if2, if3, zi⟩ := IX.out.later B1.out IX.out.lt
          clear b1
          go_wp2_with fail
          refine Calls.mono (E3.out _ B1.out) ?_
          rintro e w2 ⟨rfl, b2⟩
          have B2 : Hid (Below W0.heap.size W0 w2) := B1.out.trans (b2.mono B1.out.size)
          clear x0 x1 x2 x3 xf0 xf1 xf2 xf3 zx r0 r1 r2 r3 rf0 rf1 rf2 rf3 zr i0 i1 i2 i3 if0 if1 if2 if3 zi
          obtain ⟨x0, x1, x2, x3, xf0, xf1, xf2, xf3, zx⟩ := BX.out.later B2.out BX.out.lt
          obtain ⟨r0, r1, r2, r3, rf0, rf1, rf2, rf3, zr⟩ := RX.out.later B2.out RX.out.lt
          obtain ⟨i0, i1, i2, i3, if0, if1, if2, if3, zi⟩ := IX.out.later B2.out IX.out.lt
          clear b2
          go_wp2_with fail
          refine Calls.mono (E4.out _ B2.out) ?_
          rintro e w3 ⟨rfl, b3⟩
          have B3 : Hid (Below W0.heap.size W0 w3) := B2.out.trans (b3.mono B2.out.size)
          clear x0 x1 x2 x3 xf0 xf1 xf2 xf3 zx r0 r1 r2 r3 rf0 rf1 rf2 rf3 zr i0 i1 i2 i3 if0 if1 if2 if3 zi
          obtain ⟨x0, x1, x2, x3, xf0, xf1, xf2, xf3, zx⟩ := BX.out.later B3.out BX.out.lt
          obtain ⟨r0, r1, r2, r3, rf0, rf1, rf2, rf3, zr⟩ := RX.out.later B3.out RX.out.lt
          obtain ⟨i0, i1, i2, i3, if0, if1, if2, if3, zi⟩ := IX.out.later B3.out IX.out.lt
          obtain ⟨p0, p1, p2, p3⟩ := CD.out _ B3.out
          have hgd : g3 < w3.heap.size := Nat.lt_of_lt_of_le hg3 B3.out.size
          clear b3
          go_wp2_with fail
          refine Calls.mono (E5.out _ B3.out) ?_
          rintro e w4 ⟨rfl, b4⟩
          have B4 : Hid (Below W0.heap.size W0 w4) := B3.out.trans (b4.mono B3.out.size)
          clear x0 x1 x2 x3 xf0 xf1 xf2 xf3 zx r0 r1 r2 r3 rf0 rf1 rf2 rf3 zr i0 i1 i2 i3 if0 if1 if2 if3 zi
          clear p0 p1 p2 p3 hgd
          obtain ⟨x0, x1, x2, x3, xf0, xf1, xf2, xf3, zx⟩ := BX.out.later B4.out BX.out.lt
          obtain ⟨r0, r1, r2, r3, rf0, rf1, rf2, rf3, zr⟩ := RX.out.later B4.out RX.out.lt
          obtain ⟨i0, i1, i2, i3, if0, if1, if2, if3, zi⟩ := IX.out.later B4.out IX.out.lt
          clear b4
          go_wp2_with fail
          refine bodyPost_ret (v := .agg #[.int .i64 5, .string ⟨n.toArray⟩, .int .i64 m, .slice (some ⟨g, o, none⟩) 1 sc]) (by simp [results, Try.results56, go_sem, r0, r1, r2, r3]) rfl ?_
          rw [R.out]
          refine ⟨5, n, m, some ⟨g, o, none⟩, sc, [.mk k' n' m' ll], rfl, rfl, ?_, ((((BW.out.trans (B4.out.mono BW.out.size)).setCell (by simp) _).setCell (by simp) _).setCell (by simp) _).setCell (by simp) _⟩
          exact ((HS.out.later (BW.out.trans (B4.out.mono BW.out.size)) (Nat.le_refl _)).fill (g := w.heap.size + 1) (fun h => by have := h.2; omega) _ _ _ _).mono fun _ _ h => .inl h.1
end Go.Proofs.Ythadpkmbbimleaa
