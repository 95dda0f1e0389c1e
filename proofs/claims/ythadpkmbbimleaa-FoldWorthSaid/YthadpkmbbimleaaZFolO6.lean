/- Layer 5: smallerTwo for every sign. -/
import Derived.Test.YthadpkmbbimleaaZFolO1
import Derived.Test.YthadpkmbbimleaaZFolO2
import Derived.Test.YthadpkmbbimleaaZFolO3
import Derived.Test.YthadpkmbbimleaaZFolO4
import Derived.Test.YthadpkmbbimleaaZFolO5
namespace Go.Proofs.Ythadpkmbbimleaa
open Go.RowKit

set_option maxRecDepth 100000 in
set_option maxHeartbeats 8000000 in
theorem st_any (A : Nat → Prop) (n : List UInt8) (u1 : (n == [38, 38]) = false) (u2 : (n == [124, 124]) = false) (u3 : (n == [43]) = false) (u4 : (n == [45]) = false) (u5 : (n == [42]) = false) (u6 : (n == [47]) = false) (m k' m' k2 m2 : Int) (n' n2 : List UInt8) (ll ll2 : List Sx.Ex) (sa' sa2 : Option Addr) (sc' sc2 g o sc : Nat) (w : World) (hg : g < w.heap.size)
    (q0 : w.cell? ⟨g, o, none⟩ = some (.int .i64 k')) (q1 : w.cell? ⟨g, o + 1, none⟩ = some (.string ⟨n'.toArray⟩)) (q2 : w.cell? ⟨g, o + 2, none⟩ = some (.int .i64 m')) (q3 : w.cell? ⟨g, o + 3, none⟩ = some (.slice sa' ll.length sc'))
    (q4 : w.cell? ⟨g, o + 4, none⟩ = some (.int .i64 k2)) (q5 : w.cell? ⟨g, o + 5, none⟩ = some (.string ⟨n2.toArray⟩)) (q6 : w.cell? ⟨g, o + 6, none⟩ = some (.int .i64 m2)) (q7 : w.cell? ⟨g, o + 7, none⟩ = some (.slice sa2 ll2.length sc2))
    (HS : Hid (ExS (fun g => A g ∧ g < w.heap.size) w (.slice (some ⟨g, o, none⟩) 2 sc) [.mk k' n' m' ll, .mk k2 n2 m2 ll2])) (_HA : Hid (ExS (fun g => A g ∧ g < w.heap.size) w (.slice sa' ll.length sc') ll)) (_HB : Hid (ExS (fun g => A g ∧ g < w.heap.size) w (.slice sa2 ll2.length sc2) ll2)) :
    Calls Try.prog 57 #[.agg #[.int .i64 6, .string ⟨n.toArray⟩, .int .i64 m, .slice (some ⟨g, o, none⟩) 2 sc]] w (RE (fun g => A g ∨ w.heap.size ≤ g) w (Fo.st (.mk 6 n m [.mk k' n' m' ll, .mk k2 n2 m2 ll2]))) := by
  have ST : Hid (Fo.st (.mk 6 n m [.mk k' n' m' ll, .mk k2 n2 m2 ll2]) = .mk 6 n m [.mk k' n' m' ll, .mk k2 n2 m2 ll2]) := by
    unfold Hid Fo.st
    have v1 : ¬ n = [38, 38] := fun e => by rw [e] at u1; exact absurd u1 (by decide)
    have v2 : ¬ n = [124, 124] := fun e => by rw [e] at u2; exact absurd u2 (by decide)
    have v3 : ¬ n = [43] := fun e => by rw [e] at u3; exact absurd u3 (by decide)
    have v4 : ¬ n = [45] := fun e => by rw [e] at u4; exact absurd u4 (by decide)
    have v5 : ¬ n = [42] := fun e => by rw [e] at u5; exact absurd u5 (by decide)
    have v6 : ¬ n = [47] := fun e => by rw [e] at u6; exact absurd u6 (by decide)
    exact (if_neg v1).trans ((if_neg v2).trans ((if_neg v3).trans ((if_neg v4).trans ((if_neg v5).trans (if_neg v6)))))
  obtain ⟨W0, hW0⟩ : ∃ W0, W0 = (w.alloc (.cells #[.int .i64 6, .string ⟨n.toArray⟩, .int .i64 m, .slice (some ⟨g, o, none⟩) 2 sc] 24)).alloc zE := ⟨_, rfl⟩
  have bW : Below w.heap.size w W0 := by rw [hW0]; go_grown
  have BX0 : Bx W0 w.heap.size (.int .i64 6) (.string ⟨n.toArray⟩) (.int .i64 m) (.slice (some ⟨g, o, none⟩) 2 sc) := by rw [hW0]; exact (Bx.new w _ _ _ _ _).later (box_below _ _) (by simp)
  have RX0 : Bx W0 (w.heap.size + 1) (.int .i64 0) (.string ⟨#[]⟩) (.int .i64 0) (.slice none 0 0) := by
    have B := Bx.new (w.alloc (.cells #[.int .i64 6, .string ⟨n.toArray⟩, .int .i64 m, .slice (some ⟨g, o, none⟩) 2 sc] 24)) 24 (.int .i64 0) (.string ⟨#[]⟩) (.int .i64 0) (.slice none 0 0)
    have es : (w.alloc (.cells #[.int .i64 6, .string ⟨n.toArray⟩, .int .i64 m, .slice (some ⟨g, o, none⟩) 2 sc] 24)).heap.size = w.heap.size + 1 := by simp
    rw [es] at B
    rw [hW0]; exact B
  have BX1 : Hid _ := BX0
  have RX1 : Hid _ := RX0
  have BW1 : Hid _ := bW
  have hg0 : g < W0.heap.size := Nat.lt_of_lt_of_le hg bW.size
  have t0 := (bW.cell (p := ⟨g, o, none⟩) hg).trans q0
  have t1 := (bW.cell (p := ⟨g, o + 1, none⟩) hg).trans q1
  have t2 := (bW.cell (p := ⟨g, o + 2, none⟩) hg).trans q2
  have t3 := (bW.cell (p := ⟨g, o + 3, none⟩) hg).trans q3
  have t4 := (bW.cell (p := ⟨g, o + 4, none⟩) hg).trans q4
  have t5 := (bW.cell (p := ⟨g, o + 5, none⟩) hg).trans q5
  have t6 := (bW.cell (p := ⟨g, o + 6, none⟩) hg).trans q6
  have t7 := (bW.cell (p := ⟨g, o + 7, none⟩) hg).trans q7
  obtain ⟨x0, x1, x2, x3, xf0, xf1, xf2, xf3, zx⟩ := BX0
  clear q0 q1 q2 q3 q4 q5 q6 q7 bW RX0
  go_enter Try.func57, Try.ntmps57
  go_upto_region 1 with fail
  rw [← hW0]
  clear hW0
  go_cut [3, 4] from 6 (fun s3 s4 wc => ABx W0 (.int .i64 k') (.string ⟨n'.toArray⟩) (.int .i64 m') (.slice sa' ll.length sc') (.int .i64 k2) (.string ⟨n2.toArray⟩) (.int .i64 m2) (.slice sa2 ll2.length sc2) s3 s4 wc)
  case first =>
    go_region
    all_goals (go_wp2_with fail; go_meet; case rel => first | exact ABx.of1 _ _ _ _ _ _ _ _ _ _ _ | exact ABx.of2 _ _ _ _ _ _ _ _ _ _ _)
  case rest =>
    clear t0 t1 t2 t3 t4 t5 t6 t7 x0 x1 x2 x3 xf0 xf1 xf2 xf3 zx
    obtain ⟨g3, g4, rfl, rfl, A0, C0, bx⟩ := hcut
    have BW : Hid (Below w.heap.size w wc) := BW1.out.trans (bx.mono BW1.out.size)
    have BX : Hid _ := BX1.out.later bx BX1.out.lt
    have RX : Hid _ := RX1.out.later bx RX1.out.lt
    have AX : Hid _ := A0
    have CX : Hid _ := C0
    have B0 : Hid (Below wc.heap.size wc wc) := Below.refl _ _
    clear A0 C0 bx BX1 RX1 BW1
    obtain ⟨x0, x1, x2, x3, xf0, xf1, xf2, xf3, zx⟩ := BX.out.later B0.out BX.out.lt
    obtain ⟨r0, r1, r2, r3, rf0, rf1, rf2, rf3, zr⟩ := RX.out.later B0.out RX.out.lt
    obtain ⟨a0, a1, a2, a3, af0, af1, af2, af3, za⟩ := AX.out.later B0.out AX.out.lt
    obtain ⟨c0, c1, c2, c3, cf0, cf1, cf2, cf3, zc⟩ := CX.out.later B0.out CX.out.lt
    go_wp2_with fail
    have R : Hid (Fo.st (.mk 6 n m [.mk k' n' m' ll, .mk k2 n2 m2 ll2]) = .mk 6 n m [.mk k' n' m' ll, .mk k2 n2 m2 ll2]) := by unfold Hid; rw [ST.out]
    refine bodyPost_ret (v := .agg #[.int .i64 6, .string ⟨n.toArray⟩, .int .i64 m, .slice (some ⟨g, o, none⟩) 2 sc]) (by simp [results, Try.results57, go_sem, r0, r1, r2, r3]) rfl ?_
    rw [R.out]
    refine ⟨6, n, m, some ⟨g, o, none⟩, sc, [.mk k' n' m' ll, .mk k2 n2 m2 ll2], rfl, rfl, ?_, ((((BW.out.trans (B0.out.mono BW.out.size)).setCell (by simp) _).setCell (by simp) _).setCell (by simp) _).setCell (by simp) _⟩
    exact ((HS.out.later (BW.out.trans (B0.out.mono BW.out.size)) (Nat.le_refl _)).fill (g := w.heap.size + 1) (fun h => by have := h.2; omega) _ _ _ _).mono fun _ _ h => .inl h.1
theorem smallerTwo_any (A : Nat → Prop) (a b : Sx.Ex) (n : List UInt8) (m : Int) (sa : Option Addr) (sc : Nat) (w : World) (hs : ExS A w (.slice sa 2 sc) [a, b]) :
    Calls Try.prog 57 #[.agg #[.int .i64 6, .string ⟨n.toArray⟩, .int .i64 m, .slice sa 2 sc]] w (RE (fun g => A g ∨ w.heap.size ≤ g) w (Fo.st (.mk 6 n m [a, b]))) := by
  obtain ⟨g, o, k', n', m', sa', sn', sc', ll, rfl, hg, el, c0, c1, c2, c3, hs'⟩ := hs.part 0 (by simp)
  obtain ⟨g2, o2, k2, n2, m2, sa2, sn2, sc2, ll2, eg, _, el2, d0, d1, d2, d3, hs2⟩ := hs.part 1 (by simp)
  cases eg
  have ea : a = .mk k' n' m' ll := by simpa using el
  have eb : b = .mk k2 n2 m2 ll2 := by simpa using el2
  have hln := hs'.len
  have hln2 := hs2.len
  subst hln hln2 ea eb
  have q0 : w.cell? ⟨g, o, none⟩ = some (.int .i64 k') := by simpa using c0
  have q1 : w.cell? ⟨g, o + 1, none⟩ = some (.string ⟨n'.toArray⟩) := by simpa using c1
  have q2 : w.cell? ⟨g, o + 2, none⟩ = some (.int .i64 m') := by simpa using c2
  have q3 : w.cell? ⟨g, o + 3, none⟩ = some (.slice sa' ll.length sc') := by simpa using c3
  have q4 : w.cell? ⟨g, o + 4, none⟩ = some (.int .i64 k2) := by simpa using d0
  have q5 : w.cell? ⟨g, o + 5, none⟩ = some (.string ⟨n2.toArray⟩) := by simpa [Nat.add_assoc] using d1
  have q6 : w.cell? ⟨g, o + 6, none⟩ = some (.int .i64 m2) := by simpa [Nat.add_assoc] using d2
  have q7 : w.cell? ⟨g, o + 7, none⟩ = some (.slice sa2 ll2.length sc2) := by simpa [Nat.add_assoc] using d3
  by_cases h0 : n = [38, 38]
  · subst h0
    exact st_and A m k' m' k2 m2 n' n2 ll ll2 sa' sa2 sc' sc2 g o sc w hg q0 q1 q2 q3 q4 q5 q6 q7 hs.old hs'.old hs2.old
  by_cases h1 : n = [124, 124]
  · subst h1
    exact st_or A m k' m' k2 m2 n' n2 ll ll2 sa' sa2 sc' sc2 g o sc w hg q0 q1 q2 q3 q4 q5 q6 q7 hs.old hs'.old hs2.old
  by_cases h2 : n = [43]
  · subst h2
    exact st_add A m k' m' k2 m2 n' n2 ll ll2 sa' sa2 sc' sc2 g o sc w hg q0 q1 q2 q3 q4 q5 q6 q7 hs.old hs'.old hs2.old
  by_cases h3 : n = [45]
  · subst h3
    exact st_sub A m k' m' k2 m2 n' n2 ll ll2 sa' sa2 sc' sc2 g o sc w hg q0 q1 q2 q3 q4 q5 q6 q7 hs.old hs'.old hs2.old
  by_cases h4 : n = [42]
  · subst h4
    exact st_mul A m k' m' k2 m2 n' n2 ll ll2 sa' sa2 sc' sc2 g o sc w hg q0 q1 q2 q3 q4 q5 q6 q7 hs.old hs'.old hs2.old
  by_cases h5 : n = [47]
  · subst h5
    exact st_div A m k' m' k2 m2 n' n2 ll ll2 sa' sa2 sc' sc2 g o sc w hg q0 q1 q2 q3 q4 q5 q6 q7 hs.old hs'.old hs2.old
  exact st_any A n (text_f h0) (text_f h1) (text_f h2) (text_f h3) (text_f h4) (text_f h5) m k' m' k2 m2 n' n2 ll ll2 sa' sa2 sc' sc2 g o sc w hg q0 q1 q2 q3 q4 q5 q6 q7 hs.old hs'.old hs2.old
end Go.Proofs.Ythadpkmbbimleaa
