/- Layer 5: the document's Eval: numbers, names. -/
/- Layer 5: the document's Eval, whole. -/
import Derived.Test.YthadpkmbbimleaaZFomI
import Derived.Test.YthadpkmbbimleaaZFomJ
import Derived.Test.YthadpkmbbimleaaZFomK
namespace Go.Proofs.Ythadpkmbbimleaa
open Go.RowKit

set_option maxRecDepth 100000 in
set_option maxHeartbeats 4000000 in
theorem reval_no (E : En) (n : List UInt8) (m : Int) (sa : Option Addr) (sn sc : Nat) (s0 s1 s2 : Value) (w : World) (hE : EnM w s0 s1 s2 E) (k : Int) (hrb : Fo.rb k n m sn = false) :
    Calls Try.prog 12 #[.agg #[.int .i64 k, .string ⟨n.toArray⟩, .int .i64 m, .slice sa sn sc], .agg #[s0, s1, s2]] w fun e w' => e = .returned (.tuple #[.int .i64 (0), .int .i64 (0)]) ∧ Below w.heap.size w w' := by
  obtain ⟨p0, c0', rfl, -⟩ := hE.names
  obtain ⟨p1, c1', rfl, -⟩ := hE.vals
  obtain ⟨p2, c2', rfl, -⟩ := hE.lists
  clear hE
  generalize E.names.length = n0 at *
  generalize E.vals.length = n1 at *
  generalize E.lists.length = n2 at *
  obtain ⟨W0, hW0⟩ : ∃ W0, W0 = (w.alloc (.cells #[.int .i64 k, .string ⟨n.toArray⟩, .int .i64 m, .slice sa sn sc] 24)).alloc (.cells #[.slice p0 n0 c0', .slice p1 n1 c1', .slice p2 n2 c2'] 29) := ⟨_, rfl⟩
  have B0 : Hid (Below w.heap.size w W0) := by rw [hW0]; unfold Hid; go_grown
  have BX : Hid (Bx W0 w.heap.size (.int .i64 k) (.string ⟨n.toArray⟩) (.int .i64 m) (.slice sa sn sc)) := by rw [hW0]; exact (Bx.new w _ _ _ _ _).later (box_below _ _) (by simp)
  have BY : Hid (B3 W0 (w.heap.size + 1) (.slice p0 n0 c0') (.slice p1 n1 c1') (.slice p2 n2 c2')) := by rw [hW0]; unfold Hid; have := B3.new (w.alloc (.cells #[.int .i64 k, .string ⟨n.toArray⟩, .int .i64 m, .slice sa sn sc] 24)) 29 (.slice p0 n0 c0') (.slice p1 n1 c1') (.slice p2 n2 c2'); simpa using this
  have EB : Hid (∀ W, Below w.heap.size w W → _) := fun W (_ : Below w.heap.size w W) => rbuilt_any k n m sa sn sc W
  rw [hrb] at EB
  clear hrb
  go_enter Try.func12, Try.ntmps12
  go_wp2_with fail
  rw [← hW0]
  clear hW0
  refine Calls.mono (EB.out _ B0.out) ?_
  rintro e w1 ⟨rfl, b1⟩
  have B1 : Hid (Below w.heap.size w w1) := B0.out.trans (b1.mono B0.out.size)
  have X1 : Hid _ := BX.out.later b1 BX.out.lt
  have Y1 : Hid _ := BY.out.later b1 BY.out.lt
  clear b1 BX BY EB
  obtain ⟨y0, y1, y2, yl⟩ := Y1.out
  obtain ⟨d0, d1, d2, d3, f0, f1, f2, f3, zt⟩ := X1.out
  go_wp2_with fail
  go_ret2
  exact ⟨rfl, B1.out⟩
set_option maxRecDepth 100000 in
set_option maxHeartbeats 4000000 in
theorem reval_1 (E : En) (n : List UInt8) (m : Int) (sa : Option Addr) (sn sc : Nat) (s0 s1 s2 : Value) (w : World) (hE : EnM w s0 s1 s2 E) (hrb : Fo.rb 1 n m sn = true) :
    Calls Try.prog 12 #[.agg #[.int .i64 1, .string ⟨n.toArray⟩, .int .i64 m, .slice sa sn sc], .agg #[s0, s1, s2]] w fun e w' => e = .returned (.tuple #[.int .i64 (m), .int .i64 (0)]) ∧ Below w.heap.size w w' := by
  obtain ⟨p0, c0', rfl, -⟩ := hE.names
  obtain ⟨p1, c1', rfl, -⟩ := hE.vals
  obtain ⟨p2, c2', rfl, -⟩ := hE.lists
  clear hE
  generalize E.names.length = n0 at *
  generalize E.vals.length = n1 at *
  generalize E.lists.length = n2 at *
  obtain ⟨W0, hW0⟩ : ∃ W0, W0 = (w.alloc (.cells #[.int .i64 1, .string ⟨n.toArray⟩, .int .i64 m, .slice sa sn sc] 24)).alloc (.cells #[.slice p0 n0 c0', .slice p1 n1 c1', .slice p2 n2 c2'] 29) := ⟨_, rfl⟩
  have B0 : Hid (Below w.heap.size w W0) := by rw [hW0]; unfold Hid; go_grown
  have BX : Hid (Bx W0 w.heap.size (.int .i64 1) (.string ⟨n.toArray⟩) (.int .i64 m) (.slice sa sn sc)) := by rw [hW0]; exact (Bx.new w _ _ _ _ _).later (box_below _ _) (by simp)
  have BY : Hid (B3 W0 (w.heap.size + 1) (.slice p0 n0 c0') (.slice p1 n1 c1') (.slice p2 n2 c2')) := by rw [hW0]; unfold Hid; have := B3.new (w.alloc (.cells #[.int .i64 1, .string ⟨n.toArray⟩, .int .i64 m, .slice sa sn sc] 24)) 29 (.slice p0 n0 c0') (.slice p1 n1 c1') (.slice p2 n2 c2'); simpa using this
  have EB : Hid (∀ W, Below w.heap.size w W → _) := fun W (_ : Below w.heap.size w W) => rbuilt_any 1 n m sa sn sc W
  rw [hrb] at EB
  clear hrb
  go_enter Try.func12, Try.ntmps12
  go_wp2_with fail
  rw [← hW0]
  clear hW0
  refine Calls.mono (EB.out _ B0.out) ?_
  rintro e w1 ⟨rfl, b1⟩
  have B1 : Hid (Below w.heap.size w w1) := B0.out.trans (b1.mono B0.out.size)
  have X1 : Hid _ := BX.out.later b1 BX.out.lt
  have Y1 : Hid _ := BY.out.later b1 BY.out.lt
  clear b1 BX BY EB
  obtain ⟨y0, y1, y2, yl⟩ := Y1.out
  obtain ⟨d0, d1, d2, d3, f0, f1, f2, f3, zt⟩ := X1.out
  go_wp2_with fail
  go_ret2
  exact ⟨rfl, B1.out⟩
set_option maxRecDepth 100000 in
set_option maxHeartbeats 4000000 in
theorem reval_2 (E : En) (n : List UInt8) (m : Int) (sa : Option Addr) (sn sc : Nat) (s0 s1 s2 : Value) (w : World) (hE : EnM w s0 s1 s2 E) (hrb : Fo.rb 2 n m sn = true) :
    Calls Try.prog 12 #[.agg #[.int .i64 2, .string ⟨n.toArray⟩, .int .i64 m, .slice sa sn sc], .agg #[s0, s1, s2]] w fun e w' => e = .returned (.tuple #[.int .i64 (m), .int .i64 (0)]) ∧ Below w.heap.size w w' := by
  obtain ⟨p0, c0', rfl, -⟩ := hE.names
  obtain ⟨p1, c1', rfl, -⟩ := hE.vals
  obtain ⟨p2, c2', rfl, -⟩ := hE.lists
  clear hE
  generalize E.names.length = n0 at *
  generalize E.vals.length = n1 at *
  generalize E.lists.length = n2 at *
  obtain ⟨W0, hW0⟩ : ∃ W0, W0 = (w.alloc (.cells #[.int .i64 2, .string ⟨n.toArray⟩, .int .i64 m, .slice sa sn sc] 24)).alloc (.cells #[.slice p0 n0 c0', .slice p1 n1 c1', .slice p2 n2 c2'] 29) := ⟨_, rfl⟩
  have B0 : Hid (Below w.heap.size w W0) := by rw [hW0]; unfold Hid; go_grown
  have BX : Hid (Bx W0 w.heap.size (.int .i64 2) (.string ⟨n.toArray⟩) (.int .i64 m) (.slice sa sn sc)) := by rw [hW0]; exact (Bx.new w _ _ _ _ _).later (box_below _ _) (by simp)
  have BY : Hid (B3 W0 (w.heap.size + 1) (.slice p0 n0 c0') (.slice p1 n1 c1') (.slice p2 n2 c2')) := by rw [hW0]; unfold Hid; have := B3.new (w.alloc (.cells #[.int .i64 2, .string ⟨n.toArray⟩, .int .i64 m, .slice sa sn sc] 24)) 29 (.slice p0 n0 c0') (.slice p1 n1 c1') (.slice p2 n2 c2'); simpa using this
  have EB : Hid (∀ W, Below w.heap.size w W → _) := fun W (_ : Below w.heap.size w W) => rbuilt_any 2 n m sa sn sc W
  rw [hrb] at EB
  clear hrb
  go_enter Try.func12, Try.ntmps12
  go_wp2_with fail
  rw [← hW0]
  clear hW0
  refine Calls.mono (EB.out _ B0.out) ?_
  rintro e w1 ⟨rfl, b1⟩
  have B1 : Hid (Below w.heap.size w w1) := B0.out.trans (b1.mono B0.out.size)
  have X1 : Hid _ := BX.out.later b1 BX.out.lt
  have Y1 : Hid _ := BY.out.later b1 BY.out.lt
  clear b1 BX BY EB
  obtain ⟨y0, y1, y2, yl⟩ := Y1.out
  obtain ⟨d0, d1, d2, d3, f0, f1, f2, f3, zt⟩ := X1.out
  go_wp2_with fail
  go_ret2
  exact ⟨rfl, B1.out⟩
set_option maxRecDepth 100000 in
set_option maxHeartbeats 4000000 in
theorem reval_var (n : List UInt8) (m : Int) (sa : Option Addr) (sn sc : Nat) (p0 p1 p2 : Option Addr) (n0 n1 n2 c0' c1' c2' : Nat) (w : World) (hrb : Fo.rb 3 n m sn = true) (hh : Bool) (z r : Int)
    (hl : ∀ W, Below w.heap.size w W → Calls Try.prog 24 #[.agg #[.slice p0 n0 c0', .slice p1 n1 c1', .slice p2 n2 c2'], .string ⟨n.toArray⟩] W fun e w' => ∃ ta tn tc, e = .returned (.tuple #[.slice ta tn tc, .bool hh]) ∧ Below W.heap.size W w')
    (hp : ∀ W, Below w.heap.size w W → Calls Try.prog 25 #[.slice p0 n0 c0', .string ⟨n.toArray⟩] W fun e w' => e = .returned (.int .i64 z) ∧ w' = W)
    (hx : (hh = true ∧ r = 0) ∨ (hh = false ∧ r = 0 ∧ z = -1) ∨ (∃ j : Nat, hh = false ∧ r = 0 ∧ z = (j : Int) ∧ ¬ j < n1) ∨ (∃ j : Nat, hh = false ∧ z = (j : Int) ∧ j < n1 ∧ ∃ b o, p1 = some ⟨b, o, none⟩ ∧ b < w.heap.size ∧ w.cell? ⟨b, o + j, none⟩ = some (.int .i64 r))) :
    Calls Try.prog 12 #[.agg #[.int .i64 3, .string ⟨n.toArray⟩, .int .i64 m, .slice sa sn sc], .agg #[.slice p0 n0 c0', .slice p1 n1 c1', .slice p2 n2 c2']] w fun e w' => e = .returned (.tuple #[.int .i64 r, .int .i64 0]) ∧ Below w.heap.size w w' := by
  have EL : Hid _ := hl
  have EP : Hid _ := hp
  have HX : Hid _ := hx
  clear hl hp hx
  obtain ⟨W0, hW0⟩ : ∃ W0, W0 = (w.alloc (.cells #[.int .i64 3, .string ⟨n.toArray⟩, .int .i64 m, .slice sa sn sc] 24)).alloc (.cells #[.slice p0 n0 c0', .slice p1 n1 c1', .slice p2 n2 c2'] 29) := ⟨_, rfl⟩
  have B0 : Hid (Below w.heap.size w W0) := by rw [hW0]; unfold Hid; go_grown
  have BX : Hid (Bx W0 w.heap.size (.int .i64 3) (.string ⟨n.toArray⟩) (.int .i64 m) (.slice sa sn sc)) := by rw [hW0]; exact (Bx.new w _ _ _ _ _).later (box_below _ _) (by simp)
  have BY : Hid (B3 W0 (w.heap.size + 1) (.slice p0 n0 c0') (.slice p1 n1 c1') (.slice p2 n2 c2')) := by rw [hW0]; unfold Hid; have := B3.new (w.alloc (.cells #[.int .i64 3, .string ⟨n.toArray⟩, .int .i64 m, .slice sa sn sc] 24)) 29 (.slice p0 n0 c0') (.slice p1 n1 c1') (.slice p2 n2 c2'); simpa using this
  have EB : Hid (∀ W, Below w.heap.size w W → _) := fun W (_ : Below w.heap.size w W) => rbuilt_any 3 n m sa sn sc W
  rw [hrb] at EB
  clear hrb
  go_enter Try.func12, Try.ntmps12
  go_wp2_with fail
  rw [← hW0]
  clear hW0
  refine Calls.mono (EB.out _ B0.out) ?_
  rintro e w1 ⟨rfl, b1⟩
  have B1 : Hid (Below w.heap.size w w1) := B0.out.trans (b1.mono B0.out.size)
  have X1 : Hid _ := BX.out.later b1 BX.out.lt
  have Y1 : Hid _ := BY.out.later b1 BY.out.lt
  clear b1 BX BY EB
  obtain ⟨y0, y1, y2, yl⟩ := Y1.out
  obtain ⟨d0, d1, d2, d3, f0, f1, f2, f3, zt⟩ := X1.out
  go_wp2_with fail
  refine Calls.mono (EL.out _ B1.out) ?_
  rintro e w3 ⟨ta, tn, tc, rfl, b3⟩
  have B3' : Hid (Below w.heap.size w w3) := B1.out.trans (b3.mono B1.out.size)
  have X3 : Hid _ := X1.out.later b3 X1.out.lt
  have Y3 : Hid _ := Y1.out.later b3 Y1.out.lt
  clear y0 y1 y2 yl d0 d1 d2 d3 f0 f1 f2 f3 zt X1 Y1 b3
  obtain ⟨y0, y1, y2, yl⟩ := Y3.out
  obtain ⟨d0, d1, d2, d3, f0, f1, f2, f3, zt⟩ := X3.out
  go_wp2_with fail
  refine Calls.mono (EP.out _ B3'.out) ?_
  rintro e w4 ⟨rfl, hw⟩
  rw [hw]
  clear hw w4
  rcases HX.out with ⟨rfl, rfl⟩ | ⟨rfl, rfl, rfl⟩ | ⟨j, rfl, rfl, rfl, hj⟩ | ⟨j, rfl, rfl, hj, b, o, rfl, hb, hc⟩
  · go_wp2_with fail
    go_ret2
    exact ⟨rfl, B3'.out⟩
  · go_wp2_with fail
    go_ret2
    exact ⟨rfl, B3'.out⟩
  · go_wp2_with fail
    go_ret2
    exact ⟨rfl, B3'.out⟩
  · have hc' := (B3'.out.cell (p := ⟨b, o + j, none⟩) hb).trans hc
    clear hc
    go_wp2_with fail
    go_ret2
    exact ⟨rfl, B3'.out⟩
theorem reval_name (E : En) (n : List UInt8) (m : Int) (sa : Option Addr) (sn sc : Nat) (s0 s1 s2 : Value) (w : World) (hE : EnM w s0 s1 s2 E) (hrb : Fo.rb 3 n m sn = true) :
    Calls Try.prog 12 #[.agg #[.int .i64 3, .string ⟨n.toArray⟩, .int .i64 m, .slice sa sn sc], .agg #[s0, s1, s2]] w fun e w' => e = .returned (.tuple #[.int .i64 (E.T n).1, .int .i64 0]) ∧ Below w.heap.size w w' := by
  have hE' := hE
  obtain ⟨p0, c0, rfl, h0⟩ := hE.names
  obtain ⟨p1, c1, rfl, h1⟩ := hE.vals
  obtain ⟨p2, c2, rfl, -⟩ := hE.lists
  refine reval_var n m sa sn sc p0 p1 p2 _ _ _ c0 c1 c2 w hrb (E.hasL n) (ixn E.names n 0) (E.T n).1 (fun W hW => (rlist_any _ _ _ E n W (hE'.later hW)).mono fun e w' ⟨ta, tn, tc, e, _, b⟩ => ⟨ta, tn, tc, e, b⟩) (fun W hW => rplace_any p0 c0 E.names n W (h0.later hW)) ?_
  rcases ixn_is E.names n 0 with hi | ⟨j, hi, _⟩
  · exact .inr (.inl ⟨En.hasL_no hi, by rw [En.T_no hi], hi⟩)
  · rw [Nat.zero_add] at hi
    have e1 := En.hasL_at hi
    have e2 := En.T_at hi
    cases e : E.lists.getD j none with
    | some q => rw [e] at e1 e2; exact .inl ⟨e1, by rw [e2]⟩
    | none =>
      rw [e] at e1 e2
      by_cases hj : j < E.vals.length
      · obtain ⟨b, o, rfl, hb, hc⟩ := h1.2 (by omega)
        exact .inr (.inr (.inr ⟨j, e1, hi, hj, b, o, rfl, hb, by rw [e2]; exact hc j hj⟩))
      · exact .inr (.inr (.inl ⟨j, e1, by rw [e2]; show E.vals.getD j 0 = 0; rw [List.getD_eq_getElem?_getD, List.getElem?_eq_none (by omega)]; rfl, hi, hj⟩))
end Go.Proofs.Ythadpkmbbimleaa

namespace Go.Proofs.Ythadpkmbbimleaa
open Go.RowKit

/-- The document's Eval of every expression. -/
theorem reval_any (E : En) (hR : E.Rg) {x : Sx.Ex} (h : Fo.Rg x) : REv E x := by
  induction h with
  | mk k n m l h0 h1 hp ih =>
  intro A k0 n0 m0 l0 sa sn sc s0 s1 s2 w hx hs hE
  injection hx with q1 q2 q3 q4
  subst q1 q2 q3 q4
  have hn := hs.len
  subst hn
  cases hrb : Fo.rb k n m l.length with
  | false =>
    have HW : Fo.wo E.T (.mk k n m l) = (0, 0) := by
      cases hb : Fo.built k n l.length with
      | false => exact Fo.wo_no hb
      | true =>
        unfold Fo.rb at hrb
        rw [hb, Bool.true_and, Bool.or_eq_false_iff] at hrb
        have k2 : k = 2 := by simpa using hrb.1
        subst k2
        rw [Fo.wo_bool (by rw [hb]; simp)]
        have : ¬ m = 1 := fun e => by subst e; exact absurd hrb.2 (by decide)
        rw [decide_eq_false this]
        rfl
    rw [HW]
    exact reval_no E n m sa l.length sc s0 s1 s2 w hE k hrb
  | true =>
    have hb : Fo.built k n l.length = true := by
      unfold Fo.rb at hrb
      rw [Bool.and_eq_true] at hrb
      exact hrb.1
    have hb' : ¬ Fo.built k n l.length = false := by rw [hb]; simp
    by_cases k1 : k = 1
    · subst k1
      rw [Fo.wo_int hb']
      exact reval_1 E n m sa l.length sc s0 s1 s2 w hE hrb
    by_cases k2 : k = 2
    · subst k2
      have HW : Fo.wo E.T (.mk 2 n m l) = (m, 0) := by
        rw [Fo.wo_bool hb']
        unfold Fo.rb at hrb
        simp only [Bool.and_eq_true, Bool.or_eq_true, decide_eq_true_eq, decide_true, Bool.not_true, Bool.false_eq_true, false_or] at hrb
        obtain ⟨_, z0, z1⟩ := hrb
        rcases (by omega : m = 0 ∨ m = 1) with rfl | rfl <;> rfl
      rw [HW]
      exact reval_2 E n m sa l.length sc s0 s1 s2 w hE hrb
    by_cases k3 : k = 3
    · subst k3
      rw [Fo.wo_var hb']
      exact reval_name E n m sa l.length sc s0 s1 s2 w hE hrb
    by_cases k4 : k = 4
    · subst k4
      have hl : l.length = 1 := by simpa [Fo.built] using hb
      obtain ⟨a, rfl⟩ := List.length_eq_one_iff.1 hl
      exact reval_ix E a (ih a (by simp)) A n m sa _ sc s0 s1 s2 w hs hE
    by_cases k5 : k = 5
    · subst k5
      have hl : l.length = 1 ∧ Sx.isUn n = true := by simpa [Fo.built] using hb
      obtain ⟨a, rfl⟩ := List.length_eq_one_iff.1 hl.1
      exact reval_un E a (ih a (by simp)) A n m sa _ sc s0 s1 s2 w hs hE hl.2
    by_cases k6 : k = 6
    · subst k6
      unfold Fo.built at hb
      rw [if_neg k1, if_neg k2, if_neg k3, if_neg k4, if_neg k5, if_pos rfl, Bool.and_eq_true] at hb
      obtain ⟨a, b, rfl⟩ := Fo.len_two (of_decide_eq_true hb.1)
      exact reval_bin E a b (ih a (by simp)) (ih b (by simp)) A n m sa _ sc s0 s1 s2 w hs hE hb.2 (Fo.wo_64 hR.tells (hp a (by simp))) (Fo.wo_64 hR.tells (hp b (by simp)))
    · unfold Fo.built at hb
      rw [if_neg k1, if_neg k2, if_neg k3, if_neg k4, if_neg k5, if_neg k6] at hb
      cases hb
end Go.Proofs.Ythadpkmbbimleaa
