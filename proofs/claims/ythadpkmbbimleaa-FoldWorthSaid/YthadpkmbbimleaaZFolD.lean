/- Layer 5: worth and Eval, whole (the program's). -/
import Derived.Test.YthadpkmbbimleaaZFolC
namespace Go.Proofs.Ythadpkmbbimleaa
open Go.RowKit

set_option maxRecDepth 100000 in
set_option maxHeartbeats 2000000 in
theorem worthUnary_any (T : List UInt8 → Int × List Int) (a : Sx.Ex) (ih : WC T a) (A : Nat → Prop) (n : List UInt8) (m : Int) (sa : Option Addr) (sn sc q : Nat) (w : World) (hs : ExS A w (.slice sa sn sc) [a]) (ht : TC w q T) (hu : Sx.isUn n = true) :
    Calls Try.prog 44 #[.agg #[.int .i64 5, .string ⟨n.toArray⟩, .int .i64 m, .slice sa sn sc], fv q] w fun e w' => e = .returned (.tuple #[.int .i64 (Fo.wo T (.mk 5 n m [a])).1, .int .i64 (Fo.wo T (.mk 5 n m [a])).2]) ∧ Below w.heap.size w w' := by
  have hn := hs.len
  subst hn
  obtain ⟨g, o, k', n', m', sa', sn', sc', ll, rfl, hg, el, c0, c1, c2, c3, hs'⟩ := hs.part 0 (by simp)
  have ea : a = .mk k' n' m' ll := by simpa using el
  have HW : Hid (Fo.wo T (.mk 5 n m [a]) = if ¬ (Fo.wo T a).2 = 0 then (0, (Fo.wo T a).2) else if n = [33] then (Fo.bI (decide ((Fo.wo T a).1 = 0)), 0) else (wrap64 (-(Fo.wo T a).1), 0)) := by
    unfold Hid
    rw [Fo.wo]
    simp [Fo.built, hu]
  have E1 : Hid (∀ W, Below w.heap.size w W → Calls Try.prog 20 #[.agg #[.int .i64 k', .string ⟨n'.toArray⟩, .int .i64 m', .slice sa' sn' sc'], fv q] W fun e w' => e = .returned (.tuple #[.int .i64 (Fo.wo T a).1, .int .i64 (Fo.wo T a).2]) ∧ Below W.heap.size W w') := fun W hW => ih A k' n' m' ll sa' sn' sc' q W ea (hs'.later hW (Nat.le_refl _)) (ht.later hW)
  simp only [Nat.zero_mul, Nat.add_zero] at c0 c1 c2 c3
  obtain ⟨i, t, hit⟩ : ∃ i t, Fo.wo T a = (i, t) := ⟨_, _, rfl⟩
  rw [hit] at HW E1
  rw [HW.out]
  clear hs hs' el ea ih ht hit HW hu
  unfold fv at *
  by_cases h0 : t = 0
  · subst h0
    rw [if_neg (by simp)]
    by_cases t3 : n = [33]
    · subst t3
      rw [if_pos rfl, show decide (i = 0) = (i == 0) from (beq_int i 0).symm]
      go_enter Try.func44, Try.ntmps44
      go_wp2_with fail
      refine Calls.mono (E1.out _ (box_below w _)) ?_
      rintro e w1 ⟨rfl, b1⟩
      have B1 := (Bx.new w 24 (.int .i64 5) (.string ⟨#[33]⟩) (.int .i64 m) (.slice (some ⟨g, o, none⟩) 1 sc)).later b1 (by simp)
      have bw : Below w.heap.size w w1 := (box_below w _).trans (b1.mono (by simp))
      obtain ⟨d0, d1, d2, d3, e0, e1, e2, e3, zt⟩ := B1
      have BW : Hid _ := bw
      clear b1 bw
      go_wp2_with fail
      refine Calls.mono (fnum_any _ _) ?_
      rintro e w3 ⟨rfl, hw⟩
      rw [hw]
      clear hw w3
      go_wp2_with fail
      go_ret2
      exact ⟨rfl, BW.out⟩
    · rw [if_neg t3]
      have u3 := text_f t3
      clear t3
      go_enter Try.func44, Try.ntmps44
      go_wp2_with fail
      refine Calls.mono (E1.out _ (box_below w _)) ?_
      rintro e w1 ⟨rfl, b1⟩
      have B1 := (Bx.new w 24 (.int .i64 5) (.string ⟨n.toArray⟩) (.int .i64 m) (.slice (some ⟨g, o, none⟩) 1 sc)).later b1 (by simp)
      have bw : Below w.heap.size w w1 := (box_below w _).trans (b1.mono (by simp))
      obtain ⟨d0, d1, d2, d3, e0, e1, e2, e3, zt⟩ := B1
      have BW : Hid _ := bw
      clear b1 bw
      go_wp2_with fail
      refine Calls.mono (fneg_any _ _) ?_
      rintro e w3 ⟨rfl, hw⟩
      rw [hw]
      clear hw w3
      go_wp2_with fail
      go_ret2
      exact ⟨rfl, BW.out⟩
  · rw [if_pos h0]
    have bt : (t == 0) = false := beq_eq_false_iff_ne.2 h0
    clear h0
    go_enter Try.func44, Try.ntmps44
    go_wp2_with fail
    refine Calls.mono (E1.out _ (box_below w _)) ?_
    rintro e w1 ⟨rfl, b1⟩
    have BW : Hid (Below w.heap.size w w1) := (box_below w _).trans (b1.mono (by simp))
    clear b1
    go_wp2_with fail
    go_ret2
    exact ⟨rfl, BW.out⟩
set_option maxRecDepth 100000 in
set_option maxHeartbeats 2000000 in
theorem two_and (i j u : Int) (bi : (i == 0) = false) (m k' m' k2 m2 : Int) (n' n2 : List UInt8) (sa' sa2 : Option Addr) (sn' sc' sn2 sc2 g o sc q : Nat) (w : World) (hg : g < w.heap.size)
    (c0 : w.cell? ⟨g, o, none⟩ = some (.int .i64 k')) (c1 : w.cell? ⟨g, o + 1, none⟩ = some (.string ⟨n'.toArray⟩)) (c2 : w.cell? ⟨g, o + 2, none⟩ = some (.int .i64 m')) (c3 : w.cell? ⟨g, o + 3, none⟩ = some (.slice sa' sn' sc'))
    (C2 : Hid (∀ W, Below w.heap.size w W → W.cell? ⟨g, o + 4, none⟩ = some (.int .i64 k2) ∧ W.cell? ⟨g, o + 5, none⟩ = some (.string ⟨n2.toArray⟩) ∧ W.cell? ⟨g, o + 6, none⟩ = some (.int .i64 m2) ∧ W.cell? ⟨g, o + 7, none⟩ = some (.slice sa2 sn2 sc2)))
    (E1 : Hid (∀ W, Below w.heap.size w W → Calls Try.prog 20 #[.agg #[.int .i64 k', .string ⟨n'.toArray⟩, .int .i64 m', .slice sa' sn' sc'], .func (.func 21) #[] #[.pointer (some ⟨q, 0, none⟩)]] W fun e w' => e = .returned (.tuple #[.int .i64 i, .int .i64 0]) ∧ Below W.heap.size W w'))
    (E2 : Hid (∀ W, Below w.heap.size w W → Calls Try.prog 20 #[.agg #[.int .i64 k2, .string ⟨n2.toArray⟩, .int .i64 m2, .slice sa2 sn2 sc2], .func (.func 21) #[] #[.pointer (some ⟨q, 0, none⟩)]] W fun e w' => e = .returned (.tuple #[.int .i64 j, .int .i64 u]) ∧ Below W.heap.size W w')) :
    Calls Try.prog 45 #[.agg #[.int .i64 6, .string ⟨#[38, 38]⟩, .int .i64 m, .slice (some ⟨g, o, none⟩) 2 sc], .func (.func 21) #[] #[.pointer (some ⟨q, 0, none⟩)]] w fun e w' => e = .returned (.tuple #[.int .i64 (if ¬ u = 0 then ((0 : Int), u) else Fo.re i [38, 38] j).1, .int .i64 (if ¬ u = 0 then ((0 : Int), u) else Fo.re i [38, 38] j).2]) ∧ Below w.heap.size w w' := by
  by_cases hu : u = 0
  · subst hu
    rw [if_neg (by simp)]
    go_enter Try.func45, Try.ntmps45
    go_wp2_with fail
    refine Calls.mono (E1.out _ (box_below w _)) ?_
    rintro e w1 ⟨rfl, b1⟩
    have B1 := (Bx.new w 24 (.int .i64 6) (.string ⟨#[38, 38]⟩) (.int .i64 m) (.slice (some ⟨g, o, none⟩) 2 sc)).later b1 (by simp)
    have bw : Below w.heap.size w w1 := (box_below w _).trans (b1.mono (by simp))
    have BB : Hid _ := B1
    obtain ⟨d0, d1, d2, d3, e0, e1, e2, e3, zt⟩ := B1
    obtain ⟨q0, q1, q2, q3⟩ := C2.out _ bw
    have hg1 : g < w1.heap.size := Nat.lt_of_lt_of_le hg bw.size
    have BW : Hid _ := bw
    clear b1 bw c0 c1 c2 c3
    go_wp2_with fail
    refine Calls.mono (E2.out _ BW.out) ?_
    rintro e w2 ⟨rfl, b2⟩
    have BW2 : Hid _ := BW.out.trans (b2.mono BW.out.size)
    obtain ⟨f0, f1, f2, f3, l0, l1, l2, l3, zu⟩ := BB.out.later b2 BB.out.lt
    clear b2 q0 q1 q2 q3 d0 d1 d2 d3 e0 e1 e2 e3 zt hg1
    go_wp2_with fail
    refine Calls.mono (reckoned_any _ _ [38, 38] _) ?_
    rintro e w3 ⟨rfl, hw⟩
    rw [hw]
    clear hw w3
    go_wp2_with fail
    go_ret2
    exact ⟨rfl, BW2.out⟩
  · rw [if_pos hu]
    have bu : (u == 0) = false := beq_eq_false_iff_ne.2 hu
    clear hu
    go_enter Try.func45, Try.ntmps45
    go_wp2_with fail
    refine Calls.mono (E1.out _ (box_below w _)) ?_
    rintro e w1 ⟨rfl, b1⟩
    have B1 := (Bx.new w 24 (.int .i64 6) (.string ⟨#[38, 38]⟩) (.int .i64 m) (.slice (some ⟨g, o, none⟩) 2 sc)).later b1 (by simp)
    have bw : Below w.heap.size w w1 := (box_below w _).trans (b1.mono (by simp))
    have BB : Hid _ := B1
    obtain ⟨d0, d1, d2, d3, e0, e1, e2, e3, zt⟩ := B1
    obtain ⟨q0, q1, q2, q3⟩ := C2.out _ bw
    have hg1 : g < w1.heap.size := Nat.lt_of_lt_of_le hg bw.size
    have BW : Hid _ := bw
    clear b1 bw c0 c1 c2 c3
    go_wp2_with fail
    refine Calls.mono (E2.out _ BW.out) ?_
    rintro e w2 ⟨rfl, b2⟩
    have BW2 : Hid _ := BW.out.trans (b2.mono BW.out.size)
    obtain ⟨f0, f1, f2, f3, l0, l1, l2, l3, zu⟩ := BB.out.later b2 BB.out.lt
    clear b2 q0 q1 q2 q3 d0 d1 d2 d3 e0 e1 e2 e3 zt hg1
    go_wp2_with fail
    go_ret2
    exact ⟨rfl, BW2.out⟩
set_option maxRecDepth 100000 in
set_option maxHeartbeats 2000000 in
theorem two_or (i j u : Int) (bi : (i == 0) = true) (m k' m' k2 m2 : Int) (n' n2 : List UInt8) (sa' sa2 : Option Addr) (sn' sc' sn2 sc2 g o sc q : Nat) (w : World) (hg : g < w.heap.size)
    (c0 : w.cell? ⟨g, o, none⟩ = some (.int .i64 k')) (c1 : w.cell? ⟨g, o + 1, none⟩ = some (.string ⟨n'.toArray⟩)) (c2 : w.cell? ⟨g, o + 2, none⟩ = some (.int .i64 m')) (c3 : w.cell? ⟨g, o + 3, none⟩ = some (.slice sa' sn' sc'))
    (C2 : Hid (∀ W, Below w.heap.size w W → W.cell? ⟨g, o + 4, none⟩ = some (.int .i64 k2) ∧ W.cell? ⟨g, o + 5, none⟩ = some (.string ⟨n2.toArray⟩) ∧ W.cell? ⟨g, o + 6, none⟩ = some (.int .i64 m2) ∧ W.cell? ⟨g, o + 7, none⟩ = some (.slice sa2 sn2 sc2)))
    (E1 : Hid (∀ W, Below w.heap.size w W → Calls Try.prog 20 #[.agg #[.int .i64 k', .string ⟨n'.toArray⟩, .int .i64 m', .slice sa' sn' sc'], .func (.func 21) #[] #[.pointer (some ⟨q, 0, none⟩)]] W fun e w' => e = .returned (.tuple #[.int .i64 i, .int .i64 0]) ∧ Below W.heap.size W w'))
    (E2 : Hid (∀ W, Below w.heap.size w W → Calls Try.prog 20 #[.agg #[.int .i64 k2, .string ⟨n2.toArray⟩, .int .i64 m2, .slice sa2 sn2 sc2], .func (.func 21) #[] #[.pointer (some ⟨q, 0, none⟩)]] W fun e w' => e = .returned (.tuple #[.int .i64 j, .int .i64 u]) ∧ Below W.heap.size W w')) :
    Calls Try.prog 45 #[.agg #[.int .i64 6, .string ⟨#[124, 124]⟩, .int .i64 m, .slice (some ⟨g, o, none⟩) 2 sc], .func (.func 21) #[] #[.pointer (some ⟨q, 0, none⟩)]] w fun e w' => e = .returned (.tuple #[.int .i64 (if ¬ u = 0 then ((0 : Int), u) else Fo.re i [124, 124] j).1, .int .i64 (if ¬ u = 0 then ((0 : Int), u) else Fo.re i [124, 124] j).2]) ∧ Below w.heap.size w w' := by
  by_cases hu : u = 0
  · subst hu
    rw [if_neg (by simp)]
    go_enter Try.func45, Try.ntmps45
    go_wp2_with fail
    refine Calls.mono (E1.out _ (box_below w _)) ?_
    rintro e w1 ⟨rfl, b1⟩
    have B1 := (Bx.new w 24 (.int .i64 6) (.string ⟨#[124, 124]⟩) (.int .i64 m) (.slice (some ⟨g, o, none⟩) 2 sc)).later b1 (by simp)
    have bw : Below w.heap.size w w1 := (box_below w _).trans (b1.mono (by simp))
    have BB : Hid _ := B1
    obtain ⟨d0, d1, d2, d3, e0, e1, e2, e3, zt⟩ := B1
    obtain ⟨q0, q1, q2, q3⟩ := C2.out _ bw
    have hg1 : g < w1.heap.size := Nat.lt_of_lt_of_le hg bw.size
    have BW : Hid _ := bw
    clear b1 bw c0 c1 c2 c3
    go_wp2_with fail
    refine Calls.mono (E2.out _ BW.out) ?_
    rintro e w2 ⟨rfl, b2⟩
    have BW2 : Hid _ := BW.out.trans (b2.mono BW.out.size)
    obtain ⟨f0, f1, f2, f3, l0, l1, l2, l3, zu⟩ := BB.out.later b2 BB.out.lt
    clear b2 q0 q1 q2 q3 d0 d1 d2 d3 e0 e1 e2 e3 zt hg1
    go_wp2_with fail
    refine Calls.mono (reckoned_any _ _ [124, 124] _) ?_
    rintro e w3 ⟨rfl, hw⟩
    rw [hw]
    clear hw w3
    go_wp2_with fail
    go_ret2
    exact ⟨rfl, BW2.out⟩
  · rw [if_pos hu]
    have bu : (u == 0) = false := beq_eq_false_iff_ne.2 hu
    clear hu
    go_enter Try.func45, Try.ntmps45
    go_wp2_with fail
    refine Calls.mono (E1.out _ (box_below w _)) ?_
    rintro e w1 ⟨rfl, b1⟩
    have B1 := (Bx.new w 24 (.int .i64 6) (.string ⟨#[124, 124]⟩) (.int .i64 m) (.slice (some ⟨g, o, none⟩) 2 sc)).later b1 (by simp)
    have bw : Below w.heap.size w w1 := (box_below w _).trans (b1.mono (by simp))
    have BB : Hid _ := B1
    obtain ⟨d0, d1, d2, d3, e0, e1, e2, e3, zt⟩ := B1
    obtain ⟨q0, q1, q2, q3⟩ := C2.out _ bw
    have hg1 : g < w1.heap.size := Nat.lt_of_lt_of_le hg bw.size
    have BW : Hid _ := bw
    clear b1 bw c0 c1 c2 c3
    go_wp2_with fail
    refine Calls.mono (E2.out _ BW.out) ?_
    rintro e w2 ⟨rfl, b2⟩
    have BW2 : Hid _ := BW.out.trans (b2.mono BW.out.size)
    obtain ⟨f0, f1, f2, f3, l0, l1, l2, l3, zu⟩ := BB.out.later b2 BB.out.lt
    clear b2 q0 q1 q2 q3 d0 d1 d2 d3 e0 e1 e2 e3 zt hg1
    go_wp2_with fail
    go_ret2
    exact ⟨rfl, BW2.out⟩
set_option maxRecDepth 100000 in
set_option maxHeartbeats 2000000 in
theorem two_any (i j u : Int) (n : List UInt8) (u1 : (n == [38, 38]) = false) (u2 : (n == [124, 124]) = false) (m k' m' k2 m2 : Int) (n' n2 : List UInt8) (sa' sa2 : Option Addr) (sn' sc' sn2 sc2 g o sc q : Nat) (w : World) (hg : g < w.heap.size)
    (c0 : w.cell? ⟨g, o, none⟩ = some (.int .i64 k')) (c1 : w.cell? ⟨g, o + 1, none⟩ = some (.string ⟨n'.toArray⟩)) (c2 : w.cell? ⟨g, o + 2, none⟩ = some (.int .i64 m')) (c3 : w.cell? ⟨g, o + 3, none⟩ = some (.slice sa' sn' sc'))
    (C2 : Hid (∀ W, Below w.heap.size w W → W.cell? ⟨g, o + 4, none⟩ = some (.int .i64 k2) ∧ W.cell? ⟨g, o + 5, none⟩ = some (.string ⟨n2.toArray⟩) ∧ W.cell? ⟨g, o + 6, none⟩ = some (.int .i64 m2) ∧ W.cell? ⟨g, o + 7, none⟩ = some (.slice sa2 sn2 sc2)))
    (E1 : Hid (∀ W, Below w.heap.size w W → Calls Try.prog 20 #[.agg #[.int .i64 k', .string ⟨n'.toArray⟩, .int .i64 m', .slice sa' sn' sc'], .func (.func 21) #[] #[.pointer (some ⟨q, 0, none⟩)]] W fun e w' => e = .returned (.tuple #[.int .i64 i, .int .i64 0]) ∧ Below W.heap.size W w'))
    (E2 : Hid (∀ W, Below w.heap.size w W → Calls Try.prog 20 #[.agg #[.int .i64 k2, .string ⟨n2.toArray⟩, .int .i64 m2, .slice sa2 sn2 sc2], .func (.func 21) #[] #[.pointer (some ⟨q, 0, none⟩)]] W fun e w' => e = .returned (.tuple #[.int .i64 j, .int .i64 u]) ∧ Below W.heap.size W w')) :
    Calls Try.prog 45 #[.agg #[.int .i64 6, .string ⟨n.toArray⟩, .int .i64 m, .slice (some ⟨g, o, none⟩) 2 sc], .func (.func 21) #[] #[.pointer (some ⟨q, 0, none⟩)]] w fun e w' => e = .returned (.tuple #[.int .i64 (if ¬ u = 0 then ((0 : Int), u) else Fo.re i n j).1, .int .i64 (if ¬ u = 0 then ((0 : Int), u) else Fo.re i n j).2]) ∧ Below w.heap.size w w' := by
  by_cases hu : u = 0
  · subst hu
    rw [if_neg (by simp)]
    go_enter Try.func45, Try.ntmps45
    go_wp2_with fail
    refine Calls.mono (E1.out _ (box_below w _)) ?_
    rintro e w1 ⟨rfl, b1⟩
    have B1 := (Bx.new w 24 (.int .i64 6) (.string ⟨n.toArray⟩) (.int .i64 m) (.slice (some ⟨g, o, none⟩) 2 sc)).later b1 (by simp)
    have bw : Below w.heap.size w w1 := (box_below w _).trans (b1.mono (by simp))
    have BB : Hid _ := B1
    obtain ⟨d0, d1, d2, d3, e0, e1, e2, e3, zt⟩ := B1
    obtain ⟨q0, q1, q2, q3⟩ := C2.out _ bw
    have hg1 : g < w1.heap.size := Nat.lt_of_lt_of_le hg bw.size
    have BW : Hid _ := bw
    clear b1 bw c0 c1 c2 c3
    go_wp2_with fail
    refine Calls.mono (E2.out _ BW.out) ?_
    rintro e w2 ⟨rfl, b2⟩
    have BW2 : Hid _ := BW.out.trans (b2.mono BW.out.size)
    obtain ⟨f0, f1, f2, f3, l0, l1, l2, l3, zu⟩ := BB.out.later b2 BB.out.lt
    clear b2 q0 q1 q2 q3 d0 d1 d2 d3 e0 e1 e2 e3 zt hg1
    go_wp2_with fail
    refine Calls.mono (reckoned_any _ _ n _) ?_
    rintro e w3 ⟨rfl, hw⟩
    rw [hw]
    clear hw w3
    go_wp2_with fail
    go_ret2
    exact ⟨rfl, BW2.out⟩
  · rw [if_pos hu]
    have bu : (u == 0) = false := beq_eq_false_iff_ne.2 hu
    clear hu
    go_enter Try.func45, Try.ntmps45
    go_wp2_with fail
    refine Calls.mono (E1.out _ (box_below w _)) ?_
    rintro e w1 ⟨rfl, b1⟩
    have B1 := (Bx.new w 24 (.int .i64 6) (.string ⟨n.toArray⟩) (.int .i64 m) (.slice (some ⟨g, o, none⟩) 2 sc)).later b1 (by simp)
    have bw : Below w.heap.size w w1 := (box_below w _).trans (b1.mono (by simp))
    have BB : Hid _ := B1
    obtain ⟨d0, d1, d2, d3, e0, e1, e2, e3, zt⟩ := B1
    obtain ⟨q0, q1, q2, q3⟩ := C2.out _ bw
    have hg1 : g < w1.heap.size := Nat.lt_of_lt_of_le hg bw.size
    have BW : Hid _ := bw
    clear b1 bw c0 c1 c2 c3
    go_wp2_with fail
    refine Calls.mono (E2.out _ BW.out) ?_
    rintro e w2 ⟨rfl, b2⟩
    have BW2 : Hid _ := BW.out.trans (b2.mono BW.out.size)
    obtain ⟨f0, f1, f2, f3, l0, l1, l2, l3, zu⟩ := BB.out.later b2 BB.out.lt
    clear b2 q0 q1 q2 q3 d0 d1 d2 d3 e0 e1 e2 e3 zt hg1
    go_wp2_with fail
    go_ret2
    exact ⟨rfl, BW2.out⟩
set_option maxRecDepth 100000 in
set_option maxHeartbeats 4000000 in
theorem worthTwo_any (T : List UInt8 → Int × List Int) (a b : Sx.Ex) (iha : WC T a) (ihb : WC T b) (A : Nat → Prop) (n : List UInt8) (m : Int) (sa : Option Addr) (sn sc q : Nat) (w : World) (hs : ExS A w (.slice sa sn sc) [a, b]) (ht : TC w q T) (hu : (Fo.isRe n || Fo.isTe n) = true) :
    Calls Try.prog 45 #[.agg #[.int .i64 6, .string ⟨n.toArray⟩, .int .i64 m, .slice sa sn sc], fv q] w fun e w' => e = .returned (.tuple #[.int .i64 (Fo.wo T (.mk 6 n m [a, b])).1, .int .i64 (Fo.wo T (.mk 6 n m [a, b])).2]) ∧ Below w.heap.size w w' := by
  have hn := hs.len
  subst hn
  obtain ⟨g, o, k', n', m', sa', sn', sc', ll, rfl, hg, el, c0, c1, c2, c3, hs'⟩ := hs.part 0 (by simp)
  obtain ⟨g2, o2, k2, n2, m2, sa2, sn2, sc2, ll2, eg, _, el2, q0, q1, q2, q3, hs2⟩ := hs.part 1 (by simp)
  cases eg
  have ea : a = .mk k' n' m' ll := by simpa using el
  have eb : b = .mk k2 n2 m2 ll2 := by simpa using el2
  have HW : Hid (Fo.wo T (.mk 6 n m [a, b]) = if ¬ (Fo.wo T a).2 = 0 then (0, (Fo.wo T a).2) else if (n = [38, 38] ∧ (Fo.wo T a).1 = 0) ∨ (n = [124, 124] ∧ ¬ (Fo.wo T a).1 = 0) then (Fo.bI (decide (¬ (Fo.wo T a).1 = 0)), 0) else if ¬ (Fo.wo T b).2 = 0 then (0, (Fo.wo T b).2) else Fo.re (Fo.wo T a).1 n (Fo.wo T b).1) := by
    unfold Hid
    rw [Fo.wo]
    simp [Fo.built, hu]
  have E1 : Hid (∀ W, Below w.heap.size w W → Calls Try.prog 20 #[.agg #[.int .i64 k', .string ⟨n'.toArray⟩, .int .i64 m', .slice sa' sn' sc'], fv q] W fun e w' => e = .returned (.tuple #[.int .i64 (Fo.wo T a).1, .int .i64 (Fo.wo T a).2]) ∧ Below W.heap.size W w') := fun W hW => iha A k' n' m' ll sa' sn' sc' q W ea (hs'.later hW (Nat.le_refl _)) (ht.later hW)
  have E2 : Hid (∀ W, Below w.heap.size w W → Calls Try.prog 20 #[.agg #[.int .i64 k2, .string ⟨n2.toArray⟩, .int .i64 m2, .slice sa2 sn2 sc2], fv q] W fun e w' => e = .returned (.tuple #[.int .i64 (Fo.wo T b).1, .int .i64 (Fo.wo T b).2]) ∧ Below W.heap.size W w') := fun W hW => ihb A k2 n2 m2 ll2 sa2 sn2 sc2 q W eb (hs2.later hW (Nat.le_refl _)) (ht.later hW)
  simp only [Nat.zero_mul, Nat.add_zero] at c0 c1 c2 c3
  simp only [Nat.one_mul, Nat.add_assoc, Nat.reduceAdd] at q0 q1 q2 q3
  obtain ⟨i, t, hit⟩ : ∃ i t, Fo.wo T a = (i, t) := ⟨_, _, rfl⟩
  obtain ⟨j, u, hju⟩ : ∃ j u, Fo.wo T b = (j, u) := ⟨_, _, rfl⟩
  rw [hit, hju] at HW
  rw [hit] at E1
  rw [hju] at E2
  rw [HW.out]
  have C2 : Hid (∀ W, Below w.heap.size w W → W.cell? ⟨g, o + 4, none⟩ = some (.int .i64 k2) ∧ W.cell? ⟨g, o + 5, none⟩ = some (.string ⟨n2.toArray⟩) ∧ W.cell? ⟨g, o + 6, none⟩ = some (.int .i64 m2) ∧ W.cell? ⟨g, o + 7, none⟩ = some (.slice sa2 sn2 sc2)) := fun W hW => ⟨(hW.cell (p := ⟨g, o + 4, none⟩) hg).trans q0, (hW.cell (p := ⟨g, o + 5, none⟩) hg).trans q1, (hW.cell (p := ⟨g, o + 6, none⟩) hg).trans q2, (hW.cell (p := ⟨g, o + 7, none⟩) hg).trans q3⟩
  clear hs hs' hs2 el el2 ea eb iha ihb ht hit hju HW hu q0 q1 q2 q3
  unfold fv at *
  by_cases h0 : t = 0
  · subst h0
    rw [if_neg (by simp)]
    by_cases hc : (n = [38, 38] ∧ i = 0) ∨ (n = [124, 124] ∧ ¬ i = 0)
    · rw [if_pos hc]
      rcases hc with ⟨rfl, rfl⟩ | ⟨rfl, hi⟩
      · go_enter Try.func45, Try.ntmps45
        go_wp2_with fail
        refine Calls.mono (E1.out _ (box_below w _)) ?_
        rintro e w1 ⟨rfl, b1⟩
        have B1 := (Bx.new w 24 (.int .i64 6) (.string ⟨#[38, 38]⟩) (.int .i64 m) (.slice (some ⟨g, o, none⟩) 2 sc)).later b1 (by simp)
        have bw : Below w.heap.size w w1 := (box_below w _).trans (b1.mono (by simp))
        obtain ⟨d0, d1, d2, d3, e0, e1, e2, e3, zt⟩ := B1
        have BW : Hid _ := bw
        clear b1 bw
        go_wp2_with fail
        refine Calls.mono (fnum_any _ _) ?_
        rintro e w3 ⟨rfl, hw⟩
        rw [hw]
        clear hw w3
        go_wp2_with fail
        go_ret2
        exact ⟨rfl, BW.out⟩
      · have bi : (i == 0) = false := beq_eq_false_iff_ne.2 hi
        have HI : Hid (decide (¬ i = 0) = true) := decide_eq_true hi
        rw [HI.out]
        clear hi
        go_enter Try.func45, Try.ntmps45
        go_wp2_with fail
        refine Calls.mono (E1.out _ (box_below w _)) ?_
        rintro e w1 ⟨rfl, b1⟩
        have B1 := (Bx.new w 24 (.int .i64 6) (.string ⟨#[124, 124]⟩) (.int .i64 m) (.slice (some ⟨g, o, none⟩) 2 sc)).later b1 (by simp)
        have bw : Below w.heap.size w w1 := (box_below w _).trans (b1.mono (by simp))
        obtain ⟨d0, d1, d2, d3, e0, e1, e2, e3, zt⟩ := B1
        have BW : Hid _ := bw
        clear b1 bw
        go_wp2_with fail
        refine Calls.mono (fnum_any _ _) ?_
        rintro e w3 ⟨rfl, hw⟩
        rw [hw]
        clear hw w3
        go_wp2_with fail
        go_ret2
        exact ⟨rfl, BW.out⟩
    · rw [if_neg hc]
      by_cases t1 : n = [38, 38]
      · subst t1
        exact two_and i j u (beq_eq_false_iff_ne.2 fun e => hc (.inl ⟨rfl, e⟩)) m k' m' k2 m2 n' n2 sa' sa2 sn' sc' sn2 sc2 g o sc q w hg c0 c1 c2 c3 C2 E1 E2
      by_cases t2 : n = [124, 124]
      · subst t2
        have hi : (i == 0) = true := by
          by_cases c2 : i = 0
          · rw [c2]; rfl
          · exact absurd (.inr ⟨rfl, c2⟩) hc
        exact two_or i j u hi m k' m' k2 m2 n' n2 sa' sa2 sn' sc' sn2 sc2 g o sc q w hg c0 c1 c2 c3 C2 E1 E2
      exact two_any i j u n (text_f t1) (text_f t2) m k' m' k2 m2 n' n2 sa' sa2 sn' sc' sn2 sc2 g o sc q w hg c0 c1 c2 c3 C2 E1 E2
  · rw [if_pos h0]
    have bt : (t == 0) = false := beq_eq_false_iff_ne.2 h0
    clear h0
    go_enter Try.func45, Try.ntmps45
    go_wp2_with fail
    refine Calls.mono (E1.out _ (box_below w _)) ?_
    rintro e w1 ⟨rfl, b1⟩
    have BW : Hid (Below w.heap.size w w1) := (box_below w _).trans (b1.mono (by simp))
    clear b1
    go_wp2_with fail
    go_ret2
    exact ⟨rfl, BW.out⟩
end Go.Proofs.Ythadpkmbbimleaa
