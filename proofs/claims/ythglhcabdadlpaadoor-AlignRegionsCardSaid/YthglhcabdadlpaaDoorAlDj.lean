/- AlignRegions. -/
import Derived.Test.YthglhcabdadlpaaDoorAlDi
import Derived.Test.YthglhcabdadlpaaDoorAlDg
import Derived.Test.YthglhcabdadlpaaDoorAlDa
import Derived.Test.YthglhcabdadlpaaDoorAlQ
namespace Go.Proofs.YthglhcabdadlpaaDoor
open Go.RowKit
set_option linter.unusedVariables false
set_option linter.unusedSimpArgs false
set_option maxRecDepth 100000
theorem RgB.step {w w' : World} {a : Option Addr} {l : List Al.Rg} (h : RgB w.heap.size w a l) (b : Below w.heap.size w w') : RgB w'.heap.size w' a l := fun h0 => by
  obtain ⟨g, e, hg, hc⟩ := h.later b (Nat.le_refl _) h0
  exact ⟨g, e, Nat.lt_of_lt_of_le hg b.size, hc⟩
theorem hk_lenB (n c : Int) : ∀ (ah : Int) (acc l : List Al.Rg), (Al.hk n c ah acc l).length ≤ acc.length + l.length
  | _, acc, [] => by simp [Al.hk]
  | ah, acc, r :: l => by
    simp only [Al.hk]
    split
    · have := hk_lenB n c r.ta (Al.setL acc (Al.wd c ah r (Al.beh n l))) l
      rw [setL_len] at this
      simp only [List.length_cons]; omega
    · have := hk_lenB n c r.ta (acc ++ [Al.wd c ah r (Al.beh n l)]) l
      simp only [List.length_append, List.length_cons, List.length_nil] at this ⊢; omega
theorem hunks_lenB (n m c : Int) (l : List Al.Ev) (h : l.length ≤ 300) : (Al.hunks n m l c).1.length ≤ 1000 := by
  unfold Al.hunks
  have h1 := gaps_lenB (n := n) (m := m) 0 0 l
  have h2 := hk_lenB n c 0 [] (Al.gaps n m 0 0 l)
  split
  · exact Nat.zero_le _
  · split
    · simp only [List.length_nil] at h2 ⊢; omega
    · exact Nat.zero_le _
theorem regionsL_walk (w : World) (ht : Tab w) (n : Int) (hn : -9223372036854775808 ≤ n ∧ n ≤ 9223372036854775807) (m : Int) (hm : -9223372036854775808 ≤ m ∧ m ≤ 9223372036854775807) (a : Option Addr) (l : List Al.Ev) (ca : Nat) (ha : EvR w.heap.size w a l) (hca : l.length ≤ ca) (_ : l.length ≤ 1000000000000000) (_ : ∀ x ∈ l, Al.R64 x.1 ∧ Al.R64 x.2) (c : Int) (hc : -9223372036854775808 ≤ c ∧ c ≤ 9223372036854775807) :
    Calls Tryd.prog 6 #[.int .i64 n, .int .i64 m, .slice a l.length ca, .int .i64 c] w fun e w' => e = .returned (.bool true) ∧ Below w.heap.size w w' := by
  have KN : Hid (∀ wz, Below w.heap.size w wz → Calls Tryd.prog 9 #[] wz fun e w' => e = .returned (.bool true) ∧ Below w.heap.size w w') := fun wz hz => (known15 wz (ht.later hz (Nat.le_refl _))).mono fun e w' h => ⟨h.1, hz.trans (h.2.mono hz.size)⟩
  have BIG : Hid (Below w.heap.size w w) := Below.refl _ _
  by_cases c1 : 300 < l.length
  · have d1 : decide ((300 : Int) < (l.length : Int)) = true := decide_eq_true (by omega)
    generalize l.length = N at *
    clear c1 ht ha hca hn hm hc
    go_enter Tryd.func6, Tryd.ntmps6
    go_wp2_with fail
    refine (KN.out w BIG.out).mono ?_
    rintro e w4 ⟨rfl, b4⟩
    have B4 := hidA b4
    clear b4
    go_wp2_with fail
    go_ret
    exact ⟨rfl, B4.out⟩
  have d1 : decide ((300 : Int) < (l.length : Int)) = false := decide_eq_false (by omega)
  by_cases c2 : 3000 < n
  · have d2 : decide ((3000 : Int) < n) = true := decide_eq_true c2
    generalize l.length = N at *
    clear c1 c2 ht ha hca hn hm hc
    go_enter Tryd.func6, Tryd.ntmps6
    go_wp2_with fail
    refine (KN.out w BIG.out).mono ?_
    rintro e w4 ⟨rfl, b4⟩
    have B4 := hidA b4
    clear b4
    go_wp2_with fail
    go_ret
    exact ⟨rfl, B4.out⟩
  have d2 : decide ((3000 : Int) < n) = false := decide_eq_false c2
  by_cases c3 : 3000 < m
  · have d3 : decide ((3000 : Int) < m) = true := decide_eq_true c3
    generalize l.length = N at *
    clear c1 c2 c3 ht ha hca hn hm hc
    go_enter Tryd.func6, Tryd.ntmps6
    go_wp2_with fail
    refine (KN.out w BIG.out).mono ?_
    rintro e w4 ⟨rfl, b4⟩
    have B4 := hidA b4
    clear b4
    go_wp2_with fail
    go_ret
    exact ⟨rfl, B4.out⟩
  have d3 : decide ((3000 : Int) < m) = false := decide_eq_false c3
  have n3 : n ≤ 3000 := by omega
  have m3 : m ≤ 3000 := by omega
  have l3 : l.length ≤ 300 := by omega
  have GL1 : Hid ((Al.regs n m l).1.length ≤ 900) := by
    unfold Hid Al.regs
    have := gaps_lenB (n := n) (m := m) 0 0 l
    split
    · exact Nat.zero_le _
    · split
      · simp only; omega
      · exact Nat.zero_le _
  have GL2 : Hid ((Al.hunks n m l c).1.length ≤ 1000) := hunks_lenB n m c l l3
  have EA : Hid (∀ wz, Below w.heap.size w wz → EvR wz.heap.size wz a l) := fun wz hz => (ha.later hz (Nat.le_refl _)).mono hz.size
  have OW : Hid (∀ wz, Below w.heap.size w wz → Calls Tryd.prog 20 #[.slice a l.length ca] wz fun e w' => ∃ a8 c8, e = .returned (.slice a8 l.length c8) ∧ EvR w'.heap.size w' a8 l ∧ Below wz.heap.size wz w') := fun wz hz => (own_any wz a ca l (EA.out wz hz) (Nat.le_refl _) (Nat.le_trans l3 (by decide))).mono fun e w' h => by
    obtain ⟨v, e1, o, bb⟩ := h
    obtain ⟨a8, c8, e2, ev, -⟩ := o.ev
    exact ⟨a8, c8, by rw [e1, e2], ev, bb⟩
  have R1 : Hid (∀ wz a8 c8, EvR wz.heap.size wz a8 l → Calls Tryd.prog 22 #[.int .i64 n, .int .i64 m, .slice a8 l.length c8] wz fun e w' => ∃ a2 c2, e = .returned (.tuple #[.slice a2 (Al.regs n m l).1.length c2, .int .i64 (Al.regs n m l).2]) ∧ RgB w'.heap.size w' a2 (Al.regs n m l).1 ∧ Below wz.heap.size wz w') := fun wz a8 c8 ev => (regions_any wz a8 c8 l n m ev (Nat.le_refl _) (Nat.le_trans l3 (by decide)) hn.2 hm.2).mono fun e w' h => by
    obtain ⟨v, e1, o, bb⟩ := h
    obtain ⟨a2, c2, e2, r⟩ := o.rb
    exact ⟨a2, c2, by rw [e1, e2], r, bb⟩
  have R2 : Hid (∀ wz, Below w.heap.size w wz → Calls Tryd.prog 23 #[.int .i64 n, .int .i64 m, .slice a l.length ca] wz fun e w' => ∃ a2 c2, e = .returned (.tuple #[.slice a2 (Al.regs n m l).1.length c2, .int .i64 (Al.regs n m l).2]) ∧ RgB w'.heap.size w' a2 (Al.regs n m l).1 ∧ Below wz.heap.size wz w') := fun wz hz => (rregs_any wz a ca l n m (EA.out wz hz) (Nat.le_refl _) (Nat.le_trans l3 (by decide)) hn.2 hm.2).mono fun e w' h => by
    obtain ⟨v, e1, o, bb⟩ := h
    obtain ⟨a2, c2, e2, r⟩ := o.rb
    exact ⟨a2, c2, by rw [e1, e2], r, bb⟩
  have H1 : Hid (∀ wz a8 c8, EvR wz.heap.size wz a8 l → Calls Tryd.prog 24 #[.int .i64 n, .int .i64 m, .slice a8 l.length c8, .int .i64 c] wz fun e w' => ∃ a2 c2, e = .returned (.tuple #[.slice a2 (Al.hunks n m l c).1.length c2, .int .i64 (Al.hunks n m l c).2]) ∧ RgB w'.heap.size w' a2 (Al.hunks n m l c).1 ∧ Below wz.heap.size wz w') := fun wz a8 c8 ev => (hunkss_any wz a8 c8 l n m c ev (Nat.le_refl _) (Nat.le_trans l3 (by decide)) hc.2 hn.2 hm.2).mono fun e w' h => by
    obtain ⟨v, e1, o, bb⟩ := h
    obtain ⟨a2, c2, e2, r⟩ := o.rb
    exact ⟨a2, c2, by rw [e1, e2], r, bb⟩
  have H2 : Hid (∀ wz, Below w.heap.size w wz → Calls Tryd.prog 25 #[.int .i64 n, .int .i64 m, .slice a l.length ca, .int .i64 c] wz fun e w' => ∃ a2 c2, e = .returned (.tuple #[.slice a2 (Al.hunks n m l c).1.length c2, .int .i64 (Al.hunks n m l c).2]) ∧ RgB w'.heap.size w' a2 (Al.hunks n m l c).1 ∧ Below wz.heap.size wz w') := fun wz hz => (rhunks_any wz a ca l n m c (EA.out wz hz) (Nat.le_refl _) (Nat.le_trans l3 (by decide)) hc.2 n3 m3).mono fun e w' h => by
    obtain ⟨v, e1, o, bb⟩ := h
    obtain ⟨a2, c2, e2, r⟩ := o.rb
    exact ⟨a2, c2, by rw [e1, e2], r, bb⟩
  have RG : Hid (∀ L : List Al.Rg, L.length ≤ 1000 → ∀ wz a2 c2, RgB wz.heap.size wz a2 L → Calls Tryd.prog 27 #[.slice a2 L.length c2] wz fun e w' => ∃ a3 c3, e = .returned (.slice a3 L.length c3) ∧ RgB w'.heap.size w' a3 L ∧ Below wz.heap.size wz w') := fun L hL wz a2 c2 r => (regs_any wz a2 c2 L r (Nat.le_refl _) hL).mono fun e w' h => by
    obtain ⟨v, e1, o, bb⟩ := h
    obtain ⟨a3, c3, e2, r⟩ := o.rb
    exact ⟨a3, c3, by rw [e1, e2], r, bb⟩
  have SR : Hid (∀ L : List Al.Rg, L.length ≤ 1000 → ∀ wz a2 c2 a3 c3, RgB wz.heap.size wz a2 L → RgB wz.heap.size wz a3 L → Calls Tryd.prog 26 #[.slice a2 L.length c2, .slice a3 L.length c3] wz fun e w' => e = .returned (.bool true) ∧ Below wz.heap.size wz w') := fun L hL wz a2 c2 a3 c3 r1 r2 => sameR_any wz a2 a3 c2 c3 L r1 r2 (Nat.le_refl _) hL
  have RG1 := hidA (RG.out _ (Nat.le_trans GL1.out (by decide)))
  have RG2 := hidA (RG.out _ GL2.out)
  have SR1 := hidA (SR.out _ (Nat.le_trans GL1.out (by decide)))
  have SR2 := hidA (SR.out _ GL2.out)
  clear RG SR GL1 GL2 EA
  generalize (Al.regs n m l).2 = E1 at *
  generalize (Al.regs n m l).1 = L1 at *
  generalize (Al.hunks n m l c).2 = E2 at *
  generalize (Al.hunks n m l c).1 = L2 at *
  have q1 : (E1 == E1) = true := beq_self_eq_true E1
  have q2 : (E2 == E2) = true := beq_self_eq_true E2
  generalize l.length = N at *
  generalize L1.length = G1 at *
  generalize L2.length = G2 at *
  clear ht ha hca hn hm hc c1 c2 c3 n3 m3 l3
  go_enter Tryd.func6, Tryd.ntmps6
  go_wp2_with fail
  refine (OW.out w BIG.out).mono ?_
  rintro e w1 ⟨a1, c1, rfl, ev1, b1⟩
  have B1 := hidA b1
  have X1 := hidA (R1.out w1 a1 c1 ev1)
  clear b1 ev1 R1
  go_wp2_with fail
  refine X1.out.mono ?_
  rintro e w2 ⟨a2, c2, rfl, r2, b2⟩
  have B2 : Hid (Below w.heap.size w w2) := B1.out.trans (b2.mono B1.out.size)
  have P2 := hidA r2
  have X2 := hidA (R2.out w2 B2.out)
  clear b2 r2 R2 X1 B1
  go_wp2_with fail
  refine X2.out.mono ?_
  rintro e w3 ⟨a3, c3, rfl, r3, b3⟩
  have B3 : Hid (Below w.heap.size w w3) := B2.out.trans (b3.mono B2.out.size)
  have P3 : Hid (RgB w3.heap.size w3 a2 L1 ∧ RgB w3.heap.size w3 a3 L1) := ⟨P2.out.step b3, r3⟩
  have X3 := hidA (OW.out w3 B3.out)
  clear b3 r3 OW X2 B2 P2
  go_wp2_with fail
  refine X3.out.mono ?_
  rintro e w4 ⟨a4, c4, rfl, ev4, b4⟩
  have B4 : Hid (Below w.heap.size w w4) := B3.out.trans (b4.mono B3.out.size)
  have P4 : Hid (RgB w4.heap.size w4 a2 L1 ∧ RgB w4.heap.size w4 a3 L1) := ⟨P3.out.1.step b4, P3.out.2.step b4⟩
  have X4 := hidA (H1.out w4 a4 c4 ev4)
  clear b4 ev4 H1 X3 B3 P3
  go_wp2_with fail
  refine X4.out.mono ?_
  rintro e w5 ⟨a5, c5, rfl, r5, b5⟩
  have B5 : Hid (Below w.heap.size w w5) := B4.out.trans (b5.mono B4.out.size)
  have P5 : Hid (RgB w5.heap.size w5 a2 L1 ∧ RgB w5.heap.size w5 a3 L1 ∧ RgB w5.heap.size w5 a5 L2) := ⟨P4.out.1.step b5, P4.out.2.step b5, r5⟩
  have X5 := hidA (H2.out w5 B5.out)
  clear b5 r5 H2 X4 B4 P4
  go_wp2_with fail
  refine X5.out.mono ?_
  rintro e w6 ⟨a6, c6, rfl, r6, b6⟩
  have B6 : Hid (Below w.heap.size w w6) := B5.out.trans (b6.mono B5.out.size)
  have P6 : Hid (RgB w6.heap.size w6 a2 L1 ∧ RgB w6.heap.size w6 a3 L1 ∧ RgB w6.heap.size w6 a5 L2 ∧ RgB w6.heap.size w6 a6 L2) := ⟨P5.out.1.step b6, P5.out.2.1.step b6, P5.out.2.2.step b6, r6⟩
  have X6 := hidA (RG1.out w6 a2 c2 P6.out.1)
  clear b6 r6 RG1 X5 B5 P5
  go_wp2_with fail
  refine X6.out.mono ?_
  rintro e w7 ⟨a7, c7, rfl, r7, b7⟩
  have B7 : Hid (Below w.heap.size w w7) := B6.out.trans (b7.mono B6.out.size)
  have P7 : Hid (RgB w7.heap.size w7 a5 L2 ∧ RgB w7.heap.size w7 a6 L2) := ⟨P6.out.2.2.1.step b7, P6.out.2.2.2.step b7⟩
  have X7 := hidA (SR1.out w7 a7 c7 a3 c3 r7 (P6.out.2.1.step b7))
  clear b7 r7 SR1 X6 B6 P6
  go_wp2_with fail
  refine X7.out.mono ?_
  rintro e w8 ⟨rfl, b8⟩
  have B8 : Hid (Below w.heap.size w w8) := B7.out.trans (b8.mono B7.out.size)
  have P8 : Hid (RgB w8.heap.size w8 a5 L2 ∧ RgB w8.heap.size w8 a6 L2) := ⟨P7.out.1.step b8, P7.out.2.step b8⟩
  have X8 := hidA (RG2.out w8 a5 c5 P8.out.1)
  clear b8 RG2 X7 B7 P7
  go_wp2_with fail
  refine X8.out.mono ?_
  rintro e w9 ⟨a9, c9, rfl, r9, b9⟩
  have B9 : Hid (Below w.heap.size w w9) := B8.out.trans (b9.mono B8.out.size)
  have X9 := hidA (SR2.out w9 a9 c9 a6 c6 r9 (P8.out.2.step b9))
  clear b9 r9 SR2 X8 B8 P8
  go_wp2_with fail
  refine X9.out.mono ?_
  rintro e w10 ⟨rfl, b10⟩
  have B10 : Hid (Below w.heap.size w w10) := B9.out.trans (b10.mono B9.out.size)
  clear b10 X9 B9
  go_wp2_with fail
  refine (KN.out w10 B10.out).mono ?_
  rintro e w11 ⟨rfl, b11⟩
  have B11 := hidA b11
  clear b11
  go_wp2_with fail
  go_ret
  exact ⟨rfl, B11.out⟩
end Go.Proofs.YthglhcabdadlpaaDoor
