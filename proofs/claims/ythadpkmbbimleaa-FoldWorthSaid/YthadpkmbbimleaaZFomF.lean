/- Layer 5: FoldSafe, walked. -/
import Derived.Test.YthadpkmbbimleaaZFomE
import Derived.Test.YthadpkmbbimleaaZFomA
namespace Go.Proofs.Ythadpkmbbimleaa
open Go.RowKit

namespace Fo
open Sx
theorem trs_all : ∀ {l : List Ex}, trs l = false → ∀ x, x ∈ l → tr x = false
  | [], _, x, h => by cases h
  | a :: r, e, x, h => by
    rw [trs, Bool.or_eq_false_iff] at e
    rcases List.mem_cons.1 h with rfl | h
    · exact e.1
    · exact trs_all e.2 x h
theorem re_trap {a b : Int} {s : List UInt8} (h : (s = [47] ∨ s = [37]) → ¬ b = 0) : (re a s b).2 = 0 := by
  unfold re
  repeat' split
  all_goals first | rfl | (rename_i e1 e2; exact absurd e2 (h (.inl e1))) | (rename_i e1 e2; exact absurd e2 (h (.inr e1)))
theorem wo_safe (T : List UInt8 → Int × List Int) (x : Ex) : tr x = false → (wo T x).2 = 0 := by
  induction x using ind with
  | h k n m l ih =>
  intro ht
  rw [tr, Bool.or_eq_false_iff, Bool.or_eq_false_iff] at ht
  obtain ⟨⟨h4, hd⟩, hp⟩ := ht
  have h4 : ¬ k = 4 := of_decide_eq_false h4
  have all := trs_all hp
  cases hb : built k n l.length with
  | false => rw [wo_no hb]
  | true =>
    have hb' : ¬ built k n l.length = false := by rw [hb]; simp
    by_cases k1 : k = 1
    · subst k1; rw [wo_int hb']
    by_cases k2 : k = 2
    · subst k2; rw [wo_bool hb']
    by_cases k3 : k = 3
    · subst k3; rw [wo_var hb']
    match l, ih, hd, all, hb, hb' with
    | [], _, _, _, _, hb' => rw [wo, if_neg hb', if_neg k1, if_neg k2, if_neg k3]
    | [a], ih, hd, all, hb, hb' =>
      have ea := ih a (by simp) (all a (by simp))
      rw [wo, if_neg hb', if_neg k1, if_neg k2, if_neg k3, if_neg (by rw [ea]; simp), if_neg h4]
      split <;> rfl
    | a :: b :: r, ih, hd, all, hb, hb' =>
      have ea := ih a (by simp) (all a (by simp))
      have eb := ih b (by simp) (all b (by simp))
      rw [wo, if_neg hb', if_neg k1, if_neg k2, if_neg k3, if_neg (by rw [ea]; simp)]
      split
      · rfl
      · refine re_trap fun hn => ?_
        have k6 : k = 6 := by
          unfold built at hb
          rw [if_neg k1, if_neg k2, if_neg k3, if_neg h4] at hb
          by_cases k5 : k = 5
          · rw [if_pos k5] at hb; simp at hb
          · rw [if_neg k5] at hb
            by_cases k6 : k = 6
            · exact k6
            · rw [if_neg k6] at hb; cases hb
        have hdv : dv k n = true := by
          unfold dv
          rw [decide_eq_true k6]
          rcases hn with e | e <;> subst e <;> rfl
        rw [hdv, hb] at hd
        have hab : above b = true := by simpa using hd
        obtain ⟨kb, nb, mb, lb⟩ := b
        unfold above at hab
        rw [Bool.and_eq_true, Bool.and_eq_true] at hab
        obtain ⟨⟨q1, q2⟩, q3⟩ := hab
        have q2 : kb = 1 := of_decide_eq_true q2
        have q3 : 0 < mb := of_decide_eq_true q3
        subst q2
        rw [wo_int (by rw [q1]; simp)]
        show ¬ mb = 0
        omega
end Fo
/-- A box of three cells. -/
structure B3 (w : World) (g : Nat) (a0 a1 a2 : Value) : Prop where
  c0 : w.cell? ⟨g, 0, none⟩ = some a0
  c1 : w.cell? ⟨g, 1, none⟩ = some a1
  c2 : w.cell? ⟨g, 2, none⟩ = some a2
  lt : g < w.heap.size
theorem B3.later {w w' : World} {g n : Nat} {a0 a1 a2 : Value} (h : B3 w g a0 a1 a2) (b : Below n w w') (hn : g < n) : B3 w' g a0 a1 a2 :=
  ⟨(b.cell (p := ⟨g, 0, none⟩) hn).trans h.c0, (b.cell (p := ⟨g, 1, none⟩) hn).trans h.c1, (b.cell (p := ⟨g, 2, none⟩) hn).trans h.c2, Nat.lt_of_lt_of_le h.lt b.size⟩
theorem B3.new (w : World) (t : TypeId) (a0 a1 a2 : Value) : B3 (w.alloc (.cells #[a0, a1, a2] t)) w.heap.size a0 a1 a2 :=
  ⟨by simp [go_sem], by simp [go_sem], by simp [go_sem], by simp⟩
set_option maxRecDepth 100000 in
set_option maxHeartbeats 4000000 in
theorem safe_walk (A : Nat → Prop) (k : Int) (n : List UInt8) (m : Int) (l : List Sx.Ex) (sa : Option Addr) (sc : Nat) (s0 s1 s2 : Value) (E : En) (w : World) (hnl : Fo.Nl (.mk k n m l)) (hs : ExS A w (.slice sa l.length sc) l) (hE : EnM w s0 s1 s2 E) :
    Calls Try.prog 6 #[.agg #[.int .i64 k, .string ⟨n.toArray⟩, .int .i64 m, .slice sa l.length sc], .agg #[s0, s1, s2]] w fun e w' => e = .returned (.bool true) ∧ Below w.heap.size w w' := by
  have EG : Hid (∀ W, Below w.heap.size w W → _) := fun W hW => great_any hnl A k n m l sa sc W rfl (hs.later hW (Nat.le_refl _))
  have EM : Hid (∀ W, Below w.heap.size w W → Calls Try.prog 8 #[.agg #[s0, s1, s2]] W fun e w' => IsB e ∧ Below W.heap.size W w') := fun W hW => many_any s0 s1 s2 E W (hE.later hW)
  have EV : Hid (∀ W, Below w.heap.size w W → _) := fun W (hW : Below w.heap.size w W) => Eval_any E.T A k n m l sa l.length sc s0 s1 s2 W (hs.later hW (Nat.le_refl _)) (value_any s0 s1 s2 E W (hE.later hW))
  have ET : Hid (Fo.Bnd (.mk k n m l) → ∀ W, Below w.heap.size w W → _) := fun hb W (hW : Below w.heap.size w W) => traps_any hb A k n m l sa l.length sc W rfl (hs.later hW (Nat.le_refl _))
  have SF : Hid _ := Fo.wo_safe E.T (.mk k n m l)
  obtain ⟨p0, c0, rfl, -⟩ := hE.names
  obtain ⟨p1, c1, rfl, -⟩ := hE.vals
  obtain ⟨p2, c2, rfl, -⟩ := hE.lists
  clear hs hnl hE
  generalize E.names.length = n0 at *
  generalize E.vals.length = n1 at *
  generalize E.lists.length = n2 at *
  have EO : Hid (∀ W, Calls Try.prog 11 #[.agg #[.slice p0 n0 c0, .slice p1 n1 c1, .slice p2 n2 c2]] W fun e w' => e = .returned (.agg #[.slice p0 n0 c0, .slice p1 n1 c1, .slice p2 n2 c2]) ∧ Below W.heap.size W w') := fun W => own_any p0 p1 p2 n0 n1 n2 c0 c1 c2 W
  obtain ⟨W0, hW0⟩ : ∃ W0, W0 = (w.alloc (.cells #[.int .i64 k, .string ⟨n.toArray⟩, .int .i64 m, .slice sa l.length sc] 24)).alloc (.cells #[.slice p0 n0 c0, .slice p1 n1 c1, .slice p2 n2 c2] 29) := ⟨_, rfl⟩
  have B0 : Hid (Below w.heap.size w W0) := by rw [hW0]; unfold Hid; go_grown
  have BX : Hid (Bx W0 w.heap.size (.int .i64 k) (.string ⟨n.toArray⟩) (.int .i64 m) (.slice sa l.length sc)) := by rw [hW0]; exact (Bx.new w _ _ _ _ _).later (box_below _ _) (by simp)
  have BY : Hid (B3 W0 (w.heap.size + 1) (.slice p0 n0 c0) (.slice p1 n1 c1) (.slice p2 n2 c2)) := by rw [hW0]; unfold Hid; have := B3.new (w.alloc (.cells #[.int .i64 k, .string ⟨n.toArray⟩, .int .i64 m, .slice sa l.length sc] 24)) 29 (.slice p0 n0 c0) (.slice p1 n1 c1) (.slice p2 n2 c2); simpa using this
  go_enter Try.func6, Try.ntmps6
  go_wp2_with fail
  rw [← hW0]
  clear hW0
  refine Calls.mono (EG.out _ B0.out) ?_
  rintro e w1 ⟨b, rfl, hb, b1⟩
  have B1 : Hid (Below w.heap.size w w1) := B0.out.trans (b1.mono B0.out.size)
  have X1 : Hid _ := BX.out.later b1 BX.out.lt
  have Y1 : Hid _ := BY.out.later b1 BY.out.lt
  have HB : Hid _ := hb
  clear b1 hb EG BX BY
  cases b with
  | true =>
    go_wp2_with fail
    refine Calls.mono (known5 _) ?_
    rintro e w2 ⟨rfl, b2⟩
    have B2 : Hid (Below w.heap.size w w2) := B1.out.trans (b2.mono B1.out.size)
    clear b2
    go_wp2_with fail
    go_ret
    exact ⟨rfl, B2.out⟩
  | false =>
    have bnd : Hid (Fo.Bnd (.mk k n m l)) := HB.out rfl
    obtain ⟨y0, y1, y2, yl⟩ := Y1.out
    clear HB
    go_wp2_with fail
    refine Calls.mono (EM.out _ B1.out) ?_
    rintro e w2 ⟨⟨b, rfl⟩, b2⟩
    have B2 : Hid (Below w.heap.size w w2) := B1.out.trans (b2.mono B1.out.size)
    have X2 : Hid _ := X1.out.later b2 X1.out.lt
    have Y2 : Hid _ := Y1.out.later b2 Y1.out.lt
    clear b2 EM X1 Y1 y0 y1 y2 yl
    cases b with
    | true =>
      go_wp2_with fail
      refine Calls.mono (known5 _) ?_
      rintro e w3 ⟨rfl, b3⟩
      have B3' : Hid (Below w.heap.size w w3) := B2.out.trans (b3.mono B2.out.size)
      clear b3
      go_wp2_with fail
      go_ret
      exact ⟨rfl, B3'.out⟩
    | false =>
      obtain ⟨y0, y1, y2, yl⟩ := Y2.out
      obtain ⟨d0, d1, d2, d3, f0, f1, f2, f3, zt⟩ := X2.out
      go_wp2_with fail
      go_region_with (first
        | (go_at_call 11; refine Calls.mono (EO.out _) ?_; rintro e w3 ⟨rfl, b3⟩; have b4 : Below w2.heap.size w2 w3 := Below.trans (by go_grown) (b3.mono (by go_size)); have B4 : Hid (Below w.heap.size w w3) := B2.out.trans (b4.mono B2.out.size); have X4 : Hid _ := X2.out.later b4 X2.out.lt; obtain ⟨g0, g1, g2, g3, i0, i1, i2, i3, zy⟩ := X4.out)
        | (go_at_call 10; refine Calls.mono (EV.out _ B4.out) ?_; rintro e w5 ⟨rfl, b5⟩; have B5 : Hid (Below w.heap.size w w5) := B4.out.trans (b5.mono B4.out.size); have X5 : Hid _ := X4.out.later b5 X4.out.lt; obtain ⟨j0, j1, j2, j3, m0, m1, m2, m3, zx⟩ := X5.out))
      all_goals
        by_cases hq : (Fo.wo E.T (.mk k n m l)).2 = 0
        · rw [hq]
          generalize (Fo.wo E.T (.mk k n m l)).1 = u1
          clear SF hq
          go_wp2_with fail
          refine Calls.mono (known5 _) ?_
          rintro e w6 ⟨rfl, b6⟩
          have B6 : Hid (Below w.heap.size w w6) := B5.out.trans (b6.mono B5.out.size)
          clear b6
          go_wp2_with fail
          go_ret
          exact ⟨rfl, B6.out⟩
        · have HT : Fo.tr (.mk k n m l) = true := by
            cases e : Fo.tr (.mk k n m l) with
            | true => rfl
            | false => exact absurd (SF.out e) hq
          have ET' : Hid (∀ W, Below w.heap.size w W → _) := ET.out bnd.out
          rw [HT] at ET'
          clear ET SF HT
          generalize (Fo.wo E.T (.mk k n m l)).1 = u1
          generalize (Fo.wo E.T (.mk k n m l)).2 = u2 at *
          have hqb : (u2 == 0) = false := beq_eq_false_iff_ne.2 hq
          clear hq
          go_wp2_with fail
          refine Calls.mono (ET'.out _ B5.out) ?_
          rintro e w6 ⟨rfl, b6⟩
          have B6 : Hid (Below w.heap.size w w6) := B5.out.trans (b6.mono B5.out.size)
          clear b6
          go_wp2_with fail
          refine Calls.mono (known5 _) ?_
          rintro e w7 ⟨rfl, b7⟩
          have B7 : Hid (Below w.heap.size w w7) := B6.out.trans (b7.mono B6.out.size)
          clear b7
          go_wp2_with fail
          go_ret
          exact ⟨rfl, B7.out⟩
end Go.Proofs.Ythadpkmbbimleaa
