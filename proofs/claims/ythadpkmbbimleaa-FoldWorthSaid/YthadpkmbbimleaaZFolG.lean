/- Layer 5: worth, whole (the program's). -/
/- Layer 5: which expressions may trap (the program's Traps). -/
/- Layer 5: Eval (the program's), where the values' calls are known; without values. -/
import Derived.Test.YthadpkmbbimleaaZFolD
namespace Go.Proofs.Ythadpkmbbimleaa
open Go.RowKit

set_option maxRecDepth 100000 in
set_option maxHeartbeats 4000000 in
theorem worth_any (T : List UInt8 → Int × List Int) (x : Sx.Ex) : WC T x := by
  refine Fo.ind (P := WC T) ?_ x
  intro k n m l ih A k0 n0 m0 l0 sa sn sc q w hx hs ht
  injection hx with q1 q2 q3 q4
  subst q1 q2 q3 q4
  have hn := hs.len
  subst hn
  have EB : Hid (∀ W, Below w.heap.size w W → _) := fun W (_ : Below w.heap.size w W) => built_any k n m sa l.length sc W
  have hF := enter_ev
  cases hb : Fo.built k n l.length with
  | false =>
    rw [hb] at EB
    have H : Hid (Fo.wo T (.mk k n m l) = (0, 0)) := by exact Fo.wo_no hb
    rw [H.out]
    clear ih hs ht hb
    unfold fv
    go_enter Try.func20, Try.ntmps20
    go_wp2_with fail
    refine Calls.mono (EB.out _ (box_below w _)) ?_
    rintro e w1 ⟨rfl, b1⟩
    have BW : Hid (Below w.heap.size w w1) := (box_below w _).trans (b1.mono (by simp))
    clear b1
    go_wp2_with fail
    go_ret2
    exact ⟨rfl, BW.out⟩
  | true =>
    rw [hb] at EB
    have hb' : ¬ Fo.built k n l.length = false := by rw [hb]; decide
    by_cases k1 : k = 1
    · subst k1
      have H : Hid (Fo.wo T (.mk 1 n m l) = (m, 0)) := by exact Fo.wo_int hb'
      rw [H.out]
      clear ih hs ht hb hb'
      unfold fv
      go_enter Try.func20, Try.ntmps20
      go_wp2_with fail
      refine Calls.mono (EB.out _ (box_below w _)) ?_
      rintro e w1 ⟨rfl, b1⟩
      obtain ⟨d0, d1, d2, d3, e0, e1, e2, e3, zt⟩ := (Bx.new w 24 (.int .i64 1) (.string ⟨n.toArray⟩) (.int .i64 m) (.slice sa l.length sc)).later b1 (by simp)
      have BW : Hid (Below w.heap.size w w1) := (box_below w _).trans (b1.mono (by simp))
      clear b1
      go_wp2_with fail
      go_ret2
      exact ⟨rfl, BW.out⟩
    by_cases k2 : k = 2
    · subst k2
      have H : Hid (Fo.wo T (.mk 2 n m l) = (Fo.bI (m == 1), 0)) := by unfold Hid; rw [Fo.wo_bool hb', beq_int]
      rw [H.out]
      clear ih hs ht hb hb' k1
      unfold fv
      go_enter Try.func20, Try.ntmps20
      go_wp2_with fail
      refine Calls.mono (EB.out _ (box_below w _)) ?_
      rintro e w1 ⟨rfl, b1⟩
      obtain ⟨d0, d1, d2, d3, e0, e1, e2, e3, zt⟩ := (Bx.new w 24 (.int .i64 2) (.string ⟨n.toArray⟩) (.int .i64 m) (.slice sa l.length sc)).later b1 (by simp)
      have BW : Hid (Below w.heap.size w w1) := (box_below w _).trans (b1.mono (by simp))
      clear b1
      go_wp2_with fail
      refine Calls.mono (fnum_any _ _) ?_
      rintro e w3 ⟨rfl, hw⟩
      rw [hw]
      clear hw w3
      go_wp2_with fail
      go_ret2
      exact ⟨rfl, BW.out⟩
    by_cases k3 : k = 3
    · subst k3
      have H : Hid (Fo.wo T (.mk 3 n m l) = ((T n).1, 0)) := by exact Fo.wo_var hb'
      rw [H.out]
      have TT : Hid _ := ht
      clear ih hs ht hb hb' k1 k2
      unfold fv
      go_enter Try.func20, Try.ntmps20
      go_wp2_with fail
      refine Calls.mono (EB.out _ (box_below w _)) ?_
      rintro e w1 ⟨rfl, b1⟩
      obtain ⟨d0, d1, d2, d3, e0, e1, e2, e3, zt⟩ := (Bx.new w 24 (.int .i64 3) (.string ⟨n.toArray⟩) (.int .i64 m) (.slice sa l.length sc)).later b1 (by simp)
      have BW : Hid (Below w.heap.size w w1) := (box_below w _).trans (b1.mono (by simp))
      clear b1
      go_wp2_with fail
      refine Calls.mono (TT.out _ BW.out n) ?_
      rintro e w2 ⟨ta, tn, tc, rfl, li, b2⟩
      have BW2 : Hid _ := BW.out.trans (b2.mono BW.out.size)
      clear b2 li
      go_wp2_with fail
      go_ret2
      exact ⟨rfl, BW2.out⟩
    have e1 : (k == 1) = false := beq_eq_false_iff_ne.2 k1
    have e2 : (k == 2) = false := beq_eq_false_iff_ne.2 k2
    have e3 : (k == 3) = false := beq_eq_false_iff_ne.2 k3
    by_cases k4 : k = 4
    · subst k4
      obtain ⟨a, rfl⟩ : ∃ a, l = [a] := by
        have : l.length = 1 := by simpa [Fo.built] using hb
        exact List.length_eq_one_iff.1 this
      have E1 : Hid (∀ W, Below w.heap.size w W → _) := fun W hW => worthIndex_any T a (ih a (by simp)) A n m sa 1 sc q W (hs.later hW (Nat.le_refl _)) (ht.later hW)
      clear ih hs ht hb hb' k1 k2 k3 e1 e2 e3
      unfold fv at *
      go_enter Try.func20, Try.ntmps20
      go_wp2_with fail
      refine Calls.mono (EB.out _ (box_below w _)) ?_
      rintro e w1 ⟨rfl, b1⟩
      obtain ⟨d0, d1, d2, d3, e0, e1, e2, e3, zt⟩ := (Bx.new w 24 (.int .i64 4) (.string ⟨n.toArray⟩) (.int .i64 m) (.slice sa 1 sc)).later b1 (by simp)
      have BW : Hid (Below w.heap.size w w1) := (box_below w _).trans (b1.mono (by simp))
      clear b1
      go_wp2_with fail
      refine Calls.mono (E1.out _ BW.out) ?_
      rintro e w2 ⟨rfl, b2⟩
      have BW2 : Hid _ := BW.out.trans (b2.mono BW.out.size)
      clear b2
      go_wp2_with fail
      go_ret2
      exact ⟨rfl, BW2.out⟩
    have e4 : (k == 4) = false := beq_eq_false_iff_ne.2 k4
    by_cases k5 : k = 5
    · subst k5
      have hbb : l.length = 1 ∧ Sx.isUn n = true := by simpa [Fo.built] using hb
      obtain ⟨a, rfl⟩ := List.length_eq_one_iff.1 hbb.1
      have E1 : Hid (∀ W, Below w.heap.size w W → _) := fun W hW => worthUnary_any T a (ih a (by simp)) A n m sa 1 sc q W (hs.later hW (Nat.le_refl _)) (ht.later hW) hbb.2
      clear ih hs ht hb hb' k1 k2 k3 k4 e1 e2 e3 e4 hbb
      unfold fv at *
      go_enter Try.func20, Try.ntmps20
      go_wp2_with fail
      refine Calls.mono (EB.out _ (box_below w _)) ?_
      rintro e w1 ⟨rfl, b1⟩
      obtain ⟨d0, d1, d2, d3, e0, e1, e2, e3, zt⟩ := (Bx.new w 24 (.int .i64 5) (.string ⟨n.toArray⟩) (.int .i64 m) (.slice sa 1 sc)).later b1 (by simp)
      have BW : Hid (Below w.heap.size w w1) := (box_below w _).trans (b1.mono (by simp))
      clear b1
      go_wp2_with fail
      refine Calls.mono (E1.out _ BW.out) ?_
      rintro e w2 ⟨rfl, b2⟩
      have BW2 : Hid _ := BW.out.trans (b2.mono BW.out.size)
      clear b2
      go_wp2_with fail
      go_ret2
      exact ⟨rfl, BW2.out⟩
    have e5 : (k == 5) = false := beq_eq_false_iff_ne.2 k5
    have k6 : k = 6 := by
      by_cases c : k = 6
      · exact c
      · unfold Fo.built at hb; rw [if_neg k1, if_neg k2, if_neg k3, if_neg k4, if_neg k5, if_neg c] at hb; cases hb
    subst k6
    have hbb : l.length = 2 ∧ (Fo.isRe n || Fo.isTe n) = true := by simpa [Fo.built] using hb
    obtain ⟨a, b, rfl⟩ := Fo.len_two hbb.1
    have E1 : Hid (∀ W, Below w.heap.size w W → _) := fun W hW => worthTwo_any T a b (ih a (by simp)) (ih b (by simp)) A n m sa 2 sc q W (hs.later hW (Nat.le_refl _)) (ht.later hW) hbb.2
    clear ih hs ht hb hb' k1 k2 k3 k4 k5 e1 e2 e3 e4 e5 hbb
    unfold fv at *
    go_enter Try.func20, Try.ntmps20
    go_wp2_with fail
    refine Calls.mono (EB.out _ (box_below w _)) ?_
    rintro e w1 ⟨rfl, b1⟩
    obtain ⟨d0, d1, d2, d3, e0, e1, e2, e3, zt⟩ := (Bx.new w 24 (.int .i64 6) (.string ⟨n.toArray⟩) (.int .i64 m) (.slice sa 2 sc)).later b1 (by simp)
    have BW : Hid (Below w.heap.size w w1) := (box_below w _).trans (b1.mono (by simp))
    clear b1
    go_wp2_with fail
    refine Calls.mono (E1.out _ BW.out) ?_
    rintro e w2 ⟨rfl, b2⟩
    have BW2 : Hid _ := BW.out.trans (b2.mono BW.out.size)
    clear b2
    go_wp2_with fail
    go_ret2
    exact ⟨rfl, BW2.out⟩
end Go.Proofs.Ythadpkmbbimleaa

namespace Go.Proofs.Ythadpkmbbimleaa
open Go.RowKit

namespace Fo
open Sx
/-- No list of parts is very long. -/
inductive Bnd : Ex → Prop
  | mk (k : Int) (n : List UInt8) (m : Int) (l : List Ex) (hl : l.length ≤ 1000000) (h : ∀ x, x ∈ l → Bnd x) : Bnd (.mk k n m l)
def dv (k : Int) (n : List UInt8) : Bool := decide (k = 6) && (decide (n = [47]) || decide (n = [37]))
def above : Ex → Bool
  | .mk k n m l => built k n l.length && decide (k = 1) && decide (0 < m)
mutual
def tr : Ex → Bool
  | .mk k n _ l => decide (k = 4) || (dv k n && !(built k n l.length && above (l.getD 1 (.mk 0 [] 0 [])))) || trs l
def trs : List Ex → Bool
  | [] => false
  | a :: r => tr a || trs r
end
theorem trs_mem : ∀ {l : List Ex} {j : Nat} {x : Ex}, l[j]? = some x → tr x = true → trs l = true
  | [], j, x, h, _ => by simp at h
  | a :: r, 0, x, h, hx => by
    have e : a = x := by simpa using h
    rw [trs, e, hx]; rfl
  | a :: r, j + 1, x, h, hx => by
    have e := trs_mem (l := r) (j := j) (by simpa using h) hx
    rw [trs, e, Bool.or_true]
theorem trs_none : ∀ {l : List Ex}, (∀ (j : Nat) (x : Ex), l[j]? = some x → tr x = false) → trs l = false
  | [], _ => by rw [trs]
  | a :: r, h => by
    rw [trs, h 0 a rfl, trs_none (l := r) (fun j x hx => h (j + 1) x (by simpa using hx))]
    rfl
end Fo
set_option maxRecDepth 100000 in
set_option maxHeartbeats 1000000 in
theorem divides_any (k : Int) (n : List UInt8) (m : Int) (sl : Value) (w : World) : Calls Try.prog 34 #[.agg #[.int .i64 k, .string ⟨n.toArray⟩, .int .i64 m, sl]] w fun e w' => e = .returned (.bool (Fo.dv k n)) ∧ Below w.heap.size w w' := by
  by_cases h6 : k = 6
  · subst h6
    by_cases h1 : n = [47]
    · subst h1
      go_enter Try.func34, Try.ntmps34
      go_wp2_with fail
      go_ret
      exact ⟨rfl, by go_grown⟩
    · have u1 := text_f h1
      have H : Hid (Fo.dv 6 n = (n == [37])) := by unfold Hid Fo.dv; rw [decide_eq_false h1, beq_dec]; rfl
      clear h1
      go_enter Try.func34, Try.ntmps34
      go_wp2_with fail
      go_ret
      exact ⟨ret_bool H.out.symm, by go_grown⟩
  · have e6 : (k == 6) = false := beq_eq_false_iff_ne.2 h6
    have H : Hid (Fo.dv k n = false) := by unfold Hid Fo.dv; rw [decide_eq_false h6]; rfl
    clear h6
    go_enter Try.func34, Try.ntmps34
    go_wp2_with fail
    go_ret
    exact ⟨ret_bool H.out.symm, by go_grown⟩
set_option maxRecDepth 100000 in
set_option maxHeartbeats 1000000 in
theorem isAbove_any (k : Int) (n : List UInt8) (m : Int) (sa : Option Addr) (sn sc : Nat) (l : List Sx.Ex) (hl : sn = l.length) (w : World) : Calls Try.prog 35 #[.agg #[.int .i64 k, .string ⟨n.toArray⟩, .int .i64 m, .slice sa sn sc]] w fun e w' => e = .returned (.bool (Fo.above (.mk k n m l))) ∧ Below w.heap.size w w' := by
  subst hl
  have EB : Hid (∀ W, Below w.heap.size w W → _) := fun W (_ : Below w.heap.size w W) => built_any k n m sa l.length sc W
  have H : Hid (Fo.above (.mk k n m l) = (Fo.built k n l.length && (k == 1) && decide (0 < m))) := by unfold Hid Fo.above; rw [beq_int]
  rw [H.out]
  clear H
  cases hb : Fo.built k n l.length with
  | false =>
    rw [hb] at EB
    clear hb
    go_enter Try.func35, Try.ntmps35
    go_wp2_with fail
    refine Calls.mono (EB.out _ (box_below w _)) ?_
    rintro e w1 ⟨rfl, b1⟩
    have BW : Hid (Below w.heap.size w w1) := (box_below w _).trans (b1.mono (by simp))
    clear b1
    go_wp2_with fail
    go_ret
    exact ⟨rfl, BW.out⟩
  | true =>
    rw [hb] at EB
    clear hb
    by_cases h1 : k = 1
    · subst h1
      go_enter Try.func35, Try.ntmps35
      go_wp2_with fail
      refine Calls.mono (EB.out _ (box_below w _)) ?_
      rintro e w1 ⟨rfl, b1⟩
      obtain ⟨d0, d1, d2, d3, e0, e1, e2, e3, zt⟩ := (Bx.new w 24 (.int .i64 1) (.string ⟨n.toArray⟩) (.int .i64 m) (.slice sa l.length sc)).later b1 (by simp)
      have BW : Hid (Below w.heap.size w w1) := (box_below w _).trans (b1.mono (by simp))
      clear b1
      go_wp2_with fail
      go_ret
      exact ⟨ret_bool (by simp), BW.out⟩
    · have e1 : (k == 1) = false := beq_eq_false_iff_ne.2 h1
      rw [e1]
      clear h1
      go_enter Try.func35, Try.ntmps35
      go_wp2_with fail
      refine Calls.mono (EB.out _ (box_below w _)) ?_
      rintro e w1 ⟨rfl, b1⟩
      obtain ⟨d0, d1, d2, d3, h0, h1, h2, h3, zt⟩ := (Bx.new w 24 (.int .i64 k) (.string ⟨n.toArray⟩) (.int .i64 m) (.slice sa l.length sc)).later b1 (by simp)
      have BW : Hid (Below w.heap.size w w1) := (box_below w _).trans (b1.mono (by simp))
      clear b1
      go_wp2_with fail
      go_ret
      exact ⟨rfl, BW.out⟩
/-- What is asked of Traps. -/
def TrC (x : Sx.Ex) : Prop := ∀ (A : Nat → Prop) (k : Int) (n : List UInt8) (m : Int) (l : List Sx.Ex) (sa : Option Addr) (sn sc : Nat) (w : World), x = .mk k n m l → ExS A w (.slice sa sn sc) l →
  Calls Try.prog 15 #[.agg #[.int .i64 k, .string ⟨n.toArray⟩, .int .i64 m, .slice sa sn sc]] w fun e w' => e = .returned (.bool (Fo.tr x)) ∧ Below w.heap.size w w'
/-- The loop over the parts. -/
def TrLoop (l : List Sx.Ex) (w : World) (i : Value) (wr : World) : Prop := ∃ j : Nat, j ≤ l.length ∧ i = .int .i64 j ∧ Below w.heap.size w wr ∧ Hid (∀ (q : Nat) (x : Sx.Ex), q < j → l[q]? = some x → Fo.tr x = false)
set_option maxRecDepth 100000 in
set_option maxHeartbeats 4000000 in
theorem traps_div (a b : Sx.Ex) (n : List UInt8) (m : Int) (ih : ∀ y, y ∈ [a, b] → TrC y) (hd : Fo.dv 6 n = true) (hb : Fo.built 6 n [a, b].length = true) (A : Nat → Prop) (sa : Option Addr) (sc : Nat) (w : World) (hs : ExS A w (.slice sa [a, b].length sc) [a, b]) :
    Calls Try.prog 15 #[.agg #[.int .i64 6, .string ⟨n.toArray⟩, .int .i64 m, .slice sa [a, b].length sc]] w fun e w' => e = .returned (.bool (Fo.tr (.mk 6 n m [a, b]))) ∧ Below w.heap.size w w' := by
  have IH : Hid (∀ y, y ∈ [a, b] → TrC y) := ih
  have HS : Hid (ExS A w (.slice sa 2 sc) [a, b]) := hs
  have ED : Hid (∀ W, Below w.heap.size w W → _) := fun W (_ : Below w.heap.size w W) => divides_any 6 n m (.slice sa 2 sc) W
  have EB : Hid (∀ W, Below w.heap.size w W → _) := fun W (_ : Below w.heap.size w W) => built_any 6 n m sa 2 sc W
  have hb2 : Fo.built 6 n 2 = true := hb
  rw [hd] at ED
  rw [hb2] at EB
  obtain ⟨g, o, k', n', m', sa', sn', sc', ll, rfl, hg, el, c0, c1, c2, c3, hs'⟩ := HS.out.part 1 (by simp)
  have eb : b = .mk k' n' m' ll := by simpa using el
  have hln := hs'.len
  have EA : Hid (∀ W, Below w.heap.size w W → Calls Try.prog 35 #[.agg #[.int .i64 k', .string ⟨n'.toArray⟩, .int .i64 m', .slice sa' sn' sc']] W fun e w' => e = .returned (.bool (Fo.above (.mk k' n' m' ll))) ∧ Below W.heap.size W w') := fun W _ => isAbove_any k' n' m' sa' sn' sc' ll hln W
  have C2 : Hid (∀ W, Below w.heap.size w W → W.cell? ⟨g, o + 4, none⟩ = some (.int .i64 k') ∧ W.cell? ⟨g, o + 5, none⟩ = some (.string ⟨n'.toArray⟩) ∧ W.cell? ⟨g, o + 6, none⟩ = some (.int .i64 m') ∧ W.cell? ⟨g, o + 7, none⟩ = some (.slice sa' sn' sc')) := fun W hW => ⟨(hW.cell (p := ⟨g, o + 4, none⟩) hg).trans (by simpa using c0), (hW.cell (p := ⟨g, o + 5, none⟩) hg).trans (by simpa [Nat.add_assoc] using c1), (hW.cell (p := ⟨g, o + 6, none⟩) hg).trans (by simpa [Nat.add_assoc] using c2), (hW.cell (p := ⟨g, o + 7, none⟩) hg).trans (by simpa [Nat.add_assoc] using c3)⟩
  have HT : Hid (Fo.tr (.mk 6 n m [a, b]) = (!Fo.above (.mk k' n' m' ll) || Fo.trs [a, b])) := by
    unfold Hid
    rw [Fo.tr, hd, hb]
    have : [a, b].getD 1 (.mk 0 [] 0 []) = .mk k' n' m' ll := by rw [eb]; rfl
    rw [this]
    rfl
  rw [HT.out]
  clear c0 c1 c2 c3 hs' el ih hs hd hb hb2 HT eb hln
  show Calls Try.prog 15 #[.agg #[.int .i64 6, .string ⟨n.toArray⟩, .int .i64 m, .slice (some ⟨g, o, none⟩) 2 sc]] w _
  cases ha : Fo.above (.mk k' n' m' ll) with
  | true =>
    rw [ha] at EA
    show Calls _ _ _ _ fun e w' => e = .returned (.bool (Fo.trs [a, b])) ∧ Below w.heap.size w w'
    clear ha
    go_enter Try.func15, Try.ntmps15
    go_wp2_with fail
    refine Calls.mono (ED.out _ (box_below w _)) ?_
    rintro e w1 ⟨rfl, b1⟩
    have B1 := (Bx.new w 24 (.int .i64 6) (.string ⟨n.toArray⟩) (.int .i64 m) (.slice (some ⟨g, o, none⟩) 2 sc)).later b1 (by simp)
    have BB : Hid _ := B1
    obtain ⟨d0, d1, d2, d3, h0, h1, h2, h3, zt⟩ := B1
    have BW1 : Hid (Below w.heap.size w w1) := (box_below w _).trans (b1.mono (by simp))
    clear b1
    go_wp2_with fail
    refine Calls.mono (EB.out _ BW1.out) ?_
    rintro e w2 ⟨rfl, b2⟩
    have BW2 : Hid (Below w.heap.size w w2) := BW1.out.trans (b2.mono BW1.out.size)
    have B2 := BB.out.later b2 BB.out.lt
    replace BB : Hid _ := B2
    clear d0 d1 d2 d3 h0 h1 h2 h3 zt
    obtain ⟨d0, d1, d2, d3, h0, h1, h2, h3, zt⟩ := B2
    obtain ⟨q0, q1, q2, q3⟩ := C2.out _ BW2.out
    have hg2 : g < w2.heap.size := Nat.lt_of_lt_of_le hg BW2.out.size
    clear b2
    go_wp2_with fail
    refine Calls.mono (EA.out _ BW2.out) ?_
    rintro e w3 ⟨rfl, b3⟩
    have BW : Hid (Below w.heap.size w w3) := BW2.out.trans (b3.mono BW2.out.size)
    have B3 := BB.out.later b3 BB.out.lt
    clear b3 q0 q1 q2 q3 hg2 hg d0 d1 d2 d3 h0 h1 h2 h3 zt
    obtain ⟨d0, d1, d2, d3, h0, h1, h2, h3, zt⟩ := B3
    go_wp2_with fail
    go_loopw [27] (fun i wr => TrLoop [a, b] w i wr) (fun i _ => 2 - (intOf i).toNat)
    case atStart => exact ⟨0, by simp, rfl, BW.out, fun q x hq _ => absurd hq (Nat.not_lt_zero q)⟩
    case round =>
      obtain ⟨j, hj', rfl, hnx, HN⟩ := hrel
      have hj : j ≤ 2 := by simpa using hj'
      clear hj'
      by_cases hlt : j < 2
      · obtain ⟨g, o, k', n', m', sa', sn', sc', ll, eg, hg, el, c0, c1, c2, c3, hs'⟩ := (HS.out.later hnx (Nat.le_refl _)).part j (by simpa using hlt)
        cases eg
        have hji : (j : Int) < (2 : Int) := by omega
        have hj0 : (0 : Int) ≤ (j : Int) := by omega
        have E1 : Hid (∀ W, Below wr.heap.size wr W → Calls Try.prog 15 #[.agg #[.int .i64 k', .string ⟨n'.toArray⟩, .int .i64 m', .slice sa' sn' sc']] W fun e w' => e = .returned (.bool (Fo.tr (.mk k' n' m' ll))) ∧ Below W.heap.size W w') := fun W hW => IH.out _ (List.mem_of_getElem? el) A k' n' m' ll sa' sn' sc' W rfl (hs'.later hW (Nat.le_refl _))
        have EL : Hid _ := el
        have NX : Hid _ := hnx
        clear hs' el hnx
        go_wp2_with fail
        refine Calls.mono (E1.out _ (box_below _ _)) ?_
        rintro e w1 ⟨rfl, b1⟩
        have B1 : Hid (Below w.heap.size w w1) := (NX.out.trans ((box_below wr _).mono NX.out.size)).trans (b1.mono (by have := NX.out.size; simp; omega))
        clear b1
        cases ht : Fo.tr (.mk k' n' m' ll) with
        | true =>
          have R : Hid (Fo.trs [a, b] = true) := Fo.trs_mem EL.out ht
          go_wp2_with fail
          go_ret
          exact ⟨ret_bool R.out.symm, B1.out⟩
        | false =>
          have HN2 : Hid (∀ (q : Nat) (x : Sx.Ex), q < j + 1 → [a, b][q]? = some x → Fo.tr x = false) := fun q x hq hx => by
            by_cases c : q < j
            · exact HN.out q x c hx
            · obtain rfl : q = j := by omega
              rw [EL.out] at hx
              cases hx
              exact ht
          clear ht HN
          go_wp2_with fail
          go_roundw
          case rel => exact ⟨j + 1, by simp; omega, by go_num, B1.out, HN2⟩
          case measure => simp [intOf]; omega
      · obtain rfl : j = 2 := by omega
        have R : Hid (Fo.trs [a, b] = false) := Fo.trs_none fun q x hx => HN.out q x (by
          by_cases c : q < 2
          · exact c
          · rw [List.getElem?_eq_none (by simp; omega)] at hx; cases hx) hx
        go_wp2_with fail
        go_ret
        exact ⟨ret_bool R.out.symm, hnx⟩
  | false =>
    rw [ha] at EA
    show Calls _ _ _ _ fun e w' => e = .returned (.bool true) ∧ Below w.heap.size w w'
    clear ha
    go_enter Try.func15, Try.ntmps15
    go_wp2_with fail
    refine Calls.mono (ED.out _ (box_below w _)) ?_
    rintro e w1 ⟨rfl, b1⟩
    have B1 := (Bx.new w 24 (.int .i64 6) (.string ⟨n.toArray⟩) (.int .i64 m) (.slice (some ⟨g, o, none⟩) 2 sc)).later b1 (by simp)
    have BB : Hid _ := B1
    obtain ⟨d0, d1, d2, d3, h0, h1, h2, h3, zt⟩ := B1
    have BW1 : Hid (Below w.heap.size w w1) := (box_below w _).trans (b1.mono (by simp))
    clear b1
    go_wp2_with fail
    refine Calls.mono (EB.out _ BW1.out) ?_
    rintro e w2 ⟨rfl, b2⟩
    have BW2 : Hid (Below w.heap.size w w2) := BW1.out.trans (b2.mono BW1.out.size)
    have B2 := BB.out.later b2 BB.out.lt
    replace BB : Hid _ := B2
    clear d0 d1 d2 d3 h0 h1 h2 h3 zt
    obtain ⟨d0, d1, d2, d3, h0, h1, h2, h3, zt⟩ := B2
    obtain ⟨q0, q1, q2, q3⟩ := C2.out _ BW2.out
    have hg2 : g < w2.heap.size := Nat.lt_of_lt_of_le hg BW2.out.size
    clear b2
    go_wp2_with fail
    refine Calls.mono (EA.out _ BW2.out) ?_
    rintro e w3 ⟨rfl, b3⟩
    have BW : Hid (Below w.heap.size w w3) := BW2.out.trans (b3.mono BW2.out.size)
    have B3 := BB.out.later b3 BB.out.lt
    clear b3 q0 q1 q2 q3 hg2 hg d0 d1 d2 d3 h0 h1 h2 h3 zt
    obtain ⟨d0, d1, d2, d3, h0, h1, h2, h3, zt⟩ := B3
    go_wp2_with fail
    go_ret
    exact ⟨rfl, BW.out⟩
set_option maxRecDepth 100000 in
set_option maxHeartbeats 4000000 in
theorem traps_any {x : Sx.Ex} (h : Fo.Bnd x) : TrC x := by
  induction h with
  | mk k n m l hl _ ih =>
    intro A k0 n0 m0 l0 sa sn sc w hx hs
    injection hx with q1 q2 q3 q4
    subst q1 q2 q3 q4
    have hn := hs.len
    subst hn
    have IH : Hid (∀ y, y ∈ l → TrC y) := ih
    have HS : Hid (ExS A w (.slice sa l.length sc) l) := hs
    have ED : Hid (∀ W, Below w.heap.size w W → _) := fun W (_ : Below w.heap.size w W) => divides_any k n m (.slice sa l.length sc) W
    have EB : Hid (∀ W, Below w.heap.size w W → _) := fun W (_ : Below w.heap.size w W) => built_any k n m sa l.length sc W
    clear ih hs
    by_cases k4 : k = 4
    · subst k4
      have H : Hid (Fo.tr (.mk 4 n m l) = true) := by unfold Hid; rw [Fo.tr]; rfl
      rw [H.out]
      clear H
      go_enter Try.func15, Try.ntmps15
      go_wp2_with fail
      go_ret
      exact ⟨rfl, by go_grown⟩
    · have e4 : (k == 4) = false := beq_eq_false_iff_ne.2 k4
      cases hd : Fo.dv k n with
      | false =>
        rw [hd] at ED
        have HT : Hid (Fo.tr (.mk k n m l) = Fo.trs l) := by unfold Hid; rw [Fo.tr, decide_eq_false k4, hd]; rfl
        rw [HT.out]
        clear HT hd k4
        go_enter Try.func15, Try.ntmps15
        go_wp2_with fail
        refine Calls.mono (ED.out _ (box_below w _)) ?_
        rintro e w1 ⟨rfl, b1⟩
        obtain ⟨d0, d1, d2, d3, h0, h1, h2, h3, zt⟩ := (Bx.new w 24 (.int .i64 k) (.string ⟨n.toArray⟩) (.int .i64 m) (.slice sa l.length sc)).later b1 (by simp)
        have BW : Hid (Below w.heap.size w w1) := (box_below w _).trans (b1.mono (by simp))
        clear b1
        go_wp2_with fail
        go_loopw [27] (fun i wr => TrLoop l w i wr) (fun i _ => l.length - (intOf i).toNat)
        case atStart => exact ⟨0, by omega, rfl, BW.out, fun q x hq _ => absurd hq (Nat.not_lt_zero q)⟩
        case round =>
          obtain ⟨j, hj, rfl, hnx, HN⟩ := hrel
          by_cases hlt : j < l.length
          · obtain ⟨g, o, k', n', m', sa', sn', sc', ll, rfl, hg, el, c0, c1, c2, c3, hs'⟩ := (HS.out.later hnx (Nat.le_refl _)).part j hlt
            have hji : (j : Int) < (l.length : Int) := by omega
            have hj0 : (0 : Int) ≤ (j : Int) := by omega
            have E1 : Hid (∀ W, Below wr.heap.size wr W → Calls Try.prog 15 #[.agg #[.int .i64 k', .string ⟨n'.toArray⟩, .int .i64 m', .slice sa' sn' sc']] W fun e w' => e = .returned (.bool (Fo.tr (.mk k' n' m' ll))) ∧ Below W.heap.size W w') := fun W hW => IH.out _ (List.mem_of_getElem? el) A k' n' m' ll sa' sn' sc' W rfl (hs'.later hW (Nat.le_refl _))
            have EL : Hid _ := el
            have NX : Hid _ := hnx
            clear hs' el hnx
            go_wp2_with fail
            refine Calls.mono (E1.out _ (box_below _ _)) ?_
            rintro e w1 ⟨rfl, b1⟩
            have B1 : Hid (Below w.heap.size w w1) := (NX.out.trans ((box_below wr _).mono NX.out.size)).trans (b1.mono (by have := NX.out.size; simp; omega))
            clear b1
            cases ht : Fo.tr (.mk k' n' m' ll) with
            | true =>
              have R : Hid (Fo.trs l = true) := Fo.trs_mem EL.out ht
              go_wp2_with fail
              go_ret
              exact ⟨ret_bool R.out.symm, B1.out⟩
            | false =>
              have HN2 : Hid (∀ (q : Nat) (x : Sx.Ex), q < j + 1 → l[q]? = some x → Fo.tr x = false) := fun q x hq hx => by
                by_cases c : q < j
                · exact HN.out q x c hx
                · obtain rfl : q = j := by omega
                  rw [EL.out] at hx
                  cases hx
                  exact ht
              clear ht HN
              go_wp2_with fail
              go_roundw
              case rel => exact ⟨j + 1, by omega, by go_num, B1.out, HN2⟩
              case measure => simp [intOf]; omega
          · obtain rfl : j = l.length := by omega
            have R : Hid (Fo.trs l = false) := Fo.trs_none fun q x hx => HN.out q x (by
              by_cases c : q < l.length
              · exact c
              · rw [List.getElem?_eq_none (by omega)] at hx; cases hx) hx
            go_wp2_with fail
            go_ret
            exact ⟨ret_bool R.out.symm, hnx⟩
      | true =>
        rw [hd] at ED
        cases hb : Fo.built k n l.length with
        | false =>
          rw [hb] at EB
          have HT : Hid (Fo.tr (.mk k n m l) = true) := by unfold Hid; rw [Fo.tr, hd, hb, decide_eq_false k4]; rfl
          rw [HT.out]
          clear HT hd k4 hb
          go_enter Try.func15, Try.ntmps15
          go_wp2_with fail
          refine Calls.mono (ED.out _ (box_below w _)) ?_
          rintro e w1 ⟨rfl, b1⟩
          have B1 := (Bx.new w 24 (.int .i64 k) (.string ⟨n.toArray⟩) (.int .i64 m) (.slice sa l.length sc)).later b1 (by simp)
          have BB : Hid _ := B1
          obtain ⟨d0, d1, d2, d3, h0, h1, h2, h3, zt⟩ := B1
          have BW : Hid (Below w.heap.size w w1) := (box_below w _).trans (b1.mono (by simp))
          clear b1
          go_wp2_with fail
          refine Calls.mono (EB.out _ BW.out) ?_
          rintro e w2 ⟨rfl, b2⟩
          have BW2 : Hid (Below w.heap.size w w2) := BW.out.trans (b2.mono BW.out.size)
          clear b2
          go_wp2_with fail
          go_ret
          exact ⟨rfl, BW2.out⟩
        | true =>
          have k6 : k = 6 := by unfold Fo.dv at hd; exact of_decide_eq_true (Bool.and_eq_true_iff.1 hd).1
          subst k6
          have hl2 : l.length = 2 ∧ (Fo.isRe n || Fo.isTe n) = true := by simpa [Fo.built] using hb
          obtain ⟨a, b, rfl⟩ := Fo.len_two hl2.1
          exact traps_div a b n m IH.out hd hb A sa sc w HS.out
end Go.Proofs.Ythadpkmbbimleaa

namespace Go.Proofs.Ythadpkmbbimleaa
open Go.RowKit

/-- What is asked of an Env's value. -/
def EnV (w : World) (s0 s1 s2 : Value) (T : List UInt8 → Int × List Int) : Prop := ∀ W, Below w.heap.size w W → ∀ n : List UInt8, Calls Try.prog 22 #[.agg #[s0, s1, s2], .string ⟨n.toArray⟩] W fun e w' => ∃ sa sn sc, e = .returned (.tuple #[.int .i64 (T n).1, .slice sa sn sc]) ∧ Li w' sa sn (T n).2 ∧ Below W.heap.size W w'
set_option maxRecDepth 100000 in
set_option maxHeartbeats 1000000 in
theorem ev1_any (T : List UInt8 → Int × List Int) (s0 s1 s2 : Value) (q : Nat) (w : World) (hv : EnV w s0 s1 s2 T) (hq : q < w.heap.size) (c0 : w.cell? ⟨q, 0, none⟩ = some s0) (c1 : w.cell? ⟨q, 1, none⟩ = some s1) (c2 : w.cell? ⟨q, 2, none⟩ = some s2) : TC w q T := by
  intro W hW n
  have d0 := (hW.cell (p := ⟨q, 0, none⟩) hq).trans c0
  have d1 := (hW.cell (p := ⟨q, 1, none⟩) hq).trans c1
  have d2 := (hW.cell (p := ⟨q, 2, none⟩) hq).trans c2
  have E1 : Hid _ := hv W hW n
  clear hv c0 c1 c2 hW
  go_enter Try.func21, Try.ntmps21
  go_wp2_with fail
  refine Calls.mono E1.out ?_
  rintro e w1 ⟨sa, sn, sc, rfl, li, b1⟩
  have L1 : Hid _ := li
  clear li
  go_wp2_with fail
  go_ret2
  exact ⟨sa, sn, sc, rfl, L1.out, b1⟩
set_option maxRecDepth 100000 in
set_option maxHeartbeats 1000000 in
theorem Eval_any (T : List UInt8 → Int × List Int) (A : Nat → Prop) (k : Int) (n : List UInt8) (m : Int) (l : List Sx.Ex) (sa : Option Addr) (sn sc : Nat) (s0 s1 s2 : Value) (w : World) (hs : ExS A w (.slice sa sn sc) l) (hv : EnV w s0 s1 s2 T) :
    Calls Try.prog 10 #[.agg #[.int .i64 k, .string ⟨n.toArray⟩, .int .i64 m, .slice sa sn sc], .agg #[s0, s1, s2]] w fun e w' => e = .returned (.tuple #[.int .i64 (Fo.wo T (.mk k n m l)).1, .int .i64 (Fo.wo T (.mk k n m l)).2]) ∧ Below w.heap.size w w' := by
  have hmf : ∀ (fn : Fn) (first cap : Array Value) (w : World), (Instr.makeFunc fn first cap).run Try.prog w = .ok (.func fn first cap) w := fun _ _ _ _ => rfl
  have bW : Below w.heap.size w ((w.alloc (.cells #[.int .i64 k, .string ⟨n.toArray⟩, .int .i64 m, .slice sa sn sc] 24)).alloc (.cells #[s0, s1, s2] 35)) := by go_grown
  have hT : TC ((w.alloc (.cells #[.int .i64 k, .string ⟨n.toArray⟩, .int .i64 m, .slice sa sn sc] 24)).alloc (.cells #[s0, s1, s2] 35)) (w.heap.size + 1) T := by
    refine ev1_any T s0 s1 s2 (w.heap.size + 1) _ (fun W hW n => hv W (bW.trans (hW.mono (by simp; omega))) n) (by simp) ?_ ?_ ?_
    all_goals simp [go_sem]
  have E1 : Hid _ := worth_any T (.mk k n m l) A k n m l sa sn sc (w.heap.size + 1) _ rfl (hs.later bW (Nat.le_refl _)) hT
  have BW : Hid _ := bW
  clear hs hv hT bW
  unfold fv at E1
  go_enter Try.func10, Try.ntmps10
  go_wp2_with fail
  refine Calls.mono E1.out ?_
  rintro e w1 ⟨rfl, b1⟩
  have B1 : Hid (Below w.heap.size w w1) := BW.out.trans (b1.mono BW.out.size)
  clear b1
  go_wp2_with fail
  go_ret2
  exact ⟨rfl, B1.out⟩
/-- No values. -/
def T0 : List UInt8 → Int × List Int := fun _ => (0, [])
set_option maxRecDepth 100000 in
set_option maxHeartbeats 1000000 in
theorem index_none (a : Option Addr) (c : Nat) (n : List UInt8) (w : World) : Calls Try.prog 46 #[.slice a 0 c, .string ⟨n.toArray⟩] w fun e w' => e = .returned (.int .i64 (-1)) ∧ w' = w := by
  go_enter Try.func46, Try.ntmps46
  go_wp2_with fail
  refine wp_loop_rounds 1 ?_
  rw [rounds_succ]
  go_wp2_with fail
  go_ret
  exact ⟨rfl, rfl⟩
set_option maxRecDepth 100000 in
set_option maxHeartbeats 1000000 in
theorem value_none (w : World) : EnV w (.slice none 0 0) (.slice none 0 0) (.slice none 0 0) T0 := by
  intro W _ n
  go_enter Try.func22, Try.ntmps22
  go_wp2_with fail
  refine Calls.mono (index_none none 0 n _) ?_
  rintro e w1 ⟨rfl, hw⟩
  rw [hw]
  clear hw w1
  go_wp2_with fail
  go_ret2
  exact ⟨none, 0, 0, rfl, ⟨rfl, fun h => absurd h (Nat.lt_irrefl 0)⟩, by go_grown⟩
end Go.Proofs.Ythadpkmbbimleaa
