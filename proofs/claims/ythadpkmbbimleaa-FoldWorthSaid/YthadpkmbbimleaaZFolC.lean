/- Layer 5: what a sign makes of two numbers; a list's places (the program's). -/
/- Layer 5: what an expression is worth, for every expression and all values (the program's). -/
import Derived.Test.YthadpkmbbimleaaZFolA
import Derived.Test.YthadpkmbbimleaaZGrC
namespace Go.Proofs.Ythadpkmbbimleaa
open Go.RowKit

set_option maxHeartbeats 400000 in
theorem fadd_any (a b : Int) (w : World) : Calls Try.prog 82 #[.int .i64 a, .int .i64 b] w fun e w' => e = .returned (.int .i64 (wrap64 (a + b))) ∧ w' = w := by
  go_enter Try.func82, Try.ntmps82
  go_wp2
  go_ret
  exact ⟨rfl, rfl⟩
set_option maxHeartbeats 400000 in
theorem fsub_any (a b : Int) (w : World) : Calls Try.prog 83 #[.int .i64 a, .int .i64 b] w fun e w' => e = .returned (.int .i64 (wrap64 (a - b))) ∧ w' = w := by
  go_enter Try.func83, Try.ntmps83
  go_wp2
  go_ret
  exact ⟨rfl, rfl⟩
set_option maxHeartbeats 400000 in
theorem fmul_any (a b : Int) (w : World) : Calls Try.prog 84 #[.int .i64 a, .int .i64 b] w fun e w' => e = .returned (.int .i64 (wrap64 (a * b))) ∧ w' = w := by
  go_enter Try.func84, Try.ntmps84
  go_wp2
  go_ret
  exact ⟨rfl, rfl⟩
set_option maxHeartbeats 400000 in
theorem fneg_any (a : Int) (w : World) : Calls Try.prog 66 #[.int .i64 a] w fun e w' => e = .returned (.int .i64 (wrap64 (-a))) ∧ w' = w := by
  go_enter Try.func66, Try.ntmps66
  go_wp2
  go_ret
  exact ⟨rfl, rfl⟩
set_option maxHeartbeats 400000 in
theorem divided_ok (n : Int) (w : World) : Calls Try.prog 85 #[.int .i64 n, .int .i64 0] w fun e w' => e = .returned (.tuple #[.int .i64 n, .int .i64 0]) ∧ w' = w := by
  go_enter Try.func85, Try.ntmps85
  go_wp2_with fail
  go_ret2
  exact ⟨rfl, rfl⟩
set_option maxHeartbeats 400000 in
theorem divided_no (n : Int) (w : World) : Calls Try.prog 85 #[.int .i64 n, .int .i64 11] w fun e w' => e = .returned (.tuple #[.int .i64 0, .int .i64 1]) ∧ w' = w := by
  go_enter Try.func85, Try.ntmps85
  go_wp2_with fail
  go_ret2
  exact ⟨rfl, rfl⟩
theorem ret_two {a b a' b' : Int} (h1 : a = a') (h2 : b = b') : Ending.returned (.tuple #[.int .i64 a, .int .i64 b]) = .returned (.tuple #[.int .i64 a', .int .i64 b']) := by rw [h1, h2]
set_option maxRecDepth 100000 in
set_option maxHeartbeats 2000000 in
theorem reckoned_any (a b : Int) (s : List UInt8) (w : World) : Calls Try.prog 67 #[.int .i64 a, .string ⟨s.toArray⟩, .int .i64 b] w fun e w' => e = .returned (.tuple #[.int .i64 (Fo.re a s b).1, .int .i64 (Fo.re a s b).2]) ∧ w' = w := by
  by_cases h0 : s = [43]
  · subst h0
    go_enter Try.func67, Try.ntmps67
    go_wp2_with fail
    refine Calls.mono (fadd_any a b _) ?_
    rintro e w1 ⟨rfl, hw⟩
    rw [hw]
    clear hw w1
    go_wp2_with fail
    go_ret2
    exact ⟨rfl, rfl⟩
  by_cases h1 : s = [45]
  · subst h1
    go_enter Try.func67, Try.ntmps67
    go_wp2_with fail
    refine Calls.mono (fsub_any a b _) ?_
    rintro e w1 ⟨rfl, hw⟩
    rw [hw]
    clear hw w1
    go_wp2_with fail
    go_ret2
    exact ⟨rfl, rfl⟩
  by_cases h2 : s = [42]
  · subst h2
    go_enter Try.func67, Try.ntmps67
    go_wp2_with fail
    refine Calls.mono (fmul_any a b _) ?_
    rintro e w1 ⟨rfl, hw⟩
    rw [hw]
    clear hw w1
    go_wp2_with fail
    go_ret2
    exact ⟨rfl, rfl⟩
  by_cases h3 : s = [47]
  · subst h3
    by_cases hb : b = 0
    · subst hb
      go_enter Try.func67, Try.ntmps67
      go_wp2_with fail
      refine Calls.mono (div_zero a _) ?_
      rintro e w1 ⟨rfl, hw⟩
      rw [hw]
      clear hw w1
      go_wp2_with fail
      refine Calls.mono (divided_no 0 _) ?_
      rintro e w1 ⟨rfl, hw⟩
      rw [hw]
      clear hw w1
      go_wp2_with fail
      go_ret2
      exact ⟨rfl, rfl⟩
    · have eb : (b == 0) = false := beq_eq_false_iff_ne.2 hb
      have H : Hid (Fo.re a [47] b = (Pl.quot a b, 0)) := by
        unfold Hid Fo.re
        simp [hb]
      go_enter Try.func67, Try.ntmps67
      go_wp2_with fail
      refine Calls.mono (div_some a b _ eb hb) ?_
      rintro e w1 ⟨rfl, hw⟩
      rw [hw]
      clear hw w1
      go_wp2_with fail
      refine Calls.mono (divided_ok _ _) ?_
      rintro e w1 ⟨rfl, hw⟩
      rw [hw]
      clear hw w1
      go_wp2_with fail
      go_ret2
      exact ⟨ret_two (by rw [H.out]) (by rw [H.out]), rfl⟩
  by_cases h4 : s = [37]
  · subst h4
    by_cases hb : b = 0
    · subst hb
      go_enter Try.func67, Try.ntmps67
      go_wp2_with fail
      refine Calls.mono (mod_zero a _) ?_
      rintro e w1 ⟨rfl, hw⟩
      rw [hw]
      clear hw w1
      go_wp2_with fail
      refine Calls.mono (divided_no 0 _) ?_
      rintro e w1 ⟨rfl, hw⟩
      rw [hw]
      clear hw w1
      go_wp2_with fail
      go_ret2
      exact ⟨rfl, rfl⟩
    · have eb : (b == 0) = false := beq_eq_false_iff_ne.2 hb
      have H : Hid (Fo.re a [37] b = (Pl.rest a b, 0)) := by
        unfold Hid Fo.re
        simp [hb]
      go_enter Try.func67, Try.ntmps67
      go_wp2_with fail
      refine Calls.mono (mod_some a b _ eb hb) ?_
      rintro e w1 ⟨rfl, hw⟩
      rw [hw]
      clear hw w1
      go_wp2_with fail
      refine Calls.mono (divided_ok _ _) ?_
      rintro e w1 ⟨rfl, hw⟩
      rw [hw]
      clear hw w1
      go_wp2_with fail
      go_ret2
      exact ⟨ret_two (by rw [H.out]) (by rw [H.out]), rfl⟩
  by_cases h5 : s = [60]
  · subst h5
    have H : Hid (Fo.re a [60] b = (Fo.bI (decide (a < b)), 0)) := by
      unfold Hid Fo.re
      simp
    go_enter Try.func67, Try.ntmps67
    go_wp2_with fail
    refine Calls.mono (fnum_any _ _) ?_
    rintro e w1 ⟨rfl, hw⟩
    rw [hw]
    clear hw w1
    go_wp2_with fail
    go_ret2
    exact ⟨ret_two (by rw [H.out]) (by rw [H.out]), rfl⟩
  by_cases h6 : s = [60, 61]
  · subst h6
    have H : Hid (Fo.re a [60, 61] b = (Fo.bI (decide (a ≤ b)), 0)) := by
      unfold Hid Fo.re
      simp
    go_enter Try.func67, Try.ntmps67
    go_wp2_with fail
    refine Calls.mono (fnum_any _ _) ?_
    rintro e w1 ⟨rfl, hw⟩
    rw [hw]
    clear hw w1
    go_wp2_with fail
    go_ret2
    exact ⟨ret_two (by rw [H.out]) (by rw [H.out]), rfl⟩
  by_cases h7 : s = [61, 61]
  · subst h7
    have H : Hid (Fo.re a [61, 61] b = (Fo.bI ((a == b)), 0)) := by
      unfold Hid Fo.re
      simp; rw [beq_int]
    go_enter Try.func67, Try.ntmps67
    go_wp2_with fail
    refine Calls.mono (fnum_any _ _) ?_
    rintro e w1 ⟨rfl, hw⟩
    rw [hw]
    clear hw w1
    go_wp2_with fail
    go_ret2
    exact ⟨ret_two (by rw [H.out]) (by rw [H.out]), rfl⟩
  by_cases h8 : s = [33, 61]
  · subst h8
    have H : Hid (Fo.re a [33, 61] b = (Fo.bI ((a != b)), 0)) := by
      unfold Hid Fo.re
      simp [bne]; rw [beq_int]
    go_enter Try.func67, Try.ntmps67
    go_wp2_with fail
    refine Calls.mono (fnum_any _ _) ?_
    rintro e w1 ⟨rfl, hw⟩
    rw [hw]
    clear hw w1
    go_wp2_with fail
    go_ret2
    exact ⟨ret_two (by rw [H.out]) (by rw [H.out]), rfl⟩
  have e0 := text_f h0
  have e1 := text_f h1
  have e2 := text_f h2
  have e3 := text_f h3
  have e4 := text_f h4
  have e5 := text_f h5
  have e6 := text_f h6
  have e7 := text_f h7
  have e8 := text_f h8
  have H : Hid (Fo.re a s b = (Fo.bI (b != 0), 0)) := by
    unfold Hid Fo.re
    rw [if_neg h0, if_neg h1, if_neg h2, if_neg h3, if_neg h4, if_neg h5, if_neg h6, if_neg h7, if_neg h8]
    simp [bne]; rw [beq_int]
  clear h0 h1 h2 h3 h4 h5 h6 h7 h8
  go_enter Try.func67, Try.ntmps67
  go_wp2_with fail
  refine Calls.mono (fnum_any _ _) ?_
  rintro e w1 ⟨rfl, hw⟩
  rw [hw]
  clear hw w1
  go_wp2_with fail
  go_ret2
  exact ⟨ret_two (by rw [H.out]) (by rw [H.out]), rfl⟩
end Go.Proofs.Ythadpkmbbimleaa

namespace Go.Proofs.Ythadpkmbbimleaa
open Go.RowKit

/-- The closure that tells names' values. -/
def fv (q : Nat) : Value := .func (.func 21) #[] #[.pointer (some ⟨q, 0, none⟩)]
theorem enter_ev (c : Array Value) (w : World) : (callFunc 21 c).run Try.prog w = .ok (.enter 21 c) w := by kernel_rfl
/-- A slice of numbers. -/
def Li (w : World) (sa : Option Addr) (sn : Nat) (l : List Int) : Prop := sn = l.length ∧ (0 < l.length → ∃ b o, sa = some ⟨b, o, none⟩ ∧ b < w.heap.size ∧ ∀ j, j < l.length → w.cell? ⟨b, o + j, none⟩ = some (.int .i64 (l.getD j 0)))
/-- What the closure tells. -/
def TC (w : World) (q : Nat) (T : List UInt8 → Int × List Int) : Prop := ∀ W, Below w.heap.size w W → ∀ n : List UInt8, Calls Try.prog 21 #[.string ⟨n.toArray⟩, .pointer (some ⟨q, 0, none⟩)] W fun e w' => ∃ sa sn sc, e = .returned (.tuple #[.int .i64 (T n).1, .slice sa sn sc]) ∧ Li w' sa sn (T n).2 ∧ Below W.heap.size W w'
theorem TC.later {w w' : World} {q : Nat} {T : List UInt8 → Int × List Int} (h : TC w q T) (b : Below w.heap.size w w') : TC w' q T := fun W hW n => h W (b.trans (hW.mono b.size)) n
set_option maxRecDepth 100000 in
theorem isPlace_any (i : Int) (sa : Option Addr) (sn sc : Nat) (w : World) : Calls Try.prog 65 #[.int .i64 i, .slice sa sn sc] w fun e w' => e = .returned (.bool (decide (0 ≤ i ∧ i < (sn : Int)))) ∧ w' = w := by
  by_cases h : 0 ≤ i
  · have H : Hid (decide (0 ≤ i ∧ i < (sn : Int)) = decide (i < (sn : Int))) := by unfold Hid; simp [h]
    go_enter Try.func65, Try.ntmps65
    go_wp2_with fail
    go_ret
    exact ⟨ret_bool H.out.symm, rfl⟩
  · have H : Hid (¬ 0 ≤ i) := h
    have hb : decide (0 ≤ i) = false := decide_eq_false h
    clear h
    go_enter Try.func65, Try.ntmps65
    go_wp2_with fail
    go_ret
    exact ⟨ret_bool (by simp), rfl⟩
/-- What is asked of worth. -/
def WC (T : List UInt8 → Int × List Int) (x : Sx.Ex) : Prop := ∀ (A : Nat → Prop) (k : Int) (n : List UInt8) (m : Int) (l : List Sx.Ex) (sa : Option Addr) (sn sc q : Nat) (w : World), x = .mk k n m l → ExS A w (.slice sa sn sc) l → TC w q T →
  Calls Try.prog 20 #[.agg #[.int .i64 k, .string ⟨n.toArray⟩, .int .i64 m, .slice sa sn sc], fv q] w fun e w' => e = .returned (.tuple #[.int .i64 (Fo.wo T x).1, .int .i64 (Fo.wo T x).2]) ∧ Below w.heap.size w w'
/-- The parts of an expression, as they lie. -/
theorem ExS.part {A : Nat → Prop} {w : World} {sa : Option Addr} {sn sc : Nat} {l : List Sx.Ex} (h : ExS A w (.slice sa sn sc) l) (j : Nat) (hj : j < l.length) : ∃ g o k n m sa' sn' sc' ll, sa = Option.some ⟨g, o, Option.none⟩ ∧ g < w.heap.size ∧ l[j]? = Option.some (.mk k n m ll) ∧
    w.cell? ⟨g, o + j * 4, Option.none⟩ = Option.some (.int .i64 k) ∧ w.cell? ⟨g, o + j * 4 + 1, Option.none⟩ = Option.some (.string ⟨(n : List UInt8).toArray⟩) ∧ w.cell? ⟨g, o + j * 4 + 2, Option.none⟩ = Option.some (.int .i64 m) ∧ w.cell? ⟨g, o + j * 4 + 3, Option.none⟩ = Option.some (.slice sa' sn' sc') ∧ ExS A w (.slice sa' sn' sc') ll := by
  obtain ⟨g, o, cap, e, hc, ha, hg, hx⟩ := h.inv (by omega)
  cases e
  obtain ⟨k, n, m, sa', sn', sc', ll, e, c0, c1, c2, c3, hs⟩ := hx.get j hj
  exact ⟨g, o, k, n, m, sa', sn', sc', ll, rfl, hg, e, c0, c1, c2, c3, hs⟩
set_option maxRecDepth 100000 in
set_option maxHeartbeats 2000000 in
theorem worthIndex_any (T : List UInt8 → Int × List Int) (a : Sx.Ex) (ih : WC T a) (A : Nat → Prop) (n : List UInt8) (m : Int) (sa : Option Addr) (sn sc q : Nat) (w : World) (hs : ExS A w (.slice sa sn sc) [a]) (ht : TC w q T) :
    Calls Try.prog 43 #[.agg #[.int .i64 4, .string ⟨n.toArray⟩, .int .i64 m, .slice sa sn sc], fv q] w fun e w' => e = .returned (.tuple #[.int .i64 (Fo.wo T (.mk 4 n m [a])).1, .int .i64 (Fo.wo T (.mk 4 n m [a])).2]) ∧ Below w.heap.size w w' := by
  have hn := hs.len
  subst hn
  obtain ⟨g, o, k', n', m', sa', sn', sc', ll, rfl, hg, el, c0, c1, c2, c3, hs'⟩ := hs.part 0 (by simp)
  have ea : a = .mk k' n' m' ll := by simpa using el
  have HW : Hid (Fo.wo T (.mk 4 n m [a]) = if ¬ (Fo.wo T a).2 = 0 then (0, (Fo.wo T a).2) else if 0 ≤ (Fo.wo T a).1 ∧ (Fo.wo T a).1 < ((T n).2.length : Int) then ((T n).2.getD (Fo.wo T a).1.toNat 0, 0) else (0, 2)) := by
    unfold Hid
    rw [Fo.wo]
    simp [Fo.built]
  have E1 : Hid (∀ W, Below w.heap.size w W → Calls Try.prog 20 #[.agg #[.int .i64 k', .string ⟨n'.toArray⟩, .int .i64 m', .slice sa' sn' sc'], fv q] W fun e w' => e = .returned (.tuple #[.int .i64 (Fo.wo T a).1, .int .i64 (Fo.wo T a).2]) ∧ Below W.heap.size W w') := fun W hW => ih A k' n' m' ll sa' sn' sc' q W ea (hs'.later hW (Nat.le_refl _)) (ht.later hW)
  have TT : Hid _ := ht
  have hF := enter_ev
  simp only [Nat.zero_mul, Nat.add_zero] at c0 c1 c2 c3
  obtain ⟨i, t, hit⟩ : ∃ i t, Fo.wo T a = (i, t) := ⟨_, _, rfl⟩
  rw [hit] at HW E1
  rw [HW.out]
  clear hs hs' el ea ih ht hit HW
  unfold fv at *
  by_cases h0 : t = 0
  · subst h0
    rw [if_neg (by simp)]
    obtain ⟨v1, v2, hv⟩ : ∃ v1 v2, (if 0 ≤ i ∧ i < ((T n).2.length : Int) then ((T n).2.getD i.toNat 0, 0) else ((0 : Int), (2 : Int))) = (v1, v2) := ⟨_, _, rfl⟩
    have HV : Hid _ := hv
    rw [hv]
    clear hv
    go_enter Try.func43, Try.ntmps43
    go_wp2_with fail
    refine Calls.mono (E1.out _ (box_below w _)) ?_
    rintro e w1 ⟨rfl, b1⟩
    have B1 := (Bx.new w 24 (.int .i64 4) (.string ⟨n.toArray⟩) (.int .i64 m) (.slice (some ⟨g, o, none⟩) 1 sc)).later b1 (by simp)
    have bw : Below w.heap.size w w1 := (box_below w _).trans (b1.mono (by simp))
    obtain ⟨d0, d1, d2, d3, e0, e1, e2, e3, zt⟩ := B1
    have BW : Hid _ := bw
    clear b1 bw
    go_wp2_with fail
    refine Calls.mono (TT.out _ BW.out n) ?_
    rintro e w2 ⟨ta, tn, tc, rfl, li, b2⟩
    have BW2 : Hid _ := BW.out.trans (b2.mono BW.out.size)
    have LI : Hid _ := li
    clear b2 li
    go_wp2_with fail
    refine Calls.mono (isPlace_any i ta tn tc _) ?_
    rintro e w3 ⟨rfl, hw⟩
    rw [hw]
    clear hw w3
    obtain ⟨hl, hc⟩ := LI.out
    subst hl
    by_cases hp : 0 ≤ i ∧ i < ((T n).2.length : Int)
    · rw [decide_eq_true hp]
      have HV2 := HV.out
      rw [if_pos hp] at HV2
      obtain ⟨j, rfl⟩ : ∃ j : Nat, i = (j : Int) := ⟨i.toNat, by omega⟩
      have hj : j < (T n).2.length := by omega
      obtain ⟨b, o', rfl, hb, hcell⟩ := hc (by omega)
      have cj := hcell j hj
      have hji : (j : Int) < ((T n).2.length : Int) := by omega
      have hj0 : (0 : Int) ≤ (j : Int) := by omega
      have HJ : Hid (v1 = (T n).2.getD j 0 ∧ v2 = 0) := by
        have e1 := congrArg Prod.fst HV2
        have e2 := congrArg Prod.snd HV2
        simp only [Int.toNat_natCast] at e1 e2
        exact ⟨e1.symm, e2.symm⟩
      clear hcell HV2 HV LI
      generalize (T n).2.getD j 0 = v at cj HJ
      go_wp2_with fail
      go_ret2
      exact ⟨ret_two HJ.out.1.symm HJ.out.2.symm, BW2.out⟩
    · rw [decide_eq_false hp]
      have HV2 := HV.out
      rw [if_neg hp] at HV2
      have HJ : Hid (v1 = 0 ∧ v2 = 2) := ⟨(congrArg Prod.fst HV2).symm, (congrArg Prod.snd HV2).symm⟩
      clear hc LI HV HV2
      go_wp2_with fail
      go_ret2
      exact ⟨ret_two HJ.out.1.symm HJ.out.2.symm, BW2.out⟩
  · rw [if_pos h0]
    have bt : (t == 0) = false := beq_eq_false_iff_ne.2 h0
    clear h0
    go_enter Try.func43, Try.ntmps43
    go_wp2_with fail
    refine Calls.mono (E1.out _ (box_below w _)) ?_
    rintro e w1 ⟨rfl, b1⟩
    have BW : Hid (Below w.heap.size w w1) := (box_below w _).trans (b1.mono (by simp))
    clear b1
    go_wp2_with fail
    go_ret2
    exact ⟨rfl, BW.out⟩
end Go.Proofs.Ythadpkmbbimleaa
