/- Layer 5: the document's look-ups, Built, Two. -/
import Derived.Test.YthadpkmbbimleaaZFomE
import Derived.Test.YthadpkmbbimleaaZSypJ
namespace Go.Proofs.Ythadpkmbbimleaa
open Go.RowKit

set_option maxRecDepth 100000 in
set_option maxHeartbeats 1000000 in
theorem rplace_any (sa : Option Addr) (c : Nat) (l : List (List UInt8)) (n : List UInt8) (w : World) (h : Tx w sa l) : Calls Try.prog 25 #[.slice sa l.length c, .string ⟨n.toArray⟩] w fun e w' => e = .returned (.int .i64 (ixn l n 0)) ∧ w' = w := by
  have HL : Hid _ := h.1
  have HC : Hid _ := h.2
  clear h
  go_enter Try.func25, Try.ntmps25
  go_wp2
  go_loop [5] (fun i => ∃ k : Nat, k ≤ l.length ∧ i = .int .i64 k ∧ Hid (ixn (l.drop k) n k = ixn l n 0)) (fun i => l.length - (intOf i).toNat)
  case atStart => exact ⟨0, by omega, rfl, rfl⟩
  case round =>
    obtain ⟨k, hk, rfl, N⟩ := hrel
    by_cases hlt : k < l.length
    · obtain ⟨g, o, rfl, hg, hc⟩ := HC.out (by omega)
      have hck := hc k hlt
      clear hc
      have E1 : Hid (l.getD k [] = n → ixn (l.drop k) n k = k) := ixn_hit hlt
      have E2 : Hid (¬ l.getD k [] = n → ixn (l.drop k) n k = ixn (l.drop (k + 1)) n (k + 1)) := ixn_miss hlt
      generalize l.getD k [] = x at hck E1 E2
      by_cases he : x = n
      · have heb : (x == n) = true := by rw [he]; exact beq_self_eq_true _
        have H : Hid (ixn l n 0 = k) := N.out.symm.trans (E1.out he)
        clear he
        go_wp2
        go_ret
        rw [H.out]
        exact ⟨rfl, rfl⟩
      · have heb : (x == n) = false := by simpa using he
        have N' : Hid (ixn (l.drop (k + 1)) n (k + 1) = ixn l n 0) := (E2.out he).symm.trans N.out
        clear he
        have hl2 := HL.out
        go_wp2
        exact ⟨⟨k + 1, by omega, by go_num, N'⟩, by simp [intOf]; omega⟩
    · obtain rfl : k = l.length := by omega
      have H : Hid (ixn l n 0 = -1) := N.out.symm.trans (ixn_end l n)
      go_wp2
      go_ret
      rw [H.out]
      exact ⟨rfl, rfl⟩
theorem nil_yes (w : World) : (binOp .eql 26 (.slice none 0 0) (.slice none 0 0)).run Try.prog w = .ok (.bool true) w := by kernel_rfl
theorem nil_not (a : Addr) (n c : Nat) (w : World) : (binOp .eql 26 (.slice (some a) n c) (.slice none 0 0)).run Try.prog w = .ok (.bool false) w := by kernel_rfl
/-- Whether a name has a list. -/
def En.hasL (E : En) (n : List UInt8) : Bool := if ixn E.names n 0 < 0 then false else (E.lists.getD (ixn E.names n 0).toNat none).isSome
theorem En.hasL_no {E : En} {n : List UInt8} (h : ixn E.names n 0 = -1) : E.hasL n = false := by unfold En.hasL; rw [h]; rfl
theorem En.hasL_at {E : En} {n : List UInt8} {j : Nat} (h : ixn E.names n 0 = (j : Int)) : E.hasL n = (E.lists.getD j none).isSome := by
  unfold En.hasL
  rw [h, if_neg (by omega)]
  rfl
set_option maxRecDepth 100000 in
set_option maxHeartbeats 2000000 in
theorem rlist_any (s0 s1 s2 : Value) (E : En) (n : List UInt8) (W : World) (hE : EnM W s0 s1 s2 E) : Calls Try.prog 24 #[.agg #[s0, s1, s2], .string ⟨n.toArray⟩] W fun e w' => ∃ sb sn sc, e = .returned (.tuple #[.slice sb sn sc, .bool (E.hasL n)]) ∧ Li w' sb sn (E.T n).2 ∧ Below W.heap.size W w' := by
  obtain ⟨a0, c0, rfl, h0⟩ := hE.names
  obtain ⟨a1, c1, rfl, -⟩ := hE.vals
  obtain ⟨a2, c2, rfl, h2⟩ := hE.lists
  have H0 : Hid _ := h0
  have H2 : Hid _ := h2
  clear h0 h2 hE
  rcases ixn_is E.names n 0 with hi | ⟨j, hi, hj⟩
  · have HT : Hid (E.T n = (0, [])) := En.T_no hi
    have HH : Hid (E.hasL n = false) := En.hasL_no hi
    go_enter Try.func24, Try.ntmps24
    go_wp2_with fail
    refine Calls.mono (rplace_any a0 c0 E.names n _ (Tx.later H0.out (by go_grown))) ?_
    rintro e w1 ⟨rfl, hw⟩
    rw [hw, hi]
    clear hw w1 hi
    go_wp2_with fail
    go_ret2
    rw [HT.out, HH.out]
    exact ⟨none, 0, 0, rfl, ⟨rfl, fun h => absurd h (Nat.lt_irrefl 0)⟩, by go_grown⟩
  · rw [Nat.zero_add] at hi
    have HT : Hid (E.T n = match E.lists.getD j none with
      | some q => (0, q)
      | none => (E.vals.getD j 0, [])) := En.T_at hi
    have HH : Hid (E.hasL n = (E.lists.getD j none).isSome) := En.hasL_at hi
    clear hj
    by_cases hl : j < E.lists.length
    · obtain ⟨g, o, rfl, hg, hc⟩ := H2.out.2 (by omega)
      rcases hc j hl with ⟨e1, e2⟩ | ⟨q, a, sn, sc, e1, e2, e3, e4⟩
      · rw [e1] at HT HH
        clear hc e1
        have HE : Hid _ := e2
        clear e2
        go_enter Try.func24, Try.ntmps24
        go_wp2_with fail
        refine Calls.mono (rplace_any a0 c0 E.names n _ (Tx.later H0.out (by go_grown))) ?_
        rintro e w1 ⟨rfl, hw⟩
        rw [hw, hi]
        clear hw w1 hi
        have d1 := HE.out
        have dn := nil_yes
        go_wp2_with fail
        go_ret2
        rw [HT.out, HH.out]
        exact ⟨none, 0, 0, rfl, ⟨rfl, fun h => absurd h (Nat.lt_irrefl 0)⟩, by go_grown⟩
      · rw [e1] at HT HH
        clear hc e1
        have HE : Hid _ := e2
        have HQ : Hid _ := e3
        clear e2 e3 e4
        go_enter Try.func24, Try.ntmps24
        go_wp2_with fail
        refine Calls.mono (rplace_any a0 c0 E.names n _ (Tx.later H0.out (by go_grown))) ?_
        rintro e w1 ⟨rfl, hw⟩
        rw [hw, hi]
        clear hw w1 hi
        have d1 := HE.out
        have dn := nil_not a sn sc
        go_wp2_with fail
        go_ret2
        rw [HT.out, HH.out]
        exact ⟨some a, sn, sc, rfl, Li.later HQ.out (by go_grown), by go_grown⟩
    · have HN : Hid (E.lists.getD j none = none) := by unfold Hid; rw [List.getD_eq_getElem?_getD, List.getElem?_eq_none (by omega)]; rfl
      rw [HN.out] at HT HH
      go_enter Try.func24, Try.ntmps24
      go_wp2_with fail
      refine Calls.mono (rplace_any a0 c0 E.names n _ (Tx.later H0.out (by go_grown))) ?_
      rintro e w1 ⟨rfl, hw⟩
      rw [hw, hi]
      clear hw w1 hi
      go_wp2_with fail
      go_ret2
      rw [HT.out, HH.out]
      exact ⟨none, 0, 0, rfl, ⟨rfl, fun h => absurd h (Nat.lt_irrefl 0)⟩, by go_grown⟩
set_option maxHeartbeats 400000 in
theorem rtruth_any (b : Bool) (w : World) : Calls Try.prog 27 #[.bool b] w fun e w' => e = .returned (.int .i64 (Fo.bI b)) ∧ w' = w := by
  cases b
  all_goals
    go_enter Try.func27, Try.ntmps27
    go_wp2_with fail
    go_ret
    exact ⟨rfl, rfl⟩
/-- What the document calls built: an EBool's number is 0 or 1. -/
def Fo.rb (k : Int) (n : List UInt8) (m : Int) (c : Nat) : Bool := Fo.built k n c && (!decide (k = 2) || (decide (0 ≤ m) && decide (m ≤ 1)))
theorem binds_pos (n : List UInt8) : decide (0 < (Sx.bindsB n : Int)) = (Fo.isRe n || Fo.isTe n) := by
  unfold Sx.bindsB Fo.isRe Fo.isTe
  repeat' split
  all_goals first | (subst_vars; rfl) | (simp_all)

set_option maxRecDepth 100000 in
set_option maxHeartbeats 2000000 in
theorem rbuilt_any (k : Int) (n : List UInt8) (m : Int) (sa : Option Addr) (sn sc : Nat) (w : World) : Calls Try.prog 23 #[.agg #[.int .i64 k, .string ⟨n.toArray⟩, .int .i64 m, .slice sa sn sc]] w fun e w' => e = .returned (.bool (Fo.rb k n m sn)) ∧ Below w.heap.size w w' := by
  by_cases h1 : k = 1
  · subst h1
    have H : Hid (Fo.rb 1 n m sn = ((sn : Int) == 0)) := by
      unfold Hid Fo.rb Fo.built
      rw [beq_int]
      first | (simp; done) | (simp; omega)
    go_enter Try.func23, Try.ntmps23
    go_wp2_with fail
    go_ret
    exact ⟨ret_bool H.out.symm, by go_grown⟩
  by_cases h3 : k = 3
  · subst h3
    have H : Hid (Fo.rb 3 n m sn = ((sn : Int) == 0)) := by
      unfold Hid Fo.rb Fo.built
      rw [beq_int]
      first | (simp; done) | (simp; omega)
    go_enter Try.func23, Try.ntmps23
    go_wp2_with fail
    go_ret
    exact ⟨ret_bool H.out.symm, by go_grown⟩
  by_cases h4 : k = 4
  · subst h4
    have H : Hid (Fo.rb 4 n m sn = ((sn : Int) == 1)) := by
      unfold Hid Fo.rb Fo.built
      rw [beq_int]
      first | (simp; done) | (simp; omega)
    go_enter Try.func23, Try.ntmps23
    go_wp2_with fail
    go_ret
    exact ⟨ret_bool H.out.symm, by go_grown⟩
  have e1 : (k == 1) = false := beq_eq_false_iff_ne.2 h1
  have e3 : (k == 3) = false := beq_eq_false_iff_ne.2 h3
  have e4 : (k == 4) = false := beq_eq_false_iff_ne.2 h4
  by_cases h2 : k = 2
  · subst h2
    clear h1 h3 h4 e1 e3 e4
    by_cases hc : sn = 0
    · subst hc
      by_cases m0 : 0 ≤ m
      · have H : Hid (Fo.rb 2 n m 0 = decide (m ≤ 1)) := by unfold Hid Fo.rb; rw [decide_eq_true m0]; rfl
        go_enter Try.func23, Try.ntmps23
        go_wp2_with fail
        go_ret
        exact ⟨ret_bool H.out.symm, by go_grown⟩
      · have H : Hid (Fo.rb 2 n m 0 = false) := by unfold Hid Fo.rb; rw [decide_eq_false m0]; rfl
        go_enter Try.func23, Try.ntmps23
        go_wp2_with fail
        go_ret
        exact ⟨ret_bool H.out.symm, by go_grown⟩
    · have ec : ((sn : Int) == 0) = false := by rw [beq_eq_false_iff_ne]; omega
      have H : Hid (Fo.rb 2 n m sn = false) := by unfold Hid Fo.rb Fo.built; rw [decide_eq_false hc]; rfl
      clear hc
      go_enter Try.func23, Try.ntmps23
      go_wp2_with fail
      go_ret
      exact ⟨ret_bool H.out.symm, by go_grown⟩
  have e2 : (k == 2) = false := beq_eq_false_iff_ne.2 h2
  have HR : Hid (∀ c, Fo.rb k n m c = Fo.built k n c) := fun c => by unfold Fo.rb; rw [decide_eq_false h2, Bool.not_false, Bool.true_or, Bool.and_true]
  rw [HR.out]
  clear HR
  by_cases h5 : k = 5
  · subst h5
    clear h1 h2 h3 h4 e1 e2 e3 e4
    by_cases hc : sn = 1
    · subst hc
      have H : Hid (Fo.built 5 n 1 = Sx.isUn n) := rfl
      by_cases t1 : n = [45]
      · subst t1
        go_enter Try.func23, Try.ntmps23
        go_wp2_with fail
        go_ret
        exact ⟨rfl, by go_grown⟩
      · have u1 := text_f t1
        have H2 : Hid (Sx.isUn n = (n == [33])) := by unfold Hid Sx.isUn; rw [decide_eq_false t1, beq_dec]; rfl
        clear t1
        go_enter Try.func23, Try.ntmps23
        go_wp2_with fail
        go_ret
        exact ⟨ret_bool (by rw [H.out, H2.out]), by go_grown⟩
    · have ec : ((sn : Int) == 1) = false := by rw [beq_eq_false_iff_ne]; omega
      have H : Hid (Fo.built 5 n sn = false) := by unfold Hid Fo.built; rw [decide_eq_false hc]; rfl
      clear hc
      go_enter Try.func23, Try.ntmps23
      go_wp2_with fail
      go_ret
      exact ⟨ret_bool H.out.symm, by go_grown⟩
  have e5 : (k == 5) = false := beq_eq_false_iff_ne.2 h5
  by_cases h6 : k = 6
  · subst h6
    clear h1 h2 h3 h4 h5 e1 e2 e3 e4 e5
    by_cases hc : sn = 2
    · subst hc
      have H : Hid (Fo.built 6 n 2 = decide (0 < (Sx.bindsB n : Int))) := by unfold Hid; rw [binds_pos]; rfl
      go_enter Try.func23, Try.ntmps23
      go_wp2_with fail
      refine Calls.mono (rtight_any n _) ?_
      rintro e w1 ⟨rfl, b1⟩
      have BW : Hid (Below w.heap.size w w1) := (box_below w _).trans (b1.mono (by simp))
      clear b1
      generalize (Sx.bindsB n : Int) = z at H
      go_wp2_with fail
      go_ret
      exact ⟨ret_bool H.out.symm, BW.out⟩
    · have ec : ((sn : Int) == 2) = false := by rw [beq_eq_false_iff_ne]; omega
      have H : Hid (Fo.built 6 n sn = false) := by unfold Hid Fo.built; rw [decide_eq_false hc]; rfl
      clear hc
      go_enter Try.func23, Try.ntmps23
      go_wp2_with fail
      go_ret
      exact ⟨ret_bool H.out.symm, by go_grown⟩
  have e6 : (k == 6) = false := beq_eq_false_iff_ne.2 h6
  have H : Hid (Fo.built k n sn = false) := by unfold Hid Fo.built; rw [if_neg h1, if_neg h2, if_neg h3, if_neg h4, if_neg h5, if_neg h6]
  clear h1 h2 h3 h4 h5 h6
  go_enter Try.func23, Try.ntmps23
  go_wp2_with fail
  go_ret
  exact ⟨ret_bool H.out.symm, by go_grown⟩
set_option maxRecDepth 100000 in
set_option maxHeartbeats 4000000 in
theorem rtwo_any (a b : Int) (s : List UInt8) (hs : (Fo.isRe s || Fo.isTe s) = true) (ha0 : -9223372036854775808 ≤ a) (ha1 : a ≤ 9223372036854775807) (hb0 : -9223372036854775808 ≤ b) (hb1 : b ≤ 9223372036854775807) (w : World) : Calls Try.prog 28 #[.string ⟨s.toArray⟩, .int .i64 a, .int .i64 b] w fun e w' => e = .returned (.tuple #[.int .i64 (Fo.re a s b).1, .int .i64 (Fo.re a s b).2]) ∧ Below w.heap.size w w' := by
  by_cases h_add : s = [43]
  · subst h_add
    go_enter Try.func28, Try.ntmps28
    go_wp2_with fail
    refine Calls.mono (radd_any a b _) ?_
    rintro e w1 ⟨rfl, b1⟩
    go_wp2_with fail
    go_ret2
    exact ⟨rfl, b1⟩
  by_cases h_sub : s = [45]
  · subst h_sub
    go_enter Try.func28, Try.ntmps28
    go_wp2_with fail
    refine Calls.mono (rsub_any a b _) ?_
    rintro e w1 ⟨rfl, b1⟩
    go_wp2_with fail
    go_ret2
    exact ⟨rfl, b1⟩
  by_cases h_mul : s = [42]
  · subst h_mul
    go_enter Try.func28, Try.ntmps28
    go_wp2_with fail
    refine Calls.mono (rmul_any a b _) ?_
    rintro e w1 ⟨rfl, b1⟩
    go_wp2_with fail
    go_ret2
    exact ⟨rfl, b1⟩
  by_cases h_div : s = [47]
  · subst h_div
    by_cases h0 : b = 0
    · subst h0
      go_enter Try.func28, Try.ntmps28
      go_wp2_with fail
      go_ret2
      exact ⟨rfl, Below.refl _ _⟩
    · have E1 : Hid _ := rdiv_some a b w ha0 ha1 hb0 hb1 h0
      have H : Hid (Fo.re a [47] b = (Pl.quot a b, 0)) := by unfold Hid Fo.re; simp [h0]
      rw [H.out]
      have hbb : (b == 0) = false := beq_eq_false_iff_ne.2 h0
      clear h0 H
      go_enter Try.func28, Try.ntmps28
      go_wp2_with fail
      refine Calls.mono E1.out ?_
      rintro e w1 ⟨rfl, b1⟩
      go_wp2_with fail
      go_ret2
      exact ⟨rfl, b1⟩
  by_cases h_mod : s = [37]
  · subst h_mod
    by_cases h0 : b = 0
    · subst h0
      go_enter Try.func28, Try.ntmps28
      go_wp2_with fail
      go_ret2
      exact ⟨rfl, Below.refl _ _⟩
    · have E1 : Hid _ := rmod_some a b w ha0 ha1 hb0 hb1 h0
      have H : Hid (Fo.re a [37] b = (Pl.rest a b, 0)) := by unfold Hid Fo.re; simp [h0]
      rw [H.out]
      have hbb : (b == 0) = false := beq_eq_false_iff_ne.2 h0
      clear h0 H
      go_enter Try.func28, Try.ntmps28
      go_wp2_with fail
      refine Calls.mono E1.out ?_
      rintro e w1 ⟨rfl, b1⟩
      go_wp2_with fail
      go_ret2
      exact ⟨rfl, b1⟩
  by_cases h_lt : s = [60]
  · subst h_lt
    have H : Hid (Fo.re a [60] b = (Fo.bI (decide (a < b)), 0)) := by unfold Hid Fo.re; simp
    rw [H.out]
    clear H
    go_enter Try.func28, Try.ntmps28
    go_wp2_with fail
    refine Calls.mono (rtruth_any _ _) ?_
    rintro e w1 ⟨rfl, hw⟩
    rw [hw]
    clear hw w1
    go_wp2_with fail
    go_ret2
    first | exact ⟨rfl, Below.refl _ _⟩ | exact ⟨ret_two (by simp) rfl, Below.refl _ _⟩
  by_cases h_eq : s = [61, 61]
  · subst h_eq
    have H : Hid (Fo.re a [61, 61] b = (Fo.bI (a == b), 0)) := by unfold Hid Fo.re; simp [beq_int]
    rw [H.out]
    clear H
    go_enter Try.func28, Try.ntmps28
    go_wp2_with fail
    refine Calls.mono (rtruth_any _ _) ?_
    rintro e w1 ⟨rfl, hw⟩
    rw [hw]
    clear hw w1
    go_wp2_with fail
    go_ret2
    first | exact ⟨rfl, Below.refl _ _⟩ | exact ⟨ret_two (by simp) rfl, Below.refl _ _⟩
  by_cases h_ne : s = [33, 61]
  · subst h_ne
    have H : Hid (Fo.re a [33, 61] b = (Fo.bI (!(a == b)), 0)) := by unfold Hid Fo.re; simp [beq_int]
    rw [H.out]
    clear H
    go_enter Try.func28, Try.ntmps28
    go_wp2_with fail
    refine Calls.mono (rtruth_any _ _) ?_
    rintro e w1 ⟨rfl, hw⟩
    rw [hw]
    clear hw w1
    go_wp2_with fail
    go_ret2
    first | exact ⟨rfl, Below.refl _ _⟩ | exact ⟨ret_two (by simp) rfl, Below.refl _ _⟩
  by_cases h_and : s = [38, 38]
  · subst h_and
    have H : Hid (Fo.re a [38, 38] b = (Fo.bI (!(b == 0)), 0)) := by unfold Hid Fo.re; simp [beq_int]
    rw [H.out]
    clear H
    go_enter Try.func28, Try.ntmps28
    go_wp2_with fail
    refine Calls.mono (rtruth_any _ _) ?_
    rintro e w1 ⟨rfl, hw⟩
    rw [hw]
    clear hw w1
    go_wp2_with fail
    go_ret2
    first | exact ⟨rfl, Below.refl _ _⟩ | exact ⟨ret_two (by simp) rfl, Below.refl _ _⟩
  by_cases h_or : s = [124, 124]
  · subst h_or
    have H : Hid (Fo.re a [124, 124] b = (Fo.bI (!(b == 0)), 0)) := by unfold Hid Fo.re; simp [beq_int]
    rw [H.out]
    clear H
    go_enter Try.func28, Try.ntmps28
    go_wp2_with fail
    refine Calls.mono (rtruth_any _ _) ?_
    rintro e w1 ⟨rfl, hw⟩
    rw [hw]
    clear hw w1
    go_wp2_with fail
    go_ret2
    first | exact ⟨rfl, Below.refl _ _⟩ | exact ⟨ret_two (by simp) rfl, Below.refl _ _⟩
  by_cases h_le : s = [60, 61]
  · subst h_le
    have H : Hid (Fo.re a [60, 61] b = (Fo.bI (decide (a ≤ b)), 0)) := by unfold Hid Fo.re; simp
    rw [H.out]
    clear H
    by_cases hlt : a < b
    · have H2 : Hid (decide (a ≤ b) = true) := decide_eq_true (by omega)
      rw [H2.out]
      have d1 : decide (a < b) = true := decide_eq_true hlt
      clear H2 hlt
      go_enter Try.func28, Try.ntmps28
      go_wp2_with fail
      refine Calls.mono (rtruth_any _ _) ?_
      rintro e w1 ⟨rfl, hw⟩
      rw [hw]
      clear hw w1
      go_wp2_with fail
      go_ret2
      exact ⟨rfl, Below.refl _ _⟩
    · have H2 : Hid (decide (a ≤ b) = (a == b)) := by
        unfold Hid
        rw [beq_int, decide_eq_decide]
        omega
      rw [H2.out]
      have d1 : decide (a < b) = false := decide_eq_false hlt
      clear H2 hlt
      go_enter Try.func28, Try.ntmps28
      go_wp2_with fail
      refine Calls.mono (rtruth_any _ _) ?_
      rintro e w1 ⟨rfl, hw⟩
      rw [hw]
      clear hw w1
      go_wp2_with fail
      go_ret2
      exact ⟨rfl, Below.refl _ _⟩
  exfalso
  unfold Fo.isRe Fo.isTe at hs
  simp_all
end Go.Proofs.Ythadpkmbbimleaa
