/- AlignMatches. -/
import Derived.Test.YthglhcabdadlpaaDoorAlEe
import Derived.Test.YthglhcabdadlpaaDoorAlU0
import Derived.Test.YthglhcabdadlpaaDoorAlP
import Derived.Test.YthglhcabdadlpaaDoorAlQ
namespace Go.Proofs.YthglhcabdadlpaaDoor
open Go.RowKit
set_option linter.unusedVariables false
set_option linter.unusedSimpArgs false
set_option maxRecDepth 100000
set_option maxHeartbeats 4000000 in
theorem matches_walk (w : World) (ht : Tab w) (a : Option Addr) (l : List Al.Ev) (ca : Nat) (ha : EvR w.heap.size w a l) (hca : l.length ≤ ca) (_ : l.length ≤ 1000000000000000) (_ : ∀ x ∈ l, Al.R64 x.1 ∧ Al.R64 x.2) (b : Option Addr) (m : List Al.Ev) (cb : Nat) (hb : EvR w.heap.size w b m) (hcb : m.length ≤ cb) (_ : m.length ≤ 1000000000000000) (_ : ∀ x ∈ m, Al.R64 x.1 ∧ Al.R64 x.2) (L : Int) (hL : -9223372036854775808 ≤ L ∧ L ≤ 9223372036854775807) :
    Calls Tryd.prog 4 #[.slice a l.length ca, .slice b m.length cb, .int .i64 L] w fun e w' => e = .returned (.bool true) ∧ Below w.heap.size w w' := by
  have KN : Hid (∀ wz, Below w.heap.size w wz → Calls Tryd.prog 9 #[] wz fun e w' => e = .returned (.bool true) ∧ Below w.heap.size w w') := fun wz hz => (known15 wz (ht.later hz (Nat.le_refl _))).mono fun e w' h => ⟨h.1, hz.trans (h.2.mono hz.size)⟩
  have MN := hidA (many_any15 w a b l.length m.length ca cb)
  have BIG : Hid (Below w.heap.size w w) := Below.refl _ _
  by_cases cm : l.length ≤ 24 ∧ m.length ≤ 24
  case neg =>
    have e1 : (decide (24 < l.length) || decide (24 < m.length)) = true := by simp; omega
    rw [e1] at MN
    generalize l.length = n at *
    generalize m.length = k at *
    clear ht ha hb hca hcb hL cm e1
    go_enter Tryd.func4, Tryd.ntmps4
    go_wp2_with fail
    refine MN.out.mono ?_
    rintro e w1 ⟨rfl, rfl⟩
    go_wp2_with fail
    refine (KN.out w1 BIG.out).mono ?_
    rintro e w4 ⟨rfl, b4⟩
    have B4 := hidA b4
    clear b4
    go_wp2_with fail
    go_ret
    exact ⟨rfl, B4.out⟩
  have e1 : (decide (24 < l.length) || decide (24 < m.length)) = false := by simp; omega
  rw [e1] at MN
  have l1 : l.length ≤ 100 := Nat.le_trans cm.1 (by decide)
  have m1 : m.length ≤ 100 := Nat.le_trans cm.2 (by decide)
  have GB : Hid ((Al.prs (Al.mat l m L)).length ≤ 100000) := by
    unfold Hid
    rw [Al.prs_len, Al.mat_len]
    have h1 := (Al.tog_le l m).1
    have h2 := (Al.lcs_bd l m).1
    split <;> omega
  have M1 : Hid (Calls Tryd.prog 15 #[.slice a l.length ca, .slice b m.length cb, .int .i64 L] w fun e w' => ∃ a1 c1, e = .returned (.tuple #[.slice a1 (Al.prs (Al.mat l m L)).length c1, .bool (Al.cut l m L)]) ∧ EvR w'.heap.size w' a1 (Al.prs (Al.mat l m L)) ∧ Below w.heap.size w w') := (match_any w a b ca cb l m L ha hb (Nat.le_refl _) l1 m1 hca hcb hL.1 hL.2).mono fun e w' h => by
    obtain ⟨v, e1, o, bb⟩ := h
    obtain ⟨a1, c1, e2, ev, -⟩ := o.ev
    exact ⟨a1, c1, by rw [e1, e2], ev, bb⟩
  have M2 : Hid (∀ wz, Below w.heap.size w wz → Calls Tryd.prog 16 #[.slice a l.length ca, .slice b m.length cb, .int .i64 L] wz fun e w' => ∃ a1 c1, e = .returned (.tuple #[.slice a1 (Al.prs (Al.mat l m L)).length c1, .bool (Al.cut l m L)]) ∧ EvR w'.heap.size w' a1 (Al.prs (Al.mat l m L)) ∧ Below wz.heap.size wz w') := fun wz hz => (rmatch_any wz a b ca cb l m L (ha.later hz (Nat.le_refl _)) (hb.later hz (Nat.le_refl _)) hz.size l1 m1 hca hcb).mono fun e w' h => by
    obtain ⟨v, e1, o, bb⟩ := h
    obtain ⟨a1, c1, e2, ev, -⟩ := o.ev
    exact ⟨a1, c1, by rw [e1, e2], ev, bb⟩
  have PS : Hid (∀ wz a1 c1, EvR wz.heap.size wz a1 (Al.prs (Al.mat l m L)) → Calls Tryd.prog 18 #[.slice a1 (Al.prs (Al.mat l m L)).length c1] wz fun e w' => ∃ a2 c2, e = .returned (.slice a2 (Al.prs (Al.mat l m L)).length c2) ∧ EvR w'.heap.size w' a2 (Al.prs (Al.mat l m L)) ∧ Below wz.heap.size wz w') := fun wz a1 c1 ev => (pairs_any wz a1 c1 _ ev (Nat.le_refl _) GB.out).mono fun e w' h => by
    obtain ⟨v, e1, o, bb⟩ := h
    obtain ⟨a1, c1, e2, ev, -⟩ := o.ev
    exact ⟨a1, c1, by rw [e1, e2], ev, bb⟩
  have SP : Hid (∀ wz a1 c1 a2 c2, EvR wz.heap.size wz a1 (Al.prs (Al.mat l m L)) → EvR wz.heap.size wz a2 (Al.prs (Al.mat l m L)) → Calls Tryd.prog 17 #[.slice a1 (Al.prs (Al.mat l m L)).length c1, .slice a2 (Al.prs (Al.mat l m L)).length c2] wz fun e w' => e = .returned (.bool true) ∧ Below wz.heap.size wz w') := fun wz a1 c1 a2 c2 h1 h2 => (sameP_any wz a1 a2 c1 c2 _ _ h1 h2 (Nat.le_refl _) GB.out GB.out).mono fun e w' h => ⟨by rw [h.1, decide_eq_true rfl], h.2⟩
  have q : (Al.cut l m L == Al.cut l m L) = true := beq_self_eq_true _
  generalize Al.prs (Al.mat l m L) = Z at *
  generalize Al.cut l m L = C at *
  generalize Z.length = G at *
  generalize l.length = n at *
  generalize m.length = k at *
  clear ht ha hb hca hcb hL cm e1 l1 m1 GB
  go_enter Tryd.func4, Tryd.ntmps4
  go_wp2_with fail
  refine MN.out.mono ?_
  rintro e w1 ⟨rfl, rfl⟩
  go_wp2_with fail
  refine M1.out.mono ?_
  rintro e w2 ⟨a2, c2, rfl, ev2, b2⟩
  have B2 := hidA b2
  have E2 := hidA ev2
  have X2 := hidA (M2.out w2 b2)
  clear b2 ev2 M1 M2
  go_wp2_with fail
  refine X2.out.mono ?_
  rintro e w3 ⟨a3, c3, rfl, ev3, b3⟩
  have B3 : Hid (Below w1.heap.size w1 w3) := B2.out.trans (b3.mono B2.out.size)
  have E3 : Hid (EvR w3.heap.size w3 a2 Z ∧ EvR w3.heap.size w3 a3 Z) := ⟨(E2.out.later b3 (Nat.le_refl _)).mono b3.size, ev3⟩
  have X3 := hidA (PS.out w3 a2 c2 E3.out.1)
  clear b3 ev3 X2 PS E2
  go_wp2_with fail
  refine X3.out.mono ?_
  rintro e w4 ⟨a4, c4, rfl, ev4, b4⟩
  have B4 : Hid (Below w1.heap.size w1 w4) := B3.out.trans (b4.mono B3.out.size)
  have X4 := hidA (SP.out w4 a4 c4 a3 c3 ev4 ((E3.out.2.later b4 (Nat.le_refl _)).mono b4.size))
  clear b4 ev4 X3 SP E3
  go_wp2_with fail
  refine X4.out.mono ?_
  rintro e w5 ⟨rfl, b5⟩
  have B5 : Hid (Below w1.heap.size w1 w5) := B4.out.trans (b5.mono B4.out.size)
  clear b5 X4
  go_wp2_with fail
  refine (KN.out w5 B5.out).mono ?_
  rintro e w6 ⟨rfl, b6⟩
  have B6 := hidA b6
  clear b6
  go_wp2_with fail
  go_ret
  exact ⟨rfl, B6.out⟩
end Go.Proofs.YthglhcabdadlpaaDoor
