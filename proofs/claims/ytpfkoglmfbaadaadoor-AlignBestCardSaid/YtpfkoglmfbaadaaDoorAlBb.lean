/- AlignBest. -/
import Derived.Test.YtpfkoglmfbaadaaDoorAlBa
import Derived.Test.YtpfkoglmfbaadaaDoorAlY
import Derived.Test.YtpfkoglmfbaadaaDoorAlZ
import Derived.Test.YtpfkoglmfbaadaaDoorAlU0
namespace Go.Proofs.YtpfkoglmfbaadaaDoor
open Go.RowKit
set_option linter.unusedVariables false
set_option linter.unusedSimpArgs false
set_option maxRecDepth 100000
namespace Al
theorem part_neg {l m : List Ev} (h : part l m < 0) : part l m = -1 ∧ tog l m = l.length := by
  unfold part at h ⊢
  split at h
  · rename_i c
    rw [if_pos c]
    exact ⟨rfl, c.1⟩
  · omega
theorem part_pos {l m : List Ev} (h : ¬ part l m < 0) : part l m = (tog l m : Nat) := by
  unfold part at h ⊢
  split at h
  · omega
  · rename_i c
    rw [if_neg c]
theorem mat_ge (l m : List Ev) (L : Int) : tog l m ≤ (prs (mat l m L)).length := by
  rw [prs_len, mat_len]
  split
  · exact Nat.le_refl _
  · rw [lcs_tog l m]
    omega
theorem mat_bd (l m : List Ev) (L : Int) (h : l.length ≤ 24) : (prs (mat l m L)).length ≤ 24 := by
  rw [prs_len, mat_len]
  have h1 := (tog_le l m).1
  have h2 := (lcs_bd l m).1
  split <;> omega
theorem mat_at {l m : List Ev} {L : Int} {i : Nat} (h : i < tog l m) : (prs (mat l m L))[i]? = some ((i : Int), (i : Int)) := by
  unfold prs
  rw [List.getElem?_map, mat_get l m L i h]
  rfl
end Al
set_option maxHeartbeats 16000000 in
theorem best_walk (w : World) (ht : Tab w) (a : Option Addr) (l : List Al.Ev) (ca : Nat) (ha : EvR w.heap.size w a l) (hca : l.length ≤ ca) (_ : l.length ≤ 1000000000000000) (_ : ∀ x ∈ l, Al.R64 x.1 ∧ Al.R64 x.2) (b : Option Addr) (m : List Al.Ev) (cb : Nat) (hb : EvR w.heap.size w b m) (hcb : m.length ≤ cb) (_ : m.length ≤ 1000000000000000) (_ : ∀ x ∈ m, Al.R64 x.1 ∧ Al.R64 x.2) (L : Int) (hL : -9223372036854775808 ≤ L ∧ L ≤ 9223372036854775807) (c : Option Addr) (ps : List Al.Ev) (cc : Nat) (hc : EvR w.heap.size w c ps) (hcc : ps.length ≤ cc) (_ : ps.length ≤ 1000000000000000) (_ : ∀ x ∈ ps, Al.R64 x.1 ∧ Al.R64 x.2) :
    Calls Tryd.prog 8 #[.slice a l.length ca, .slice b m.length cb, .int .i64 L, .slice c ps.length cc] w fun e w' => e = .returned (.bool true) ∧ Below w.heap.size w w' := by
  have KN : Hid (∀ wz, Below w.heap.size w wz → Calls Tryd.prog 9 #[] wz fun e w' => e = .returned (.bool true) ∧ Below w.heap.size w w') := fun wz hz => (known15 wz (ht.later hz (Nat.le_refl _))).mono fun e w' h => ⟨h.1, hz.trans (h.2.mono hz.size)⟩
  have MN := hidA (many_any15 w a b l.length m.length ca cb)
  have BIG : Hid (Below w.heap.size w w) := Below.refl _ _
  by_cases cm : l.length ≤ 24 ∧ m.length ≤ 24
  case neg =>
    have e1 : (decide (24 < l.length) || decide (24 < m.length)) = true := by simp; omega
    rw [e1] at MN
    generalize l.length = n at *
    generalize m.length = k at *
    generalize ps.length = N at *
    clear ht ha hb hca hcb hL hc hcc cm e1
    go_enter Tryd.func8, Tryd.ntmps8
    go_wp2_with fail
    refine MN.out.mono ?_
    rintro e w1 ⟨rfl, rfl⟩
    go_wp2_with fail
    refine (KN.out w1 BIG.out).mono ?_
    rintro e w4 ⟨rfl, b4⟩
    have B4 := hidA b4
    clear b4
    go_wp2_with fail
    go_ret
    exact ⟨rfl, B4.out⟩
  have e1 : (decide (24 < l.length) || decide (24 < m.length)) = false := by simp; omega
  rw [e1] at MN
  by_cases cp : 50 < ps.length
  · have d1 : decide ((50 : Int) < (ps.length : Int)) = true := decide_eq_true (by omega)
    generalize l.length = n at *
    generalize m.length = k at *
    generalize ps.length = N at *
    clear ht ha hb hca hcb hL hc hcc cm e1 cp
    go_enter Tryd.func8, Tryd.ntmps8
    go_wp2_with fail
    refine MN.out.mono ?_
    rintro e w1 ⟨rfl, rfl⟩
    go_wp2_with fail
    refine (KN.out w1 BIG.out).mono ?_
    rintro e w4 ⟨rfl, b4⟩
    have B4 := hidA b4
    clear b4
    go_wp2_with fail
    go_ret
    exact ⟨rfl, B4.out⟩
  have d1 : decide ((50 : Int) < (ps.length : Int)) = false := decide_eq_false (by omega)
  have LE : Hid (l.length ≤ 100 ∧ m.length ≤ 100 ∧ ps.length ≤ 100) := ⟨by omega, by omega, by omega⟩
  have M1 : Hid (Calls Tryd.prog 15 #[.slice a l.length ca, .slice b m.length cb, .int .i64 L] w fun e w' => ∃ a1 c1, e = .returned (.tuple #[.slice a1 (Al.prs (Al.mat l m L)).length c1, .bool (Al.cut l m L)]) ∧ EvR w'.heap.size w' a1 (Al.prs (Al.mat l m L)) ∧ Below w.heap.size w w') := (match_any w a b ca cb l m L ha hb (Nat.le_refl _) LE.out.1 LE.out.2.1 hca hcb hL.1 hL.2).mono fun e w' h => by
    obtain ⟨v, e1, o, bb⟩ := h
    obtain ⟨a1, c1, e2, ev, -⟩ := o.ev
    exact ⟨a1, c1, by rw [e1, e2], ev, bb⟩
  have PT : Hid (∀ wz, Below w.heap.size w wz → Calls Tryd.prog 11 #[.slice a l.length ca, .slice b m.length cb] wz fun e w' => e = .returned (.int .i64 (Al.part l m)) ∧ Below wz.heap.size wz w') := fun wz hz => rpart_any wz a b ca cb l m (ha.later hz (Nat.le_refl _)) (hb.later hz (Nat.le_refl _)) hz.size (Nat.le_trans LE.out.1 (by decide)) (Nat.le_trans LE.out.2.1 (by decide))
  have GB := Al.mat_bd l m L cm.1
  have PR : Hid (∀ wz a1 c1, EvR wz.heap.size wz a1 (Al.prs (Al.mat l m L)) → Calls Tryd.prog 18 #[.slice a1 (Al.prs (Al.mat l m L)).length c1] wz fun e w' => ∃ a2 c2, e = .returned (.slice a2 (Al.prs (Al.mat l m L)).length c2) ∧ EvR w'.heap.size w' a2 (Al.prs (Al.mat l m L)) ∧ Below wz.heap.size wz w') := fun wz a1 c1 ev => (pairs_any wz a1 c1 _ ev (Nat.le_refl _) (Nat.le_trans GB (by decide))).mono fun e w' h => by
    obtain ⟨v, e1, o, bb⟩ := h
    obtain ⟨a2, c2, e2, ev2, -⟩ := o.ev
    exact ⟨a2, c2, by rw [e1, e2], ev2, bb⟩
  have F1 : Hid (∀ wz a2 c2, Below w.heap.size w wz → EvR wz.heap.size wz a2 (Al.prs (Al.mat l m L)) → Calls Tryd.prog 21 #[.slice a l.length ca, .slice b m.length cb, .slice a2 (Al.prs (Al.mat l m L)).length c2] wz fun e w' => e = .returned (.bool true) ∧ Below wz.heap.size wz w') := fun wz a2 c2 hz ev => by
    have h := rfits_any wz a b a2 ca cb c2 l m (Al.prs (Al.mat l m L)) ((ha.later hz (Nat.le_refl _)).mono hz.size) ((hb.later hz (Nat.le_refl _)).mono hz.size) ev (Nat.le_refl _) (Nat.le_trans GB (by decide))
    rw [Al.mat_fits] at h
    exact h
  have F2 : Hid (∀ wz, Below w.heap.size w wz → Calls Tryd.prog 21 #[.slice a l.length ca, .slice b m.length cb, .slice c ps.length cc] wz fun e w' => e = .returned (.bool (Al.fits l m ps)) ∧ Below wz.heap.size wz w') := fun wz hz => rfits_any wz a b c ca cb cc l m ps (ha.later hz (Nat.le_refl _)) (hb.later hz (Nat.le_refl _)) (hc.later hz (Nat.le_refl _)) hz.size (Nat.le_trans LE.out.2.2 (by decide))
  have SZ : Hid (∀ wz, Below w.heap.size w wz → Calls Tryd.prog 31 #[.slice a l.length ca, .slice b m.length cb] wz fun e w' => e = .returned (.int .i64 (Al.lcs l m : Nat)) ∧ Below wz.heap.size wz w') := fun wz hz => rsize_any wz a b ca cb l m (ha.later hz (Nat.le_refl _)) (hb.later hz (Nat.le_refl _)) hz.size LE.out.1 LE.out.2.1
  have GL : Hid ((Al.prs (Al.mat l m L)).length = if Al.cut l m L then Al.tog l m else Al.lcs l m) := by unfold Hid; rw [Al.prs_len, Al.mat_len]
  have GE := Al.mat_ge l m L
  have FB : Hid (Al.fits l m ps = true → ps.length ≤ Al.lcs l m) := fun h => Al.fits_bd h
  have AT : Hid (∀ i, i < Al.tog l m → (Al.prs (Al.mat l m L))[i]? = some ((i : Int), (i : Int))) := fun i h => Al.mat_at h
  have PN : Hid (Al.part l m < 0 → Al.part l m = -1 ∧ Al.tog l m = l.length) := Al.part_neg
  have PP : Hid (¬ Al.part l m < 0 → Al.part l m = (Al.tog l m : Nat)) := Al.part_pos
  have T1 : Al.tog l m ≤ 24 := Nat.le_trans GE GB
  generalize Al.prs (Al.mat l m L) = Z at *
  generalize Al.cut l m L = C at *
  generalize Al.part l m = P at *
  generalize Al.tog l m = T at *
  generalize Al.lcs l m = S at *
  generalize Al.fits l m ps = F at *
  generalize l.length = n at *
  generalize m.length = k at *
  generalize ps.length = N at *
  obtain ⟨G, hG⟩ : ∃ G, G = Z.length := ⟨_, rfl⟩
  rw [← hG] at GB GE
  have HG := hidA hG
  rw [← hG] at M1 PR F1 GL
  have HT := hidA T1
  have HGE := hidA GE
  clear ht ha hb hca hcb hL hc hcc cm e1 cp hG GB GE T1 LE
  have TG : decide ((G : Int) < (T : Int)) = false := decide_eq_false (by have := HGE.out; omega)
  go_enter Tryd.func8, Tryd.ntmps8
  go_wp2_with fail
  refine MN.out.mono ?_
  rintro e w1 ⟨rfl, rfl⟩
  go_wp2_with fail
  refine M1.out.mono ?_
  rintro e w2 ⟨a1, c1, rfl, ev1, b2⟩
  have B2 := hidA b2
  have E1 := hidA ev1
  clear b2 ev1
  go_wp2_with fail
  refine (PT.out w2 B2.out).mono ?_
  rintro e w3 ⟨rfl, b3⟩
  have B3 : Hid (Below w1.heap.size w1 w3) := B2.out.trans (b3.mono B2.out.size)
  have E3 : Hid (EvR w3.heap.size w3 a1 Z) := (E1.out.later b3 (Nat.le_refl _)).mono b3.size
  clear b3 M1 PT E1
  have PRR := hidA (PR.out w3 a1 c1 E3.out)
  clear PR
  by_cases cn : P < 0
  · obtain ⟨p1, p2⟩ := PN.out cn
    have dn : decide (P < 0) = true := decide_eq_true cn
    subst p1
    subst p2
    clear PN PP cn
    cases C
    · have qc : True := trivial
      clear qc
      go_wp2_with fail
      refine PRR.out.mono ?_
      rintro e w4 ⟨a2, c2, rfl, ev2, b4⟩
      have B4 : Hid (Below w1.heap.size w1 w4) := B3.out.trans (b4.mono B3.out.size)
      have E4 : Hid (EvR w4.heap.size w4 a1 Z) := (E3.out.later b4 (Nat.le_refl _)).mono b4.size
      have FF := hidA (F1.out w4 a2 c2 B4.out ev2)
      clear b4 ev2 PRR F1 E3
      go_wp2_with fail
      refine FF.out.mono ?_
      rintro e w5 ⟨rfl, b5⟩
      have B5 : Hid (Below w1.heap.size w1 w5) := B4.out.trans (b5.mono B4.out.size)
      have E5 : Hid (EvR w5.heap.size w5 a1 Z) := (E4.out.later b5 (Nat.le_refl _)).mono b5.size
      clear b5 FF E4
      go_wp2_with fail
      go_loopg [12] T (fun gk y wr => ∃ i : Nat, i + gk = T ∧ y = .int .i64 i ∧ wr = w5)
      case atStart => exact ⟨0, by omega, rfl, rfl⟩
      case round =>
        obtain ⟨i, hk, rfl, rfl⟩ := hrel
        rcases gk with _ | gk
        · obtain rfl : T = i := by omega
          have dk : decide ((T : Int) < (T : Int)) = false := decide_eq_false (Int.lt_irrefl _)
          have q0 : ((G : Int) == (S : Int)) = true := by rw [GL.out]; exact beq_self_eq_true _
          have SS := hidA (SZ.out wr B5.out)
          go_wp2_with fail
          refine SS.out.mono ?_
          rintro e w6 ⟨rfl, b6⟩
          have B6 : Hid (Below w1.heap.size w1 w6) := B5.out.trans (b6.mono B5.out.size)
          have FG := hidA (F2.out w6 B6.out)
          clear b6 SS
          cases F
          · go_wp2_with fail
            refine FG.out.mono ?_
            rintro e w7 ⟨rfl, b7⟩
            have KK := hidA (KN.out w7 (B6.out.trans (b7.mono B6.out.size)))
            clear b7 FG
            go_wp2_with fail
            refine KK.out.mono ?_
            rintro e w9 ⟨rfl, b9⟩
            have B9 := hidA b9
            clear b9
            go_wp2_with fail
            go_ret
            exact ⟨rfl, B9.out⟩
          · have q8 : N ≤ G := by
              have h1 := FB.out rfl
              have h2 := GL.out
              simp only [Bool.false_eq_true, if_false] at h2
              omega
            have q7 : decide ((N : Int) ≤ (G : Int)) = true := decide_eq_true (Int.ofNat_le.2 q8)
            have q9 : decide (N ≤ G) = true := decide_eq_true q8
            go_wp2_with fail
            refine FG.out.mono ?_
            rintro e w7 ⟨rfl, b7⟩
            have KK := hidA (KN.out w7 (B6.out.trans (b7.mono B6.out.size)))
            clear b7 FG
            go_wp2_with fail
            refine KK.out.mono ?_
            rintro e w9 ⟨rfl, b9⟩
            have B9 := hidA b9
            clear b9
            go_wp2_with fail
            go_ret
            exact ⟨rfl, B9.out⟩
        · obtain ⟨k6, dk, dk2, hiT, hk3⟩ := mch_k hk
          have hz := AT.out i hiT
          have hiG : i < G := Nat.lt_of_lt_of_le hiT HGE.out
          obtain ⟨u1, u2, u3⟩ := ix_nums hiG
          obtain ⟨g, og, rfl, hg, cs⟩ := E5.out (by rw [← HG.out]; exact Nat.lt_of_le_of_lt (Nat.zero_le i) hiG)
          have a0 : wr.cell? ⟨g, og + i * 2, none⟩ = some (.int .i64 (i : Int)) := (cs i _ hz).1
          have a9 : wr.cell? ⟨g, og + i * 2 + 1, none⟩ = some (.int .i64 (i : Int)) := (cs i _ hz).2
          have WK := hidA (wrK i (Nat.le_trans (Nat.le_of_lt hiT) (Nat.le_trans HT.out (by decide))))
          have nq1 : ((i : Int) != (i : Int)) = false := by simp
          clear cs hz
          go_wp2_with fail
          go_roundg gk
          case measure => omega
          case rel => exact ⟨i + 1, hk3, by first | exact congrArg _ WK.out | rfl, rfl⟩
    · have GT : Hid (G = T) := GL.out
      have qn : ((G : Int) != (T : Int)) = false := by rw [GT.out]; simp
      have qe : ((G : Int) == (T : Int)) = true := by rw [GT.out]; exact beq_self_eq_true _
      go_wp2_with fail
      refine PRR.out.mono ?_
      rintro e w4 ⟨a2, c2, rfl, ev2, b4⟩
      have B4 : Hid (Below w1.heap.size w1 w4) := B3.out.trans (b4.mono B3.out.size)
      have E4 : Hid (EvR w4.heap.size w4 a1 Z) := (E3.out.later b4 (Nat.le_refl _)).mono b4.size
      have FF := hidA (F1.out w4 a2 c2 B4.out ev2)
      clear b4 ev2 PRR F1 E3
      go_wp2_with fail
      refine FF.out.mono ?_
      rintro e w5 ⟨rfl, b5⟩
      have B5 : Hid (Below w1.heap.size w1 w5) := B4.out.trans (b5.mono B4.out.size)
      have E5 : Hid (EvR w5.heap.size w5 a1 Z) := (E4.out.later b5 (Nat.le_refl _)).mono b5.size
      clear b5 FF E4
      go_wp2_with fail
      go_loopg [12] T (fun gk y wr => ∃ i : Nat, i + gk = T ∧ y = .int .i64 i ∧ wr = w5)
      case atStart => exact ⟨0, by omega, rfl, rfl⟩
      case round =>
        obtain ⟨i, hk, rfl, rfl⟩ := hrel
        rcases gk with _ | gk
        · obtain rfl : T = i := by omega
          have dk : decide ((T : Int) < (T : Int)) = false := decide_eq_false (Int.lt_irrefl _)
          go_wp2_with fail
          refine (KN.out wr B5.out).mono ?_
          rintro e w9 ⟨rfl, b9⟩
          have B9 := hidA b9
          clear b9
          go_wp2_with fail
          go_ret
          exact ⟨rfl, B9.out⟩
        · obtain ⟨k6, dk, dk2, hiT, hk3⟩ := mch_k hk
          have hz := AT.out i hiT
          have hiG : i < G := Nat.lt_of_lt_of_le hiT HGE.out
          obtain ⟨u1, u2, u3⟩ := ix_nums hiG
          obtain ⟨g, og, rfl, hg, cs⟩ := E5.out (by rw [← HG.out]; exact Nat.lt_of_le_of_lt (Nat.zero_le i) hiG)
          have a0 : wr.cell? ⟨g, og + i * 2, none⟩ = some (.int .i64 (i : Int)) := (cs i _ hz).1
          have a9 : wr.cell? ⟨g, og + i * 2 + 1, none⟩ = some (.int .i64 (i : Int)) := (cs i _ hz).2
          have WK := hidA (wrK i (Nat.le_trans (Nat.le_of_lt hiT) (Nat.le_trans HT.out (by decide))))
          have nq1 : ((i : Int) != (i : Int)) = false := by simp
          clear cs hz
          go_wp2_with fail
          go_roundg gk
          case measure => omega
          case rel => exact ⟨i + 1, hk3, by first | exact congrArg _ WK.out | rfl, rfl⟩
  · have p1 := PP.out (by first | exact cn | omega)
    have dn : decide (P < 0) = false := decide_eq_false cn
    subst p1
    clear PN PP cn
    cases C
    · have qc : True := trivial
      clear qc
      go_wp2_with fail
      refine PRR.out.mono ?_
      rintro e w4 ⟨a2, c2, rfl, ev2, b4⟩
      have B4 : Hid (Below w1.heap.size w1 w4) := B3.out.trans (b4.mono B3.out.size)
      have E4 : Hid (EvR w4.heap.size w4 a1 Z) := (E3.out.later b4 (Nat.le_refl _)).mono b4.size
      have FF := hidA (F1.out w4 a2 c2 B4.out ev2)
      clear b4 ev2 PRR F1 E3
      go_wp2_with fail
      refine FF.out.mono ?_
      rintro e w5 ⟨rfl, b5⟩
      have B5 : Hid (Below w1.heap.size w1 w5) := B4.out.trans (b5.mono B4.out.size)
      have E5 : Hid (EvR w5.heap.size w5 a1 Z) := (E4.out.later b5 (Nat.le_refl _)).mono b5.size
      clear b5 FF E4
      go_wp2_with fail
      go_loopg [12] T (fun gk y wr => ∃ i : Nat, i + gk = T ∧ y = .int .i64 i ∧ wr = w5)
      case atStart => exact ⟨0, by omega, rfl, rfl⟩
      case round =>
        obtain ⟨i, hk, rfl, rfl⟩ := hrel
        rcases gk with _ | gk
        · obtain rfl : T = i := by omega
          have dk : decide ((T : Int) < (T : Int)) = false := decide_eq_false (Int.lt_irrefl _)
          have q0 : ((G : Int) == (S : Int)) = true := by rw [GL.out]; exact beq_self_eq_true _
          have SS := hidA (SZ.out wr B5.out)
          go_wp2_with fail
          refine SS.out.mono ?_
          rintro e w6 ⟨rfl, b6⟩
          have B6 : Hid (Below w1.heap.size w1 w6) := B5.out.trans (b6.mono B5.out.size)
          have FG := hidA (F2.out w6 B6.out)
          clear b6 SS
          cases F
          · go_wp2_with fail
            refine FG.out.mono ?_
            rintro e w7 ⟨rfl, b7⟩
            have KK := hidA (KN.out w7 (B6.out.trans (b7.mono B6.out.size)))
            clear b7 FG
            go_wp2_with fail
            refine KK.out.mono ?_
            rintro e w9 ⟨rfl, b9⟩
            have B9 := hidA b9
            clear b9
            go_wp2_with fail
            go_ret
            exact ⟨rfl, B9.out⟩
          · have q8 : N ≤ G := by
              have h1 := FB.out rfl
              have h2 := GL.out
              simp only [Bool.false_eq_true, if_false] at h2
              omega
            have q7 : decide ((N : Int) ≤ (G : Int)) = true := decide_eq_true (Int.ofNat_le.2 q8)
            have q9 : decide (N ≤ G) = true := decide_eq_true q8
            go_wp2_with fail
            refine FG.out.mono ?_
            rintro e w7 ⟨rfl, b7⟩
            have KK := hidA (KN.out w7 (B6.out.trans (b7.mono B6.out.size)))
            clear b7 FG
            go_wp2_with fail
            refine KK.out.mono ?_
            rintro e w9 ⟨rfl, b9⟩
            have B9 := hidA b9
            clear b9
            go_wp2_with fail
            go_ret
            exact ⟨rfl, B9.out⟩
        · obtain ⟨k6, dk, dk2, hiT, hk3⟩ := mch_k hk
          have hz := AT.out i hiT
          have hiG : i < G := Nat.lt_of_lt_of_le hiT HGE.out
          obtain ⟨u1, u2, u3⟩ := ix_nums hiG
          obtain ⟨g, og, rfl, hg, cs⟩ := E5.out (by rw [← HG.out]; exact Nat.lt_of_le_of_lt (Nat.zero_le i) hiG)
          have a0 : wr.cell? ⟨g, og + i * 2, none⟩ = some (.int .i64 (i : Int)) := (cs i _ hz).1
          have a9 : wr.cell? ⟨g, og + i * 2 + 1, none⟩ = some (.int .i64 (i : Int)) := (cs i _ hz).2
          have WK := hidA (wrK i (Nat.le_trans (Nat.le_of_lt hiT) (Nat.le_trans HT.out (by decide))))
          have nq1 : ((i : Int) != (i : Int)) = false := by simp
          clear cs hz
          go_wp2_with fail
          go_roundg gk
          case measure => omega
          case rel => exact ⟨i + 1, hk3, by first | exact congrArg _ WK.out | rfl, rfl⟩
    · have GT : Hid (G = T) := GL.out
      have qn : ((G : Int) != (T : Int)) = false := by rw [GT.out]; simp
      have qe : ((G : Int) == (T : Int)) = true := by rw [GT.out]; exact beq_self_eq_true _
      go_wp2_with fail
      refine PRR.out.mono ?_
      rintro e w4 ⟨a2, c2, rfl, ev2, b4⟩
      have B4 : Hid (Below w1.heap.size w1 w4) := B3.out.trans (b4.mono B3.out.size)
      have E4 : Hid (EvR w4.heap.size w4 a1 Z) := (E3.out.later b4 (Nat.le_refl _)).mono b4.size
      have FF := hidA (F1.out w4 a2 c2 B4.out ev2)
      clear b4 ev2 PRR F1 E3
      go_wp2_with fail
      refine FF.out.mono ?_
      rintro e w5 ⟨rfl, b5⟩
      have B5 : Hid (Below w1.heap.size w1 w5) := B4.out.trans (b5.mono B4.out.size)
      have E5 : Hid (EvR w5.heap.size w5 a1 Z) := (E4.out.later b5 (Nat.le_refl _)).mono b5.size
      clear b5 FF E4
      go_wp2_with fail
      go_loopg [12] T (fun gk y wr => ∃ i : Nat, i + gk = T ∧ y = .int .i64 i ∧ wr = w5)
      case atStart => exact ⟨0, by omega, rfl, rfl⟩
      case round =>
        obtain ⟨i, hk, rfl, rfl⟩ := hrel
        rcases gk with _ | gk
        · obtain rfl : T = i := by omega
          have dk : decide ((T : Int) < (T : Int)) = false := decide_eq_false (Int.lt_irrefl _)
          go_wp2_with fail
          refine (KN.out wr B5.out).mono ?_
          rintro e w9 ⟨rfl, b9⟩
          have B9 := hidA b9
          clear b9
          go_wp2_with fail
          go_ret
          exact ⟨rfl, B9.out⟩
        · obtain ⟨k6, dk, dk2, hiT, hk3⟩ := mch_k hk
          have hz := AT.out i hiT
          have hiG : i < G := Nat.lt_of_lt_of_le hiT HGE.out
          obtain ⟨u1, u2, u3⟩ := ix_nums hiG
          obtain ⟨g, og, rfl, hg, cs⟩ := E5.out (by rw [← HG.out]; exact Nat.lt_of_le_of_lt (Nat.zero_le i) hiG)
          have a0 : wr.cell? ⟨g, og + i * 2, none⟩ = some (.int .i64 (i : Int)) := (cs i _ hz).1
          have a9 : wr.cell? ⟨g, og + i * 2 + 1, none⟩ = some (.int .i64 (i : Int)) := (cs i _ hz).2
          have WK := hidA (wrK i (Nat.le_trans (Nat.le_of_lt hiT) (Nat.le_trans HT.out (by decide))))
          have nq1 : ((i : Int) != (i : Int)) = false := by simp
          clear cs hz
          go_wp2_with fail
          go_roundg gk
          case measure => omega
          case rel => exact ⟨i + 1, hk3, by first | exact congrArg _ WK.out | rfl, rfl⟩
end Go.Proofs.YtpfkoglmfbaadaaDoor
