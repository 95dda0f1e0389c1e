/- LexBack walked. -/
import Derived.Test.YtdjpjoipdlfooaaDoorLexZ
import Derived.Test.YtdjpjoipdlfooaaDoorScanB
import Derived.Test.YtdjpjoipdlfooaaDoorLexJ
import Derived.Test.YtdjpjoipdlfooaaDoorLexF
namespace Go.Proofs.YtdjpjoipdlfooaaDoor
open Go.RowKit

set_option maxRecDepth 100000 in
set_option maxHeartbeats 1000000 in
theorem back_wrong (v : Value) (ts : List Tok) (w : World) (ht : Kw w ∧ Tab w) (ha : ArgT w v ts) (hr : rightL ts = false) : Calls Tryd.prog 4 #[v] w fun e w' => e = .returned (.bool true) ∧ Below w.heap.size w w' := by
  have HT : Hid (Kw w ∧ Tab w) := ht
  have HA : Hid (ArgT w v ts) := ha
  have HR : Hid (rightL ts = false) := hr
  have HE : Hid (pE ts = 32) := by unfold Hid pE; rw [hr]; rfl
  clear ht ha hr
  go_enter Tryd.func4, Tryd.ntmps4
  go_wp2_with fail
  refine (a_many HA.out (Below.refl _ _)).mono ?_
  rintro e w0 ⟨m, rfl, hm, hw⟩
  rw [hw]
  clear hw
  cases m with
  | true =>
    clear hm
    go_wp2_with fail
    refine (known2 _ HT.out.1 HT.out.2).mono ?_
    rintro e w2 ⟨rfl, b2⟩
    go_wp2_with fail
    go_ret
    exact ⟨rfl, b2⟩
  | false =>
    have H6 : Hid (totK ts ts.length ≤ 6000) := hm rfl
    clear hm
    go_wp2_with fail
    refine (a_print HA.out HT.out (Below.refl _ _) H6.out).mono ?_
    rintro e w1 ⟨rfl, b1⟩
    have B1 : Hid (Below w.heap.size w w1) := b1
    clear b1
    rw [HE.out]
    generalize pT ts = pt
    go_wp2_with fail
    refine (a_rright HA.out B1.out H6.out).mono ?_
    rintro e w4 ⟨rfl, b4⟩
    have B4 : Hid (Below w.heap.size w w4) := B1.out.trans (b4.mono B1.out.size)
    clear b4
    rw [HR.out]
    go_wp2_with fail
    refine (known2 _ (HT.out.1.later B4.out) (HT.out.2.later B4.out (Nat.le_refl _))).mono ?_
    rintro e w5 ⟨rfl, b5⟩
    go_wp2_with fail
    go_ret
    exact ⟨rfl, B4.out.trans (b5.mono B4.out.size)⟩

set_option maxRecDepth 100000 in
set_option maxHeartbeats 1000000 in
theorem back_right (b o cap : Nat) (ts : List Tok) (w : World) (ht : Kw w ∧ Tab w) (ha : ArgT w (.slice (some ⟨b, o, none⟩) ts.length cap) ts) (hta : Ta w b o ts) (hr : rightL ts = true) : Calls Tryd.prog 4 #[.slice (some ⟨b, o, none⟩) ts.length cap] w fun e w' => e = .returned (.bool true) ∧ Below w.heap.size w w' := by
  have HT : Hid (Kw w ∧ Tab w) := ht
  have HA : Hid (ArgT w (.slice (some ⟨b, o, none⟩) ts.length cap) ts) := ha
  have HTA : Hid (Ta w b o ts) := hta
  have HE : Hid (pE ts = 0) := by unfold Hid pE; rw [hr]; rfl
  have HP : Hid (pT ts = printL ts) := by unfold Hid pT; rw [hr]; rfl
  have PB : Hid _ := print_back hr (fun j hj => (ha.nb j hj).2)
  have NB := ha.nb
  clear ht ha hr hta
  go_enter Tryd.func4, Tryd.ntmps4
  go_wp2_with fail
  refine (a_many HA.out (Below.refl _ _)).mono ?_
  rintro e w0 ⟨m, rfl, hm, hw⟩
  rw [hw]
  clear hw
  cases m with
  | true =>
    clear hm
    go_wp2_with fail
    refine (known2 _ HT.out.1 HT.out.2).mono ?_
    rintro e w2 ⟨rfl, b2⟩
    go_wp2_with fail
    go_ret
    exact ⟨rfl, b2⟩
  | false =>
    have H6 : Hid (totK ts ts.length ≤ 6000) := hm rfl
    clear hm
    have hl6 := a_len H6.out
    have hpl := printL_len ts NB H6.out
    clear NB
    go_wp2_with fail
    refine (a_print HA.out HT.out (Below.refl _ _) H6.out).mono ?_
    rintro e w1 ⟨rfl, b1⟩
    have B1 : Hid (Below w.heap.size w w1) := b1
    clear b1
    rw [HE.out, HP.out]
    have SC : Hid (∀ w', Kw w' → Calls Tryd.prog 13 #[.string ⟨(printL ts).toArray⟩] w' fun e w'' => ScanIs (printL ts) w' e w'') := fun w' hk => by
      have := scan_any ⟨(printL ts).toArray⟩ w' hk
      rw [text_list] at this
      exact this
    have hsz : (⟨(printL ts).toArray⟩ : ByteArray).size = (printL ts).length := size_text _
    have PB2 := PB.out
    clear PB HE HP
    generalize printL ts = pl at SC hsz PB2 hpl
    rcases PB2 with ⟨hlong, a, hsc⟩ | ⟨hs1, hs2, R, hsc, hmap⟩
    · have HS : Hid (Lx.scan pl = ([], a, 2)) := hsc
      clear hsc
      by_cases h1 : 16384 < pl.length
      · clear hlong
        go_wp2_with fail
        refine (SC.out _ (HT.out.1.later B1.out)).mono ?_
        rintro e w2 ⟨v, rfl, ho, b2⟩
        rw [HS.out] at ho ⊢
        obtain ⟨ao, cp, rfl⟩ := ho.shape
        have B2 : Hid (Below w.heap.size w w2) := B1.out.trans (b2.mono B1.out.size)
        clear ho b2
        go_wp2_with fail
        refine (known2 _ (HT.out.1.later B2.out) (HT.out.2.later B2.out (Nat.le_refl _))).mono ?_
        rintro e w5 ⟨rfl, b5⟩
        go_wp2_with fail
        go_ret
        exact ⟨rfl, B2.out.trans (b5.mono B2.out.size)⟩
      · have h2 : 4000 < ts.length := by omega
        clear hlong
        go_wp2_with fail
        refine (SC.out _ (HT.out.1.later B1.out)).mono ?_
        rintro e w2 ⟨v, rfl, ho, b2⟩
        rw [HS.out] at ho ⊢
        obtain ⟨ao, cp, rfl⟩ := ho.shape
        have B2 : Hid (Below w.heap.size w w2) := B1.out.trans (b2.mono B1.out.size)
        clear ho b2
        go_wp2_with fail
        refine (known2 _ (HT.out.1.later B2.out) (HT.out.2.later B2.out (Nat.le_refl _))).mono ?_
        rintro e w5 ⟨rfl, b5⟩
        go_wp2_with fail
        go_ret
        exact ⟨rfl, B2.out.trans (b5.mono B2.out.size)⟩
    · have HS : Hid (Lx.scan pl = (R, 0, 0)) := hsc
      have HM : Hid (R.map (·.1) = ts.map (·.1)) := hmap
      have hRl : R.length = ts.length := by have := congrArg List.length hmap; simpa using this
      have hR : R ≠ [] := (Lx.scan_toks hsc).1.ne
      clear hsc hmap
      go_wp2_with fail
      refine (SC.out _ (HT.out.1.later B1.out)).mono ?_
      rintro e w2 ⟨v, rfl, ho, b2⟩
      rw [HS.out] at ho ⊢
      obtain ⟨g, cp, rfl, hcp, hg, T⟩ := ho.ta hR
      rw [hRl]
      have B2 : Hid (Below w.heap.size w w2) := B1.out.trans (b2.mono B1.out.size)
      have SM : Hid (Calls Tryd.prog 14 #[.slice (some ⟨b, o, none⟩) ts.length cap, .slice (some ⟨g, 0, none⟩) ts.length cp, .bool false] w2 fun e w' => e = .returned (.bool true) ∧ Below w2.heap.size w2 w') := by
        refine rsame_true b o cap g 0 cp ts (R.map tkI) w2 (HTA.out.later B2.out) T (by simp [hRl]) (by omega) (fun j hj => ?_)
        have e := congrArg (fun l => l[j]?) HM.out
        simp only [List.getElem?_map] at e
        rw [List.getElem?_eq_getElem (by omega), List.getElem?_eq_getElem hj] at e
        simp at e
        simp [hj, hRl, tkI, e]
      clear ho b2 T hcp
      go_wp2_with fail
      refine SM.out.mono ?_
      rintro e w3 ⟨rfl, b3⟩
      have B3 : Hid (Below w.heap.size w w3) := B2.out.trans (b3.mono B2.out.size)
      go_wp2_with fail
      refine (known2 _ (HT.out.1.later B3.out) (HT.out.2.later B3.out (Nat.le_refl _))).mono ?_
      rintro e w5 ⟨rfl, b5⟩
      go_wp2_with fail
      go_ret
      exact ⟨rfl, B3.out.trans (b5.mono B3.out.size)⟩
theorem back_walk2 (v : Value) (ts : List Tok) (w : World) (ht : Kw w ∧ Tab w) (ha : ArgT w v ts) : Calls Tryd.prog 4 #[v] w fun e w' => e = .returned (.bool true) ∧ Below w.heap.size w w' := by
  cases hr : rightL ts with
  | false => exact back_wrong v ts w ht ha hr
  | true =>
    rcases ha.sl with ⟨rfl, _⟩ | ⟨h1, b, o, cap, rfl, h3, h4⟩
    · cases hr
    · exact back_right b o cap ts w ht ha h4 hr
end Go.Proofs.YtdjpjoipdlfooaaDoor
