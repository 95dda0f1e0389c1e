/- rightToken and Right, for every tokens. -/
import Derived.Test.YtlhklpnkelcnbaaGreatDoorLexE
namespace Go.Proofs.YtlhklpnkelcnbaaGreatDoor
open Go.RowKit

/-- Are a token's Text and Num those of its kind? -/
def rtk (t : Lx.Tk) : Bool :=
  if t.kind = 0 then t.text.isEmpty && decide (t.num = 0)
  else if t.kind = 1 then Lx.isName t.text && decide (t.num = 0)
  else if t.kind = 3 then Lx.isKey t.text && decide (t.num = 0)
  else if t.kind = 2 then t.text.isEmpty && decide (0 ≤ t.num)
  else if t.kind = 4 then Lx.isSign t.text && decide (t.num = 0)
  else false
theorem emp_true {l : List UInt8} (h : l.isEmpty = true) : (⟨l.toArray⟩ : ByteArray).toList.isEmpty = true := by rw [ByteArray.toList_eq]; simpa using h
theorem emp_false {l : List UInt8} (h : l.isEmpty = false) : (⟨l.toArray⟩ : ByteArray).toList.isEmpty = false := by rw [ByteArray.toList_eq]; simpa using h
theorem text_list (l : List UInt8) : (⟨l.toArray⟩ : ByteArray).data.toList = l := by simp
theorem box_below (w : World) (o : Obj) : Below w.heap.size w (w.alloc o) := (Below.refl _ _).alloc (Nat.le_refl _) _

set_option maxRecDepth 100000 in
set_option maxHeartbeats 1000000 in
theorem rightToken_any (t : Lx.Tk) (p : Int) (w : World) (hs : t.text.length ≤ maxLen) (hk : Kw w) :
    Calls Tryz.prog 43 #[.agg #[.int .i64 t.kind, .string ⟨t.text.toArray⟩, .int .i64 t.num, .int .i64 p]] w fun e w' => e = .returned (.bool (rtk t)) ∧ Below w.heap.size w w' := by
  have HK : Hid (∀ o, Kw (w.alloc o)) := fun o => hk.later (box_below w o)
  clear hk
  have hz : (⟨t.text.toArray⟩ : ByteArray).size ≤ maxLen := by rw [← size_len', text_list]; exact hs
  obtain ⟨k, l, n⟩ := t
  simp only at hs hz ⊢
  by_cases k0 : k = 0
  · subst k0
    have E : Hid (rtk ⟨0, l, n⟩ = (l.isEmpty && decide (n = 0))) := rfl
    cases hl : l.isEmpty with
    | true =>
      have hl' := emp_true hl
      by_cases hn : n = 0
      · have hnb : (n == 0) = true := beq_iff_eq.2 hn
        have HN : Hid (n = 0) := hn
        clear hn
        go_enter Tryz.func43, Tryz.ntmps43
        go_wp2_with fail
        go_ret
        rw [E.out, hl, decide_eq_true HN.out]
        exact ⟨rfl, box_below _ _⟩
      · have hnb : (n == 0) = false := beq_eq_false_iff_ne.2 hn
        have HN : Hid (¬ n = 0) := hn
        clear hn
        go_enter Tryz.func43, Tryz.ntmps43
        go_wp2_with fail
        go_ret
        rw [E.out, hl, decide_eq_false HN.out]
        exact ⟨rfl, box_below _ _⟩
    | false =>
      have hl' := emp_false hl
      go_enter Tryz.func43, Tryz.ntmps43
      go_wp2_with fail
      go_ret
      rw [E.out, hl]
      exact ⟨rfl, box_below _ _⟩
  · have b0 : (k == 0) = false := beq_eq_false_iff_ne.2 k0
    by_cases k1 : k = 1
    · subst k1
      have E : Hid (rtk ⟨1, l, n⟩ = (Lx.isName l && decide (n = 0))) := rfl
      by_cases hn : n = 0
      · have hnb : (n == 0) = true := beq_iff_eq.2 hn
        have HN : Hid (n = 0) := hn
        clear hn
        cases hc : Lx.isName (⟨l.toArray⟩ : ByteArray).data.toList with
        | true =>
          go_enter Tryz.func43, Tryz.ntmps43
          go_wp2_with fail
          refine (isName_any _ _ hz (HK.out _)).mono ?_
          rintro e w' ⟨rfl, rfl⟩
          go_wp2_with fail
          go_ret
          rw [E.out, hc, decide_eq_true HN.out]
          exact ⟨rfl, box_below _ _⟩
        | false =>
          go_enter Tryz.func43, Tryz.ntmps43
          go_wp2_with fail
          refine (isName_any _ _ hz (HK.out _)).mono ?_
          rintro e w' ⟨rfl, rfl⟩
          go_wp2_with fail
          go_ret
          rw [E.out, hc, decide_eq_true HN.out]
          exact ⟨rfl, box_below _ _⟩
      · have hnb : (n == 0) = false := beq_eq_false_iff_ne.2 hn
        have HN : Hid (¬ n = 0) := hn
        clear hn
        cases hc : Lx.isName (⟨l.toArray⟩ : ByteArray).data.toList with
        | true =>
          go_enter Tryz.func43, Tryz.ntmps43
          go_wp2_with fail
          refine (isName_any _ _ hz (HK.out _)).mono ?_
          rintro e w' ⟨rfl, rfl⟩
          go_wp2_with fail
          go_ret
          rw [E.out, hc, decide_eq_false HN.out]
          exact ⟨rfl, box_below _ _⟩
        | false =>
          go_enter Tryz.func43, Tryz.ntmps43
          go_wp2_with fail
          refine (isName_any _ _ hz (HK.out _)).mono ?_
          rintro e w' ⟨rfl, rfl⟩
          go_wp2_with fail
          go_ret
          rw [E.out, hc, decide_eq_false HN.out]
          exact ⟨rfl, box_below _ _⟩
    · have b1 : (k == 1) = false := beq_eq_false_iff_ne.2 k1
      by_cases k3 : k = 3
      · subst k3
        have E : Hid (rtk ⟨3, l, n⟩ = (Lx.isKey l && decide (n = 0))) := rfl
        by_cases hn : n = 0
        · have hnb : (n == 0) = true := beq_iff_eq.2 hn
          have HN : Hid (n = 0) := hn
          clear hn
          cases hc : Lx.isKey (⟨l.toArray⟩ : ByteArray).data.toList with
          | true =>
            go_enter Tryz.func43, Tryz.ntmps43
            go_wp2_with fail
            refine (isKey_any _ _ (HK.out _)).mono ?_
            rintro e w' ⟨rfl, rfl⟩
            go_wp2_with fail
            go_ret
            rw [E.out, hc, decide_eq_true HN.out]
            exact ⟨rfl, box_below _ _⟩
          | false =>
            go_enter Tryz.func43, Tryz.ntmps43
            go_wp2_with fail
            refine (isKey_any _ _ (HK.out _)).mono ?_
            rintro e w' ⟨rfl, rfl⟩
            go_wp2_with fail
            go_ret
            rw [E.out, hc, decide_eq_true HN.out]
            exact ⟨rfl, box_below _ _⟩
        · have hnb : (n == 0) = false := beq_eq_false_iff_ne.2 hn
          have HN : Hid (¬ n = 0) := hn
          clear hn
          cases hc : Lx.isKey (⟨l.toArray⟩ : ByteArray).data.toList with
          | true =>
            go_enter Tryz.func43, Tryz.ntmps43
            go_wp2_with fail
            refine (isKey_any _ _ (HK.out _)).mono ?_
            rintro e w' ⟨rfl, rfl⟩
            go_wp2_with fail
            go_ret
            rw [E.out, hc, decide_eq_false HN.out]
            exact ⟨rfl, box_below _ _⟩
          | false =>
            go_enter Tryz.func43, Tryz.ntmps43
            go_wp2_with fail
            refine (isKey_any _ _ (HK.out _)).mono ?_
            rintro e w' ⟨rfl, rfl⟩
            go_wp2_with fail
            go_ret
            rw [E.out, hc, decide_eq_false HN.out]
            exact ⟨rfl, box_below _ _⟩
      · have b3 : (k == 3) = false := beq_eq_false_iff_ne.2 k3
        by_cases k2 : k = 2
        · subst k2
          have E : Hid (rtk ⟨2, l, n⟩ = (l.isEmpty && decide (0 ≤ n))) := rfl
          cases hl : l.isEmpty with
          | true =>
            have hl' := emp_true hl
            by_cases hn : 0 ≤ n
            · have hnb : decide (0 ≤ n) = true := decide_eq_true hn
              have HN : Hid (0 ≤ n) := hn
              clear hn
              go_enter Tryz.func43, Tryz.ntmps43
              go_wp2_with fail
              go_ret
              rw [E.out, hl, decide_eq_true HN.out]
              exact ⟨rfl, box_below _ _⟩
            · have hnb : decide (0 ≤ n) = false := decide_eq_false hn
              have HN : Hid (¬ 0 ≤ n) := hn
              clear hn
              go_enter Tryz.func43, Tryz.ntmps43
              go_wp2_with fail
              go_ret
              rw [E.out, hl, decide_eq_false (p := 0 ≤ n) (by have := HN.out; omega)]
              exact ⟨rfl, box_below _ _⟩
          | false =>
            have hl' := emp_false hl
            go_enter Tryz.func43, Tryz.ntmps43
            go_wp2_with fail
            go_ret
            rw [E.out, hl]
            exact ⟨rfl, box_below _ _⟩
        · have b2 : (k == 2) = false := beq_eq_false_iff_ne.2 k2
          by_cases k4 : k = 4
          · subst k4
            have E : Hid (rtk ⟨4, l, n⟩ = (Lx.isSign l && decide (n = 0))) := rfl
            by_cases hn : n = 0
            · have hnb : (n == 0) = true := beq_iff_eq.2 hn
              have HN : Hid (n = 0) := hn
              clear hn
              cases hc : Lx.isSign (⟨l.toArray⟩ : ByteArray).data.toList with
              | true =>
                go_enter Tryz.func43, Tryz.ntmps43
                go_wp2_with fail
                refine (isSign_any _ _ (HK.out _)).mono ?_
                rintro e w' ⟨rfl, rfl⟩
                go_wp2_with fail
                go_ret
                rw [E.out, hc, decide_eq_true HN.out]
                exact ⟨rfl, box_below _ _⟩
              | false =>
                go_enter Tryz.func43, Tryz.ntmps43
                go_wp2_with fail
                refine (isSign_any _ _ (HK.out _)).mono ?_
                rintro e w' ⟨rfl, rfl⟩
                go_wp2_with fail
                go_ret
                rw [E.out, hc, decide_eq_true HN.out]
                exact ⟨rfl, box_below _ _⟩
            · have hnb : (n == 0) = false := beq_eq_false_iff_ne.2 hn
              have HN : Hid (¬ n = 0) := hn
              clear hn
              cases hc : Lx.isSign (⟨l.toArray⟩ : ByteArray).data.toList with
              | true =>
                go_enter Tryz.func43, Tryz.ntmps43
                go_wp2_with fail
                refine (isSign_any _ _ (HK.out _)).mono ?_
                rintro e w' ⟨rfl, rfl⟩
                go_wp2_with fail
                go_ret
                rw [E.out, hc, decide_eq_false HN.out]
                exact ⟨rfl, box_below _ _⟩
              | false =>
                go_enter Tryz.func43, Tryz.ntmps43
                go_wp2_with fail
                refine (isSign_any _ _ (HK.out _)).mono ?_
                rintro e w' ⟨rfl, rfl⟩
                go_wp2_with fail
                go_ret
                rw [E.out, hc, decide_eq_false HN.out]
                exact ⟨rfl, box_below _ _⟩
          · have b4 : (k == 4) = false := beq_eq_false_iff_ne.2 k4
            have E : Hid (rtk ⟨k, l, n⟩ = false) := by unfold Hid rtk; simp [k0, k1, k2, k3, k4]
            clear k0 k1 k2 k3 k4
            go_enter Tryz.func43, Tryz.ntmps43
            go_wp2_with fail
            go_ret
            rw [E.out]
            exact ⟨rfl, box_below _ _⟩
end Go.Proofs.YtlhklpnkelcnbaaGreatDoor
