/- lex's IsName and the first word or integer of a text, each for every text. -/
import Derived.Test.YtlhklpnkelcnbaaGreatDoorLexA
namespace Go.Proofs.YtlhklpnkelcnbaaGreatDoor
open Go.RowKit

theorem size_len' (s : ByteArray) : s.data.toList.length = s.size := by rw [Array.length_toList, ByteArray.size_data]
theorem head_is (s : ByteArray) (h : 0 < s.size) : s.data.toList.headD 0 = s[0] := by
  have := Pl.drop_at s 0 h
  rw [List.drop_zero] at this
  rw [this]; rfl
theorem empty_list {s : ByteArray} (h : s.size = 0) : s.data.toList = [] := by rw [← List.length_eq_zero_iff, size_len']; exact h
theorem isEmpty_no {s : ByteArray} (h : 0 < s.size) : s.data.toList.isEmpty = false := by
  cases hl : s.data.toList with
  | nil => have := size_len' s; rw [hl] at this; simp at this; omega
  | cons => rfl
theorem isName_eq (s : ByteArray) (h : 0 < s.size) : Lx.isName s.data.toList = (Lx.let1 s[0].toNat && decide (Lx.run Lx.inn1 s.data.toList = s.size) && decide (s.size ≤ 40) && !Lx.isKey s.data.toList) := by
  unfold Lx.isName
  rw [isEmpty_no h, head_is s h, size_len']
  simp

set_option maxRecDepth 100000 in
set_option maxHeartbeats 400000 in
theorem isName_any (s : ByteArray) (w : World) (hs : s.size ≤ maxLen) (hk : Kw w) : Calls Tryz.prog 34 #[.string s] w fun e w' => e = .returned (.bool (Lx.isName s.data.toList)) ∧ w' = w := by
  have HK : Hid (Kw w) := hk
  clear hk
  by_cases h0 : s.size = 0
  · have hne : s.toList = [] := by rw [ByteArray.toList_eq]; exact empty_list h0
    have hem : s.toList.isEmpty = true := by rw [hne]; rfl
    have H : Hid (Lx.isName s.data.toList = false) := by unfold Hid; rw [empty_list h0]; rfl
    clear hne h0
    go_enter Tryz.func34, Tryz.ntmps34
    go_wp2_with fail
    go_ret
    rw [H.out]
    exact ⟨rfl, rfl⟩
  · have h0' : 0 < s.size := by omega
    have hne : ¬ s.toList = [] := by rw [ByteArray.toList_eq]; intro e; have := size_len' s; rw [e] at this; simp at this; omega
    have hem : s.toList.isEmpty = false := by simpa using hne
    have E : Hid _ := isName_eq s h0'
    cases hL : Lx.let1 s[0].toNat with
    | false =>
      go_enter Tryz.func34, Tryz.ntmps34
      go_wp2_with fail
      refine (isLetter_any _ _).mono ?_
      rintro e w' ⟨rfl, rfl⟩
      go_wp2_with fail
      go_ret
      rw [E.out, hL]
      exact ⟨rfl, rfl⟩
    | true =>
      by_cases hR : Lx.run Lx.inn1 s.data.toList = s.size
      · have hRb : ((Lx.run Lx.inn1 s.data.toList : Int) == (s.size : Int)) = true := beq_iff_eq.2 (by omega)
        by_cases h40 : s.size ≤ 40
        · have HR : Hid (Lx.run Lx.inn1 s.data.toList = s.size) := hR
          clear hR
          go_enter Tryz.func34, Tryz.ntmps34
          go_wp2_with fail
          refine (isLetter_any _ _).mono ?_
          rintro e w' ⟨rfl, rfl⟩
          go_wp2_with fail
          refine (wordSize_any s _ hs).mono ?_
          rintro e w' ⟨rfl, rfl⟩
          go_wp2_with fail
          refine (isKey_any s _ HK.out).mono ?_
          rintro e w' ⟨rfl, rfl⟩
          go_wp2_with fail
          go_ret
          rw [E.out, hL, HR.out]
          simp [h40]
        · have h40b : decide ((s.size : Int) ≤ 40) = false := decide_eq_false (by omega)
          have HR : Hid (Lx.run Lx.inn1 s.data.toList = s.size) := hR
          clear hR
          go_enter Tryz.func34, Tryz.ntmps34
          go_wp2_with fail
          refine (isLetter_any _ _).mono ?_
          rintro e w' ⟨rfl, rfl⟩
          go_wp2_with fail
          refine (wordSize_any s _ hs).mono ?_
          rintro e w' ⟨rfl, rfl⟩
          go_wp2_with fail
          go_ret
          rw [E.out, hL, HR.out]
          simp [h40]
      · have hRb : ((Lx.run Lx.inn1 s.data.toList : Int) == (s.size : Int)) = false := beq_eq_false_iff_ne.2 (by omega)
        have HR : Hid (¬ Lx.run Lx.inn1 s.data.toList = s.size) := hR
        clear hR
        go_enter Tryz.func34, Tryz.ntmps34
        go_wp2_with fail
        refine (isLetter_any _ _).mono ?_
        rintro e w' ⟨rfl, rfl⟩
        go_wp2_with fail
        refine (wordSize_any s _ hs).mono ?_
        rintro e w' ⟨rfl, rfl⟩
        go_wp2_with fail
        go_ret
        rw [E.out, hL, decide_eq_false HR.out]
        exact ⟨rfl, rfl⟩
end Go.Proofs.YtlhklpnkelcnbaaGreatDoor
