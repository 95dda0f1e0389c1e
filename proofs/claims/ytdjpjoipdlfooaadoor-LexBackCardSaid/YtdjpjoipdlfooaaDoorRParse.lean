/- The reference's reading of any text is num's. -/
import Derived.Test.YtdjpjoipdlfooaaDoorRText
namespace Go.Proofs.YtdjpjoipdlfooaaDoor
open Go.RowKit

theorem take_one (s : ByteArray) (k : Nat) (h : k < s.size) : s.data.toList.take (k + 1) = s.data.toList.take k ++ [s[k]] := by
  rw [List.take_succ_eq_append_getElem (by simpa using h)]; rfl

def pk (o : Bool) (a b : Int) : Int := if o then a else b
/-- What the reference's Text makes of the number that it made of s: s itself, or another text. -/
def TextIs (s : ByteArray) (o : Bool) : Prop := ∀ w : World, Calls Tryd.prog 25 #[.int .i64 (Pl.made s.data.toList)] w fun e w' => ∃ t : ByteArray, e = .returned (.string t) ∧ (t.toList == s.toList) = o ∧ Below w.heap.size w w'
theorem made_none (s : ByteArray) (h : s.size = 0) : Pl.fds (s.data.toList.take 25) = Pl.made s.data.toList := by
  have : s.data.toList = [] := by rw [← List.length_eq_zero_iff, Array.length_toList, ByteArray.size_data]; exact h
  rw [this]; rfl
theorem head_at (s : ByteArray) (h : 0 < s.size) : s.data.toList.head? = some s[0] := by
  rw [List.head?_eq_getElem?, List.getElem?_eq_getElem (by simpa using h)]; rfl
theorem made_minus (s : ByteArray) (h : 0 < s.size) (h45 : (s[0].toNat : Int) = 45) : wrap64 (-Pl.fds (s.data.toList.take 25)) = Pl.made s.data.toList := by
  unfold Pl.made
  have : s[0] = 45 := UInt8.toNat_inj.1 (by simpa using (by omega : s[0].toNat = 45))
  rw [head_at s h, this, if_pos rfl]
theorem made_plus (s : ByteArray) (h : 0 < s.size) (h45 : ¬ (s[0].toNat : Int) = 45) : Pl.fds (s.data.toList.take 25) = Pl.made s.data.toList := by
  unfold Pl.made
  rw [head_at s h, if_neg]
  intro e
  apply h45
  rw [Option.some.inj e]; rfl

set_option maxRecDepth 100000 in
set_option maxHeartbeats 400000 in
theorem rparse_core (s : ByteArray) (w : World) (hs : s.size ≤ 140737488351232) (o : Bool) (HT : Hid (TextIs s o)) :
    Calls Tryd.prog 40 #[.string s] w fun e w' => e = .returned (.tuple #[.int .i64 (pk o (Pl.made s.data.toList) 0), .int .i64 (pk o 0 10)]) ∧ Below w.heap.size w w' := by
  go_enter Tryd.func40, Tryd.ntmps40
  go_wp2
  go_loop [4, 5] (fun n i => ∃ k : Nat, k ≤ s.size ∧ k ≤ 25 ∧ i = .int .i64 k ∧ n = .int .i64 (Pl.fds (s.data.toList.take k))) (fun _ i => s.size - (intOf i).toNat)
  case atStart => exact ⟨0, by omega, by omega, rfl, rfl⟩
  case round =>
    obtain ⟨k, hk, hk2, rfl, rfl⟩ := hrel
    by_cases hlt : k < s.size
    · by_cases hlt2 : k < 25
      · have HS : Hid (Pl.fds (s.data.toList.take (k + 1)) = Pl.fd (Pl.fds (s.data.toList.take k)) s[k]) := by unfold Hid; rw [take_one s k hlt, Pl.fds_snoc]
        by_cases hd : 48 ≤ (s[k].toNat : Int)
        · by_cases hd2 : (s[k].toNat : Int) ≤ 57
          · go_wp2
            exact ⟨⟨k + 1, by omega, by omega, by go_num, by rw [HS.out, Pl.fd_yes hd hd2]⟩, by simp [intOf]; omega⟩
          · go_wp2
            exact ⟨⟨k + 1, by omega, by omega, by go_num, by rw [HS.out, Pl.fd_no (by omega)]⟩, by simp [intOf]; omega⟩
        · go_wp2
          exact ⟨⟨k + 1, by omega, by omega, by go_num, by rw [HS.out, Pl.fd_no (by omega)]⟩, by simp [intOf]; omega⟩
      · have HV : Hid (Pl.fds (s.data.toList.take k) = Pl.fds (s.data.toList.take 25)) := by unfold Hid; rw [show k = 25 by omega]
        rw [HV.out]
        have hz' : 0 < s.size := by omega
        by_cases h45 : (s[0].toNat : Int) = 45
        · have h45b : ((s[0].toNat : Int) == 45) = true := by rw [h45]; rfl
          have HM : Hid (wrap64 (-Pl.fds (s.data.toList.take 25)) = Pl.made s.data.toList) := made_minus s hz' h45
          clear h45
          go_wp2_with fail
          refine (rneg_any _ w).mono ?_
          rintro e w1 ⟨rfl, b1⟩
          rw [HM.out]
          go_wp2_with fail
          refine (HT.out _).mono ?_
          rintro e w2 ⟨t, rfl, ho, b2⟩
          cases o
          all_goals
            go_wp2
            go_ret2
            exact ⟨rfl, b1.trans (b2.mono b1.size)⟩
        · have h45b : ((s[0].toNat : Int) == 45) = false := by simpa using h45
          have HM : Hid (Pl.fds (s.data.toList.take 25) = Pl.made s.data.toList) := made_plus s hz' h45
          clear h45
          rw [HM.out]
          go_wp2_with fail
          refine (HT.out _).mono ?_
          rintro e w2 ⟨t, rfl, ho, b2⟩
          cases o
          all_goals
            go_wp2
            go_ret2
            exact ⟨rfl, b2⟩
    · have HV : Hid (Pl.fds (s.data.toList.take k) = Pl.fds (s.data.toList.take 25)) := by unfold Hid; rw [List.take_of_length_le (by simp; omega), List.take_of_length_le (by simp; omega)]
      rw [HV.out]
      by_cases hz : s.size = 0
      · have HM : Hid (Pl.fds (s.data.toList.take 25) = Pl.made s.data.toList) := made_none s hz
        rw [HM.out]
        go_wp2_with fail
        refine (HT.out _).mono ?_
        rintro e w2 ⟨t, rfl, ho, b2⟩
        cases o
        all_goals
          go_wp2
          go_ret2
          exact ⟨rfl, b2⟩
      · have hz' : 0 < s.size := by omega
        by_cases h45 : (s[0].toNat : Int) = 45
        · have h45b : ((s[0].toNat : Int) == 45) = true := by rw [h45]; rfl
          have HM : Hid (wrap64 (-Pl.fds (s.data.toList.take 25)) = Pl.made s.data.toList) := made_minus s hz' h45
          clear h45
          go_wp2_with fail
          refine (rneg_any _ w).mono ?_
          rintro e w1 ⟨rfl, b1⟩
          rw [HM.out]
          go_wp2_with fail
          refine (HT.out _).mono ?_
          rintro e w2 ⟨t, rfl, ho, b2⟩
          cases o
          all_goals
            go_wp2
            go_ret2
            exact ⟨rfl, b1.trans (b2.mono b1.size)⟩
        · have h45b : ((s[0].toNat : Int) == 45) = false := by simpa using h45
          have HM : Hid (Pl.fds (s.data.toList.take 25) = Pl.made s.data.toList) := made_plus s hz' h45
          clear h45
          rw [HM.out]
          go_wp2_with fail
          refine (HT.out _).mono ?_
          rintro e w2 ⟨t, rfl, ho, b2⟩
          cases o
          all_goals
            go_wp2
            go_ret2
            exact ⟨rfl, b2⟩

theorem rparse_any (s : ByteArray) (w : World) (hs : s.size ≤ 140737488351232) :
    Calls Tryd.prog 40 #[.string s] w fun e w' => e = .returned (.tuple #[.int .i64 ((Pl.parse s.data.toList).getD 0), .int .i64 (Pl.errno (Pl.parse s.data.toList))]) ∧ Below w.heap.size w w' := by
  have hb := Pl.made_bd s.data.toList
  cases hp : Pl.parse s.data.toList with
  | none =>
    refine (rparse_core s w hs false ?_).mono ?_
    · intro w
      refine (rtext_any _ w hb.1 hb.2).mono ?_
      rintro e w' ⟨rfl, b⟩
      refine ⟨_, rfl, ?_, b⟩
      rw [ByteArray.toList_eq, ByteArray.toList_eq, List.toList_toArray]
      simpa using Pl.made_none hp
    · rintro e w' ⟨rfl, b⟩
      exact ⟨rfl, b⟩
  | some m =>
    have hm := Pl.made_parse hp
    refine (rparse_core s w hs true ?_).mono ?_
    · intro w
      refine (rtext_any _ w hb.1 hb.2).mono ?_
      rintro e w' ⟨rfl, b⟩
      refine ⟨_, rfl, ?_, b⟩
      rw [ByteArray.toList_eq, ByteArray.toList_eq, List.toList_toArray, hm, Pl.itoa_parse hp]
      simp
    · rintro e w' ⟨rfl, b⟩
      exact ⟨ret_pair hm rfl, b⟩
end Go.Proofs.YtdjpjoipdlfooaaDoor
