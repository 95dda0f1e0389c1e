/- The reference's words of any text of at most 3000 bytes. -/
import Derived.Test.YtdaipapfkekfpaaDoorStrs
namespace Go.Proofs.YtdaipapfkekfpaaDoor
open Go.RowKit

/-- Where the reference's Words stands behind k bytes. -/
structure WAt (s : ByteArray) (k : Nat) (xs : List ByteArray) (wd : ByteArray) : Prop where
  all : xs.map (·.data.toList) ++ Pl.wsAt wd.data.toList (s.data.toList.drop k) = Pl.ws s.data.toList
  len : xs.length ≤ k
  wsz : wd.size ≤ k

set_option maxRecDepth 100000 in
set_option maxHeartbeats 400000 in
theorem rwords_some (s : ByteArray) (w : World) (hs : s.size ≤ 3000) (h0 : 0 < s.size) :
    Calls Tryd.prog 29 #[.string s] w fun e w' => ∃ v xs, e = .returned v ∧ OwnS w' w.heap.size v xs ∧ xs.map (·.data.toList) = Pl.ws s.data.toList ∧ Below w.heap.size w w' := by
  obtain ⟨i0, hi, hz0, hz1, hz2⟩ := info_parts infoStr
  have hne : ¬ s.toList = [] := by
    rw [ByteArray.toList_eq, ← List.length_eq_zero_iff, Array.length_toList, ByteArray.size_data]; omega
  have hem : s.toList.isEmpty = false := by simpa using hne
  go_enter Tryd.func29, Tryd.ntmps29
  go_wp2
  go_loopw [3, 4, 5] (fun v t i wr => ∃ (k : Nat) (xs : List ByteArray) (wd : ByteArray), k ≤ s.size ∧ i = .int .i64 k ∧ t = .string wd ∧ OwnS wr w.heap.size v xs ∧ Below w.heap.size w wr ∧ Hid (WAt s k xs wd)) (fun _ _ i _ => s.size - (intOf i).toNat)
  case atStart => exact ⟨0, [], ⟨#[]⟩, by omega, rfl, rfl, OwnS.nil _ _, Below.refl _ _, ⟨Pl.wsAt_all _, Nat.le_refl _, Nat.le_refl _⟩⟩
  case round =>
    obtain ⟨k, xs, wd, hk, rfl, rfl, hown, hnx, W⟩ := hrel
    have hx := W.out.len
    have hwd := W.out.wsz
    by_cases hlt : k < s.size
    · by_cases h32 : (s[k].toNat : Int) = 32
      · have h32b : ((s[k].toNat : Int) == 32) = true := by rw [h32]; rfl
        have HB : Hid (s[k] = 32) := UInt8.toNat_inj.1 (by simpa using (by omega : s[k].toNat = 32))
        clear h32
        go_wp2_with (at_builtin; refine wpList_append_own _ rfl _ _ 50 rfl w.heap.size 9 i0 (.string ⟨#[]⟩) 1 16 Tryd.underlying50 hi hz0 hz1 hz2 rfl (by decide) _ _ _ rfl (World.ownsRow.alloc hown _) ⟨wr.heap.size, 0, none⟩ 1 1 [.string wd] rfl rfl ?c1 (one_one_s _) ?c3 ?c4 ?c5 ?_)
        case c1 => exact one_cell_s wr wd 9
        case c3 => unfold maxLen; omega
        case c4 => omega
        case c5 => have := hnx.size; simp; omega
        intro v' w1 hown' hgrow _
        obtain ⟨R, hb1⟩ := hown.snoc hnx hnx.size hown' hgrow
        have W' : Hid (WAt s (k + 1) (xs ++ [wd]) ⟨#[]⟩) := by
          refine ⟨?_, by simp; omega, Nat.zero_le _⟩
          rw [← W.out.all, Pl.drop_at s k hlt, HB.out, Pl.wsAt_blank]
          simp
        clear hown' hgrow hown hnx W
        go_wp2
        go_roundw
        case rel => exact ⟨k + 1, _, _, by omega, by go_num, rfl, R, hb1, W'⟩
        case measure => simp [intOf]; omega
      · have h32b : ((s[k].toNat : Int) == 32) = false := by simpa using h32
        have HB : Hid (¬ s[k] = 32) := fun e => h32 (by rw [e]; rfl)
        clear h32
        have W' : Hid (WAt s (k + 1) xs (wd ++ s.extract k (k + 1))) := by
          refine ⟨?_, by omega, ?_⟩
          · rw [cut_one s k hlt, ← Pl.wsAt_other _ HB.out, ← Pl.drop_at s k hlt]; exact W.out.all
          · rw [ByteArray.size_append, ByteArray.size_extract]; omega
        have hsz : wd.size + (s.extract k (k + 1)).size ≤ 9223372036854775807 := by rw [ByteArray.size_extract]; omega
        go_wp2
        go_roundw
        case rel => exact ⟨k + 1, xs, _, by omega, by go_num, rfl, hown, hnx, W'⟩
        case measure => simp [intOf]; omega
    · obtain rfl : k = s.size := by omega
      go_wp2_with (at_builtin; refine wpList_append_own _ rfl _ _ 50 rfl w.heap.size 9 i0 (.string ⟨#[]⟩) 1 16 Tryd.underlying50 hi hz0 hz1 hz2 rfl (by decide) _ _ _ rfl (World.ownsRow.alloc hown _) ⟨wr.heap.size, 0, none⟩ 1 1 [.string wd] rfl rfl ?c1 (one_one_s _) ?c3 ?c4 ?c5 ?_)
      case c1 => exact one_cell_s wr wd 9
      case c3 => unfold maxLen; omega
      case c4 => omega
      case c5 => have := hnx.size; simp; omega
      intro v' w1 hown' hgrow _
      obtain ⟨R, hb1⟩ := hown.snoc hnx hnx.size hown' hgrow
      have HA : Hid ((xs ++ [wd]).map (·.data.toList) = Pl.ws s.data.toList) := by
        unfold Hid
        rw [← W.out.all, List.drop_eq_nil_of_le (by simp), Pl.wsAt_nil]
        simp
      clear hown' hgrow hown hnx W
      go_wp2
      go_ret
      exact ⟨v', _, rfl, R, HA.out, hb1⟩

theorem rwords_none (s : ByteArray) (w : World) (h0 : s.size = 0) : Calls Tryd.prog 29 #[.string s] w fun e w' => e = .returned (.slice none 0 0) ∧ w' = w := by
  have hne : s.toList = [] := by
    rw [ByteArray.toList_eq, ← List.length_eq_zero_iff, Array.length_toList, ByteArray.size_data]; exact h0
  have hem : s.toList.isEmpty = true := by rw [hne]; rfl
  have HN : Hid (s.toList = []) := hne
  clear hne
  go_enter Tryd.func29, Tryd.ntmps29
  go_wp2
  go_ret
  exact ⟨rfl, rfl⟩
end Go.Proofs.YtdaipapfkekfpaaDoor
