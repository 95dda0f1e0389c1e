/- num's inner calls, each for every argument: Parse answers Pl.parse, Text the decimal numeral; and the statements' own fixed calls (known) come out true wherever the table of powers of ten is as the library lays it. -/
import Derived.Test.YtdllgbhdodjdbaaDoorMag
import Derived.Test.YtdllgbhdodjdbaaDoorShelf
namespace Go.Proofs.YtdllgbhdodjdbaaDoor
open Go.RowKit

set_option maxHeartbeats 400000 in
theorem most_any (b : Bool) (w : World) :
    Calls Tryd.prog 92 #[.bool b] w fun e w' => e = .returned (.int .u64 (Pl.lim b)) ∧ w' = w := by
  cases b
  · go_enter Tryd.func92, Tryd.ntmps92
    go_wp2
    go_ret
    exact ⟨rfl, rfl⟩
  · go_enter Tryd.func92, Tryd.ntmps92
    go_wp2
    go_ret
    exact ⟨rfl, rfl⟩

theorem cut_yes (s : ByteArray) (t : List UInt8) (h : s.data.toList = 45 :: t) (w : World) :
    Calls Tryd.prog 90 #[.string s, .string ⟨#[45]⟩] w fun e w' => e = .returned (.tuple #[.string ⟨t.toArray⟩, .bool true]) ∧ w' = w := by
  refine (Tryd.strings_CutPrefix _ _ _).mono ?_
  rintro e w' ⟨rfl, rfl⟩
  simp [h, Lib.trimPrefix, Lib.hasPrefix]
theorem cut_no (s : ByteArray) (h : ∀ t, s.data.toList ≠ 45 :: t) (w : World) :
    Calls Tryd.prog 90 #[.string s, .string ⟨#[45]⟩] w fun e w' => e = .returned (.tuple #[.string s, .bool false]) ∧ w' = w := by
  have hp : Lib.hasPrefix s.data.toList [45] = false := by
    unfold Lib.hasPrefix
    cases hl : s.data.toList with
    | nil => rfl
    | cons c t =>
      have : c ≠ 45 := fun e => h t (by rw [hl, e])
      simp [List.isPrefixOf, Ne.symm this]
  refine (Tryd.strings_CutPrefix _ _ _).mono ?_
  rintro e w' ⟨rfl, rfl⟩
  simp [Lib.trimPrefix, hp]

theorem ret_pair {k l : IntKind} {a b c d : Int} (h1 : a = c) (h2 : b = d) : Ending.returned (.tuple #[.int k a, .int l b]) = .returned (.tuple #[.int k c, .int l d]) := by rw [h1, h2]

set_option maxHeartbeats 400000 in
theorem parse_minus (s : ByteArray) (t : List UInt8) (hst : s.data.toList = 45 :: t) (w : World) (hs : s.size ≤ maxLen) :
    Calls Tryd.prog 65 #[.string s] w fun e w' => e = .returned (.tuple #[.int .i64 ((Pl.parse (45 :: t)).getD 0), .int .i64 (Pl.errno (Pl.parse (45 :: t)))]) ∧ w' = w := by
  have hsz : (ByteArray.mk t.toArray).size ≤ maxLen := by
    have : s.size = t.length + 1 := by rw [← ByteArray.size_data, ← Array.length_toList, hst]; rfl
    have h2 : (ByteArray.mk t.toArray).size = t.length := by simp [ByteArray.size]
    omega
  have hp := Pl.parse_neg t
  cases hm : Pl.mag (Pl.lim true).toNat t 0 0 with
  | none =>
    rw [hm] at hp
    have HP : Hid (Pl.parse (45 :: t) = none) := hp
    clear hp
    have HST : Hid (s.data.toList = 45 :: t) := hst
    clear hst
    go_enter Tryd.func65, Tryd.ntmps65
    go_wp2_with fail
    refine (cut_yes s t HST.out _).mono ?_
    rintro e w' ⟨rfl, rfl⟩
    go_wp2_with fail
    refine (most_any _ _).mono ?_
    rintro e w' ⟨rfl, rfl⟩
    go_wp2_with fail
    refine (magnitude_any _ _ _ hsz (Pl.lim_bd true).1 (Pl.lim_bd true).2).mono ?_
    rintro e w' ⟨rfl, rfl⟩
    go_wp2_with fail
    go_ret2
    exact ⟨ret_pair (by rw [HP.out]; rfl) (by rw [HP.out]; rfl), rfl⟩
  | some n =>
    rw [hm] at hp
    have hle := Pl.mag_le _ (by have := (Pl.lim_bd true).1; omega) t 0 0 n (Nat.zero_le _) hm
    have hle' : (n : Int) ≤ 9223372036854775808 := by have := Pl.lim_bd' true; omega
    clear hle
    have HST : Hid (s.data.toList = 45 :: t) := hst
    clear hst
    by_cases h0 : n = 0
    · have HP : Hid (Pl.parse (45 :: t) = none) := hp.trans (by simp [h0])
      clear hp
      subst h0
      go_enter Tryd.func65, Tryd.ntmps65
      go_wp2_with fail
      refine (cut_yes s t HST.out _).mono ?_
      rintro e w' ⟨rfl, rfl⟩
      go_wp2_with fail
      refine (most_any _ _).mono ?_
      rintro e w' ⟨rfl, rfl⟩
      go_wp2_with fail
      refine (magnitude_any _ _ _ hsz (Pl.lim_bd true).1 (Pl.lim_bd true).2).mono ?_
      rintro e w' ⟨rfl, rfl⟩
      go_wp2_with fail
      go_ret2
      exact ⟨ret_pair (by rw [HP.out]; rfl) (by rw [HP.out]; rfl), rfl⟩
    · have HP : Hid (Pl.parse (45 :: t) = some (-(n : Int))) := hp.trans (by simp [h0])
      clear hp
      have hn0 : ((n : Int) == 0) = false := by simpa using h0
      go_enter Tryd.func65, Tryd.ntmps65
      go_wp2_with fail
      refine (cut_yes s t HST.out _).mono ?_
      rintro e w' ⟨rfl, rfl⟩
      go_wp2_with fail
      refine (most_any _ _).mono ?_
      rintro e w' ⟨rfl, rfl⟩
      go_wp2_with fail
      refine (magnitude_any _ _ _ hsz (Pl.lim_bd true).1 (Pl.lim_bd true).2).mono ?_
      rintro e w' ⟨rfl, rfl⟩
      go_wp2
      go_ret2
      exact ⟨ret_pair (by rw [HP.out]; simp [wrap64]; omega) (by rw [HP.out]; rfl), rfl⟩

set_option maxHeartbeats 400000 in
theorem parse_plus (s : ByteArray) (hst : ∀ t, s.data.toList ≠ 45 :: t) (w : World) (hs : s.size ≤ maxLen) :
    Calls Tryd.prog 65 #[.string s] w fun e w' => e = .returned (.tuple #[.int .i64 ((Pl.parse s.data.toList).getD 0), .int .i64 (Pl.errno (Pl.parse s.data.toList))]) ∧ w' = w := by
  have hp := Pl.parse_pos _ hst
  cases hm : Pl.mag (Pl.lim false).toNat s.data.toList 0 0 with
  | none =>
    rw [hm] at hp
    have HP : Hid (Pl.parse s.data.toList = none) := hp
    clear hp
    have HST : Hid (∀ t, s.data.toList ≠ 45 :: t) := hst
    clear hst
    go_enter Tryd.func65, Tryd.ntmps65
    go_wp2_with fail
    refine (cut_no s HST.out _).mono ?_
    rintro e w' ⟨rfl, rfl⟩
    go_wp2_with fail
    refine (most_any _ _).mono ?_
    rintro e w' ⟨rfl, rfl⟩
    go_wp2_with fail
    refine (magnitude_any _ _ _ hs (Pl.lim_bd false).1 (Pl.lim_bd false).2).mono ?_
    rintro e w' ⟨rfl, rfl⟩
    go_wp2_with fail
    go_ret2
    exact ⟨ret_pair (by rw [HP.out]; rfl) (by rw [HP.out]; rfl), rfl⟩
  | some n =>
    rw [hm] at hp
    have hle := Pl.mag_le _ (by have := (Pl.lim_bd false).1; omega) s.data.toList 0 0 n (Nat.zero_le _) hm
    have hle' : (n : Int) ≤ 9223372036854775807 := by have := Pl.lim_pos; omega
    clear hle
    have HP : Hid (Pl.parse s.data.toList = some (n : Int)) := hp
    clear hp
    have HST : Hid (∀ t, s.data.toList ≠ 45 :: t) := hst
    clear hst
    go_enter Tryd.func65, Tryd.ntmps65
    go_wp2_with fail
    refine (cut_no s HST.out _).mono ?_
    rintro e w' ⟨rfl, rfl⟩
    go_wp2_with fail
    refine (most_any _ _).mono ?_
    rintro e w' ⟨rfl, rfl⟩
    go_wp2_with fail
    refine (magnitude_any _ _ _ hs (Pl.lim_bd false).1 (Pl.lim_bd false).2).mono ?_
    rintro e w' ⟨rfl, rfl⟩
    go_wp2
    go_ret2
    exact ⟨ret_pair (by rw [HP.out]; rfl) (by rw [HP.out]; rfl), rfl⟩

theorem parse_any (s : ByteArray) (w : World) (hs : s.size ≤ maxLen) :
    Calls Tryd.prog 65 #[.string s] w fun e w' => e = .returned (.tuple #[.int .i64 ((Pl.parse s.data.toList).getD 0), .int .i64 (Pl.errno (Pl.parse s.data.toList))]) ∧ w' = w := by
  by_cases h : ∃ t, s.data.toList = 45 :: t
  · obtain ⟨t, ht⟩ := h
    have := parse_minus s t ht w hs
    rw [ht]
    exact this
  · exact parse_plus s (fun t ht => h ⟨t, ht⟩) w hs
end Go.Proofs.YtdllgbhdodjdbaaDoor
