/- lex's small functions, each for every argument. -/
import Derived.Test.YtlhklpnkelcnbaaGreatDoorLexPl
import Derived.Test.YtlhklpnkelcnbaaGreatDoorBase
import Derived.Laws.Rows
namespace Go.Proofs.YtlhklpnkelcnbaaGreatDoor
open Go.RowKit

set_option maxHeartbeats 400000 in
theorem isLetter_any (c : Nat) (w : World) : Calls Tryz.prog 51 #[.int .u8 (c : Int)] w fun e w' => e = .returned (.bool (Lx.let1 c)) ∧ w' = w := by
  by_cases h1 : 65 ≤ c
  · by_cases h2 : c ≤ 90
    · have H : Hid (Lx.let1 c = true) := by unfold Hid Lx.let1; simp [h1, h2]
      go_enter Tryz.func51, Tryz.ntmps51
      go_wp2
      go_ret
      rw [H.out]
      exact ⟨by go_num, rfl⟩
    · by_cases h3 : 97 ≤ c
      · by_cases h4 : c ≤ 122
        · have H : Hid (Lx.let1 c = true) := by unfold Hid Lx.let1; simp [h3, h4]
          go_enter Tryz.func51, Tryz.ntmps51
          go_wp2
          go_ret
          rw [H.out]
          exact ⟨by go_num, rfl⟩
        · have H : Hid (Lx.let1 c = false) := by unfold Hid Lx.let1; simp; omega
          go_enter Tryz.func51, Tryz.ntmps51
          go_wp2
          go_ret
          rw [H.out]
          exact ⟨by go_num, rfl⟩
      · have H : Hid (Lx.let1 c = false) := by unfold Hid Lx.let1; simp; omega
        go_enter Tryz.func51, Tryz.ntmps51
        go_wp2
        go_ret
        rw [H.out]
        exact ⟨by go_num, rfl⟩
  · have H : Hid (Lx.let1 c = false) := by unfold Hid Lx.let1; simp; omega
    go_enter Tryz.func51, Tryz.ntmps51
    go_wp2
    go_ret
    rw [H.out]
    exact ⟨by go_num, rfl⟩
set_option maxHeartbeats 400000 in
theorem isDigit_any (c : Nat) (w : World) : Calls Tryz.prog 53 #[.int .u8 (c : Int)] w fun e w' => e = .returned (.bool (Lx.dig1 c)) ∧ w' = w := by
  by_cases h1 : 48 ≤ c
  · by_cases h2 : c ≤ 57
    · have H : Hid (Lx.dig1 c = true) := by unfold Hid Lx.dig1; simp [h1, h2]
      go_enter Tryz.func53, Tryz.ntmps53
      go_wp2
      go_ret
      rw [H.out]
      exact ⟨by go_num, rfl⟩
    · have H : Hid (Lx.dig1 c = false) := by unfold Hid Lx.dig1; simp; omega
      go_enter Tryz.func53, Tryz.ntmps53
      go_wp2
      go_ret
      rw [H.out]
      exact ⟨by go_num, rfl⟩
  · have H : Hid (Lx.dig1 c = false) := by unfold Hid Lx.dig1; simp; omega
    go_enter Tryz.func53, Tryz.ntmps53
    go_wp2
    go_ret
    rw [H.out]
    exact ⟨by go_num, rfl⟩

/-- The arrays of key words and of signs, as values. -/
def keysA : Array Value := (Lx.keys.map fun l => Value.string ⟨l.toArray⟩).toArray
def signsA : Array Value := (Lx.signs.map fun l => Value.string ⟨l.toArray⟩).toArray
def keyAt (k : Nat) : ByteArray := ⟨(Lx.keys.getD k []).toArray⟩
def signAt (k : Nat) : ByteArray := ⟨(Lx.signs.getD k []).toArray⟩
theorem idx_keys : ∀ (k : Nat) (_ : k < 13) (w : World), (Instr.index 118 (.agg keysA) (.int .i64 (k : Int))).run Tryz.prog w = .ok (.string (keyAt k)) w
  | 0, _, _ => by kernel_rfl | 1, _, _ => by kernel_rfl | 2, _, _ => by kernel_rfl | 3, _, _ => by kernel_rfl | 4, _, _ => by kernel_rfl | 5, _, _ => by kernel_rfl | 6, _, _ => by kernel_rfl
  | 7, _, _ => by kernel_rfl | 8, _, _ => by kernel_rfl | 9, _, _ => by kernel_rfl | 10, _, _ => by kernel_rfl | 11, _, _ => by kernel_rfl | 12, _, _ => by kernel_rfl
  | n + 13, h, _ => absurd h (by omega)
theorem idx_signs : ∀ (k : Nat) (_ : k < 21) (w : World), (Instr.index 115 (.agg signsA) (.int .i64 (k : Int))).run Tryz.prog w = .ok (.string (signAt k)) w
  | 0, _, _ => by kernel_rfl | 1, _, _ => by kernel_rfl | 2, _, _ => by kernel_rfl | 3, _, _ => by kernel_rfl | 4, _, _ => by kernel_rfl | 5, _, _ => by kernel_rfl | 6, _, _ => by kernel_rfl
  | 7, _, _ => by kernel_rfl | 8, _, _ => by kernel_rfl | 9, _, _ => by kernel_rfl | 10, _, _ => by kernel_rfl | 11, _, _ => by kernel_rfl | 12, _, _ => by kernel_rfl | 13, _, _ => by kernel_rfl
  | 14, _, _ => by kernel_rfl | 15, _, _ => by kernel_rfl | 16, _, _ => by kernel_rfl | 17, _, _ => by kernel_rfl | 18, _, _ => by kernel_rfl | 19, _, _ => by kernel_rfl | 20, _, _ => by kernel_rfl
  | n + 21, h, _ => absurd h (by omega)
/-- The two arrays lie as the program's text lays them. -/
structure Kw (w : World) : Prop where
  k : ∃ t fr, w.heap[1]? = some (.cells keysA t fr)
  s : ∃ t fr, w.heap[0]? = some (.cells signsA t fr)
theorem Kw.lt {w : World} (h : Kw w) : 1 < w.heap.size ∧ 0 < w.heap.size := by
  obtain ⟨t, fr, h1⟩ := h.k
  obtain ⟨t2, fr2, h2⟩ := h.s
  exact ⟨(Array.getElem?_eq_some_iff.1 h1).1, (Array.getElem?_eq_some_iff.1 h2).1⟩
theorem Kw.later {w w' : World} (h : Kw w) (hb : Below w.heap.size w w') : Kw w' := by
  have hl := h.lt
  exact ⟨by rw [hb.block _ hl.1]; exact h.k, by rw [hb.block _ hl.2]; exact h.s⟩

theorem key_lists (k : Nat) : (keyAt k).toList = Lx.keys.getD k [] := by rw [ByteArray.toList_eq]; simp [keyAt]
theorem sign_lists (k : Nat) : (signAt k).toList = Lx.signs.getD k [] := by rw [ByteArray.toList_eq]; simp [signAt]
theorem contains_of {l : List UInt8} {L : List (List UInt8)} {k : Nat} (hk : k < L.length) (h : l = L.getD k []) : L.contains l = true := by
  rw [List.contains_iff_mem, h, List.getD_eq_getElem?_getD, List.getElem?_eq_getElem hk]
  exact List.getElem_mem hk
theorem not_contains {l : List UInt8} {L : List (List UInt8)} (h : ∀ k, k < L.length → l ≠ L.getD k []) : L.contains l = false := by
  rw [Bool.eq_false_iff]
  intro e
  obtain ⟨k, hk, he⟩ := List.mem_iff_getElem.1 (List.contains_iff_mem.1 e)
  apply h k hk
  rw [List.getD_eq_getElem?_getD, List.getElem?_eq_getElem hk, ← he]; rfl

set_option maxRecDepth 100000 in
set_option maxHeartbeats 400000 in
theorem isKey_any (s : ByteArray) (w : World) (hk : Kw w) : Calls Tryz.prog 59 #[.string s] w fun e w' => e = .returned (.bool (Lx.isKey s.data.toList)) ∧ w' = w := by
  obtain ⟨tt, fr, hg⟩ := hk.k
  have HG : Hid (w.heap[1]? = some (.cells keysA tt fr)) := hg
  clear hk hg
  go_enter Tryz.func59, Tryz.ntmps59
  go_wp2_with (refine wpList_load_row rfl 118 _ rfl 1 rfl tt _ fr _ HG.out Tryz.underlying118 rfl (by kernel_rfl) ?_)
  go_loop [6] (fun i => ∃ k : Nat, k ≤ 13 ∧ i = .int .i64 k ∧ Hid (∀ j, j < k → s.data.toList ≠ Lx.keys.getD j [])) (fun i => 13 - (intOf i).toNat)
  case atStart => exact ⟨0, by omega, rfl, fun j hj => absurd hj (Nat.not_lt_zero _)⟩
  case round =>
    obtain ⟨k, hk, rfl, N⟩ := hrel
    by_cases hlt : k < 13
    · have hix := idx_keys k hlt
      by_cases he : s.data.toList = Lx.keys.getD k []
      · have heb : (s.toList == (keyAt k).toList) = true := by rw [ByteArray.toList_eq, key_lists, he]; exact beq_self_eq_true _
        have H : Hid (Lx.isKey s.data.toList = true) := contains_of (L := Lx.keys) (k := k) hlt he
        clear he
        go_wp2
        go_ret
        rw [H.out]
        exact ⟨rfl, rfl⟩
      · have heb : (s.toList == (keyAt k).toList) = false := by rw [ByteArray.toList_eq, key_lists]; simpa using he
        have N' : Hid (∀ j, j < k + 1 → s.data.toList ≠ Lx.keys.getD j []) := fun j hj => by
          by_cases e : j = k
          · subst e; exact he
          · exact N.out j (by omega)
        clear he
        go_wp2
        exact ⟨⟨k + 1, by omega, by go_num, N'⟩, by simp [intOf]; omega⟩
    · obtain rfl : k = 13 := by omega
      have H : Hid (Lx.isKey s.data.toList = false) := not_contains (L := Lx.keys) (fun j hj => N.out j hj)
      go_wp2
      go_ret
      rw [H.out]
      exact ⟨rfl, rfl⟩

set_option maxRecDepth 100000 in
set_option maxHeartbeats 400000 in
theorem isSign_any (s : ByteArray) (w : World) (hk : Kw w) : Calls Tryz.prog 62 #[.string s] w fun e w' => e = .returned (.bool (Lx.isSign s.data.toList)) ∧ w' = w := by
  obtain ⟨tt, fr, hg⟩ := hk.s
  have HG : Hid (w.heap[0]? = some (.cells signsA tt fr)) := hg
  clear hk hg
  go_enter Tryz.func62, Tryz.ntmps62
  go_wp2_with (refine wpList_load_row rfl 115 _ rfl 0 rfl tt _ fr _ HG.out Tryz.underlying115 rfl (by kernel_rfl) ?_)
  go_loop [6] (fun i => ∃ k : Nat, k ≤ 21 ∧ i = .int .i64 k ∧ Hid (∀ j, j < k → s.data.toList ≠ Lx.signs.getD j [])) (fun i => 21 - (intOf i).toNat)
  case atStart => exact ⟨0, by omega, rfl, fun j hj => absurd hj (Nat.not_lt_zero _)⟩
  case round =>
    obtain ⟨k, hk, rfl, N⟩ := hrel
    by_cases hlt : k < 21
    · have hix := idx_signs k hlt
      by_cases he : s.data.toList = Lx.signs.getD k []
      · have heb : (s.toList == (signAt k).toList) = true := by rw [ByteArray.toList_eq, sign_lists, he]; exact beq_self_eq_true _
        have H : Hid (Lx.isSign s.data.toList = true) := contains_of (L := Lx.signs) (k := k) hlt he
        clear he
        go_wp2
        go_ret
        rw [H.out]
        exact ⟨rfl, rfl⟩
      · have heb : (s.toList == (signAt k).toList) = false := by rw [ByteArray.toList_eq, sign_lists]; simpa using he
        have N' : Hid (∀ j, j < k + 1 → s.data.toList ≠ Lx.signs.getD j []) := fun j hj => by
          by_cases e : j = k
          · subst e; exact he
          · exact N.out j (by omega)
        clear he
        go_wp2
        exact ⟨⟨k + 1, by omega, by go_num, N'⟩, by simp [intOf]; omega⟩
    · obtain rfl : k = 21 := by omega
      have H : Hid (Lx.isSign s.data.toList = false) := not_contains (L := Lx.signs) (fun j hj => N.out j hj)
      go_wp2
      go_ret
      rw [H.out]
      exact ⟨rfl, rfl⟩

theorem run_step (p : Nat → Bool) (s : ByteArray) (k : Nat) (h : k < s.size) : Lx.run p (s.data.toList.drop k) = if p s[k].toNat then Lx.run p (s.data.toList.drop (k + 1)) + 1 else 0 := by
  rw [Pl.drop_at s k h]; rfl
theorem run_yes {p : Nat → Bool} {s : ByteArray} {k r : Nat} (h : k < s.size) (H : r = k + Lx.run p (s.data.toList.drop k)) (hp : p s[k].toNat = true) : r = (k + 1) + Lx.run p (s.data.toList.drop (k + 1)) := by
  rw [run_step p s k h, if_pos hp] at H; omega
theorem run_no {p : Nat → Bool} {s : ByteArray} {k r : Nat} (h : k < s.size) (H : r = k + Lx.run p (s.data.toList.drop k)) (hp : p s[k].toNat = false) : r = k := by
  rw [run_step p s k h, if_neg (by simp [hp])] at H; omega
theorem run_end {p : Nat → Bool} {s : ByteArray} {k r : Nat} (h : ¬ k < s.size) (H : r = k + Lx.run p (s.data.toList.drop k)) : r = k := by
  rw [List.drop_eq_nil_of_le (by simp; omega)] at H
  exact H
theorem ret_i64 {a b : Int} (h : a = b) : Ending.returned (.int .i64 a) = .returned (.int .i64 b) := by rw [h]

set_option maxRecDepth 100000 in
set_option maxHeartbeats 400000 in
theorem wordSize_any (s : ByteArray) (w : World) (hs : s.size ≤ maxLen) : Calls Tryz.prog 58 #[.string s] w fun e w' => e = .returned (.int .i64 (Lx.run Lx.inn1 s.data.toList : Int)) ∧ w' = w := by
  unfold maxLen at hs
  go_enter Tryz.func58, Tryz.ntmps58
  go_wp2
  go_loop [3] (fun i => ∃ k : Nat, k ≤ s.size ∧ i = .int .i64 k ∧ Hid (Lx.run Lx.inn1 s.data.toList = k + Lx.run Lx.inn1 (s.data.toList.drop k))) (fun i => s.size - (intOf i).toNat)
  case atStart => exact ⟨0, by omega, rfl, (Nat.zero_add _).symm⟩
  case round =>
    obtain ⟨k, hk, rfl, R⟩ := hrel
    by_cases hlt : k < s.size
    · cases hL : Lx.let1 s[k].toNat with
      | true =>
        have R' : Hid _ := run_yes hlt R.out (by unfold Lx.inn1; rw [hL]; rfl)
        go_wp2_with (first | (go_at_call 51; refine (isLetter_any _ _).mono ?_; rintro e w' ⟨rfl, rfl⟩) | (go_at_call 53; refine (isDigit_any _ _).mono ?_; rintro e w' ⟨rfl, rfl⟩))
        exact ⟨⟨k + 1, by omega, by go_num, R'⟩, by simp [intOf]; omega⟩
      | false =>
        cases hD : Lx.dig1 s[k].toNat with
        | true =>
          have R' : Hid _ := run_yes hlt R.out (by unfold Lx.inn1; rw [hL, hD]; rfl)
          go_wp2_with (first | (go_at_call 51; refine (isLetter_any _ _).mono ?_; rintro e w' ⟨rfl, rfl⟩) | (go_at_call 53; refine (isDigit_any _ _).mono ?_; rintro e w' ⟨rfl, rfl⟩))
          exact ⟨⟨k + 1, by omega, by go_num, R'⟩, by simp [intOf]; omega⟩
        | false =>
          by_cases h95 : s[k].toNat = 95
          · have h95b : ((s[k].toNat : Int) == 95) = true := by rw [h95]; rfl
            have R' : Hid _ := run_yes hlt R.out (by unfold Lx.inn1; rw [hL, hD, h95]; rfl)
            clear h95
            go_wp2_with (first | (go_at_call 51; refine (isLetter_any _ _).mono ?_; rintro e w' ⟨rfl, rfl⟩) | (go_at_call 53; refine (isDigit_any _ _).mono ?_; rintro e w' ⟨rfl, rfl⟩))
            exact ⟨⟨k + 1, by omega, by go_num, R'⟩, by simp [intOf]; omega⟩
          · have h95b : ((s[k].toNat : Int) == 95) = false := beq_eq_false_iff_ne.2 (by omega)
            have R' : Hid _ := run_no hlt R.out (by unfold Lx.inn1; rw [hL, hD]; simp [h95])
            clear h95
            go_wp2_with (first | (go_at_call 51; refine (isLetter_any _ _).mono ?_; rintro e w' ⟨rfl, rfl⟩) | (go_at_call 53; refine (isDigit_any _ _).mono ?_; rintro e w' ⟨rfl, rfl⟩))
            go_ret
            exact ⟨ret_i64 (by rw [R'.out]), rfl⟩
    · have R' : Hid _ := run_end hlt R.out
      go_wp2
      go_ret
      exact ⟨ret_i64 (by rw [R'.out]), rfl⟩

set_option maxRecDepth 100000 in
set_option maxHeartbeats 400000 in
theorem digitsSize_any (s : ByteArray) (w : World) (hs : s.size ≤ maxLen) : Calls Tryz.prog 76 #[.string s] w fun e w' => e = .returned (.int .i64 (Lx.run Lx.dig1 s.data.toList : Int)) ∧ w' = w := by
  unfold maxLen at hs
  go_enter Tryz.func76, Tryz.ntmps76
  go_wp2
  go_loop [3] (fun i => ∃ k : Nat, k ≤ s.size ∧ i = .int .i64 k ∧ Hid (Lx.run Lx.dig1 s.data.toList = k + Lx.run Lx.dig1 (s.data.toList.drop k))) (fun i => s.size - (intOf i).toNat)
  case atStart => exact ⟨0, by omega, rfl, (Nat.zero_add _).symm⟩
  case round =>
    obtain ⟨k, hk, rfl, R⟩ := hrel
    by_cases hlt : k < s.size
    · cases hD : Lx.dig1 s[k].toNat with
      | true =>
        have R' : Hid _ := run_yes hlt R.out hD
        go_wp2_with (first | (go_at_call 51; refine (isLetter_any _ _).mono ?_; rintro e w' ⟨rfl, rfl⟩) | (go_at_call 53; refine (isDigit_any _ _).mono ?_; rintro e w' ⟨rfl, rfl⟩))
        exact ⟨⟨k + 1, by omega, by go_num, R'⟩, by simp [intOf]; omega⟩
      | false =>
        have R' : Hid _ := run_no hlt R.out hD
        go_wp2_with (first | (go_at_call 51; refine (isLetter_any _ _).mono ?_; rintro e w' ⟨rfl, rfl⟩) | (go_at_call 53; refine (isDigit_any _ _).mono ?_; rintro e w' ⟨rfl, rfl⟩))
        go_ret
        exact ⟨ret_i64 (by rw [R'.out]), rfl⟩
    · have R' : Hid _ := run_end hlt R.out
      go_wp2
      go_ret
      exact ⟨ret_i64 (by rw [R'.out]), rfl⟩

theorem blank_step (r : Bool) (s : ByteArray) (k : Nat) (h : k < s.size) : Lx.blank r (s.data.toList.drop k) = if s[k] = 10 then Lx.blank false (s.data.toList.drop (k + 1)) + 1 else if s[k] = 35 then Lx.blank true (s.data.toList.drop (k + 1)) + 1 else if ¬ s[k] = 32 ∧ r = false then 0 else Lx.blank r (s.data.toList.drop (k + 1)) + 1 := by
  rw [Pl.drop_at s k h]; rfl
theorem u8_eq {c : UInt8} {n : Nat} (h : c.toNat = n) (hn : n < 256) : c = UInt8.ofNat n := UInt8.toNat_inj.1 (by rw [h, UInt8.toNat_ofNat']; omega)
theorem u8_ne {c : UInt8} {n : Nat} (h : ¬ c.toNat = n) (hn : n < 256) : ¬ c = UInt8.ofNat n := fun e => h (by rw [e, UInt8.toNat_ofNat']; omega)
set_option maxRecDepth 100000 in
set_option maxHeartbeats 400000 in
theorem blankSize_any (s : ByteArray) (w : World) (hs : s.size ≤ maxLen) : Calls Tryz.prog 28 #[.string s] w fun e w' => e = .returned (.int .i64 (Lx.blank false s.data.toList : Int)) ∧ w' = w := by
  unfold maxLen at hs
  go_enter Tryz.func28, Tryz.ntmps28
  go_wp2
  go_loop [3, 4] (fun i x => ∃ (k : Nat) (r : Bool), k ≤ s.size ∧ i = .int .i64 k ∧ x = .bool r ∧ Hid (Lx.blank false s.data.toList = k + Lx.blank r (s.data.toList.drop k))) (fun i _ => s.size - (intOf i).toNat)
  case atStart => exact ⟨0, false, by omega, rfl, rfl, (Nat.zero_add _).symm⟩
  case round =>
    obtain ⟨k, r, hk, rfl, rfl, R⟩ := hrel
    by_cases hlt : k < s.size
    · have S : Hid _ := blank_step r s k hlt
      by_cases h10 : s[k].toNat = 10
      · have e : Hid (s[k] = 10) := u8_eq h10 (by decide)
        have hb : ((s[k].toNat : Int) == 10) = true := by rw [h10]; rfl
        have R' : Hid (Lx.blank false s.data.toList = (k + 1) + Lx.blank false (s.data.toList.drop (k + 1))) := by
          have h1 := R.out
          rw [S.out, if_pos e.out] at h1
          unfold Hid; omega
        clear h10
        go_wp2
        exact ⟨⟨k + 1, false, by omega, by go_num, rfl, R'⟩, by simp [intOf]; omega⟩
      · have e : Hid (¬ s[k] = 10) := u8_ne h10 (by decide)
        have hb : ((s[k].toNat : Int) == 10) = false := beq_eq_false_iff_ne.2 (by omega)
        clear h10
        by_cases h35 : s[k].toNat = 35
        · have e2 : Hid (s[k] = 35) := u8_eq h35 (by decide)
          have hb2 : ((s[k].toNat : Int) == 35) = true := by rw [h35]; rfl
          have R' : Hid (Lx.blank false s.data.toList = (k + 1) + Lx.blank true (s.data.toList.drop (k + 1))) := by
            have h1 := R.out
            rw [S.out, if_neg e.out, if_pos e2.out] at h1
            unfold Hid; omega
          clear h35
          go_wp2
          exact ⟨⟨k + 1, true, by omega, by go_num, rfl, R'⟩, by simp [intOf]; omega⟩
        · have e2 : Hid (¬ s[k] = 35) := u8_ne h35 (by decide)
          have hb2 : ((s[k].toNat : Int) == 35) = false := beq_eq_false_iff_ne.2 (by omega)
          clear h35
          by_cases h32 : s[k].toNat = 32
          · have e3 : Hid (s[k] = 32) := u8_eq h32 (by decide)
            have hb3 : ((s[k].toNat : Int) != 32) = false := by rw [h32]; rfl
            have R' : Hid (Lx.blank false s.data.toList = (k + 1) + Lx.blank r (s.data.toList.drop (k + 1))) := by
              have h1 := R.out
              rw [S.out, if_neg e.out, if_neg e2.out, if_neg (by intro h; exact h.1 e3.out)] at h1
              unfold Hid; omega
            clear h32
            go_wp2
            exact ⟨⟨k + 1, r, by omega, by go_num, rfl, R'⟩, by simp [intOf]; omega⟩
          · have e3 : Hid (¬ s[k] = 32) := u8_ne h32 (by decide)
            have hb3 : ((s[k].toNat : Int) != 32) = true := by rw [bne_iff_ne]; omega
            clear h32
            cases r with
            | true =>
              have R' : Hid (Lx.blank false s.data.toList = (k + 1) + Lx.blank true (s.data.toList.drop (k + 1))) := by
                have h1 := R.out
                rw [S.out, if_neg e.out, if_neg e2.out, if_neg (by simp)] at h1
                unfold Hid; omega
              go_wp2
              exact ⟨⟨k + 1, true, by omega, by go_num, rfl, R'⟩, by simp [intOf]; omega⟩
            | false =>
              have R' : Hid (Lx.blank false s.data.toList = k) := by
                have h1 := R.out
                rw [S.out, if_neg e.out, if_neg e2.out, if_pos ⟨e3.out, rfl⟩] at h1
                exact h1
              go_wp2
              go_ret
              exact ⟨ret_i64 (by rw [R'.out]), rfl⟩
    · have R' : Hid (Lx.blank false s.data.toList = k) := by
        have h1 := R.out
        rw [List.drop_eq_nil_of_le (by simp; omega)] at h1
        exact h1
      go_wp2
      go_ret
      exact ⟨ret_i64 (by rw [R'.out]), rfl⟩
end Go.Proofs.YtlhklpnkelcnbaaGreatDoor
