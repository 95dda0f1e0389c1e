/- The first token of a text: a word, an integer, a sign: each for every text. -/
import Derived.Test.YtlhklpnkelcnbaaGreatDoorLexB
namespace Go.Proofs.YtlhklpnkelcnbaaGreatDoor
open Go.RowKit

/-- A token as Go's value; what first and its parts answer. -/
def tokV (t : Lx.Tk) (at' : Int) : Value := .agg #[.int .i64 t.kind, .string ⟨t.text.toArray⟩, .int .i64 t.num, .int .i64 at']
def tokR : Option (Lx.Tk × Nat) → Value
  | none => .tuple #[.agg #[.int .i64 0, .string ⟨#[]⟩, .int .i64 0, .int .i64 0], .int .i64 0, .int .i64 20]
  | some (t, n) => .tuple #[tokV t 0, .int .i64 n, .int .i64 0]
theorem ext_take (s : ByteArray) (n : Nat) : s.extract 0 n = ⟨(s.data.toList.take n).toArray⟩ := by
  have h : (s.extract 0 n).data.toList = s.data.toList.take n := by rw [Lib.extract_data]; simp
  obtain ⟨⟨l⟩⟩ := s
  rw [← h]
theorem ext_list (s : ByteArray) (n : Nat) : (s.extract 0 n).data.toList = s.data.toList.take n := by rw [Lib.extract_data]; simp

set_option maxRecDepth 100000 in
set_option maxHeartbeats 400000 in
theorem firstWord_any (s : ByteArray) (w : World) (hs : s.size ≤ maxLen) (hk : Kw w) : Calls Tryz.prog 52 #[.string s] w fun e w' => e = .returned (tokR (Lx.fword s.data.toList)) ∧ Below w.heap.size w w' := by
  have HK : Hid (∀ o, Kw (w.alloc o)) := fun o => hk.later ((Below.refl _ _).alloc (Nat.le_refl _) o)
  clear hk
  have hr : (Lx.run Lx.inn1 s.data.toList : Int) ≤ (s.size : Int) := by have := Lx.run_le Lx.inn1 s.data.toList; rw [size_len'] at this; omega
  obtain ⟨n, hn⟩ : ∃ n, n = Lx.run Lx.inn1 s.data.toList := ⟨_, rfl⟩
  have HN : Hid (n = Lx.run Lx.inn1 s.data.toList) := hn
  rw [← hn] at hr
  clear hn
  have hz : (s.extract 0 n).size ≤ maxLen := by rw [ByteArray.size_extract]; omega
  go_enter Tryz.func52, Tryz.ntmps52
  go_wp2_with fail
  refine (wordSize_any s _ hs).mono ?_
  rintro e w' ⟨rfl, rfl⟩
  rw [← HN.out]
  go_wp2_with fail
  refine (isKey_any (s.extract 0 n) _ (HK.out _)).mono ?_
  rintro e w' ⟨rfl, rfl⟩
  cases hK : Lx.isKey (s.extract 0 n).data.toList with
  | true =>
    have F : Hid (Lx.fword s.data.toList = some (⟨3, s.data.toList.take n, 0⟩, n)) := by
      unfold Hid Lx.fword
      rw [← HN.out, if_pos (by rw [← ext_list]; exact hK)]
    go_wp2_with fail
    refine bodyPost_ret (v := .tuple #[.agg #[.int .i64 3, .string (s.extract 0 n), .int .i64 0, .int .i64 0], .int .i64 n, .int .i64 0]) (by simp [results, Tryz.results52, go_sem]; omega) rfl ⟨?_, (Below.refl _ _).alloc (Nat.le_refl _) _⟩
    rw [F.out, ext_take]
    rfl
  | false =>
    go_wp2_with fail
    refine (isName_any (s.extract 0 n) _ hz (HK.out _)).mono ?_
    rintro e w' ⟨rfl, rfl⟩
    cases hN : Lx.isName (s.extract 0 n).data.toList with
    | true =>
      have F : Hid (Lx.fword s.data.toList = some (⟨1, s.data.toList.take n, 0⟩, n)) := by
        unfold Hid Lx.fword
        rw [← HN.out, if_neg (by rw [← ext_list, hK]; decide), if_pos (by rw [← ext_list]; exact hN)]
      go_wp2_with fail
      refine bodyPost_ret (v := .tuple #[.agg #[.int .i64 1, .string (s.extract 0 n), .int .i64 0, .int .i64 0], .int .i64 n, .int .i64 0]) (by simp [results, Tryz.results52, go_sem]; omega) rfl ⟨?_, (Below.refl _ _).alloc (Nat.le_refl _) _⟩
      rw [F.out, ext_take]
      rfl
    | false =>
      have F : Hid (Lx.fword s.data.toList = none) := by
        unfold Hid Lx.fword
        rw [← HN.out, if_neg (by rw [← ext_list, hK]; decide), if_neg (by rw [← ext_list, hN]; decide)]
      go_wp2_with fail
      refine bodyPost_ret (v := .tuple #[.agg #[.int .i64 0, .string ⟨#[]⟩, .int .i64 0, .int .i64 0], .int .i64 0, .int .i64 20]) (by simp [results, Tryz.results52, go_sem]) rfl ⟨?_, (Below.refl _ _).alloc (Nat.le_refl _) _⟩
      rw [F.out]
      rfl

theorem letAt_no {s : ByteArray} {k : Nat} (h : ¬ k < s.size) : Lx.letAt s.data.toList k = false := by
  unfold Lx.letAt
  rw [List.getElem?_eq_none (by rw [size_len']; omega)]
theorem letAt_at {s : ByteArray} {k : Nat} (h : k < s.size) : Lx.letAt s.data.toList k = Lx.let1 s[k].toNat := by
  unfold Lx.letAt
  rw [List.getElem?_eq_getElem (by rw [size_len']; exact h)]; rfl

set_option maxRecDepth 100000 in
set_option maxHeartbeats 400000 in
theorem firstInt_any (s : ByteArray) (w : World) (hs : s.size ≤ maxLen) : Calls Tryz.prog 54 #[.string s] w fun e w' => e = .returned (tokR (Lx.fint s.data.toList)) ∧ Below w.heap.size w w' := by
  have hr : (Lx.run Lx.dig1 s.data.toList : Int) ≤ (s.size : Int) := by have := Lx.run_le Lx.dig1 s.data.toList; rw [size_len'] at this; omega
  obtain ⟨n, hn⟩ : ∃ n, n = Lx.run Lx.dig1 s.data.toList := ⟨_, rfl⟩
  have HN : Hid (n = Lx.run Lx.dig1 s.data.toList) := hn
  rw [← hn] at hr
  clear hn
  have hz : (s.extract 0 n).size ≤ maxLen := by rw [ByteArray.size_extract]; omega
  cases hP : Pl.parse (s.extract 0 n).data.toList with
  | none =>
    have F : Hid (Lx.fint s.data.toList = none) := by
      unfold Hid Lx.fint
      rw [← HN.out, ← ext_list, hP]
    have HP : Hid (Pl.parse (s.extract 0 n).data.toList = none) := hP
    clear hP
    go_enter Tryz.func54, Tryz.ntmps54
    go_wp2_with fail
    refine (digitsSize_any s _ hs).mono ?_
    rintro e w' ⟨rfl, rfl⟩
    rw [← HN.out]
    go_wp2_with fail
    refine (parse_any (s.extract 0 n) _ hz).mono ?_
    rintro e w' ⟨rfl, rfl⟩
    rw [HP.out, Pl.errno_none]
    go_wp2_with fail
    refine bodyPost_ret (v := .tuple #[.agg #[.int .i64 0, .string ⟨#[]⟩, .int .i64 0, .int .i64 0], .int .i64 0, .int .i64 20]) (by simp [results, Tryz.results54, go_sem]) rfl ⟨?_, (Below.refl _ _).alloc (Nat.le_refl _) _⟩
    rw [F.out]
    rfl
  | some m =>
    have HP : Hid (Pl.parse (s.extract 0 n).data.toList = some m) := hP
    clear hP
    have F : Hid (Lx.fint s.data.toList = if Lx.letAt s.data.toList n then none else some (⟨2, [], m⟩, n)) := by
      unfold Hid Lx.fint
      rw [← HN.out, ← ext_list, HP.out]
    by_cases hlt : n < s.size
    · cases hL : Lx.let1 s[n].toNat with
      | true =>
        have F' : Hid (Lx.fint s.data.toList = none) := by unfold Hid; rw [F.out, letAt_at hlt, hL]; rfl
        go_enter Tryz.func54, Tryz.ntmps54
        go_wp2_with fail
        refine (digitsSize_any s _ hs).mono ?_
        rintro e w' ⟨rfl, rfl⟩
        rw [← HN.out]
        go_wp2_with fail
        refine (parse_any (s.extract 0 n) _ hz).mono ?_
        rintro e w' ⟨rfl, rfl⟩
        rw [HP.out, Pl.errno_some]
        go_wp2_with fail
        refine (isLetter_any _ _).mono ?_
        rintro e w' ⟨rfl, rfl⟩
        go_wp2_with fail
        refine bodyPost_ret (v := .tuple #[.agg #[.int .i64 0, .string ⟨#[]⟩, .int .i64 0, .int .i64 0], .int .i64 0, .int .i64 20]) (by simp [results, Tryz.results54, go_sem]) rfl ⟨?_, (Below.refl _ _).alloc (Nat.le_refl _) _⟩
        rw [F'.out]
        rfl
      | false =>
        have F' : Hid (Lx.fint s.data.toList = some (⟨2, [], m⟩, n)) := by unfold Hid; rw [F.out, letAt_at hlt, hL]; rfl
        go_enter Tryz.func54, Tryz.ntmps54
        go_wp2_with fail
        refine (digitsSize_any s _ hs).mono ?_
        rintro e w' ⟨rfl, rfl⟩
        rw [← HN.out]
        go_wp2_with fail
        refine (parse_any (s.extract 0 n) _ hz).mono ?_
        rintro e w' ⟨rfl, rfl⟩
        rw [HP.out, Pl.errno_some]
        go_wp2_with fail
        refine (isLetter_any _ _).mono ?_
        rintro e w' ⟨rfl, rfl⟩
        go_wp2_with fail
        refine bodyPost_ret (v := .tuple #[.agg #[.int .i64 2, .string ⟨#[]⟩, .int .i64 m, .int .i64 0], .int .i64 n, .int .i64 0]) (by simp [results, Tryz.results54, go_sem]) rfl ⟨?_, (Below.refl _ _).alloc (Nat.le_refl _) _⟩
        rw [F'.out]
        rfl
    · have F' : Hid (Lx.fint s.data.toList = some (⟨2, [], m⟩, n)) := by unfold Hid; rw [F.out, letAt_no hlt]; rfl
      have hltb : decide ((n : Int) < (s.size : Int)) = false := decide_eq_false (by omega)
      go_enter Tryz.func54, Tryz.ntmps54
      go_wp2_with fail
      refine (digitsSize_any s _ hs).mono ?_
      rintro e w' ⟨rfl, rfl⟩
      rw [← HN.out]
      go_wp2_with fail
      refine (parse_any (s.extract 0 n) _ hz).mono ?_
      rintro e w' ⟨rfl, rfl⟩
      rw [HP.out, Pl.errno_some]
      go_wp2_with fail
      refine bodyPost_ret (v := .tuple #[.agg #[.int .i64 2, .string ⟨#[]⟩, .int .i64 m, .int .i64 0], .int .i64 n, .int .i64 0]) (by simp [results, Tryz.results54, go_sem]) rfl ⟨?_, (Below.refl _ _).alloc (Nat.le_refl _) _⟩
      rw [F'.out]
      rfl
end Go.Proofs.YtlhklpnkelcnbaaGreatDoor
