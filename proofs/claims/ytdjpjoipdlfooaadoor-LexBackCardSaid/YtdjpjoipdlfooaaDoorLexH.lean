/- The reference's First, for every text: words and signs. -/
import Derived.Test.YtdjpjoipdlfooaaDoorLexG
import Derived.BigQuiet
import Derived.Deep.QuietTactic
namespace Go.Proofs.YtdjpjoipdlfooaaDoor
open Go.RowKit

theorem rkeys (w : World) : Calls Tryd.prog 42 #[] w fun e w' => ∃ b, e = .returned (.slice (some ⟨b, 0, none⟩) 13 13) ∧ Sa w' b 0 keyB ∧ Below w.heap.size w w' := by
  go_enter Tryd.func42, Tryd.ntmps42
  go_wp2_with fail
  go_ret
  exact ⟨w.heap.size, rfl, keys_sa w _, box_below w _⟩
theorem rsigns (w : World) : Calls Tryd.prog 44 #[] w fun e w' => ∃ b, e = .returned (.slice (some ⟨b, 0, none⟩) 21 21) ∧ Sa w' b 0 signB ∧ Below w.heap.size w w' := by
  go_enter Tryd.func44, Tryd.ntmps44
  go_wp2_with fail
  go_ret
  exact ⟨w.heap.size, rfl, signs_sa w _, box_below w _⟩
theorem rin_keysB (s : ByteArray) (b : Nat) (w : World) (h : Sa w b 0 keyB) : Calls Tryd.prog 41 #[.string s, .slice (some ⟨b, 0, none⟩) 13 13] w fun e w' => e = .returned (.bool (Lx.isKey s.data.toList)) ∧ w' = w :=
  rin_any s b 0 13 keyB w h (by decide)
theorem rin_signsB (s : ByteArray) (b : Nat) (w : World) (h : Sa w b 0 signB) : Calls Tryd.prog 41 #[.string s, .slice (some ⟨b, 0, none⟩) 21 21] w fun e w' => e = .returned (.bool (Lx.isSign s.data.toList)) ∧ w' = w :=
  rin_any s b 0 21 signB w h (by decide)
theorem ext_str (s : ByteArray) (n : Nat) : (⟨(s.data.toList.take n).toArray⟩ : ByteArray) = s.extract 0 n := by
  have h : (s.extract 0 n).data.toList = s.data.toList.take n := ext_list s n
  apply ByteArray.ext
  apply Array.ext'
  rw [h]

set_option maxRecDepth 100000 in
set_option maxHeartbeats 1000000 in
theorem rfirst_key (s : ByteArray) (w : World) (hs : s.size ≤ 1000000) (h0 : 0 < Lx.run Lx.inn1 s.data.toList) (hd : Lx.dig1 (s.data.toList.headD 0).toNat = false)
    (hk : Lx.isKey (s.data.toList.take (Lx.run Lx.inn1 s.data.toList)) = true) :
    Calls Tryd.prog 26 #[.string s] w fun e w' => e = .returned (rfV (rfirst s.data.toList)) ∧ Below w.heap.size w w' := by
  have hr := Lx.run_le Lx.inn1 s.data.toList
  rw [size_len'] at hr
  obtain ⟨n, hn⟩ : ∃ n, n = Lx.run Lx.inn1 s.data.toList := ⟨_, rfl⟩
  have HN : Hid (n = Lx.run Lx.inn1 s.data.toList) := hn
  rw [← hn] at hr h0 hk
  have F : Hid (rfirst s.data.toList = (⟨3, s.data.toList.take n, 0⟩, n)) := by
    unfold Hid rfirst; rw [if_pos (by omega), if_neg (by rw [hd]; exact Bool.false_ne_true), ← hn, if_pos hk]
  have HK : Hid (Lx.isKey (s.extract 0 n).data.toList = true) := by unfold Hid; rw [ext_list]; exact hk
  have hp : 0 < s.size := Nat.lt_of_lt_of_le h0 hr
  rw [head_is s hp] at hd
  have HD : Hid (Lx.dig1 s[0].toNat = false) := hd
  clear hn hd hk
  go_enter Tryd.func26, Tryd.ntmps26
  go_wp2_with fail
  refine (rrun_any s _ hs).mono ?_
  rintro e w' ⟨rfl, rfl⟩
  rw [← HN.out]
  go_wp2_with fail
  refine (rdigit_any _ _).mono ?_
  rintro e w' ⟨rfl, rfl⟩
  rw [HD.out]
  go_wp2_with fail
  refine (rkeys _).mono ?_
  rintro e w1 ⟨b, rfl, hsa, b1⟩
  have HSA : Hid (Sa w1 b 0 keyB) := hsa
  clear hsa
  obtain ⟨⟨c0, c1, c2, c3⟩, ⟨f0, f1, f2, f3⟩, hz, hb⟩ := box_facts b1
  clear b1
  go_wp2_with fail
  refine (rin_keysB _ b _ HSA.out).mono ?_
  rintro e w' ⟨rfl, rfl⟩
  rw [HK.out]
  go_wp2_with fail
  refine bodyPost_ret (v := .tuple #[.agg #[.int .i64 3, .string (s.extract 0 n), .int .i64 0, .int .i64 0], .int .i64 n]) (by simp [results, Tryd.results26, go_sem, c0, c1, c2, c3]) rfl ⟨by rw [F.out, ← ext_str]; rfl, (((hb.setCell (Nat.le_refl _) _).setCell (Nat.le_refl _) _).setCell (Nat.le_refl _) _).setCell (Nat.le_refl _) _⟩
set_option maxRecDepth 100000 in
set_option maxHeartbeats 1000000 in
theorem rfirst_name (s : ByteArray) (w : World) (hs : s.size ≤ 1000000) (h0 : 0 < Lx.run Lx.inn1 s.data.toList) (hd : Lx.dig1 (s.data.toList.headD 0).toNat = false)
    (hk : Lx.isKey (s.data.toList.take (Lx.run Lx.inn1 s.data.toList)) = false) (hm : Lx.isName (s.data.toList.take (Lx.run Lx.inn1 s.data.toList)) = true) :
    Calls Tryd.prog 26 #[.string s] w fun e w' => e = .returned (rfV (rfirst s.data.toList)) ∧ Below w.heap.size w w' := by
  have hr := Lx.run_le Lx.inn1 s.data.toList
  rw [size_len'] at hr
  obtain ⟨n, hn⟩ : ∃ n, n = Lx.run Lx.inn1 s.data.toList := ⟨_, rfl⟩
  have HN : Hid (n = Lx.run Lx.inn1 s.data.toList) := hn
  rw [← hn] at hr h0 hk hm
  have F : Hid (rfirst s.data.toList = (⟨1, s.data.toList.take n, 0⟩, n)) := by
    unfold Hid rfirst; rw [if_pos (by omega), if_neg (by rw [hd]; exact Bool.false_ne_true), ← hn, if_neg (by rw [hk]; exact Bool.false_ne_true), if_pos hm]
  have HK : Hid (Lx.isKey (s.extract 0 n).data.toList = false) := by unfold Hid; rw [ext_list]; exact hk
  have HM : Hid (Lx.isName (s.extract 0 n).data.toList = true) := by unfold Hid; rw [ext_list]; exact hm
  have HZ : Hid ((s.extract 0 n).size ≤ 1000000) := by unfold Hid; rw [ByteArray.size_extract]; omega
  have hp : 0 < s.size := Nat.lt_of_lt_of_le h0 hr
  rw [head_is s hp] at hd
  have HD : Hid (Lx.dig1 s[0].toNat = false) := hd
  clear hn hd hk hm
  go_enter Tryd.func26, Tryd.ntmps26
  go_wp2_with fail
  refine (rrun_any s _ hs).mono ?_
  rintro e w' ⟨rfl, rfl⟩
  rw [← HN.out]
  go_wp2_with fail
  refine (rdigit_any _ _).mono ?_
  rintro e w' ⟨rfl, rfl⟩
  rw [HD.out]
  go_wp2_with fail
  refine (rkeys _).mono ?_
  rintro e w1 ⟨b, rfl, hsa, b1⟩
  have HSA : Hid (Sa w1 b 0 keyB) := hsa
  have B1 : Hid _ := b1
  clear hsa b1
  go_wp2_with fail
  refine (rin_keysB _ b _ HSA.out).mono ?_
  rintro e w' ⟨rfl, rfl⟩
  rw [HK.out]
  go_wp2_with fail
  refine (risName_any _ _ HZ.out).mono ?_
  rintro e w2 ⟨rfl, b2⟩
  rw [HM.out]
  obtain ⟨⟨c0, c1, c2, c3⟩, ⟨f0, f1, f2, f3⟩, hz, hb⟩ := box_facts (B1.out.trans (b2.mono B1.out.size))
  clear b2
  go_wp2_with fail
  refine bodyPost_ret (v := .tuple #[.agg #[.int .i64 1, .string (s.extract 0 n), .int .i64 0, .int .i64 0], .int .i64 n]) (by simp [results, Tryd.results26, go_sem, c0, c1, c2, c3]) rfl ⟨by rw [F.out, ← ext_str]; rfl, (((hb.setCell (Nat.le_refl _) _).setCell (Nat.le_refl _) _).setCell (Nat.le_refl _) _).setCell (Nat.le_refl _) _⟩

set_option maxRecDepth 100000 in
set_option maxHeartbeats 1000000 in
theorem rfirst_bad (s : ByteArray) (w : World) (hs : s.size ≤ 1000000) (h0 : 0 < Lx.run Lx.inn1 s.data.toList) (hd : Lx.dig1 (s.data.toList.headD 0).toNat = false)
    (hk : Lx.isKey (s.data.toList.take (Lx.run Lx.inn1 s.data.toList)) = false) (hm : Lx.isName (s.data.toList.take (Lx.run Lx.inn1 s.data.toList)) = false) :
    Calls Tryd.prog 26 #[.string s] w fun e w' => e = .returned (rfV (rfirst s.data.toList)) ∧ Below w.heap.size w w' := by
  have hr := Lx.run_le Lx.inn1 s.data.toList
  rw [size_len'] at hr
  obtain ⟨n, hn⟩ : ∃ n, n = Lx.run Lx.inn1 s.data.toList := ⟨_, rfl⟩
  have HN : Hid (n = Lx.run Lx.inn1 s.data.toList) := hn
  rw [← hn] at hr h0 hk hm
  have F : Hid (rfirst s.data.toList = (⟨0, [], 0⟩, 0)) := by
    unfold Hid rfirst; rw [if_pos (by omega), if_neg (by rw [hd]; exact Bool.false_ne_true), ← hn, if_neg (by rw [hk]; exact Bool.false_ne_true), if_neg (by rw [hm]; exact Bool.false_ne_true)]
  have HK : Hid (Lx.isKey (s.extract 0 n).data.toList = false) := by unfold Hid; rw [ext_list]; exact hk
  have HM : Hid (Lx.isName (s.extract 0 n).data.toList = false) := by unfold Hid; rw [ext_list]; exact hm
  have HZ : Hid ((s.extract 0 n).size ≤ 1000000) := by unfold Hid; rw [ByteArray.size_extract]; omega
  have hp : 0 < s.size := Nat.lt_of_lt_of_le h0 hr
  have hnb : ((n : Int) == 0) = false := beq_eq_false_iff_ne.2 (by omega)
  rw [head_is s hp] at hd
  have HD : Hid (Lx.dig1 s[0].toNat = false) := hd
  clear hn hd hk hm
  go_enter Tryd.func26, Tryd.ntmps26
  go_wp2_with fail
  refine (rrun_any s _ hs).mono ?_
  rintro e w' ⟨rfl, rfl⟩
  rw [← HN.out]
  go_wp2_with fail
  refine (rdigit_any _ _).mono ?_
  rintro e w' ⟨rfl, rfl⟩
  rw [HD.out]
  go_wp2_with fail
  refine (rkeys _).mono ?_
  rintro e w1 ⟨b, rfl, hsa, b1⟩
  have HSA : Hid (Sa w1 b 0 keyB) := hsa
  have B1 : Hid _ := b1
  clear hsa b1
  go_wp2_with fail
  refine (rin_keysB _ b _ HSA.out).mono ?_
  rintro e w' ⟨rfl, rfl⟩
  rw [HK.out]
  go_wp2_with fail
  refine (risName_any _ _ HZ.out).mono ?_
  rintro e w2 ⟨rfl, b2⟩
  rw [HM.out]
  have B3 : Hid _ := B1.out.trans (b2.mono B1.out.size)
  clear b2
  go_wp2_with fail
  go_loopw [8] (fun i wr => ∃ k : Nat, k ≤ 2 ∧ i = .int .i64 k ∧ Below (w.alloc (.cells #[.int .i64 0, .string ⟨#[]⟩, .int .i64 0, .int .i64 0] 33)).heap.size (w.alloc (.cells #[.int .i64 0, .string ⟨#[]⟩, .int .i64 0, .int .i64 0] 33)) wr) (fun i _ => (intOf i).toNat)
  case atStart => exact ⟨2, by omega, rfl, B3.out⟩
  case round =>
    obtain ⟨k, hk, rfl, hbx⟩ := hrel
    by_cases hk0 : 0 < k
    · have BX : Hid _ := hbx
      clear hbx
      go_wp2_with fail
      go_quiet (fail)
      have B2 : Hid _ := below_drewN BX.out nq
      generalize wr.drewN nq = wq at B2 ⊢
      go_wp2_with fail
      go_roundw
      case rel => exact ⟨k - 1, by omega, by go_num, B2.out⟩
      case measure => simp [intOf]; omega
    · obtain ⟨⟨c0, c1, c2, c3⟩, ⟨f0, f1, f2, f3⟩, hz, hb⟩ := box_facts hbx
      clear hbx
      go_wp2_with fail
      refine bodyPost_ret (v := .tuple #[.agg #[.int .i64 0, .string ⟨#[]⟩, .int .i64 0, .int .i64 0], .int .i64 0]) (by simp [results, Tryd.results26, go_sem, c0, c1, c2, c3]) rfl ⟨by rw [F.out]; rfl, (((hb.setCell (Nat.le_refl _) _).setCell (Nat.le_refl _) _).setCell (Nat.le_refl _) _).setCell (Nat.le_refl _) _⟩

/-- What First answers of a text that begins with no letter, digit or _. -/
theorem rfirst_zero {l : List UInt8} (h : Lx.run Lx.inn1 l = 0) : rfirst l = if 2 ≤ l.length ∧ Lx.isSign (l.take 2) = true then (⟨4, l.take 2, 0⟩, 2)
  else if 1 ≤ l.length ∧ Lx.isSign (l.take 1) = true then (⟨4, l.take 1, 0⟩, 1) else (⟨0, [], 0⟩, 0) := by unfold rfirst; rw [if_neg (by omega)]
theorem rfirst_found {l : List UInt8} {z : Nat} (h : Lx.run Lx.inn1 l = 0) (h0 : 0 < z) (h2 : z ≤ 2) (hl : z ≤ l.length) (hs : Lx.isSign (l.take z) = true) (hn : ∀ y, z < y → y ≤ 2 → ¬ (y ≤ l.length ∧ Lx.isSign (l.take y) = true)) : rfirst l = (⟨4, l.take z, 0⟩, z) := by
  rw [rfirst_zero h]
  by_cases e : z = 2
  · subst e; rw [if_pos ⟨hl, hs⟩]
  · obtain rfl : z = 1 := by omega
    rw [if_neg (hn 2 (by omega) (by omega)), if_pos ⟨hl, hs⟩]
theorem rfirst_lost {l : List UInt8} (h : Lx.run Lx.inn1 l = 0) (hn : ∀ y, 0 < y → y ≤ 2 → ¬ (y ≤ l.length ∧ Lx.isSign (l.take y) = true)) : rfirst l = (⟨0, [], 0⟩, 0) := by
  rw [rfirst_zero h, if_neg (hn 2 (by omega) (by omega)), if_neg (hn 1 (by omega) (by omega))]

end Go.Proofs.YtdjpjoipdlfooaaDoor
