/- NumJoined: for any texts and any text, the text's words joined are the text, and the words of joined texts are those texts, where there are any and none has a blank; and the fixed calls come out true. -/
import Derived.Test.YtdfcmecgefckdabDoorWordsB
namespace Go.Proofs.YtdfcmecgefckdabDoor
open Go.RowKit

theorem str_back (s : ByteArray) : (⟨s.data.toList.toArray⟩ : ByteArray) = s := by
  obtain ⟨⟨l⟩⟩ := s; rfl
theorem size_len (s : ByteArray) : s.data.toList.length = s.size := by rw [Array.length_toList, ByteArray.size_data]

/-- What is joined there is the text s. -/
structure Joins (v : Value) (s : ByteArray) (w1 : World) : Prop where
  run : Calls Tryd.prog 18 #[v] w1 fun e w2 => e = .returned (.string s) ∧ Below w1.heap.size w1 w2
/-- A text's words, joined, are the text. -/
def Back (s : ByteArray) (w : World) : Prop := Calls Tryd.prog 19 #[.string s] w fun e w1 => ∃ v, e = .returned v ∧ Below w.heap.size w w1 ∧ Joins v s w1
theorem back_any (s : ByteArray) (w : World) (hs : s.size ≤ 3000) (hm : Mx w) : Back s w := by
  by_cases h0 : s.size = 0
  · refine (words_none s w h0).mono ?_
    rintro e w1 ⟨rfl, rfl⟩
    refine ⟨_, rfl, Below.refl _ _, ⟨(join_none none 0 _).mono ?_⟩⟩
    rintro e w2 ⟨rfl, rfl⟩
    refine ⟨?_, Below.refl _ _⟩
    have : s.data.toList = [] := by rw [← List.length_eq_zero_iff, size_len]; exact h0
    rw [← str_back s, this]
  · refine (words_some s w hs (by omega) hm).mono ?_
    rintro e w1 ⟨b, xs, rfl, sa, hx, hb⟩
    have hj : Lib.join (xs.map (·.data.toList)) [32] = s.data.toList := by rw [hx, Pl.join_ws]
    have hl := Pl.ws_len s.data.toList
    rw [← hx, List.length_map, size_len] at hl
    refine ⟨_, rfl, hb, ⟨(join_core b 0 xs.length xs w1 sa (by rw [hj, size_len]; exact hs) (by omega) (Nat.le_refl _)).mono ?_⟩⟩
    rintro e w2 ⟨rfl, hb2⟩
    refine ⟨?_, hb2⟩
    rw [hj, str_back]

set_option maxHeartbeats 400000 in
theorem joined_long1 (s : ByteArray) (v : Value) (w : World) (ht : Tab w) (hs : s.size ≤ 140737488351232) (hl : longB [s] = true) :
    Calls Tryd.prog 5 #[v, .string s] w fun e w' => e = .returned (.bool true) ∧ Below w.heap.size w w' := by
  have HT : Hid (Tab w) := ht
  clear ht
  have b0 : Below w.heap.size w (w.alloc (.cells #[.string s] 9)) := (Below.refl _ _).alloc (Nat.le_refl _) _
  go_enter Tryd.func5, Tryd.ntmps5
  go_wp2_with fail
  refine (long_one s w hs _).mono ?_
  rintro e w1 ⟨rfl, rfl⟩
  go_wp2_with fail
  refine (known_any _ (HT.out.later b0 (Nat.le_refl _))).mono ?_
  rintro e w4 ⟨rfl, b4⟩
  go_wp2
  go_ret
  exact ⟨rfl, b0.trans (b4.mono b0.size)⟩

set_option maxHeartbeats 400000 in
theorem joined_long2 (s : ByteArray) (v : Value) (xs : List ByteArray) (w : World) (ht : Tab w) (hs : s.size ≤ 140737488351232) (hl : longB [s] = false) (ha : Arg w v xs) (hl2 : longB xs = true) :
    Calls Tryd.prog 5 #[v, .string s] w fun e w' => e = .returned (.bool true) ∧ Below w.heap.size w w' := by
  have HT : Hid (Tab w) := ht
  have HA : Hid (Arg w v xs) := ha
  clear ht ha
  have b0 : Below w.heap.size w (w.alloc (.cells #[.string s] 9)) := (Below.refl _ _).alloc (Nat.le_refl _) _
  go_enter Tryd.func5, Tryd.ntmps5
  go_wp2_with fail
  refine (long_one s w hs _).mono ?_
  rintro e w1 ⟨rfl, rfl⟩
  go_wp2_with fail
  refine (HA.out.long _ b0).mono ?_
  rintro e w1 ⟨rfl, rfl⟩
  go_wp2_with fail
  refine (known_any _ (HT.out.later b0 (Nat.le_refl _))).mono ?_
  rintro e w4 ⟨rfl, b4⟩
  go_wp2
  go_ret
  exact ⟨rfl, b0.trans (b4.mono b0.size)⟩

set_option maxRecDepth 100000 in
set_option maxHeartbeats 800000 in
theorem joined_none (s : ByteArray) (a : Option Addr) (cap : Nat) (w : World) (ht : Tab w) (hm : Mx w) (hs : s.size ≤ 140737488351232) (hl : longB [s] = false) :
    Calls Tryd.prog 5 #[.slice a 0 cap, .string s] w fun e w' => e = .returned (.bool true) ∧ Below w.heap.size w w' := by
  have HT : Hid (Tab w) := ht
  have HM : Hid (Mx w) := hm
  have hs3 := short_size hl
  clear ht hm
  have b0 : Below w.heap.size w (w.alloc (.cells #[.string s] 9)) := (Below.refl _ _).alloc (Nat.le_refl _) _
  go_enter Tryd.func5, Tryd.ntmps5
  go_wp2_with fail
  refine (long_one s w hs _).mono ?_
  rintro e w1 ⟨rfl, rfl⟩
  go_wp2_with fail
  refine (long_none a cap _).mono ?_
  rintro e w1 ⟨rfl, rfl⟩
  go_wp2_with fail
  refine (back_any s _ hs3 (HM.out.later b0)).mono ?_
  rintro e w1 ⟨v, rfl, b1, hj⟩
  have HJ : Hid (Joins v s w1) := hj
  clear hj
  have hb1 := b0.trans (b1.mono b0.size)
  have hz1 := Nat.le_trans b0.size b1.size
  clear b1
  go_wp2_with fail
  refine HJ.out.run.mono ?_
  rintro e w2 ⟨rfl, b2⟩
  have hb2 := hb1.trans (b2.mono hz1)
  have hz2 := Nat.le_trans hz1 b2.size
  clear b2 hb1 hz1 HJ
  go_wp2_with fail
  refine wp_loop_rounds 1 ?_
  rw [rounds_succ]
  go_wp2_with fail
  refine (join_none a cap _).mono ?_
  rintro e w3 ⟨rfl, rfl⟩
  go_wp2_with fail
  refine (words_none _ _ rfl).mono ?_
  rintro e w3 ⟨rfl, rfl⟩
  go_wp2_with fail
  refine (known_any _ (HT.out.later hb2 (Nat.le_refl _))).mono ?_
  rintro e w4 ⟨rfl, b4⟩
  go_wp2
  go_ret
  exact ⟨rfl, hb2.trans (b4.mono hz2)⟩

theorem byte_at {t : ByteArray} {m : Nat} (h : m < t.size) : t.data.toList[m]? = some t[m] := by
  rw [List.getElem?_eq_getElem (by rw [size_len]; exact h)]; rfl
theorem no_blank {t : ByteArray} (h : ∀ j (hj : j < t.size), ¬ (t[j].toNat : Int) = 32) : 32 ∉ t.data.toList := by
  intro e
  obtain ⟨j, hj, he⟩ := List.mem_iff_getElem.1 e
  have hj' : j < t.size := by rw [← size_len]; exact hj
  apply h j hj'
  have h2 := byte_at hj'
  rw [List.getElem?_eq_getElem hj, he] at h2
  rw [← Option.some.inj h2]; rfl

set_option maxRecDepth 100000 in
set_option maxHeartbeats 1000000 in
theorem joined_some (s : ByteArray) (b o cap : Nat) (xs : List ByteArray) (w : World) (ht : Tab w) (hm : Mx w) (hs : s.size ≤ 140737488351232) (hl : longB [s] = false) (ha : Arg w (.slice (some ⟨b, o, none⟩) xs.length cap) xs) (hx : Sa w b o xs) (hl2 : longB xs = false) (hne : 0 < xs.length) :
    Calls Tryd.prog 5 #[.slice (some ⟨b, o, none⟩) xs.length cap, .string s] w fun e w' => e = .returned (.bool true) ∧ Below w.heap.size w w' := by
  have HT : Hid (Tab w) := ht
  have HM : Hid (Mx w) := hm
  have HA : Hid (Arg w (.slice (some ⟨b, o, none⟩) xs.length cap) xs) := ha
  have HX : Hid (Sa w b o xs) := hx
  have hs3 := short_size hl
  have hlen : xs.length ≤ 3000 := by have := len_le_tot xs xs.length (Nat.le_refl _); have := tot_of_long hl2; omega
  have HZ : Hid (∀ k, k < xs.length → (xs.getD k ByteArray.empty).size ≤ 3000) := by
    intro k hk
    have h1 := tot_mono xs (k + 1) xs.length hk
    rw [tot_succ xs k hk] at h1
    have := tot_of_long hl2
    omega
  clear ht hm ha hx
  have b0 : Below w.heap.size w (w.alloc (.cells #[.string s] 9)) := (Below.refl _ _).alloc (Nat.le_refl _) _
  go_enter Tryd.func5, Tryd.ntmps5
  go_wp2_with fail
  refine (long_one s w hs _).mono ?_
  rintro e w1 ⟨rfl, rfl⟩
  go_wp2_with fail
  refine (HA.out.long _ b0).mono ?_
  rintro e w1 ⟨rfl, rfl⟩
  go_wp2_with fail
  refine (back_any s _ hs3 (HM.out.later b0)).mono ?_
  rintro e w1 ⟨v, rfl, b1, hj⟩
  have HJ : Hid (Joins v s w1) := hj
  clear hj
  have hb1 := b0.trans (b1.mono b0.size)
  have hz1 := Nat.le_trans b0.size b1.size
  clear b1
  go_wp2_with fail
  refine HJ.out.run.mono ?_
  rintro e w2 ⟨rfl, b2⟩
  have hb2 := hb1.trans (b2.mono hz1)
  have hz2 := Nat.le_trans hz1 b2.size
  have X2 : Hid (Sa w2 b o xs) := HX.out.later hb2
  clear b2 hb1 hz1 HJ b0
  go_wp2_with fail
  go_loop [5] (fun i => ∃ k : Nat, k ≤ xs.length ∧ i = .int .i64 k ∧ Hid (∀ j, j < k → 32 ∉ (xs.getD j ByteArray.empty).data.toList)) (fun i => xs.length - (intOf i).toNat)
  case atStart => exact ⟨0, by omega, rfl, fun j hj => absurd hj (Nat.not_lt_zero _)⟩
  case round =>
    obtain ⟨k, hk, rfl, N⟩ := hrel
    by_cases hlt : k < xs.length
    · obtain ⟨t, hteq⟩ : ∃ t, t = xs.getD k ByteArray.empty := ⟨_, rfl⟩
      have hA : w2.cell? ⟨b, o + k, none⟩ = some (.string t) := by rw [hteq]; exact X2.out.get k hlt
      have htz : t.size ≤ 3000 := by rw [hteq]; exact HZ.out k hlt
      have HQ : Hid (t = xs.getD k ByteArray.empty) := hteq
      clear hteq
      go_wp2_with fail
      go_loop [6] (fun q => ∃ m : Nat, m ≤ t.size ∧ q = .int .i64 m ∧ Hid (∀ j (hj : j < t.size), j < m → ¬ (t[j].toNat : Int) = 32)) (fun q => t.size - (intOf q).toNat)
      case atStart => exact ⟨0, by omega, rfl, fun j _ hj => absurd hj (Nat.not_lt_zero _)⟩
      case round =>
        obtain ⟨m, hm, rfl, NB⟩ := hrel
        by_cases hmt : m < t.size
        · by_cases h32 : (t[m].toNat : Int) = 32
          · have h32b : ((t[m].toNat : Int) == 32) = true := by rw [h32]; rfl
            clear h32
            go_wp2_with fail
            refine (known_any _ (HT.out.later hb2 (Nat.le_refl _))).mono ?_
            rintro e w4 ⟨rfl, b4⟩
            go_wp2
            go_ret
            exact ⟨rfl, hb2.trans (b4.mono hz2)⟩
          · have h32b : ((t[m].toNat : Int) == 32) = false := by simpa using h32
            have NB' : Hid (∀ j (hj : j < t.size), j < m + 1 → ¬ (t[j].toNat : Int) = 32) := fun j hj hjm => by
              by_cases e : j = m
              · subst e; exact h32
              · exact NB.out j hj (by omega)
            clear h32
            go_wp2_with fail
            exact ⟨⟨m + 1, by omega, by go_num, NB'⟩, by simp [intOf]; omega⟩
        · have N' : Hid (∀ j, j < k + 1 → 32 ∉ (xs.getD j ByteArray.empty).data.toList) := fun j hj => by
            by_cases e : j = k
            · subst e; rw [← HQ.out]; exact no_blank (fun i hi => NB.out i hi (by omega))
            · exact N.out j (by omega)
          go_wp2_with fail
          exact ⟨⟨k + 1, by omega, by go_num, N'⟩, by simp [intOf]; omega⟩
    · obtain rfl : k = xs.length := by omega
      have HL : Hid ((Lib.join (xs.map (·.data.toList)) [32]).length ≤ 3000) := by
        have := join_len xs xs.length (Nat.le_refl _)
        rw [List.take_of_length_le (Nat.le_refl _)] at this
        have := tot_of_long hl2
        unfold Hid
        omega
      have HW : Hid (Pl.ws (Lib.join (xs.map (·.data.toList)) [32]) = xs.map (·.data.toList)) := by
        refine Pl.ws_join _ (fun e => by have := congrArg List.length e; rw [List.length_map, List.length_nil] at this; omega) (fun x hx => ?_)
        obtain ⟨y, hy, rfl⟩ := List.mem_map.1 hx
        obtain ⟨j, hj, rfl⟩ := List.mem_iff_getElem.1 hy
        have := N.out j hj
        rwa [List.getD_eq_getElem?_getD, List.getElem?_eq_getElem hj] at this
      have l0 : ((xs.length : Int) == 0) = false := beq_eq_false_iff_ne.2 (by omega)
      obtain ⟨t, hteq⟩ : ∃ t, t = xs.getD 0 ByteArray.empty := ⟨_, rfl⟩
      have hA : w2.cell? ⟨b, o, none⟩ = some (.string t) := by rw [hteq]; exact X2.out.get 0 hne
      have HQ : Hid (t = xs.getD 0 ByteArray.empty) := hteq
      clear hteq
      by_cases h1 : xs.length = 1 ∧ t.size = 0
      · obtain ⟨h1, h2⟩ := h1
        have l1 : ((xs.length : Int) == 1) = true := beq_iff_eq.2 (by omega)
        have hte : t.toList.isEmpty = true := by
          have : t.toList = [] := by rw [ByteArray.toList_eq, ← List.length_eq_zero_iff, size_len]; exact h2
          rw [this]; rfl
        have HE : Hid (Lib.join (xs.map (·.data.toList)) [32] = []) := by
          obtain ⟨x, rfl⟩ := List.length_eq_one_iff.1 h1
          have hx : x = t := HQ.out.symm
          unfold Hid
          rw [List.map_cons, List.map_nil, Lib.join_one, ← List.length_eq_zero_iff, size_len, hx]; exact h2
        have H1 : Hid (xs.length = 1) := h1
        clear h1 h2
        go_wp2_with fail
        refine (HA.out.join hl2 _ hb2).mono ?_
        rintro e w3 ⟨rfl, b3⟩
        have hb3 := hb2.trans (b3.mono hz2)
        have hz3 := Nat.le_trans hz2 b3.size
        clear b3 hb2 hz2 X2
        rw [HE.out]
        go_wp2_with fail
        refine (words_none _ _ rfl).mono ?_
        rintro e w4 ⟨rfl, rfl⟩
        go_wp2_with fail
        refine (known_any _ (HT.out.later hb3 (Nat.le_refl _))).mono ?_
        rintro e w4 ⟨rfl, b4⟩
        go_wp2
        go_ret
        exact ⟨rfl, hb3.trans (b4.mono hz3)⟩
      · have HJ0 : Hid (0 < (Lib.join (xs.map (·.data.toList)) [32]).length) := by
          rcases Nat.eq_zero_or_pos (Lib.join (xs.map (·.data.toList)) [32]).length with e | e
          · exfalso
            have h2 := HW.out
            rw [List.length_eq_zero_iff.1 e] at h2
            have h3 := congrArg List.length h2
            rw [List.length_map] at h3
            have h4 : xs.length = 1 := h3.symm
            obtain ⟨x, rfl⟩ := List.length_eq_one_iff.1 h4
            have hx : t = x := HQ.out
            have h5 : x.data.toList = [] := by
              have := List.cons.inj h2
              exact this.1.symm
            exact h1 ⟨rfl, by rw [hx, ← size_len, h5]; rfl⟩
          · exact e
        obtain ⟨J, hJ⟩ : ∃ J : ByteArray, J = ⟨(Lib.join (xs.map (·.data.toList)) [32]).toArray⟩ := ⟨_, rfl⟩
        have hJl : J.data.toList = Lib.join (xs.map (·.data.toList)) [32] := by rw [hJ]
        have hJ0 : 0 < J.size := by rw [← size_len, hJl]; exact HJ0.out
        have hJ3 : J.size ≤ 3000 := by rw [← size_len, hJl]; exact HL.out
        have HJW : Hid (Pl.ws J.data.toList = xs.map (·.data.toList)) := by unfold Hid; rw [hJl]; exact HW.out
        have HJJ : Hid (J = ⟨(Lib.join (xs.map (·.data.toList)) [32]).toArray⟩) := hJ
        clear hJ hJl HJ0 HL HW
        rcases (by omega : (xs.length = 1 ∧ 0 < t.size) ∨ 2 ≤ xs.length) with ⟨h3, h4⟩ | h3
        · have l1 : ((xs.length : Int) == 1) = true := beq_iff_eq.2 (by omega)
          have hte2 : ¬ t.toList = [] := by rw [ByteArray.toList_eq, ← List.length_eq_zero_iff, size_len]; omega
          have hte : t.toList.isEmpty = false := by simpa using hte2
          clear h1 h3 h4
          go_wp2_with fail
          refine (HA.out.join hl2 _ hb2).mono ?_
          rintro e w3 ⟨rfl, b3⟩
          rw [← HJJ.out]
          have hb3 := hb2.trans (b3.mono hz2)
          have hz3 := Nat.le_trans hz2 b3.size
          have X3 : Hid (Sa w3 b o xs) := X2.out.later b3
          clear b3 hb2 hz2 X2 hA
          go_wp2_with fail
          refine (words_some J w3 hJ3 hJ0 (HM.out.later hb3)).mono ?_
          rintro e w4 ⟨g4, ys, rfl, s4, m4, b4⟩
          have HY : Hid (ys = xs) := Pl.map_inj (m4.trans HJW.out)
          rw [HY.out]
          have S4 : Hid (Sa w4 g4 0 xs) := by rw [← HY.out]; exact s4
          have hb4 := hb3.trans (b4.mono hz3)
          have hz4 := Nat.le_trans hz3 b4.size
          have X4 : Hid (Sa w4 b o xs) := X3.out.later b4
          clear b4 hb3 hz3 X3 s4 m4 HY
          go_wp2_with fail
          refine (same_true g4 0 _ b o _ xs w4 S4.out X4.out (by omega)).mono ?_
          rintro e w5 ⟨rfl, b5⟩
          have hb5 := hb4.trans (b5.mono hz4)
          have hz5 := Nat.le_trans hz4 b5.size
          clear b5 hb4 hz4 S4 X4
          go_wp2_with fail
          refine (known_any _ (HT.out.later hb5 (Nat.le_refl _))).mono ?_
          rintro e w6 ⟨rfl, b6⟩
          go_wp2
          go_ret
          exact ⟨rfl, hb5.trans (b6.mono hz5)⟩
        · have l1 : ((xs.length : Int) == 1) = false := beq_eq_false_iff_ne.2 (by omega)
          clear h1
          go_wp2_with fail
          refine (HA.out.join hl2 _ hb2).mono ?_
          rintro e w3 ⟨rfl, b3⟩
          rw [← HJJ.out]
          have hb3 := hb2.trans (b3.mono hz2)
          have hz3 := Nat.le_trans hz2 b3.size
          have X3 : Hid (Sa w3 b o xs) := X2.out.later b3
          clear b3 hb2 hz2 X2 hA
          go_wp2_with fail
          refine (words_some J w3 hJ3 hJ0 (HM.out.later hb3)).mono ?_
          rintro e w4 ⟨g4, ys, rfl, s4, m4, b4⟩
          have HY : Hid (ys = xs) := Pl.map_inj (m4.trans HJW.out)
          rw [HY.out]
          have S4 : Hid (Sa w4 g4 0 xs) := by rw [← HY.out]; exact s4
          have hb4 := hb3.trans (b4.mono hz3)
          have hz4 := Nat.le_trans hz3 b4.size
          have X4 : Hid (Sa w4 b o xs) := X3.out.later b4
          clear b4 hb3 hz3 X3 s4 m4 HY
          go_wp2_with fail
          refine (same_true g4 0 _ b o _ xs w4 S4.out X4.out (by omega)).mono ?_
          rintro e w5 ⟨rfl, b5⟩
          have hb5 := hb4.trans (b5.mono hz4)
          have hz5 := Nat.le_trans hz4 b5.size
          clear b5 hb4 hz4 S4 X4
          go_wp2_with fail
          refine (known_any _ (HT.out.later hb5 (Nat.le_refl _))).mono ?_
          rintro e w6 ⟨rfl, b6⟩
          go_wp2
          go_ret
          exact ⟨rfl, hb5.trans (b6.mono hz5)⟩

theorem joined_walk_none (s : ByteArray) (a : Option Addr) (cap : Nat) (w : World) (ht : Tab w) (hm : Mx w) (hs : s.size ≤ 140737488351232) :
    Calls Tryd.prog 5 #[.slice a 0 cap, .string s] w fun e w' => e = .returned (.bool true) ∧ Below w.heap.size w w' := by
  cases hl : longB [s] with
  | true => exact joined_long1 s _ w ht hs hl
  | false => exact joined_none s a cap w ht hm hs hl
theorem joined_walk_some (s : ByteArray) (b o cap : Nat) (xs : List ByteArray) (w : World) (ht : Tab w) (hm : Mx w) (hs : s.size ≤ 140737488351232) (ha : Arg w (.slice (some ⟨b, o, none⟩) xs.length cap) xs) (hx : Sa w b o xs) (hne : 0 < xs.length) :
    Calls Tryd.prog 5 #[.slice (some ⟨b, o, none⟩) xs.length cap, .string s] w fun e w' => e = .returned (.bool true) ∧ Below w.heap.size w w' := by
  cases hl : longB [s] with
  | true => exact joined_long1 s _ w ht hs hl
  | false =>
    cases hl2 : longB xs with
    | true => exact joined_long2 s _ xs w ht hs hl ha hl2
    | false => exact joined_some s b o cap xs w ht hm hs hl ha hx hl2 hne
end Go.Proofs.YtdfcmecgefckdabDoor
