/- NumWords: for any text and any texts, num's words of the one and join of the others are the reference's; and the fixed calls come out true. -/
import Derived.Test.YtdfcmecgefckdaaDoorStrs
namespace Go.Proofs.YtdfcmecgefckdaaDoor
open Go.RowKit

/-- The library's own variable holds some number. -/
def Mx (w : World) : Prop := ∃ m : Int, w.cell? ⟨1, 0, none⟩ = some (.int .i64 m)
theorem Mx.lt {w : World} (h : Mx w) : 1 < w.heap.size := by obtain ⟨m, hm⟩ := h; exact World.block_lt_of_cell? w _ hm
theorem Mx.later {w w' : World} (h : Mx w) (hb : Below w.heap.size w w') : Mx w' := by
  have hl := h.lt
  obtain ⟨m, hm⟩ := h
  exact ⟨m, (hb.cell (p := ⟨1, 0, none⟩) hl).trans hm⟩

theorem splitB_len (s : ByteArray) : (Lib.splitB ⟨#[32]⟩ 0 (Lib.countB s ⟨#[32]⟩) s).length = Lib.countB s ⟨#[32]⟩ + 1 ∧ (Lib.splitB ⟨#[32]⟩ 0 (Lib.countB s ⟨#[32]⟩) s).map (·.data.toList) = Pl.ws s.data.toList := by
  have h := Lib.splitB_data ⟨#[32]⟩ 0 (Lib.countB s ⟨#[32]⟩) s
  have h2 : Lib.splitK [32] 0 (Lib.count s.data.toList [32]) s.data.toList = Pl.ws s.data.toList := Pl.split_ws s.data.toList
  have h3 : (Lib.splitB ⟨#[32]⟩ 0 (Lib.countB s ⟨#[32]⟩) s).map (·.data.toList) = Pl.ws s.data.toList := h.trans h2
  refine ⟨?_, h3⟩
  have := congrArg List.length h3
  rw [List.length_map] at this
  rw [this]
  exact (Pl.count_ws s.data.toList).symm

theorem cells_new (w : World) (xs : List ByteArray) (t : TypeId) : Sa (w.alloc (.cells (xs.map Value.string).toArray t)) w.heap.size 0 xs := by
  refine ⟨by simp, fun j hj => ?_⟩
  rw [World.cell?_alloc_at _ _ _ _ rfl]
  simp [hj]

set_option maxHeartbeats 400000 in
theorem words_some (s : ByteArray) (w : World) (hs : s.size ≤ 3000) (h0 : 0 < s.size) (hm : Mx w) :
    Calls Tryd.prog 28 #[.string s] w fun e w' => ∃ (b : Nat) (xs : List ByteArray), e = .returned (.slice (some ⟨b, 0, none⟩) xs.length xs.length) ∧ Sa w' b 0 xs ∧ xs.map (·.data.toList) = Pl.ws s.data.toList ∧ Below w.heap.size w w' := by
  have hne : ¬ s.toList = [] := by
    rw [ByteArray.toList_eq, ← List.length_eq_zero_iff, Array.length_toList, ByteArray.size_data]; omega
  have hem : s.toList.isEmpty = false := by simpa using hne
  obtain ⟨m, hm⟩ := hm
  have HM : Hid (w.cell? ⟨1, 0, none⟩ = some (.int .i64 m)) := hm
  have HB : Hid _ := splitB_len s
  clear hm
  go_enter Tryd.func28, Tryd.ntmps28
  go_wp2_with fail
  refine (Tryd.strings_Split s ⟨#[32]⟩ m w (by omega) HM.out (by decide)).mono ?_
  rintro e w1 ⟨rfl, rfl⟩
  rw [← HB.out.1]
  go_wp2
  go_ret
  exact ⟨w.heap.size, _, rfl, cells_new w _ _, HB.out.2, (Below.refl _ _).alloc (Nat.le_refl _) _⟩
set_option maxHeartbeats 400000 in
theorem words_none (s : ByteArray) (w : World) (h0 : s.size = 0) : Calls Tryd.prog 28 #[.string s] w fun e w' => e = .returned (.slice none 0 0) ∧ w' = w := by
  have hne : s.toList = [] := by
    rw [ByteArray.toList_eq, ← List.length_eq_zero_iff, Array.length_toList, ByteArray.size_data]; exact h0
  have hem : s.toList.isEmpty = true := by rw [hne]; rfl
  clear hne
  go_enter Tryd.func28, Tryd.ntmps28
  go_wp2
  go_ret
  exact ⟨rfl, rfl⟩

/-- What is asked of an argument that is a slice of texts: its calls, in every later world. -/
structure Arg (w : World) (v : Value) (xs : List ByteArray) : Prop where
  long : ∀ w', Below w.heap.size w w' → Calls Tryd.prog 22 #[v] w' fun e w'' => e = .returned (.bool (longB xs)) ∧ w'' = w'
  join : longB xs = false → ∀ w', Below w.heap.size w w' → Calls Tryd.prog 30 #[v] w' fun e w'' => e = .returned (.string ⟨(Lib.join (xs.map (·.data.toList)) [32]).toArray⟩) ∧ Below w'.heap.size w' w''
  rjoin : longB xs = false → ∀ w', Below w.heap.size w w' → Calls Tryd.prog 31 #[v] w' fun e w'' => e = .returned (.string ⟨(Lib.join (xs.map (·.data.toList)) [32]).toArray⟩) ∧ w'' = w'

theorem tot_of_long {xs : List ByteArray} (h : longB xs = false) : tot xs xs.length ≤ 3000 := by
  have := of_decide_eq_false h
  omega
theorem len_le_tot (xs : List ByteArray) : ∀ k, k ≤ xs.length → k ≤ tot xs k
  | 0, _ => Nat.zero_le _
  | k + 1, h => by
    have := len_le_tot xs k (by omega)
    rw [tot_succ xs k (by omega)]
    omega
theorem arg_none (w : World) (a : Option Addr) (cap : Nat) : Arg w (.slice a 0 cap) [] where
  long := fun w' _ => (long_none a cap w').mono (by rintro e w'' ⟨rfl, rfl⟩; exact ⟨rfl, rfl⟩)
  join := fun _ w' _ => (join_none a cap w').mono (by rintro e w'' ⟨rfl, rfl⟩; exact ⟨rfl, Below.refl _ _⟩)
  rjoin := fun _ w' _ => (rjoin_none a cap w').mono (by rintro e w'' ⟨rfl, rfl⟩; exact ⟨rfl, rfl⟩)
theorem arg_some (w : World) (b o cap : Nat) (xs : List ByteArray) (h : Sa w b o xs) (hc : xs.length ≤ cap) (hlen : xs.length ≤ 140737488351232) (hsz : ∀ x ∈ xs, x.size ≤ 140737488351232) : Arg w (.slice (some ⟨b, o, none⟩) xs.length cap) xs where
  long := fun w' hb => long_any b o cap xs w' hlen hsz (h.later hb).get
  join := fun hl w' hb => join_any b o cap xs w' (h.later hb) (tot_of_long hl) (by have := len_le_tot xs xs.length (Nat.le_refl _); have := tot_of_long hl; omega) hc
  rjoin := fun hl w' hb => rjoin_any b o cap xs w' (h.later hb) (tot_of_long hl) (by have := len_le_tot xs xs.length (Nat.le_refl _); have := tot_of_long hl; omega)

theorem short_size {s : ByteArray} (h : longB [s] = false) : s.size ≤ 3000 := by
  have := tot_of_long h
  simp [tot] at this
  omega

set_option maxHeartbeats 400000 in
theorem words_long1 (s : ByteArray) (v : Value) (w : World) (ht : Tab w) (hs : s.size ≤ 140737488351232) (hl : longB [s] = true) :
    Calls Tryd.prog 7 #[.string s, v] w fun e w' => e = .returned (.bool true) ∧ Below w.heap.size w w' := by
  have HT : Hid (Tab w) := ht
  clear ht
  have b0 : Below w.heap.size w (w.alloc (.cells #[.string s] 9)) := (Below.refl _ _).alloc (Nat.le_refl _) _
  go_enter Tryd.func7, Tryd.ntmps7
  go_wp2_with fail
  refine (long_one s w hs _).mono ?_
  rintro e w1 ⟨rfl, rfl⟩
  go_wp2_with fail
  refine (known_any _ (HT.out.later b0 (Nat.le_refl _))).mono ?_
  rintro e w4 ⟨rfl, b4⟩
  go_wp2
  go_ret
  exact ⟨rfl, b0.trans (b4.mono b0.size)⟩

set_option maxHeartbeats 400000 in
theorem words_long2 (s : ByteArray) (v : Value) (xs : List ByteArray) (w : World) (ht : Tab w) (hs : s.size ≤ 140737488351232) (hl : longB [s] = false) (ha : Arg w v xs) (hl2 : longB xs = true) :
    Calls Tryd.prog 7 #[.string s, v] w fun e w' => e = .returned (.bool true) ∧ Below w.heap.size w w' := by
  have HT : Hid (Tab w) := ht
  have HA : Hid (Arg w v xs) := ha
  clear ht ha
  have b0 : Below w.heap.size w (w.alloc (.cells #[.string s] 9)) := (Below.refl _ _).alloc (Nat.le_refl _) _
  go_enter Tryd.func7, Tryd.ntmps7
  go_wp2_with fail
  refine (long_one s w hs _).mono ?_
  rintro e w1 ⟨rfl, rfl⟩
  go_wp2_with fail
  refine (HA.out.long _ b0).mono ?_
  rintro e w1 ⟨rfl, rfl⟩
  go_wp2_with fail
  refine (known_any _ (HT.out.later b0 (Nat.le_refl _))).mono ?_
  rintro e w4 ⟨rfl, b4⟩
  go_wp2
  go_ret
  exact ⟨rfl, b0.trans (b4.mono b0.size)⟩

set_option maxHeartbeats 800000 in
theorem words_empty (s : ByteArray) (v : Value) (xs : List ByteArray) (w : World) (ht : Tab w) (hs : s.size ≤ 140737488351232) (hl : longB [s] = false) (ha : Arg w v xs) (hl2 : longB xs = false) (h0 : s.size = 0) :
    Calls Tryd.prog 7 #[.string s, v] w fun e w' => e = .returned (.bool true) ∧ Below w.heap.size w w' := by
  have HT : Hid (Tab w) := ht
  have HA : Hid (Arg w v xs) := ha
  have H0 : Hid (s.size = 0) := h0
  clear ht ha h0
  have b0 : Below w.heap.size w (w.alloc (.cells #[.string s] 9)) := (Below.refl _ _).alloc (Nat.le_refl _) _
  go_enter Tryd.func7, Tryd.ntmps7
  go_wp2_with fail
  refine (long_one s w hs _).mono ?_
  rintro e w1 ⟨rfl, rfl⟩
  go_wp2_with fail
  refine (HA.out.long _ b0).mono ?_
  rintro e w1 ⟨rfl, rfl⟩
  go_wp2_with fail
  refine (words_none s _ H0.out).mono ?_
  rintro e w1 ⟨rfl, rfl⟩
  go_wp2_with fail
  refine (rwords_none s _ H0.out).mono ?_
  rintro e w1 ⟨rfl, rfl⟩
  go_wp2_with fail
  refine (same_none _ _ _ _ _).mono ?_
  rintro e w1 ⟨rfl, rfl⟩
  go_wp2_with fail
  refine (HA.out.join hl2 _ b0).mono ?_
  rintro e w2 ⟨rfl, b2⟩
  have hb2 := b0.trans (b2.mono b0.size)
  have hz2 := Nat.le_trans b0.size b2.size
  clear b2
  go_wp2_with fail
  refine (HA.out.rjoin hl2 _ hb2).mono ?_
  rintro e w3 ⟨rfl, rfl⟩
  go_wp2_with fail
  refine (known_any _ (HT.out.later hb2 (Nat.le_refl _))).mono ?_
  rintro e w4 ⟨rfl, b4⟩
  go_wp2
  go_ret
  exact ⟨rfl, hb2.trans (b4.mono hz2)⟩

set_option maxHeartbeats 800000 in
theorem words_full (s : ByteArray) (v : Value) (xs : List ByteArray) (w : World) (ht : Tab w) (hm : Mx w) (hs : s.size ≤ 140737488351232) (hl : longB [s] = false) (ha : Arg w v xs) (hl2 : longB xs = false) (h0 : 0 < s.size) :
    Calls Tryd.prog 7 #[.string s, v] w fun e w' => e = .returned (.bool true) ∧ Below w.heap.size w w' := by
  have HT : Hid (Tab w) := ht
  have HA : Hid (Arg w v xs) := ha
  have HM : Hid (Mx w) := hm
  have hs3 := short_size hl
  clear ht ha hm
  have b0 : Below w.heap.size w (w.alloc (.cells #[.string s] 9)) := (Below.refl _ _).alloc (Nat.le_refl _) _
  go_enter Tryd.func7, Tryd.ntmps7
  go_wp2_with fail
  refine (long_one s w hs _).mono ?_
  rintro e w1 ⟨rfl, rfl⟩
  go_wp2_with fail
  refine (HA.out.long _ b0).mono ?_
  rintro e w1 ⟨rfl, rfl⟩
  go_wp2_with fail
  refine (words_some s _ hs3 h0 (HM.out.later b0)).mono ?_
  rintro e w1 ⟨g1, ys, rfl, s1, m1, b1⟩
  have hb1 := b0.trans (b1.mono b0.size)
  have hz1 := Nat.le_trans b0.size b1.size
  have M1 : Hid (ys.map (·.data.toList) = Pl.ws s.data.toList) := m1
  clear b1 m1
  go_wp2_with fail
  refine (rwords_some s w1 hs3 h0).mono ?_
  rintro e w2 ⟨v2, zs, rfl, o2, m2, b2⟩
  have HY : Hid (zs = ys) := Pl.map_inj (m2.trans M1.out.symm)
  have hne : zs ≠ [] := by
    intro e
    rw [e] at m2
    exact Pl.ws_ne _ m2.symm
  obtain ⟨g2, c2, hv2, hc2, s2⟩ := o2.sa hne
  rw [hv2]
  have hlen : ys.length ≤ 3001 := by
    have h1 := Pl.ws_len s.data.toList
    rw [← M1.out, List.length_map] at h1
    have hq : s.data.toList.length = s.size := by rw [Array.length_toList, ByteArray.size_data]
    omega
  have S1 : Hid (Sa w2 g1 0 ys) := s1.later b2
  have S2 : Hid (Sa w2 g2 0 ys) := by rw [← HY.out]; exact s2
  have hb2 := hb1.trans (b2.mono hz1)
  have hz2 := Nat.le_trans hz1 b2.size
  rw [HY.out]
  clear b2 hb1 hz1 s1 s2 hv2 o2 m2 hne hc2 HY
  go_wp2_with fail
  refine (same_true g1 0 _ g2 0 _ ys w2 S1.out S2.out (by omega)).mono ?_
  rintro e w3 ⟨rfl, b3⟩
  have hb3 := hb2.trans (b3.mono hz2)
  have hz3 := Nat.le_trans hz2 b3.size
  clear b3 hb2 hz2 S1 S2
  go_wp2_with fail
  refine (HA.out.join hl2 _ hb3).mono ?_
  rintro e w4 ⟨rfl, b4⟩
  have hb4 := hb3.trans (b4.mono hz3)
  have hz4 := Nat.le_trans hz3 b4.size
  clear b4 hb3 hz3
  go_wp2_with fail
  refine (HA.out.rjoin hl2 _ hb4).mono ?_
  rintro e w5 ⟨rfl, rfl⟩
  go_wp2_with fail
  refine (known_any _ (HT.out.later hb4 (Nat.le_refl _))).mono ?_
  rintro e w6 ⟨rfl, b6⟩
  go_wp2
  go_ret
  exact ⟨rfl, hb4.trans (b6.mono hz4)⟩

theorem words_walk (s : ByteArray) (v : Value) (xs : List ByteArray) (w : World) (ht : Tab w) (hm : Mx w) (hs : s.size ≤ 140737488351232) (ha : Arg w v xs) :
    Calls Tryd.prog 7 #[.string s, v] w fun e w' => e = .returned (.bool true) ∧ Below w.heap.size w w' := by
  cases hl : longB [s] with
  | true => exact words_long1 s v w ht hs hl
  | false =>
    cases hl2 : longB xs with
    | true => exact words_long2 s v xs w ht hs hl ha hl2
    | false =>
      by_cases h0 : s.size = 0
      · exact words_empty s v xs w ht hs hl ha hl2 h0
      · exact words_full s v xs w ht hm hs hl ha hl2 (by omega)
end Go.Proofs.YtdfcmecgefckdaaDoor
