/- The reference's small functions and IsName, each for every argument; LexNames walked. -/
import Derived.Test.YtdjpjoipdlfooaaDoorLexK
namespace Go.Proofs.YtdjpjoipdlfooaaDoor
open Go.RowKit

set_option maxHeartbeats 400000 in
theorem rbetween_any (c lo hi : Nat) (w : World) : Calls Tryd.prog 55 #[.int .u8 (c : Int), .int .u8 (lo : Int), .int .u8 (hi : Int)] w fun e w' => e = .returned (.bool (decide (lo ≤ c) && decide (c ≤ hi))) ∧ w' = w := by
  by_cases h1 : lo ≤ c
  · have H : Hid ((decide (lo ≤ c) && decide (c ≤ hi)) = decide (c ≤ hi)) := by unfold Hid; simp [h1]
    go_enter Tryd.func55, Tryd.ntmps55
    go_wp2
    go_ret
    rw [H.out]
    exact ⟨rfl, rfl⟩
  · have H : Hid ((decide (lo ≤ c) && decide (c ≤ hi)) = false) := by unfold Hid; simp [h1]
    go_enter Tryd.func55, Tryd.ntmps55
    go_wp2
    go_ret
    rw [H.out]
    exact ⟨rfl, rfl⟩
set_option maxHeartbeats 400000 in
theorem rletter_any (c : Nat) (w : World) : Calls Tryd.prog 56 #[.int .u8 (c : Int)] w fun e w' => e = .returned (.bool (Lx.let1 c)) ∧ w' = w := by
  cases h1 : (decide (65 ≤ c) && decide (c ≤ 90)) with
  | true =>
    have H : Hid (Lx.let1 c = true) := by unfold Hid Lx.let1; rw [Bool.decide_and, Bool.decide_and, h1]; rfl
    have H1 : Hid ((decide (65 ≤ c) && decide (c ≤ 90)) = true) := h1
    clear h1
    go_enter Tryd.func56, Tryd.ntmps56
    go_wp2_with fail
    refine (rbetween_any c 65 90 _).mono ?_
    rintro e w' ⟨rfl, rfl⟩
    rw [H1.out]
    go_wp2_with fail
    go_ret
    rw [H.out]
    exact ⟨rfl, rfl⟩
  | false =>
    have H : Hid (Lx.let1 c = (decide (97 ≤ c) && decide (c ≤ 122))) := by unfold Hid Lx.let1; rw [Bool.decide_and, Bool.decide_and, h1]; rfl
    have H1 : Hid ((decide (65 ≤ c) && decide (c ≤ 90)) = false) := h1
    clear h1
    go_enter Tryd.func56, Tryd.ntmps56
    go_wp2_with fail
    refine (rbetween_any c 65 90 _).mono ?_
    rintro e w' ⟨rfl, rfl⟩
    rw [H1.out]
    go_wp2_with fail
    refine (rbetween_any c 97 122 _).mono ?_
    rintro e w' ⟨rfl, rfl⟩
    go_wp2_with fail
    go_ret
    rw [H.out]
    exact ⟨rfl, rfl⟩
theorem rdigit_any (c : Nat) (w : World) : Calls Tryd.prog 39 #[.int .u8 (c : Int)] w fun e w' => e = .returned (.bool (Lx.dig1 c)) ∧ w' = w := by
  have H : Hid (Lx.dig1 c = (decide (48 ≤ c) && decide (c ≤ 57))) := by unfold Hid Lx.dig1; rw [Bool.decide_and]
  go_enter Tryd.func39, Tryd.ntmps39
  go_wp2_with fail
  refine (rbetween_any c 48 57 _).mono ?_
  rintro e w' ⟨rfl, rfl⟩
  go_wp2_with fail
  go_ret
  rw [H.out]
  exact ⟨rfl, rfl⟩
set_option maxHeartbeats 400000 in
theorem rinner_any (c : Nat) (w : World) : Calls Tryd.prog 54 #[.int .u8 (c : Int)] w fun e w' => e = .returned (.bool (Lx.inn1 c)) ∧ w' = w := by
  cases h1 : Lx.let1 c with
  | true =>
    have H : Hid (Lx.inn1 c = true) := by unfold Hid Lx.inn1; rw [h1]; rfl
    have H1 : Hid (Lx.let1 c = true) := h1
    clear h1
    go_enter Tryd.func54, Tryd.ntmps54
    go_wp2_with fail
    refine (rletter_any c _).mono ?_
    rintro e w' ⟨rfl, rfl⟩
    rw [H1.out]
    go_wp2_with fail
    go_ret
    rw [H.out]
    exact ⟨rfl, rfl⟩
  | false =>
    have H1 : Hid (Lx.let1 c = false) := h1
    cases h2 : Lx.dig1 c with
    | true =>
      have H : Hid (Lx.inn1 c = true) := by unfold Hid Lx.inn1; rw [h1, h2]; rfl
      have H2 : Hid (Lx.dig1 c = true) := h2
      clear h1 h2
      go_enter Tryd.func54, Tryd.ntmps54
      go_wp2_with fail
      refine (rletter_any c _).mono ?_
      rintro e w' ⟨rfl, rfl⟩
      rw [H1.out]
      go_wp2_with fail
      refine (rdigit_any c _).mono ?_
      rintro e w' ⟨rfl, rfl⟩
      rw [H2.out]
      go_wp2_with fail
      go_ret
      rw [H.out]
      exact ⟨rfl, rfl⟩
    | false =>
      have H : Hid (Lx.inn1 c = ((c : Int) == 95)) := by
        unfold Hid Lx.inn1; rw [h1, h2]
        by_cases e : c = 95
        · subst e; rfl
        · rw [decide_eq_false e, show ((c : Int) == 95) = false from beq_eq_false_iff_ne.2 (by omega)]; rfl
      have H2 : Hid (Lx.dig1 c = false) := h2
      clear h1 h2
      go_enter Tryd.func54, Tryd.ntmps54
      go_wp2_with fail
      refine (rletter_any c _).mono ?_
      rintro e w' ⟨rfl, rfl⟩
      rw [H1.out]
      go_wp2_with fail
      refine (rdigit_any c _).mono ?_
      rintro e w' ⟨rfl, rfl⟩
      rw [H2.out]
      go_wp2_with fail
      go_ret
      rw [H.out]
      exact ⟨rfl, rfl⟩

/-- Is a text among some? -/
def hasB (xs : List ByteArray) (l : List UInt8) : Bool := (xs.map (·.data.toList)).contains l
set_option maxRecDepth 100000 in
set_option maxHeartbeats 400000 in
theorem rin_any (s : ByteArray) (b o cap : Nat) (xs : List ByteArray) (w : World) (h : Sa w b o xs) (hl : xs.length ≤ 1000000) :
    Calls Tryd.prog 41 #[.string s, .slice (some ⟨b, o, none⟩) xs.length cap] w fun e w' => e = .returned (.bool (hasB xs s.data.toList)) ∧ w' = w := by
  have HS : Hid (Sa w b o xs) := h
  clear h
  go_enter Tryd.func41, Tryd.ntmps41
  go_wp2
  go_loop [5] (fun i => ∃ k : Nat, k ≤ xs.length ∧ i = .int .i64 k ∧ Hid (∀ j, j < k → s.data.toList ≠ (xs.map (·.data.toList)).getD j [])) (fun i => xs.length - (intOf i).toNat)
  case atStart => exact ⟨0, by omega, rfl, fun j hj => absurd hj (Nat.not_lt_zero _)⟩
  case round =>
    obtain ⟨k, hk, rfl, N⟩ := hrel
    by_cases hlt : k < xs.length
    · have hc := HS.out.get k hlt
      have E : Hid ((xs.map (·.data.toList)).getD k [] = (xs.getD k ByteArray.empty).data.toList) := by unfold Hid; simp [hlt]
      generalize xs.getD k ByteArray.empty = x at hc E
      by_cases he : x.data.toList = s.data.toList
      · have heb : (x.toList == s.toList) = true := by rw [ByteArray.toList_eq, ByteArray.toList_eq, he]; exact beq_self_eq_true _
        have H : Hid (hasB xs s.data.toList = true) := contains_of (k := k) (by simpa using hlt) (by rw [E.out, he])
        clear he
        go_wp2
        go_ret
        rw [H.out]
        exact ⟨rfl, rfl⟩
      · have heb : (x.toList == s.toList) = false := by rw [ByteArray.toList_eq, ByteArray.toList_eq]; simpa using he
        have N' : Hid (∀ j, j < k + 1 → s.data.toList ≠ (xs.map (·.data.toList)).getD j []) := fun j hj => by
          by_cases e : j = k
          · subst e; rw [E.out]; exact fun h => he h.symm
          · exact N.out j (by omega)
        clear he
        go_wp2
        exact ⟨⟨k + 1, by omega, by go_num, N'⟩, by simp [intOf]; omega⟩
    · obtain rfl : k = xs.length := by omega
      have H : Hid (hasB xs s.data.toList = false) := not_contains (fun j hj => N.out j (by simpa using hj))
      go_wp2
      go_ret
      rw [H.out]
      exact ⟨rfl, rfl⟩

def keyB : List ByteArray := Lx.keys.map fun l => ⟨l.toArray⟩
theorem keyB_lists (l : List UInt8) : hasB keyB l = Lx.isKey l := rfl
theorem keys_sa (w : World) (t : TypeId) : Sa (w.alloc (.cells keysA t)) w.heap.size 0 keyB := by
  refine ⟨by simp, fun j hj => ?_⟩
  have hj : j < 13 := hj
  rw [Nat.zero_add, World.cell?_alloc_at _ _ _ _ rfl]
  match j, hj with
  | 0, _ => rfl | 1, _ => rfl | 2, _ => rfl | 3, _ => rfl | 4, _ => rfl | 5, _ => rfl | 6, _ => rfl
  | 7, _ => rfl | 8, _ => rfl | 9, _ => rfl | 10, _ => rfl | 11, _ => rfl | 12, _ => rfl
  | n + 13, h => exact absurd h (by omega)
theorem rin_keys (s : ByteArray) (w : World) (t : TypeId) : Calls Tryd.prog 41 #[.string s, .slice (some ⟨w.heap.size, 0, none⟩) 13 13] (w.alloc (.cells keysA t)) fun e w' => e = .returned (.bool (Lx.isKey s.data.toList)) ∧ Below w.heap.size w w' := by
  refine (rin_any s w.heap.size 0 13 keyB _ (keys_sa w t) (by decide)).mono ?_
  rintro e w' ⟨rfl, rfl⟩
  rw [keyB_lists]
  exact ⟨rfl, box_below w _⟩
theorem run_all {p : Nat → Bool} : ∀ {l : List UInt8}, (∀ j, j < l.length → p (l.getD j 0).toNat = true) → Lx.run p l = l.length
  | [], _ => rfl
  | c :: t, h => by
    unfold Lx.run
    rw [if_pos (by simpa using h 0 (by simp)), run_all (l := t) (fun j hj => by simpa using h (j + 1) (by simpa using hj))]
    rfl
theorem run_not {p : Nat → Bool} {l : List UInt8} {k : Nat} (hk : k < l.length) (h : p (l.getD k 0).toNat = false) : Lx.run p l ≠ l.length := by
  intro e
  obtain ⟨c, hc, hp⟩ := Lx.run_drop p l k (by omega)
  rw [List.getD_eq_getElem?_getD, hc] at h
  rw [show ((some c).getD 0 : UInt8) = c from rfl, hp] at h
  cases h
theorem byte_get (s : ByteArray) (k : Nat) (h : k < s.size) : s.data.toList.getD k 0 = s[k] := by
  have := Pl.drop_at s k h
  rw [List.getD_eq_getElem?_getD]
  have h2 : (s.data.toList.drop k)[0]? = some s[k] := by rw [this]; rfl
  rw [List.getElem?_drop] at h2
  rw [show k + 0 = k from rfl] at h2
  rw [h2]; rfl

set_option maxRecDepth 100000 in
set_option maxHeartbeats 400000 in
theorem risName_any (s : ByteArray) (w : World) (hs : s.size ≤ 1000000) : Calls Tryd.prog 43 #[.string s] w fun e w' => e = .returned (.bool (Lx.isName s.data.toList)) ∧ Below w.heap.size w w' := by
  go_enter Tryd.func43, Tryd.ntmps43
  go_wp2
  go_loop [3] (fun i => ∃ k : Nat, k ≤ s.size ∧ i = .int .i64 k ∧ Hid (∀ j, j < k → Lx.inn1 (s.data.toList.getD j 0).toNat = true)) (fun i => s.size - (intOf i).toNat)
  case atStart => exact ⟨0, by omega, rfl, fun j hj => absurd hj (Nat.not_lt_zero _)⟩
  case round =>
    obtain ⟨k, hk, rfl, N⟩ := hrel
    by_cases hlt : k < s.size
    · cases hI : Lx.inn1 s[k].toNat with
      | false =>
        have H : Hid (Lx.isName s.data.toList = false) := by
          have := run_not (p := Lx.inn1) (l := s.data.toList) (k := k) (by rw [size_len']; exact hlt) (by rw [byte_get s k hlt]; exact hI)
          unfold Hid Lx.isName
          rw [decide_eq_false this]
          simp
        have HI : Hid (Lx.inn1 s[k].toNat = false) := hI
        clear hI
        go_wp2_with fail
        refine (rinner_any _ _).mono ?_
        rintro e w' ⟨rfl, rfl⟩
        rw [HI.out]
        go_wp2_with fail
        go_ret
        rw [H.out]
        exact ⟨rfl, Below.refl _ _⟩
      | true =>
        have N' : Hid (∀ j, j < k + 1 → Lx.inn1 (s.data.toList.getD j 0).toNat = true) := fun j hj => by
          by_cases e : j = k
          · subst e; rw [byte_get s j hlt]; exact hI
          · exact N.out j (by omega)
        have HI : Hid (Lx.inn1 s[k].toNat = true) := hI
        clear hI
        go_wp2_with fail
        refine (rinner_any _ _).mono ?_
        rintro e w' ⟨rfl, rfl⟩
        rw [HI.out]
        go_wp2_with fail
        exact ⟨⟨k + 1, by omega, by go_num, N'⟩, by simp [intOf]; omega⟩
    · obtain rfl : k = s.size := by omega
      have R : Hid (Lx.run Lx.inn1 s.data.toList = s.size) := by
        unfold Hid; rw [← size_len' s]; exact run_all (fun j hj => N.out j (by rwa [size_len'] at hj))
      by_cases h0 : s.size = 0
      · have H : Hid (Lx.isName s.data.toList = false) := by unfold Hid; rw [empty_list h0]; rfl
        go_wp2_with fail
        go_ret
        rw [H.out]
        exact ⟨by go_num, Below.refl _ _⟩
      · have h0' : 0 < s.size := by omega
        have E0 := isName_eq s h0'
        rw [R.out] at E0
        have E : Hid _ := E0
        clear E0
        by_cases h40 : s.size ≤ 40
        · cases hL : Lx.let1 s[0].toNat with
          | false =>
            have HL : Hid (Lx.let1 s[0].toNat = false) := hL
            clear hL
            go_wp2_with fail
            refine (rletter_any _ _).mono ?_
            rintro e w' ⟨rfl, rfl⟩
            rw [HL.out]
            go_wp2_with fail
            go_ret
            rw [E.out, HL.out]
            exact ⟨rfl, Below.refl _ _⟩
          | true =>
            have HL : Hid (Lx.let1 s[0].toNat = true) := hL
            clear hL
            go_wp2_with fail
            refine (rletter_any _ _).mono ?_
            rintro e w' ⟨rfl, rfl⟩
            rw [HL.out]
            go_wp2_with (go_at_call 42; go_in)
            refine (rin_keys s _ _).mono ?_
            rintro e w1 ⟨rfl, hb⟩
            go_wp2_with fail
            go_ret
            rw [E.out, HL.out]
            exact ⟨by simp [h40], hb⟩
        · go_wp2_with fail
          go_ret
          rw [E.out]
          exact ⟨by simp [h40], Below.refl _ _⟩

end Go.Proofs.YtdjpjoipdlfooaaDoor
