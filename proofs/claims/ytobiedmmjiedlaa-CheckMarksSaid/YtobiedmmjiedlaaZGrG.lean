/- The reference's small functions and IsName, each for every argument; LexNames walked. -/
/- The reference's First, for every text. -/
/- The reference's First, for every text: words and signs. -/
/- The reference's First, for every text: signs. -/
/- The reference's Text of a token, for every token. -/
/- The reference tells of a token what the program tells (plain); its Text, for every token. -/
/- The reference's Size, Right and Print of tokens, each for every tokens that are not too many. -/
/- The reference's Print of tokens, for every tokens whose texts are not too long; how long printed tokens are. -/
/- An argument that is a slice of tokens: what the calls of layer 2 answer of it; LexPrints walked. -/
/- What the rows over slices of tokens are given: the tokens of the argument, the reach of each text. -/
import Derived.Test.YtobiedmmjiedlaaZLexK
import Derived.Test.YtobiedmmjiedlaaZGrN
import Derived.BigQuiet
import Derived.Deep.QuietTactic
import Derived.Deep.RegionHeld3
import Derived.Deep.RegionWith
import Derived.Test.YtobiedmmjiedlaaZGrF
import Derived.SizedLaws
import Derived.ChangeSame
namespace Go.Proofs.Ytobiedmmjiedlaa
open Go.RowKit

set_option maxHeartbeats 400000 in
theorem rbetween_any (c lo hi : Nat) (w : World) : Calls Try.prog 70 #[.int .u8 (c : Int), .int .u8 (lo : Int), .int .u8 (hi : Int)] w fun e w' => e = .returned (.bool (decide (lo ≤ c) && decide (c ≤ hi))) ∧ w' = w := by
  by_cases h1 : lo ≤ c
  · have H : Hid ((decide (lo ≤ c) && decide (c ≤ hi)) = decide (c ≤ hi)) := by unfold Hid; simp [h1]
    go_enter Try.func70, Try.ntmps70
    go_wp2
    go_ret
    rw [H.out]
    exact ⟨rfl, rfl⟩
  · have H : Hid ((decide (lo ≤ c) && decide (c ≤ hi)) = false) := by unfold Hid; simp [h1]
    go_enter Try.func70, Try.ntmps70
    go_wp2
    go_ret
    rw [H.out]
    exact ⟨rfl, rfl⟩
set_option maxHeartbeats 400000 in
theorem rletter_any (c : Nat) (w : World) : Calls Try.prog 73 #[.int .u8 (c : Int)] w fun e w' => e = .returned (.bool (Lx.let1 c)) ∧ w' = w := by
  cases h1 : (decide (65 ≤ c) && decide (c ≤ 90)) with
  | true =>
    have H : Hid (Lx.let1 c = true) := by unfold Hid Lx.let1; rw [Bool.decide_and, Bool.decide_and, h1]; rfl
    have H1 : Hid ((decide (65 ≤ c) && decide (c ≤ 90)) = true) := h1
    clear h1
    go_enter Try.func73, Try.ntmps73
    go_wp2_with fail
    refine (rbetween_any c 65 90 _).mono ?_
    rintro e w' ⟨rfl, rfl⟩
    rw [H1.out]
    go_wp2_with fail
    go_ret
    rw [H.out]
    exact ⟨rfl, rfl⟩
  | false =>
    have H : Hid (Lx.let1 c = (decide (97 ≤ c) && decide (c ≤ 122))) := by unfold Hid Lx.let1; rw [Bool.decide_and, Bool.decide_and, h1]; rfl
    have H1 : Hid ((decide (65 ≤ c) && decide (c ≤ 90)) = false) := h1
    clear h1
    go_enter Try.func73, Try.ntmps73
    go_wp2_with fail
    refine (rbetween_any c 65 90 _).mono ?_
    rintro e w' ⟨rfl, rfl⟩
    rw [H1.out]
    go_wp2_with fail
    refine (rbetween_any c 97 122 _).mono ?_
    rintro e w' ⟨rfl, rfl⟩
    go_wp2_with fail
    go_ret
    rw [H.out]
    exact ⟨rfl, rfl⟩
theorem rdigit_any (c : Nat) (w : World) : Calls Try.prog 48 #[.int .u8 (c : Int)] w fun e w' => e = .returned (.bool (Lx.dig1 c)) ∧ w' = w := by
  have H : Hid (Lx.dig1 c = (decide (48 ≤ c) && decide (c ≤ 57))) := by unfold Hid Lx.dig1; rw [Bool.decide_and]
  go_enter Try.func48, Try.ntmps48
  go_wp2_with fail
  refine (rbetween_any c 48 57 _).mono ?_
  rintro e w' ⟨rfl, rfl⟩
  go_wp2_with fail
  go_ret
  rw [H.out]
  exact ⟨rfl, rfl⟩
set_option maxHeartbeats 400000 in
theorem rinner_any (c : Nat) (w : World) : Calls Try.prog 69 #[.int .u8 (c : Int)] w fun e w' => e = .returned (.bool (Lx.inn1 c)) ∧ w' = w := by
  cases h1 : Lx.let1 c with
  | true =>
    have H : Hid (Lx.inn1 c = true) := by unfold Hid Lx.inn1; rw [h1]; rfl
    have H1 : Hid (Lx.let1 c = true) := h1
    clear h1
    go_enter Try.func69, Try.ntmps69
    go_wp2_with fail
    refine (rletter_any c _).mono ?_
    rintro e w' ⟨rfl, rfl⟩
    rw [H1.out]
    go_wp2_with fail
    go_ret
    rw [H.out]
    exact ⟨rfl, rfl⟩
  | false =>
    have H1 : Hid (Lx.let1 c = false) := h1
    cases h2 : Lx.dig1 c with
    | true =>
      have H : Hid (Lx.inn1 c = true) := by unfold Hid Lx.inn1; rw [h1, h2]; rfl
      have H2 : Hid (Lx.dig1 c = true) := h2
      clear h1 h2
      go_enter Try.func69, Try.ntmps69
      go_wp2_with fail
      refine (rletter_any c _).mono ?_
      rintro e w' ⟨rfl, rfl⟩
      rw [H1.out]
      go_wp2_with fail
      refine (rdigit_any c _).mono ?_
      rintro e w' ⟨rfl, rfl⟩
      rw [H2.out]
      go_wp2_with fail
      go_ret
      rw [H.out]
      exact ⟨rfl, rfl⟩
    | false =>
      have H : Hid (Lx.inn1 c = ((c : Int) == 95)) := by
        unfold Hid Lx.inn1; rw [h1, h2]
        by_cases e : c = 95
        · subst e; rfl
        · rw [decide_eq_false e, show ((c : Int) == 95) = false from beq_eq_false_iff_ne.2 (by omega)]; rfl
      have H2 : Hid (Lx.dig1 c = false) := h2
      clear h1 h2
      go_enter Try.func69, Try.ntmps69
      go_wp2_with fail
      refine (rletter_any c _).mono ?_
      rintro e w' ⟨rfl, rfl⟩
      rw [H1.out]
      go_wp2_with fail
      refine (rdigit_any c _).mono ?_
      rintro e w' ⟨rfl, rfl⟩
      rw [H2.out]
      go_wp2_with fail
      go_ret
      rw [H.out]
      exact ⟨rfl, rfl⟩

/-- Is a text among some? -/
def hasB (xs : List ByteArray) (l : List UInt8) : Bool := (xs.map (·.data.toList)).contains l
set_option maxRecDepth 100000 in
set_option maxHeartbeats 400000 in
theorem rin_any (s : ByteArray) (b o cap : Nat) (xs : List ByteArray) (w : World) (h : Sa w b o xs) (hl : xs.length ≤ 1000000) :
    Calls Try.prog 50 #[.string s, .slice (some ⟨b, o, none⟩) xs.length cap] w fun e w' => e = .returned (.bool (hasB xs s.data.toList)) ∧ w' = w := by
  have HS : Hid (Sa w b o xs) := h
  clear h
  go_enter Try.func50, Try.ntmps50
  go_wp2
  go_loop [5] (fun i => ∃ k : Nat, k ≤ xs.length ∧ i = .int .i64 k ∧ Hid (∀ j, j < k → s.data.toList ≠ (xs.map (·.data.toList)).getD j [])) (fun i => xs.length - (intOf i).toNat)
  case atStart => exact ⟨0, by omega, rfl, fun j hj => absurd hj (Nat.not_lt_zero _)⟩
  case round =>
    obtain ⟨k, hk, rfl, N⟩ := hrel
    by_cases hlt : k < xs.length
    · have hc := HS.out.get k hlt
      have E : Hid ((xs.map (·.data.toList)).getD k [] = (xs.getD k ByteArray.empty).data.toList) := by unfold Hid; simp [hlt]
      generalize xs.getD k ByteArray.empty = x at hc E
      by_cases he : x.data.toList = s.data.toList
      · have heb : (x.toList == s.toList) = true := by rw [ByteArray.toList_eq, ByteArray.toList_eq, he]; exact beq_self_eq_true _
        have H : Hid (hasB xs s.data.toList = true) := contains_of (k := k) (by simpa using hlt) (by rw [E.out, he])
        clear he
        go_wp2
        go_ret
        rw [H.out]
        exact ⟨rfl, rfl⟩
      · have heb : (x.toList == s.toList) = false := by rw [ByteArray.toList_eq, ByteArray.toList_eq]; simpa using he
        have N' : Hid (∀ j, j < k + 1 → s.data.toList ≠ (xs.map (·.data.toList)).getD j []) := fun j hj => by
          by_cases e : j = k
          · subst e; rw [E.out]; exact fun h => he h.symm
          · exact N.out j (by omega)
        clear he
        go_wp2
        exact ⟨⟨k + 1, by omega, by go_num, N'⟩, by simp [intOf]; omega⟩
    · obtain rfl : k = xs.length := by omega
      have H : Hid (hasB xs s.data.toList = false) := not_contains (fun j hj => N.out j (by simpa using hj))
      go_wp2
      go_ret
      rw [H.out]
      exact ⟨rfl, rfl⟩

def keyB : List ByteArray := Lx.keys.map fun l => ⟨l.toArray⟩
theorem keyB_lists (l : List UInt8) : hasB keyB l = Lx.isKey l := rfl
theorem keys_sa (w : World) (t : TypeId) : Sa (w.alloc (.cells keysA t)) w.heap.size 0 keyB := by
  refine ⟨by simp, fun j hj => ?_⟩
  have hj : j < 13 := hj
  rw [Nat.zero_add, World.cell?_alloc_at _ _ _ _ rfl]
  match j, hj with
  | 0, _ => rfl | 1, _ => rfl | 2, _ => rfl | 3, _ => rfl | 4, _ => rfl | 5, _ => rfl | 6, _ => rfl
  | 7, _ => rfl | 8, _ => rfl | 9, _ => rfl | 10, _ => rfl | 11, _ => rfl | 12, _ => rfl
  | n + 13, h => exact absurd h (by omega)
theorem rin_keys (s : ByteArray) (w : World) (t : TypeId) : Calls Try.prog 50 #[.string s, .slice (some ⟨w.heap.size, 0, none⟩) 13 13] (w.alloc (.cells keysA t)) fun e w' => e = .returned (.bool (Lx.isKey s.data.toList)) ∧ Below w.heap.size w w' := by
  refine (rin_any s w.heap.size 0 13 keyB _ (keys_sa w t) (by decide)).mono ?_
  rintro e w' ⟨rfl, rfl⟩
  rw [keyB_lists]
  exact ⟨rfl, box_below w _⟩
theorem run_all {p : Nat → Bool} : ∀ {l : List UInt8}, (∀ j, j < l.length → p (l.getD j 0).toNat = true) → Lx.run p l = l.length
  | [], _ => rfl
  | c :: t, h => by
    unfold Lx.run
    rw [if_pos (by simpa using h 0 (by simp)), run_all (l := t) (fun j hj => by simpa using h (j + 1) (by simpa using hj))]
    rfl
theorem run_not {p : Nat → Bool} {l : List UInt8} {k : Nat} (hk : k < l.length) (h : p (l.getD k 0).toNat = false) : Lx.run p l ≠ l.length := by
  intro e
  obtain ⟨c, hc, hp⟩ := Lx.run_drop p l k (by omega)
  rw [List.getD_eq_getElem?_getD, hc] at h
  rw [show ((some c).getD 0 : UInt8) = c from rfl, hp] at h
  cases h
theorem byte_get (s : ByteArray) (k : Nat) (h : k < s.size) : s.data.toList.getD k 0 = s[k] := by
  have := Pl.drop_at s k h
  rw [List.getD_eq_getElem?_getD]
  have h2 : (s.data.toList.drop k)[0]? = some s[k] := by rw [this]; rfl
  rw [List.getElem?_drop] at h2
  rw [show k + 0 = k from rfl] at h2
  rw [h2]; rfl

set_option maxRecDepth 100000 in
set_option maxHeartbeats 400000 in
theorem risName_any (s : ByteArray) (w : World) (hs : s.size ≤ 1000000) : Calls Try.prog 52 #[.string s] w fun e w' => e = .returned (.bool (Lx.isName s.data.toList)) ∧ Below w.heap.size w w' := by
  go_enter Try.func52, Try.ntmps52
  go_wp2
  go_loop [3] (fun i => ∃ k : Nat, k ≤ s.size ∧ i = .int .i64 k ∧ Hid (∀ j, j < k → Lx.inn1 (s.data.toList.getD j 0).toNat = true)) (fun i => s.size - (intOf i).toNat)
  case atStart => exact ⟨0, by omega, rfl, fun j hj => absurd hj (Nat.not_lt_zero _)⟩
  case round =>
    obtain ⟨k, hk, rfl, N⟩ := hrel
    by_cases hlt : k < s.size
    · cases hI : Lx.inn1 s[k].toNat with
      | false =>
        have H : Hid (Lx.isName s.data.toList = false) := by
          have := run_not (p := Lx.inn1) (l := s.data.toList) (k := k) (by rw [size_len']; exact hlt) (by rw [byte_get s k hlt]; exact hI)
          unfold Hid Lx.isName
          rw [decide_eq_false this]
          simp
        have HI : Hid (Lx.inn1 s[k].toNat = false) := hI
        clear hI
        go_wp2_with fail
        refine (rinner_any _ _).mono ?_
        rintro e w' ⟨rfl, rfl⟩
        rw [HI.out]
        go_wp2_with fail
        go_ret
        rw [H.out]
        exact ⟨rfl, Below.refl _ _⟩
      | true =>
        have N' : Hid (∀ j, j < k + 1 → Lx.inn1 (s.data.toList.getD j 0).toNat = true) := fun j hj => by
          by_cases e : j = k
          · subst e; rw [byte_get s j hlt]; exact hI
          · exact N.out j (by omega)
        have HI : Hid (Lx.inn1 s[k].toNat = true) := hI
        clear hI
        go_wp2_with fail
        refine (rinner_any _ _).mono ?_
        rintro e w' ⟨rfl, rfl⟩
        rw [HI.out]
        go_wp2_with fail
        exact ⟨⟨k + 1, by omega, by go_num, N'⟩, by simp [intOf]; omega⟩
    · obtain rfl : k = s.size := by omega
      have R : Hid (Lx.run Lx.inn1 s.data.toList = s.size) := by
        unfold Hid; rw [← size_len' s]; exact run_all (fun j hj => N.out j (by rwa [size_len'] at hj))
      by_cases h0 : s.size = 0
      · have H : Hid (Lx.isName s.data.toList = false) := by unfold Hid; rw [empty_list h0]; rfl
        go_wp2_with fail
        go_ret
        rw [H.out]
        exact ⟨by go_num, Below.refl _ _⟩
      · have h0' : 0 < s.size := by omega
        have E0 := isName_eq s h0'
        rw [R.out] at E0
        have E : Hid _ := E0
        clear E0
        by_cases h40 : s.size ≤ 40
        · cases hL : Lx.let1 s[0].toNat with
          | false =>
            have HL : Hid (Lx.let1 s[0].toNat = false) := hL
            clear hL
            go_wp2_with fail
            refine (rletter_any _ _).mono ?_
            rintro e w' ⟨rfl, rfl⟩
            rw [HL.out]
            go_wp2_with fail
            go_ret
            rw [E.out, HL.out]
            exact ⟨rfl, Below.refl _ _⟩
          | true =>
            have HL : Hid (Lx.let1 s[0].toNat = true) := hL
            clear hL
            go_wp2_with fail
            refine (rletter_any _ _).mono ?_
            rintro e w' ⟨rfl, rfl⟩
            rw [HL.out]
            go_wp2_with (go_at_call 51; go_in)
            refine (rin_keys s _ _).mono ?_
            rintro e w1 ⟨rfl, hb⟩
            go_wp2_with fail
            go_ret
            rw [E.out, HL.out]
            exact ⟨by simp [h40], hb⟩
        · go_wp2_with fail
          go_ret
          rw [E.out]
          exact ⟨by simp [h40], Below.refl _ _⟩

end Go.Proofs.Ytobiedmmjiedlaa

namespace Go.Proofs.Ytobiedmmjiedlaa
open Go.RowKit

set_option maxRecDepth 100000 in
set_option maxHeartbeats 400000 in
theorem rrun_any (s : ByteArray) (w : World) (hs : s.size ≤ 1000000) : Calls Try.prog 47 #[.string s] w fun e w' => e = .returned (.int .i64 (Lx.run Lx.inn1 s.data.toList : Int)) ∧ w' = w := by
  go_enter Try.func47, Try.ntmps47
  go_wp2
  go_loop [3] (fun i => ∃ k : Nat, k ≤ s.size ∧ i = .int .i64 k ∧ Hid (Lx.run Lx.inn1 s.data.toList = k + Lx.run Lx.inn1 (s.data.toList.drop k))) (fun i => s.size - (intOf i).toNat)
  case atStart => exact ⟨0, by omega, rfl, (Nat.zero_add _).symm⟩
  case round =>
    obtain ⟨k, hk, rfl, R⟩ := hrel
    by_cases hlt : k < s.size
    · cases hI : Lx.inn1 s[k].toNat with
      | true =>
        have R' : Hid _ := run_yes hlt R.out hI
        have HI : Hid (Lx.inn1 s[k].toNat = true) := hI
        clear hI
        go_wp2_with fail
        refine (rinner_any _ _).mono ?_
        rintro e w' ⟨rfl, rfl⟩
        rw [HI.out]
        go_wp2_with fail
        exact ⟨⟨k + 1, by omega, by go_num, R'⟩, by simp [intOf]; omega⟩
      | false =>
        have R' : Hid _ := run_no hlt R.out hI
        have HI : Hid (Lx.inn1 s[k].toNat = false) := hI
        clear hI
        go_wp2_with fail
        refine (rinner_any _ _).mono ?_
        rintro e w' ⟨rfl, rfl⟩
        rw [HI.out]
        go_wp2_with fail
        go_ret
        exact ⟨ret_i64 (by rw [R'.out]), rfl⟩
    · have R' : Hid _ := run_end hlt R.out
      go_wp2
      go_ret
      exact ⟨ret_i64 (by rw [R'.out]), rfl⟩

def signB : List ByteArray := Lx.signs.map fun l => ⟨l.toArray⟩
theorem signB_lists (l : List UInt8) : hasB signB l = Lx.isSign l := rfl
theorem signs_sa (w : World) (t : TypeId) : Sa (w.alloc (.cells signsA t)) w.heap.size 0 signB := by
  refine ⟨by simp, fun j hj => ?_⟩
  have hj : j < 21 := hj
  rw [Nat.zero_add, World.cell?_alloc_at _ _ _ _ rfl]
  match j, hj with
  | 0, _ => rfl | 1, _ => rfl | 2, _ => rfl | 3, _ => rfl | 4, _ => rfl | 5, _ => rfl | 6, _ => rfl
  | 7, _ => rfl | 8, _ => rfl | 9, _ => rfl | 10, _ => rfl | 11, _ => rfl | 12, _ => rfl | 13, _ => rfl
  | 14, _ => rfl | 15, _ => rfl | 16, _ => rfl | 17, _ => rfl | 18, _ => rfl | 19, _ => rfl | 20, _ => rfl
  | n + 21, h => exact absurd h (by omega)
theorem rin_signs (s : ByteArray) (w : World) (t : TypeId) : Calls Try.prog 50 #[.string s, .slice (some ⟨w.heap.size, 0, none⟩) 21 21] (w.alloc (.cells signsA t)) fun e w' => e = .returned (.bool (Lx.isSign s.data.toList)) ∧ Below w.heap.size w w' := by
  refine (rin_any s w.heap.size 0 21 signB _ (signs_sa w t) (by decide)).mono ?_
  rintro e w' ⟨rfl, rfl⟩
  rw [signB_lists]
  exact ⟨rfl, box_below w _⟩

/-- What the reference's First answers: a token and its length; 0: none. -/
def rfirst (l : List UInt8) : Lx.Tk × Nat :=
  if 0 < Lx.run Lx.inn1 l then
    if Lx.dig1 (l.headD 0).toNat then match Pl.parse (l.take (Lx.run Lx.inn1 l)) with
      | none => (⟨0, [], 0⟩, 0)
      | some x => (⟨2, [], x⟩, Lx.run Lx.inn1 l)
    else if Lx.isKey (l.take (Lx.run Lx.inn1 l)) then (⟨3, l.take (Lx.run Lx.inn1 l), 0⟩, Lx.run Lx.inn1 l)
    else if Lx.isName (l.take (Lx.run Lx.inn1 l)) then (⟨1, l.take (Lx.run Lx.inn1 l), 0⟩, Lx.run Lx.inn1 l)
    else (⟨0, [], 0⟩, 0)
  else if 2 ≤ l.length ∧ Lx.isSign (l.take 2) = true then (⟨4, l.take 2, 0⟩, 2)
  else if 1 ≤ l.length ∧ Lx.isSign (l.take 1) = true then (⟨4, l.take 1, 0⟩, 1) else (⟨0, [], 0⟩, 0)
def rfV (x : Lx.Tk × Nat) : Value := .tuple #[tokV x.1 0, .int .i64 (x.2 : Int)]

set_option maxRecDepth 100000 in
set_option maxHeartbeats 1000000 in
theorem rfirst_dig (s : ByteArray) (w : World) (hs : s.size ≤ 1000000) (h0 : 0 < Lx.run Lx.inn1 s.data.toList) (hd : Lx.dig1 (s.data.toList.headD 0).toNat = true) :
    Calls Try.prog 33 #[.string s] w fun e w' => e = .returned (rfV (rfirst s.data.toList)) ∧ Below w.heap.size w w' := by
  have hr := Lx.run_le Lx.inn1 s.data.toList
  rw [size_len'] at hr
  obtain ⟨n, hn⟩ : ∃ n, n = Lx.run Lx.inn1 s.data.toList := ⟨_, rfl⟩
  have HN : Hid (n = Lx.run Lx.inn1 s.data.toList) := hn
  rw [← hn] at hr h0
  have hz : (s.extract 0 n).size ≤ 140737488351232 := by rw [ByteArray.size_extract]; omega
  have F0 : Hid (rfirst s.data.toList = match Pl.parse (s.data.toList.take n) with
      | none => (⟨0, [], 0⟩, 0)
      | some x => (⟨2, [], x⟩, n)) := by
    unfold Hid rfirst; rw [if_pos (by omega), if_pos hd, ← hn]
  have hp : 0 < s.size := Nat.lt_of_lt_of_le h0 hr
  rw [head_is s hp] at hd
  have HD : Hid (Lx.dig1 s[0].toNat = true) := hd
  have HZ : Hid ((s.extract 0 n).size ≤ 140737488351232) := hz
  clear hn hd hz
  go_enter Try.func33, Try.ntmps33
  go_wp2_with fail
  refine (rrun_any s _ hs).mono ?_
  rintro e w' ⟨rfl, rfl⟩
  rw [← HN.out]
  go_wp2_with fail
  refine (rdigit_any _ _).mono ?_
  rintro e w' ⟨rfl, rfl⟩
  rw [HD.out]
  go_wp2_with fail
  refine (rparse_any (s.extract 0 n) _ HZ.out).mono ?_
  rintro e w1 ⟨rfl, b1⟩
  rw [ext_list]
  obtain ⟨⟨c0, c1, c2, c3⟩, ⟨f0, f1, f2, f3⟩, hz, hb⟩ := box_facts b1
  clear b1
  cases hP : Pl.parse (s.data.toList.take n) with
  | none =>
    have F : Hid (rfirst s.data.toList = (⟨0, [], 0⟩, 0)) := by unfold Hid; rw [F0.out, hP]
    rw [Pl.errno_none]
    clear hP
    go_wp2_with fail
    refine bodyPost_ret (v := .tuple #[.agg #[.int .i64 0, .string ⟨#[]⟩, .int .i64 0, .int .i64 0], .int .i64 0]) (by simp [results, Try.results33, go_sem, c0, c1, c2, c3]) rfl ⟨by rw [F.out]; rfl, (((hb.setCell (Nat.le_refl _) _).setCell (Nat.le_refl _) _).setCell (Nat.le_refl _) _).setCell (Nat.le_refl _) _⟩
  | some m =>
    have F : Hid (rfirst s.data.toList = (⟨2, [], m⟩, n)) := by unfold Hid; rw [F0.out, hP]
    rw [Pl.errno_some]
    clear hP
    go_wp2_with fail
    refine bodyPost_ret (v := .tuple #[.agg #[.int .i64 2, .string ⟨#[]⟩, .int .i64 m, .int .i64 0], .int .i64 n]) (by simp [results, Try.results33, go_sem, c0, c1, c2, c3]) rfl ⟨by rw [F.out]; rfl, (((hb.setCell (Nat.le_refl _) _).setCell (Nat.le_refl _) _).setCell (Nat.le_refl _) _).setCell (Nat.le_refl _) _⟩
end Go.Proofs.Ytobiedmmjiedlaa

namespace Go.Proofs.Ytobiedmmjiedlaa
open Go.RowKit

theorem rkeys (w : World) : Calls Try.prog 51 #[] w fun e w' => ∃ b, e = .returned (.slice (some ⟨b, 0, none⟩) 13 13) ∧ Sa w' b 0 keyB ∧ Below w.heap.size w w' := by
  go_enter Try.func51, Try.ntmps51
  go_wp2_with fail
  go_ret
  exact ⟨w.heap.size, rfl, keys_sa w _, box_below w _⟩
theorem rsigns (w : World) : Calls Try.prog 53 #[] w fun e w' => ∃ b, e = .returned (.slice (some ⟨b, 0, none⟩) 21 21) ∧ Sa w' b 0 signB ∧ Below w.heap.size w w' := by
  go_enter Try.func53, Try.ntmps53
  go_wp2_with fail
  go_ret
  exact ⟨w.heap.size, rfl, signs_sa w _, box_below w _⟩
theorem rin_keysB (s : ByteArray) (b : Nat) (w : World) (h : Sa w b 0 keyB) : Calls Try.prog 50 #[.string s, .slice (some ⟨b, 0, none⟩) 13 13] w fun e w' => e = .returned (.bool (Lx.isKey s.data.toList)) ∧ w' = w :=
  rin_any s b 0 13 keyB w h (by decide)
theorem rin_signsB (s : ByteArray) (b : Nat) (w : World) (h : Sa w b 0 signB) : Calls Try.prog 50 #[.string s, .slice (some ⟨b, 0, none⟩) 21 21] w fun e w' => e = .returned (.bool (Lx.isSign s.data.toList)) ∧ w' = w :=
  rin_any s b 0 21 signB w h (by decide)
theorem ext_str (s : ByteArray) (n : Nat) : (⟨(s.data.toList.take n).toArray⟩ : ByteArray) = s.extract 0 n := by
  have h : (s.extract 0 n).data.toList = s.data.toList.take n := ext_list s n
  apply ByteArray.ext
  apply Array.ext'
  rw [h]

set_option maxRecDepth 100000 in
set_option maxHeartbeats 1000000 in
theorem rfirst_key (s : ByteArray) (w : World) (hs : s.size ≤ 1000000) (h0 : 0 < Lx.run Lx.inn1 s.data.toList) (hd : Lx.dig1 (s.data.toList.headD 0).toNat = false)
    (hk : Lx.isKey (s.data.toList.take (Lx.run Lx.inn1 s.data.toList)) = true) :
    Calls Try.prog 33 #[.string s] w fun e w' => e = .returned (rfV (rfirst s.data.toList)) ∧ Below w.heap.size w w' := by
  have hr := Lx.run_le Lx.inn1 s.data.toList
  rw [size_len'] at hr
  obtain ⟨n, hn⟩ : ∃ n, n = Lx.run Lx.inn1 s.data.toList := ⟨_, rfl⟩
  have HN : Hid (n = Lx.run Lx.inn1 s.data.toList) := hn
  rw [← hn] at hr h0 hk
  have F : Hid (rfirst s.data.toList = (⟨3, s.data.toList.take n, 0⟩, n)) := by
    unfold Hid rfirst; rw [if_pos (by omega), if_neg (by rw [hd]; exact Bool.false_ne_true), ← hn, if_pos hk]
  have HK : Hid (Lx.isKey (s.extract 0 n).data.toList = true) := by unfold Hid; rw [ext_list]; exact hk
  have hp : 0 < s.size := Nat.lt_of_lt_of_le h0 hr
  rw [head_is s hp] at hd
  have HD : Hid (Lx.dig1 s[0].toNat = false) := hd
  clear hn hd hk
  go_enter Try.func33, Try.ntmps33
  go_wp2_with fail
  refine (rrun_any s _ hs).mono ?_
  rintro e w' ⟨rfl, rfl⟩
  rw [← HN.out]
  go_wp2_with fail
  refine (rdigit_any _ _).mono ?_
  rintro e w' ⟨rfl, rfl⟩
  rw [HD.out]
  go_wp2_with fail
  refine (rkeys _).mono ?_
  rintro e w1 ⟨b, rfl, hsa, b1⟩
  have HSA : Hid (Sa w1 b 0 keyB) := hsa
  clear hsa
  obtain ⟨⟨c0, c1, c2, c3⟩, ⟨f0, f1, f2, f3⟩, hz, hb⟩ := box_facts b1
  clear b1
  go_wp2_with fail
  refine (rin_keysB _ b _ HSA.out).mono ?_
  rintro e w' ⟨rfl, rfl⟩
  rw [HK.out]
  go_wp2_with fail
  refine bodyPost_ret (v := .tuple #[.agg #[.int .i64 3, .string (s.extract 0 n), .int .i64 0, .int .i64 0], .int .i64 n]) (by simp [results, Try.results33, go_sem, c0, c1, c2, c3]) rfl ⟨by rw [F.out, ← ext_str]; rfl, (((hb.setCell (Nat.le_refl _) _).setCell (Nat.le_refl _) _).setCell (Nat.le_refl _) _).setCell (Nat.le_refl _) _⟩
set_option maxRecDepth 100000 in
set_option maxHeartbeats 1000000 in
theorem rfirst_name (s : ByteArray) (w : World) (hs : s.size ≤ 1000000) (h0 : 0 < Lx.run Lx.inn1 s.data.toList) (hd : Lx.dig1 (s.data.toList.headD 0).toNat = false)
    (hk : Lx.isKey (s.data.toList.take (Lx.run Lx.inn1 s.data.toList)) = false) (hm : Lx.isName (s.data.toList.take (Lx.run Lx.inn1 s.data.toList)) = true) :
    Calls Try.prog 33 #[.string s] w fun e w' => e = .returned (rfV (rfirst s.data.toList)) ∧ Below w.heap.size w w' := by
  have hr := Lx.run_le Lx.inn1 s.data.toList
  rw [size_len'] at hr
  obtain ⟨n, hn⟩ : ∃ n, n = Lx.run Lx.inn1 s.data.toList := ⟨_, rfl⟩
  have HN : Hid (n = Lx.run Lx.inn1 s.data.toList) := hn
  rw [← hn] at hr h0 hk hm
  have F : Hid (rfirst s.data.toList = (⟨1, s.data.toList.take n, 0⟩, n)) := by
    unfold Hid rfirst; rw [if_pos (by omega), if_neg (by rw [hd]; exact Bool.false_ne_true), ← hn, if_neg (by rw [hk]; exact Bool.false_ne_true), if_pos hm]
  have HK : Hid (Lx.isKey (s.extract 0 n).data.toList = false) := by unfold Hid; rw [ext_list]; exact hk
  have HM : Hid (Lx.isName (s.extract 0 n).data.toList = true) := by unfold Hid; rw [ext_list]; exact hm
  have HZ : Hid ((s.extract 0 n).size ≤ 1000000) := by unfold Hid; rw [ByteArray.size_extract]; omega
  have hp : 0 < s.size := Nat.lt_of_lt_of_le h0 hr
  rw [head_is s hp] at hd
  have HD : Hid (Lx.dig1 s[0].toNat = false) := hd
  clear hn hd hk hm
  go_enter Try.func33, Try.ntmps33
  go_wp2_with fail
  refine (rrun_any s _ hs).mono ?_
  rintro e w' ⟨rfl, rfl⟩
  rw [← HN.out]
  go_wp2_with fail
  refine (rdigit_any _ _).mono ?_
  rintro e w' ⟨rfl, rfl⟩
  rw [HD.out]
  go_wp2_with fail
  refine (rkeys _).mono ?_
  rintro e w1 ⟨b, rfl, hsa, b1⟩
  have HSA : Hid (Sa w1 b 0 keyB) := hsa
  have B1 : Hid _ := b1
  clear hsa b1
  go_wp2_with fail
  refine (rin_keysB _ b _ HSA.out).mono ?_
  rintro e w' ⟨rfl, rfl⟩
  rw [HK.out]
  go_wp2_with fail
  refine (risName_any _ _ HZ.out).mono ?_
  rintro e w2 ⟨rfl, b2⟩
  rw [HM.out]
  obtain ⟨⟨c0, c1, c2, c3⟩, ⟨f0, f1, f2, f3⟩, hz, hb⟩ := box_facts (B1.out.trans (b2.mono B1.out.size))
  clear b2
  go_wp2_with fail
  refine bodyPost_ret (v := .tuple #[.agg #[.int .i64 1, .string (s.extract 0 n), .int .i64 0, .int .i64 0], .int .i64 n]) (by simp [results, Try.results33, go_sem, c0, c1, c2, c3]) rfl ⟨by rw [F.out, ← ext_str]; rfl, (((hb.setCell (Nat.le_refl _) _).setCell (Nat.le_refl _) _).setCell (Nat.le_refl _) _).setCell (Nat.le_refl _) _⟩

set_option maxRecDepth 100000 in
set_option maxHeartbeats 1000000 in
theorem rfirst_bad (s : ByteArray) (w : World) (hs : s.size ≤ 1000000) (h0 : 0 < Lx.run Lx.inn1 s.data.toList) (hd : Lx.dig1 (s.data.toList.headD 0).toNat = false)
    (hk : Lx.isKey (s.data.toList.take (Lx.run Lx.inn1 s.data.toList)) = false) (hm : Lx.isName (s.data.toList.take (Lx.run Lx.inn1 s.data.toList)) = false) :
    Calls Try.prog 33 #[.string s] w fun e w' => e = .returned (rfV (rfirst s.data.toList)) ∧ Below w.heap.size w w' := by
  have hr := Lx.run_le Lx.inn1 s.data.toList
  rw [size_len'] at hr
  obtain ⟨n, hn⟩ : ∃ n, n = Lx.run Lx.inn1 s.data.toList := ⟨_, rfl⟩
  have HN : Hid (n = Lx.run Lx.inn1 s.data.toList) := hn
  rw [← hn] at hr h0 hk hm
  have F : Hid (rfirst s.data.toList = (⟨0, [], 0⟩, 0)) := by
    unfold Hid rfirst; rw [if_pos (by omega), if_neg (by rw [hd]; exact Bool.false_ne_true), ← hn, if_neg (by rw [hk]; exact Bool.false_ne_true), if_neg (by rw [hm]; exact Bool.false_ne_true)]
  have HK : Hid (Lx.isKey (s.extract 0 n).data.toList = false) := by unfold Hid; rw [ext_list]; exact hk
  have HM : Hid (Lx.isName (s.extract 0 n).data.toList = false) := by unfold Hid; rw [ext_list]; exact hm
  have HZ : Hid ((s.extract 0 n).size ≤ 1000000) := by unfold Hid; rw [ByteArray.size_extract]; omega
  have hp : 0 < s.size := Nat.lt_of_lt_of_le h0 hr
  have hnb : ((n : Int) == 0) = false := beq_eq_false_iff_ne.2 (by omega)
  rw [head_is s hp] at hd
  have HD : Hid (Lx.dig1 s[0].toNat = false) := hd
  clear hn hd hk hm
  go_enter Try.func33, Try.ntmps33
  go_wp2_with fail
  refine (rrun_any s _ hs).mono ?_
  rintro e w' ⟨rfl, rfl⟩
  rw [← HN.out]
  go_wp2_with fail
  refine (rdigit_any _ _).mono ?_
  rintro e w' ⟨rfl, rfl⟩
  rw [HD.out]
  go_wp2_with fail
  refine (rkeys _).mono ?_
  rintro e w1 ⟨b, rfl, hsa, b1⟩
  have HSA : Hid (Sa w1 b 0 keyB) := hsa
  have B1 : Hid _ := b1
  clear hsa b1
  go_wp2_with fail
  refine (rin_keysB _ b _ HSA.out).mono ?_
  rintro e w' ⟨rfl, rfl⟩
  rw [HK.out]
  go_wp2_with fail
  refine (risName_any _ _ HZ.out).mono ?_
  rintro e w2 ⟨rfl, b2⟩
  rw [HM.out]
  have B3 : Hid _ := B1.out.trans (b2.mono B1.out.size)
  clear b2
  go_wp2_with fail
  go_loopw [8] (fun i wr => ∃ k : Nat, k ≤ 2 ∧ i = .int .i64 k ∧ Below (w.alloc (.cells #[.int .i64 0, .string ⟨#[]⟩, .int .i64 0, .int .i64 0] 88)).heap.size (w.alloc (.cells #[.int .i64 0, .string ⟨#[]⟩, .int .i64 0, .int .i64 0] 88)) wr) (fun i _ => (intOf i).toNat)
  case atStart => exact ⟨2, by omega, rfl, B3.out⟩
  case round =>
    obtain ⟨k, hk, rfl, hbx⟩ := hrel
    by_cases hk0 : 0 < k
    · have BX : Hid _ := hbx
      clear hbx
      go_wp2_with fail
      go_quiet (fail)
      have B2 : Hid _ := below_drewN BX.out nq
      generalize wr.drewN nq = wq at B2 ⊢
      go_wp2_with fail
      go_roundw
      case rel => exact ⟨k - 1, by omega, by go_num, B2.out⟩
      case measure => simp [intOf]; omega
    · obtain ⟨⟨c0, c1, c2, c3⟩, ⟨f0, f1, f2, f3⟩, hz, hb⟩ := box_facts hbx
      clear hbx
      go_wp2_with fail
      refine bodyPost_ret (v := .tuple #[.agg #[.int .i64 0, .string ⟨#[]⟩, .int .i64 0, .int .i64 0], .int .i64 0]) (by simp [results, Try.results33, go_sem, c0, c1, c2, c3]) rfl ⟨by rw [F.out]; rfl, (((hb.setCell (Nat.le_refl _) _).setCell (Nat.le_refl _) _).setCell (Nat.le_refl _) _).setCell (Nat.le_refl _) _⟩

/-- What First answers of a text that begins with no letter, digit or _. -/
theorem rfirst_zero {l : List UInt8} (h : Lx.run Lx.inn1 l = 0) : rfirst l = if 2 ≤ l.length ∧ Lx.isSign (l.take 2) = true then (⟨4, l.take 2, 0⟩, 2)
  else if 1 ≤ l.length ∧ Lx.isSign (l.take 1) = true then (⟨4, l.take 1, 0⟩, 1) else (⟨0, [], 0⟩, 0) := by unfold rfirst; rw [if_neg (by omega)]
theorem rfirst_found {l : List UInt8} {z : Nat} (h : Lx.run Lx.inn1 l = 0) (h0 : 0 < z) (h2 : z ≤ 2) (hl : z ≤ l.length) (hs : Lx.isSign (l.take z) = true) (hn : ∀ y, z < y → y ≤ 2 → ¬ (y ≤ l.length ∧ Lx.isSign (l.take y) = true)) : rfirst l = (⟨4, l.take z, 0⟩, z) := by
  rw [rfirst_zero h]
  by_cases e : z = 2
  · subst e; rw [if_pos ⟨hl, hs⟩]
  · obtain rfl : z = 1 := by omega
    rw [if_neg (hn 2 (by omega) (by omega)), if_pos ⟨hl, hs⟩]
theorem rfirst_lost {l : List UInt8} (h : Lx.run Lx.inn1 l = 0) (hn : ∀ y, 0 < y → y ≤ 2 → ¬ (y ≤ l.length ∧ Lx.isSign (l.take y) = true)) : rfirst l = (⟨0, [], 0⟩, 0) := by
  rw [rfirst_zero h, if_neg (hn 2 (by omega) (by omega)), if_neg (hn 1 (by omega) (by omega))]

end Go.Proofs.Ytobiedmmjiedlaa

namespace Go.Proofs.Ytobiedmmjiedlaa
open Go.RowKit

set_option maxRecDepth 100000 in
set_option maxHeartbeats 1000000 in
theorem rfirst_sign (s : ByteArray) (w : World) (hs : s.size ≤ 1000000) (h0 : Lx.run Lx.inn1 s.data.toList = 0) :
    Calls Try.prog 33 #[.string s] w fun e w' => e = .returned (rfV (rfirst s.data.toList)) ∧ Below w.heap.size w w' := by
  have H0 : Hid (Lx.run Lx.inn1 s.data.toList = 0) := h0
  clear h0
  go_enter Try.func33, Try.ntmps33
  go_wp2_with fail
  refine (rrun_any s _ hs).mono ?_
  rintro e w' ⟨rfl, rfl⟩
  rw [H0.out]
  go_wp2_with fail
  go_loopw [8] (fun i wr => ∃ z : Nat, z ≤ 2 ∧ i = .int .i64 z ∧ Below (w.alloc (.cells #[.int .i64 0, .string ⟨#[]⟩, .int .i64 0, .int .i64 0] 88)).heap.size (w.alloc (.cells #[.int .i64 0, .string ⟨#[]⟩, .int .i64 0, .int .i64 0] 88)) wr ∧ Hid (∀ y, z < y → y ≤ 2 → ¬ (y ≤ s.data.toList.length ∧ Lx.isSign (s.data.toList.take y) = true))) (fun i _ => (intOf i).toNat)
  case atStart => exact ⟨2, by omega, rfl, Below.refl _ _, fun y h1 h2 => absurd h1 (by omega)⟩
  case round =>
    obtain ⟨z, hz2, rfl, hbx, N⟩ := hrel
    have BX : Hid _ := hbx
    clear hbx
    by_cases hz0 : 0 < z
    · by_cases hl : z ≤ s.size
      · have hli : (z : Int) ≤ (s.size : Int) := by omega
        have hq : ∀ w : World, (binOp .geq 3 (.int .i64 (s.size : Int)) (.int .i64 (z : Int))).run Try.prog w = .ok (.bool true) w := fun w => by go_simp
        cases hg : Lx.isSign (s.extract 0 z).data.toList with
        | true =>
          have F : Hid (rfirst s.data.toList = (⟨4, s.data.toList.take z, 0⟩, z)) := rfirst_found H0.out hz0 hz2 (by rw [size_len']; exact hl) (by rw [← ext_list]; exact hg) N.out
          have HG : Hid (Lx.isSign (s.extract 0 z).data.toList = true) := hg
          clear hg
          go_wp2_with fail
          go_region_held3 (fun _ => True) (trivial) (first | (go_at_call 53; refine (rsigns _).mono ?_; rintro e w1 ⟨b, rfl, hsa, b1⟩) | (go_at_call 50; refine (rin_signsB _ _ _ hsa).mono ?_; rintro e w' ⟨rfl, rfl⟩; rw [HG.out]))
          all_goals
          have B1 : Below (w.alloc (.cells #[.int .i64 0, .string ⟨#[]⟩, .int .i64 0, .int .i64 0] 88)).heap.size (w.alloc (.cells #[.int .i64 0, .string ⟨#[]⟩, .int .i64 0, .int .i64 0] 88)) w' := BX.out.trans ⟨b1.os, b1.tape, b1.output, b1.size, fun k hk => b1.block k (Nat.lt_of_lt_of_le hk BX.out.size)⟩
          obtain ⟨⟨c0, c1, c2, c3⟩, ⟨f0, f1, f2, f3⟩, hz, hb⟩ := box_facts B1
          clear b1 B1 hsa
          go_wp2_with fail
          refine bodyPost_ret (v := .tuple #[.agg #[.int .i64 4, .string (s.extract 0 z), .int .i64 0, .int .i64 0], .int .i64 z]) (by simp [results, Try.results33, go_sem, c0, c1, c2, c3]) rfl ⟨by rw [F.out, ← ext_str]; rfl, (((hb.setCell (Nat.le_refl _) _).setCell (Nat.le_refl _) _).setCell (Nat.le_refl _) _).setCell (Nat.le_refl _) _⟩
        | false =>
          have N' : Hid (∀ y, z - 1 < y → y ≤ 2 → ¬ (y ≤ s.data.toList.length ∧ Lx.isSign (s.data.toList.take y) = true)) := by
            intro y h1 h2
            by_cases e : y = z
            · subst e; rw [← ext_list, hg]; exact fun h => absurd h.2 Bool.false_ne_true
            · exact N.out y (by omega) h2
          have HG : Hid (Lx.isSign (s.extract 0 z).data.toList = false) := hg
          clear hg
          go_wp2_with fail
          go_region_held3 (fun _ => True) (trivial) (first | (go_at_call 53; refine (rsigns _).mono ?_; rintro e w1 ⟨b, rfl, hsa, b1⟩) | (go_at_call 50; refine (rin_signsB _ _ _ hsa).mono ?_; rintro e w' ⟨rfl, rfl⟩; rw [HG.out]))
          all_goals
          have B1 : Hid (Below (w.alloc (.cells #[.int .i64 0, .string ⟨#[]⟩, .int .i64 0, .int .i64 0] 88)).heap.size (w.alloc (.cells #[.int .i64 0, .string ⟨#[]⟩, .int .i64 0, .int .i64 0] 88)) w') := BX.out.trans ⟨b1.os, b1.tape, b1.output, b1.size, fun k hk => b1.block k (Nat.lt_of_lt_of_le hk BX.out.size)⟩
          clear b1 hsa
          go_wp2_with fail
          go_roundw
          case rel => exact ⟨z - 1, by omega, by go_num, B1.out, N'⟩
          case measure => simp [intOf]; omega
      · have N' : Hid (∀ y, z - 1 < y → y ≤ 2 → ¬ (y ≤ s.data.toList.length ∧ Lx.isSign (s.data.toList.take y) = true)) := by
          intro y h1 h2
          by_cases e : y = z
          · subst e; rw [size_len']; exact fun h => hl h.1
          · exact N.out y (by omega) h2
        have hlb : decide ((z : Int) ≤ (s.size : Int)) = false := decide_eq_false (by omega)
        go_wp2_with fail
        go_quiet (fail)
        have B2 : Hid _ := below_drewN BX.out nq
        generalize wr.drewN nq = wq at B2 ⊢
        go_wp2_with fail
        go_roundw
        case rel => exact ⟨z - 1, by omega, by go_num, B2.out, N'⟩
        case measure => simp [intOf]; omega
    · obtain rfl : z = 0 := by omega
      have F : Hid (rfirst s.data.toList = (⟨0, [], 0⟩, 0)) := rfirst_lost H0.out N.out
      obtain ⟨⟨c0, c1, c2, c3⟩, ⟨f0, f1, f2, f3⟩, hz, hb⟩ := box_facts BX.out
      go_wp2_with fail
      refine bodyPost_ret (v := .tuple #[.agg #[.int .i64 0, .string ⟨#[]⟩, .int .i64 0, .int .i64 0], .int .i64 0]) (by simp [results, Try.results33, go_sem, c0, c1, c2, c3]) rfl ⟨by rw [F.out]; rfl, (((hb.setCell (Nat.le_refl _) _).setCell (Nat.le_refl _) _).setCell (Nat.le_refl _) _).setCell (Nat.le_refl _) _⟩

/-- The reference's First, for every text. -/
theorem rfirst_any (s : ByteArray) (w : World) (hs : s.size ≤ 1000000) :
    Calls Try.prog 33 #[.string s] w fun e w' => e = .returned (rfV (rfirst s.data.toList)) ∧ Below w.heap.size w w' := by
  by_cases h0 : Lx.run Lx.inn1 s.data.toList = 0
  · exact rfirst_sign s w hs h0
  · have h0 : 0 < Lx.run Lx.inn1 s.data.toList := by omega
    cases hd : Lx.dig1 (s.data.toList.headD 0).toNat with
    | true => exact rfirst_dig s w hs h0 hd
    | false =>
      cases hk : Lx.isKey (s.data.toList.take (Lx.run Lx.inn1 s.data.toList)) with
      | true => exact rfirst_key s w hs h0 hd hk
      | false =>
        cases hm : Lx.isName (s.data.toList.take (Lx.run Lx.inn1 s.data.toList)) with
        | true => exact rfirst_name s w hs h0 hd hk hm
        | false => exact rfirst_bad s w hs h0 hd hk hm
end Go.Proofs.Ytobiedmmjiedlaa

namespace Go.Proofs.Ytobiedmmjiedlaa
open Go.RowKit

/-- What the reference's Text tells of a token beside its text. -/
def rok (t : Lx.Tk) : Bool :=
  if t.kind = 2 then decide (0 ≤ t.num) && t.text.isEmpty
  else decide (t.num = 0) && decide (0 < (rfirst t.text).2) && decide ((rfirst t.text).2 = t.text.length) && decide ((rfirst t.text).1.kind = t.kind)
theorem ret_sb {s : ByteArray} {a b : Bool} (h : a = b) : Ending.returned (.tuple #[.string s, .bool a]) = .returned (.tuple #[.string s, .bool b]) := by rw [h]
theorem box_then {w w1 W : World} {o : Obj} (b1 : Below W.heap.size W w1) (h : W.heap = (w.alloc o).heap) (h1 : W.os = w.os) (h2 : W.tape = w.tape) (h3 : W.output = w.output) : Below w.heap.size w w1 :=
  (box_below w o).trans ⟨b1.os.trans h1, b1.tape.trans h2, b1.output.trans h3, by rw [← h]; exact b1.size, fun k hk => by rw [← h]; exact b1.block k (by rw [h]; simp; omega)⟩

set_option maxRecDepth 100000 in
set_option maxHeartbeats 1000000 in
theorem rtxt_int (l : List UInt8) (n p : Int) (w : World) (h0 : -9223372036854775808 ≤ n) (h1 : n ≤ 9223372036854775807) :
    Calls Try.prog 54 #[.agg #[.int .i64 2, .string ⟨l.toArray⟩, .int .i64 n, .int .i64 p]] w fun e w' => e = .returned (.tuple #[.string ⟨(Lib.itoa n).toArray⟩, .bool (decide (0 ≤ n) && l.isEmpty)]) ∧ Below w.heap.size w w' := by
  have H0 : Hid (-9223372036854775808 ≤ n ∧ n ≤ 9223372036854775807) := ⟨h0, h1⟩
  clear h0 h1
  by_cases hn : 0 ≤ n
  · have hnb : decide ((0 : Int) ≤ n) = true := decide_eq_true hn
    cases hl : l.isEmpty with
    | true =>
      have hl' := emp_true hl
      go_enter Try.func54, Try.ntmps54
      go_wp2_with fail
      go_region_held3 (fun w' => w'.cell? ⟨w.heap.size, 1, none⟩ = some (.string ⟨l.toArray⟩) ∧ w'.cell? ⟨w.heap.size, 2, none⟩ = some (.int .i64 n)) (first | (exact ⟨(b1.cell (by simp)).trans (by simp), (b1.cell (by simp)).trans (by simp)⟩) | go_keep) (first | (go_at_call 72; refine (rtext_any n _ H0.out.1 H0.out.2).mono ?_; rintro e w1 ⟨rfl, b1⟩))
      all_goals
      go_wp2_with fail
      go_ret2
      exact ⟨ret_sb (by simp [hn]), box_then b1 rfl rfl rfl rfl⟩
    | false =>
      have hl' := emp_false hl
      go_enter Try.func54, Try.ntmps54
      go_wp2_with fail
      go_region_held3 (fun w' => w'.cell? ⟨w.heap.size, 1, none⟩ = some (.string ⟨l.toArray⟩) ∧ w'.cell? ⟨w.heap.size, 2, none⟩ = some (.int .i64 n)) (first | (exact ⟨(b1.cell (by simp)).trans (by simp), (b1.cell (by simp)).trans (by simp)⟩) | go_keep) (first | (go_at_call 72; refine (rtext_any n _ H0.out.1 H0.out.2).mono ?_; rintro e w1 ⟨rfl, b1⟩))
      all_goals
      go_wp2_with fail
      go_ret2
      exact ⟨ret_sb (by simp [hn]), box_then b1 rfl rfl rfl rfl⟩
  · have hnb : decide ((0 : Int) ≤ n) = false := decide_eq_false hn
    go_enter Try.func54, Try.ntmps54
    go_wp2_with fail
    first
      | (go_region_with (go_at_call 72; refine (rtext_any n _ H0.out.1 H0.out.2).mono ?_; rintro e w1 ⟨rfl, b1⟩; have d2 : w1.cell? ⟨w.heap.size, 2, none⟩ = some (.int .i64 n) := (b1.cell (by simp)).trans (by simp [go_sem])))
      | fail
    all_goals
    go_wp2_with fail
    go_ret2
    exact ⟨ret_sb (by simp [hnb]), box_then b1 rfl rfl rfl rfl⟩

theorem beq_t {a b : Int} (h : a = b) : (a == b) = true := beq_iff_eq.2 h
theorem beq_f {a b : Int} (h : ¬ a = b) : (a == b) = false := beq_eq_false_iff_ne.2 h
theorem size_text (l : List UInt8) : (⟨l.toArray⟩ : ByteArray).size = l.length := by simp [ByteArray.size]
set_option maxRecDepth 100000 in
set_option maxHeartbeats 1000000 in
theorem rtxt_other (t : Lx.Tk) (p : Int) (w : World) (hk : ¬ t.kind = 2) (hs : t.text.length ≤ 1000000) :
    Calls Try.prog 54 #[.agg #[.int .i64 t.kind, .string ⟨t.text.toArray⟩, .int .i64 t.num, .int .i64 p]] w fun e w' => e = .returned (.tuple #[.string ⟨t.text.toArray⟩, .bool (rok t)]) ∧ Below w.heap.size w w' := by
  obtain ⟨k, l, n⟩ := t
  have hk : ¬ k = 2 := hk
  have hs : l.length ≤ 1000000 := hs
  have hz : (⟨l.toArray⟩ : ByteArray).size ≤ 1000000 := by rw [size_text]; exact hs
  show Calls Try.prog 54 #[.agg #[.int .i64 k, .string ⟨l.toArray⟩, .int .i64 n, .int .i64 p]] w fun e w' => e = .returned (.tuple #[.string ⟨l.toArray⟩, .bool (rok ⟨k, l, n⟩)]) ∧ Below w.heap.size w w'
  have FC : Hid (∀ w, Calls Try.prog 33 #[.string ⟨l.toArray⟩] w fun e w' => e = .returned (rfV (rfirst l)) ∧ Below w.heap.size w w') := fun w => by
    have := rfirst_any ⟨l.toArray⟩ w hz
    rw [text_list] at this
    exact this
  have R : Hid (rok ⟨k, l, n⟩ = (decide (n = 0) && decide (0 < (rfirst l).2) && decide ((rfirst l).2 = l.length) && decide ((rfirst l).1.kind = k))) := by
    unfold Hid rok; rw [if_neg hk]
  have hkb : (k == 2) = false := beq_f hk
  have HK : Hid (¬ k = 2) := hk
  clear hk hz
  obtain ⟨m, hm⟩ : ∃ m, m = (rfirst l).2 := ⟨_, rfl⟩
  rw [← hm] at R
  have FC2 : Hid (∀ w, Calls Try.prog 33 #[.string ⟨l.toArray⟩] w fun e w' => e = .returned (.tuple #[.agg #[.int .i64 (rfirst l).1.kind, .string ⟨(rfirst l).1.text.toArray⟩, .int .i64 (rfirst l).1.num, .int .i64 0], .int .i64 (m : Int)]) ∧ Below w.heap.size w w') := by
    rw [hm]; exact FC.out
  generalize (rfirst l).1 = t' at R FC2
  obtain ⟨k', l', n'⟩ := t'
  clear FC hm
  by_cases hn : n = 0
  · subst hn
    by_cases hm0 : 0 < m
    · have hm0b : decide ((0 : Int) < (m : Int)) = true := decide_eq_true (by omega)
      by_cases hml : m = l.length
      · have hq : ((m : Int) == ((⟨l.toArray⟩ : ByteArray).size : Int)) = true := beq_t (by rw [size_text, hml])
        have hq2 : ((m : Int) == (l.length : Int)) = true := beq_t (by rw [hml])
        have RR : Hid (rok ⟨k, l, 0⟩ = (k' == k)) := by
          unfold Hid; rw [R.out, decide_eq_true hm0, decide_eq_true hml]
          by_cases e : k' = k
          · subst e; simp
          · simp [e]
        clear R hml
        go_enter Try.func54, Try.ntmps54
        go_wp2_with fail
        refine (FC2.out _).mono ?_
        rintro e w1 ⟨rfl, b1⟩
        have hb : Below w.heap.size w w1 := box_then b1 rfl rfl rfl rfl
        have c0 : w1.cell? ⟨w.heap.size, 0, none⟩ = some (.int .i64 k) := (b1.cell (by simp)).trans (by simp [go_sem])
        have c1 : w1.cell? ⟨w.heap.size, 1, none⟩ = some (.string ⟨l.toArray⟩) := (b1.cell (by simp)).trans (by simp [go_sem])
        have c2 : w1.cell? ⟨w.heap.size, 2, none⟩ = some (.int .i64 0) := (b1.cell (by simp)).trans (by simp [go_sem])
        have hzz : w.heap.size < w1.heap.size := Nat.lt_of_lt_of_le (by simp) b1.size
        clear b1
        go_wp2_with fail
        go_quiet (fail)
        go_wp2_with fail
        go_ret2
        exact ⟨ret_sb (by rw [RR.out]), below_drewN (hb.alloc (Nat.le_of_lt hzz) _) _⟩
      · have hq : ((m : Int) == ((⟨l.toArray⟩ : ByteArray).size : Int)) = false := beq_f (by rw [size_text]; omega)
        have hq2 : ((m : Int) == (l.length : Int)) = false := beq_f (by omega)
        have RR : Hid (rok ⟨k, l, 0⟩ = false) := by unfold Hid; rw [R.out, decide_eq_false hml]; simp
        clear R hml
        go_enter Try.func54, Try.ntmps54
        go_wp2_with fail
        refine (FC2.out _).mono ?_
        rintro e w1 ⟨rfl, b1⟩
        have hb : Below w.heap.size w w1 := box_then b1 rfl rfl rfl rfl
        have c0 : w1.cell? ⟨w.heap.size, 0, none⟩ = some (.int .i64 k) := (b1.cell (by simp)).trans (by simp [go_sem])
        have c1 : w1.cell? ⟨w.heap.size, 1, none⟩ = some (.string ⟨l.toArray⟩) := (b1.cell (by simp)).trans (by simp [go_sem])
        have c2 : w1.cell? ⟨w.heap.size, 2, none⟩ = some (.int .i64 0) := (b1.cell (by simp)).trans (by simp [go_sem])
        have hzz : w.heap.size < w1.heap.size := Nat.lt_of_lt_of_le (by simp) b1.size
        clear b1
        go_wp2_with fail
        go_quiet (fail)
        go_wp2_with fail
        go_ret2
        exact ⟨ret_sb (by rw [RR.out]), below_drewN (hb.alloc (Nat.le_of_lt hzz) _) _⟩
    · have hm0b : decide ((0 : Int) < (m : Int)) = false := decide_eq_false (by omega)
      have RR : Hid (rok ⟨k, l, 0⟩ = false) := by unfold Hid; rw [R.out, decide_eq_false hm0]; simp
      clear R
      go_enter Try.func54, Try.ntmps54
      go_wp2_with fail
      refine (FC2.out _).mono ?_
      rintro e w1 ⟨rfl, b1⟩
      have hb : Below w.heap.size w w1 := box_then b1 rfl rfl rfl rfl
      have c0 : w1.cell? ⟨w.heap.size, 0, none⟩ = some (.int .i64 k) := (b1.cell (by simp)).trans (by simp [go_sem])
      have c1 : w1.cell? ⟨w.heap.size, 1, none⟩ = some (.string ⟨l.toArray⟩) := (b1.cell (by simp)).trans (by simp [go_sem])
      have c2 : w1.cell? ⟨w.heap.size, 2, none⟩ = some (.int .i64 0) := (b1.cell (by simp)).trans (by simp [go_sem])
      have hzz : w.heap.size < w1.heap.size := Nat.lt_of_lt_of_le (by simp) b1.size
      clear b1
      go_wp2_with fail
      go_quiet (fail)
      go_wp2_with fail
      go_ret2
      exact ⟨ret_sb (by rw [RR.out]), below_drewN (hb.alloc (Nat.le_of_lt hzz) _) _⟩
  · have hnb : (n == 0) = false := beq_f hn
    have RR : Hid (rok ⟨k, l, n⟩ = false) := by unfold Hid; rw [R.out, decide_eq_false hn]; rfl
    clear R hn
    go_enter Try.func54, Try.ntmps54
    go_wp2_with fail
    refine (FC2.out _).mono ?_
    rintro e w1 ⟨rfl, b1⟩
    have hb : Below w.heap.size w w1 := box_then b1 rfl rfl rfl rfl
    have c0 : w1.cell? ⟨w.heap.size, 0, none⟩ = some (.int .i64 k) := (b1.cell (by simp)).trans (by simp [go_sem])
    have c1 : w1.cell? ⟨w.heap.size, 1, none⟩ = some (.string ⟨l.toArray⟩) := (b1.cell (by simp)).trans (by simp [go_sem])
    have c2 : w1.cell? ⟨w.heap.size, 2, none⟩ = some (.int .i64 n) := (b1.cell (by simp)).trans (by simp [go_sem])
    have hzz : w.heap.size < w1.heap.size := Nat.lt_of_lt_of_le (by simp) b1.size
    clear b1
    go_wp2_with fail
    go_quiet (fail)
    go_wp2_with fail
    go_ret2
    exact ⟨ret_sb (by rw [RR.out]), below_drewN (hb.alloc (Nat.le_of_lt hzz) _) _⟩
end Go.Proofs.Ytobiedmmjiedlaa

namespace Go.Proofs.Ytobiedmmjiedlaa
open Go.RowKit

theorem rfirst_kind (l : List UInt8) : ((rfirst l).2 = 0 ∧ (rfirst l).1.kind = 0) ∨ (0 < (rfirst l).2 ∧ ((rfirst l).1.kind = 2 ∨ ((rfirst l).1.kind = 3 ∧ Lx.isKey (l.take (rfirst l).2) = true) ∨ ((rfirst l).1.kind = 1 ∧ Lx.isName (l.take (rfirst l).2) = true) ∨ ((rfirst l).1.kind = 4 ∧ Lx.isSign (l.take (rfirst l).2) = true))) := by
  unfold rfirst
  split
  · rename_i h0
    split
    · split
      · exact .inl ⟨rfl, rfl⟩
      · exact .inr ⟨h0, .inl rfl⟩
    · split
      · rename_i h
        exact .inr ⟨h0, .inr (.inl ⟨rfl, h⟩)⟩
      · split
        · rename_i h
          exact .inr ⟨h0, .inr (.inr (.inl ⟨rfl, h⟩))⟩
        · exact .inl ⟨rfl, rfl⟩
  · split
    · rename_i h
      exact .inr ⟨by simp, .inr (.inr (.inr ⟨rfl, h.2⟩))⟩
    · split
      · rename_i h
        exact .inr ⟨by simp, .inr (.inr (.inr ⟨rfl, h.2⟩))⟩
      · exact .inl ⟨rfl, rfl⟩
theorem rfirst_keys : ∀ l ∈ Lx.keys, (rfirst l).2 = l.length ∧ (rfirst l).1.kind = 3 ∧ 0 < l.length := by decide +kernel
theorem rfirst_signs : ∀ l ∈ Lx.signs, (rfirst l).2 = l.length ∧ (rfirst l).1.kind = 4 ∧ 0 < l.length := by decide +kernel
theorem let_not_dig {c : Nat} (h : Lx.let1 c = true) : Lx.dig1 c = false := by
  unfold Lx.let1 at h
  unfold Lx.dig1
  simp at h ⊢
  omega
theorem rfirst_names {l : List UInt8} (h : Lx.isName l = true) : (rfirst l).2 = l.length ∧ (rfirst l).1.kind = 1 ∧ 0 < l.length := by
  have hn := h
  unfold Lx.isName at h
  simp only [Bool.and_eq_true, Bool.not_eq_true', decide_eq_true_eq] at h
  obtain ⟨⟨⟨⟨h1, h2⟩, h3⟩, _⟩, h5⟩ := h
  have h0 : 0 < l.length := by cases l with | nil => simp at h1 | cons a b => simp
  have e : l.take (Lx.run Lx.inn1 l) = l := by rw [h3, List.take_length]
  have : rfirst l = (⟨1, l, 0⟩, l.length) := by
    unfold rfirst
    rw [if_pos (by omega), if_neg (by rw [let_not_dig h2]; exact Bool.false_ne_true), e, if_neg (by rw [h5]; exact Bool.false_ne_true), if_pos hn, h3]
  rw [this]
  exact ⟨rfl, rfl, h0⟩
theorem rok_mid (t : Lx.Tk) (p : Int) : rok t = midTk (t, p) := by
  obtain ⟨k, l, n⟩ := t
  unfold rok midTk rtk
  simp only
  have hf := rfirst_kind l
  have ht : (rfirst l).2 = l.length → l.take (rfirst l).2 = l := fun e => by rw [e, List.take_length]
  by_cases k2 : k = 2
  · subst k2
    rw [if_pos rfl, if_neg (by decide), if_neg (by decide), if_neg (by decide), if_pos rfl, Bool.and_comm]
    simp
  · rw [if_neg k2]
    by_cases k0 : k = 0
    · subst k0
      rw [if_pos rfl, Bool.eq_iff_iff]
      simp only [Bool.and_eq_true, decide_eq_true_eq, not_true_eq_false, false_and, iff_false]
      rintro ⟨⟨⟨h1, h2⟩, h3⟩, h4⟩
      omega
    · rw [if_neg k0]
      by_cases k1 : k = 1
      · subst k1
        rw [if_pos rfl, Bool.eq_iff_iff]
        simp only [Bool.and_eq_true, decide_eq_true_eq]
        constructor
        · rintro ⟨⟨⟨h1, h2⟩, h3⟩, h4⟩
          rw [ht h3] at hf
          rcases hf with h | ⟨_, h | h | h | h⟩
          · omega
          · omega
          · omega
          · exact ⟨by decide, h.2, h1⟩
          · omega
        · rintro ⟨_, h1, h2⟩
          have := rfirst_names h1
          exact ⟨⟨⟨h2, by omega⟩, this.1⟩, this.2.1⟩
      · rw [if_neg k1]
        by_cases k3 : k = 3
        · subst k3
          rw [if_pos rfl, Bool.eq_iff_iff]
          simp only [Bool.and_eq_true, decide_eq_true_eq]
          constructor
          · rintro ⟨⟨⟨h1, h2⟩, h3⟩, h4⟩
            rw [ht h3] at hf
            rcases hf with h | ⟨_, h | h | h | h⟩
            · omega
            · omega
            · exact ⟨by decide, h.2, h1⟩
            · omega
            · omega
          · rintro ⟨_, h1, h2⟩
            have := rfirst_keys l (by unfold Lx.isKey at h1; simpa using h1)
            exact ⟨⟨⟨h2, by omega⟩, this.1⟩, this.2.1⟩
        · rw [if_neg k3, if_neg k2]
          by_cases k4 : k = 4
          · subst k4
            rw [if_pos rfl, Bool.eq_iff_iff]
            simp only [Bool.and_eq_true, decide_eq_true_eq]
            constructor
            · rintro ⟨⟨⟨h1, h2⟩, h3⟩, h4⟩
              rw [ht h3] at hf
              rcases hf with h | ⟨_, h | h | h | h⟩
              · omega
              · omega
              · omega
              · omega
              · exact ⟨by decide, h.2, h1⟩
            · rintro ⟨_, h1, h2⟩
              have := rfirst_signs l (by unfold Lx.isSign at h1; simpa using h1)
              exact ⟨⟨⟨h2, by omega⟩, this.1⟩, this.2.1⟩
          · rw [if_neg k4, Bool.eq_iff_iff]
            simp only [Bool.and_eq_true, decide_eq_true_eq, Bool.false_eq_true, and_false, iff_false]
            rintro ⟨⟨⟨h1, h2⟩, h3⟩, h4⟩
            rcases hf with h | ⟨_, h | h | h | h⟩ <;> omega
/-- The reference's Text, for every token. -/
theorem rtxt_any (x : Tok) (w : World) (hs : x.1.text.length ≤ 1000000) (h0 : -9223372036854775808 ≤ x.1.num) (h1 : x.1.num ≤ 9223372036854775807) :
    Calls Try.prog 54 #[.agg #[.int .i64 x.1.kind, .string ⟨x.1.text.toArray⟩, .int .i64 x.1.num, .int .i64 x.2]] w fun e w' => e = .returned (.tuple #[.string ⟨(txt x).toArray⟩, .bool (midTk x)]) ∧ Below w.heap.size w w' := by
  obtain ⟨t, p⟩ := x
  rw [← rok_mid t p]
  by_cases hk : t.kind = 2
  · obtain ⟨k, l, n⟩ := t
    obtain rfl : k = 2 := hk
    exact rtxt_int l n p w h0 h1
  · have := rtxt_other t p w hk hs
    unfold txt
    rw [if_neg hk]
    exact this
end Go.Proofs.Ytobiedmmjiedlaa

namespace Go.Proofs.Ytobiedmmjiedlaa
open Go.RowKit

/-- How many bytes the first k tokens have, as the reference counts. -/
def totK (ts : List Tok) : Nat → Nat
  | 0 => 0
  | k + 1 => totK ts k + 1 + (ts.getD k tok0).1.text.length
theorem totK_ge (ts : List Tok) : ∀ k, k ≤ totK ts k
  | 0 => Nat.le_refl _
  | k + 1 => by have := totK_ge ts k; unfold totK; omega
theorem totK_text (ts : List Tok) : ∀ k j, j < k → (ts.getD j tok0).1.text.length ≤ totK ts k
  | 0, j, h => absurd h (by omega)
  | k + 1, j, h => by
    unfold totK
    by_cases e : j = k
    · subst e; omega
    · have := totK_text ts k j (by omega); omega
set_option maxRecDepth 100000 in
set_option maxHeartbeats 1000000 in
theorem rright_some (b o cap : Nat) (ts : List Tok) (w : World) (h : Ta w b o ts) (hn : 0 < ts.length) (hl : ts.length ≤ 1000000) (hz : ∀ j, j < ts.length → (ts.getD j tok0).1.text.length ≤ 1000000)
    (hb : ∀ j, j < ts.length → -9223372036854775808 ≤ (ts.getD j tok0).1.num ∧ (ts.getD j tok0).1.num ≤ 9223372036854775807) :
    Calls Try.prog 34 #[.slice (some ⟨b, o, none⟩) ts.length cap] w fun e w' => e = .returned (.bool (rightL ts)) ∧ Below w.heap.size w w' := by
  have HT : Hid (Ta w b o ts) := h
  have HZ : Hid (∀ j, j < ts.length → (ts.getD j tok0).1.text.length ≤ 1000000) := hz
  have HB : Hid (∀ j, j < ts.length → -9223372036854775808 ≤ (ts.getD j tok0).1.num ∧ (ts.getD j tok0).1.num ≤ 9223372036854775807) := hb
  clear h hz hb
  obtain ⟨m, hm⟩ : ∃ m, ts.length = m + 1 := ⟨ts.length - 1, by omega⟩
  have hm0 : ((ts.length : Int) == 0) = false := beq_eq_false_iff_ne.2 (by omega)
  have HM : Hid (ts.length = m + 1) := hm
  have hmi : (ts.length : Int) - 1 = (m : Int) := by omega
  have hm6 : m ≤ 1000000 := by omega
  have hml : m < ts.length := by omega
  obtain ⟨zk, zt, zn, zp, hx⟩ : ∃ kd tx nm pl, ts.getD m tok0 = (⟨kd, tx, nm⟩, pl) := ⟨_, _, _, _, rfl⟩
  have c0 := HT.out.c0 m hml
  have c1 := HT.out.c1 m hml
  have c2 := HT.out.c2 m hml
  have c3 := HT.out.c3 m hml
  rw [hx] at c0 c1 c2 c3
  simp only at c0 c1 c2 c3
  have HX : Hid (ts.getD m tok0 = (⟨zk, zt, zn⟩, zp)) := hx
  clear hx
  go_enter Try.func34, Try.ntmps34
  go_wp2_with fail
  clear hm hm0 c0 c1 c2 c3
  go_loopw [4, 5, 6] (fun i _ _ wr => ∃ k : Nat, k ≤ m ∧ i = .int .i64 k ∧ Below (w.alloc (.cells #[.int .i64 zk, .string ⟨zt.toArray⟩, .int .i64 zn, .int .i64 zp] 88)).heap.size (w.alloc (.cells #[.int .i64 zk, .string ⟨zt.toArray⟩, .int .i64 zn, .int .i64 zp] 88)) wr ∧ Hid (∀ j, j < k → midTk (ts.getD j tok0) = true)) (fun i _ _ _ => m - (intOf i).toNat)
  case atStart => exact ⟨0, by omega, rfl, Below.refl _ _, fun j hj => absurd hj (Nat.not_lt_zero _)⟩
  case round =>
    obtain ⟨k, hk, rfl, hbx, N⟩ := hrel
    have BX : Hid _ := hbx
    clear hbx
    have BW : Hid (Below w.heap.size w wr) := box_then BX.out rfl rfl rfl rfl
    by_cases hlt : k < m
    · have hkl : Hid (k < ts.length) := by have := HM.out; unfold Hid; omega
      have T1 := HT.out.later BW.out
      obtain ⟨kd, tx, nm, pl, hx⟩ : ∃ kd tx nm pl, ts.getD k tok0 = (⟨kd, tx, nm⟩, pl) := ⟨_, _, _, _, rfl⟩
      have c0 := T1.c0 k hkl.out
      have c1 := T1.c1 k hkl.out
      have c2 := T1.c2 k hkl.out
      have c3 := T1.c3 k hkl.out
      rw [hx] at c0 c1 c2 c3
      simp only at c0 c1 c2 c3
      have ZX := HZ.out k hkl.out
      have NX := HB.out k hkl.out
      rw [hx] at ZX NX
      have TX : Hid (∀ w, Calls Try.prog 54 #[.agg #[.int .i64 kd, .string ⟨tx.toArray⟩, .int .i64 nm, .int .i64 pl]] w fun e w' => e = .returned (.tuple #[.string ⟨(txt (⟨kd, tx, nm⟩, pl)).toArray⟩, .bool (midTk (⟨kd, tx, nm⟩, pl))]) ∧ Below w.heap.size w w') := fun w => rtxt_any (⟨kd, tx, nm⟩, pl) w ZX NX.1 NX.2
      have HX2 : Hid (ts.getD k tok0 = (⟨kd, tx, nm⟩, pl)) := hx
      clear hx T1 ZX NX
      have hl1 := HT.out.later BW.out
      have hbl := hl1.lt
      clear hl1
      generalize txt (⟨kd, tx, nm⟩, pl) = tt at TX
      cases hM : midTk (⟨kd, tx, nm⟩, pl) with
      | true =>
        rw [hM] at TX
        have N' : Hid (∀ j, j < k + 1 → midTk (ts.getD j tok0) = true) := fun j hj => by
          by_cases e : j = k
          · subst e; rw [HX2.out]; exact hM
          · exact N.out j (by omega)
        clear hM
        go_wp2_with fail
        refine (TX.out _).mono ?_
        rintro e w2 ⟨rfl, b2⟩
        have B2 : Hid _ := BX.out.trans (b2.mono BX.out.size)
        clear b2 c0 c1 c2 c3
        go_wp2_with fail
        go_roundw
        case rel => exact ⟨_, _, _, _, _, _, _, _, _, _, _, _, _, _, _, _, _, _, _, _, _, ⟨k + 1, by omega, by go_num, B2.out, N'⟩, rfl⟩
        case measure => simp [intOf]; omega
      | false =>
        rw [hM] at TX
        have R : Hid (rightL ts = false) := rightL_no HM.out hlt (by rw [HX2.out]; exact hM)
        clear hM
        go_wp2_with fail
        refine (TX.out _).mono ?_
        rintro e w2 ⟨rfl, b2⟩
        have B2 : Hid (Below w.heap.size w w2) := BW.out.trans (b2.mono BW.out.size)
        clear b2 c0 c1 c2 c3
        go_wp2_with fail
        go_ret
        rw [R.out]
        exact ⟨rfl, B2.out⟩
    · obtain rfl : k = m := by omega
      have R : Hid (rightL ts = (decide (zk = 0) && rtk ⟨zk, zt, zn⟩)) := by
        unfold Hid
        rw [rightL_end HM.out N.out, HX.out]
      have c0 : wr.cell? ⟨w.heap.size, 0, none⟩ = some (.int .i64 zk) := (BX.out.cell (by simp)).trans (by simp [go_sem])
      have c1 : wr.cell? ⟨w.heap.size, 1, none⟩ = some (.string ⟨zt.toArray⟩) := (BX.out.cell (by simp)).trans (by simp [go_sem])
      have c2 : wr.cell? ⟨w.heap.size, 2, none⟩ = some (.int .i64 zn) := (BX.out.cell (by simp)).trans (by simp [go_sem])
      by_cases hk0 : zk = 0
      · subst hk0
        have R2 : Hid (rightL ts = (zt.isEmpty && decide (zn = 0))) := R.out
        clear R
        cases he : zt.isEmpty with
        | true =>
          have he' := emp_true he
          by_cases hn0 : zn = 0
          · subst hn0
            have R3 : Hid (rightL ts = true) := by unfold Hid; rw [R2.out, he]; rfl
            go_wp2_with fail
            go_ret
            rw [R3.out]
            exact ⟨by simp, BW.out⟩
          · have hnb : (zn == 0) = false := beq_f hn0
            have R3 : Hid (rightL ts = false) := by unfold Hid; rw [R2.out, decide_eq_false hn0]; simp
            clear hn0
            go_wp2_with fail
            go_ret
            rw [R3.out]
            exact ⟨by simp, BW.out⟩
        | false =>
          have he' := emp_false he
          have R3 : Hid (rightL ts = false) := by unfold Hid; rw [R2.out, he]; rfl
          go_wp2_with fail
          go_ret
          rw [R3.out]
          exact ⟨by simp, BW.out⟩
      · have hkb : (zk == 0) = false := beq_f hk0
        have R3 : Hid (rightL ts = false) := by unfold Hid; rw [R.out, decide_eq_false hk0]; rfl
        clear hk0 R
        go_wp2_with fail
        go_ret
        rw [R3.out]
        exact ⟨by simp, BW.out⟩
theorem rright_none (a : Option Addr) (cap : Nat) (w : World) : Calls Try.prog 34 #[.slice a 0 cap] w fun e w' => e = .returned (.bool false) ∧ w' = w := by
  go_enter Try.func34, Try.ntmps34
  go_wp2
  go_ret
  exact ⟨rfl, rfl⟩
end Go.Proofs.Ytobiedmmjiedlaa

namespace Go.Proofs.Ytobiedmmjiedlaa
open Go.RowKit

theorem txt_len (x : Tok) (h0 : -9223372036854775808 ≤ x.1.num) (h1 : x.1.num ≤ 9223372036854775807) : (txt x).length ≤ x.1.text.length + 21 := by
  unfold txt
  split
  · have := Pl.itoa_len x.1.num h0 h1; omega
  · omega
/-- How long the texts are, with a byte more each. -/
theorem tot_texts (ts : List Tok) (hb : ∀ j, j < ts.length → -9223372036854775808 ≤ (ts.getD j tok0).1.num ∧ (ts.getD j tok0).1.num ≤ 9223372036854775807) : ∀ (k : Nat) (xs : List ByteArray), k ≤ ts.length → xs.map (·.data.toList) = texts ts k → tot xs xs.length ≤ totK ts k + 22 * k
  | 0, xs, _, h => by
    have : xs = [] := by
      have := congrArg List.length h
      simp [texts] at this
      exact this
    subst this
    simp [tot]
  | k + 1, xs, hk, h => by
    rw [texts_succ] at h
    obtain ⟨ys, z, rfl⟩ : ∃ ys z, xs = ys ++ [z] := by
      have hne : xs ≠ [] := by intro e; subst e; simp at h
      exact ⟨xs.dropLast, xs.getLast hne, (List.dropLast_concat_getLast hne).symm⟩
    rw [List.map_append] at h
    have hl : (ys.map (·.data.toList)).length = (texts ts k).length := by
      have := congrArg List.length h
      simp at this ⊢
      exact this
    obtain ⟨e1, e2⟩ := List.append_inj h hl
    have ih := tot_texts ts hb k ys (by omega) e1
    have hz : z.size = (txt (ts.getD k tok0)).length := by
      have := congrArg List.length (List.cons.inj e2).1
      rw [size_len'] at this
      exact this
    have ht := txt_len (ts.getD k tok0) (hb k (by omega)).1 (hb k (by omega)).2
    have hy : tot (ys ++ [z]) ys.length = tot ys ys.length := by unfold tot; rw [List.take_append_of_le_length (Nat.le_refl _)]
    rw [List.length_append, List.length_singleton, tot_succ _ _ (by simp), hy]
    have hg : (ys ++ [z]).getD ys.length ByteArray.empty = z := by simp
    rw [hg]
    unfold totK
    omega

end Go.Proofs.Ytobiedmmjiedlaa

namespace Go.Proofs.Ytobiedmmjiedlaa
open Go.RowKit

/-- The value v is a slice of the tokens ts. -/
structure ArgT (w : World) (v : Value) (ts : List Tok) : Prop where
  sl : (ts = [] ∧ ∃ a cap, v = .slice a 0 cap) ∨ (0 < ts.length ∧ ∃ b o cap, v = .slice (some ⟨b, o, none⟩) ts.length cap ∧ ts.length ≤ cap ∧ Ta w b o ts)
  zt : ∀ j, j < ts.length → (ts.getD j tok0).1.text.length ≤ 140737488351232
  nb : ∀ j, j < ts.length → -9223372036854775808 ≤ (ts.getD j tok0).1.num ∧ (ts.getD j tok0).1.num ≤ 9223372036854775807
theorem ArgT.later {w w' : World} {v : Value} {ts : List Tok} (h : ArgT w v ts) (b : Below w.heap.size w w') : ArgT w' v ts :=
  ⟨by
    rcases h.sl with h1 | ⟨h1, b0, o, cap, h2, h3, h4⟩
    · exact .inl h1
    · exact .inr ⟨h1, b0, o, cap, h2, h3, h4.later b⟩, h.zt, h.nb⟩
def pT (ts : List Tok) : List UInt8 := if rightL ts then printL ts else []
def pE (ts : List Tok) : Int := if rightL ts then 0 else 32
theorem right_nil : rightL [] = false := rfl
theorem printL_len (ts : List Tok) (hb : ∀ j, j < ts.length → -9223372036854775808 ≤ (ts.getD j tok0).1.num ∧ (ts.getD j tok0).1.num ≤ 9223372036854775807) (h6 : totK ts ts.length ≤ 6000) : (printL ts).length ≤ 200000 := by
  by_cases h0 : ts.length = 0
  · have : ts = [] := List.length_eq_zero_iff.1 h0
    subst this
    decide
  · obtain ⟨m, hm⟩ : ∃ m, ts.length = m + 1 := ⟨ts.length - 1, by omega⟩
    obtain ⟨xs, hx⟩ : ∃ xs : List ByteArray, xs = (texts ts m).map fun l => ⟨l.toArray⟩ := ⟨_, rfl⟩
    have hx2 : xs.map (·.data.toList) = texts ts m := by rw [hx, List.map_map]; simp [Function.comp_def]
    have h1 := tot_texts ts hb m xs (by omega) hx2
    have h2 := join_len xs xs.length (Nat.le_refl _)
    rw [List.take_length, hx2] at h2
    rw [hm] at h6
    unfold totK at h6
    have hk := totK_ge ts m
    unfold printL
    rw [hm, Nat.add_sub_cancel]
    omega

section
variable {w w' : World} {v : Value} {ts : List Tok}
theorem a_len (h6 : totK ts ts.length ≤ 6000) : ts.length ≤ 6000 := Nat.le_trans (totK_ge ts _) h6
theorem a_text (h6 : totK ts ts.length ≤ 6000) (j : Nat) (hj : j < ts.length) : (ts.getD j tok0).1.text.length ≤ 6000 := Nat.le_trans (totK_text ts _ j hj) h6
theorem a_rright (A : ArgT w v ts) (b : Below w.heap.size w w') (h6 : totK ts ts.length ≤ 6000) : Calls Try.prog 34 #[v] w' fun e w'' => e = .returned (.bool (rightL ts)) ∧ Below w'.heap.size w' w'' := by
  have A' := A.later b
  have hl := a_len h6
  rcases A'.sl with ⟨rfl, a, cap, rfl⟩ | ⟨h1, b0, o, cap, rfl, h3, h4⟩
  · refine (rright_none a cap w').mono ?_
    rintro e w'' ⟨rfl, rfl⟩
    exact ⟨rfl, Below.refl _ _⟩
  · exact rright_some b0 o cap ts w' h4 h1 (by omega) (fun j hj => Nat.le_trans (a_text h6 j hj) (by omega)) A'.nb
end

end Go.Proofs.Ytobiedmmjiedlaa

namespace Go.Proofs.Ytobiedmmjiedlaa
open Go.ChangeShapes Go.WideShapes Go.ChangeAt Go.RowKit
set_option maxRecDepth 100000

theorem add_plain6 {b o n : Nat} : (⟨b, o, none⟩ : Addr).add n = ⟨b, o + n, none⟩ := by unfold Addr.add; split <;> simp_all
theorem in_weightsAll {H : Type} {P : Program} {e : TypeId} {n : Nat} {d : DataW H} : ∀ {ds : List (DataW H)}, d ∈ ds → n ∈ d.weights P e → n ∈ DataW.weightsAll P e ds
  | [], h, _ => by cases h
  | x :: r, h, hn => by
    rw [DataW.weightsAll, List.mem_append]
    rcases List.mem_cons.1 h with rfl | h
    · exact .inl hn
    · exact .inr (in_weightsAll h hn)
/-- A token's datum, read. -/
def tokOf {H : Type} : DataW H → Tok
  | .agg [.lit (.int _ k), .lit (.string s), .lit (.int _ m), .lit (.int _ p)] => (⟨k, s, m⟩, p)
  | _ => tok0
theorem tok_open {H : Type} {enc : TypeId × Value → H} {P : Program} {w : World} {base : Nat} {sp : Nat → Bool} {held : Bool} {e : TypeId} {f0 f1 f2 f3 : Field} {n : Nat} {a : Addr} {cs : List Value} {y : DataW H × List MemPlace}
    (he : P.underlying e = some (.struct #[f0, f1, f2, f3])) (o0 : f0.offset = 0) (o1 : f1.offset = 1) (o2 : f2.offset = 2) (o3 : f3.offset = 3)
    (c0 : P.cellsOf f0.type = 1) (c1 : P.cellsOf f1.type = 1) (c2 : P.cellsOf f2.type = 1) (c3 : P.cellsOf f3.type = 1)
    (u0 : P.underlying f0.type = some (.int .i64)) (u1 : P.underlying f1.type = some .string) (u2 : P.underlying f2.type = some (.int .i64)) (u3 : P.underlying f3.type = some (.int .i64))
    (h1 : w.cells? base a 4 = some cs) (h2 : DataW.trod enc P w base sp held n e cs = some y) :
    ∃ k s m p, w.cell? (a.add 0) = some (.int .i64 k) ∧ w.cell? (a.add 1) = some (.string s) ∧ w.cell? (a.add 2) = some (.int .i64 m) ∧ w.cell? (a.add 3) = some (.int .i64 p) ∧
      y.1 = .agg [.lit (.int .i64 k), .lit (.string s.data.toList), .lit (.int .i64 m), .lit (.int .i64 p)] ∧ (Lit.int .i64 m).wf = true := by
  obtain ⟨_, hlen, hcell⟩ := World.cells?_some h1
  obtain ⟨xs, k, _, hxy, _, hxl, hf⟩ := DataW.trod_struct he h2
  match xs, hxl, cs, hlen with
  | [y0, y1, y2, y3], _, [v0, v1, v2, v3], _ =>
    have g0 := hf 0 f0 rfl
    have g1 := hf 1 f1 rfl
    have g2 := hf 2 f2 rfl
    have g3 := hf 3 f3 rfl
    simp [o0, o1, o2, o3, c0, c1, c2, c3] at g0 g1 g2 g3
    obtain ⟨a0, b0, d0, _⟩ := DataW.trod_int u0 g0
    obtain ⟨a1, b1, d1, _⟩ := DataW.trod_string u1 g1
    obtain ⟨a2, b2, d2, wf2⟩ := DataW.trod_int u2 g2
    obtain ⟨a3, b3, d3, _⟩ := DataW.trod_int u3 g3
    simp at b0 b1 b2 b3
    subst b0 b1 b2 b3
    refine ⟨a0, a1, a2, a3, by simpa using hcell 0 (by omega), by simpa using hcell 1 (by omega), by simpa using hcell 2 (by omega), by simpa using hcell 3 (by omega), ?_, wf2⟩
    rw [hxy]
    simp [d0, d1, d2, d3]
theorem cTok : Try.prog.cellsOf 88 = 4 := by kernel_rfl
theorem cTokI : Try.prog.cellsOf 3 = 1 := by kernel_rfl
theorem cTokL : Try.prog.cellsOf 2 = 1 := by kernel_rfl
theorem cTokS : Try.prog.cellsOf 9 = 1 := by kernel_rfl

/-- An argument that is a slice of tokens. -/
theorem arg_tok {H : Type} {enc : TypeId × Value → H} {W : World} {a : Option Addr} {len cap : Nat} {d : DataW H} {p : List MemPlace} {ts : List TypeId} {ds : List (DataW H)} {j : Nat}
    (h : ∃ fuel, DataW.trod enc Try.prog W 0 (fun _ => true) true fuel 71 (Value.slice a len cap).cells.toList = some (d, p))
    (hsz : (DataW.weightsEach Try.prog ts ds).all (· ≤ reachBytes) = true) (ht : ts[j]? = some 71) (hd : ds[j]? = some d) : ∃ tks, ArgT W (.slice a len cap) tks := by
  obtain ⟨fuel, hf⟩ := h
  rcases DataW.trod_slice Try.underlying71 hf with ⟨hcs, _⟩ | ⟨x, l, c, elems, rest, n, _, hcs, hx, _, hl, hm, hlen, hel, _, _⟩
  · simp [Value.cells] at hcs
    obtain ⟨rfl, rfl, rfl⟩ := hcs
    exact ⟨[], .inl ⟨rfl, none, 0, rfl⟩, fun j hj => by simp at hj, fun j hj => by simp at hj⟩
  · simp [Value.cells] at hcs
    obtain ⟨rfl, rfl, rfl⟩ := hcs
    have hxd : d = .slice (elems.map (·.1)) (rest.map (·.1)) := (Prod.ext_iff.1 hx).1
    have each : ∀ i, i < elems.length → ∃ k s m q, W.cell? ((x.add (i * 4)).add 0) = some (.int .i64 k) ∧ W.cell? ((x.add (i * 4)).add 1) = some (.string s) ∧ W.cell? ((x.add (i * 4)).add 2) = some (.int .i64 m) ∧ W.cell? ((x.add (i * 4)).add 3) = some (.int .i64 q) ∧
        (elems.map (·.1))[i]? = some (.agg [.lit (.int .i64 k), .lit (.string s.data.toList), .lit (.int .i64 m), .lit (.int .i64 q)]) ∧ (Lit.int .i64 m).wf = true := by
      intro i hi
      have h1 := hel i (by omega)
      rw [List.getElem?_eq_getElem hi, cTok, Option.bind_eq_some_iff] at h1
      obtain ⟨cs', h2, h3⟩ := h1
      obtain ⟨k, s, m, q, e0, e1, e2, e3, e4, e5⟩ := tok_open Try.underlying88 rfl rfl rfl rfl cTokI cTokS cTokL cTokI Try.underlying3 Try.underlying9 Try.underlying2 Try.underlying3 h2 h3
      refine ⟨k, s, m, q, e0, e1, e2, e3, ?_, e5⟩
      rw [List.getElem?_map, List.getElem?_eq_getElem hi, Option.map_some, e4]
    have htok : ∀ i k s m q, (elems.map (·.1))[i]? = some (.agg [.lit (.int .i64 k), .lit (.string s), .lit (.int .i64 m), .lit (.int .i64 q)]) → (elems.map fun y => tokOf y.1).getD i tok0 = (⟨k, s, m⟩, q) := by
      intro i k s m q hi
      rw [List.getElem?_map] at hi
      obtain ⟨y, hy, hy2⟩ := Option.map_eq_some_iff.1 hi
      rw [List.getD_eq_getElem?_getD, List.getElem?_map, hy, Option.map_some, hy2]
      rfl
    by_cases h0 : elems.length = 0
    · have e : len = 0 := by omega
      subst e
      exact ⟨[], .inl ⟨rfl, _, _, rfl⟩, fun j hj => by simp at hj, fun j hj => by simp at hj⟩
    · obtain ⟨b, off, spot⟩ := x
      have hspot : spot = none := by
        obtain ⟨k, s, m, q, e0, _⟩ := each 0 (by omega)
        simpa [Addr.add] using World.cell?_spot e0
      subst hspot
      simp only [add_plain6, Nat.add_zero] at each
      refine ⟨elems.map fun y => tokOf y.1, .inr ⟨by simp; omega, b, off, cap, by rw [List.length_map, hlen], by rw [List.length_map, hlen]; exact hl, ?_⟩, ?_, ?_⟩
      · refine ⟨?_, ?_, ?_, ?_, ?_⟩
        · obtain ⟨k, s, m, q, e0, _⟩ := each 0 (by omega)
          exact World.block_lt_of_cell? W _ e0
        · intro i hi
          rw [List.length_map] at hi
          obtain ⟨k, s, m, q, e0, e1, e2, e3, e4, e5⟩ := each i hi
          rw [htok i _ _ _ _ e4]; exact e0
        · intro i hi
          rw [List.length_map] at hi
          obtain ⟨k, s, m, q, e0, e1, e2, e3, e4, e5⟩ := each i hi
          rw [htok i _ _ _ _ e4]; exact e1
        · intro i hi
          rw [List.length_map] at hi
          obtain ⟨k, s, m, q, e0, e1, e2, e3, e4, e5⟩ := each i hi
          rw [htok i _ _ _ _ e4]; exact e2
        · intro i hi
          rw [List.length_map] at hi
          obtain ⟨k, s, m, q, e0, e1, e2, e3, e4, e5⟩ := each i hi
          rw [htok i _ _ _ _ e4]; exact e3
      · intro i hi
        rw [List.length_map] at hi
        obtain ⟨k, s, m, q, e0, e1, e2, e3, e4, e5⟩ := each i hi
        rw [htok i _ _ _ _ e4]
        have m1 : (DataW.agg [.lit (.int .i64 k), .lit (.string s.data.toList), .lit (.int .i64 m), .lit (.int .i64 q)] : DataW H) ∈ elems.map (·.1) := List.mem_of_getElem? e4
        have m2 : s.data.toList.length ∈ (DataW.agg [.lit (.int .i64 k), .lit (.string s.data.toList), .lit (.int .i64 m), .lit (.int .i64 q)] : DataW H).weights Try.prog 88 := by
          rw [DataW.weights, Try.underlying88]
          simp [DataW.weightsEach, DataW.weights]
        have m3 : s.data.toList.length ∈ (DataW.slice (elems.map (·.1)) (rest.map (·.1)) : DataW H).weights Try.prog 71 := by
          rw [DataW.weights, Try.underlying71]
          exact List.mem_cons_of_mem _ (List.mem_append.2 (.inl (in_weightsAll m1 m2)))
        rw [hxd] at hd
        have := List.all_eq_true.1 hsz _ (DataW.weights_mem_each ht hd _ m3)
        exact of_decide_eq_true this
      · intro i hi
        rw [List.length_map] at hi
        obtain ⟨k, s, m, q, e0, e1, e2, e3, e4, e5⟩ := each i hi
        rw [htok i _ _ _ _ e4]
        exact Pl.bd_of_wf e5
end Go.Proofs.Ytobiedmmjiedlaa
