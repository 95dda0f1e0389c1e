/- The reference's First, for every text. -/
import Derived.Test.YtdjpjoipdlfooaaDoorLexN
import Derived.Test.YtdjpjoipdlfooaaDoorRParse
namespace Go.Proofs.YtdjpjoipdlfooaaDoor
open Go.RowKit

set_option maxRecDepth 100000 in
set_option maxHeartbeats 400000 in
theorem rrun_any (s : ByteArray) (w : World) (hs : s.size ≤ 1000000) : Calls Tryd.prog 38 #[.string s] w fun e w' => e = .returned (.int .i64 (Lx.run Lx.inn1 s.data.toList : Int)) ∧ w' = w := by
  go_enter Tryd.func38, Tryd.ntmps38
  go_wp2
  go_loop [3] (fun i => ∃ k : Nat, k ≤ s.size ∧ i = .int .i64 k ∧ Hid (Lx.run Lx.inn1 s.data.toList = k + Lx.run Lx.inn1 (s.data.toList.drop k))) (fun i => s.size - (intOf i).toNat)
  case atStart => exact ⟨0, by omega, rfl, (Nat.zero_add _).symm⟩
  case round =>
    obtain ⟨k, hk, rfl, R⟩ := hrel
    by_cases hlt : k < s.size
    · cases hI : Lx.inn1 s[k].toNat with
      | true =>
        have R' : Hid _ := run_yes hlt R.out hI
        have HI : Hid (Lx.inn1 s[k].toNat = true) := hI
        clear hI
        go_wp2_with fail
        refine (rinner_any _ _).mono ?_
        rintro e w' ⟨rfl, rfl⟩
        rw [HI.out]
        go_wp2_with fail
        exact ⟨⟨k + 1, by omega, by go_num, R'⟩, by simp [intOf]; omega⟩
      | false =>
        have R' : Hid _ := run_no hlt R.out hI
        have HI : Hid (Lx.inn1 s[k].toNat = false) := hI
        clear hI
        go_wp2_with fail
        refine (rinner_any _ _).mono ?_
        rintro e w' ⟨rfl, rfl⟩
        rw [HI.out]
        go_wp2_with fail
        go_ret
        exact ⟨ret_i64 (by rw [R'.out]), rfl⟩
    · have R' : Hid _ := run_end hlt R.out
      go_wp2
      go_ret
      exact ⟨ret_i64 (by rw [R'.out]), rfl⟩

def signB : List ByteArray := Lx.signs.map fun l => ⟨l.toArray⟩
theorem signB_lists (l : List UInt8) : hasB signB l = Lx.isSign l := rfl
theorem signs_sa (w : World) (t : TypeId) : Sa (w.alloc (.cells signsA t)) w.heap.size 0 signB := by
  refine ⟨by simp, fun j hj => ?_⟩
  have hj : j < 21 := hj
  rw [Nat.zero_add, World.cell?_alloc_at _ _ _ _ rfl]
  match j, hj with
  | 0, _ => rfl | 1, _ => rfl | 2, _ => rfl | 3, _ => rfl | 4, _ => rfl | 5, _ => rfl | 6, _ => rfl
  | 7, _ => rfl | 8, _ => rfl | 9, _ => rfl | 10, _ => rfl | 11, _ => rfl | 12, _ => rfl | 13, _ => rfl
  | 14, _ => rfl | 15, _ => rfl | 16, _ => rfl | 17, _ => rfl | 18, _ => rfl | 19, _ => rfl | 20, _ => rfl
  | n + 21, h => exact absurd h (by omega)
theorem rin_signs (s : ByteArray) (w : World) (t : TypeId) : Calls Tryd.prog 41 #[.string s, .slice (some ⟨w.heap.size, 0, none⟩) 21 21] (w.alloc (.cells signsA t)) fun e w' => e = .returned (.bool (Lx.isSign s.data.toList)) ∧ Below w.heap.size w w' := by
  refine (rin_any s w.heap.size 0 21 signB _ (signs_sa w t) (by decide)).mono ?_
  rintro e w' ⟨rfl, rfl⟩
  rw [signB_lists]
  exact ⟨rfl, box_below w _⟩

/-- What the reference's First answers: a token and its length; 0: none. -/
def rfirst (l : List UInt8) : Lx.Tk × Nat :=
  if 0 < Lx.run Lx.inn1 l then
    if Lx.dig1 (l.headD 0).toNat then match Pl.parse (l.take (Lx.run Lx.inn1 l)) with
      | none => (⟨0, [], 0⟩, 0)
      | some x => (⟨2, [], x⟩, Lx.run Lx.inn1 l)
    else if Lx.isKey (l.take (Lx.run Lx.inn1 l)) then (⟨3, l.take (Lx.run Lx.inn1 l), 0⟩, Lx.run Lx.inn1 l)
    else if Lx.isName (l.take (Lx.run Lx.inn1 l)) then (⟨1, l.take (Lx.run Lx.inn1 l), 0⟩, Lx.run Lx.inn1 l)
    else (⟨0, [], 0⟩, 0)
  else if 2 ≤ l.length ∧ Lx.isSign (l.take 2) = true then (⟨4, l.take 2, 0⟩, 2)
  else if 1 ≤ l.length ∧ Lx.isSign (l.take 1) = true then (⟨4, l.take 1, 0⟩, 1) else (⟨0, [], 0⟩, 0)
def rfV (x : Lx.Tk × Nat) : Value := .tuple #[tokV x.1 0, .int .i64 (x.2 : Int)]

set_option maxRecDepth 100000 in
set_option maxHeartbeats 1000000 in
theorem rfirst_dig (s : ByteArray) (w : World) (hs : s.size ≤ 1000000) (h0 : 0 < Lx.run Lx.inn1 s.data.toList) (hd : Lx.dig1 (s.data.toList.headD 0).toNat = true) :
    Calls Tryd.prog 26 #[.string s] w fun e w' => e = .returned (rfV (rfirst s.data.toList)) ∧ Below w.heap.size w w' := by
  have hr := Lx.run_le Lx.inn1 s.data.toList
  rw [size_len'] at hr
  obtain ⟨n, hn⟩ : ∃ n, n = Lx.run Lx.inn1 s.data.toList := ⟨_, rfl⟩
  have HN : Hid (n = Lx.run Lx.inn1 s.data.toList) := hn
  rw [← hn] at hr h0
  have hz : (s.extract 0 n).size ≤ 140737488351232 := by rw [ByteArray.size_extract]; omega
  have F0 : Hid (rfirst s.data.toList = match Pl.parse (s.data.toList.take n) with
      | none => (⟨0, [], 0⟩, 0)
      | some x => (⟨2, [], x⟩, n)) := by
    unfold Hid rfirst; rw [if_pos (by omega), if_pos hd, ← hn]
  have hp : 0 < s.size := Nat.lt_of_lt_of_le h0 hr
  rw [head_is s hp] at hd
  have HD : Hid (Lx.dig1 s[0].toNat = true) := hd
  have HZ : Hid ((s.extract 0 n).size ≤ 140737488351232) := hz
  clear hn hd hz
  go_enter Tryd.func26, Tryd.ntmps26
  go_wp2_with fail
  refine (rrun_any s _ hs).mono ?_
  rintro e w' ⟨rfl, rfl⟩
  rw [← HN.out]
  go_wp2_with fail
  refine (rdigit_any _ _).mono ?_
  rintro e w' ⟨rfl, rfl⟩
  rw [HD.out]
  go_wp2_with fail
  refine (rparse_any (s.extract 0 n) _ HZ.out).mono ?_
  rintro e w1 ⟨rfl, b1⟩
  rw [ext_list]
  obtain ⟨⟨c0, c1, c2, c3⟩, ⟨f0, f1, f2, f3⟩, hz, hb⟩ := box_facts b1
  clear b1
  cases hP : Pl.parse (s.data.toList.take n) with
  | none =>
    have F : Hid (rfirst s.data.toList = (⟨0, [], 0⟩, 0)) := by unfold Hid; rw [F0.out, hP]
    rw [Pl.errno_none]
    clear hP
    go_wp2_with fail
    refine bodyPost_ret (v := .tuple #[.agg #[.int .i64 0, .string ⟨#[]⟩, .int .i64 0, .int .i64 0], .int .i64 0]) (by simp [results, Tryd.results26, go_sem, c0, c1, c2, c3]) rfl ⟨by rw [F.out]; rfl, (((hb.setCell (Nat.le_refl _) _).setCell (Nat.le_refl _) _).setCell (Nat.le_refl _) _).setCell (Nat.le_refl _) _⟩
  | some m =>
    have F : Hid (rfirst s.data.toList = (⟨2, [], m⟩, n)) := by unfold Hid; rw [F0.out, hP]
    rw [Pl.errno_some]
    clear hP
    go_wp2_with fail
    refine bodyPost_ret (v := .tuple #[.agg #[.int .i64 2, .string ⟨#[]⟩, .int .i64 m, .int .i64 0], .int .i64 n]) (by simp [results, Tryd.results26, go_sem, c0, c1, c2, c3]) rfl ⟨by rw [F.out]; rfl, (((hb.setCell (Nat.le_refl _) _).setCell (Nat.le_refl _) _).setCell (Nat.le_refl _) _).setCell (Nat.le_refl _) _⟩
end Go.Proofs.YtdjpjoipdlfooaaDoor
