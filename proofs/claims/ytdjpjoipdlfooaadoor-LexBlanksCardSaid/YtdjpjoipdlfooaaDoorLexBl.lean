/- LexBlanks walked. -/
import Derived.Test.YtdjpjoipdlfooaaDoorLexM
import Derived.Test.YtdjpjoipdlfooaaDoorLexJ
import Derived.Test.YtdjpjoipdlfooaaDoorScanT
import Derived.Deep.RegionWith
namespace Go.Proofs.YtdjpjoipdlfooaaDoor
open Go.RowKit

/-- What LexBlanks puts in. -/
def moreB (r : Nat) : List UInt8 := ([[32], [10], [32, 32, 10, 32], [32, 35, 32, 97, 32, 34, 98, 34, 32, 49, 32, 64, 10], [35, 10]] : List (List UInt8)).getD r []
theorem moreB_more : ∀ r, r < 5 → Lx.More (moreB r)
  | 0, _ => Lx.more0 | 1, _ => Lx.more1 | 2, _ => Lx.more2 | 3, _ => Lx.more3 | 4, _ => Lx.more4
  | n + 5, h => absurd h (by omega)
theorem moreB_len : ∀ r, r < 5 → (moreB r).length ≤ 13 := by decide
theorem more_cell (w : World) (T : TypeId) : ∀ r, r < 5 → (w.alloc (.cells #[.string ⟨#[32]⟩, .string ⟨#[10]⟩, .string ⟨#[32, 32, 10, 32]⟩, .string ⟨#[32, 35, 32, 97, 32, 34, 98, 34, 32, 49, 32, 64, 10]⟩, .string ⟨#[35, 10]⟩] T)).cell? ⟨w.heap.size, r, none⟩ = some (.string ⟨(moreB r).toArray⟩) := by
  intro r hr
  rw [World.cell?_alloc_at _ _ _ _ rfl]
  match r, hr with
  | 0, _ => rfl | 1, _ => rfl | 2, _ => rfl | 3, _ => rfl | 4, _ => rfl
  | n + 5, h => exact absurd h (by omega)

set_option maxRecDepth 100000 in
set_option maxHeartbeats 400000 in
theorem blanks_long (s : ByteArray) (which how : Int) (w : World) (ht : Kw w ∧ Tab w) (h3 : ¬ s.size ≤ 3000) : Calls Tryd.prog 6 #[.string s, .int .i64 which, .int .i64 how] w fun e w' => e = .returned (.bool true) ∧ Below w.heap.size w w' := by
  have HT : Hid (Kw w ∧ Tab w) := ht
  clear ht
  go_enter Tryd.func6, Tryd.ntmps6
  go_wp2_with fail
  refine (known2 _ HT.out.1 HT.out.2).mono ?_
  rintro e w2 ⟨rfl, b2⟩
  go_wp2_with fail
  go_ret
  exact ⟨rfl, b2⟩
set_option maxRecDepth 100000 in
set_option maxHeartbeats 400000 in
theorem blanks_err (s : ByteArray) (which how : Int) (w : World) (ht : Kw w ∧ Tab w) (h3 : s.size ≤ 3000) (he : ((Lx.scan s.data.toList).2.2 == 0) = false) : Calls Tryd.prog 6 #[.string s, .int .i64 which, .int .i64 how] w fun e w' => e = .returned (.bool true) ∧ Below w.heap.size w w' := by
  have HT : Hid (Kw w ∧ Tab w) := ht
  clear ht
  go_enter Tryd.func6, Tryd.ntmps6
  go_wp2_with fail
  refine (scan_short s _ (by omega) HT.out.1).mono ?_
  rintro e w1 ⟨v, rfl, ho, b1⟩
  generalize (Lx.scan s.data.toList).2.2 = er at he ⊢
  clear ho
  have T1 : Hid (Kw w1 ∧ Tab w1) := ⟨HT.out.1.later b1, HT.out.2.later b1 (Nat.le_refl _)⟩
  go_wp2_with fail
  refine (known2 _ T1.out.1 T1.out.2).mono ?_
  rintro e w2 ⟨rfl, b2⟩
  go_wp2_with fail
  go_ret
  exact ⟨rfl, b1.trans (b2.mono b1.size)⟩

/-- The text with more put in at a place. -/
def putB (s : ByteArray) (a r : Nat) : ByteArray := s.extract 0 a ++ ⟨(moreB r).toArray⟩ ++ s.extract a s.size
theorem putB_list (s : ByteArray) (a r : Nat) : (putB s a r).data.toList = s.data.toList.take a ++ (moreB r ++ s.data.toList.drop a) := by
  unfold putB
  rw [ByteArray.data_append, ByteArray.data_append, Array.toList_append, Array.toList_append, ext_list, ext_end, List.append_assoc]
theorem scan_put {s : ByteArray} {R : List (Lx.Tk × Nat)} {k r : Nat} (h3 : s.size ≤ 3000) (hs : Lx.scan s.data.toList = (R, 0, 0)) (hk : k < R.length) (hr : r < 5) :
    (R.getD k (⟨0, [], 0⟩, 0)).2 ≤ s.size ∧ (putB s (R.getD k (⟨0, [], 0⟩, 0)).2 r).size ≤ 16384 ∧ ∃ R', Lx.scan (putB s (R.getD k (⟨0, [], 0⟩, 0)).2 r).data.toList = (R', 0, 0) ∧ R'.map (·.1) = R.map (·.1) := by
  obtain ⟨hT, h4⟩ := Lx.scan_toks hs
  obtain ⟨y, hy⟩ : ∃ y, y = R.getD k (⟨0, [], 0⟩, 0) := ⟨_, rfl⟩
  have hm : y ∈ R := by rw [hy, List.getD_eq_getElem?_getD, List.getElem?_eq_getElem hk]; exact List.getElem_mem hk
  rw [← hy]
  have hg := (hT.ge (Nat.zero_le _) y hm).2
  have hl := moreB_len r hr
  have hz : (putB s y.2 r).data.toList.length ≤ 16384 := by rw [putB_list]; simp; rw [size_len'] at hg; omega
  obtain ⟨R', h1, h2⟩ := Lx.toks_put (moreB_more r hr) hg hT (Nat.zero_le _) ⟨y, hm, rfl⟩
  rw [size_len'] at hg hz
  refine ⟨hg, hz, R', ?_, h2⟩
  rw [putB_list]
  refine Lx.toks_scan ?_ h1 ?_
  · rw [← putB_list, size_len']; exact hz
  · have := congrArg List.length h2
    simp at this
    omega
theorem map_getD {R R' : List (Lx.Tk × Nat)} (h : R'.map (·.1) = R.map (·.1)) (j : Nat) (hj : j < R.length) : ((R'.map tkI).getD j tok0).1 = ((R.map tkI).getD j tok0).1 := by
  have hl : R'.length = R.length := by have := congrArg List.length h; simpa using this
  have e := congrArg (fun l => l[j]?) h
  simp at e
  rw [List.getElem?_eq_getElem (by omega), List.getElem?_eq_getElem hj] at e
  simp at e
  simp [hj, hl, tkI, e]

set_option maxRecDepth 100000 in
set_option maxHeartbeats 4000000 in
theorem blanks_ok (s : ByteArray) (which how : Int) (R : List (Lx.Tk × Nat)) (w : World) (ht : Kw w ∧ Tab w) (h3 : s.size ≤ 3000) (hs : Lx.scan s.data.toList = (R, 0, 0)) : Calls Tryd.prog 6 #[.string s, .int .i64 which, .int .i64 how] w fun e w' => e = .returned (.bool true) ∧ Below w.heap.size w w' := by
  have HT : Hid (Kw w ∧ Tab w) := ht
  have HS : Hid (Lx.scan s.data.toList = (R, 0, 0)) := hs
  have hR := (Lx.scan_toks hs).1.ne
  have h4 := (Lx.scan_toks hs).2
  have h0 : 0 < R.length := by cases R with | nil => exact absurd rfl hR | cons a b => simp
  have h0b : ((R.length : Int) == 0) = false := beq_eq_false_iff_ne.2 (by omega)
  clear ht hs
  go_enter Tryd.func6, Tryd.ntmps6
  go_wp2_with fail
  refine (scan_short s _ (by omega) HT.out.1).mono ?_
  rintro e w1 ⟨v, rfl, ho, b1⟩
  rw [HS.out] at ho ⊢
  obtain ⟨g, cap, rfl, hcap, hg, T⟩ := ho.ta hR
  have TA : Hid (Ta w1 g 0 (R.map tkI)) := T
  have B1 : Hid (Below w.heap.size w w1) := b1
  clear ho hR T b1
  go_wp2_with fail
  refine (among_any how 5 _ (by decide) (by decide)).mono ?_
  rintro e w' ⟨r, rfl, hr, rfl⟩
  have hr5 : r < 5 := by omega
  have hcell := fun T => more_cell w1 T r hr5
  go_wp2_with fail
  refine (among_any which (R.length : Int) _ (by omega) (by omega)).mono ?_
  rintro e w' ⟨k, rfl, hk, rfl⟩
  have hk : k < R.length := by omega
  obtain ⟨a, ha⟩ : ∃ a, a = (R.getD k (⟨0, [], 0⟩, 0)).2 := ⟨_, rfl⟩
  obtain ⟨hp1, hp2, R', hp3, hp4⟩ := scan_put h3 HS.out hk hr5
  rw [← ha] at hp1 hp2 hp3
  have P2 : Hid ((putB s a r).size ≤ 16384) := hp2
  have P3 : Hid (Lx.scan (putB s a r).data.toList = (R', 0, 0)) := hp3
  have P4 : Hid (R'.map (·.1) = R.map (·.1)) := hp4
  clear hp2 hp3 hp4
  have hca : ∀ o, (w1.alloc o).cell? ⟨g, k * 4 + 3, none⟩ = some (.int .i64 (a : Int)) := by
    intro o
    have := (TA.out.later (box_below w1 o)).c3 k (by simpa using hk)
    rw [Nat.zero_add] at this
    rw [this, ha]
    simp [hk, tkI]
  clear ha
  have hzz := B1.out.size
  have hml := moreB_len r hr5
  have hmz : (⟨(moreB r).toArray⟩ : ByteArray).size ≤ 13 := by simpa [ByteArray.size] using hml
  have hex : (s.extract 0 a).size = a := by rw [ByteArray.size_extract]; omega
  have hey : (s.extract a s.size).size = s.size - a := by rw [ByteArray.size_extract]; omega
  go_wp2_with fail
  go_region_with (go_at_call 13; refine (scan_short (putB s a r) _ P2.out (HT.out.1.later (B1.out.alloc hzz _).drew)).mono ?_; rintro e w2 ⟨v2, rfl, ho2, b2⟩; rw [P3.out] at ho2 ⊢)
  all_goals
  have B2 : Hid (Below w.heap.size w w2) := (B1.out.alloc hzz _).trans ⟨b2.os, b2.tape, b2.output, b2.size, fun k hk => b2.block k (by simp; omega)⟩
  have TA2 : Hid (Ta w2 g 0 (R.map tkI)) := (TA.out.later (box_below w1 _)).later ⟨b2.os, b2.tape, b2.output, b2.size, b2.block⟩
  obtain ⟨g2, cap2, rfl, hcap2, hg2, TT⟩ := ho2.ta (by intro e; have := congrArg List.length P4.out; rw [e] at this; simp at this; omega)
  have TB2 : Hid (Ta w2 g2 0 (R'.map tkI)) := TT
  have hlen : R'.length = R.length := by have := congrArg List.length P4.out; simpa using this
  rw [hlen]
  have SM : Hid (Calls Tryd.prog 14 #[.slice (some ⟨g, 0, none⟩) R.length cap, .slice (some ⟨g2, 0, none⟩) R.length cap2, .bool false] w2 fun e w' => e = .returned (.bool true) ∧ Below w2.heap.size w2 w') := by
    have := rsame_true g 0 cap g2 0 cap2 (R.map tkI) (R'.map tkI) w2 TA2.out TB2.out (by simp [hlen]) (by simp; omega) (fun j hj => map_getD P4.out j (by simpa using hj))
    rw [List.length_map] at this
    exact this
  clear ho2 b2 TT hcell hca
  go_wp2_with fail
  refine SM.out.mono ?_
  rintro e w3 ⟨rfl, b3⟩
  have B3 : Hid (Below w.heap.size w w3) := B2.out.trans (b3.mono B2.out.size)
  go_wp2_with fail
  refine (known2 _ (HT.out.1.later B3.out) (HT.out.2.later B3.out (Nat.le_refl _))).mono ?_
  rintro e w4 ⟨rfl, b4⟩
  go_wp2_with fail
  go_ret
  exact ⟨rfl, B3.out.trans (b4.mono B3.out.size)⟩
theorem blanks_walk (s : ByteArray) (which how : Int) (w : World) (ht : Kw w ∧ Tab w) (_hs : s.size ≤ 140737488351232) (_h1 : (Lit.int .i64 which).wf = true) (_h2 : (Lit.int .i64 how).wf = true) : Calls Tryd.prog 6 #[.string s, .int .i64 which, .int .i64 how] w fun e w' => e = .returned (.bool true) ∧ Below w.heap.size w w' := by
  by_cases h3 : s.size ≤ 3000
  · by_cases he : (Lx.scan s.data.toList).2.2 = 0
    · have ha : (Lx.scan s.data.toList).2.1 = 0 := by
        rcases Lx.scan_first (l := s.data.toList) (by rw [size_len']; exact h3) with ⟨_, h⟩ | ⟨a, h, _⟩
        · exact h
        · rw [h] at he; simp at he
      exact blanks_ok s which how (Lx.scan s.data.toList).1 w ht h3 (by rw [Prod.ext_iff, Prod.ext_iff]; exact ⟨rfl, ha, he⟩)
    · exact blanks_err s which how w ht h3 (beq_eq_false_iff_ne.2 he)
  · exact blanks_long s which how w ht h3
end Go.Proofs.YtdjpjoipdlfooaaDoor
