/- The fixed calls of layer 2's statements (known) come out true. -/
import Derived.Test.YtdjpjoipdlfooaaDoorLexT
import Derived.Test.YtdjpjoipdlfooaaDoorLexE
namespace Go.Proofs.YtdjpjoipdlfooaaDoor
open Go.RowKit

theorem flat_at (i : Nat) (hi : i < 4) : ∀ (ts : List (Lx.Tk × Nat)) (j : Nat), (ts.flatMap cellsT)[j * 4 + i]? = (ts[j]?).bind fun x => (cellsT x)[i]?
  | [], j => by simp
  | x :: r, 0 => by
    rw [List.flatMap_cons, List.getElem?_append_left (by simp [cellsT]; omega)]
    simp
  | x :: r, j + 1 => by
    rw [List.flatMap_cons, List.getElem?_append_right (by simp [cellsT]; omega), show (j + 1) * 4 + i - (cellsT x).length = j * 4 + i by simp [cellsT]; omega, flat_at i hi r j]
    simp
/-- A token with its place as a number. -/
def tkI (x : Lx.Tk × Nat) : Tok := (x.1, (x.2 : Int))
theorem OwnT.ta {w : World} {base : Nat} {v : Value} {ts : List (Lx.Tk × Nat)} (h : OwnT w base v ts) (hn : ts ≠ []) :
    ∃ g cap, v = .slice (some ⟨g, 0, none⟩) ts.length cap ∧ ts.length ≤ cap ∧ base ≤ g ∧ Ta w g 0 (ts.map tkI) := by
  have hc := @World.ownsRow.cells _ _ _ _ _ _ _ h
  have hl := World.ownsRow.lt h
  rcases h.2 with ⟨_, h0⟩ | ⟨g, cap, cur, rfl, hb, _, hnc, _⟩
  · exact absurd (List.length_eq_zero_iff.1 h0) hn
  · have key : ∀ (j i : Nat) (u : Value), j < ts.length → i < 4 → ((ts[j]?).bind fun x => (cellsT x)[i]?) = some u → w.cell? ⟨g, 0 + j * 4 + i, none⟩ = some u := by
      intro j i u hj hi hu
      have := @hc g rfl (j * 4 + i) u (by rw [flat_at i hi]; exact hu)
      have e : (⟨g, 0, none⟩ : Addr).add (j * 4 + i) = ⟨g, 0 + j * 4 + i, none⟩ := by unfold Addr.add; split <;> simp_all
      rw [e] at this
      exact this
    refine ⟨g, cap, rfl, hnc, (hl g rfl).1, (hl g rfl).2, ?_, ?_, ?_, ?_⟩
    all_goals
      intro j hj
      rw [List.length_map] at hj
      first
        | exact key j 0 _ hj (by omega) (by simp [hj, cellsT, tkI])
        | exact key j 1 _ hj (by omega) (by simp [hj, cellsT, tkI])
        | exact key j 2 _ hj (by omega) (by simp [hj, cellsT, tkI])
        | exact key j 3 _ hj (by omega) (by simp [hj, cellsT, tkI])

theorem k_x : Lx.scan [120, 61, 49, 35, 121] = ([(⟨1, [120], 0⟩, 0), (⟨4, [61], 0⟩, 1), (⟨2, [], 1⟩, 2), (⟨0, [], 0⟩, 5)], 0, 0) := by kernel_rfl
theorem k_a : Lx.scan [97, 32, 64, 32, 98] = ([], 2, 20) := by kernel_rfl
theorem k_3 : Lx.scan [51, 120] = ([], 0, 20) := by kernel_rfl
def kTs : List Tok := [(⟨1, [97], 0⟩, 0), (⟨4, [60, 61], 0⟩, 0), (⟨2, [], 7⟩, 0), (⟨0, [], 0⟩, 0)]
theorem k_r : rightL kTs = true := by kernel_rfl
theorem k_p : printL kTs = [97, 32, 60, 61, 32, 55] := by kernel_rfl

theorem scan_x (w : World) (hk : Kw w) : Calls Tryd.prog 13 #[.string ⟨#[120, 61, 49, 35, 121]⟩] w fun e w' =>
    ∃ g cap, e = .returned (.tuple #[.slice (some ⟨g, 0, none⟩) 4 cap, .int .i64 0, .int .i64 0]) ∧ 4 ≤ cap ∧ g < w'.heap.size ∧ w'.cell? ⟨g, 15, none⟩ = some (.int .i64 5) ∧ w'.cell? ⟨g, 10, none⟩ = some (.int .i64 1) ∧ Below w.heap.size w w' := by
  refine (scan_short _ w (by decide) hk).mono ?_
  rintro e w' ⟨v, rfl, ho, hb⟩
  have ho : OwnT w' w.heap.size v [(⟨1, [120], 0⟩, 0), (⟨4, [61], 0⟩, 1), (⟨2, [], 1⟩, 2), (⟨0, [], 0⟩, 5)] := by rw [show (Lx.scan (ByteArray.mk #[120, 61, 49, 35, 121]).data.toList).1 = _ from congrArg (·.1) k_x] at ho; exact ho
  obtain ⟨g, cap, rfl, hc, _, T⟩ := ho.ta (by simp)
  refine ⟨g, cap, ?_, hc, T.lt, T.c3 3 (by simp), T.c2 2 (by simp), hb⟩
  rw [show Lx.scan (ByteArray.mk #[120, 61, 49, 35, 121]).data.toList = _ from k_x]
  rfl
theorem scan_no (l : List UInt8) (a : Nat) (e0 : Int) (w : World) (hs : l.length ≤ 16384) (h : Lx.scan l = ([], a, e0)) (hk : Kw w) : Calls Tryd.prog 13 #[.string ⟨l.toArray⟩] w fun e w' =>
    ∃ ao cap, e = .returned (.tuple #[.slice ao 0 cap, .int .i64 (a : Int), .int .i64 e0]) ∧ Below w.heap.size w w' := by
  refine (scan_short _ w (by simpa [ByteArray.size] using hs) hk).mono ?_
  rintro e w' ⟨v, rfl, ho, hb⟩
  have ho : OwnT w' w.heap.size v (Lx.scan l).1 := ho
  have h' : Lx.scan (ByteArray.mk l.toArray).data.toList = ([], a, e0) := h
  rw [h] at ho
  obtain ⟨ao, cap, rfl⟩ := ho.shape
  exact ⟨ao, cap, by rw [h']; rfl, hb⟩
theorem kTa (w : World) (t : TypeId) : Ta (w.alloc (.cells #[.int .i64 1, .string ⟨#[97]⟩, .int .i64 0, .int .i64 0, .int .i64 4, .string ⟨#[60, 61]⟩, .int .i64 0, .int .i64 0, .int .i64 2, .string ⟨#[]⟩, .int .i64 7, .int .i64 0, .int .i64 0, .string ⟨#[]⟩, .int .i64 0, .int .i64 0] t)) w.heap.size 0 kTs := by
  refine ⟨by simp, ?_, ?_, ?_, ?_⟩
  all_goals
    intro j hj
    match j, hj with
    | 0, _ => simp [kTs, tok0]
    | 1, _ => simp [kTs, tok0]
    | 2, _ => simp [kTs, tok0]
    | 3, _ => simp [kTs, tok0]
    | n + 4, h => simp [kTs] at h; omega
theorem k_print (w : World) (t : TypeId) (hk : Kw w) (ht : Tab w) :
    Calls Tryd.prog 9 #[.slice (some ⟨w.heap.size, 0, none⟩) 4 4] (w.alloc (.cells #[.int .i64 1, .string ⟨#[97]⟩, .int .i64 0, .int .i64 0, .int .i64 4, .string ⟨#[60, 61]⟩, .int .i64 0, .int .i64 0, .int .i64 2, .string ⟨#[]⟩, .int .i64 7, .int .i64 0, .int .i64 0, .string ⟨#[]⟩, .int .i64 0, .int .i64 0] t)) fun e w' =>
      e = .returned (.tuple #[.string ⟨#[97, 32, 60, 61, 32, 55]⟩, .int .i64 0]) ∧ Below w.heap.size w w' := by
  have hz : ∀ j, j < kTs.length → (kTs.getD j tok0).1.text.length ≤ maxLen ∧ -9223372036854775808 ≤ (kTs.getD j tok0).1.num ∧ (kTs.getD j tok0).1.num ≤ 9223372036854775807 := by
    intro j hj
    match j, hj with
    | 0, _ => decide
    | 1, _ => decide
    | 2, _ => decide
    | 3, _ => decide
    | n + 4, h => simp [kTs] at h; omega
  refine (print_right w.heap.size 0 4 kTs _ (kTa w t) (by decide) (by decide) (by decide) (fun j hj => (hz j hj).1) (fun j hj => (hz j hj).2) (by rw [k_p]; decide) (hk.later (box_below w _)) (ht.later (box_below w _) (Nat.le_refl _)) k_r).mono ?_
  rintro e w' ⟨rfl, hb⟩
  rw [k_p]
  exact ⟨rfl, (box_below w _).trans (hb.mono (by simp))⟩

set_option maxRecDepth 100000 in
set_option maxHeartbeats 1000000 in
theorem known2 (w : World) (hk : Kw w) (ht : Tab w) : Calls Tryd.prog 8 #[] w fun e w' => e = .returned (.bool true) ∧ Below w.heap.size w w' := by
  have HK : Hid (Kw w) := hk
  have HT : Hid (Tab w) := ht
  clear hk ht
  go_enter Tryd.func8, Tryd.ntmps8
  go_wp2_with fail
  refine (scan_x _ HK.out).mono ?_
  rintro e w1 ⟨g, cap, rfl, hc, hg, c15, c10, b1⟩
  have K1 : Hid (Kw w1) := HK.out.later b1
  go_wp2_with fail
  refine (scan_no [97, 32, 64, 32, 98] 2 20 _ (by decide) k_a K1.out).mono ?_
  rintro e w2 ⟨ao2, cap2, rfl, b2⟩
  have K2 : Hid (Kw w2) := K1.out.later b2
  go_wp2_with fail
  refine (scan_no [51, 120] 0 20 _ (by decide) k_3 K2.out).mono ?_
  rintro e w3 ⟨ao3, cap3, rfl, b3⟩
  have K3 : Hid (Kw w3) := K2.out.later b3
  have hb3 := (b1.trans (b2.mono b1.size)).trans (b3.mono (Nat.le_trans b1.size b2.size))
  have B3 : Hid (Below w.heap.size w w3) := hb3
  have T3 : Hid (Tab w3) := HT.out.later hb3 (Nat.le_refl _)
  have hg2 := Nat.lt_of_lt_of_le hg b2.size
  have hg3 := Nat.lt_of_lt_of_le hg2 b3.size
  rw [← b2.cell (p := ⟨g, 15, none⟩) hg, ← b3.cell (p := ⟨g, 15, none⟩) hg2] at c15
  rw [← b2.cell (p := ⟨g, 10, none⟩) hg, ← b3.cell (p := ⟨g, 10, none⟩) hg2] at c10
  clear b1 b2 b3 hb3
  go_wp2_with fail
  refine (k_print w3 _ K3.out T3.out).mono ?_
  rintro e w4 ⟨rfl, b4⟩
  rw [← b4.cell (p := ⟨g, 15, none⟩) hg3] at c15
  rw [← b4.cell (p := ⟨g, 10, none⟩) hg3] at c10
  have B4 : Hid (Below w.heap.size w w4) := B3.out.trans (b4.mono B3.out.size)
  clear b4
  go_wp2
  go_ret
  exact ⟨rfl, B4.out⟩
end Go.Proofs.YtdjpjoipdlfooaaDoor
