/- The fixed calls of layer 2's statements (known) come out true. -/
import Derived.Test.YtlhklpnkelcnbaaGreatDoorLexT
import Derived.Test.YtlhklpnkelcnbaaGreatDoorLexE
namespace Go.Proofs.YtlhklpnkelcnbaaGreatDoor
open Go.RowKit

theorem flat_at (i : Nat) (hi : i < 4) : ∀ (ts : List (Lx.Tk × Nat)) (j : Nat), (ts.flatMap cellsT)[j * 4 + i]? = (ts[j]?).bind fun x => (cellsT x)[i]?
  | [], j => by simp
  | x :: r, 0 => by
    rw [List.flatMap_cons, List.getElem?_append_left (by simp [cellsT]; omega)]
    simp
  | x :: r, j + 1 => by
    rw [List.flatMap_cons, List.getElem?_append_right (by simp [cellsT]; omega), show (j + 1) * 4 + i - (cellsT x).length = j * 4 + i by simp [cellsT]; omega, flat_at i hi r j]
    simp
/-- A token with its place as a number. -/
def tkI (x : Lx.Tk × Nat) : Tok := (x.1, (x.2 : Int))
theorem OwnT.ta {w : World} {base : Nat} {v : Value} {ts : List (Lx.Tk × Nat)} (h : OwnT w base v ts) (hn : ts ≠ []) :
    ∃ g cap, v = .slice (some ⟨g, 0, none⟩) ts.length cap ∧ ts.length ≤ cap ∧ base ≤ g ∧ Ta w g 0 (ts.map tkI) := by
  have hc := @World.ownsRow.cells _ _ _ _ _ _ _ h
  have hl := World.ownsRow.lt h
  rcases h.2 with ⟨_, h0⟩ | ⟨g, cap, cur, rfl, hb, _, hnc, _⟩
  · exact absurd (List.length_eq_zero_iff.1 h0) hn
  · have key : ∀ (j i : Nat) (u : Value), j < ts.length → i < 4 → ((ts[j]?).bind fun x => (cellsT x)[i]?) = some u → w.cell? ⟨g, 0 + j * 4 + i, none⟩ = some u := by
      intro j i u hj hi hu
      have := @hc g rfl (j * 4 + i) u (by rw [flat_at i hi]; exact hu)
      have e : (⟨g, 0, none⟩ : Addr).add (j * 4 + i) = ⟨g, 0 + j * 4 + i, none⟩ := by unfold Addr.add; split <;> simp_all
      rw [e] at this
      exact this
    refine ⟨g, cap, rfl, hnc, (hl g rfl).1, (hl g rfl).2, ?_, ?_, ?_, ?_⟩
    all_goals
      intro j hj
      rw [List.length_map] at hj
      first
        | exact key j 0 _ hj (by omega) (by simp [hj, cellsT, tkI])
        | exact key j 1 _ hj (by omega) (by simp [hj, cellsT, tkI])
        | exact key j 2 _ hj (by omega) (by simp [hj, cellsT, tkI])
        | exact key j 3 _ hj (by omega) (by simp [hj, cellsT, tkI])

theorem k_x : Lx.scan [120, 61, 49, 35, 121] = ([(⟨1, [120], 0⟩, 0), (⟨4, [61], 0⟩, 1), (⟨2, [], 1⟩, 2), (⟨0, [], 0⟩, 5)], 0, 0) := by kernel_rfl
theorem k_a : Lx.scan [97, 32, 64, 32, 98] = ([], 2, 20) := by kernel_rfl
theorem k_3 : Lx.scan [51, 120] = ([], 0, 20) := by kernel_rfl
def kTs : List Tok := [(⟨1, [97], 0⟩, 0), (⟨4, [60, 61], 0⟩, 0), (⟨2, [], 7⟩, 0), (⟨0, [], 0⟩, 0)]
theorem k_r : rightL kTs = true := by kernel_rfl
theorem k_p : printL kTs = [97, 32, 60, 61, 32, 55] := by kernel_rfl

theorem scan_x (w : World) (hk : Kw w) : Calls Tryz.prog 16 #[.string ⟨#[120, 61, 49, 35, 121]⟩] w fun e w' =>
    ∃ g cap, e = .returned (.tuple #[.slice (some ⟨g, 0, none⟩) 4 cap, .int .i64 0, .int .i64 0]) ∧ 4 ≤ cap ∧ g < w'.heap.size ∧ w'.cell? ⟨g, 15, none⟩ = some (.int .i64 5) ∧ w'.cell? ⟨g, 10, none⟩ = some (.int .i64 1) ∧ Below w.heap.size w w' := by
  refine (scan_short _ w (by decide) hk).mono ?_
  rintro e w' ⟨v, rfl, ho, hb⟩
  have ho : OwnT w' w.heap.size v [(⟨1, [120], 0⟩, 0), (⟨4, [61], 0⟩, 1), (⟨2, [], 1⟩, 2), (⟨0, [], 0⟩, 5)] := by rw [show (Lx.scan (ByteArray.mk #[120, 61, 49, 35, 121]).data.toList).1 = _ from congrArg (·.1) k_x] at ho; exact ho
  obtain ⟨g, cap, rfl, hc, _, T⟩ := ho.ta (by simp)
  refine ⟨g, cap, ?_, hc, T.lt, T.c3 3 (by simp), T.c2 2 (by simp), hb⟩
  rw [show Lx.scan (ByteArray.mk #[120, 61, 49, 35, 121]).data.toList = _ from k_x]
  rfl
theorem scan_no (l : List UInt8) (a : Nat) (e0 : Int) (w : World) (hs : l.length ≤ 16384) (h : Lx.scan l = ([], a, e0)) (hk : Kw w) : Calls Tryz.prog 16 #[.string ⟨l.toArray⟩] w fun e w' =>
    ∃ ao cap, e = .returned (.tuple #[.slice ao 0 cap, .int .i64 (a : Int), .int .i64 e0]) ∧ Below w.heap.size w w' := by
  refine (scan_short _ w (by simpa [ByteArray.size] using hs) hk).mono ?_
  rintro e w' ⟨v, rfl, ho, hb⟩
  have ho : OwnT w' w.heap.size v (Lx.scan l).1 := ho
  have h' : Lx.scan (ByteArray.mk l.toArray).data.toList = ([], a, e0) := h
  rw [h] at ho
  obtain ⟨ao, cap, rfl⟩ := ho.shape
  exact ⟨ao, cap, by rw [h']; rfl, hb⟩
theorem kTa (w : World) (t : TypeId) : Ta (w.alloc (.cells #[.int .i64 1, .string ⟨#[97]⟩, .int .i64 0, .int .i64 0, .int .i64 4, .string ⟨#[60, 61]⟩, .int .i64 0, .int .i64 0, .int .i64 2, .string ⟨#[]⟩, .int .i64 7, .int .i64 0, .int .i64 0, .string ⟨#[]⟩, .int .i64 0, .int .i64 0] t)) w.heap.size 0 kTs := by
  refine ⟨by simp, ?_, ?_, ?_, ?_⟩
  all_goals
    intro j hj
    match j, hj with
    | 0, _ => simp [kTs, tok0]
    | 1, _ => simp [kTs, tok0]
    | 2, _ => simp [kTs, tok0]
    | 3, _ => simp [kTs, tok0]
    | n + 4, h => simp [kTs] at h; omega
end Go.Proofs.YtlhklpnkelcnbaaGreatDoor
