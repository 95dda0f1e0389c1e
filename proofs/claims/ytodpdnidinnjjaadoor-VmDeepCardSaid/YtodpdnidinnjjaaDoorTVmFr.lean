/- Layer 9: what the rows are given by their own condition on the listed tables. -/
import Derived.Test.YtodpdnidinnjjaaDoorTCdF
namespace Go.Proofs.YtodpdnidinnjjaaDoor
open Go.ChangeShapes Go.WideShapes Go.ChangeAt Go.RowKit
set_option maxRecDepth 100000

abbrev L9 : List (String × DataW Unit) := Rows.vmNilRow.laid
theorem t9_of {W : World} (h : laidMetH Tryd.prog L9 W) : Tn W.heap.size W ∧ Tm W.heap.size W := by
  rw [MakeChecks.laidMetH_plain _ _ _ (by kernel_rfl)] at h
  have h6 := laidMet.tail h
  have tn : Tn W.heap.size W := by
    have h' : laidMet Tryd.prog [("parallax/code.numbers", Rows.laid_parallax_code_numbers), ("parallax/code.moves", Rows.laid_parallax_code_moves)] W := h
    rw [numsData] at h'
    have ht := Lib.tabIs_of_head gNums tNums Tryd.underlying134 Tryd.underlying3 cI1 c26I h'
    exact ⟨lt_of_var gNums ht, fun k hk => ht.cell gNums k hk⟩
  have tm : Tm W.heap.size W := by
    rw [movesData] at h6
    obtain ⟨ps, ⟨g', t', cs, fuel, p, q, hg', ht', hvar, hd, _, _⟩, _⟩ := h6
    obtain rfl := Option.some.inj (gMoves.symm.trans hg')
    obtain rfl := Option.some.inj (tMoves.symm.trans ht')
    have hc := cells_of_pairs Tryd.underlying137 Tryd.underlying130 Tryd.underlying3 cI1 c2I c26P hd
    have key : ∀ k : Nat, k < 26 → cs[k * 2]? = some (.int .i64 (Cd.takesL.getD k 0)) ∧ cs[k * 2 + 1]? = some (.int .i64 (Cd.leavesL.getD k 0)) := fun k hk => by
      have := hc k [Cd.takesL.getD k 0, Cd.leavesL.getD k 0] hk (by simp [pairsL, hk])
      have a := congrArg (·[0]?) this
      have b := congrArg (·[1]?) this
      simp [List.getElem?_drop] at a b
      exact ⟨by simpa using a, by simpa using b⟩
    exact ⟨lt_of_var gMoves hvar, fun k hk => (var_cell gMoves hvar _).trans (key k hk).1, fun k hk => (var_cell gMoves hvar _).trans (key k hk).2⟩
  exact ⟨tn, tm⟩
end Go.Proofs.YtodpdnidinnjjaaDoor
