/- Slices of ints that a call makes for itself: small facts. No condition. -/
import Derived.Test.YtdjpjoipdlfooaaDoorRows
import Derived.WalkKit
import Derived.WalkSpells
import Derived.WalkLawsBesides
namespace Go.Proofs.YtdjpjoipdlfooaaDoor
open Go.RowKit

theorem infoInt : (Tryd.prog.info? 3).map (fun i => (i.zero, i.size, i.bytes)) = some (some (.int .i64 0), 1, 8) := by kernel_rfl

/-- The slice v is a row of the first n of the numbers d, among the blocks from base on. -/
def Own (w : World) (base : Nat) (v : Value) (n : Nat) (d : Nat → Int) : Prop := w.ownsRow base 3 1 v n ((List.range n).map fun j => Value.int .i64 (d j))
theorem Own.nil (w : World) (base : Nat) (d : Nat → Int) : Own w base (.slice none 0 0) 0 d := World.ownsRow_nil _ _ _ _
theorem Own.open {w : World} {base : Nat} {v : Value} {n : Nat} {d : Nat → Int} (h : Own w base v n d) (hn : n ≠ 0) :
    ∃ g cap, v = .slice (some ⟨g, 0, none⟩) n cap ∧ base ≤ g ∧ g < w.heap.size ∧ n ≤ cap ∧ ∀ j, j < n → w.cell? ⟨g, j, none⟩ = some (.int .i64 (d j)) := by
  have hc := @World.ownsRow.cells _ _ _ _ _ _ _ h
  have hl := h.lt
  rcases h.2 with ⟨_, h0⟩ | ⟨g, cap, cur, rfl, hb, _, hnc, _⟩
  · exact absurd h0 hn
  · refine ⟨g, cap, rfl, hb, (hl g rfl).2, hnc, fun j hj => ?_⟩
    have := @hc g rfl j (.int .i64 (d j)) (by simp [hj])
    cases j with
    | zero => simpa [Addr.add] using this
    | succ j => simpa [Addr.add] using this
theorem range_snoc (n : Nat) (d : Nat → Int) : ((List.range n).map fun j => Value.int .i64 (d j)) ++ [Value.int .i64 (d n)] = (List.range (n + 1)).map fun j => Value.int .i64 (d j) := by
  rw [List.range_succ, List.map_append]; rfl
theorem Own.later {w w' : World} {base : Nat} {v : Value} {n : Nat} {d : Nat → Int} (h : Own w base v n d) (hb : Below w.heap.size w w') : Own w' base v n d :=
  h.kept (row := none) ⟨hb.os, hb.tape, hb.output, hb.size, fun k hk _ => hb.block k hk⟩ (by
    rcases h.2 with ⟨rfl, _⟩ | ⟨g, cap, cur, rfl, _⟩
    · exact .inl rfl
    · exact .inr (by simp [Value.ownBlock]))
theorem Own.snoc {w wr w1 : World} {o : Obj} {B : Nat} {v v' : Value} {k : Nat} {d : Nat → Int} (hown : Own wr B v k d) (hnx : Below B w wr) (hB : B ≤ wr.heap.size)
    (h' : w1.ownsRow B 3 1 v' (k + 1) (((List.range k).map fun j => Value.int .i64 (d j)) ++ [.int .i64 (d k)])) (hg : (wr.alloc o).grownBy w1 v.ownBlock) : Own w1 B v' (k + 1) d ∧ Below B w w1 := by
  rw [range_snoc] at h'
  exact ⟨h', (hnx.alloc hB _).grown hg (by simp; omega) (fun g hg => (World.ownsRow.lt hown g hg).1)⟩
theorem one_cell (w : World) (x : Int) (t : TypeId) : ∀ (j : Nat) u, [Value.int .i64 x][j]? = some u → (w.alloc (.cells #[.int .i64 x] t)).cell? ((⟨w.heap.size, 0, none⟩ : Addr).add j) = some u := by
  intro j u hj
  match j, hj with
  | 0, hj => simp at hj; subst hj; simp [Addr.add]
theorem one_one (x : Int) : ∀ u ∈ [Value.int .i64 x], u.oneCell' = true := by
  intro u hu; simp at hu; subst hu; rfl
end Go.Proofs.YtdjpjoipdlfooaaDoor
