/- Print, for every tokens whose text is not beyond all bounds. -/
import Derived.Test.YtlhklpnkelcnbaaGreatDoorLexS
import Derived.Test.YtlhklpnkelcnbaaGreatDoorStrs
namespace Go.Proofs.YtlhklpnkelcnbaaGreatDoor
open Go.RowKit

/-- A token's text: an integer's digits. -/
def txt (x : Tok) : List UInt8 := if x.1.kind = 2 then Lib.itoa x.1.num else x.1.text
def texts (ts : List Tok) (k : Nat) : List (List UInt8) := (List.range k).map fun j => txt (ts.getD j tok0)
theorem texts_succ (ts : List Tok) (k : Nat) : texts ts (k + 1) = texts ts k ++ [txt (ts.getD k tok0)] := by
  unfold texts; rw [List.range_succ, List.map_append]; rfl
/-- What Print writes: nothing of the end. -/
def printL (ts : List Tok) : List UInt8 := Lib.join (texts ts (ts.length - 1)) [32]
theorem OwnS.shape {w : World} {base : Nat} {v : Value} {xs : List ByteArray} (h : OwnS w base v xs) : ∃ ao cap, v = .slice ao xs.length cap := by
  rcases h.2 with ⟨rfl, h0⟩ | ⟨g, cap, cur, rfl, _⟩
  · exact ⟨none, 0, by rw [h0]⟩
  · exact ⟨_, cap, rfl⟩
theorem OwnS.later {w w' : World} {base : Nat} {v : Value} {xs : List ByteArray} (h : OwnS w base v xs) (hb : Below w.heap.size w w') : OwnS w' base v xs :=
  World.ownsRow.kept h (row := none) ⟨hb.os, hb.tape, hb.output, hb.size, fun k hk _ => hb.block k hk⟩ (by
    rcases h.2 with ⟨rfl, _⟩ | ⟨g, cap, cur, rfl, _⟩
    · exact .inl rfl
    · exact .inr (by simp [Value.ownBlock]))
/-- Join at a slice that the call itself made. -/
theorem join_own {w : World} {base : Nat} {v : Value} {xs : List ByteArray} (h : OwnS w base v xs) (hL : (Lib.join (xs.map (·.data.toList)) [32]).length ≤ 100000000) (hl : xs.length ≤ 100000000) :
    Calls Tryz.prog 42 #[v] w fun e w' => e = .returned (.string ⟨(Lib.join (xs.map (·.data.toList)) [32]).toArray⟩) ∧ Below w.heap.size w w' := by
  by_cases h0 : xs = []
  · subst h0
    obtain ⟨ao, cap, rfl⟩ := h.shape
    refine (join_none ao cap w).mono ?_
    rintro e w' ⟨rfl, rfl⟩
    exact ⟨rfl, Below.refl _ _⟩
  · obtain ⟨g, cap, rfl, hc, hs⟩ := h.sa h0
    exact join_core g 0 cap xs w hs hL hl hc
theorem snoc_plain {w wr w1 : World} {o : Obj} {B : Nat} {v v' : Value} {xs : List ByteArray} {s : ByteArray} (hown : OwnS wr B v xs) (hnx : Below B w wr) (hB : B ≤ wr.heap.size)
    (h' : w1.ownsRow B 9 1 v' (xs.length + 1) (xs.map Value.string ++ [.string s])) (hg : (wr.alloc o).grownBy w1 v.ownBlock) : OwnS w1 B v' (xs ++ [s]) ∧ Below B w w1 := hown.snoc hnx hB h' hg

end Go.Proofs.YtlhklpnkelcnbaaGreatDoor
