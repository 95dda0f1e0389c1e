/- Layer 8: the operation of a word, the line of an instruction (the program's operation, Text). -/
import Derived.Test.YtodpdnidinnjjaaDoorUCdB
import Derived.Test.YtodpdnidinnjjaaDoorUCdTx
import Derived.Test.YtodpdnidinnjjaaDoorUStrs
namespace Go.Proofs.YtodpdnidinnjjaaDoor
open Go.RowKit
set_option linter.unusedVariables false
set_option linter.unusedSimpArgs false

namespace Cd
theorem opOf_no {w : List UInt8} (h : ∀ q : Nat, 1 ≤ q → q < 26 → wordL.getD q [] ≠ w) : opOf w = 0 := by
  cases e : opOf w with
  | zero => rfl
  | succ k =>
    have hn : opOf w ≠ 0 := by rw [e]; simp
    obtain ⟨h1, h2, h3⟩ := opOf_is hn
    refine absurd ?_ (h (opOf w) h1 (by omega))
    rw [List.getD_eq_getElem?_getD, h3]
    rfl
end Cd
theorem retIB {a c : Int} {b d : Bool} (h1 : a = c) (h2 : b = d) : Ending.returned (.tuple #[.int .i64 a, .bool b]) = .returned (.tuple #[.int .i64 c, .bool d]) := by rw [h1, h2]
/-- A text and an error are answered. -/
abbrev sE (l : List UInt8) (e : Int) : Value := .tuple #[.string ⟨l.toArray⟩, .int .i64 e]
/-- What Text answers. -/
def txE (i : Cd.In) : Value := if Cd.hl i = true then sE (Cd.tx i) 0 else sE [] 61
theorem sa_three (w : World) (b : Nat) (x y z : List UInt8) (j : Nat) (hj : j ≤ 3) (hb : b < w.heap.size) (c0 : w.cell? ⟨b, 0, none⟩ = some (.string ⟨x.toArray⟩)) (c1 : w.cell? ⟨b, 1, none⟩ = some (.string ⟨y.toArray⟩)) (c2 : w.cell? ⟨b, 2, none⟩ = some (.string ⟨z.toArray⟩)) : Sa w b 0 (([⟨x.toArray⟩, ⟨y.toArray⟩, ⟨z.toArray⟩] : List ByteArray).take j) := by
  refine ⟨hb, fun i hi => ?_⟩
  rw [List.length_take] at hi
  simp only [List.length_cons, List.length_nil] at hi
  rcases (by omega : i = 0 ∨ i = 1 ∨ i = 2) with rfl | rfl | rfl
  · have : 0 < j := by omega
    simpa [List.getD, List.getElem?_take, this] using c0
  · have : 1 < j := by omega
    simpa [List.getD, List.getElem?_take, this] using c1
  · have : 2 < j := by omega
    simpa [List.getD, List.getElem?_take, this] using c2
theorem tot_three (x y z : List UInt8) (j : Nat) (hx : x.length ≤ 30) (hy : y.length ≤ 30) (hz : z.length ≤ 30) : tot (([⟨x.toArray⟩, ⟨y.toArray⟩, ⟨z.toArray⟩] : List ByteArray).take j) (([⟨x.toArray⟩, ⟨y.toArray⟩, ⟨z.toArray⟩] : List ByteArray).take j).length ≤ 3000 := by
  have hs : ∀ l : List UInt8, (⟨l.toArray⟩ : ByteArray).size = l.length := fun l => by simp [ByteArray.size]
  unfold tot
  rw [List.take_of_length_le (Nat.le_refl _)]
  match j with
  | 0 => exact Nat.zero_le _
  | 1 =>
    show (([⟨x.toArray⟩] : List ByteArray).map fun s => s.size + 1).sum ≤ 3000
    simp only [List.map_cons, List.map_nil, List.sum_cons, List.sum_nil, hs]
    omega
  | 2 =>
    show (([⟨x.toArray⟩, ⟨y.toArray⟩] : List ByteArray).map fun s => s.size + 1).sum ≤ 3000
    simp only [List.map_cons, List.map_nil, List.sum_cons, List.sum_nil, hs]
    omega
  | j + 3 =>
    rw [List.take_of_length_le (by simp)]
    simp only [List.map_cons, List.map_nil, List.sum_cons, List.sum_nil, hs]
    omega
theorem put3 {w1 w7 : World} {a : Nat} {x y z v0 v1 v2 : Value} (h : Below w1.heap.size w1 w7) (ha : w1.heap.size ≤ a) (hl : a < w7.heap.size) (c0 : w7.cell? ⟨a, 0, none⟩ = some v0) (c1 : w7.cell? ⟨a, 1, none⟩ = some v1) (c2 : w7.cell? ⟨a, 2, none⟩ = some v2) :
    ∃ bx, Value.pointer (some ⟨a, 0, none⟩) = .pointer (some ⟨bx, 0, none⟩) ∧ Hid (bx < (((w7.setCell ⟨a, 0, none⟩ x).setCell ⟨a, 1, none⟩ y).setCell ⟨a, 2, none⟩ z).heap.size ∧ (((w7.setCell ⟨a, 0, none⟩ x).setCell ⟨a, 1, none⟩ y).setCell ⟨a, 2, none⟩ z).cell? ⟨bx, 0, none⟩ = some x ∧ (((w7.setCell ⟨a, 0, none⟩ x).setCell ⟨a, 1, none⟩ y).setCell ⟨a, 2, none⟩ z).cell? ⟨bx, 1, none⟩ = some y ∧ (((w7.setCell ⟨a, 0, none⟩ x).setCell ⟨a, 1, none⟩ y).setCell ⟨a, 2, none⟩ z).cell? ⟨bx, 2, none⟩ = some z) ∧ Hid (Below w1.heap.size w1 (((w7.setCell ⟨a, 0, none⟩ x).setCell ⟨a, 1, none⟩ y).setCell ⟨a, 2, none⟩ z)) := by
  have e1 : (w7.setCell ⟨a, 0, none⟩ x).cell? ⟨a, 1, none⟩ = some v1 := by rw [World.cell?_setCell_other _ _ _ _ (by simp)]; exact c1
  have e2 : ((w7.setCell ⟨a, 0, none⟩ x).setCell ⟨a, 1, none⟩ y).cell? ⟨a, 2, none⟩ = some v2 := by rw [World.cell?_setCell_other _ _ _ _ (by simp), World.cell?_setCell_other _ _ _ _ (by simp)]; exact c2
  refine ⟨a, rfl, ⟨by simpa using hl, ?_, ?_, ?_⟩, h.trans ⟨rfl, rfl, rfl, by simp, fun k hk => ?_⟩⟩
  · rw [World.cell?_setCell_other _ _ _ _ (by simp), World.cell?_setCell_other _ _ _ _ (by simp)]
    exact World.cell?_setCell_same _ _ _ c0
  · rw [World.cell?_setCell_other _ _ _ _ (by simp)]
    exact World.cell?_setCell_same _ _ _ e1
  · exact World.cell?_setCell_same _ _ _ e2
  · rw [heap_setCell_other _ _ k _ (by simp; omega), heap_setCell_other _ _ k _ (by simp; omega), heap_setCell_other _ _ k _ (by simp; omega)]
theorem word_len : ∀ k : Nat, k < 26 → (Cd.wordL.getD k []).length ≤ 30 := by decide +kernel
end Go.Proofs.YtodpdnidinnjjaaDoor
