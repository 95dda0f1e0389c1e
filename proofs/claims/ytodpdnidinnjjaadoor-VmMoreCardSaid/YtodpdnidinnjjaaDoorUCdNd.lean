/- Layer 8: the document's Heights in memory: the code's box, the row of heights. -/
import Derived.Test.YtodpdnidinnjjaaDoorUCdNb
import Derived.Test.YtodpdnidinnjjaaDoorUCdNc
import Derived.Deep.LoopGhost
namespace Go.Proofs.YtodpdnidinnjjaaDoor
open Go.RowKit
set_option linter.unusedVariables false
set_option linter.unusedSimpArgs false

/-- The code's box b, and the heights in the block g. -/
structure HtM (w : World) (b : Nat) (ia : Option Addr) (N ic : Nat) (c : Cd.Co) (g : Nat) (hs : List Int) (wr : World) : Prop where
  x : CoXn w wr b ia N ic c
  hh : ∃ rest, wr.heap[g]? = some (.cells (nC hs ++ rest).toArray 3 (0, 0))
  wg : w.heap.size ≤ g
  bg : b < g
theorem HtM.lt {w : World} {b : Nat} {ia : Option Addr} {N ic : Nat} {c : Cd.Co} {g : Nat} {hs : List Int} {wr : World} (h : HtM w b ia N ic c g hs wr) : g < wr.heap.size := by
  obtain ⟨r, e⟩ := h.hh
  exact (Array.getElem?_eq_some_iff.1 e).1
theorem HtM.later {w : World} {b : Nat} {ia : Option Addr} {N ic : Nat} {c : Cd.Co} {g : Nat} {hs : List Int} {wr wx : World} (h : HtM w b ia N ic c g hs wr) (y : Below wr.heap.size wr wx) : HtM w b ia N ic c g hs wx := by
  obtain ⟨r, e⟩ := h.hh
  exact ⟨h.x.later y, ⟨r, (y.block g h.lt).trans e⟩, h.wg, h.bg⟩
theorem HtM.at {w : World} {b : Nat} {ia : Option Addr} {N ic : Nat} {c : Cd.Co} {g : Nat} {hs : List Int} {wr : World} (h : HtM w b ia N ic c g hs wr) {q : Nat} {x : Int} (e : hs[q]? = some x) : wr.cell? ⟨g, q, none⟩ = some (.int .i64 x) ∧ wr.frozen? ⟨g, q, none⟩ = false := by
  obtain ⟨r, er⟩ := h.hh
  have ql := (List.getElem?_eq_some_iff.1 e).1
  have e2 : (nC hs ++ r)[q]? = some (.int .i64 x) := by
    rw [List.getElem?_append_left (by simpa [nC] using ql)]
    simp [nC, e]
  constructor
  · simp only [World.cell?, er]
    simpa using e2
  · simp [World.frozen?, er]
theorem HtM.set {w : World} {b : Nat} {ia : Option Addr} {N ic : Nat} {c : Cd.Co} {g : Nat} {hs : List Int} {wr : World} (h : HtM w b ia N ic c g hs wr) {q : Nat} (ql : q < hs.length) (x : Int) : HtM w b ia N ic c g (hs.set q x) (wr.setCell ⟨g, q, none⟩ (.int .i64 x)) := by
  obtain ⟨r, er⟩ := h.hh
  have bg : Below g wr (wr.setCell ⟨g, q, none⟩ (.int .i64 x)) := ⟨rfl, rfl, rfl, by simp, fun k hk => heap_setCell_other wr _ k _ (by simp; omega)⟩
  have bl : b < g := h.bg
  refine ⟨⟨(bg.cell (p := ⟨b, 0, none⟩) bl).trans h.x.a0, (bg.cell (p := ⟨b, 1, none⟩) bl).trans h.x.a1, (bg.cell (p := ⟨b, 2, none⟩) bl).trans h.x.a2, (bg.cell (p := ⟨b, 3, none⟩) bl).trans h.x.a3, h.x.bw.trans (bg.mono h.wg), by simpa using h.x.lt⟩, ⟨r, ?_⟩, h.wg, h.bg⟩
  rw [heap_setCell_same _ _ _ _ _ _ er, List.setIfInBounds_toArray, List.set_append_left _ _ (by simpa [nC] using ql)]
  simp [nC, List.map_set]
/-- While the row is begun. -/
def HtA (w : World) (b : Nat) (ia : Option Addr) (N ic : Nat) (c : Cd.Co) (gk : Nat) (v i : Value) (wr : World) : Prop :=
  ∃ k : Nat, k + gk = N ∧ i = .int .i64 k ∧ (∃ a cap, v = .slice a k cap) ∧ Hid (wr.ownsRow (b + 1) 3 1 v k (nC (List.replicate k (-1)))) ∧ Hid (CoXn w wr b ia N ic c)
theorem nC_rep (k : Nat) : nC (List.replicate (k + 1) (-1)) = nC (List.replicate k (-1)) ++ [.int .i64 (-1)] := by
  rw [List.replicate_succ']
  simp [nC]
/-- One more. -/
theorem HtA.step {w : World} {b : Nat} {ia : Option Addr} {N ic : Nat} {c : Cd.Co} {k : Nat} {v v8 : Value} {wr w8 : World} {o : Obj} (R : wr.ownsRow (b + 1) 3 1 v k (nC (List.replicate k (-1)))) (X : CoXn w wr b ia N ic c) (hb : b = w.heap.size) (h8 : w8.ownsRow (b + 1) 3 1 v8 (k + 1) (nC (List.replicate k (-1)) ++ [.int .i64 (-1)])) (g8 : (wr.alloc o).grownBy w8 v.ownBlock) : w8.ownsRow (b + 1) 3 1 v8 (k + 1) (nC (List.replicate (k + 1) (-1))) ∧ CoXn w w8 b ia N ic c := by
  refine ⟨by rw [nC_rep]; exact h8, ?_⟩
  have hl := X.lt
  have kb : ∀ j, j ≤ b → w8.heap[j]? = wr.heap[j]? := fun j hj => by
    rw [g8.block j (by simp; omega) (fun e => by have := (World.ownsRow.lt R _ e.symm).1; omega)]
    exact ((Below.refl wr.heap.size wr).alloc (Nat.le_refl _) o).block j (by omega)
  have kk := kb b (Nat.le_refl _)
  have sz : wr.heap.size ≤ w8.heap.size := by have := g8.size; simp at this; omega
  refine ⟨(World.cell?_of_block (w := wr) (a := ⟨b, 0, none⟩) kk).trans X.a0, (World.cell?_of_block (w := wr) (a := ⟨b, 1, none⟩) kk).trans X.a1, (World.cell?_of_block (w := wr) (a := ⟨b, 2, none⟩) kk).trans X.a2, (World.cell?_of_block (w := wr) (a := ⟨b, 3, none⟩) kk).trans X.a3, ?_, by omega⟩
  exact X.bw.trans ⟨g8.os, g8.tape, g8.output, sz, fun j hj => kb j (by omega)⟩
/-- The row is whole. -/
theorem HtA.whole {w : World} {b : Nat} {ia : Option Addr} {N ic : Nat} {c : Cd.Co} {v : Value} {wr : World} (R : wr.ownsRow (b + 1) 3 1 v N (nC (List.replicate N (-1)))) (X : CoXn w wr b ia N ic c) (hb : b = w.heap.size) (h0 : 0 < N) : ∃ g cap, v = .slice (some ⟨g, 0, none⟩) N cap ∧ HtM w b ia N ic c g (List.replicate N (-1)) wr := by
  rcases R.2 with ⟨_, e⟩ | ⟨g, cap, cur, rfl, hbb, hh, hnc, _, hcs, ht⟩
  · omega
  · refine ⟨g, cap, rfl, X, ⟨cur.toList.drop N, ?_⟩, by omega, by omega⟩
    have e : nC (List.replicate N (-1)) = cur.toList.take N := by
      have := ht
      rw [Nat.mul_one] at this
      exact this.symm
    rw [hh, e, List.take_append_drop]
/-- What Heights answers. -/
def RhE (w : World) (r : Option (List Int)) (e : Ending) (w' : World) : Prop := match r with
  | none => e = .returned (.tuple #[.slice none 0 0, .bool false])
  | some H => ∃ g cap rest, e = .returned (.tuple #[.slice (some ⟨g, 0, none⟩) H.length cap, .bool true]) ∧ w.heap.size ≤ g ∧ w'.heap[g]? = some (.cells (nC H ++ rest).toArray 3 (0, 0))
def RhQ (l : List Cd.Co) (c : Cd.Co) (w : World) (e : Ending) (w' : World) : Prop := ∃ r, Cd.HR 8 l c r ∧ Below w.heap.size w w' ∧ RhE w r e w'
/-- How many places have no height yet. -/
def Cd.lf (hs : List Int) : Nat := hs.count (-1)
/-- While there are rounds. -/
def HtR (w : World) (b : Nat) (ia : Option Addr) (N ic : Nat) (c : Cd.Co) (l : List Cd.Co) (g : Nat) (gk : Nat) (m : Value) (wr : World) : Prop :=
  ∃ hs more, m = .bool more ∧ Hid (HtM w b ia N ic c g hs wr) ∧ Hid (Cd.RI l c hs) ∧ Hid (gk = if more then Cd.lf hs + 1 else 0) ∧ Hid (more = false → ∀ p, p < N → Cd.Gd l c hs p)
/-- What a round has found so far, ahead of the place at. -/
structure HtK (l : List Cd.Co) (c : Cd.Co) (C at_ : Nat) (hs : List Int) (more : Bool) : Prop where
  ri : Cd.RI l c hs
  le : Cd.lf hs ≤ C
  lt : more = true → Cd.lf hs < C
  gd : more = false → ∀ p, p < at_ → Cd.Gd l c hs p
/-- While a round goes on. -/
def HtP (w : World) (b : Nat) (ia : Option Addr) (N ic : Nat) (c : Cd.Co) (l : List Cd.Co) (g C : Nat) (gk : Nat) (m i : Value) (wr : World) : Prop :=
  ∃ (at_ : Nat) (hs : List Int) (more : Bool), at_ + gk = N ∧ i = .int .i64 at_ ∧ m = .bool more ∧ Hid (HtM w b ia N ic c g hs wr) ∧ Hid (HtK l c C at_ hs more)
/-- While one goes on from a place. -/
def HtQ (w : World) (b : Nat) (ia : Option Addr) (N ic : Nat) (c : Cd.Co) (l : List Cd.Co) (g C at_ : Nat) (h h' : Int) (fs : List Int) (a : Option Addr) (gk : Nat) (m i : Value) (wr : World) : Prop :=
  ∃ (j : Nat) (hs : List Int) (more : Bool), j + gk = fs.length ∧ i = .int .i64 j ∧ m = .bool more ∧ Hid (HtM w b ia N ic c g hs wr) ∧ Hid (HtK l c C at_ hs more) ∧ Hid (hs[at_]? = some h) ∧ Hid (∀ q, q ∈ fs.take j → 0 ≤ q ∧ hs[q.toNat]? = some h') ∧ Hid (FlS (g + 1) wr a fs)
theorem FlS.later {B : Nat} {w w' : World} {a : Option Addr} {l : List Int} (h : FlS B w a l) (y : Below w.heap.size w w') : FlS B w' a l := fun h0 => by
  obtain ⟨g, e, h1, h2, h3⟩ := h h0
  exact ⟨g, e, h1, Nat.lt_of_lt_of_le h2 y.size, fun j x hx => (y.cell (p := ⟨g, j, none⟩) h2).trans (h3 j x hx)⟩
theorem FlS.set {B : Nat} {w : World} {a : Option Addr} {l : List Int} (h : FlS B w a l) {g q : Nat} (hg : g < B) (v : Value) : FlS B (w.setCell ⟨g, q, none⟩ v) a l := fun h0 => by
  obtain ⟨g', e, h1, h2, h3⟩ := h h0
  exact ⟨g', e, h1, by simpa using h2, fun j x hx => by
    have k : (w.setCell ⟨g, q, none⟩ v).heap[g']? = w.heap[g']? := heap_setCell_other w _ g' _ (by simp; omega)
    exact (World.cell?_of_block (w := w) (a := ⟨g', j, none⟩) k).trans (h3 j x hx)⟩
theorem HtK.set {l : List Cd.Co} {c : Cd.Co} {C at_ : Nat} {hs : List Int} {more : Bool} (K : HtK l c C at_ hs more) {q : Nat} {x : Int} (e : hs[q]? = some (-1)) (r : Cd.Rc l c q x) (h0 : 0 ≤ x) (h1 : x ≤ 4097) : HtK l c C at_ (hs.set q x) true := by
  have := Cd.count_set hs q x e (by omega)
  have l1 := K.le
  unfold Cd.lf at *
  exact ⟨K.ri.set e r h0 h1, by unfold Cd.lf; omega, fun _ => by unfold Cd.lf; omega, fun e => by cases e⟩
theorem HtK.next {l : List Cd.Co} {c : Cd.Co} {C at_ : Nat} {hs : List Int} {more : Bool} (K : HtK l c C at_ hs more) (G : Cd.Gd l c hs at_) : HtK l c C (at_ + 1) hs more :=
  ⟨K.ri, K.le, K.lt, fun e p hp => by
    by_cases h : p < at_
    · exact K.gd e p h
    · obtain rfl : p = at_ := by omega
      exact G⟩
end Go.Proofs.YtodpdnidinnjjaaDoor
