/- Layer 13: an input's tape is read, in the reader's box. -/
import Derived.Test.YtgonadilbjfpkaaTpS
import Derived.Test.YtgonadilbjfpkaaTpNb
import Derived.Test.YtgonadilbjfpkaaTpNc
import Derived.Defers
import Derived.Recover
namespace Go.Proofs.Ytgonadilbjfpkaa
open Go.RowKit
set_option linter.unusedVariables false
set_option linter.unusedSimpArgs false
def enQ (g : Nat) (T : TypeId) (a : Option Addr) (c : Nat) (b : List Int) (r : List Value) (w : World) (w' : World) (k : Nat) (e : Ending) : Option (Nat × Int) → Prop
  | none => e = .returned (.tuple #[]) ∧ PlQ g T a c b r w (k + 4) w'
  | some (i, x) => e = tpPan x ∧ PlQ g T a c b r w i w'
theorem four_of (l : List Int) (h : l.length = 4) : ∃ a b c d, l = [a, b, c, d] := by
  match l, h with
  | [a, b, c, d], _ => exact ⟨a, b, c, d, rfl⟩
theorem end_any (w : World) (g : Nat) (T : TypeId) (a : Option Addr) (c : Nat) (b : List Int) (k : Nat) (r : List Value) (h : PlB w g T a c b k r) :
    Calls Try.prog 61 #[.pointer (some ⟨g, 0, none⟩)] w fun e w' => enQ g T a c b r w w' k e (Tp.ends b k) := by
  unfold Tp.ends
  by_cases hs : b.length < k + 4
  · rw [if_pos hs]
    rcases Nat.lt_or_ge k b.length with hk | hk
    · exact end_short w g T a c b k r h hs hk
    · obtain rfl : k = b.length := Nat.le_antisymm h.le hk
      exact end_none w g T a c b r h
  · rw [if_neg hs]
    obtain ⟨x0, x1, x2, x3, hx⟩ := four_of ((b.drop k).take 4) (by rw [List.length_take, List.length_drop]; omega)
    rw [hx]
    by_cases hq : [x0, x1, x2, x3] = Tp.sl4 (Tp.sum (b.take k))
    · rw [if_neg (fun e => e hq)]
      by_cases hm : k + 4 < b.length
      · rw [if_pos hm]
        exact end_more w g T a c b k r h (by omega) x0 x1 x2 x3 hx hq hm
      · rw [if_neg hm]
        exact end_good w g T a c b k r h (by omega) x0 x1 x2 x3 hx hq (by omega)
    · rw [if_pos hq]
      exact end_bad w g T a c b k r h (by omega) x0 x1 x2 x3 hx hq
/-- Numbers as cells; a row of them of its own. -/
def nmC (l : List Int) : List Value := l.map (Value.int .i64)
def OwN (w : World) (base : Nat) (v : Value) (l : List Int) : Prop := w.ownsRow base 2 1 v l.length (nmC l)
theorem infoN' : ∃ i, Try.prog.info? 2 = some i ∧ i.zero = some (.int .i64 0) ∧ i.size = 1 ∧ i.bytes = 8 := by
  have h := infoN
  cases hx : Try.prog.info? 2 with
  | none => rw [hx] at h; cases h
  | some i => rw [hx] at h; simp at h; exact ⟨i, rfl, h.1, h.2.1, h.2.2⟩
theorem OwN.nms {w : World} {base : Nat} {a : Option Addr} {n c : Nat} {l : List Int} (h : OwN w base (.slice a n c) l) : NmS w.heap.size w a l := fun h0 => by
  have hc := @World.ownsRow.cells _ _ _ _ _ _ _ h
  have hl := @World.ownsRow.lt _ _ _ _ _ _ _ h
  rcases h.2 with ⟨_, h1⟩ | ⟨g, cap, cur, e, hbg, _⟩
  · omega
  · cases e
    refine ⟨g, 0, rfl, (hl g rfl).2, fun j x hx => ?_⟩
    have := hc (g := g) rfl j (.int .i64 x) (by simp [nmC, hx])
    rwa [adT] at this
theorem OwN.of {w : World} {base n : Nat} {v : Value} {l : List Int} {x : Int} (h : w.ownsRow base 2 1 v n (nmC l ++ [.int .i64 x])) (hn : n = l.length + 1) : OwN w base v (l ++ [x]) := by
  unfold OwN nmC
  rw [List.map_append, List.length_append]
  rw [hn] at h
  exact h
/-- The reader of an input, since the world w: its box g, the numbers in a row of their own, newer than w. -/
structure InR (w : World) (g : Nat) (a : Option Addr) (c : Nat) (b : List Int) (k : Nat) (v : Value) (l : List Int) (wr : World) : Prop where
  p : PlB wr g 67 a c b k [v]
  o : OwN wr w.heap.size v l
  bl : w.grownBy wr (some g)
  lo : g < w.heap.size
section
variable {w wr wq : World} {g : Nat} {a : Option Addr} {c : Nat} {b : List Int} {k k' : Nat} {v : Value} {l : List Int}
theorem InR.c2 (h : InR w g a c b k v l wr) : wr.cell? ⟨g, 2, none⟩ = some v := by simp [World.cell?, h.p.hb]
theorem InR.go (h : InR w g a c b k v l wr) (q : PlQ g 67 a c b [v] wr k' wq) : InR w g a c b k' v l wq := by
  refine ⟨q.1, ?_, gbT h.bl q.2, h.lo⟩
  refine World.ownsRow.kept h.o q.2 ?_
  cases hv : v.ownBlock with
  | none => exact .inl rfl
  | some x => exact .inr (fun e => by have := (World.ownsRow.lt h.o x hv).1; have := h.lo; simp at e; omega)
end
end Go.Proofs.Ytgonadilbjfpkaa
