/- Layer 8: instructions and codes as they lie in memory; the layer's own tables. -/
import Derived.Test.YtodpdnidinnjjaaDoorUCdPl
import Derived.Test.YtodpdnidinnjjaaDoorRows
import Derived.Test.YtodpdnidinnjjaaDoorUPlain
import Derived.WalkKit
import Derived.WalkMore
import Derived.WalkSpells
import Derived.WalkLawsBesides
namespace Go.Proofs.YtodpdnidinnjjaaDoor
open Go.RowKit

namespace Cd
/-- A number of 64 bits; an instruction's numbers are, a code's are. -/
def I6 (a : Int) : Prop := -9223372036854775808 ≤ a ∧ a ≤ 9223372036854775807
def In.Ok (i : In) : Prop := I6 i.op ∧ I6 i.n ∧ I6 i.m
def Co.Ok (c : Co) : Prop := (∀ i, i ∈ c.ins → i.Ok) ∧ I6 c.cells ∧ I6 c.params
end Cd
/-- The value of an instruction. -/
abbrev inV (i : Cd.In) : Value := .agg #[.int .i64 i.op, .int .i64 i.n, .int .i64 i.m]
structure InAt (w : World) (g o : Nat) (i : Cd.In) : Prop where
  c0 : w.cell? ⟨g, o, none⟩ = some (.int .i64 i.op)
  c1 : w.cell? ⟨g, o + 1, none⟩ = some (.int .i64 i.n)
  c2 : w.cell? ⟨g, o + 2, none⟩ = some (.int .i64 i.m)
/-- A slice of instructions, in a block below B. -/
def InS (B : Nat) (w : World) (a : Option Addr) (l : List Cd.In) : Prop := l.length ≤ 1000000000000000 ∧ (0 < l.length → ∃ g o, a = some ⟨g, o, none⟩ ∧ g < B ∧ ∀ j i, l[j]? = some i → InAt w g (o + j * 3) i)
theorem InS.later {B : Nat} {w w' : World} {a : Option Addr} {l : List Cd.In} (h : InS B w a l) (b : Below B w w') : InS B w' a l :=
  ⟨h.1, fun h0 => by
    obtain ⟨g, o, e, hg, hc⟩ := h.2 h0
    refine ⟨g, o, e, hg, fun j i hj => ?_⟩
    have q := hc j i hj
    exact ⟨(b.cell (p := ⟨g, _, none⟩) hg).trans q.c0, (b.cell (p := ⟨g, _, none⟩) hg).trans q.c1, (b.cell (p := ⟨g, _, none⟩) hg).trans q.c2⟩⟩
theorem InS.mono {B B' : Nat} {w : World} {a : Option Addr} {l : List Cd.In} (h : InS B w a l) (hb : B ≤ B') : InS B' w a l :=
  ⟨h.1, fun h0 => by
    obtain ⟨g, o, e, hg, hc⟩ := h.2 h0
    exact ⟨g, o, e, Nat.lt_of_lt_of_le hg hb, hc⟩⟩
/-- A code's fields, as they lie from a place on. -/
structure CoAt (B : Nat) (w : World) (g o : Nat) (c : Cd.Co) (ia : Option Addr) (ic : Nat) : Prop where
  c0 : w.cell? ⟨g, o, none⟩ = some (.slice ia c.ins.length ic)
  c1 : w.cell? ⟨g, o + 1, none⟩ = some (.int .i64 c.cells)
  c2 : w.cell? ⟨g, o + 2, none⟩ = some (.int .i64 c.params)
  c3 : w.cell? ⟨g, o + 3, none⟩ = some (.bool c.ans)
  hi : InS B w ia c.ins
  hc : c.ins.length ≤ ic
theorem CoAt.later {B : Nat} {w w' : World} {g o : Nat} {c : Cd.Co} {ia : Option Addr} {ic : Nat} (h : CoAt B w g o c ia ic) (hg : g < B) (b : Below B w w') : CoAt B w' g o c ia ic :=
  ⟨(b.cell (p := ⟨g, _, none⟩) hg).trans h.c0, (b.cell (p := ⟨g, _, none⟩) hg).trans h.c1, (b.cell (p := ⟨g, _, none⟩) hg).trans h.c2, (b.cell (p := ⟨g, _, none⟩) hg).trans h.c3, h.hi.later b, h.hc⟩
/-- A slice of codes, in blocks below B. -/
def CoS (B : Nat) (w : World) (a : Option Addr) (l : List Cd.Co) : Prop := l.length ≤ 1000000000000000 ∧ (0 < l.length → ∃ g o, a = some ⟨g, o, none⟩ ∧ g < B ∧ ∀ j c, l[j]? = some c → ∃ ia ic, CoAt B w g (o + j * 4) c ia ic)
theorem CoS.later {B : Nat} {w w' : World} {a : Option Addr} {l : List Cd.Co} (h : CoS B w a l) (b : Below B w w') : CoS B w' a l :=
  ⟨h.1, fun h0 => by
    obtain ⟨g, o, e, hg, hc⟩ := h.2 h0
    refine ⟨g, o, e, hg, fun j i hj => ?_⟩
    obtain ⟨ia, ic, q⟩ := hc j i hj
    exact ⟨ia, ic, q.later hg b⟩⟩
theorem CoS.mono {B B' : Nat} {w : World} {a : Option Addr} {l : List Cd.Co} (h : CoS B w a l) (hb : B ≤ B') : CoS B' w a l :=
  ⟨h.1, fun h0 => by
    obtain ⟨g, o, e, hg, hc⟩ := h.2 h0
    refine ⟨g, o, e, Nat.lt_of_lt_of_le hg hb, fun j i hj => ?_⟩
    obtain ⟨ia, ic, q⟩ := hc j i hj
    exact ⟨ia, ic, q.c0, q.c1, q.c2, q.c3, q.hi.mono hb, q.hc⟩⟩
/-- The code at a place. -/
theorem CoS.at {B : Nat} {w : World} {a : Option Addr} {l : List Cd.Co} (h : CoS B w a l) {j : Nat} {c : Cd.Co} (e : l[j]? = some c) : ∃ g o ia ic, a = some ⟨g, o, none⟩ ∧ g < B ∧ CoAt B w g (o + j * 4) c ia ic := by
  obtain ⟨hj, _⟩ := List.getElem?_eq_some_iff.1 e
  obtain ⟨g, o, ea, hg, hc⟩ := h.2 (by omega)
  obtain ⟨ia, ic, q⟩ := hc j c e
  exact ⟨g, o, ia, ic, ea, hg, q⟩
theorem InS.at {B : Nat} {w : World} {a : Option Addr} {l : List Cd.In} (h : InS B w a l) {j : Nat} {i : Cd.In} (e : l[j]? = some i) : ∃ g o, a = some ⟨g, o, none⟩ ∧ g < B ∧ InAt w g (o + j * 3) i := by
  obtain ⟨hj, _⟩ := List.getElem?_eq_some_iff.1 e
  obtain ⟨g, o, ea, hg, hc⟩ := h.2 (by omega)
  exact ⟨g, o, ea, hg, hc j i e⟩
/-- The table of how many numbers stand in a line lies as it is laid, in a block below B. -/
structure Tn (B : Nat) (w : World) : Prop where
  lt : 0 < B
  get : ∀ k : Nat, k < 26 → w.cell? ⟨0, k, none⟩ = some (.int .i64 (Cd.numsL.getD k 0))
theorem Tn.later {w w' : World} {B : Nat} (h : Tn B w) (b : Below B w w') : Tn B w' :=
  ⟨h.lt, fun k hk => (b.cell (p := ⟨0, k, none⟩) h.lt).trans (h.get k hk)⟩
theorem Tn.mono {w : World} {B B' : Nat} (h : Tn B w) (hb : B ≤ B') : Tn B' w := ⟨Nat.lt_of_lt_of_le h.lt hb, h.get⟩
/-- The table of what is taken and left. -/
structure Tm (B : Nat) (w : World) : Prop where
  lt : 1 < B
  tk : ∀ k : Nat, k < 26 → w.cell? ⟨1, k * 2, none⟩ = some (.int .i64 (Cd.takesL.getD k 0))
  lv : ∀ k : Nat, k < 26 → w.cell? ⟨1, k * 2 + 1, none⟩ = some (.int .i64 (Cd.leavesL.getD k 0))
theorem Tm.later {w w' : World} {B : Nat} (h : Tm B w) (b : Below B w w') : Tm B w' :=
  ⟨h.lt, fun k hk => (b.cell (p := ⟨1, _, none⟩) h.lt).trans (h.tk k hk), fun k hk => (b.cell (p := ⟨1, _, none⟩) h.lt).trans (h.lv k hk)⟩
theorem Tm.mono {w : World} {B B' : Nat} (h : Tm B w) (hb : B ≤ B') : Tm B' w := ⟨Nat.lt_of_lt_of_le h.lt hb, h.tk, h.lv⟩
end Go.Proofs.YtodpdnidinnjjaaDoor
