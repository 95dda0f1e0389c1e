/- Layer 9: codes and numbers within blocks. -/
import Derived.Test.YtodpdnidinnjjaaDoorUCdG
namespace Go.Proofs.YtodpdnidinnjjaaDoor
open Go.RowKit
set_option linter.unusedVariables false

/-- Numbers below B. -/
def NuS (B : Nat) (w : World) (a : Option Addr) (l : List Int) : Prop := 0 < l.length → ∃ g o, a = some ⟨g, o, none⟩ ∧ g < B ∧ ∀ j x, l[j]? = some x → w.cell? ⟨g, o + j, none⟩ = some (.int .i64 x)
theorem NuS.later {B : Nat} {w w' : World} {a : Option Addr} {l : List Int} (h : NuS B w a l) (b : Below B w w') : NuS B w' a l := fun h0 => by
  obtain ⟨g, o, e, hg, hc⟩ := h h0
  exact ⟨g, o, e, hg, fun j x hx => (b.cell (p := ⟨g, _, none⟩) hg).trans (hc j x hx)⟩
/-- Instructions, codes and numbers within the blocks from lo to hi. -/
def InW (lo hi : Nat) (w : World) (a : Option Addr) (l : List Cd.In) : Prop := l.length ≤ 1000000000000000 ∧ (0 < l.length → ∃ g o, a = some ⟨g, o, none⟩ ∧ lo ≤ g ∧ g < hi ∧ ∀ j i, l[j]? = some i → InAt w g (o + j * 3) i)
structure CoX (lo hi : Nat) (w : World) (g o : Nat) (c : Cd.Co) (ia : Option Addr) (ic : Nat) : Prop where
  c0 : w.cell? ⟨g, o, none⟩ = some (.slice ia c.ins.length ic)
  c1 : w.cell? ⟨g, o + 1, none⟩ = some (.int .i64 c.cells)
  c2 : w.cell? ⟨g, o + 2, none⟩ = some (.int .i64 c.params)
  c3 : w.cell? ⟨g, o + 3, none⟩ = some (.bool c.ans)
  hi : InW lo hi w ia c.ins
  hc : c.ins.length ≤ ic
def CoW (lo hi : Nat) (w : World) (a : Option Addr) (l : List Cd.Co) : Prop := l.length ≤ 1000000000000000 ∧ (0 < l.length → ∃ g o, a = some ⟨g, o, none⟩ ∧ lo ≤ g ∧ g < hi ∧ ∀ j c, l[j]? = some c → ∃ ia ic, CoX lo hi w g (o + j * 4) c ia ic)
def NuW (lo hi : Nat) (w : World) (a : Option Addr) (l : List Int) : Prop := 0 < l.length → ∃ g o, a = some ⟨g, o, none⟩ ∧ lo ≤ g ∧ g < hi ∧ ∀ j x, l[j]? = some x → w.cell? ⟨g, o + j, none⟩ = some (.int .i64 x)
/-- The blocks from lo to hi are as they were. -/
def Kpt (lo hi : Nat) (w w' : World) : Prop := ∀ b, lo ≤ b → b < hi → w'.heap[b]? = w.heap[b]?
theorem Kpt.cell {lo hi : Nat} {w w' : World} (h : Kpt lo hi w w') {g o : Nat} (h1 : lo ≤ g) (h2 : g < hi) : w'.cell? ⟨g, o, none⟩ = w.cell? ⟨g, o, none⟩ := World.cell?_of_block (w := w) (a := ⟨g, o, none⟩) (h g h1 h2)
theorem bl_kpt {lo hi : Nat} {w w' : World} (h : Below hi w w') : Kpt lo hi w w' := fun b _ h2 => h.block b h2
theorem InW.s {lo hi : Nat} {w : World} {a : Option Addr} {l : List Cd.In} (h : InW lo hi w a l) : InS hi w a l := ⟨h.1, fun h0 => by
  obtain ⟨g, o, e, _, h2, h3⟩ := h.2 h0
  exact ⟨g, o, e, h2, h3⟩⟩
theorem InW.keep {lo hi : Nat} {w w' : World} {a : Option Addr} {l : List Cd.In} (h : InW lo hi w a l) (k : Kpt lo hi w w') : InW lo hi w' a l := ⟨h.1, fun h0 => by
  obtain ⟨g, o, e, h1, h2, h3⟩ := h.2 h0
  refine ⟨g, o, e, h1, h2, fun j i hj => ?_⟩
  have q := h3 j i hj
  exact ⟨(k.cell h1 h2).trans q.c0, (k.cell h1 h2).trans q.c1, (k.cell h1 h2).trans q.c2⟩⟩
theorem InW.mono {lo hi lo' hi' : Nat} {w : World} {a : Option Addr} {l : List Cd.In} (h : InW lo hi w a l) (h1 : lo' ≤ lo) (h2 : hi ≤ hi') : InW lo' hi' w a l := ⟨h.1, fun h0 => by
  obtain ⟨g, o, e, a, b, h3⟩ := h.2 h0
  exact ⟨g, o, e, by omega, by omega, h3⟩⟩
theorem CoX.keep {lo hi : Nat} {w w' : World} {g o : Nat} {c : Cd.Co} {ia : Option Addr} {ic : Nat} (h : CoX lo hi w g o c ia ic) (h1 : lo ≤ g) (h2 : g < hi) (k : Kpt lo hi w w') : CoX lo hi w' g o c ia ic :=
  ⟨(k.cell h1 h2).trans h.c0, (k.cell h1 h2).trans h.c1, (k.cell h1 h2).trans h.c2, (k.cell h1 h2).trans h.c3, h.hi.keep k, h.hc⟩
theorem CoW.s {lo hi : Nat} {w : World} {a : Option Addr} {l : List Cd.Co} (h : CoW lo hi w a l) : CoS hi w a l := ⟨h.1, fun h0 => by
  obtain ⟨g, o, e, _, h2, h3⟩ := h.2 h0
  refine ⟨g, o, e, h2, fun j c hj => ?_⟩
  obtain ⟨ia, ic, q⟩ := h3 j c hj
  exact ⟨ia, ic, q.c0, q.c1, q.c2, q.c3, q.hi.s, q.hc⟩⟩
theorem CoW.keep {lo hi : Nat} {w w' : World} {a : Option Addr} {l : List Cd.Co} (h : CoW lo hi w a l) (k : Kpt lo hi w w') : CoW lo hi w' a l := ⟨h.1, fun h0 => by
  obtain ⟨g, o, e, h1, h2, h3⟩ := h.2 h0
  refine ⟨g, o, e, h1, h2, fun j c hj => ?_⟩
  obtain ⟨ia, ic, q⟩ := h3 j c hj
  exact ⟨ia, ic, q.keep h1 h2 k⟩⟩
theorem CoW.mono {lo hi lo' hi' : Nat} {w : World} {a : Option Addr} {l : List Cd.Co} (h : CoW lo hi w a l) (h1 : lo' ≤ lo) (h2 : hi ≤ hi') : CoW lo' hi' w a l := ⟨h.1, fun h0 => by
  obtain ⟨g, o, e, a, b, h3⟩ := h.2 h0
  refine ⟨g, o, e, by omega, by omega, fun j c hj => ?_⟩
  obtain ⟨ia, ic, q⟩ := h3 j c hj
  exact ⟨ia, ic, q.c0, q.c1, q.c2, q.c3, q.hi.mono h1 h2, q.hc⟩⟩
theorem NuW.s {lo hi : Nat} {w : World} {a : Option Addr} {l : List Int} (h : NuW lo hi w a l) : NuS hi w a l := fun h0 => by
  obtain ⟨g, o, e, _, h2, h3⟩ := h h0
  exact ⟨g, o, e, h2, h3⟩
theorem NuW.keep {lo hi : Nat} {w w' : World} {a : Option Addr} {l : List Int} (h : NuW lo hi w a l) (k : Kpt lo hi w w') : NuW lo hi w' a l := fun h0 => by
  obtain ⟨g, o, e, h1, h2, h3⟩ := h h0
  exact ⟨g, o, e, h1, h2, fun j x hj => (k.cell h1 h2).trans (h3 j x hj)⟩
theorem NuW.mono {lo hi lo' hi' : Nat} {w : World} {a : Option Addr} {l : List Int} (h : NuW lo hi w a l) (h1 : lo' ≤ lo) (h2 : hi ≤ hi') : NuW lo' hi' w a l := fun h0 => by
  obtain ⟨g, o, e, a, b, h3⟩ := h h0
  exact ⟨g, o, e, by omega, by omega, h3⟩
theorem CoW.later {lo hi : Nat} {w w' : World} {a : Option Addr} {l : List Cd.Co} (h : CoW lo hi w a l) (b : Below hi w w') : CoW lo hi w' a l := h.keep (bl_kpt b)
theorem NuW.later {lo hi : Nat} {w w' : World} {a : Option Addr} {l : List Int} (h : NuW lo hi w a l) (b : Below hi w w') : NuW lo hi w' a l := h.keep (bl_kpt b)
theorem CoW.at {lo hi : Nat} {w : World} {a : Option Addr} {l : List Cd.Co} (h : CoW lo hi w a l) {j : Nat} {c : Cd.Co} (e : l[j]? = some c) : ∃ g o ia ic, a = some ⟨g, o, none⟩ ∧ g < hi ∧ CoAt hi w g (o + j * 4) c ia ic := h.s.at e
end Go.Proofs.YtodpdnidinnjjaaDoor
