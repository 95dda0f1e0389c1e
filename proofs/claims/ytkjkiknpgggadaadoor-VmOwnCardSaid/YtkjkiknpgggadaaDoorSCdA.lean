/- Layer 8, plain: instructions, codes, and the heights of a code's places. No Go in sight; no condition. -/
/- The plain mathematics of layer 1: wraps of 64 bits, and the number that digits write up to a limit. No Go in sight; no condition. -/
/- Layer 8: instructions and codes as they lie in memory; the layer's own tables. -/
/- Layer 8: the program's small functions over one instruction, each for every instruction. -/
import Derived.RowKit
import Derived.Lib.ItoaNum
import Derived.Test.YtkjkiknpgggadaaDoorRows
import Derived.WalkKit
import Derived.WalkMore
import Derived.WalkSpells
import Derived.WalkLawsBesides
import Derived.Deep.RegionHeld3
import Derived.BigQuiet
import Derived.Handy
import Derived.Deep.RegionWith
import Derived.Deep.DeepCutAuto
import Derived.Deep.QuietTactic
import Derived.BigRegion
import Derived.RegionTactic
import Derived.WalkSmall
namespace Go.Proofs.YtkjkiknpgggadaaDoor.Cd
open Go.RowKit

structure In where
  op : Int
  n : Int
  m : Int
structure Co where
  ins : List In
  cells : Int
  params : Int
  ans : Bool
def numsL : List Int := [0, 1, 1, 1, 2, 2, 2, 0, 0, 0, 0, 0, 0, 0, 0, 0, 0, 1, 1, 2, 1, 0, 0, 0, 2, 0]
def takesL : List Int := [0, 0, 0, 1, 1, 2, 0, 2, 2, 2, 2, 2, 2, 2, 2, 1, 1, 0, 1, 0, 0, 1, 0, 1, 0, 1]
def leavesL : List Int := [0, 1, 1, 0, 1, 0, 0, 1, 1, 1, 1, 1, 1, 1, 1, 1, 1, 0, 0, 0, 0, 0, 1, 0, 0, 0]
def nm (op : Int) : Int := numsL.getD op.toNat 0
def hl (i : In) : Bool := decide (1 ≤ i.op) && decide (i.op ≤ 25) && (i.n == 0 || decide (0 < nm i.op)) && (i.m == 0 || decide (1 < nm i.op))
def an (c : Co) : Int := if c.ans then 1 else 0
def hc (c : Co) (f s : Int) : Bool := decide (0 ≤ f) && decide (f ≤ c.cells - s)
def mc (B : Int) (l : List Co) (i : In) : Bool := decide (0 ≤ i.n) && decide (0 ≤ i.m) && (match l[i.n.toNat]? with | some d => i.m == d.params && decide (d.params ≤ B) | none => false)
def al (B : Int) (l : List Co) (c : Co) (i : In) : Bool :=
  if i.op = 2 ∨ i.op = 3 then hc c i.n 1
  else if i.op = 4 ∨ i.op = 5 ∨ i.op = 6 then decide (1 ≤ i.m) && decide (i.m ≤ 64) && hc c i.n i.m
  else if i.op = 17 ∨ i.op = 18 then decide (0 ≤ i.n) && decide (i.n < c.ins.length)
  else if i.op = 19 then mc B l i
  else if i.op = 20 then i.n == an c
  else if i.op = 24 then decide (0 ≤ i.n) && decide (1 ≤ i.m) && decide (i.m ≤ 3)
  else true
def sz (c : Co) : Bool := decide (1 ≤ c.ins.length) && decide (c.ins.length ≤ 65536) && decide (0 ≤ c.cells) && decide (c.cells ≤ 65536) && decide (0 ≤ c.params) && decide (c.params ≤ 8) && decide (c.params ≤ c.cells)
def tk (i : In) : Int := if i.op = 19 then i.m else if i.op = 20 then i.n else takesL.getD i.op.toNat 0
def lv (l : List Co) (i : In) : Int := if i.op = 19 then (match l[i.n.toNat]? with | some d => an d | none => 0) else if i.op = 20 then 0 else leavesL.getD i.op.toNat 0
def n1 (i : In) (p : Int) : Int := if i.op = 17 then i.n else p + 1
def n2 (i : In) (p : Int) : Int := if i.op = 17 ∨ i.op = 18 then i.n else p + 1
def bare (i : In) : Bool := decide (i.op = 20) || decide (i.op = 24)
inductive Rc (l : List Co) (c : Co) : Int → Int → Prop
  | zero : Rc l c 0 0
  | one (p h : Int) (i : In) (r : Rc l c p h) (hp : 0 ≤ p) (e : c.ins[p.toNat]? = some i) (ho : i.op ≠ 20) : Rc l c (n1 i p) (h - tk i + lv l i)
  | two (p h : Int) (i : In) (r : Rc l c p h) (hp : 0 ≤ p) (e : c.ins[p.toNat]? = some i) (ho : i.op ≠ 20) : Rc l c (n2 i p) (h - tk i + lv l i)
def Lo (c : Co) (p h : Int) : Prop := 0 ≤ p ∧ ∃ i, c.ins[p.toNat]? = some i ∧ tk i ≤ h ∧ h ≤ 4096 ∧ (bare i = true → h = tk i)
structure Fit (B : Int) (l : List Co) (c : Co) : Prop where
  sz : sz c = true
  al : ∀ i, i ∈ c.ins → hl i = true ∧ al B l c i = true
  lo : ∀ p h, Rc l c p h → Lo c p h
  eq : ∀ p h h', Rc l c p h → Rc l c p h' → h = h'
structure Cl (l : List Co) (c : Co) (H : List Int) : Prop where
  len : H.length = c.ins.length
  zero : H[0]? = some 0
  rc : ∀ (p : Nat) h, H[p]? = some h → h = -1 ∨ Rc l c p h
  go : ∀ (p : Nat) h i, H[p]? = some h → h ≠ -1 → c.ins[p]? = some i → tk i ≤ h ∧ h ≤ 4096 ∧ (bare i = true → h = tk i) ∧ (i.op ≠ 20 → 0 ≤ n1 i p ∧ 0 ≤ n2 i p ∧ H[(n1 i p).toNat]? = some (h - tk i + lv l i) ∧ H[(n2 i p).toNat]? = some (h - tk i + lv l i) ∧ 0 ≤ h - tk i + lv l i)
theorem Cl.all {l : List Co} {c : Co} {H : List Int} (h : Cl l c H) {p x : Int} (r : Rc l c p x) : 0 ≤ p ∧ H[p.toNat]? = some x ∧ 0 ≤ x := by
  induction r with
  | zero => exact ⟨by omega, h.zero, by omega⟩
  | one p x i r hp e ho ih =>
    obtain ⟨a, b, c1⟩ := ih
    have g := h.go p.toNat x i b (by omega) e
    rw [Int.toNat_of_nonneg a] at g
    obtain ⟨_, _, _, g⟩ := g
    obtain ⟨g1, _, g3, _, g5⟩ := g ho
    exact ⟨g1, g3, g5⟩
  | two p x i r hp e ho ih =>
    obtain ⟨a, b, c1⟩ := ih
    have g := h.go p.toNat x i b (by omega) e
    rw [Int.toNat_of_nonneg a] at g
    obtain ⟨_, _, _, g⟩ := g
    obtain ⟨_, g2, _, g4, g5⟩ := g ho
    exact ⟨g2, g4, g5⟩
theorem Cl.fit {B : Int} {l : List Co} {c : Co} {H : List Int} (h : Cl l c H) (hs : sz c = true) (ha : ∀ i, i ∈ c.ins → hl i = true ∧ al B l c i = true) : Fit B l c := by
  refine ⟨hs, ha, fun p x r => ?_, fun p x x' r r' => ?_⟩
  · obtain ⟨a, b, d⟩ := h.all r
    obtain ⟨hb, _⟩ := List.getElem?_eq_some_iff.1 b
    rw [h.len] at hb
    have e := List.getElem?_eq_getElem hb
    obtain ⟨g1, g2, g3, _⟩ := h.go _ _ _ b (by omega) e
    exact ⟨a, _, e, g1, g2, g3⟩
  · have a := (h.all r).2.1
    have b := (h.all r').2.1
    rw [a] at b
    exact Option.some.inj b
def HR (B : Int) (l : List Co) (c : Co) : Option (List Int) → Prop
  | none => ¬ Fit B l c
  | some H => Cl l c H ∧ Fit B l c
theorem no_lo {B : Int} {l : List Co} {c : Co} {p h : Int} (r : Rc l c p h) (n : ¬ Lo c p h) : HR B l c none := fun f => n (f.lo p h r)
theorem no_eq {B : Int} {l : List Co} {c : Co} {p h h' : Int} (r : Rc l c p h) (r' : Rc l c p h') (n : h ≠ h') : HR B l c none := fun f => n (f.eq p h h' r r')
theorem no_sz {B : Int} {l : List Co} {c : Co} (n : ¬ sz c = true) : HR B l c none := fun f => n f.sz
def HK (B : Int) (l : List Co) (k : Int) (r : Option (List Int)) : Prop := (0 ≤ k ∧ ∃ c, l[k.toNat]? = some c ∧ HR B l c r) ∨ (¬ (0 ≤ k ∧ k.toNat < l.length) ∧ r = none)
def Snd (B : Int) (l : List Co) (main : Int) : Prop := l.length ≤ 40 ∧ 0 ≤ main ∧ (∃ c, l[main.toNat]? = some c ∧ c.params = 0 ∧ c.ans = false) ∧ ∀ c, c ∈ l → Fit B l c
theorem al_mono {B B' : Int} {l : List Co} {c : Co} {i : In} (hB : ∀ d, d ∈ l → d.params ≤ B') (h : al B l c i = true) : al B' l c i = true := by
  have key : mc B l i = true → mc B' l i = true := by
    unfold mc
    cases e : l[i.n.toNat]? with
    | none => simp
    | some d =>
      simp
      intro h1 h2 h3 _
      exact ⟨⟨h1, h2⟩, h3, hB d (List.mem_of_getElem? e)⟩
  by_cases e : i.op = 19
  · simp only [al, e] at h ⊢
    exact key h
  · simpa [al, e] using h
theorem snd_mono {B B' : Int} {l : List Co} {main : Int} (hB : 8 ≤ B') (h : Snd B l main) : Snd B' l main := by
  obtain ⟨h1, h2, h3, h4⟩ := h
  refine ⟨h1, h2, h3, fun c hc => ?_⟩
  obtain ⟨f1, f2, f3, f4⟩ := h4 c hc
  refine ⟨f1, fun i hi => ⟨(f2 i hi).1, al_mono (fun d hd => ?_) (f2 i hi).2⟩, f3, f4⟩
  have := (h4 d hd).sz
  unfold sz at this
  simp at this
  omega
end Go.Proofs.YtkjkiknpgggadaaDoor.Cd

namespace Go.Proofs.YtkjkiknpgggadaaDoor.Pl
open Go.RowKit

theorem w_add_l (a b : Int) : wrap64 (wrap64 a + b) = wrap64 (a + b) := by unfold wrap64; omega
theorem w_sub_r (a b : Int) : wrap64 (a - wrap64 b) = wrap64 (a - b) := by unfold wrap64; omega
theorem w_ex (a : Int) : ∃ k, wrap64 a = a + 18446744073709551616 * k := ⟨-((a + 9223372036854775808) / 18446744073709551616), by unfold wrap64; omega⟩
theorem w_cong (a k : Int) : wrap64 (a + 18446744073709551616 * k) = wrap64 a := by unfold wrap64; omega
theorem w_mul_l (a b : Int) : wrap64 (wrap64 a * b) = wrap64 (a * b) := by
  obtain ⟨k, hk⟩ := w_ex a
  rw [hk, Int.add_mul, Int.mul_assoc, w_cong]
theorem w_mul_l_add (a b c : Int) : wrap64 (wrap64 a * b + c) = wrap64 (a * b + c) := by
  rw [← w_add_l (wrap64 a * b) c, w_mul_l, w_add_l]
theorem w_id (a : Int) (h0 : -9223372036854775808 ≤ a) (h1 : a ≤ 9223372036854775807) : wrap64 a = a := by unfold wrap64; omega
theorem u64w (n : Int) : IntKind.wrap .u64 n = n % 18446744073709551616 := by
  simp [IntKind.wrap, IntKind.signed, IntKind.bits]
def quot (a b : Int) : Int := wrap64 (a.tdiv b)
def rest (a b : Int) : Int := a.tmod b
def far (a : Int) : Int := (a.natAbs : Int)
theorem far_neg {a : Int} (h : a < 0) : far a = -a := by unfold far; omega
theorem far_pos {a : Int} (h : ¬ a < 0) : far a = a := by unfold far; omega
theorem tmod_lt (a b : Int) (hb : b ≠ 0) : far (rest a b) < far b := by
  unfold far rest
  have := Int.natAbs_tmod a b
  have h2 := Nat.mod_lt a.natAbs (Int.natAbs_pos.2 hb)
  omega
theorem tmod_bd (a b : Int) (hb : b ≠ 0) (h2 : -9223372036854775808 ≤ b) (h3 : b ≤ 9223372036854775807) : -9223372036854775808 ≤ rest a b ∧ rest a b ≤ 9223372036854775807 := by
  have := tmod_lt a b hb
  unfold far at this
  omega
theorem bd_of_wf {n : Int} (h : (Lit.int .i64 n).wf = true) : -9223372036854775808 ≤ n ∧ n ≤ 9223372036854775807 := by
  simp only [Lit.wf, IntKind.min, IntKind.max, IntKind.signed, IntKind.bits, Bool.and_eq_true, decide_eq_true_eq, if_true] at h
  omega

def bit (n : Int) (j : Nat) : Int := wrap64 ((IntKind.wrap .u64 n / 2 ^ j).tmod 2)

def mag (L : Nat) : List UInt8 → Nat → Nat → Option Nat
  | [], r, n => if r = 0 then none else some n
  | c :: t, r, n => if 48 ≤ c.toNat ∧ c.toNat ≤ 57 ∧ ¬ (0 < r ∧ n = 0) ∧ n ≤ (L - (c.toNat - 48)) / 10 then mag L t (r + 1) (n * 10 + (c.toNat - 48)) else none

theorem mag_nil (L r n : Nat) : mag L [] r n = if r = 0 then none else some n := rfl
def lim (b : Bool) : Int := if b then 9223372036854775808 else 9223372036854775807
def parse (l : List UInt8) : Option Int :=
  match l with
  | 45 :: t => (mag (lim true).toNat t 0 0).bind fun n : Nat => if n = 0 then none else some (-(n : Int))
  | l => (mag (lim false).toNat l 0 0).map fun n : Nat => (n : Int)

end Go.Proofs.YtkjkiknpgggadaaDoor.Pl

namespace Go.Proofs.YtkjkiknpgggadaaDoor
open Go.RowKit

namespace Cd
def I6 (a : Int) : Prop := -9223372036854775808 ≤ a ∧ a ≤ 9223372036854775807
def In.Ok (i : In) : Prop := I6 i.op ∧ I6 i.n ∧ I6 i.m
def Co.Ok (c : Co) : Prop := (∀ i, i ∈ c.ins → i.Ok) ∧ I6 c.cells ∧ I6 c.params
end Cd
abbrev inV (i : Cd.In) : Value := .agg #[.int .i64 i.op, .int .i64 i.n, .int .i64 i.m]
structure InAt (w : World) (g o : Nat) (i : Cd.In) : Prop where
  c0 : w.cell? ⟨g, o, none⟩ = some (.int .i64 i.op)
  c1 : w.cell? ⟨g, o + 1, none⟩ = some (.int .i64 i.n)
  c2 : w.cell? ⟨g, o + 2, none⟩ = some (.int .i64 i.m)
def InS (B : Nat) (w : World) (a : Option Addr) (l : List Cd.In) : Prop := l.length ≤ 1000000000000000 ∧ (0 < l.length → ∃ g o, a = some ⟨g, o, none⟩ ∧ g < B ∧ ∀ j i, l[j]? = some i → InAt w g (o + j * 3) i)
theorem InS.later {B : Nat} {w w' : World} {a : Option Addr} {l : List Cd.In} (h : InS B w a l) (b : Below B w w') : InS B w' a l :=
  ⟨h.1, fun h0 => by
    obtain ⟨g, o, e, hg, hc⟩ := h.2 h0
    refine ⟨g, o, e, hg, fun j i hj => ?_⟩
    have q := hc j i hj
    exact ⟨(b.cell (p := ⟨g, _, none⟩) hg).trans q.c0, (b.cell (p := ⟨g, _, none⟩) hg).trans q.c1, (b.cell (p := ⟨g, _, none⟩) hg).trans q.c2⟩⟩
theorem InS.mono {B B' : Nat} {w : World} {a : Option Addr} {l : List Cd.In} (h : InS B w a l) (hb : B ≤ B') : InS B' w a l :=
  ⟨h.1, fun h0 => by
    obtain ⟨g, o, e, hg, hc⟩ := h.2 h0
    exact ⟨g, o, e, Nat.lt_of_lt_of_le hg hb, hc⟩⟩
structure CoAt (B : Nat) (w : World) (g o : Nat) (c : Cd.Co) (ia : Option Addr) (ic : Nat) : Prop where
  c0 : w.cell? ⟨g, o, none⟩ = some (.slice ia c.ins.length ic)
  c1 : w.cell? ⟨g, o + 1, none⟩ = some (.int .i64 c.cells)
  c2 : w.cell? ⟨g, o + 2, none⟩ = some (.int .i64 c.params)
  c3 : w.cell? ⟨g, o + 3, none⟩ = some (.bool c.ans)
  hi : InS B w ia c.ins
  hc : c.ins.length ≤ ic
theorem CoAt.later {B : Nat} {w w' : World} {g o : Nat} {c : Cd.Co} {ia : Option Addr} {ic : Nat} (h : CoAt B w g o c ia ic) (hg : g < B) (b : Below B w w') : CoAt B w' g o c ia ic :=
  ⟨(b.cell (p := ⟨g, _, none⟩) hg).trans h.c0, (b.cell (p := ⟨g, _, none⟩) hg).trans h.c1, (b.cell (p := ⟨g, _, none⟩) hg).trans h.c2, (b.cell (p := ⟨g, _, none⟩) hg).trans h.c3, h.hi.later b, h.hc⟩
def CoS (B : Nat) (w : World) (a : Option Addr) (l : List Cd.Co) : Prop := l.length ≤ 1000000000000000 ∧ (0 < l.length → ∃ g o, a = some ⟨g, o, none⟩ ∧ g < B ∧ ∀ j c, l[j]? = some c → ∃ ia ic, CoAt B w g (o + j * 4) c ia ic)
theorem CoS.later {B : Nat} {w w' : World} {a : Option Addr} {l : List Cd.Co} (h : CoS B w a l) (b : Below B w w') : CoS B w' a l :=
  ⟨h.1, fun h0 => by
    obtain ⟨g, o, e, hg, hc⟩ := h.2 h0
    refine ⟨g, o, e, hg, fun j i hj => ?_⟩
    obtain ⟨ia, ic, q⟩ := hc j i hj
    exact ⟨ia, ic, q.later hg b⟩⟩
theorem CoS.mono {B B' : Nat} {w : World} {a : Option Addr} {l : List Cd.Co} (h : CoS B w a l) (hb : B ≤ B') : CoS B' w a l :=
  ⟨h.1, fun h0 => by
    obtain ⟨g, o, e, hg, hc⟩ := h.2 h0
    refine ⟨g, o, e, Nat.lt_of_lt_of_le hg hb, fun j i hj => ?_⟩
    obtain ⟨ia, ic, q⟩ := hc j i hj
    exact ⟨ia, ic, q.c0, q.c1, q.c2, q.c3, q.hi.mono hb, q.hc⟩⟩
theorem CoS.at {B : Nat} {w : World} {a : Option Addr} {l : List Cd.Co} (h : CoS B w a l) {j : Nat} {c : Cd.Co} (e : l[j]? = some c) : ∃ g o ia ic, a = some ⟨g, o, none⟩ ∧ g < B ∧ CoAt B w g (o + j * 4) c ia ic := by
  obtain ⟨hj, _⟩ := List.getElem?_eq_some_iff.1 e
  obtain ⟨g, o, ea, hg, hc⟩ := h.2 (by omega)
  obtain ⟨ia, ic, q⟩ := hc j c e
  exact ⟨g, o, ia, ic, ea, hg, q⟩
theorem InS.at {B : Nat} {w : World} {a : Option Addr} {l : List Cd.In} (h : InS B w a l) {j : Nat} {i : Cd.In} (e : l[j]? = some i) : ∃ g o, a = some ⟨g, o, none⟩ ∧ g < B ∧ InAt w g (o + j * 3) i := by
  obtain ⟨hj, _⟩ := List.getElem?_eq_some_iff.1 e
  obtain ⟨g, o, ea, hg, hc⟩ := h.2 (by omega)
  exact ⟨g, o, ea, hg, hc j i e⟩
structure Tn (B : Nat) (w : World) : Prop where
  lt : 0 < B
  get : ∀ k : Nat, k < 26 → w.cell? ⟨0, k, none⟩ = some (.int .i64 (Cd.numsL.getD k 0))
theorem Tn.later {w w' : World} {B : Nat} (h : Tn B w) (b : Below B w w') : Tn B w' :=
  ⟨h.lt, fun k hk => (b.cell (p := ⟨0, k, none⟩) h.lt).trans (h.get k hk)⟩
theorem Tn.mono {w : World} {B B' : Nat} (h : Tn B w) (hb : B ≤ B') : Tn B' w := ⟨Nat.lt_of_lt_of_le h.lt hb, h.get⟩
structure Tm (B : Nat) (w : World) : Prop where
  lt : 1 < B
  tk : ∀ k : Nat, k < 26 → w.cell? ⟨1, k * 2, none⟩ = some (.int .i64 (Cd.takesL.getD k 0))
  lv : ∀ k : Nat, k < 26 → w.cell? ⟨1, k * 2 + 1, none⟩ = some (.int .i64 (Cd.leavesL.getD k 0))
theorem Tm.later {w w' : World} {B : Nat} (h : Tm B w) (b : Below B w w') : Tm B w' :=
  ⟨h.lt, fun k hk => (b.cell (p := ⟨1, _, none⟩) h.lt).trans (h.tk k hk), fun k hk => (b.cell (p := ⟨1, _, none⟩) h.lt).trans (h.lv k hk)⟩
theorem Tm.mono {w : World} {B B' : Nat} (h : Tm B w) (hb : B ≤ B') : Tm B' w := ⟨Nat.lt_of_lt_of_le h.lt hb, h.tk, h.lv⟩
end Go.Proofs.YtkjkiknpgggadaaDoor

namespace Go.Proofs.YtkjkiknpgggadaaDoor
open Go.RowKit

theorem retB {a b : Bool} (h : a = b) : Ending.returned (.bool a) = .returned (.bool b) := by rw [h]
set_option maxHeartbeats 1000000 in
theorem cdHasLine_low (i : Cd.In) (w : World) (h : i.op < 1) : Calls Tryd.prog 88 #[inV i] w fun e w' => e = .returned (.bool (Cd.hl i)) ∧ Below w.heap.size w w' := by
  have e : Hid (false = Cd.hl i) := by unfold Hid Cd.hl; rw [decide_eq_false (by omega : ¬ 1 ≤ i.op)]; rfl
  go_enter Tryd.func88, Tryd.ntmps88
  go_wp2_with fail
  go_ret
  exact ⟨retB e.out, by go_grown⟩
set_option maxHeartbeats 1000000 in
theorem cdHasLine_high (i : Cd.In) (w : World) (h : 25 < i.op) : Calls Tryd.prog 88 #[inV i] w fun e w' => e = .returned (.bool (Cd.hl i)) ∧ Below w.heap.size w w' := by
  have e : Hid (false = Cd.hl i) := by unfold Hid Cd.hl; rw [decide_eq_false (by omega : ¬ i.op ≤ 25)]; simp
  have h1 : ¬ i.op < 1 := by omega
  go_enter Tryd.func88, Tryd.ntmps88
  go_wp2_with fail
  go_ret
  exact ⟨retB e.out, by go_grown⟩
set_option maxHeartbeats 4000000 in
theorem cdHasLine_in (k : Nat) (n m : Int) (B : Nat) (w : World) (h1 : 1 ≤ k) (h2 : k ≤ 25) (hB : B ≤ w.heap.size) (ht : Tn B w) : Calls Tryd.prog 88 #[inV ⟨k, n, m⟩] w fun e w' => e = .returned (.bool (Cd.hl ⟨k, n, m⟩)) ∧ Below w.heap.size w w' := by
  have c := ht.get k (by omega)
  have gl : 0 < w.heap.size := Nat.lt_of_lt_of_le ht.lt hB
  have gz : ¬ 0 = w.heap.size := by omega
  have e : Cd.hl ⟨k, n, m⟩ = ((n == 0 || decide (0 < Cd.nm k)) && (m == 0 || decide (1 < Cd.nm k))) := by
    unfold Cd.hl
    dsimp only
    rw [decide_eq_true (by omega : (1 : Int) ≤ k), decide_eq_true (by omega : (k : Int) ≤ 25)]
    simp
  have hx : Cd.nm k = Cd.numsL.getD k 0 := by unfold Cd.nm; rw [Int.toNat_natCast]
  rw [hx] at e
  have hx3 : Cd.numsL.getD k 0 = 0 ∨ Cd.numsL.getD k 0 = 1 ∨ Cd.numsL.getD k 0 = 2 := by
    have : ∀ k : Nat, k < 26 → Cd.numsL.getD k 0 = 0 ∨ Cd.numsL.getD k 0 = 1 ∨ Cd.numsL.getD k 0 = 2 := by decide
    exact this k (by omega)
  generalize Cd.numsL.getD k 0 = x at c e hx3
  clear hx ht
  have g1 : ¬ (k : Int) < 1 := by omega
  have g2 : ¬ 25 < (k : Int) := by omega
  have g3 : (k : Int) < 26 := by omega
  have g4 : (0 : Int) ≤ (k : Int) := by omega
  rcases hx3 with rfl | rfl | rfl
  all_goals
    by_cases hn : n = 0
    all_goals
      by_cases hm : m = 0
      all_goals
        first | (have hnb : (n == 0) = true := by rw [hn]; rfl) | (have hnb : (n == 0) = false := by simpa using hn)
        first | (have hmb : (m == 0) = true := by rw [hm]; rfl) | (have hmb : (m == 0) = false := by simpa using hm)
        rw [hnb, hmb] at e
        have E : Hid (Cd.hl ⟨k, n, m⟩ = _) := e
        clear e hn hm
        go_enter Tryd.func88, Tryd.ntmps88
        go_wp2_with fail
        go_ret
        exact ⟨retB (E.out.trans (by decide)).symm, by go_grown⟩
theorem cdHasLine_any (i : Cd.In) (B : Nat) (w : World) (hB : B ≤ w.heap.size) (ht : Tn B w) : Calls Tryd.prog 88 #[inV i] w fun e w' => e = .returned (.bool (Cd.hl i)) ∧ Below w.heap.size w w' := by
  by_cases h1 : i.op < 1
  · exact cdHasLine_low i w h1
  · by_cases h2 : 25 < i.op
    · exact cdHasLine_high i w h2
    · obtain ⟨op, n, m⟩ := i
      obtain ⟨k, rfl⟩ : ∃ k : Nat, op = k := ⟨op.toNat, by dsimp only at h1; omega⟩
      dsimp only at h1 h2
      exact cdHasLine_in k n m B w (by omega) (by omega) hB ht
set_option maxHeartbeats 1000000 in
theorem cdBare_any (i : Cd.In) (w : World) : Calls Tryd.prog 92 #[inV i] w fun e w' => e = .returned (.bool (Cd.bare i)) ∧ Below w.heap.size w w' := by
  by_cases h1 : i.op = 20
  · have hb : (i.op == 20) = true := by rw [h1]; rfl
    have E : Hid (true = Cd.bare i) := by unfold Hid Cd.bare; rw [decide_eq_true h1]; rfl
    clear h1
    go_enter Tryd.func92, Tryd.ntmps92
    go_wp2_with fail
    go_ret
    exact ⟨retB E.out, by go_grown⟩
  · have hb : (i.op == 20) = false := by simpa using h1
    by_cases h2 : i.op = 24
    · have hc : (i.op == 24) = true := by rw [h2]; rfl
      have E : Hid (true = Cd.bare i) := by unfold Hid Cd.bare; rw [decide_eq_true h2]; simp
      clear h1 h2
      go_enter Tryd.func92, Tryd.ntmps92
      go_wp2_with fail
      go_ret
      exact ⟨retB E.out, by go_grown⟩
    · have hc : (i.op == 24) = false := by simpa using h2
      have E : Hid (false = Cd.bare i) := by unfold Hid Cd.bare; rw [decide_eq_false h1, decide_eq_false h2]; rfl
      clear h1 h2
      go_enter Tryd.func92, Tryd.ntmps92
      go_wp2_with fail
      go_ret
      exact ⟨retB E.out, by go_grown⟩
set_option maxHeartbeats 1000000 in
theorem cdAns_any (ia : Option Addr) (n ic : Nat) (cells params : Int) (b : Bool) (w : World) : Calls Tryd.prog 98 #[.agg #[.slice ia n ic, .int .i64 cells, .int .i64 params, .bool b]] w fun e w' => e = .returned (.int .i64 (if b then 1 else 0)) ∧ Below w.heap.size w w' := by
  cases b
  all_goals
    go_enter Tryd.func98, Tryd.ntmps98
    go_wp2_with fail
    go_ret
    exact ⟨rfl, by go_grown⟩
set_option maxHeartbeats 1000000 in
theorem cdBehind_any (i : Cd.In) (p : Nat) (hp : p ≤ 1000000) (hn : Cd.I6 i.n) (w : World) : Calls Tryd.prog 93 #[inV i, .int .i64 p] w fun e w' => e = .returned (.agg #[.int .i64 (Cd.n1 i p), .int .i64 (Cd.n2 i p)]) ∧ Below w.heap.size w w' := by
  have wn : wrap64 i.n = i.n := by unfold wrap64; unfold Cd.I6 at hn; omega
  have wp : wrap64 ((p : Int) + 1) = (p : Int) + 1 := by unfold wrap64; omega
  by_cases h1 : i.op = 17
  · have hb : (i.op == 17) = true := by rw [h1]; rfl
    have E : Hid (Cd.n1 i p = i.n ∧ Cd.n2 i p = i.n) := by unfold Hid Cd.n1 Cd.n2; rw [if_pos h1, if_pos (.inl h1)]; exact ⟨rfl, rfl⟩
    rw [E.out.1, E.out.2]
    clear h1
    go_enter Tryd.func93, Tryd.ntmps93
    go_wp2_with fail
    refine bodyPost_ret (v := .agg #[.int .i64 i.n, .int .i64 i.n]) (by simp [results, Tryd.results93, go_sem]) rfl ?_
    exact ⟨rfl, by go_grown⟩
  · have hb : (i.op == 17) = false := by simpa using h1
    by_cases h2 : i.op = 18
    · have hc : (i.op == 18) = true := by rw [h2]; rfl
      have E : Hid (Cd.n1 i p = p + 1 ∧ Cd.n2 i p = i.n) := by unfold Hid Cd.n1 Cd.n2; rw [if_neg h1, if_pos (.inr h2)]; exact ⟨rfl, rfl⟩
      rw [E.out.1, E.out.2]
      clear h1 h2
      go_enter Tryd.func93, Tryd.ntmps93
      go_wp2_with fail
      refine bodyPost_ret (v := .agg #[.int .i64 ((p : Int) + 1), .int .i64 i.n]) (by simp [results, Tryd.results93, go_sem]) rfl ?_
      exact ⟨rfl, by go_grown⟩
    · have hc : (i.op == 18) = false := by simpa using h2
      have E : Hid (Cd.n1 i p = p + 1 ∧ Cd.n2 i p = p + 1) := by unfold Hid Cd.n1 Cd.n2; rw [if_neg h1, if_neg (by omega)]; exact ⟨rfl, rfl⟩
      rw [E.out.1, E.out.2]
      clear h1 h2
      go_enter Tryd.func93, Tryd.ntmps93
      go_wp2_with fail
      refine bodyPost_ret (v := .agg #[.int .i64 ((p : Int) + 1), .int .i64 ((p : Int) + 1)]) (by simp [results, Tryd.results93, go_sem]) rfl ?_
      exact ⟨rfl, by go_grown⟩
end Go.Proofs.YtkjkiknpgggadaaDoor

