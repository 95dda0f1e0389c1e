/- Layer 13: bytes and numbers in memory; bits. -/
import Derived.Test.YtgonadilbjfpkaaTpPl
import Derived.Test.YtgonadilbjfpkaaRows
import Derived.WalkKit
import Derived.WalkMore
import Derived.WalkSpells
import Derived.WalkLawsBesides
import Derived.Deep.RegionHeld3
import Derived.BigQuiet
import Derived.Handy
import Derived.Deep.RegionWith
import Derived.Deep.DeepCutAuto
import Derived.Deep.QuietTactic
import Derived.BigRegion
import Derived.RegionTactic
import Derived.WalkSmall
import Derived.Deep.DeepAppendWide
import Derived.Deep.LoopGhost
import Derived.Below
import Derived.OneCell
import Derived.Deep.RegionLaw
import Derived.Deep.Upon
namespace Go.Proofs.Ytgonadilbjfpkaa
open Go.RowKit
set_option linter.unusedVariables false

/-- Bytes below the block B. -/
def ByS (B : Nat) (w : World) (a : Option Addr) (l : List Int) : Prop := 0 < l.length → ∃ g o, a = some ⟨g, o, none⟩ ∧ g < B ∧ ∀ j x, l[j]? = some x → w.cell? ⟨g, o + j, none⟩ = some (.int .u8 x)
theorem ByS.later {B B' : Nat} {w w' : World} {a : Option Addr} {l : List Int} (h : ByS B w a l) (b : Below B' w w') (hb : B ≤ B') : ByS B w' a l := fun h0 => by
  obtain ⟨g, o, e, hg, hc⟩ := h h0
  exact ⟨g, o, e, hg, fun j x hx => (b.cell (p := ⟨g, _, none⟩) (Nat.lt_of_lt_of_le hg hb)).trans (hc j x hx)⟩
theorem ByS.mono {B B' : Nat} {w : World} {a : Option Addr} {l : List Int} (h : ByS B w a l) (hb : B ≤ B') : ByS B' w a l := fun h0 => by
  obtain ⟨g, o, e, hg, hc⟩ := h h0
  exact ⟨g, o, e, Nat.lt_of_lt_of_le hg hb, hc⟩
/-- Numbers below the block B. -/
def NmS (B : Nat) (w : World) (a : Option Addr) (l : List Int) : Prop := 0 < l.length → ∃ g o, a = some ⟨g, o, none⟩ ∧ g < B ∧ ∀ j x, l[j]? = some x → w.cell? ⟨g, o + j, none⟩ = some (.int .i64 x)
theorem NmS.later {B B' : Nat} {w w' : World} {a : Option Addr} {l : List Int} (h : NmS B w a l) (b : Below B' w w') (hb : B ≤ B') : NmS B w' a l := fun h0 => by
  obtain ⟨g, o, e, hg, hc⟩ := h h0
  exact ⟨g, o, e, hg, fun j x hx => (b.cell (p := ⟨g, _, none⟩) (Nat.lt_of_lt_of_le hg hb)).trans (hc j x hx)⟩
theorem NmS.mono {B B' : Nat} {w : World} {a : Option Addr} {l : List Int} (h : NmS B w a l) (hb : B ≤ B') : NmS B' w a l := fun h0 => by
  obtain ⟨g, o, e, hg, hc⟩ := h h0
  exact ⟨g, o, e, Nat.lt_of_lt_of_le hg hb, hc⟩
theorem hidT {p : Prop} (h : p) : Hid p := h
theorem adT (g o n : Nat) : (⟨g, o, none⟩ : Addr).add n = ⟨g, o + n, none⟩ := by simp [Addr.add]
theorem ownLtT {w w' : World} {base size n : Nat} {e : TypeId} {v : Value} {xs : List Value} (h : w.ownsRow base e size v n xs) (hb : Below w.heap.size w w') : w'.ownsRow base e size v n xs :=
  h.kept (row := none) ⟨hb.os, hb.tape, hb.output, hb.size, fun k hk _ => hb.block k hk⟩ (by cases hv : v.ownBlock <;> simp)
theorem ownShT {w : World} {base size n : Nat} {e : TypeId} {v : Value} {xs : List Value} (h : w.ownsRow base e size v n xs) : ∃ ao c, v = .slice ao n c := by
  rcases h.2 with ⟨rfl, rfl⟩ | ⟨g, cap, cur, rfl, _⟩
  · exact ⟨_, _, rfl⟩
  · exact ⟨_, _, rfl⟩
/-- Bytes as cells. -/
def byC (l : List Int) : List Value := l.map (Value.int .u8)
theorem byC_app (a b : List Int) : byC (a ++ b) = byC a ++ byC b := List.map_append
theorem byC_len (a : List Int) : (byC a).length = a.length := List.length_map _
theorem byC_get {a : List Int} {j : Nat} {x : Int} (h : a[j]? = some x) : (byC a)[j]? = some (.int .u8 x) := by simp [byC, h]
theorem byC_one (a : List Int) : ∀ u ∈ byC a, u.oneCell' = true := by
  intro u hu
  simp only [byC, List.mem_map] at hu
  obtain ⟨x, _, rfl⟩ := hu
  rfl
/-- A row of bytes of its own. -/
def OwB (w : World) (base : Nat) (v : Value) (l : List Int) : Prop := w.ownsRow base 5 1 v l.length (byC l)
theorem OwB.bys {w : World} {base : Nat} {a : Option Addr} {n c : Nat} {l : List Int} (h : OwB w base (.slice a n c) l) : ByS w.heap.size w a l := fun h0 => by
  have hc := @World.ownsRow.cells _ _ _ _ _ _ _ h
  have hl := @World.ownsRow.lt _ _ _ _ _ _ _ h
  rcases h.2 with ⟨_, h1⟩ | ⟨g, cap, cur, e, hbg, _⟩
  · omega
  · cases e
    refine ⟨g, 0, rfl, (hl g rfl).2, fun j x hx => ?_⟩
    have := hc (g := g) rfl j _ (byC_get hx)
    rwa [adT] at this
theorem OwB.len {w : World} {base : Nat} {a : Option Addr} {n c : Nat} {l : List Int} (h : OwB w base (.slice a n c) l) : n = l.length := by
  rcases h.2 with ⟨e, h1⟩ | ⟨g, cap, cur, e, _⟩
  · cases e; exact h1.symm
  · cases e; rfl
theorem infoB : (Try.prog.info? 5).map (fun i => (i.zero, i.size, i.bytes)) = some (some (.int .u8 0), 1, 1) := by kernel_rfl
theorem infoN : (Try.prog.info? 2).map (fun i => (i.zero, i.size, i.bytes)) = some (some (.int .i64 0), 1, 8) := by kernel_rfl

/-- Bits. -/
theorem or_u64 (a b i : Nat) (ha : a < 2 ^ i) (hb : a + b * 2 ^ i < 18446744073709551616) : bits .or .u64 (a : Int) ((b * 2 ^ i : Nat) : Int) = ((a + b * 2 ^ i : Nat) : Int) := by
  have h1 : (BitVec.ofInt 64 (a : Int)).toNat = a := by
    rw [BitVec.ofInt_natCast, BitVec.toNat_ofNat]; exact Nat.mod_eq_of_lt (by omega)
  have h2 : (BitVec.ofInt 64 ((b * 2 ^ i : Nat) : Int)).toNat = b * 2 ^ i := by
    rw [BitVec.ofInt_natCast, BitVec.toNat_ofNat]; exact Nat.mod_eq_of_lt (by omega)
  show IntKind.u64.wrap ((BitVec.ofInt 64 (a : Int) ||| BitVec.ofInt 64 ((b * 2 ^ i : Nat) : Int)).toNat : Int) = _
  rw [BitVec.toNat_or, h1, h2, IntKind.wrap_u64, Nat.or_comm, ← Nat.shiftLeft_eq, ← Nat.shiftLeft_add_eq_or_of_lt ha, Nat.shiftLeft_eq, Nat.add_comm]
  generalize a + b * 2 ^ i = x at hb ⊢
  omega
theorem or_u32 (a b i : Nat) (ha : a < 2 ^ i) (hb : a + b * 2 ^ i < 4294967296) : bits .or .u32 ((b * 2 ^ i : Nat) : Int) (a : Int) = ((a + b * 2 ^ i : Nat) : Int) := by
  have h1 : (BitVec.ofInt 32 (a : Int)).toNat = a := by
    rw [BitVec.ofInt_natCast, BitVec.toNat_ofNat]; exact Nat.mod_eq_of_lt (by omega)
  have h2 : (BitVec.ofInt 32 ((b * 2 ^ i : Nat) : Int)).toNat = b * 2 ^ i := by
    rw [BitVec.ofInt_natCast, BitVec.toNat_ofNat]; exact Nat.mod_eq_of_lt (by omega)
  show IntKind.u32.wrap ((BitVec.ofInt 32 ((b * 2 ^ i : Nat) : Int) ||| BitVec.ofInt 32 (a : Int)).toNat : Int) = _
  have wr : ∀ n : Int, IntKind.u32.wrap n = n % 4294967296 := fun n => by simp [IntKind.wrap, IntKind.bits, IntKind.signed]
  rw [BitVec.toNat_or, h1, h2, wr, ← Nat.shiftLeft_eq, ← Nat.shiftLeft_add_eq_or_of_lt ha, Nat.shiftLeft_eq, Nat.add_comm]
  generalize a + b * 2 ^ i = x at hb ⊢
  omega
theorem not_u64 (a : Nat) (ha : a < 18446744073709551616) : bits .xor .u64 18446744073709551615 (a : Int) = ((18446744073709551615 - a : Nat) : Int) := by
  have h1 : (BitVec.ofInt 64 (a : Int)).toNat = a := by
    rw [BitVec.ofInt_natCast, BitVec.toNat_ofNat]; exact Nat.mod_eq_of_lt (by omega)
  have e : BitVec.ofInt 64 18446744073709551615 = BitVec.allOnes 64 := by decide
  show IntKind.u64.wrap ((BitVec.ofInt 64 18446744073709551615 ^^^ BitVec.ofInt 64 (a : Int)).toNat : Int) = _
  rw [e, BitVec.allOnes_xor, BitVec.toNat_not, h1, IntKind.wrap_u64]
  omega
theorem not_i64 (a : Int) (h0 : 0 ≤ a) (h1 : a < 9223372036854775808) : bits .xor .i64 (-1) a = -a - 1 := by
  have e1 : (BitVec.ofInt 64 a).toNat = a.toNat := by
    have : a = ((a.toNat : Nat) : Int) := by omega
    rw [this, BitVec.ofInt_natCast, BitVec.toNat_ofNat]
    exact Nat.mod_eq_of_lt (by omega)
  have e : BitVec.ofInt 64 (-1) = BitVec.allOnes 64 := by decide
  show IntKind.i64.wrap ((BitVec.ofInt 64 (-1) ^^^ BitVec.ofInt 64 a).toNat : Int) = _
  rw [e, BitVec.allOnes_xor, BitVec.toNat_not, e1]
  rw [IntKind.wrap_i64]
  omega
end Go.Proofs.Ytgonadilbjfpkaa
