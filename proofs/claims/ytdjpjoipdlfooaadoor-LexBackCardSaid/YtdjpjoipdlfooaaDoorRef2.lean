/- The reference's product, digit by digit, is that of Go's own integers of 64 bits. -/
import Derived.Test.YtdjpjoipdlfooaaDoorRef1
namespace Go.Proofs.YtdjpjoipdlfooaaDoor
open Go.RowKit

theorem w_emod (x : Int) : wrap64 (x % 18446744073709551616) = wrap64 x := by unfold wrap64; omega
theorem mul_emod (a b : Int) : (a * (b % 18446744073709551616)) % 18446744073709551616 = (a * b) % 18446744073709551616 := by
  rw [Int.mul_emod, Int.emod_emod, ← Int.mul_emod]
theorem mul_yes {ds dx : Nat → Int} {a L P : Int} (hs : Pl.Dig ds) (hx : Pl.Dig dx) (h1 : Pl.low ds 64 = (a * L) % 18446744073709551616) (h2 : Pl.low dx 64 = (a * P) % 18446744073709551616) :
    Pl.low (Pl.pls ds dx 0) 64 = (a * (L + 1 * P)) % 18446744073709551616 := by
  rw [Pl.low_sum hs hx (by decide) (by decide), h1, h2, Int.one_mul, Int.mul_add]
  omega
theorem mul_dbl {dx : Nat → Int} {a P : Int} (hx : Pl.Dig dx) (h2 : Pl.low dx 64 = (a * P) % 18446744073709551616) :
    Pl.low (Pl.pls dx dx 0) 64 = (a * (P * 2)) % 18446744073709551616 := by
  rw [Pl.low_sum hx hx (by decide) (by decide), h2, ← Int.mul_assoc]
  omega
theorem low_zero : Pl.low (Pl.bit 0) 64 = 0 := by rw [Pl.low_bits]; rfl

theorem low_succ (d : Nat → Int) (k : Nat) : Pl.low d (k + 1) = Pl.low d k + d k * 2 ^ k := rfl
theorem start_s (a b : Int) : Pl.low (Pl.bit 0) 64 = (a * Pl.low (Pl.bit b) 0) % 18446744073709551616 := by
  rw [low_zero, show Pl.low (Pl.bit b) 0 = 0 from rfl, Int.mul_zero]; rfl
theorem start_x (a : Int) : Pl.low (Pl.bit a) 64 = (a * 2 ^ 0) % 18446744073709551616 := by
  rw [Pl.low_bits, show (2 : Int) ^ 0 = 1 from rfl, Int.mul_one]

/-- Where the loop stands behind k rounds. -/
structure MulAt (a b : Int) (w wr : World) (gy k gs gx : Nat) (ds dx : Nat → Int) : Prop where
  s : Dg wr w.heap.size gs ds
  x : Dg wr w.heap.size gx dx
  y : Dg wr w.heap.size gy (Pl.bit b)
  sd : Pl.Dig ds
  xd : Pl.Dig dx
  sv : Pl.low ds 64 = (a * Pl.low (Pl.bit b) k) % 18446744073709551616
  xv : Pl.low dx 64 = (a * 2 ^ k) % 18446744073709551616
  bel : Below w.heap.size w wr

theorem Dg.base {w : World} {B B' g : Nat} {d : Nat → Int} (h : Dg w B g d) (hb : B' ≤ B) : Dg w B' g d := ⟨Nat.le_trans hb h.ge, h.lt, h.get⟩

end Go.Proofs.YtdjpjoipdlfooaaDoor
