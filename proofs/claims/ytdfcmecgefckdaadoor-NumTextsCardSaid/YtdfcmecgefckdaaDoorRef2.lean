/- The reference's product, digit by digit, is that of Go's own integers of 64 bits. -/
import Derived.Test.YtdfcmecgefckdaaDoorRef1
namespace Go.Proofs.YtdfcmecgefckdaaDoor
open Go.RowKit

theorem w_emod (x : Int) : wrap64 (x % 18446744073709551616) = wrap64 x := by unfold wrap64; omega
theorem mul_emod (a b : Int) : (a * (b % 18446744073709551616)) % 18446744073709551616 = (a * b) % 18446744073709551616 := by
  rw [Int.mul_emod, Int.emod_emod, ← Int.mul_emod]
theorem mul_yes {ds dx : Nat → Int} {a L P : Int} (hs : Pl.Dig ds) (hx : Pl.Dig dx) (h1 : Pl.low ds 64 = (a * L) % 18446744073709551616) (h2 : Pl.low dx 64 = (a * P) % 18446744073709551616) :
    Pl.low (Pl.pls ds dx 0) 64 = (a * (L + 1 * P)) % 18446744073709551616 := by
  rw [Pl.low_sum hs hx (by decide) (by decide), h1, h2, Int.one_mul, Int.mul_add]
  omega
theorem mul_dbl {dx : Nat → Int} {a P : Int} (hx : Pl.Dig dx) (h2 : Pl.low dx 64 = (a * P) % 18446744073709551616) :
    Pl.low (Pl.pls dx dx 0) 64 = (a * (P * 2)) % 18446744073709551616 := by
  rw [Pl.low_sum hx hx (by decide) (by decide), h2, ← Int.mul_assoc]
  omega
theorem low_zero : Pl.low (Pl.bit 0) 64 = 0 := by rw [Pl.low_bits]; rfl

theorem low_succ (d : Nat → Int) (k : Nat) : Pl.low d (k + 1) = Pl.low d k + d k * 2 ^ k := rfl
theorem start_s (a b : Int) : Pl.low (Pl.bit 0) 64 = (a * Pl.low (Pl.bit b) 0) % 18446744073709551616 := by
  rw [low_zero, show Pl.low (Pl.bit b) 0 = 0 from rfl, Int.mul_zero]; rfl
theorem start_x (a : Int) : Pl.low (Pl.bit a) 64 = (a * 2 ^ 0) % 18446744073709551616 := by
  rw [Pl.low_bits, show (2 : Int) ^ 0 = 1 from rfl, Int.mul_one]

/-- Where the loop stands behind k rounds. -/
structure MulAt (a b : Int) (w wr : World) (gy k gs gx : Nat) (ds dx : Nat → Int) : Prop where
  s : Dg wr w.heap.size gs ds
  x : Dg wr w.heap.size gx dx
  y : Dg wr w.heap.size gy (Pl.bit b)
  sd : Pl.Dig ds
  xd : Pl.Dig dx
  sv : Pl.low ds 64 = (a * Pl.low (Pl.bit b) k) % 18446744073709551616
  xv : Pl.low dx 64 = (a * 2 ^ k) % 18446744073709551616
  bel : Below w.heap.size w wr

theorem Dg.base {w : World} {B B' g : Nat} {d : Nat → Int} (h : Dg w B g d) (hb : B' ≤ B) : Dg w B' g d := ⟨Nat.le_trans hb h.ge, h.lt, h.get⟩

set_option maxRecDepth 100000 in
set_option maxHeartbeats 400000 in
theorem rmul_any (a b : Int) (w : World) : Calls Tryd.prog 17 #[.int .i64 a, .int .i64 b] w fun e w' => e = .returned (.int .i64 (wrap64 (a * b))) ∧ Below w.heap.size w w' := by
  go_enter Tryd.func17, Tryd.ntmps17
  go_wp2_with fail
  refine (bits_dg 0 w).mono ?_
  rintro e w1 ⟨g1, c1, rfl, d1, b1⟩
  go_wp2_with fail
  refine (bits_dg a w1).mono ?_
  rintro e w2 ⟨g2, c2, rfl, d2, b2⟩
  go_wp2_with fail
  refine (bits_dg b w2).mono ?_
  rintro e w3 ⟨g3, c3, rfl, d3, b3⟩
  have q1 := b1.size
  have q2 := b2.size
  have q3 := b3.size
  have M : Hid (MulAt a b w w3 g3 0 g1 g2 (Pl.bit 0) (Pl.bit a)) := ⟨(d1.later b2).later b3, (d2.later b3).base q1, d3.base (Nat.le_trans q1 q2), Pl.bit_dig 0, Pl.bit_dig a, start_s a b, start_x a, (b1.trans (b2.mono q1)).trans (b3.mono (Nat.le_trans q1 q2))⟩
  clear d1 d2 d3 b1 b2 b3 q1 q2 q3
  go_wp2
  go_loopw [5, 6, 8] (fun s x i wr => ∃ k : Nat, k ≤ 64 ∧ i = .int .i64 k ∧ ∃ gs cs gx cx ds dx, s = .slice (some ⟨gs, 0, none⟩) 64 cs ∧ x = .slice (some ⟨gx, 0, none⟩) 64 cx ∧ Hid (MulAt a b w wr g3 k gs gx ds dx)) (fun _ _ i _ => 64 - (intOf i).toNat)
  case atStart => exact ⟨0, by omega, rfl, g1, c1, g2, c2, _, _, rfl, rfl, M⟩
  case round =>
    obtain ⟨k, hk, rfl, gs, cs, gx, cx, ds, dx, rfl, rfl, M⟩ := hrel
    by_cases hlt : k < 64
    · have hy : wr.cell? ⟨g3, k, none⟩ = some (.int .i64 (Pl.bit b k)) := M.out.y.get k hlt
      by_cases h1 : Pl.bit b k = 1
      · have h1b : (Pl.bit b k == 1) = true := by rw [h1]; rfl
        have H1 : Hid (Pl.bit b k = 1) := h1
        clear h1
        go_wp2_with fail
        refine (plus_dg gs gx cs cx _ _ ds dx 0 wr M.out.s M.out.x M.out.sd M.out.xd (by decide) (by decide)).mono ?_
        rintro e w4 ⟨g4, c4, rfl, d4, b4⟩
        go_wp2_with fail
        refine (plus_dg gx gx cx cx _ _ dx dx 0 w4 (M.out.x.later b4) (M.out.x.later b4) M.out.xd M.out.xd (by decide) (by decide)).mono ?_
        rintro e w5 ⟨g5, c5, rfl, d5, b5⟩
        have q := M.out.bel.size
        have q4 := b4.size
        have M' : Hid (MulAt a b w w5 g3 (k + 1) g4 g5 (Pl.pls ds dx 0) (Pl.pls dx dx 0)) := by
          refine ⟨(d4.later b5).base q, d5.base (Nat.le_trans q q4), (M.out.y.later b4).later b5, Pl.pls_dig _ _ _, Pl.pls_dig _ _ _, ?_, ?_, (M.out.bel.trans (b4.mono q)).trans (b5.mono (Nat.le_trans q q4))⟩
          · rw [low_succ (Pl.bit b) k, H1.out]; exact mul_yes M.out.sd M.out.xd M.out.sv M.out.xv
          · rw [Int.pow_succ]; exact mul_dbl M.out.xd M.out.xv
        clear M d4 b4 d5 b5 q q4 hy
        go_wp2
        go_roundw
        case rel => exact ⟨k + 1, by omega, by go_num, _, _, _, _, _, _, rfl, rfl, M'⟩
        case measure => simp [intOf]; omega
      · have h1b : (Pl.bit b k == 1) = false := by simpa using h1
        have H1 : Hid (Pl.bit b k = 0) := by have := Pl.bit_dig b k hlt; unfold Hid; omega
        clear h1
        go_wp2_with fail
        refine (plus_dg gx gx cx cx _ _ dx dx 0 wr M.out.x M.out.x M.out.xd M.out.xd (by decide) (by decide)).mono ?_
        rintro e w5 ⟨g5, c5, rfl, d5, b5⟩
        have q := M.out.bel.size
        have M' : Hid (MulAt a b w w5 g3 (k + 1) gs g5 ds (Pl.pls dx dx 0)) := by
          refine ⟨M.out.s.later b5, d5.base q, M.out.y.later b5, M.out.sd, Pl.pls_dig _ _ _, ?_, ?_, M.out.bel.trans (b5.mono q)⟩
          · rw [low_succ (Pl.bit b) k, H1.out, Int.zero_mul, Int.add_zero]; exact M.out.sv
          · rw [Int.pow_succ]; exact mul_dbl M.out.xd M.out.xv
        clear M d5 b5 q hy
        go_wp2
        go_roundw
        case rel => exact ⟨k + 1, by omega, by go_num, _, _, _, _, _, _, rfl, rfl, M'⟩
        case measure => simp [intOf]; omega
    · obtain rfl : k = 64 := by omega
      have HS : Hid (wrap64 (Pl.high ds 64) = wrap64 (a * b)) := by unfold Hid; rw [Pl.high_all, M.out.sv, Pl.low_bits, mul_emod, w_emod]
      go_wp2_with fail
      refine (number_any gs cs ds wr M.out.s.get M.out.sd).mono ?_
      rintro e w4 ⟨rfl, rfl⟩
      go_wp2
      go_ret
      rw [HS.out]
      exact ⟨rfl, M.out.bel⟩
end Go.Proofs.YtdfcmecgefckdaaDoor
