/- The reference's sums and differences are those of Go's own integers of 64 bits. -/
import Derived.Test.YtdjpjoipdlfooaaDoorPlus
namespace Go.Proofs.YtdjpjoipdlfooaaDoor
open Go.RowKit

/-- 64 digits d lie at block g, which is one of those from base on. -/
structure Dg (w : World) (base g : Nat) (d : Nat → Int) : Prop where
  ge : base ≤ g
  lt : g < w.heap.size
  get : ∀ j, j < 64 → w.cell? ⟨g, j, none⟩ = some (.int .i64 (d j))
theorem Dg.later {w w' : World} {base g : Nat} {d : Nat → Int} (h : Dg w base g d) (hb : Below w.heap.size w w') : Dg w' base g d :=
  ⟨h.ge, Nat.lt_of_lt_of_le h.lt hb.size, fun j hj => (hb.cell (p := ⟨g, j, none⟩) h.lt).trans (h.get j hj)⟩
theorem Own.dg {w : World} {base : Nat} {v : Value} {d : Nat → Int} (h : Own w base v 64 d) : ∃ g cap, v = .slice (some ⟨g, 0, none⟩) 64 cap ∧ Dg w base g d := by
  obtain ⟨g, cap, hv, h1, h2, _, h4⟩ := h.open (by decide)
  exact ⟨g, cap, hv, h1, h2, h4⟩

theorem bits_dg (n : Int) (w : World) : Calls Tryd.prog 79 #[.int .i64 n] w fun e w' => ∃ g cap, e = .returned (.slice (some ⟨g, 0, none⟩) 64 cap) ∧ Dg w' w.heap.size g (Pl.bit n) ∧ Below w.heap.size w w' := by
  refine (bits_any n w).mono ?_
  rintro e w' ⟨v, rfl, h, hb⟩
  obtain ⟨g, cap, rfl, hd⟩ := h.dg
  exact ⟨g, cap, rfl, hd, hb⟩
theorem plus_dg (ga gb ca cb ba bb : Nat) (a b : Nat → Int) (c : Int) (w : World) (ha : Dg w ba ga a) (hb : Dg w bb gb b) (da : Pl.Dig a) (db : Pl.Dig b) (h0 : 0 ≤ c) (h1 : c ≤ 1) :
    Calls Tryd.prog 78 #[.slice (some ⟨ga, 0, none⟩) 64 ca, .slice (some ⟨gb, 0, none⟩) 64 cb, .int .i64 c] w fun e w' => ∃ g cap, e = .returned (.slice (some ⟨g, 0, none⟩) 64 cap) ∧ Dg w' w.heap.size g (Pl.pls a b c) ∧ Below w.heap.size w w' := by
  refine (plus_any ga gb ca cb a b c w ha.lt hb.lt ha.get hb.get da db h0 h1).mono ?_
  rintro e w' ⟨v, rfl, h, hb⟩
  obtain ⟨g, cap, rfl, hd⟩ := h.dg
  exact ⟨g, cap, rfl, hd, hb⟩
theorem other_dg (ga ca ba : Nat) (a : Nat → Int) (w : World) (ha : Dg w ba ga a) (da : Pl.Dig a) :
    Calls Tryd.prog 80 #[.slice (some ⟨ga, 0, none⟩) 64 ca] w fun e w' => ∃ g cap, e = .returned (.slice (some ⟨g, 0, none⟩) 64 cap) ∧ Dg w' w.heap.size g (fun i => 1 - a i) ∧ Below w.heap.size w w' := by
  refine (other_any ga ca a w ha.lt ha.get da).mono ?_
  rintro e w' ⟨v, rfl, h, hb⟩
  obtain ⟨g, cap, rfl, hd⟩ := h.dg
  exact ⟨g, cap, rfl, hd, hb⟩
theorem other_dig {a : Nat → Int} (h : Pl.Dig a) : Pl.Dig (fun i => 1 - a i) := fun i hi => by have := h i hi; show 0 ≤ 1 - a i ∧ 1 - a i ≤ 1; omega

theorem sum_eq (a b : Int) : wrap64 (Pl.high (Pl.pls (Pl.bit a) (Pl.bit b) 0) 64) = wrap64 (a + b) := by
  rw [Pl.high_all, Pl.low_sum (Pl.bit_dig a) (Pl.bit_dig b) (by decide) (by decide), Pl.low_bits, Pl.low_bits]
  unfold wrap64
  omega
theorem diff_eq (a b : Int) : wrap64 (Pl.high (Pl.pls (Pl.bit a) (fun i => 1 - Pl.bit b i) 1) 64) = wrap64 (a - b) := by
  have h := Pl.low_other (b := Pl.bit b) 64
  rw [Pl.two64, Pl.low_bits] at h
  rw [Pl.high_all, Pl.low_sum (Pl.bit_dig a) (other_dig (Pl.bit_dig b)) (by decide) (by decide), Pl.low_bits]
  unfold wrap64
  omega

set_option maxHeartbeats 400000 in
theorem rsub_any (a b : Int) (w : World) : Calls Tryd.prog 68 #[.int .i64 a, .int .i64 b] w fun e w' => e = .returned (.int .i64 (wrap64 (a - b))) ∧ Below w.heap.size w w' := by
  have HS : Hid (wrap64 (Pl.high (Pl.pls (Pl.bit a) (fun i => 1 - Pl.bit b i) 1) 64) = wrap64 (a - b)) := diff_eq a b
  go_enter Tryd.func68, Tryd.ntmps68
  go_wp2_with fail
  refine (bits_dg a w).mono ?_
  rintro e w1 ⟨g1, c1, rfl, d1, b1⟩
  go_wp2_with fail
  refine (bits_dg b w1).mono ?_
  rintro e w2 ⟨g2, c2, rfl, d2, b2⟩
  go_wp2_with fail
  refine (other_dg g2 c2 _ _ w2 d2 (Pl.bit_dig b)).mono ?_
  rintro e w3 ⟨g3, c3, rfl, d3, b3⟩
  go_wp2_with fail
  refine (plus_dg g1 g3 c1 c3 _ _ _ _ _ w3 ((d1.later b2).later b3) d3 (Pl.bit_dig a) (other_dig (Pl.bit_dig b)) (by decide) (by decide)).mono ?_
  rintro e w4 ⟨g4, c4, rfl, d4, b4⟩
  go_wp2_with fail
  refine (number_any g4 c4 _ w4 d4.get (Pl.pls_dig _ _ _)).mono ?_
  rintro e w5 ⟨rfl, rfl⟩
  go_wp2
  go_ret
  have q1 := b1.size
  have q2 := b2.size
  have q3 := b3.size
  rw [HS.out]
  exact ⟨rfl, ((b1.trans (b2.mono q1)).trans (b3.mono (Nat.le_trans q1 q2))).trans (b4.mono (Nat.le_trans (Nat.le_trans q1 q2) q3))⟩

set_option maxHeartbeats 400000 in
theorem rneg_any (a : Int) (w : World) : Calls Tryd.prog 53 #[.int .i64 a] w fun e w' => e = .returned (.int .i64 (wrap64 (-a))) ∧ Below w.heap.size w w' := by
  go_enter Tryd.func53, Tryd.ntmps53
  go_wp2_with fail
  refine (rsub_any 0 a w).mono ?_
  rintro e w1 ⟨rfl, b1⟩
  go_wp2
  go_ret
  exact ⟨rfl, b1⟩
end Go.Proofs.YtdjpjoipdlfooaaDoor
