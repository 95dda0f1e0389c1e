/- Layer 15: the table of sizes: row, fill. -/
import Derived.Test.YthglhcabdadlpaaDoorAlA
namespace Go.Proofs.YthglhcabdadlpaaDoor
open Go.RowKit
set_option linter.unusedVariables false
set_option linter.unusedSimpArgs false
set_option maxRecDepth 100000

/-- A table of numbers in the block g: rows of d numbers, up to the row n. -/
def TB (w : World) (g d n : Nat) (f : Nat → Nat → Nat) : Prop := g < w.heap.size ∧ ∀ i j, i ≤ n → j < d → w.cell? ⟨g, i * d + j, none⟩ = some (.int .i32 (f i j : Nat)) ∧ w.frozen? ⟨g, i * d + j, none⟩ = false
theorem TB.later {B g d n : Nat} {w w' : World} {f : Nat → Nat → Nat} (h : TB w g d n f) (b : Below B w w') (hg : g < B) : TB w' g d n f :=
  ⟨Nat.lt_of_lt_of_le h.1 b.size, fun i j hi hj => ⟨(b.cell (p := ⟨g, _, none⟩) hg).trans (h.2 i j hi hj).1, (b.frozen (p := ⟨g, _, none⟩) hg).trans (h.2 i j hi hj).2⟩⟩
theorem tb_one {d i j i' j' : Nat} (hj : j < d) (hj' : j' < d) (h : i * d + j = i' * d + j') : i = i' ∧ j = j' := by
  have h1 : (i * d + j) / d = i := by rw [Nat.mul_comm, Nat.mul_add_div (by omega), Nat.div_eq_of_lt hj]; omega
  have h2 : (i' * d + j') / d = i' := by rw [Nat.mul_comm, Nat.mul_add_div (by omega), Nat.div_eq_of_lt hj']; omega
  have e : i = i' := by rw [← h1, ← h2, h]
  subst e
  exact ⟨rfl, by omega⟩
theorem TB.set {w : World} {g d n i0 j0 v : Nat} {f : Nat → Nat → Nat} (h : TB w g d n f) (hi : i0 ≤ n) (hj : j0 < d) : TB (w.setCell ⟨g, i0 * d + j0, none⟩ (.int .i32 (v : Nat))) g d n (fun i j => if i = i0 ∧ j = j0 then v else f i j) := by
  refine ⟨by have := h.1; simpa using this, fun i j hi' hj' => ⟨?_, ?_⟩⟩
  · by_cases c : i = i0 ∧ j = j0
    · obtain ⟨rfl, rfl⟩ := c
      show _ = some (Value.int .i32 ((if i = i ∧ j = j then v else f i j : Nat) : Int))
      rw [if_pos ⟨rfl, rfl⟩]
      exact World.cell?_setCell_same _ _ _ (h.2 i j hi' hj').1
    · show _ = some (Value.int .i32 ((if i = i0 ∧ j = j0 then v else f i j : Nat) : Int))
      rw [if_neg c]
      rw [World.cell?_setCell_other]
      · exact (h.2 i j hi' hj').1
      · intro e
        have e2 : i0 * d + j0 = i * d + j := by
          have := congrArg Addr.off e
          exact this
        have := tb_one hj hj' e2
        exact c ⟨this.1.symm, this.2.symm⟩
  · rw [World.frozen?_setCell]
    exact (h.2 i j hi' hj').2
theorem below_set {B : Nat} {w w' : World} (h : Below B w w') {g o : Nat} (hg : B ≤ g) (v : Value) : Below B w (w'.setCell ⟨g, o, none⟩ v) := by
  refine ⟨h.os, h.tape, h.output, by have := h.size; simpa using this, fun k hk => ?_⟩
  rw [← h.block k hk]
  simp only [World.setCell, Array.getElem?_modify]
  rw [if_neg (by omega)]
def szV (g d N : Nat) : Value := .agg #[.int .i64 (d : Int), .slice (some ⟨g, 0, none⟩) N N]
set_option maxHeartbeats 2000000 in
theorem szRow (w : World) (g d N i : Nat) (hd : 0 < d) (hN : N ≤ 1000000) (hi : (i + 1) * d ≤ N) (x : Int) (hx : x = i) : Calls Tryd.prog 50 #[szV g d N, .int .i64 x] w fun e w' => e = .returned (.slice (some ⟨g, i * d, none⟩) d d) ∧ Below w.heap.size w w' := by
  subst hx
  obtain ⟨F, hF⟩ : ∃ F, F = i * d := ⟨_, rfl⟩
  obtain ⟨T, hT⟩ : ∃ T, T = (i + 1) * d := ⟨_, rfl⟩
  have hFT : T = F + d := by rw [hF, hT, Nat.add_mul, Nat.one_mul]
  have hi1 : i ≤ T := by rw [hT]; exact Nat.le_trans (Nat.le_succ i) (Nat.le_mul_of_pos_right _ hd)
  rw [← hT] at hi
  have e1 : wrap64 ((i : Int) * (d : Int)) = (F : Int) := by rw [hF]; unfold wrap64; have : ((i * d : Nat) : Int) = (i : Int) * (d : Int) := by simp
                                                             omega
  have e3 : wrap64 ((i : Int) + 1) = (i : Int) + 1 := by unfold wrap64; omega
  have e2 : wrap64 (((i : Int) + 1) * (d : Int)) = (T : Int) := by rw [hT]; unfold wrap64; have : (((i + 1) * d : Nat) : Int) = ((i : Int) + 1) * (d : Int) := by simp
                                                                   omega
  rw [← hF]
  obtain ⟨W0, hW0⟩ : ∃ W0, W0 = w.alloc (.cells #[.int .i64 (d : Int), .slice (some ⟨g, 0, none⟩) N N] 86) := ⟨_, rfl⟩
  obtain ⟨bx, hbx⟩ : ∃ bx, bx = w.heap.size := ⟨_, rfl⟩
  have B0 : Hid (Below w.heap.size w W0) := by rw [hW0]; exact (Below.refl _ _).alloc (Nat.le_refl _) _
  have c0 : W0.cell? ⟨bx, 0, none⟩ = some (.int .i64 (d : Int)) := by rw [hW0, hbx]; simp
  have c1 : W0.cell? ⟨bx, 1, none⟩ = some (.slice (some ⟨g, 0, none⟩) N N) := by rw [hW0, hbx]; simp
  have h1 : (F : Int) ≤ (T : Int) := by omega
  have h2 : (T : Int) ≤ (N : Int) := by omega
  have h3 : (0 : Int) ≤ (F : Int) := by omega
  have h4 : F ≤ T := by omega
  have h5 : T ≤ N := by omega
  have h6 : T - F = d := by omega
  have h7 : ¬ d = 0 := by omega
  have h8 : (d == 0) = false := by simp; omega
  have h9 : ((T : Int) - (F : Int)).toNat = d := by omega
  clear hF hT hFT hi1 hi hN
  unfold szV
  go_enter Tryd.func50, Tryd.ntmps50
  go_upto_region 1 with fail
  rw [← hW0, ← hbx]
  clear hW0 hbx
  go_quiet (fail)
  have BQ := below_drA B0.out nq
  have k0 : (W0.drewN nq).cell? ⟨bx, 0, none⟩ = some (.int .i64 (d : Int)) := c0
  have k1 : (W0.drewN nq).cell? ⟨bx, 1, none⟩ = some (.slice (some ⟨g, 0, none⟩) N N) := c1
  generalize W0.drewN nq = W5 at BQ k0 k1 ⊢
  have BH := hidA BQ
  clear BQ c0 c1
  go_wp2_with fail
  go_ret
  exact ⟨by simp, BH.out⟩
end Go.Proofs.YthglhcabdadlpaaDoor
