/- Layer 9: slices.Grow of a row of numbers of one's own. -/
import Derived.Test.YtodpdnidinnjjaaDoorUVmQ
import Derived.Lib.AppendZerosOnto
import Derived.Lib.Walk
import Derived.Lib.SliceRun
namespace Go.Proofs.YtodpdnidinnjjaaDoor
open Go.RowKit
set_option linter.unusedVariables false
set_option linter.unusedSimpArgs false

theorem inf64 : (Tryd.prog.info? 2).map (fun i => (i.zero, i.size, i.bytes)) = some (some (.int .i64 0), 1, 8) := by kernel_rfl
set_option maxRecDepth 100000 in
set_option maxHeartbeats 4000000 in
/-- There is room. -/
theorem vmGrowR (w : World) (a : Option Addr) (n c sz : Nat) (hnc : n ≤ c) (hb : n + sz ≤ c) (hl : n + sz ≤ 1000000000) (hc : c ≤ 9223372036854775807) : Calls Tryd.prog 69 #[.slice a n c, .int .i64 sz] w fun e w' => e = .returned (.slice a n c) ∧ w' = w := by
  have h1 : ¬ ((sz : Int) < 0) := by omega
  have h2 : wrap64 ((c : Int) - (n : Int)) = (c : Int) - (n : Int) := by unfold wrap64; omega
  have h3 : wrap64 ((sz : Int) - ((c : Int) - (n : Int))) = (sz : Int) - ((c : Int) - (n : Int)) := by unfold wrap64; omega
  have h4 : ¬ ((sz : Int) - ((c : Int) - (n : Int)) > 0) := by omega
  go_enter Tryd.func69, Tryd.ntmps69
  go_wp2
  go_ret
  exact ⟨rfl, rfl⟩
/-- A row with room behind it. -/
structure GrQ (w : World) (base n sz : Nat) (xs : List Value) (v : Value) (e : Ending) (w' : World) : Prop where
  ex : ∃ a c, e = .returned (.slice a n c) ∧ n + sz ≤ c ∧ c ≤ maxLen ∧ w'.ownsRow base 2 1 (.slice a n c) n xs ∧ ((Value.slice a n c).ownBlock = v.ownBlock ∨ ∃ g, (Value.slice a n c).ownBlock = some g ∧ w.heap.size ≤ g)
  bw : Below w.heap.size w w'
set_option maxRecDepth 100000 in
set_option maxHeartbeats 8000000 in
theorem vmGrow (w : World) (base : Nat) (a : Option Addr) (n c sz : Nat) (xs : List Value) (ho : w.ownsRow base 2 1 (.slice a n c) n xs) (hbs : base ≤ w.heap.size) (hl : n + sz ≤ 1000000000) : Calls Tryd.prog 69 #[.slice a n c, .int .i64 sz] w (GrQ w base n sz xs (.slice a n c)) := by
  obtain ⟨i0, hi, hz0, hz1, hz2⟩ := info_parts inf64
  have hcn : n ≤ c ∧ c ≤ maxLen := by
    rcases ho.2 with ⟨e, e0⟩ | ⟨_, _, _, e, _, _, h1, h2, _⟩
    · injection e with e1 e2 e3
      unfold maxLen
      omega
    · injection e with e1 e2 e3
      omega
  by_cases hroom : n + sz ≤ c
  · exact (vmGrowR w a n c sz hcn.1 hroom hl (by have := hcn.2; unfold maxLen at this; omega)).mono fun e w' ⟨h1, h2⟩ => by
      subst h2
      exact ⟨⟨a, c, h1, hroom, hcn.2, ho, .inl rfl⟩, Below.refl _ _⟩
  · obtain ⟨cs, hcl, hcs, htk, hnil⟩ : ∃ cs : List Value, cs.length = c * i0.size ∧ (∀ ad, a = some ad → ∀ j v, cs[j]? = some v → w.cell? (ad.add j) = some v) ∧ cs.take n = xs ∧ (a = none → c = 0 ∧ n = 0) := by
      rcases ho.2 with ⟨e, e0⟩ | ⟨g, cap, cur, e, hb, hh, h1, h2, h3, h4⟩
      · injection e with e1 e2 e3
        subst e1
        refine ⟨[], by rw [e3]; simp, (fun ad h => by cases h), ?_, fun _ => ⟨e3, e0⟩⟩
        have := ho.1
        rw [e0] at this
        simp at this
        rw [this]
        simp
      · injection e with e1 e2 e3
        subst e1 e3
        refine ⟨cur.toList, by rw [hz1]; simpa using h3, fun ad h j v hv => ?_, by rw [Nat.mul_one] at h4; exact h4, (fun h => by cases h)⟩
        cases h
        have add : (⟨g, 0, none⟩ : Addr).add j = ⟨g, j, none⟩ := by unfold Addr.add; split <;> simp_all
        rw [add]
        simp only [World.cell?, hh]
        simpa using hv
    have hcl1 : cs.length = c * 1 := by rw [hz1] at hcl; exact hcl
    have hold : (Builtin.firstCells i0.size c (.slice a c c)).run Tryd.prog w.drew = .ok cs.toArray w.drew := by
      cases a with
      | none =>
        have h0 := (hnil rfl).1
        subst h0
        have hc0 : cs = [] := List.length_eq_zero_iff.1 (by simpa using hcl)
        rw [hc0]
        exact run_firstCells_none w.drew i0.size 0 0 0
      | some ad => exact run_firstCells_some w.drew i0.size c ad c c cs hcl (fun j v hj => hcs ad rfl j v hj)
    have hck : c + (n + sz - c) = n + sz := by omega
    have hrz : ∀ ty, (Builtin.append_ #[23, 3] ty #[.slice a c c, .int .i64 ((sz : Int) - ((c : Int) - (n : Int)))]).run Tryd.prog w = .ok (.slice (some ⟨w.heap.size, 0, none⟩) (n + sz) (grownCap w (n + sz) c 2)) (w.drew.alloc (.cells (cs.toArray ++ Builtin.zeroCells (Value.int .i64 0).cells (n + sz - c) ++ Builtin.zeroCells (Value.int .i64 0).cells (grownCap w (n + sz) c 2 - (n + sz))) 2)) := fun ty => by
      have h := Lib.run_append_grow_zeros w 23 3 ty 2 i0 (.int .i64 0) .i64 .i64 Tryd.underlying23 Tryd.underlying3 hi hz0 a c c cs hold (n + sz - c) (by omega) (by rw [hz1]; decide) (by omega) (by omega) (by rw [hz2]; omega) (by rw [hck]; exact growslice_fits (by omega) (by rw [hz2]; omega))
      rw [hck] at h
      rw [show (sz : Int) - ((c : Int) - (n : Int)) = ((n + sz - c : Nat) : Int) by omega]
      exact h
    have hGn : n + sz ≤ grownCap w (n + sz) c 2 := grownCap_ge w _ _ _
    have hGm := grownCap_le_maxLen w (n + sz) c 2 (by unfold maxLen; omega)
    obtain ⟨G, hG⟩ : ∃ G, G = grownCap w (n + sz) c 2 := ⟨_, rfl⟩
    rw [← hG] at hrz hGn hGm
    have h1 : ¬ ((sz : Int) < 0) := by omega
    have h2 : wrap64 ((c : Int) - (n : Int)) = (c : Int) - (n : Int) := by unfold wrap64; omega
    have h3 : wrap64 ((sz : Int) - ((c : Int) - (n : Int))) = (sz : Int) - ((c : Int) - (n : Int)) := by unfold wrap64; omega
    have h4 : (sz : Int) - ((c : Int) - (n : Int)) > 0 := by omega
    have hG63 : G ≤ 9223372036854775807 := by unfold maxLen at hGm; omega
    have hxl : xs.length = n * 1 := ho.1
    have FIN : Hid (GrQ w base n sz xs (.slice a n c) (.returned (.slice (some ⟨w.heap.size, 0, none⟩) n G)) (w.drew.alloc (.cells (cs.toArray ++ Builtin.zeroCells (Value.int .i64 0).cells (n + sz - c) ++ Builtin.zeroCells (Value.int .i64 0).cells (G - (n + sz))) 2))) := by
      refine ⟨⟨_, G, rfl, hGn, hGm, ⟨ho.1, .inr ⟨w.heap.size, G, _, rfl, hbs, alloc_at w.drew _, by omega, hGm, ?_, ?_⟩⟩, .inr ⟨_, rfl, Nat.le_refl _⟩⟩, (below_drewN (Below.refl _ _) 1).alloc (Nat.le_refl _) _⟩
      · have z : ∀ k, (Builtin.zeroCells (Value.int .i64 0).cells k).size = k := fun k => by simp [Builtin.zeroCells, Value.cells]
        simp only [Array.size_append, z]
        simp only [List.size_toArray, hcl1]
        omega
      · rw [Array.toList_append, Array.toList_append, List.append_assoc, List.take_append_of_le_length (by simp only [List.toList_toArray]; omega)]
        simp only [Nat.mul_one]
        exact htk
    obtain ⟨AA, hAA⟩ : ∃ AA, AA = cs.toArray ++ Builtin.zeroCells (Value.int .i64 0).cells (n + sz - c) ++ Builtin.zeroCells (Value.int .i64 0).cells (G - (n + sz)) := ⟨_, rfl⟩
    rw [← hAA] at FIN
    simp only [← hAA] at hrz
    clear hold hck hG hcs hcl hcl1 htk ho hi hz0 hz1 hz2 hAA
    go_enter Tryd.func69, Tryd.ntmps69
    cases a with
    | none =>
      have h0 := (hnil rfl)
      obtain ⟨rfl, rfl⟩ := h0
      go_wp2_with (at_builtin; refine Lib.wpList_append_run _ rfl _ _ _ _ rfl _ _ rfl rfl _ _ (hrz _) ?_)
      all_goals (go_ret; exact FIN.out)
    | some a =>
      obtain ⟨ab, ao, asp⟩ := a
      go_wp2_with (at_builtin; refine Lib.wpList_append_run _ rfl _ _ _ _ rfl _ _ rfl rfl _ _ (hrz _) ?_)
      all_goals (go_ret; exact FIN.out)
end Go.Proofs.YtodpdnidinnjjaaDoor
