/- Layer 9: reckon: clear. -/
/- Layer 9: slices.Grow of a row of numbers of one's own. -/
/- Layer 9: cellsOf from the box alone; a machine whose last cells hold whatever stood there. -/
import Derived.Test.YtkjkiknpgggadaaDoorSVmO
import Derived.Lib.SliceRun
import Derived.Lib.AppendZerosOnto
import Derived.Lib.Walk
import Derived.Laws.IdiomCopy
namespace Go.Proofs.YtkjkiknpgggadaaDoor
open Go.RowKit
set_option linter.unusedVariables false
set_option linter.unusedSimpArgs false

def Vm.cl : List Int → Nat → Nat → List Int
  | l, _, 0 => l
  | l, o, z + 1 => Vm.cl (l.set o 0) (o + 1) z
theorem Vm.cl_len : ∀ (z : Nat) (l : List Int) (o : Nat), (Vm.cl l o z).length = l.length
  | 0, l, o => rfl
  | z + 1, l, o => by rw [Vm.cl, Vm.cl_len z]; simp
theorem VmS.clr {m : Nat} {V : VmV} {g cap : Nat} (hg : m < g) : ∀ (z : Nat) (w : World) (M : Vm.Mc) (o : Nat), VmS m w V M → V.cv = .slice (some ⟨g, 0, none⟩) M.cells.length cap → o + z ≤ M.cells.length → Below m w (w.setCells g o (List.replicate z (.int .i64 0))) ∧ VmS m (w.setCells g o (List.replicate z (.int .i64 0))) V { M with cells := Vm.cl M.cells o z }
  | 0, w, M, o, h, hv, ho => ⟨Below.refl _ _, h⟩
  | z + 1, w, M, o, h, hv, ho => by
    have q := h.setCe hv hg (by omega : o < M.cells.length) 0
    have r := VmS.clr (cap := cap) hg z _ _ (o + 1) q.2 (by show V.cv = .slice _ (M.cells.set o 0).length cap; rw [hv]; simp) (by show _ ≤ (M.cells.set o 0).length; simp; omega)
    rw [List.replicate_succ]
    exact ⟨q.1.trans r.1, r.2⟩
theorem zero64 (w : World) : (zeroValue 2).run Tryd.prog w = .ok (.int .i64 0) w := by kernel_rfl

set_option maxRecDepth 100000 in
set_option maxHeartbeats 8000000 in
theorem vmR6 (m : Nat) (w : World) (V : VmV) (M : Vm.Mc) (fs : List Vm.Fr) (f : Vm.Fr) (c : Cd.Co) (k : Nat) (j z : Nat) (h : VmS m w V M) (hf : M.frames = fs ++ [f]) (hc : M.codes[f.proc]? = some c) (hk : c.cells = k) (hb : f.base + k ≤ M.cells.length) (hl : M.cells.length ≤ 100000000) (hfl : fs.length ≤ 1000000) (hz : 1 ≤ z) (hj : j + z ≤ k) :
    Calls Tryd.prog 33 #[.pointer (some ⟨m, 0, none⟩), inV ⟨6, (j : Int), (z : Int)⟩] w fun e w' => e = .returned (.tuple #[]) ∧ VmQ m w w' { M with cells := Vm.cl M.cells (f.base + j) z } := by
  obtain ⟨W1, hW1⟩ : ∃ W1, W1 = w.alloc (inB ⟨6, (j : Int), (z : Int)⟩) := ⟨_, rfl⟩
  obtain ⟨ib, hib⟩ : ∃ ib, ib = w.heap.size := ⟨_, rfl⟩
  obtain ⟨t0, t1, t2, bw⟩ := in_box w ⟨6, (j : Int), (z : Int)⟩ ib W1 hib hW1
  dsimp only at t0 t1 t2
  have il : ib < W1.heap.size := by rw [hib, hW1]; simp
  have h1 := h.later bw
  have HW : Hid (Below w.heap.size w W1) := bw
  have hml := h.lt
  obtain ⟨g, cap, hv, _, hmg, hgl, p0, p1, p2, p3, pf⟩ := h1.top hf
  have c10 := h1.cell.2.2.2.2.2.2.1
  rw [hv] at c10
  have ET : Hid _ := vmTop m g fs.length cap W1 c10 hfl
  obtain ⟨n, hn⟩ : ∃ n, n = fs.length := ⟨_, rfl⟩
  rw [← hn] at ET p0 p1 p2 p3 hfl
  have HH : Hid (VmS m W1 V M) := h1
  have EC4 : Hid (∀ X, Below W1.heap.size W1 X → Calls Tryd.prog 43 #[.pointer (some ⟨m, 0, none⟩), .agg #[.int .i64 f.proc, .int .i64 f.place, .int .i64 f.mark, .int .i64 f.base]] X fun e w' => ∃ v, e = .returned v ∧ IsSl v ∧ Hid (0 < k → ∃ g cap, V.cv = .slice (some ⟨g, 0, none⟩) M.cells.length cap ∧ M.cells.length ≤ cap ∧ v = .slice (some ⟨g, f.base, none⟩) k (cap - f.base)) ∧ Hid (Below X.heap.size X w')) := fun X hX => (vmCellsA m X V M f c k (HH.out.later hX) hc hk hb hl).mono fun e w' ⟨v, a, b, d, e2⟩ => ⟨v, a, b, d, e2⟩
  clear h h1 hf hc hv hn c10 pf bw 
  go_enter Tryd.func33, Tryd.ntmps33
  go_upto_region 1 with fail
  rw [← hW1, ← hib]
  clear hW1 hib
  go_wp2_with fail
  refine Calls.mono ET.out ?_
  rintro e2 w2 ⟨rfl, q2, hq2⟩
  have y2 : Below W1.heap.size W1 w2 := by rw [hq2]; exact below_drewN (Below.refl _ _) q2
  have r0 := (y2.cell (p := ⟨g, n * 4, none⟩) hgl).trans p0
  have r1 := (y2.cell (p := ⟨g, n * 4 + 1, none⟩) hgl).trans p1
  have r2 := (y2.cell (p := ⟨g, n * 4 + 2, none⟩) hgl).trans p2
  have r3 := (y2.cell (p := ⟨g, n * 4 + 3, none⟩) hgl).trans p3
  have Y2 : Hid (Below W1.heap.size W1 w2) := y2
  clear hq2 y2 p0 p1 p2 p3 ET
  go_wp2_with fail
  refine Calls.mono (EC4.out _ Y2.out) ?_
  rintro e3 w3 ⟨v3, rfl, ⟨xa, xn, xc, rfl⟩, S3, Y3⟩
  have Y4 : Hid (Below W1.heap.size W1 w3) := Y2.out.trans (Y3.out.mono Y2.out.size)
  have H3 : Hid (VmS m w3 V M) := HH.out.later Y4.out
  have B3 : Hid (Below m w w3) := (HW.out.trans (Y4.out.mono HW.out.size)).mono (Nat.le_of_lt hml)
  have u0 := (Y4.out.cell (p := ⟨ib, 0, none⟩) il).trans t0
  have u1 := (Y4.out.cell (p := ⟨ib, 1, none⟩) il).trans t1
  have u2 := (Y4.out.cell (p := ⟨ib, 2, none⟩) il).trans t2
  have il3 : ib < w3.heap.size := Nat.lt_of_lt_of_le il Y4.out.size
  clear r0 r1 r2 r3 t0 t1 t2 Y2 Y3 Y4 EC4 HH HW il hgl
  obtain ⟨gc, gcap, hcv, hcap, hsl⟩ := S3.out (by omega)
  cases hsl
  obtain ⟨g', cap', hv', _, hmgc, hgl, hcells, hfz⟩ := H3.out.cells (by omega)
  rw [hcv] at hv'
  cases hv'
  obtain ⟨cd, hcdd⟩ : ∃ cd, cd = gcap - f.base := ⟨_, rfl⟩
  have hclr : ∀ ty cx, (Builtin.clear_ #[23] ty #[.slice (some ⟨gc, f.base + j, none⟩) z cx]).run Tryd.prog w3 = .ok (.tuple #[]) (w3.setCells gc (f.base + j) (List.replicate z (.int .i64 0))) := fun ty cx => Lib.run_clear_slice w3 23 2 ty (.int .i64 0) Tryd.underlying23 zero64 rfl rfl gc (f.base + j) z cx (by omega) (fun i hi => by
    have := hcells (f.base + j + i) (M.cells.getD (f.base + j + i) 0) (by rw [List.getD_eq_getElem?_getD, List.getElem?_eq_getElem (by omega)]; rfl)
    rw [this]; rfl) (fun i hi => hfz _)
  have Q := VmS.clr (V := V) (cap := gcap) hmgc z w3 M (f.base + j) H3.out hcv (by omega)
  have FIN : Hid (VmQ m w (w3.setCells gc (f.base + j) (List.replicate z (.int .i64 0))) { M with cells := Vm.cl M.cells (f.base + j) z }) := ⟨B3.out.trans Q.1, V, Q.2⟩
  have hj0 : (0 : Int) ≤ (j : Int) := by omega
  have hz0 : (0 : Int) ≤ (z : Int) := by omega
  have hjz : (j : Int) ≤ (j : Int) + (z : Int) := by omega
  have hkb : k ≤ 100000000 := by omega
  have hcd : (j : Int) + (z : Int) ≤ (cd : Int) := by omega
  have hn1 : ¬ cd - j = 0 := by omega
  have hn3 : ¬ (cd : Int) - (j : Int) = 0 := by omega
  have hn4 : ¬ cd = j := by omega
  have hn5 : ¬ cd ≤ j := by omega
  have hn7 : (j : Int) < (cd : Int) := by omega
  have hjb : (j : Int) + (z : Int) ≤ 100000000 := by omega
  have ezj : ((j : Int) + (z : Int) - (j : Int)) = z := by omega
  rw [← hcdd]
  obtain ⟨W9, hW9⟩ : ∃ W9, W9 = w3.setCells gc (f.base + j) (List.replicate z (.int .i64 0)) := ⟨_, rfl⟩
  rw [← hW9] at FIN
  simp only [← hW9] at hclr
  clear hcv S3 hcap hcdd Q hcells hfz H3 hW9
  go_wp2_with fail
  first
    | (go_end0; exact ⟨rfl, FIN.out⟩)
    | (refine bodyPost_ret (v := .tuple #[]) (by simp [results, Tryd.results33, go_sem]) rfl ?_; exact ⟨rfl, FIN.out⟩)
end Go.Proofs.YtkjkiknpgggadaaDoor

namespace Go.Proofs.YtkjkiknpgggadaaDoor
open Go.RowKit
set_option linter.unusedVariables false
set_option linter.unusedSimpArgs false

theorem inf64 : (Tryd.prog.info? 2).map (fun i => (i.zero, i.size, i.bytes)) = some (some (.int .i64 0), 1, 8) := by kernel_rfl
set_option maxRecDepth 100000 in
set_option maxHeartbeats 4000000 in
theorem vmGrowR (w : World) (a : Option Addr) (n c sz : Nat) (hnc : n ≤ c) (hb : n + sz ≤ c) (hl : n + sz ≤ 1000000000) (hc : c ≤ 9223372036854775807) : Calls Tryd.prog 60 #[.slice a n c, .int .i64 sz] w fun e w' => e = .returned (.slice a n c) ∧ w' = w := by
  have h1 : ¬ ((sz : Int) < 0) := by omega
  have h2 : wrap64 ((c : Int) - (n : Int)) = (c : Int) - (n : Int) := by unfold wrap64; omega
  have h3 : wrap64 ((sz : Int) - ((c : Int) - (n : Int))) = (sz : Int) - ((c : Int) - (n : Int)) := by unfold wrap64; omega
  have h4 : ¬ ((sz : Int) - ((c : Int) - (n : Int)) > 0) := by omega
  go_enter Tryd.func60, Tryd.ntmps60
  go_wp2
  go_ret
  exact ⟨rfl, rfl⟩
structure GrQ (w : World) (base n sz : Nat) (xs : List Value) (v : Value) (e : Ending) (w' : World) : Prop where
  ex : ∃ a c, e = .returned (.slice a n c) ∧ n + sz ≤ c ∧ c ≤ maxLen ∧ w'.ownsRow base 2 1 (.slice a n c) n xs ∧ ((Value.slice a n c).ownBlock = v.ownBlock ∨ ∃ g, (Value.slice a n c).ownBlock = some g ∧ w.heap.size ≤ g)
  bw : Below w.heap.size w w'
set_option maxRecDepth 100000 in
set_option maxHeartbeats 8000000 in
theorem vmGrow (w : World) (base : Nat) (a : Option Addr) (n c sz : Nat) (xs : List Value) (ho : w.ownsRow base 2 1 (.slice a n c) n xs) (hbs : base ≤ w.heap.size) (hl : n + sz ≤ 1000000000) : Calls Tryd.prog 60 #[.slice a n c, .int .i64 sz] w (GrQ w base n sz xs (.slice a n c)) := by
  obtain ⟨i0, hi, hz0, hz1, hz2⟩ := info_parts inf64
  have hcn : n ≤ c ∧ c ≤ maxLen := by
    rcases ho.2 with ⟨e, e0⟩ | ⟨_, _, _, e, _, _, h1, h2, _⟩
    · injection e with e1 e2 e3
      unfold maxLen
      omega
    · injection e with e1 e2 e3
      omega
  by_cases hroom : n + sz ≤ c
  · exact (vmGrowR w a n c sz hcn.1 hroom hl (by have := hcn.2; unfold maxLen at this; omega)).mono fun e w' ⟨h1, h2⟩ => by
      subst h2
      exact ⟨⟨a, c, h1, hroom, hcn.2, ho, .inl rfl⟩, Below.refl _ _⟩
  · obtain ⟨cs, hcl, hcs, htk, hnil⟩ : ∃ cs : List Value, cs.length = c * i0.size ∧ (∀ ad, a = some ad → ∀ j v, cs[j]? = some v → w.cell? (ad.add j) = some v) ∧ cs.take n = xs ∧ (a = none → c = 0 ∧ n = 0) := by
      rcases ho.2 with ⟨e, e0⟩ | ⟨g, cap, cur, e, hb, hh, h1, h2, h3, h4⟩
      · injection e with e1 e2 e3
        subst e1
        refine ⟨[], by rw [e3]; simp, (fun ad h => by cases h), ?_, fun _ => ⟨e3, e0⟩⟩
        have := ho.1
        rw [e0] at this
        simp at this
        rw [this]
        simp
      · injection e with e1 e2 e3
        subst e1 e3
        refine ⟨cur.toList, by rw [hz1]; simpa using h3, fun ad h j v hv => ?_, by rw [Nat.mul_one] at h4; exact h4, (fun h => by cases h)⟩
        cases h
        have add : (⟨g, 0, none⟩ : Addr).add j = ⟨g, j, none⟩ := by unfold Addr.add; split <;> simp_all
        rw [add]
        simp only [World.cell?, hh]
        simpa using hv
    have hcl1 : cs.length = c * 1 := by rw [hz1] at hcl; exact hcl
    have hold : (Builtin.firstCells i0.size c (.slice a c c)).run Tryd.prog w.drew = .ok cs.toArray w.drew := by
      cases a with
      | none =>
        have h0 := (hnil rfl).1
        subst h0
        have hc0 : cs = [] := List.length_eq_zero_iff.1 (by simpa using hcl)
        rw [hc0]
        exact run_firstCells_none w.drew i0.size 0 0 0
      | some ad => exact run_firstCells_some w.drew i0.size c ad c c cs hcl (fun j v hj => hcs ad rfl j v hj)
    have hck : c + (n + sz - c) = n + sz := by omega
    have hrz : ∀ ty, (Builtin.append_ #[23, 3] ty #[.slice a c c, .int .i64 ((sz : Int) - ((c : Int) - (n : Int)))]).run Tryd.prog w = .ok (.slice (some ⟨w.heap.size, 0, none⟩) (n + sz) (grownCap w (n + sz) c 2)) (w.drew.alloc (.cells (cs.toArray ++ Builtin.zeroCells (Value.int .i64 0).cells (n + sz - c) ++ Builtin.zeroCells (Value.int .i64 0).cells (grownCap w (n + sz) c 2 - (n + sz))) 2)) := fun ty => by
      have h := Lib.run_append_grow_zeros w 23 3 ty 2 i0 (.int .i64 0) .i64 .i64 Tryd.underlying23 Tryd.underlying3 hi hz0 a c c cs hold (n + sz - c) (by omega) (by rw [hz1]; decide) (by omega) (by omega) (by rw [hz2]; omega) (by rw [hck]; exact growslice_fits (by omega) (by rw [hz2]; omega))
      rw [hck] at h
      rw [show (sz : Int) - ((c : Int) - (n : Int)) = ((n + sz - c : Nat) : Int) by omega]
      exact h
    have hGn : n + sz ≤ grownCap w (n + sz) c 2 := grownCap_ge w _ _ _
    have hGm := grownCap_le_maxLen w (n + sz) c 2 (by unfold maxLen; omega)
    obtain ⟨G, hG⟩ : ∃ G, G = grownCap w (n + sz) c 2 := ⟨_, rfl⟩
    rw [← hG] at hrz hGn hGm
    have h1 : ¬ ((sz : Int) < 0) := by omega
    have h2 : wrap64 ((c : Int) - (n : Int)) = (c : Int) - (n : Int) := by unfold wrap64; omega
    have h3 : wrap64 ((sz : Int) - ((c : Int) - (n : Int))) = (sz : Int) - ((c : Int) - (n : Int)) := by unfold wrap64; omega
    have h4 : (sz : Int) - ((c : Int) - (n : Int)) > 0 := by omega
    have hG63 : G ≤ 9223372036854775807 := by unfold maxLen at hGm; omega
    have hxl : xs.length = n * 1 := ho.1
    have FIN : Hid (GrQ w base n sz xs (.slice a n c) (.returned (.slice (some ⟨w.heap.size, 0, none⟩) n G)) (w.drew.alloc (.cells (cs.toArray ++ Builtin.zeroCells (Value.int .i64 0).cells (n + sz - c) ++ Builtin.zeroCells (Value.int .i64 0).cells (G - (n + sz))) 2))) := by
      refine ⟨⟨_, G, rfl, hGn, hGm, ⟨ho.1, .inr ⟨w.heap.size, G, _, rfl, hbs, alloc_at w.drew _, by omega, hGm, ?_, ?_⟩⟩, .inr ⟨_, rfl, Nat.le_refl _⟩⟩, (below_drewN (Below.refl _ _) 1).alloc (Nat.le_refl _) _⟩
      · have z : ∀ k, (Builtin.zeroCells (Value.int .i64 0).cells k).size = k := fun k => by simp [Builtin.zeroCells, Value.cells]
        simp only [Array.size_append, z]
        simp only [List.size_toArray, hcl1]
        omega
      · rw [Array.toList_append, Array.toList_append, List.append_assoc, List.take_append_of_le_length (by simp only [List.toList_toArray]; omega)]
        simp only [Nat.mul_one]
        exact htk
    obtain ⟨AA, hAA⟩ : ∃ AA, AA = cs.toArray ++ Builtin.zeroCells (Value.int .i64 0).cells (n + sz - c) ++ Builtin.zeroCells (Value.int .i64 0).cells (G - (n + sz)) := ⟨_, rfl⟩
    rw [← hAA] at FIN
    simp only [← hAA] at hrz
    clear hold hck hG hcs hcl hcl1 htk ho hi hz0 hz1 hz2 hAA
    go_enter Tryd.func60, Tryd.ntmps60
    cases a with
    | none =>
      have h0 := (hnil rfl)
      obtain ⟨rfl, rfl⟩ := h0
      go_wp2_with (at_builtin; refine Lib.wpList_append_run _ rfl _ _ _ _ rfl _ _ rfl rfl _ _ (hrz _) ?_)
      all_goals (go_ret; exact FIN.out)
    | some a =>
      obtain ⟨ab, ao, asp⟩ := a
      go_wp2_with (at_builtin; refine Lib.wpList_append_run _ rfl _ _ _ _ rfl _ _ rfl rfl _ _ (hrz _) ?_)
      all_goals (go_ret; exact FIN.out)
end Go.Proofs.YtkjkiknpgggadaaDoor

namespace Go.Proofs.YtkjkiknpgggadaaDoor
open Go.RowKit
set_option linter.unusedVariables false
set_option linter.unusedSimpArgs false

set_option maxRecDepth 100000 in
set_option maxHeartbeats 8000000 in
theorem vmCellsB (m : Nat) (w : World) (p NC ccp gc oc : Nat) (k g n q cap : Nat) (hml : m < w.heap.size) (hgc : gc < w.heap.size) (c0 : w.cell? ⟨m, 0, none⟩ = some (.slice (some ⟨gc, oc, none⟩) NC ccp)) (hpl : p < NC) (cc : w.cell? ⟨gc, oc + p * 4 + 1, none⟩ = some (.int .i64 k)) (c11 : w.cell? ⟨m, 11, none⟩ = some (.slice (some ⟨g, 0, none⟩) n cap)) (hk1 : 0 < k) (hqk : q + k ≤ cap) (hl : q + k ≤ 100000000) :
    Calls Tryd.prog 43 #[.pointer (some ⟨m, 0, none⟩), .agg #[.int .i64 p, .int .i64 0, .int .i64 (-1), .int .i64 (q : Int)]] w fun e w' => e = .returned (.slice (some ⟨g, q, none⟩) k (cap - q)) ∧ Below w.heap.size w w' := by
  obtain ⟨W1, hW1⟩ : ∃ W1, W1 = w.alloc (.cells #[.int .i64 p, .int .i64 0, .int .i64 (-1), .int .i64 (q : Int)] 70) := ⟨_, rfl⟩
  obtain ⟨fb, hfb⟩ : ∃ fb, fb = w.heap.size := ⟨_, rfl⟩
  have b1 : Below w.heap.size w W1 := by rw [hW1]; exact (Below.refl _ _).alloc (Nat.le_refl _) _
  have p0 : W1.cell? ⟨fb, 0, none⟩ = some (.int .i64 p) := by rw [hW1, hfb]; simp [go_sem]
  have p3 : W1.cell? ⟨fb, 3, none⟩ = some (.int .i64 (q : Int)) := by rw [hW1, hfb]; simp [go_sem]
  have d0 := (b1.cell (p := ⟨m, 0, none⟩) hml).trans c0
  have d11 := (b1.cell (p := ⟨m, 11, none⟩) hml).trans c11
  have dc := (b1.cell (p := ⟨gc, oc + p * 4 + 1, none⟩) hgc).trans cc
  have BW : Hid (Below w.heap.size w W1) := b1
  have hpi : (p : Int) < (NC : Int) := by omega
  have hp0 : (0 : Int) ≤ (p : Int) := by omega
  have hq0 : (0 : Int) ≤ (q : Int) := by omega
  have hqk : (q : Int) ≤ (q : Int) + (k : Int) := by omega
  have hqc : (q : Int) + (k : Int) ≤ (cap : Int) := by omega
  have hqb : (q : Int) + (k : Int) ≤ 100000000 := by omega
  have hn1 : ¬ cap - q = 0 := by omega
  have hn2 : (cap - q == 0) = false := beq_eq_false_iff_ne.2 hn1
  have hn3 : ¬ (cap : Int) - (q : Int) = 0 := by omega
  have hn4 : ¬ cap = q := by omega
  have hn5 : ¬ cap ≤ q := by omega
  have hn6 : q < cap := by omega
  have hn7 : (q : Int) < (cap : Int) := by omega
  clear b1 c0 c11 cc hml hgc
  go_enter Tryd.func43, Tryd.ntmps43
  go_upto_region 1 with fail
  rw [← hW1, ← hfb]
  clear hW1 hfb
  go_wp2_with fail
  go_quiet (fail)
  have BQ := below_drewN BW.out nq
  clear d0 d11 dc p0 p3 BW
  generalize W1.drewN nq = W5 at BQ ⊢
  go_wp2_with fail
  go_ret
  refine ⟨?_, BQ⟩
  first
    | rfl
    | (simp; done)
    | (congr 2 <;> omega)
set_option maxRecDepth 100000 in
set_option maxHeartbeats 8000000 in
theorem vmCellsZN (m : Nat) (w : World) (p NC ccp gc oc : Nat)  (hml : m < w.heap.size) (hgc : gc < w.heap.size) (c0 : w.cell? ⟨m, 0, none⟩ = some (.slice (some ⟨gc, oc, none⟩) NC ccp)) (hpl : p < NC) (cc : w.cell? ⟨gc, oc + p * 4 + 1, none⟩ = some (.int .i64 0)) (c11 : w.cell? ⟨m, 11, none⟩ = some (.slice none 0 0)) :
    Calls Tryd.prog 43 #[.pointer (some ⟨m, 0, none⟩), .agg #[.int .i64 p, .int .i64 0, .int .i64 (-1), .int .i64 0]] w fun e w' => (∃ a c, e = .returned (.slice a 0 c)) ∧ Below w.heap.size w w' := by
  obtain ⟨W1, hW1⟩ : ∃ W1, W1 = w.alloc (.cells #[.int .i64 p, .int .i64 0, .int .i64 (-1), .int .i64 0] 70) := ⟨_, rfl⟩
  obtain ⟨fb, hfb⟩ : ∃ fb, fb = w.heap.size := ⟨_, rfl⟩
  have b1 : Below w.heap.size w W1 := by rw [hW1]; exact (Below.refl _ _).alloc (Nat.le_refl _) _
  have p0 : W1.cell? ⟨fb, 0, none⟩ = some (.int .i64 p) := by rw [hW1, hfb]; simp [go_sem]
  have p3 : W1.cell? ⟨fb, 3, none⟩ = some (.int .i64 0) := by rw [hW1, hfb]; simp [go_sem]
  have d0 := (b1.cell (p := ⟨m, 0, none⟩) hml).trans c0
  have d11 := (b1.cell (p := ⟨m, 11, none⟩) hml).trans c11
  have dc := (b1.cell (p := ⟨gc, oc + p * 4 + 1, none⟩) hgc).trans cc
  have BW : Hid (Below w.heap.size w W1) := b1
  have hpi : (p : Int) < (NC : Int) := by omega
  have hp0 : (0 : Int) ≤ (p : Int) := by omega
  clear b1 c0 c11 cc hml hgc
  go_enter Tryd.func43, Tryd.ntmps43
  go_upto_region 1 with fail
  rw [← hW1, ← hfb]
  clear hW1 hfb
  go_wp2_with fail
  go_quiet (fail)
  have BQ := below_drewN BW.out nq
  clear d0 d11 dc p0 p3 BW
  generalize W1.drewN nq = W5 at BQ ⊢
  go_wp2_with fail
  go_ret
  exact ⟨⟨_, _, by first | rfl | (simp; done)⟩, BQ⟩
set_option maxRecDepth 100000 in
set_option maxHeartbeats 8000000 in
theorem vmCellsZE (m : Nat) (w : World) (p NC ccp gc oc : Nat) (g n q : Nat) (hml : m < w.heap.size) (hgc : gc < w.heap.size) (c0 : w.cell? ⟨m, 0, none⟩ = some (.slice (some ⟨gc, oc, none⟩) NC ccp)) (hpl : p < NC) (cc : w.cell? ⟨gc, oc + p * 4 + 1, none⟩ = some (.int .i64 0)) (c11 : w.cell? ⟨m, 11, none⟩ = some (.slice (some ⟨g, 0, none⟩) n q)) (hl : q ≤ 100000000) :
    Calls Tryd.prog 43 #[.pointer (some ⟨m, 0, none⟩), .agg #[.int .i64 p, .int .i64 0, .int .i64 (-1), .int .i64 (q : Int)]] w fun e w' => (∃ a c, e = .returned (.slice a 0 c)) ∧ Below w.heap.size w w' := by
  obtain ⟨W1, hW1⟩ : ∃ W1, W1 = w.alloc (.cells #[.int .i64 p, .int .i64 0, .int .i64 (-1), .int .i64 (q : Int)] 70) := ⟨_, rfl⟩
  obtain ⟨fb, hfb⟩ : ∃ fb, fb = w.heap.size := ⟨_, rfl⟩
  have b1 : Below w.heap.size w W1 := by rw [hW1]; exact (Below.refl _ _).alloc (Nat.le_refl _) _
  have p0 : W1.cell? ⟨fb, 0, none⟩ = some (.int .i64 p) := by rw [hW1, hfb]; simp [go_sem]
  have p3 : W1.cell? ⟨fb, 3, none⟩ = some (.int .i64 (q : Int)) := by rw [hW1, hfb]; simp [go_sem]
  have d0 := (b1.cell (p := ⟨m, 0, none⟩) hml).trans c0
  have d11 := (b1.cell (p := ⟨m, 11, none⟩) hml).trans c11
  have dc := (b1.cell (p := ⟨gc, oc + p * 4 + 1, none⟩) hgc).trans cc
  have BW : Hid (Below w.heap.size w W1) := b1
  have hpi : (p : Int) < (NC : Int) := by omega
  have hp0 : (0 : Int) ≤ (p : Int) := by omega
  have hq0 : (0 : Int) ≤ (q : Int) := by omega
  have hqb : (q : Int) ≤ 100000000 := by omega
  have hqz : q - q = 0 := by omega
  clear b1 c0 c11 cc hml hgc
  go_enter Tryd.func43, Tryd.ntmps43
  go_upto_region 1 with fail
  rw [← hW1, ← hfb]
  clear hW1 hfb
  go_wp2_with fail
  go_quiet (fail)
  have BQ := below_drewN BW.out nq
  clear d0 d11 dc p0 p3 BW
  generalize W1.drewN nq = W5 at BQ ⊢
  go_wp2_with fail
  go_ret
  exact ⟨⟨_, _, by first | rfl | (simp; done)⟩, BQ⟩
set_option maxRecDepth 100000 in
set_option maxHeartbeats 8000000 in
theorem vmCellsZR (m : Nat) (w : World) (p NC ccp gc oc : Nat) (g n q cap : Nat) (hml : m < w.heap.size) (hgc : gc < w.heap.size) (c0 : w.cell? ⟨m, 0, none⟩ = some (.slice (some ⟨gc, oc, none⟩) NC ccp)) (hpl : p < NC) (cc : w.cell? ⟨gc, oc + p * 4 + 1, none⟩ = some (.int .i64 0)) (c11 : w.cell? ⟨m, 11, none⟩ = some (.slice (some ⟨g, 0, none⟩) n cap)) (hqc : q < cap) (hl : q ≤ 100000000) :
    Calls Tryd.prog 43 #[.pointer (some ⟨m, 0, none⟩), .agg #[.int .i64 p, .int .i64 0, .int .i64 (-1), .int .i64 (q : Int)]] w fun e w' => (∃ a c, e = .returned (.slice a 0 c)) ∧ Below w.heap.size w w' := by
  obtain ⟨W1, hW1⟩ : ∃ W1, W1 = w.alloc (.cells #[.int .i64 p, .int .i64 0, .int .i64 (-1), .int .i64 (q : Int)] 70) := ⟨_, rfl⟩
  obtain ⟨fb, hfb⟩ : ∃ fb, fb = w.heap.size := ⟨_, rfl⟩
  have b1 : Below w.heap.size w W1 := by rw [hW1]; exact (Below.refl _ _).alloc (Nat.le_refl _) _
  have p0 : W1.cell? ⟨fb, 0, none⟩ = some (.int .i64 p) := by rw [hW1, hfb]; simp [go_sem]
  have p3 : W1.cell? ⟨fb, 3, none⟩ = some (.int .i64 (q : Int)) := by rw [hW1, hfb]; simp [go_sem]
  have d0 := (b1.cell (p := ⟨m, 0, none⟩) hml).trans c0
  have d11 := (b1.cell (p := ⟨m, 11, none⟩) hml).trans c11
  have dc := (b1.cell (p := ⟨gc, oc + p * 4 + 1, none⟩) hgc).trans cc
  have BW : Hid (Below w.heap.size w W1) := b1
  have hpi : (p : Int) < (NC : Int) := by omega
  have hp0 : (0 : Int) ≤ (p : Int) := by omega
  have hq0 : (0 : Int) ≤ (q : Int) := by omega
  have hqb : (q : Int) ≤ 100000000 := by omega
  have hqc : (q : Int) ≤ (cap : Int) := by omega
  have hn1 : ¬ cap - q = 0 := by omega
  have hn3 : ¬ (cap : Int) - (q : Int) = 0 := by omega
  have hn4 : ¬ cap = q := by omega
  have hn5 : ¬ cap ≤ q := by omega
  have hn7 : (q : Int) < (cap : Int) := by omega
  clear b1 c0 c11 cc hml hgc
  go_enter Tryd.func43, Tryd.ntmps43
  go_upto_region 1 with fail
  rw [← hW1, ← hfb]
  clear hW1 hfb
  go_wp2_with fail
  go_quiet (fail)
  have BQ := below_drewN BW.out nq
  clear d0 d11 dc p0 p3 BW
  generalize W1.drewN nq = W5 at BQ ⊢
  go_wp2_with fail
  go_ret
  exact ⟨⟨_, _, by first | rfl | (simp; done)⟩, BQ⟩
structure VmX (m : Nat) (w : World) (V : VmV) (M : Vm.Mc) (n : Nat) (ys : List Value) : Prop where
  box : w.heap[m]? = some (vmB V M)
  rows : VmR M.g w (m + 1) (stR V M) (evR V M) (frR V M) ⟨2, 1, V.cv, n, ys⟩
  co : CoW M.g.lo m w V.ca M.codes
  inp : NuW M.g.lo m w V.ia M.input
theorem VmX.lt {m n : Nat} {w : World} {V : VmV} {M : Vm.Mc} {ys : List Value} (h : VmX m w V M n ys) : m < w.heap.size := (Array.getElem?_eq_some_iff.1 h.box).1
theorem VmX.later {m n : Nat} {w w' : World} {V : VmV} {M : Vm.Mc} {ys : List Value} (h : VmX m w V M n ys) (b : Below w.heap.size w w') : VmX m w' V M n ys :=
  ⟨(b.block m h.lt).trans h.box, h.rows.later b, h.co.later (b.mono (Nat.le_of_lt h.lt)), h.inp.later (b.mono (Nat.le_of_lt h.lt))⟩
theorem VmX.s {m n : Nat} {w : World} {V : VmV} {M : Vm.Mc} {ys : List Value} {cs : List Int} (h : VmX m w V M n ys) (hn : n = cs.length) (hy : ys = nC cs) : VmS m w V { M with cells := cs } := by
  subst hn hy
  exact ⟨h.box, h.rows, h.co, h.inp⟩
theorem VmX.put {m n g cap i : Nat} {w : World} {V : VmV} {M : Vm.Mc} {ys : List Value} (h : VmX m w V M n ys) (hv : V.cv = .slice (some ⟨g, 0, none⟩) n cap) (hg : m < g) (hi : i < n) (u : Value) : Below m w (w.setCell ⟨g, i, none⟩ u) ∧ VmX m (w.setCell ⟨g, i, none⟩ u) V M n (ys.set i u) := by
  have b : Below m w (w.setCell ⟨g, i, none⟩ u) := ⟨rfl, rfl, rfl, by simp, fun j hj => heap_setCell_other _ _ j _ (by simp; omega)⟩
  have r := (h.rows.swap3.put (g := g) (cap := cap) (i := i) hv (by show i < n * 1; omega) u).swap3
  exact ⟨b, ⟨by rw [heap_setCell_other _ _ m _ (by simp; omega), h.box], r, h.co.later b, h.inp.later b⟩⟩
def VmX.st : List Value → Nat → List Value → List Value
  | ys, _, [] => ys
  | ys, o, u :: us => VmX.st (ys.set o u) (o + 1) us
theorem VmX.st_app : ∀ (us xs zs rs : List Value), us.length = zs.length → VmX.st (xs ++ (zs ++ rs)) xs.length us = xs ++ (us ++ rs)
  | [], xs, zs, rs, h => by
    have : zs = [] := List.length_eq_zero_iff.1 h.symm
    subst this
    rfl
  | u :: us, xs, [], rs, h => by cases h
  | u :: us, xs, z :: zs, rs, h => by
    have e : (xs ++ (z :: zs ++ rs)).set xs.length u = (xs ++ [u]) ++ (zs ++ rs) := by
      rw [List.set_append_right _ _ (Nat.le_refl _)]
      simp
    have e2 := VmX.st_app us (xs ++ [u]) zs rs (by simpa using h)
    rw [VmX.st, e]
    rw [List.length_append, List.length_singleton] at e2
    rw [e2]
    simp
theorem VmX.puts {m g cap n : Nat} {V : VmV} {M : Vm.Mc} (hv : V.cv = .slice (some ⟨g, 0, none⟩) n cap) (hg : m < g) : ∀ (us : List Value) (w : World) (ys : List Value) (o : Nat), VmX m w V M n ys → o + us.length ≤ n → Below m w (w.setCells g o us) ∧ VmX m (w.setCells g o us) V M n (VmX.st ys o us)
  | [], w, ys, o, h, ho => ⟨Below.refl _ _, h⟩
  | u :: us, w, ys, o, h, ho => by
    have q := h.put hv hg (i := o) (by simp at ho; omega) u
    have r := VmX.puts hv hg us _ _ (o + 1) q.2 (by simp at ho; omega)
    exact ⟨q.1.trans r.1, r.2⟩
theorem own_ext {w : World} {base : Nat} {e : TypeId} {n c k : Nat} {a : Option Addr} {xs : List Value} (h : w.ownsRow base e 1 (.slice a n c) n xs) (hk : n + k ≤ c) : ∃ us : List Value, us.length = k ∧ w.ownsRow base e 1 (.slice a (n + k) c) (n + k) (xs ++ us) := by
  have hl := h.1
  rcases h.2 with ⟨hv, h0⟩ | ⟨g', cap', cur, hv, hb, hh, h1, h2, h3, h4⟩
  · injection hv with e1 e2 e3
    obtain rfl : k = 0 := by omega
    exact ⟨[], rfl, by simpa using h⟩
  · cases hv
    refine ⟨(cur.toList.drop n).take k, by rw [List.length_take, List.length_drop, Array.length_toList, h3]; omega, ?_, .inr ⟨g', c, cur, rfl, hb, hh, hk, h2, h3, ?_⟩⟩
    · rw [List.length_append, hl, List.length_take, List.length_drop, Array.length_toList, h3]
      omega
    · rw [← h4, Nat.mul_one, Nat.mul_one, List.take_add]
end Go.Proofs.YtkjkiknpgggadaaDoor

