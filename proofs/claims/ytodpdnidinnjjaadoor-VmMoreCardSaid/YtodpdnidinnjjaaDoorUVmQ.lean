/- Layer 9: reckon: clear. -/
import Derived.Test.YtodpdnidinnjjaaDoorUVmO
import Derived.Lib.SliceRun
namespace Go.Proofs.YtodpdnidinnjjaaDoor
open Go.RowKit
set_option linter.unusedVariables false
set_option linter.unusedSimpArgs false

/-- Cells from one on are set to 0. -/
def Vm.cl : List Int → Nat → Nat → List Int
  | l, _, 0 => l
  | l, o, z + 1 => Vm.cl (l.set o 0) (o + 1) z
theorem Vm.cl_len : ∀ (z : Nat) (l : List Int) (o : Nat), (Vm.cl l o z).length = l.length
  | 0, l, o => rfl
  | z + 1, l, o => by rw [Vm.cl, Vm.cl_len z]; simp
theorem VmS.clr {m : Nat} {V : VmV} {g cap : Nat} (hg : m < g) : ∀ (z : Nat) (w : World) (M : Vm.Mc) (o : Nat), VmS m w V M → V.cv = .slice (some ⟨g, 0, none⟩) M.cells.length cap → o + z ≤ M.cells.length → Below m w (w.setCells g o (List.replicate z (.int .i64 0))) ∧ VmS m (w.setCells g o (List.replicate z (.int .i64 0))) V { M with cells := Vm.cl M.cells o z }
  | 0, w, M, o, h, hv, ho => ⟨Below.refl _ _, h⟩
  | z + 1, w, M, o, h, hv, ho => by
    have q := h.setCe hv hg (by omega : o < M.cells.length) 0
    have r := VmS.clr (cap := cap) hg z _ _ (o + 1) q.2 (by show V.cv = .slice _ (M.cells.set o 0).length cap; rw [hv]; simp) (by show _ ≤ (M.cells.set o 0).length; simp; omega)
    rw [List.replicate_succ]
    exact ⟨q.1.trans r.1, r.2⟩
theorem zero64 (w : World) : (zeroValue 2).run Tryd.prog w = .ok (.int .i64 0) w := by kernel_rfl

set_option maxRecDepth 100000 in
set_option maxHeartbeats 8000000 in
theorem vmR6 (m : Nat) (w : World) (V : VmV) (M : Vm.Mc) (fs : List Vm.Fr) (f : Vm.Fr) (c : Cd.Co) (k : Nat) (j z : Nat) (h : VmS m w V M) (hf : M.frames = fs ++ [f]) (hc : M.codes[f.proc]? = some c) (hk : c.cells = k) (hb : f.base + k ≤ M.cells.length) (hl : M.cells.length ≤ 100000000) (hfl : fs.length ≤ 1000000) (hz : 1 ≤ z) (hj : j + z ≤ k) :
    Calls Tryd.prog 41 #[.pointer (some ⟨m, 0, none⟩), inV ⟨6, (j : Int), (z : Int)⟩] w fun e w' => e = .returned (.tuple #[]) ∧ VmQ m w w' { M with cells := Vm.cl M.cells (f.base + j) z } := by
  obtain ⟨W1, hW1⟩ : ∃ W1, W1 = w.alloc (inB ⟨6, (j : Int), (z : Int)⟩) := ⟨_, rfl⟩
  obtain ⟨ib, hib⟩ : ∃ ib, ib = w.heap.size := ⟨_, rfl⟩
  obtain ⟨t0, t1, t2, bw⟩ := in_box w ⟨6, (j : Int), (z : Int)⟩ ib W1 hib hW1
  dsimp only at t0 t1 t2
  have il : ib < W1.heap.size := by rw [hib, hW1]; simp
  have h1 := h.later bw
  have HW : Hid (Below w.heap.size w W1) := bw
  have hml := h.lt
  obtain ⟨g, cap, hv, _, hmg, hgl, p0, p1, p2, p3, pf⟩ := h1.top hf
  have c10 := h1.cell.2.2.2.2.2.2.1
  rw [hv] at c10
  have ET : Hid _ := vmTop m g fs.length cap W1 c10 hfl
  obtain ⟨n, hn⟩ : ∃ n, n = fs.length := ⟨_, rfl⟩
  rw [← hn] at ET p0 p1 p2 p3 hfl
  have HH : Hid (VmS m W1 V M) := h1
  have EC4 : Hid (∀ X, Below W1.heap.size W1 X → Calls Tryd.prog 54 #[.pointer (some ⟨m, 0, none⟩), .agg #[.int .i64 f.proc, .int .i64 f.place, .int .i64 f.mark, .int .i64 f.base]] X fun e w' => ∃ v, e = .returned v ∧ IsSl v ∧ Hid (0 < k → ∃ g cap, V.cv = .slice (some ⟨g, 0, none⟩) M.cells.length cap ∧ M.cells.length ≤ cap ∧ v = .slice (some ⟨g, f.base, none⟩) k (cap - f.base)) ∧ Hid (Below X.heap.size X w')) := fun X hX => (vmCellsA m X V M f c k (HH.out.later hX) hc hk hb hl).mono fun e w' ⟨v, a, b, d, e2⟩ => ⟨v, a, b, d, e2⟩
  clear h h1 hf hc hv hn c10 pf bw 
  go_enter Tryd.func41, Tryd.ntmps41
  go_upto_region 1 with fail
  rw [← hW1, ← hib]
  clear hW1 hib
  go_wp2_with fail
  refine Calls.mono ET.out ?_
  rintro e2 w2 ⟨rfl, q2, hq2⟩
  have y2 : Below W1.heap.size W1 w2 := by rw [hq2]; exact below_drewN (Below.refl _ _) q2
  have r0 := (y2.cell (p := ⟨g, n * 4, none⟩) hgl).trans p0
  have r1 := (y2.cell (p := ⟨g, n * 4 + 1, none⟩) hgl).trans p1
  have r2 := (y2.cell (p := ⟨g, n * 4 + 2, none⟩) hgl).trans p2
  have r3 := (y2.cell (p := ⟨g, n * 4 + 3, none⟩) hgl).trans p3
  have Y2 : Hid (Below W1.heap.size W1 w2) := y2
  clear hq2 y2 p0 p1 p2 p3 ET
  go_wp2_with fail
  refine Calls.mono (EC4.out _ Y2.out) ?_
  rintro e3 w3 ⟨v3, rfl, ⟨xa, xn, xc, rfl⟩, S3, Y3⟩
  have Y4 : Hid (Below W1.heap.size W1 w3) := Y2.out.trans (Y3.out.mono Y2.out.size)
  have H3 : Hid (VmS m w3 V M) := HH.out.later Y4.out
  have B3 : Hid (Below m w w3) := (HW.out.trans (Y4.out.mono HW.out.size)).mono (Nat.le_of_lt hml)
  have u0 := (Y4.out.cell (p := ⟨ib, 0, none⟩) il).trans t0
  have u1 := (Y4.out.cell (p := ⟨ib, 1, none⟩) il).trans t1
  have u2 := (Y4.out.cell (p := ⟨ib, 2, none⟩) il).trans t2
  have il3 : ib < w3.heap.size := Nat.lt_of_lt_of_le il Y4.out.size
  clear r0 r1 r2 r3 t0 t1 t2 Y2 Y3 Y4 EC4 HH HW il hgl
  obtain ⟨gc, gcap, hcv, hcap, hsl⟩ := S3.out (by omega)
  cases hsl
  obtain ⟨g', cap', hv', _, hmgc, hgl, hcells, hfz⟩ := H3.out.cells (by omega)
  rw [hcv] at hv'
  cases hv'
  obtain ⟨cd, hcdd⟩ : ∃ cd, cd = gcap - f.base := ⟨_, rfl⟩
  have hclr : ∀ ty cx, (Builtin.clear_ #[23] ty #[.slice (some ⟨gc, f.base + j, none⟩) z cx]).run Tryd.prog w3 = .ok (.tuple #[]) (w3.setCells gc (f.base + j) (List.replicate z (.int .i64 0))) := fun ty cx => Lib.run_clear_slice w3 23 2 ty (.int .i64 0) Tryd.underlying23 zero64 rfl rfl gc (f.base + j) z cx (by omega) (fun i hi => by
    have := hcells (f.base + j + i) (M.cells.getD (f.base + j + i) 0) (by rw [List.getD_eq_getElem?_getD, List.getElem?_eq_getElem (by omega)]; rfl)
    rw [this]; rfl) (fun i hi => hfz _)
  have Q := VmS.clr (V := V) (cap := gcap) hmgc z w3 M (f.base + j) H3.out hcv (by omega)
  have FIN : Hid (VmQ m w (w3.setCells gc (f.base + j) (List.replicate z (.int .i64 0))) { M with cells := Vm.cl M.cells (f.base + j) z }) := ⟨B3.out.trans Q.1, V, Q.2⟩
  have hj0 : (0 : Int) ≤ (j : Int) := by omega
  have hz0 : (0 : Int) ≤ (z : Int) := by omega
  have hjz : (j : Int) ≤ (j : Int) + (z : Int) := by omega
  have hkb : k ≤ 100000000 := by omega
  have hcd : (j : Int) + (z : Int) ≤ (cd : Int) := by omega
  have hn1 : ¬ cd - j = 0 := by omega
  have hn3 : ¬ (cd : Int) - (j : Int) = 0 := by omega
  have hn4 : ¬ cd = j := by omega
  have hn5 : ¬ cd ≤ j := by omega
  have hn7 : (j : Int) < (cd : Int) := by omega
  have hjb : (j : Int) + (z : Int) ≤ 100000000 := by omega
  have ezj : ((j : Int) + (z : Int) - (j : Int)) = z := by omega
  rw [← hcdd]
  obtain ⟨W9, hW9⟩ : ∃ W9, W9 = w3.setCells gc (f.base + j) (List.replicate z (.int .i64 0)) := ⟨_, rfl⟩
  rw [← hW9] at FIN
  simp only [← hW9] at hclr
  clear hcv S3 hcap hcdd Q hcells hfz H3 hW9
  go_wp2_with fail
  first
    | (go_end0; exact ⟨rfl, FIN.out⟩)
    | (refine bodyPost_ret (v := .tuple #[]) (by simp [results, Tryd.results41, go_sem]) rfl ?_; exact ⟨rfl, FIN.out⟩)
end Go.Proofs.YtodpdnidinnjjaaDoor
