/- Layer 9: reckon: two numbers, load, index, put, store. -/
import Derived.Test.YtkjkiknpgggadaaDoorSVmN
namespace Go.Proofs.YtkjkiknpgggadaaDoor
open Go.RowKit
set_option linter.unusedVariables false
set_option linter.unusedSimpArgs false

set_option maxRecDepth 100000 in
set_option maxHeartbeats 8000000 in
theorem vmR7 (m : Nat) (w : World) (V : VmV) (M : Vm.Mc) (fs : List Vm.Fr) (f : Vm.Fr) (c : Cd.Co) (k : Nat) (x y : Int) (s : List Int) (a b : Int) (h : VmS m w V M) (hf : M.frames = fs ++ [f]) (hc : M.codes[f.proc]? = some c) (hk : c.cells = k) (hb : f.base + k ≤ M.cells.length) (hl : M.cells.length ≤ 100000000) (hfl : fs.length ≤ 1000000) (hst : M.stack = s ++ [a, b]) (hs : s.length ≤ 900000) (he : M.events.length ≤ 1000000000) :
    Calls Tryd.prog 33 #[.pointer (some ⟨m, 0, none⟩), inV ⟨7, x, y⟩] w fun e w' => e = .returned (.tuple #[]) ∧ VmQ m w w' (Vm.jn { M with stack := s } 7 a b) := by
  obtain ⟨W1, hW1⟩ : ∃ W1, W1 = w.alloc (inB ⟨7, x, y⟩) := ⟨_, rfl⟩
  obtain ⟨ib, hib⟩ : ∃ ib, ib = w.heap.size := ⟨_, rfl⟩
  obtain ⟨t0, t1, t2, bw⟩ := in_box w ⟨7, x, y⟩ ib W1 hib hW1
  dsimp only at t0 t1 t2
  have il : ib < W1.heap.size := by rw [hib, hW1]; simp
  have h1 := h.later bw
  have HW : Hid (Below w.heap.size w W1) := bw
  have hml := h.lt
  obtain ⟨g, cap, hv, _, hmg, hgl, p0, p1, p2, p3, pf⟩ := h1.top hf
  have c10 := h1.cell.2.2.2.2.2.2.1
  rw [hv] at c10
  have ET : Hid _ := vmTop m g fs.length cap W1 c10 hfl
  obtain ⟨n, hn⟩ : ∃ n, n = fs.length := ⟨_, rfl⟩
  rw [← hn] at ET p0 p1 p2 p3 hfl
  have HH : Hid (VmS m W1 V M) := h1
  have EC4 : Hid (∀ X, Below W1.heap.size W1 X → Calls Tryd.prog 43 #[.pointer (some ⟨m, 0, none⟩), .agg #[.int .i64 f.proc, .int .i64 f.place, .int .i64 f.mark, .int .i64 f.base]] X fun e w' => ∃ v, e = .returned v ∧ IsSl v ∧ Hid (0 < k → ∃ g cap, V.cv = .slice (some ⟨g, 0, none⟩) M.cells.length cap ∧ M.cells.length ≤ cap ∧ v = .slice (some ⟨g, f.base, none⟩) k (cap - f.base)) ∧ Hid (Below X.heap.size X w')) := fun X hX => (vmCellsA m X V M f c k (HH.out.later hX) hc hk hb hl).mono fun e w' ⟨v, a, b, d, e2⟩ => ⟨v, a, b, d, e2⟩
  have HMI : Hid (¬ ib = m) := by unfold Hid; omega
  clear h h1 hf hc hv hn c10 pf bw 
  go_enter Tryd.func33, Tryd.ntmps33
  go_upto_region 1 with fail
  rw [← hW1, ← hib]
  clear hW1 hib
  go_wp2_with fail
  refine Calls.mono ET.out ?_
  rintro e2 w2 ⟨rfl, q2, hq2⟩
  have y2 : Below W1.heap.size W1 w2 := by rw [hq2]; exact below_drewN (Below.refl _ _) q2
  have r0 := (y2.cell (p := ⟨g, n * 4, none⟩) hgl).trans p0
  have r1 := (y2.cell (p := ⟨g, n * 4 + 1, none⟩) hgl).trans p1
  have r2 := (y2.cell (p := ⟨g, n * 4 + 2, none⟩) hgl).trans p2
  have r3 := (y2.cell (p := ⟨g, n * 4 + 3, none⟩) hgl).trans p3
  have Y2 : Hid (Below W1.heap.size W1 w2) := y2
  clear hq2 y2 p0 p1 p2 p3 ET
  go_wp2_with fail
  refine Calls.mono (EC4.out _ Y2.out) ?_
  rintro e3 w3 ⟨v3, rfl, ⟨xa, xn, xc, rfl⟩, S3, Y3⟩
  have Y4 : Hid (Below W1.heap.size W1 w3) := Y2.out.trans (Y3.out.mono Y2.out.size)
  have H3 : Hid (VmS m w3 V M) := HH.out.later Y4.out
  have B3 : Hid (Below m w w3) := (HW.out.trans (Y4.out.mono HW.out.size)).mono (Nat.le_of_lt hml)
  have u0 := (Y4.out.cell (p := ⟨ib, 0, none⟩) il).trans t0
  have u1 := (Y4.out.cell (p := ⟨ib, 1, none⟩) il).trans t1
  have u2 := (Y4.out.cell (p := ⟨ib, 2, none⟩) il).trans t2
  have il3 : ib < w3.heap.size := Nat.lt_of_lt_of_le il Y4.out.size
  clear r0 r1 r2 r3 t0 t1 t2 Y2 Y3 Y4 EC4 HH HW il hgl
  have EP : Hid _ := vmPop3 m w3 V M (s ++ [a]) b H3.out (by rw [hst]; simp) (by simp; omega)
  have HE : Hid (M.events.length ≤ 1000000000 ∧ s.length ≤ 1000000) := ⟨he, by omega⟩
  clear hst he
  go_wp2_with fail
  refine Calls.mono EP.out ?_
  rintro e4 w4 ⟨rfl, sv4, hw4, b4, h4⟩
  have EP2 : Hid _ := vmPop3 m w4 _ _ s a h4 rfl HE.out.2
  have B4 : Hid (Below m w w4) := B3.out.trans b4
  have k4 : w4.heap[ib]? = w3.heap[ib]? := by rw [hw4]; exact heap_setCell_other _ _ ib _ (by have := HMI.out; simpa using this)
  have q0 := (World.cell?_of_block (w := w3) (a := ⟨ib, 0, none⟩) k4).trans u0
  clear b4 h4 EP hw4 k4 u0 u1 u2
  go_wp2_with fail
  refine Calls.mono EP2.out ?_
  rintro e5 w5 ⟨rfl, sv5, hw5, b5, h5⟩
  have B5 : Hid (Below m w w5) := B4.out.trans b5
  have k5 : w5.heap[ib]? = w4.heap[ib]? := by rw [hw5]; exact heap_setCell_other _ _ ib _ (by have := HMI.out; simpa using this)
  have s0 := (World.cell?_of_block (w := w4) (a := ⟨ib, 0, none⟩) k5).trans q0
  have EJ : Hid _ := vmJoin m w5 _ _ 7 a b (by decide) (by decide) h5 HE.out.2 HE.out.1
  clear b5 h5 EP2 hw5 k5 q0
  go_wp2_with fail
  refine Calls.mono EJ.out ?_
  rintro e6 w6 ⟨rfl, Q6⟩
  have FIN : Hid (VmQ m w w6 (Vm.jn { M with stack := s } 7 a b)) := ⟨B5.out.trans Q6.1, Q6.2⟩
  clear Q6 EJ
  go_wp2_with fail
  first
    | (go_end0; exact ⟨rfl, FIN.out⟩)
    | (refine bodyPost_ret (v := .tuple #[]) (by simp [results, Tryd.results33, go_sem]) rfl ?_; exact ⟨rfl, FIN.out⟩)
set_option maxRecDepth 100000 in
set_option maxHeartbeats 8000000 in
theorem vmR8 (m : Nat) (w : World) (V : VmV) (M : Vm.Mc) (fs : List Vm.Fr) (f : Vm.Fr) (c : Cd.Co) (k : Nat) (x y : Int) (s : List Int) (a b : Int) (h : VmS m w V M) (hf : M.frames = fs ++ [f]) (hc : M.codes[f.proc]? = some c) (hk : c.cells = k) (hb : f.base + k ≤ M.cells.length) (hl : M.cells.length ≤ 100000000) (hfl : fs.length ≤ 1000000) (hst : M.stack = s ++ [a, b]) (hs : s.length ≤ 900000) (he : M.events.length ≤ 1000000000) :
    Calls Tryd.prog 33 #[.pointer (some ⟨m, 0, none⟩), inV ⟨8, x, y⟩] w fun e w' => e = .returned (.tuple #[]) ∧ VmQ m w w' (Vm.jn { M with stack := s } 8 a b) := by
  obtain ⟨W1, hW1⟩ : ∃ W1, W1 = w.alloc (inB ⟨8, x, y⟩) := ⟨_, rfl⟩
  obtain ⟨ib, hib⟩ : ∃ ib, ib = w.heap.size := ⟨_, rfl⟩
  obtain ⟨t0, t1, t2, bw⟩ := in_box w ⟨8, x, y⟩ ib W1 hib hW1
  dsimp only at t0 t1 t2
  have il : ib < W1.heap.size := by rw [hib, hW1]; simp
  have h1 := h.later bw
  have HW : Hid (Below w.heap.size w W1) := bw
  have hml := h.lt
  obtain ⟨g, cap, hv, _, hmg, hgl, p0, p1, p2, p3, pf⟩ := h1.top hf
  have c10 := h1.cell.2.2.2.2.2.2.1
  rw [hv] at c10
  have ET : Hid _ := vmTop m g fs.length cap W1 c10 hfl
  obtain ⟨n, hn⟩ : ∃ n, n = fs.length := ⟨_, rfl⟩
  rw [← hn] at ET p0 p1 p2 p3 hfl
  have HH : Hid (VmS m W1 V M) := h1
  have EC4 : Hid (∀ X, Below W1.heap.size W1 X → Calls Tryd.prog 43 #[.pointer (some ⟨m, 0, none⟩), .agg #[.int .i64 f.proc, .int .i64 f.place, .int .i64 f.mark, .int .i64 f.base]] X fun e w' => ∃ v, e = .returned v ∧ IsSl v ∧ Hid (0 < k → ∃ g cap, V.cv = .slice (some ⟨g, 0, none⟩) M.cells.length cap ∧ M.cells.length ≤ cap ∧ v = .slice (some ⟨g, f.base, none⟩) k (cap - f.base)) ∧ Hid (Below X.heap.size X w')) := fun X hX => (vmCellsA m X V M f c k (HH.out.later hX) hc hk hb hl).mono fun e w' ⟨v, a, b, d, e2⟩ => ⟨v, a, b, d, e2⟩
  have HMI : Hid (¬ ib = m) := by unfold Hid; omega
  clear h h1 hf hc hv hn c10 pf bw 
  go_enter Tryd.func33, Tryd.ntmps33
  go_upto_region 1 with fail
  rw [← hW1, ← hib]
  clear hW1 hib
  go_wp2_with fail
  refine Calls.mono ET.out ?_
  rintro e2 w2 ⟨rfl, q2, hq2⟩
  have y2 : Below W1.heap.size W1 w2 := by rw [hq2]; exact below_drewN (Below.refl _ _) q2
  have r0 := (y2.cell (p := ⟨g, n * 4, none⟩) hgl).trans p0
  have r1 := (y2.cell (p := ⟨g, n * 4 + 1, none⟩) hgl).trans p1
  have r2 := (y2.cell (p := ⟨g, n * 4 + 2, none⟩) hgl).trans p2
  have r3 := (y2.cell (p := ⟨g, n * 4 + 3, none⟩) hgl).trans p3
  have Y2 : Hid (Below W1.heap.size W1 w2) := y2
  clear hq2 y2 p0 p1 p2 p3 ET
  go_wp2_with fail
  refine Calls.mono (EC4.out _ Y2.out) ?_
  rintro e3 w3 ⟨v3, rfl, ⟨xa, xn, xc, rfl⟩, S3, Y3⟩
  have Y4 : Hid (Below W1.heap.size W1 w3) := Y2.out.trans (Y3.out.mono Y2.out.size)
  have H3 : Hid (VmS m w3 V M) := HH.out.later Y4.out
  have B3 : Hid (Below m w w3) := (HW.out.trans (Y4.out.mono HW.out.size)).mono (Nat.le_of_lt hml)
  have u0 := (Y4.out.cell (p := ⟨ib, 0, none⟩) il).trans t0
  have u1 := (Y4.out.cell (p := ⟨ib, 1, none⟩) il).trans t1
  have u2 := (Y4.out.cell (p := ⟨ib, 2, none⟩) il).trans t2
  have il3 : ib < w3.heap.size := Nat.lt_of_lt_of_le il Y4.out.size
  clear r0 r1 r2 r3 t0 t1 t2 Y2 Y3 Y4 EC4 HH HW il hgl
  have EP : Hid _ := vmPop3 m w3 V M (s ++ [a]) b H3.out (by rw [hst]; simp) (by simp; omega)
  have HE : Hid (M.events.length ≤ 1000000000 ∧ s.length ≤ 1000000) := ⟨he, by omega⟩
  clear hst he
  go_wp2_with fail
  refine Calls.mono EP.out ?_
  rintro e4 w4 ⟨rfl, sv4, hw4, b4, h4⟩
  have EP2 : Hid _ := vmPop3 m w4 _ _ s a h4 rfl HE.out.2
  have B4 : Hid (Below m w w4) := B3.out.trans b4
  have k4 : w4.heap[ib]? = w3.heap[ib]? := by rw [hw4]; exact heap_setCell_other _ _ ib _ (by have := HMI.out; simpa using this)
  have q0 := (World.cell?_of_block (w := w3) (a := ⟨ib, 0, none⟩) k4).trans u0
  clear b4 h4 EP hw4 k4 u0 u1 u2
  go_wp2_with fail
  refine Calls.mono EP2.out ?_
  rintro e5 w5 ⟨rfl, sv5, hw5, b5, h5⟩
  have B5 : Hid (Below m w w5) := B4.out.trans b5
  have k5 : w5.heap[ib]? = w4.heap[ib]? := by rw [hw5]; exact heap_setCell_other _ _ ib _ (by have := HMI.out; simpa using this)
  have s0 := (World.cell?_of_block (w := w4) (a := ⟨ib, 0, none⟩) k5).trans q0
  have EJ : Hid _ := vmJoin m w5 _ _ 8 a b (by decide) (by decide) h5 HE.out.2 HE.out.1
  clear b5 h5 EP2 hw5 k5 q0
  go_wp2_with fail
  refine Calls.mono EJ.out ?_
  rintro e6 w6 ⟨rfl, Q6⟩
  have FIN : Hid (VmQ m w w6 (Vm.jn { M with stack := s } 8 a b)) := ⟨B5.out.trans Q6.1, Q6.2⟩
  clear Q6 EJ
  go_wp2_with fail
  first
    | (go_end0; exact ⟨rfl, FIN.out⟩)
    | (refine bodyPost_ret (v := .tuple #[]) (by simp [results, Tryd.results33, go_sem]) rfl ?_; exact ⟨rfl, FIN.out⟩)
set_option maxRecDepth 100000 in
set_option maxHeartbeats 8000000 in
theorem vmR9 (m : Nat) (w : World) (V : VmV) (M : Vm.Mc) (fs : List Vm.Fr) (f : Vm.Fr) (c : Cd.Co) (k : Nat) (x y : Int) (s : List Int) (a b : Int) (h : VmS m w V M) (hf : M.frames = fs ++ [f]) (hc : M.codes[f.proc]? = some c) (hk : c.cells = k) (hb : f.base + k ≤ M.cells.length) (hl : M.cells.length ≤ 100000000) (hfl : fs.length ≤ 1000000) (hst : M.stack = s ++ [a, b]) (hs : s.length ≤ 900000) (he : M.events.length ≤ 1000000000) :
    Calls Tryd.prog 33 #[.pointer (some ⟨m, 0, none⟩), inV ⟨9, x, y⟩] w fun e w' => e = .returned (.tuple #[]) ∧ VmQ m w w' (Vm.jn { M with stack := s } 9 a b) := by
  obtain ⟨W1, hW1⟩ : ∃ W1, W1 = w.alloc (inB ⟨9, x, y⟩) := ⟨_, rfl⟩
  obtain ⟨ib, hib⟩ : ∃ ib, ib = w.heap.size := ⟨_, rfl⟩
  obtain ⟨t0, t1, t2, bw⟩ := in_box w ⟨9, x, y⟩ ib W1 hib hW1
  dsimp only at t0 t1 t2
  have il : ib < W1.heap.size := by rw [hib, hW1]; simp
  have h1 := h.later bw
  have HW : Hid (Below w.heap.size w W1) := bw
  have hml := h.lt
  obtain ⟨g, cap, hv, _, hmg, hgl, p0, p1, p2, p3, pf⟩ := h1.top hf
  have c10 := h1.cell.2.2.2.2.2.2.1
  rw [hv] at c10
  have ET : Hid _ := vmTop m g fs.length cap W1 c10 hfl
  obtain ⟨n, hn⟩ : ∃ n, n = fs.length := ⟨_, rfl⟩
  rw [← hn] at ET p0 p1 p2 p3 hfl
  have HH : Hid (VmS m W1 V M) := h1
  have EC4 : Hid (∀ X, Below W1.heap.size W1 X → Calls Tryd.prog 43 #[.pointer (some ⟨m, 0, none⟩), .agg #[.int .i64 f.proc, .int .i64 f.place, .int .i64 f.mark, .int .i64 f.base]] X fun e w' => ∃ v, e = .returned v ∧ IsSl v ∧ Hid (0 < k → ∃ g cap, V.cv = .slice (some ⟨g, 0, none⟩) M.cells.length cap ∧ M.cells.length ≤ cap ∧ v = .slice (some ⟨g, f.base, none⟩) k (cap - f.base)) ∧ Hid (Below X.heap.size X w')) := fun X hX => (vmCellsA m X V M f c k (HH.out.later hX) hc hk hb hl).mono fun e w' ⟨v, a, b, d, e2⟩ => ⟨v, a, b, d, e2⟩
  have HMI : Hid (¬ ib = m) := by unfold Hid; omega
  clear h h1 hf hc hv hn c10 pf bw 
  go_enter Tryd.func33, Tryd.ntmps33
  go_upto_region 1 with fail
  rw [← hW1, ← hib]
  clear hW1 hib
  go_wp2_with fail
  refine Calls.mono ET.out ?_
  rintro e2 w2 ⟨rfl, q2, hq2⟩
  have y2 : Below W1.heap.size W1 w2 := by rw [hq2]; exact below_drewN (Below.refl _ _) q2
  have r0 := (y2.cell (p := ⟨g, n * 4, none⟩) hgl).trans p0
  have r1 := (y2.cell (p := ⟨g, n * 4 + 1, none⟩) hgl).trans p1
  have r2 := (y2.cell (p := ⟨g, n * 4 + 2, none⟩) hgl).trans p2
  have r3 := (y2.cell (p := ⟨g, n * 4 + 3, none⟩) hgl).trans p3
  have Y2 : Hid (Below W1.heap.size W1 w2) := y2
  clear hq2 y2 p0 p1 p2 p3 ET
  go_wp2_with fail
  refine Calls.mono (EC4.out _ Y2.out) ?_
  rintro e3 w3 ⟨v3, rfl, ⟨xa, xn, xc, rfl⟩, S3, Y3⟩
  have Y4 : Hid (Below W1.heap.size W1 w3) := Y2.out.trans (Y3.out.mono Y2.out.size)
  have H3 : Hid (VmS m w3 V M) := HH.out.later Y4.out
  have B3 : Hid (Below m w w3) := (HW.out.trans (Y4.out.mono HW.out.size)).mono (Nat.le_of_lt hml)
  have u0 := (Y4.out.cell (p := ⟨ib, 0, none⟩) il).trans t0
  have u1 := (Y4.out.cell (p := ⟨ib, 1, none⟩) il).trans t1
  have u2 := (Y4.out.cell (p := ⟨ib, 2, none⟩) il).trans t2
  have il3 : ib < w3.heap.size := Nat.lt_of_lt_of_le il Y4.out.size
  clear r0 r1 r2 r3 t0 t1 t2 Y2 Y3 Y4 EC4 HH HW il hgl
  have EP : Hid _ := vmPop3 m w3 V M (s ++ [a]) b H3.out (by rw [hst]; simp) (by simp; omega)
  have HE : Hid (M.events.length ≤ 1000000000 ∧ s.length ≤ 1000000) := ⟨he, by omega⟩
  clear hst he
  go_wp2_with fail
  refine Calls.mono EP.out ?_
  rintro e4 w4 ⟨rfl, sv4, hw4, b4, h4⟩
  have EP2 : Hid _ := vmPop3 m w4 _ _ s a h4 rfl HE.out.2
  have B4 : Hid (Below m w w4) := B3.out.trans b4
  have k4 : w4.heap[ib]? = w3.heap[ib]? := by rw [hw4]; exact heap_setCell_other _ _ ib _ (by have := HMI.out; simpa using this)
  have q0 := (World.cell?_of_block (w := w3) (a := ⟨ib, 0, none⟩) k4).trans u0
  clear b4 h4 EP hw4 k4 u0 u1 u2
  go_wp2_with fail
  refine Calls.mono EP2.out ?_
  rintro e5 w5 ⟨rfl, sv5, hw5, b5, h5⟩
  have B5 : Hid (Below m w w5) := B4.out.trans b5
  have k5 : w5.heap[ib]? = w4.heap[ib]? := by rw [hw5]; exact heap_setCell_other _ _ ib _ (by have := HMI.out; simpa using this)
  have s0 := (World.cell?_of_block (w := w4) (a := ⟨ib, 0, none⟩) k5).trans q0
  have EJ : Hid _ := vmJoin m w5 _ _ 9 a b (by decide) (by decide) h5 HE.out.2 HE.out.1
  clear b5 h5 EP2 hw5 k5 q0
  go_wp2_with fail
  refine Calls.mono EJ.out ?_
  rintro e6 w6 ⟨rfl, Q6⟩
  have FIN : Hid (VmQ m w w6 (Vm.jn { M with stack := s } 9 a b)) := ⟨B5.out.trans Q6.1, Q6.2⟩
  clear Q6 EJ
  go_wp2_with fail
  first
    | (go_end0; exact ⟨rfl, FIN.out⟩)
    | (refine bodyPost_ret (v := .tuple #[]) (by simp [results, Tryd.results33, go_sem]) rfl ?_; exact ⟨rfl, FIN.out⟩)
set_option maxRecDepth 100000 in
set_option maxHeartbeats 8000000 in
theorem vmR10 (m : Nat) (w : World) (V : VmV) (M : Vm.Mc) (fs : List Vm.Fr) (f : Vm.Fr) (c : Cd.Co) (k : Nat) (x y : Int) (s : List Int) (a b : Int) (h : VmS m w V M) (hf : M.frames = fs ++ [f]) (hc : M.codes[f.proc]? = some c) (hk : c.cells = k) (hb : f.base + k ≤ M.cells.length) (hl : M.cells.length ≤ 100000000) (hfl : fs.length ≤ 1000000) (hst : M.stack = s ++ [a, b]) (hs : s.length ≤ 900000) (he : M.events.length ≤ 1000000000) :
    Calls Tryd.prog 33 #[.pointer (some ⟨m, 0, none⟩), inV ⟨10, x, y⟩] w fun e w' => e = .returned (.tuple #[]) ∧ VmQ m w w' (Vm.jn { M with stack := s } 10 a b) := by
  obtain ⟨W1, hW1⟩ : ∃ W1, W1 = w.alloc (inB ⟨10, x, y⟩) := ⟨_, rfl⟩
  obtain ⟨ib, hib⟩ : ∃ ib, ib = w.heap.size := ⟨_, rfl⟩
  obtain ⟨t0, t1, t2, bw⟩ := in_box w ⟨10, x, y⟩ ib W1 hib hW1
  dsimp only at t0 t1 t2
  have il : ib < W1.heap.size := by rw [hib, hW1]; simp
  have h1 := h.later bw
  have HW : Hid (Below w.heap.size w W1) := bw
  have hml := h.lt
  obtain ⟨g, cap, hv, _, hmg, hgl, p0, p1, p2, p3, pf⟩ := h1.top hf
  have c10 := h1.cell.2.2.2.2.2.2.1
  rw [hv] at c10
  have ET : Hid _ := vmTop m g fs.length cap W1 c10 hfl
  obtain ⟨n, hn⟩ : ∃ n, n = fs.length := ⟨_, rfl⟩
  rw [← hn] at ET p0 p1 p2 p3 hfl
  have HH : Hid (VmS m W1 V M) := h1
  have EC4 : Hid (∀ X, Below W1.heap.size W1 X → Calls Tryd.prog 43 #[.pointer (some ⟨m, 0, none⟩), .agg #[.int .i64 f.proc, .int .i64 f.place, .int .i64 f.mark, .int .i64 f.base]] X fun e w' => ∃ v, e = .returned v ∧ IsSl v ∧ Hid (0 < k → ∃ g cap, V.cv = .slice (some ⟨g, 0, none⟩) M.cells.length cap ∧ M.cells.length ≤ cap ∧ v = .slice (some ⟨g, f.base, none⟩) k (cap - f.base)) ∧ Hid (Below X.heap.size X w')) := fun X hX => (vmCellsA m X V M f c k (HH.out.later hX) hc hk hb hl).mono fun e w' ⟨v, a, b, d, e2⟩ => ⟨v, a, b, d, e2⟩
  have HMI : Hid (¬ ib = m) := by unfold Hid; omega
  clear h h1 hf hc hv hn c10 pf bw 
  go_enter Tryd.func33, Tryd.ntmps33
  go_upto_region 1 with fail
  rw [← hW1, ← hib]
  clear hW1 hib
  go_wp2_with fail
  refine Calls.mono ET.out ?_
  rintro e2 w2 ⟨rfl, q2, hq2⟩
  have y2 : Below W1.heap.size W1 w2 := by rw [hq2]; exact below_drewN (Below.refl _ _) q2
  have r0 := (y2.cell (p := ⟨g, n * 4, none⟩) hgl).trans p0
  have r1 := (y2.cell (p := ⟨g, n * 4 + 1, none⟩) hgl).trans p1
  have r2 := (y2.cell (p := ⟨g, n * 4 + 2, none⟩) hgl).trans p2
  have r3 := (y2.cell (p := ⟨g, n * 4 + 3, none⟩) hgl).trans p3
  have Y2 : Hid (Below W1.heap.size W1 w2) := y2
  clear hq2 y2 p0 p1 p2 p3 ET
  go_wp2_with fail
  refine Calls.mono (EC4.out _ Y2.out) ?_
  rintro e3 w3 ⟨v3, rfl, ⟨xa, xn, xc, rfl⟩, S3, Y3⟩
  have Y4 : Hid (Below W1.heap.size W1 w3) := Y2.out.trans (Y3.out.mono Y2.out.size)
  have H3 : Hid (VmS m w3 V M) := HH.out.later Y4.out
  have B3 : Hid (Below m w w3) := (HW.out.trans (Y4.out.mono HW.out.size)).mono (Nat.le_of_lt hml)
  have u0 := (Y4.out.cell (p := ⟨ib, 0, none⟩) il).trans t0
  have u1 := (Y4.out.cell (p := ⟨ib, 1, none⟩) il).trans t1
  have u2 := (Y4.out.cell (p := ⟨ib, 2, none⟩) il).trans t2
  have il3 : ib < w3.heap.size := Nat.lt_of_lt_of_le il Y4.out.size
  clear r0 r1 r2 r3 t0 t1 t2 Y2 Y3 Y4 EC4 HH HW il hgl
  have EP : Hid _ := vmPop3 m w3 V M (s ++ [a]) b H3.out (by rw [hst]; simp) (by simp; omega)
  have HE : Hid (M.events.length ≤ 1000000000 ∧ s.length ≤ 1000000) := ⟨he, by omega⟩
  clear hst he
  go_wp2_with fail
  refine Calls.mono EP.out ?_
  rintro e4 w4 ⟨rfl, sv4, hw4, b4, h4⟩
  have EP2 : Hid _ := vmPop3 m w4 _ _ s a h4 rfl HE.out.2
  have B4 : Hid (Below m w w4) := B3.out.trans b4
  have k4 : w4.heap[ib]? = w3.heap[ib]? := by rw [hw4]; exact heap_setCell_other _ _ ib _ (by have := HMI.out; simpa using this)
  have q0 := (World.cell?_of_block (w := w3) (a := ⟨ib, 0, none⟩) k4).trans u0
  clear b4 h4 EP hw4 k4 u0 u1 u2
  go_wp2_with fail
  refine Calls.mono EP2.out ?_
  rintro e5 w5 ⟨rfl, sv5, hw5, b5, h5⟩
  have B5 : Hid (Below m w w5) := B4.out.trans b5
  have k5 : w5.heap[ib]? = w4.heap[ib]? := by rw [hw5]; exact heap_setCell_other _ _ ib _ (by have := HMI.out; simpa using this)
  have s0 := (World.cell?_of_block (w := w4) (a := ⟨ib, 0, none⟩) k5).trans q0
  have EJ : Hid _ := vmJoin m w5 _ _ 10 a b (by decide) (by decide) h5 HE.out.2 HE.out.1
  clear b5 h5 EP2 hw5 k5 q0
  go_wp2_with fail
  refine Calls.mono EJ.out ?_
  rintro e6 w6 ⟨rfl, Q6⟩
  have FIN : Hid (VmQ m w w6 (Vm.jn { M with stack := s } 10 a b)) := ⟨B5.out.trans Q6.1, Q6.2⟩
  clear Q6 EJ
  go_wp2_with fail
  first
    | (go_end0; exact ⟨rfl, FIN.out⟩)
    | (refine bodyPost_ret (v := .tuple #[]) (by simp [results, Tryd.results33, go_sem]) rfl ?_; exact ⟨rfl, FIN.out⟩)
set_option maxRecDepth 100000 in
set_option maxHeartbeats 8000000 in
theorem vmR11 (m : Nat) (w : World) (V : VmV) (M : Vm.Mc) (fs : List Vm.Fr) (f : Vm.Fr) (c : Cd.Co) (k : Nat) (x y : Int) (s : List Int) (a b : Int) (h : VmS m w V M) (hf : M.frames = fs ++ [f]) (hc : M.codes[f.proc]? = some c) (hk : c.cells = k) (hb : f.base + k ≤ M.cells.length) (hl : M.cells.length ≤ 100000000) (hfl : fs.length ≤ 1000000) (hst : M.stack = s ++ [a, b]) (hs : s.length ≤ 900000) (he : M.events.length ≤ 1000000000) :
    Calls Tryd.prog 33 #[.pointer (some ⟨m, 0, none⟩), inV ⟨11, x, y⟩] w fun e w' => e = .returned (.tuple #[]) ∧ VmQ m w w' (Vm.jn { M with stack := s } 11 a b) := by
  obtain ⟨W1, hW1⟩ : ∃ W1, W1 = w.alloc (inB ⟨11, x, y⟩) := ⟨_, rfl⟩
  obtain ⟨ib, hib⟩ : ∃ ib, ib = w.heap.size := ⟨_, rfl⟩
  obtain ⟨t0, t1, t2, bw⟩ := in_box w ⟨11, x, y⟩ ib W1 hib hW1
  dsimp only at t0 t1 t2
  have il : ib < W1.heap.size := by rw [hib, hW1]; simp
  have h1 := h.later bw
  have HW : Hid (Below w.heap.size w W1) := bw
  have hml := h.lt
  obtain ⟨g, cap, hv, _, hmg, hgl, p0, p1, p2, p3, pf⟩ := h1.top hf
  have c10 := h1.cell.2.2.2.2.2.2.1
  rw [hv] at c10
  have ET : Hid _ := vmTop m g fs.length cap W1 c10 hfl
  obtain ⟨n, hn⟩ : ∃ n, n = fs.length := ⟨_, rfl⟩
  rw [← hn] at ET p0 p1 p2 p3 hfl
  have HH : Hid (VmS m W1 V M) := h1
  have EC4 : Hid (∀ X, Below W1.heap.size W1 X → Calls Tryd.prog 43 #[.pointer (some ⟨m, 0, none⟩), .agg #[.int .i64 f.proc, .int .i64 f.place, .int .i64 f.mark, .int .i64 f.base]] X fun e w' => ∃ v, e = .returned v ∧ IsSl v ∧ Hid (0 < k → ∃ g cap, V.cv = .slice (some ⟨g, 0, none⟩) M.cells.length cap ∧ M.cells.length ≤ cap ∧ v = .slice (some ⟨g, f.base, none⟩) k (cap - f.base)) ∧ Hid (Below X.heap.size X w')) := fun X hX => (vmCellsA m X V M f c k (HH.out.later hX) hc hk hb hl).mono fun e w' ⟨v, a, b, d, e2⟩ => ⟨v, a, b, d, e2⟩
  have HMI : Hid (¬ ib = m) := by unfold Hid; omega
  clear h h1 hf hc hv hn c10 pf bw 
  go_enter Tryd.func33, Tryd.ntmps33
  go_upto_region 1 with fail
  rw [← hW1, ← hib]
  clear hW1 hib
  go_wp2_with fail
  refine Calls.mono ET.out ?_
  rintro e2 w2 ⟨rfl, q2, hq2⟩
  have y2 : Below W1.heap.size W1 w2 := by rw [hq2]; exact below_drewN (Below.refl _ _) q2
  have r0 := (y2.cell (p := ⟨g, n * 4, none⟩) hgl).trans p0
  have r1 := (y2.cell (p := ⟨g, n * 4 + 1, none⟩) hgl).trans p1
  have r2 := (y2.cell (p := ⟨g, n * 4 + 2, none⟩) hgl).trans p2
  have r3 := (y2.cell (p := ⟨g, n * 4 + 3, none⟩) hgl).trans p3
  have Y2 : Hid (Below W1.heap.size W1 w2) := y2
  clear hq2 y2 p0 p1 p2 p3 ET
  go_wp2_with fail
  refine Calls.mono (EC4.out _ Y2.out) ?_
  rintro e3 w3 ⟨v3, rfl, ⟨xa, xn, xc, rfl⟩, S3, Y3⟩
  have Y4 : Hid (Below W1.heap.size W1 w3) := Y2.out.trans (Y3.out.mono Y2.out.size)
  have H3 : Hid (VmS m w3 V M) := HH.out.later Y4.out
  have B3 : Hid (Below m w w3) := (HW.out.trans (Y4.out.mono HW.out.size)).mono (Nat.le_of_lt hml)
  have u0 := (Y4.out.cell (p := ⟨ib, 0, none⟩) il).trans t0
  have u1 := (Y4.out.cell (p := ⟨ib, 1, none⟩) il).trans t1
  have u2 := (Y4.out.cell (p := ⟨ib, 2, none⟩) il).trans t2
  have il3 : ib < w3.heap.size := Nat.lt_of_lt_of_le il Y4.out.size
  clear r0 r1 r2 r3 t0 t1 t2 Y2 Y3 Y4 EC4 HH HW il hgl
  have EP : Hid _ := vmPop3 m w3 V M (s ++ [a]) b H3.out (by rw [hst]; simp) (by simp; omega)
  have HE : Hid (M.events.length ≤ 1000000000 ∧ s.length ≤ 1000000) := ⟨he, by omega⟩
  clear hst he
  go_wp2_with fail
  refine Calls.mono EP.out ?_
  rintro e4 w4 ⟨rfl, sv4, hw4, b4, h4⟩
  have EP2 : Hid _ := vmPop3 m w4 _ _ s a h4 rfl HE.out.2
  have B4 : Hid (Below m w w4) := B3.out.trans b4
  have k4 : w4.heap[ib]? = w3.heap[ib]? := by rw [hw4]; exact heap_setCell_other _ _ ib _ (by have := HMI.out; simpa using this)
  have q0 := (World.cell?_of_block (w := w3) (a := ⟨ib, 0, none⟩) k4).trans u0
  clear b4 h4 EP hw4 k4 u0 u1 u2
  go_wp2_with fail
  refine Calls.mono EP2.out ?_
  rintro e5 w5 ⟨rfl, sv5, hw5, b5, h5⟩
  have B5 : Hid (Below m w w5) := B4.out.trans b5
  have k5 : w5.heap[ib]? = w4.heap[ib]? := by rw [hw5]; exact heap_setCell_other _ _ ib _ (by have := HMI.out; simpa using this)
  have s0 := (World.cell?_of_block (w := w4) (a := ⟨ib, 0, none⟩) k5).trans q0
  have EJ : Hid _ := vmJoin m w5 _ _ 11 a b (by decide) (by decide) h5 HE.out.2 HE.out.1
  clear b5 h5 EP2 hw5 k5 q0
  go_wp2_with fail
  refine Calls.mono EJ.out ?_
  rintro e6 w6 ⟨rfl, Q6⟩
  have FIN : Hid (VmQ m w w6 (Vm.jn { M with stack := s } 11 a b)) := ⟨B5.out.trans Q6.1, Q6.2⟩
  clear Q6 EJ
  go_wp2_with fail
  first
    | (go_end0; exact ⟨rfl, FIN.out⟩)
    | (refine bodyPost_ret (v := .tuple #[]) (by simp [results, Tryd.results33, go_sem]) rfl ?_; exact ⟨rfl, FIN.out⟩)
set_option maxRecDepth 100000 in
set_option maxHeartbeats 8000000 in
theorem vmR12 (m : Nat) (w : World) (V : VmV) (M : Vm.Mc) (fs : List Vm.Fr) (f : Vm.Fr) (c : Cd.Co) (k : Nat) (x y : Int) (s : List Int) (a b : Int) (h : VmS m w V M) (hf : M.frames = fs ++ [f]) (hc : M.codes[f.proc]? = some c) (hk : c.cells = k) (hb : f.base + k ≤ M.cells.length) (hl : M.cells.length ≤ 100000000) (hfl : fs.length ≤ 1000000) (hst : M.stack = s ++ [a, b]) (hs : s.length ≤ 900000) (he : M.events.length ≤ 1000000000) :
    Calls Tryd.prog 33 #[.pointer (some ⟨m, 0, none⟩), inV ⟨12, x, y⟩] w fun e w' => e = .returned (.tuple #[]) ∧ VmQ m w w' (Vm.jn { M with stack := s } 12 a b) := by
  obtain ⟨W1, hW1⟩ : ∃ W1, W1 = w.alloc (inB ⟨12, x, y⟩) := ⟨_, rfl⟩
  obtain ⟨ib, hib⟩ : ∃ ib, ib = w.heap.size := ⟨_, rfl⟩
  obtain ⟨t0, t1, t2, bw⟩ := in_box w ⟨12, x, y⟩ ib W1 hib hW1
  dsimp only at t0 t1 t2
  have il : ib < W1.heap.size := by rw [hib, hW1]; simp
  have h1 := h.later bw
  have HW : Hid (Below w.heap.size w W1) := bw
  have hml := h.lt
  obtain ⟨g, cap, hv, _, hmg, hgl, p0, p1, p2, p3, pf⟩ := h1.top hf
  have c10 := h1.cell.2.2.2.2.2.2.1
  rw [hv] at c10
  have ET : Hid _ := vmTop m g fs.length cap W1 c10 hfl
  obtain ⟨n, hn⟩ : ∃ n, n = fs.length := ⟨_, rfl⟩
  rw [← hn] at ET p0 p1 p2 p3 hfl
  have HH : Hid (VmS m W1 V M) := h1
  have EC4 : Hid (∀ X, Below W1.heap.size W1 X → Calls Tryd.prog 43 #[.pointer (some ⟨m, 0, none⟩), .agg #[.int .i64 f.proc, .int .i64 f.place, .int .i64 f.mark, .int .i64 f.base]] X fun e w' => ∃ v, e = .returned v ∧ IsSl v ∧ Hid (0 < k → ∃ g cap, V.cv = .slice (some ⟨g, 0, none⟩) M.cells.length cap ∧ M.cells.length ≤ cap ∧ v = .slice (some ⟨g, f.base, none⟩) k (cap - f.base)) ∧ Hid (Below X.heap.size X w')) := fun X hX => (vmCellsA m X V M f c k (HH.out.later hX) hc hk hb hl).mono fun e w' ⟨v, a, b, d, e2⟩ => ⟨v, a, b, d, e2⟩
  have HMI : Hid (¬ ib = m) := by unfold Hid; omega
  clear h h1 hf hc hv hn c10 pf bw 
  go_enter Tryd.func33, Tryd.ntmps33
  go_upto_region 1 with fail
  rw [← hW1, ← hib]
  clear hW1 hib
  go_wp2_with fail
  refine Calls.mono ET.out ?_
  rintro e2 w2 ⟨rfl, q2, hq2⟩
  have y2 : Below W1.heap.size W1 w2 := by rw [hq2]; exact below_drewN (Below.refl _ _) q2
  have r0 := (y2.cell (p := ⟨g, n * 4, none⟩) hgl).trans p0
  have r1 := (y2.cell (p := ⟨g, n * 4 + 1, none⟩) hgl).trans p1
  have r2 := (y2.cell (p := ⟨g, n * 4 + 2, none⟩) hgl).trans p2
  have r3 := (y2.cell (p := ⟨g, n * 4 + 3, none⟩) hgl).trans p3
  have Y2 : Hid (Below W1.heap.size W1 w2) := y2
  clear hq2 y2 p0 p1 p2 p3 ET
  go_wp2_with fail
  refine Calls.mono (EC4.out _ Y2.out) ?_
  rintro e3 w3 ⟨v3, rfl, ⟨xa, xn, xc, rfl⟩, S3, Y3⟩
  have Y4 : Hid (Below W1.heap.size W1 w3) := Y2.out.trans (Y3.out.mono Y2.out.size)
  have H3 : Hid (VmS m w3 V M) := HH.out.later Y4.out
  have B3 : Hid (Below m w w3) := (HW.out.trans (Y4.out.mono HW.out.size)).mono (Nat.le_of_lt hml)
  have u0 := (Y4.out.cell (p := ⟨ib, 0, none⟩) il).trans t0
  have u1 := (Y4.out.cell (p := ⟨ib, 1, none⟩) il).trans t1
  have u2 := (Y4.out.cell (p := ⟨ib, 2, none⟩) il).trans t2
  have il3 : ib < w3.heap.size := Nat.lt_of_lt_of_le il Y4.out.size
  clear r0 r1 r2 r3 t0 t1 t2 Y2 Y3 Y4 EC4 HH HW il hgl
  have EP : Hid _ := vmPop3 m w3 V M (s ++ [a]) b H3.out (by rw [hst]; simp) (by simp; omega)
  have HE : Hid (M.events.length ≤ 1000000000 ∧ s.length ≤ 1000000) := ⟨he, by omega⟩
  clear hst he
  go_wp2_with fail
  refine Calls.mono EP.out ?_
  rintro e4 w4 ⟨rfl, sv4, hw4, b4, h4⟩
  have EP2 : Hid _ := vmPop3 m w4 _ _ s a h4 rfl HE.out.2
  have B4 : Hid (Below m w w4) := B3.out.trans b4
  have k4 : w4.heap[ib]? = w3.heap[ib]? := by rw [hw4]; exact heap_setCell_other _ _ ib _ (by have := HMI.out; simpa using this)
  have q0 := (World.cell?_of_block (w := w3) (a := ⟨ib, 0, none⟩) k4).trans u0
  clear b4 h4 EP hw4 k4 u0 u1 u2
  go_wp2_with fail
  refine Calls.mono EP2.out ?_
  rintro e5 w5 ⟨rfl, sv5, hw5, b5, h5⟩
  have B5 : Hid (Below m w w5) := B4.out.trans b5
  have k5 : w5.heap[ib]? = w4.heap[ib]? := by rw [hw5]; exact heap_setCell_other _ _ ib _ (by have := HMI.out; simpa using this)
  have s0 := (World.cell?_of_block (w := w4) (a := ⟨ib, 0, none⟩) k5).trans q0
  have EJ : Hid _ := vmJoin m w5 _ _ 12 a b (by decide) (by decide) h5 HE.out.2 HE.out.1
  clear b5 h5 EP2 hw5 k5 q0
  go_wp2_with fail
  refine Calls.mono EJ.out ?_
  rintro e6 w6 ⟨rfl, Q6⟩
  have FIN : Hid (VmQ m w w6 (Vm.jn { M with stack := s } 12 a b)) := ⟨B5.out.trans Q6.1, Q6.2⟩
  clear Q6 EJ
  go_wp2_with fail
  first
    | (go_end0; exact ⟨rfl, FIN.out⟩)
    | (refine bodyPost_ret (v := .tuple #[]) (by simp [results, Tryd.results33, go_sem]) rfl ?_; exact ⟨rfl, FIN.out⟩)
set_option maxRecDepth 100000 in
set_option maxHeartbeats 8000000 in
theorem vmR13 (m : Nat) (w : World) (V : VmV) (M : Vm.Mc) (fs : List Vm.Fr) (f : Vm.Fr) (c : Cd.Co) (k : Nat) (x y : Int) (s : List Int) (a b : Int) (h : VmS m w V M) (hf : M.frames = fs ++ [f]) (hc : M.codes[f.proc]? = some c) (hk : c.cells = k) (hb : f.base + k ≤ M.cells.length) (hl : M.cells.length ≤ 100000000) (hfl : fs.length ≤ 1000000) (hst : M.stack = s ++ [a, b]) (hs : s.length ≤ 900000) (he : M.events.length ≤ 1000000000) :
    Calls Tryd.prog 33 #[.pointer (some ⟨m, 0, none⟩), inV ⟨13, x, y⟩] w fun e w' => e = .returned (.tuple #[]) ∧ VmQ m w w' (Vm.jn { M with stack := s } 13 a b) := by
  obtain ⟨W1, hW1⟩ : ∃ W1, W1 = w.alloc (inB ⟨13, x, y⟩) := ⟨_, rfl⟩
  obtain ⟨ib, hib⟩ : ∃ ib, ib = w.heap.size := ⟨_, rfl⟩
  obtain ⟨t0, t1, t2, bw⟩ := in_box w ⟨13, x, y⟩ ib W1 hib hW1
  dsimp only at t0 t1 t2
  have il : ib < W1.heap.size := by rw [hib, hW1]; simp
  have h1 := h.later bw
  have HW : Hid (Below w.heap.size w W1) := bw
  have hml := h.lt
  obtain ⟨g, cap, hv, _, hmg, hgl, p0, p1, p2, p3, pf⟩ := h1.top hf
  have c10 := h1.cell.2.2.2.2.2.2.1
  rw [hv] at c10
  have ET : Hid _ := vmTop m g fs.length cap W1 c10 hfl
  obtain ⟨n, hn⟩ : ∃ n, n = fs.length := ⟨_, rfl⟩
  rw [← hn] at ET p0 p1 p2 p3 hfl
  have HH : Hid (VmS m W1 V M) := h1
  have EC4 : Hid (∀ X, Below W1.heap.size W1 X → Calls Tryd.prog 43 #[.pointer (some ⟨m, 0, none⟩), .agg #[.int .i64 f.proc, .int .i64 f.place, .int .i64 f.mark, .int .i64 f.base]] X fun e w' => ∃ v, e = .returned v ∧ IsSl v ∧ Hid (0 < k → ∃ g cap, V.cv = .slice (some ⟨g, 0, none⟩) M.cells.length cap ∧ M.cells.length ≤ cap ∧ v = .slice (some ⟨g, f.base, none⟩) k (cap - f.base)) ∧ Hid (Below X.heap.size X w')) := fun X hX => (vmCellsA m X V M f c k (HH.out.later hX) hc hk hb hl).mono fun e w' ⟨v, a, b, d, e2⟩ => ⟨v, a, b, d, e2⟩
  have HMI : Hid (¬ ib = m) := by unfold Hid; omega
  clear h h1 hf hc hv hn c10 pf bw 
  go_enter Tryd.func33, Tryd.ntmps33
  go_upto_region 1 with fail
  rw [← hW1, ← hib]
  clear hW1 hib
  go_wp2_with fail
  refine Calls.mono ET.out ?_
  rintro e2 w2 ⟨rfl, q2, hq2⟩
  have y2 : Below W1.heap.size W1 w2 := by rw [hq2]; exact below_drewN (Below.refl _ _) q2
  have r0 := (y2.cell (p := ⟨g, n * 4, none⟩) hgl).trans p0
  have r1 := (y2.cell (p := ⟨g, n * 4 + 1, none⟩) hgl).trans p1
  have r2 := (y2.cell (p := ⟨g, n * 4 + 2, none⟩) hgl).trans p2
  have r3 := (y2.cell (p := ⟨g, n * 4 + 3, none⟩) hgl).trans p3
  have Y2 : Hid (Below W1.heap.size W1 w2) := y2
  clear hq2 y2 p0 p1 p2 p3 ET
  go_wp2_with fail
  refine Calls.mono (EC4.out _ Y2.out) ?_
  rintro e3 w3 ⟨v3, rfl, ⟨xa, xn, xc, rfl⟩, S3, Y3⟩
  have Y4 : Hid (Below W1.heap.size W1 w3) := Y2.out.trans (Y3.out.mono Y2.out.size)
  have H3 : Hid (VmS m w3 V M) := HH.out.later Y4.out
  have B3 : Hid (Below m w w3) := (HW.out.trans (Y4.out.mono HW.out.size)).mono (Nat.le_of_lt hml)
  have u0 := (Y4.out.cell (p := ⟨ib, 0, none⟩) il).trans t0
  have u1 := (Y4.out.cell (p := ⟨ib, 1, none⟩) il).trans t1
  have u2 := (Y4.out.cell (p := ⟨ib, 2, none⟩) il).trans t2
  have il3 : ib < w3.heap.size := Nat.lt_of_lt_of_le il Y4.out.size
  clear r0 r1 r2 r3 t0 t1 t2 Y2 Y3 Y4 EC4 HH HW il hgl
  have EP : Hid _ := vmPop3 m w3 V M (s ++ [a]) b H3.out (by rw [hst]; simp) (by simp; omega)
  have HE : Hid (M.events.length ≤ 1000000000 ∧ s.length ≤ 1000000) := ⟨he, by omega⟩
  clear hst he
  go_wp2_with fail
  refine Calls.mono EP.out ?_
  rintro e4 w4 ⟨rfl, sv4, hw4, b4, h4⟩
  have EP2 : Hid _ := vmPop3 m w4 _ _ s a h4 rfl HE.out.2
  have B4 : Hid (Below m w w4) := B3.out.trans b4
  have k4 : w4.heap[ib]? = w3.heap[ib]? := by rw [hw4]; exact heap_setCell_other _ _ ib _ (by have := HMI.out; simpa using this)
  have q0 := (World.cell?_of_block (w := w3) (a := ⟨ib, 0, none⟩) k4).trans u0
  clear b4 h4 EP hw4 k4 u0 u1 u2
  go_wp2_with fail
  refine Calls.mono EP2.out ?_
  rintro e5 w5 ⟨rfl, sv5, hw5, b5, h5⟩
  have B5 : Hid (Below m w w5) := B4.out.trans b5
  have k5 : w5.heap[ib]? = w4.heap[ib]? := by rw [hw5]; exact heap_setCell_other _ _ ib _ (by have := HMI.out; simpa using this)
  have s0 := (World.cell?_of_block (w := w4) (a := ⟨ib, 0, none⟩) k5).trans q0
  have EJ : Hid _ := vmJoin m w5 _ _ 13 a b (by decide) (by decide) h5 HE.out.2 HE.out.1
  clear b5 h5 EP2 hw5 k5 q0
  go_wp2_with fail
  refine Calls.mono EJ.out ?_
  rintro e6 w6 ⟨rfl, Q6⟩
  have FIN : Hid (VmQ m w w6 (Vm.jn { M with stack := s } 13 a b)) := ⟨B5.out.trans Q6.1, Q6.2⟩
  clear Q6 EJ
  go_wp2_with fail
  first
    | (go_end0; exact ⟨rfl, FIN.out⟩)
    | (refine bodyPost_ret (v := .tuple #[]) (by simp [results, Tryd.results33, go_sem]) rfl ?_; exact ⟨rfl, FIN.out⟩)
set_option maxRecDepth 100000 in
set_option maxHeartbeats 8000000 in
theorem vmR14 (m : Nat) (w : World) (V : VmV) (M : Vm.Mc) (fs : List Vm.Fr) (f : Vm.Fr) (c : Cd.Co) (k : Nat) (x y : Int) (s : List Int) (a b : Int) (h : VmS m w V M) (hf : M.frames = fs ++ [f]) (hc : M.codes[f.proc]? = some c) (hk : c.cells = k) (hb : f.base + k ≤ M.cells.length) (hl : M.cells.length ≤ 100000000) (hfl : fs.length ≤ 1000000) (hst : M.stack = s ++ [a, b]) (hs : s.length ≤ 900000) (he : M.events.length ≤ 1000000000) :
    Calls Tryd.prog 33 #[.pointer (some ⟨m, 0, none⟩), inV ⟨14, x, y⟩] w fun e w' => e = .returned (.tuple #[]) ∧ VmQ m w w' (Vm.jn { M with stack := s } 14 a b) := by
  obtain ⟨W1, hW1⟩ : ∃ W1, W1 = w.alloc (inB ⟨14, x, y⟩) := ⟨_, rfl⟩
  obtain ⟨ib, hib⟩ : ∃ ib, ib = w.heap.size := ⟨_, rfl⟩
  obtain ⟨t0, t1, t2, bw⟩ := in_box w ⟨14, x, y⟩ ib W1 hib hW1
  dsimp only at t0 t1 t2
  have il : ib < W1.heap.size := by rw [hib, hW1]; simp
  have h1 := h.later bw
  have HW : Hid (Below w.heap.size w W1) := bw
  have hml := h.lt
  obtain ⟨g, cap, hv, _, hmg, hgl, p0, p1, p2, p3, pf⟩ := h1.top hf
  have c10 := h1.cell.2.2.2.2.2.2.1
  rw [hv] at c10
  have ET : Hid _ := vmTop m g fs.length cap W1 c10 hfl
  obtain ⟨n, hn⟩ : ∃ n, n = fs.length := ⟨_, rfl⟩
  rw [← hn] at ET p0 p1 p2 p3 hfl
  have HH : Hid (VmS m W1 V M) := h1
  have EC4 : Hid (∀ X, Below W1.heap.size W1 X → Calls Tryd.prog 43 #[.pointer (some ⟨m, 0, none⟩), .agg #[.int .i64 f.proc, .int .i64 f.place, .int .i64 f.mark, .int .i64 f.base]] X fun e w' => ∃ v, e = .returned v ∧ IsSl v ∧ Hid (0 < k → ∃ g cap, V.cv = .slice (some ⟨g, 0, none⟩) M.cells.length cap ∧ M.cells.length ≤ cap ∧ v = .slice (some ⟨g, f.base, none⟩) k (cap - f.base)) ∧ Hid (Below X.heap.size X w')) := fun X hX => (vmCellsA m X V M f c k (HH.out.later hX) hc hk hb hl).mono fun e w' ⟨v, a, b, d, e2⟩ => ⟨v, a, b, d, e2⟩
  have HMI : Hid (¬ ib = m) := by unfold Hid; omega
  clear h h1 hf hc hv hn c10 pf bw 
  go_enter Tryd.func33, Tryd.ntmps33
  go_upto_region 1 with fail
  rw [← hW1, ← hib]
  clear hW1 hib
  go_wp2_with fail
  refine Calls.mono ET.out ?_
  rintro e2 w2 ⟨rfl, q2, hq2⟩
  have y2 : Below W1.heap.size W1 w2 := by rw [hq2]; exact below_drewN (Below.refl _ _) q2
  have r0 := (y2.cell (p := ⟨g, n * 4, none⟩) hgl).trans p0
  have r1 := (y2.cell (p := ⟨g, n * 4 + 1, none⟩) hgl).trans p1
  have r2 := (y2.cell (p := ⟨g, n * 4 + 2, none⟩) hgl).trans p2
  have r3 := (y2.cell (p := ⟨g, n * 4 + 3, none⟩) hgl).trans p3
  have Y2 : Hid (Below W1.heap.size W1 w2) := y2
  clear hq2 y2 p0 p1 p2 p3 ET
  go_wp2_with fail
  refine Calls.mono (EC4.out _ Y2.out) ?_
  rintro e3 w3 ⟨v3, rfl, ⟨xa, xn, xc, rfl⟩, S3, Y3⟩
  have Y4 : Hid (Below W1.heap.size W1 w3) := Y2.out.trans (Y3.out.mono Y2.out.size)
  have H3 : Hid (VmS m w3 V M) := HH.out.later Y4.out
  have B3 : Hid (Below m w w3) := (HW.out.trans (Y4.out.mono HW.out.size)).mono (Nat.le_of_lt hml)
  have u0 := (Y4.out.cell (p := ⟨ib, 0, none⟩) il).trans t0
  have u1 := (Y4.out.cell (p := ⟨ib, 1, none⟩) il).trans t1
  have u2 := (Y4.out.cell (p := ⟨ib, 2, none⟩) il).trans t2
  have il3 : ib < w3.heap.size := Nat.lt_of_lt_of_le il Y4.out.size
  clear r0 r1 r2 r3 t0 t1 t2 Y2 Y3 Y4 EC4 HH HW il hgl
  have EP : Hid _ := vmPop3 m w3 V M (s ++ [a]) b H3.out (by rw [hst]; simp) (by simp; omega)
  have HE : Hid (M.events.length ≤ 1000000000 ∧ s.length ≤ 1000000) := ⟨he, by omega⟩
  clear hst he
  go_wp2_with fail
  refine Calls.mono EP.out ?_
  rintro e4 w4 ⟨rfl, sv4, hw4, b4, h4⟩
  have EP2 : Hid _ := vmPop3 m w4 _ _ s a h4 rfl HE.out.2
  have B4 : Hid (Below m w w4) := B3.out.trans b4
  have k4 : w4.heap[ib]? = w3.heap[ib]? := by rw [hw4]; exact heap_setCell_other _ _ ib _ (by have := HMI.out; simpa using this)
  have q0 := (World.cell?_of_block (w := w3) (a := ⟨ib, 0, none⟩) k4).trans u0
  clear b4 h4 EP hw4 k4 u0 u1 u2
  go_wp2_with fail
  refine Calls.mono EP2.out ?_
  rintro e5 w5 ⟨rfl, sv5, hw5, b5, h5⟩
  have B5 : Hid (Below m w w5) := B4.out.trans b5
  have k5 : w5.heap[ib]? = w4.heap[ib]? := by rw [hw5]; exact heap_setCell_other _ _ ib _ (by have := HMI.out; simpa using this)
  have s0 := (World.cell?_of_block (w := w4) (a := ⟨ib, 0, none⟩) k5).trans q0
  have EJ : Hid _ := vmJoin m w5 _ _ 14 a b (by decide) (by decide) h5 HE.out.2 HE.out.1
  clear b5 h5 EP2 hw5 k5 q0
  go_wp2_with fail
  refine Calls.mono EJ.out ?_
  rintro e6 w6 ⟨rfl, Q6⟩
  have FIN : Hid (VmQ m w w6 (Vm.jn { M with stack := s } 14 a b)) := ⟨B5.out.trans Q6.1, Q6.2⟩
  clear Q6 EJ
  go_wp2_with fail
  first
    | (go_end0; exact ⟨rfl, FIN.out⟩)
    | (refine bodyPost_ret (v := .tuple #[]) (by simp [results, Tryd.results33, go_sem]) rfl ?_; exact ⟨rfl, FIN.out⟩)
set_option maxRecDepth 100000 in
set_option maxHeartbeats 8000000 in
theorem vmR2 (m : Nat) (w : World) (V : VmV) (M : Vm.Mc) (fs : List Vm.Fr) (f : Vm.Fr) (c : Cd.Co) (k : Nat) (j : Nat) (y : Int) (h : VmS m w V M) (hf : M.frames = fs ++ [f]) (hc : M.codes[f.proc]? = some c) (hk : c.cells = k) (hb : f.base + k ≤ M.cells.length) (hl : M.cells.length ≤ 100000000) (hfl : fs.length ≤ 1000000) (hs : M.stack.length ≤ 1000000) (hj : j < k) :
    Calls Tryd.prog 33 #[.pointer (some ⟨m, 0, none⟩), inV ⟨2, (j : Int), y⟩] w fun e w' => e = .returned (.tuple #[]) ∧ VmQ m w w' { M with stack := M.stack ++ [M.cells.getD (f.base + j) 0] } := by
  obtain ⟨W1, hW1⟩ : ∃ W1, W1 = w.alloc (inB ⟨2, (j : Int), y⟩) := ⟨_, rfl⟩
  obtain ⟨ib, hib⟩ : ∃ ib, ib = w.heap.size := ⟨_, rfl⟩
  obtain ⟨t0, t1, t2, bw⟩ := in_box w ⟨2, (j : Int), y⟩ ib W1 hib hW1
  dsimp only at t0 t1 t2
  have il : ib < W1.heap.size := by rw [hib, hW1]; simp
  have h1 := h.later bw
  have HW : Hid (Below w.heap.size w W1) := bw
  have hml := h.lt
  obtain ⟨g, cap, hv, _, hmg, hgl, p0, p1, p2, p3, pf⟩ := h1.top hf
  have c10 := h1.cell.2.2.2.2.2.2.1
  rw [hv] at c10
  have ET : Hid _ := vmTop m g fs.length cap W1 c10 hfl
  obtain ⟨n, hn⟩ : ∃ n, n = fs.length := ⟨_, rfl⟩
  rw [← hn] at ET p0 p1 p2 p3 hfl
  have HH : Hid (VmS m W1 V M) := h1
  have EC4 : Hid (∀ X, Below W1.heap.size W1 X → Calls Tryd.prog 43 #[.pointer (some ⟨m, 0, none⟩), .agg #[.int .i64 f.proc, .int .i64 f.place, .int .i64 f.mark, .int .i64 f.base]] X fun e w' => ∃ v, e = .returned v ∧ IsSl v ∧ Hid (0 < k → ∃ g cap, V.cv = .slice (some ⟨g, 0, none⟩) M.cells.length cap ∧ M.cells.length ≤ cap ∧ v = .slice (some ⟨g, f.base, none⟩) k (cap - f.base)) ∧ Hid (Below X.heap.size X w')) := fun X hX => (vmCellsA m X V M f c k (HH.out.later hX) hc hk hb hl).mono fun e w' ⟨v, a, b, d, e2⟩ => ⟨v, a, b, d, e2⟩
  clear h h1 hf hc hv hn c10 pf bw 
  go_enter Tryd.func33, Tryd.ntmps33
  go_upto_region 1 with fail
  rw [← hW1, ← hib]
  clear hW1 hib
  go_wp2_with fail
  refine Calls.mono ET.out ?_
  rintro e2 w2 ⟨rfl, q2, hq2⟩
  have y2 : Below W1.heap.size W1 w2 := by rw [hq2]; exact below_drewN (Below.refl _ _) q2
  have r0 := (y2.cell (p := ⟨g, n * 4, none⟩) hgl).trans p0
  have r1 := (y2.cell (p := ⟨g, n * 4 + 1, none⟩) hgl).trans p1
  have r2 := (y2.cell (p := ⟨g, n * 4 + 2, none⟩) hgl).trans p2
  have r3 := (y2.cell (p := ⟨g, n * 4 + 3, none⟩) hgl).trans p3
  have Y2 : Hid (Below W1.heap.size W1 w2) := y2
  clear hq2 y2 p0 p1 p2 p3 ET
  go_wp2_with fail
  refine Calls.mono (EC4.out _ Y2.out) ?_
  rintro e3 w3 ⟨v3, rfl, ⟨xa, xn, xc, rfl⟩, S3, Y3⟩
  have Y4 : Hid (Below W1.heap.size W1 w3) := Y2.out.trans (Y3.out.mono Y2.out.size)
  have H3 : Hid (VmS m w3 V M) := HH.out.later Y4.out
  have B3 : Hid (Below m w w3) := (HW.out.trans (Y4.out.mono HW.out.size)).mono (Nat.le_of_lt hml)
  have u0 := (Y4.out.cell (p := ⟨ib, 0, none⟩) il).trans t0
  have u1 := (Y4.out.cell (p := ⟨ib, 1, none⟩) il).trans t1
  have u2 := (Y4.out.cell (p := ⟨ib, 2, none⟩) il).trans t2
  have il3 : ib < w3.heap.size := Nat.lt_of_lt_of_le il Y4.out.size
  clear r0 r1 r2 r3 t0 t1 t2 Y2 Y3 Y4 EC4 HH HW il hgl
  obtain ⟨gc, gcap, hcv, hcap, hsl⟩ := S3.out (by omega)
  cases hsl
  obtain ⟨g', cap', hv', _, _, hgl, hcells, _⟩ := H3.out.cells (by omega)
  rw [hcv] at hv'
  cases hv'
  have cx := hcells (f.base + j) (M.cells.getD (f.base + j) 0) (by rw [List.getD_eq_getElem?_getD, List.getElem?_eq_getElem (by omega)]; rfl)
  obtain ⟨x, hx⟩ : ∃ x, x = M.cells.getD (f.base + j) 0 := ⟨_, rfl⟩
  rw [← hx] at cx
  have HX : Hid (x = M.cells.getD (f.base + j) 0) := hx
  have EP : Hid _ := vmPush m w3 V M x H3.out hs
  have hji : (j : Int) < (k : Int) := by omega
  have hj0 : (0 : Int) ≤ (j : Int) := by omega
  have hkb : k ≤ 100000000 := by omega
  clear hx hcells hcv S3
  go_wp2_with fail
  refine Calls.mono EP.out ?_
  rintro e4 w4 ⟨rfl, Q4⟩
  have FIN : Hid (VmQ m w w4 { M with stack := M.stack ++ [M.cells.getD (f.base + j) 0] }) := by rw [← HX.out]; exact ⟨B3.out.trans Q4.1, Q4.2⟩
  clear Q4 EP
  go_wp2_with fail
  first
    | (go_end0; exact ⟨rfl, FIN.out⟩)
    | (refine bodyPost_ret (v := .tuple #[]) (by simp [results, Tryd.results33, go_sem]) rfl ?_; exact ⟨rfl, FIN.out⟩)
set_option maxRecDepth 100000 in
set_option maxHeartbeats 8000000 in
theorem vmR4 (m : Nat) (w : World) (V : VmV) (M : Vm.Mc) (fs : List Vm.Fr) (f : Vm.Fr) (c : Cd.Co) (k : Nat) (j z : Nat) (s : List Int) (a : Int) (h : VmS m w V M) (hf : M.frames = fs ++ [f]) (hc : M.codes[f.proc]? = some c) (hk : c.cells = k) (hb : f.base + k ≤ M.cells.length) (hl : M.cells.length ≤ 100000000) (hfl : fs.length ≤ 1000000) (hst : M.stack = s ++ [a]) (hs : s.length ≤ 900000) (he : M.events.length ≤ 1000000000) (hz : 1 ≤ z) (hj : j + z ≤ k) :
    Calls Tryd.prog 33 #[.pointer (some ⟨m, 0, none⟩), inV ⟨4, (j : Int), (z : Int)⟩] w fun e w' => e = .returned (.tuple #[]) ∧ VmQ m w w' (Vm.ix M s a (f.base + j) z) := by
  obtain ⟨W1, hW1⟩ : ∃ W1, W1 = w.alloc (inB ⟨4, (j : Int), (z : Int)⟩) := ⟨_, rfl⟩
  obtain ⟨ib, hib⟩ : ∃ ib, ib = w.heap.size := ⟨_, rfl⟩
  obtain ⟨t0, t1, t2, bw⟩ := in_box w ⟨4, (j : Int), (z : Int)⟩ ib W1 hib hW1
  dsimp only at t0 t1 t2
  have il : ib < W1.heap.size := by rw [hib, hW1]; simp
  have h1 := h.later bw
  have HW : Hid (Below w.heap.size w W1) := bw
  have hml := h.lt
  obtain ⟨g, cap, hv, _, hmg, hgl, p0, p1, p2, p3, pf⟩ := h1.top hf
  have c10 := h1.cell.2.2.2.2.2.2.1
  rw [hv] at c10
  have ET : Hid _ := vmTop m g fs.length cap W1 c10 hfl
  obtain ⟨n, hn⟩ : ∃ n, n = fs.length := ⟨_, rfl⟩
  rw [← hn] at ET p0 p1 p2 p3 hfl
  have HH : Hid (VmS m W1 V M) := h1
  have EC4 : Hid (∀ X, Below W1.heap.size W1 X → Calls Tryd.prog 43 #[.pointer (some ⟨m, 0, none⟩), .agg #[.int .i64 f.proc, .int .i64 f.place, .int .i64 f.mark, .int .i64 f.base]] X fun e w' => ∃ v, e = .returned v ∧ IsSl v ∧ Hid (0 < k → ∃ g cap, V.cv = .slice (some ⟨g, 0, none⟩) M.cells.length cap ∧ M.cells.length ≤ cap ∧ v = .slice (some ⟨g, f.base, none⟩) k (cap - f.base)) ∧ Hid (Below X.heap.size X w')) := fun X hX => (vmCellsA m X V M f c k (HH.out.later hX) hc hk hb hl).mono fun e w' ⟨v, a, b, d, e2⟩ => ⟨v, a, b, d, e2⟩
  clear h h1 hf hc hv hn c10 pf bw 
  go_enter Tryd.func33, Tryd.ntmps33
  go_upto_region 1 with fail
  rw [← hW1, ← hib]
  clear hW1 hib
  go_wp2_with fail
  refine Calls.mono ET.out ?_
  rintro e2 w2 ⟨rfl, q2, hq2⟩
  have y2 : Below W1.heap.size W1 w2 := by rw [hq2]; exact below_drewN (Below.refl _ _) q2
  have r0 := (y2.cell (p := ⟨g, n * 4, none⟩) hgl).trans p0
  have r1 := (y2.cell (p := ⟨g, n * 4 + 1, none⟩) hgl).trans p1
  have r2 := (y2.cell (p := ⟨g, n * 4 + 2, none⟩) hgl).trans p2
  have r3 := (y2.cell (p := ⟨g, n * 4 + 3, none⟩) hgl).trans p3
  have Y2 : Hid (Below W1.heap.size W1 w2) := y2
  clear hq2 y2 p0 p1 p2 p3 ET
  go_wp2_with fail
  refine Calls.mono (EC4.out _ Y2.out) ?_
  rintro e3 w3 ⟨v3, rfl, ⟨xa, xn, xc, rfl⟩, S3, Y3⟩
  have Y4 : Hid (Below W1.heap.size W1 w3) := Y2.out.trans (Y3.out.mono Y2.out.size)
  have H3 : Hid (VmS m w3 V M) := HH.out.later Y4.out
  have B3 : Hid (Below m w w3) := (HW.out.trans (Y4.out.mono HW.out.size)).mono (Nat.le_of_lt hml)
  have u0 := (Y4.out.cell (p := ⟨ib, 0, none⟩) il).trans t0
  have u1 := (Y4.out.cell (p := ⟨ib, 1, none⟩) il).trans t1
  have u2 := (Y4.out.cell (p := ⟨ib, 2, none⟩) il).trans t2
  have il3 : ib < w3.heap.size := Nat.lt_of_lt_of_le il Y4.out.size
  clear r0 r1 r2 r3 t0 t1 t2 Y2 Y3 Y4 EC4 HH HW il hgl
  obtain ⟨gc, gcap, hcv, hcap, hsl⟩ := S3.out (by omega)
  cases hsl
  have EX : Hid (∀ cc, _) := fun cc => vmIndex m w3 V M s a gc gcap (f.base + j) z cc H3.out hst (by omega) he hcv (by omega) (by omega) hl
  have hj0 : (0 : Int) ≤ (j : Int) := by omega
  have hz0 : (0 : Int) ≤ (z : Int) := by omega
  have hjz : (j : Int) ≤ (j : Int) + (z : Int) := by omega
  have hkb : k ≤ 100000000 := by omega
  have hcd : (j : Int) + (z : Int) ≤ ((gcap - f.base : Nat) : Int) := by omega
  obtain ⟨cd, hcdd⟩ : ∃ cd, cd = gcap - f.base := ⟨_, rfl⟩
  rw [← hcdd] at hcd ⊢
  have hn1 : ¬ cd - j = 0 := by omega
  have hn3 : ¬ (cd : Int) - (j : Int) = 0 := by omega
  have hn4 : ¬ cd = j := by omega
  have hn5 : ¬ cd ≤ j := by omega
  have hn7 : (j : Int) < (cd : Int) := by omega
  have hjb : (j : Int) + (z : Int) ≤ 100000000 := by omega
  have ezj : ((j : Int) + (z : Int) - (j : Int)) = z := by omega
  clear hcv S3 hst hcap hcdd
  go_wp2_with fail
  refine Calls.mono (EX.out _) ?_
  rintro e4 w4 ⟨rfl, Q4⟩
  have FIN : Hid (VmQ m w w4 (Vm.ix M s a (f.base + j) z)) := ⟨B3.out.trans Q4.1, Q4.2⟩
  clear Q4 EX
  go_wp2_with fail
  first
    | (go_end0; exact ⟨rfl, FIN.out⟩)
    | (refine bodyPost_ret (v := .tuple #[]) (by simp [results, Tryd.results33, go_sem]) rfl ?_; exact ⟨rfl, FIN.out⟩)
set_option maxRecDepth 100000 in
set_option maxHeartbeats 8000000 in
theorem vmR5 (m : Nat) (w : World) (V : VmV) (M : Vm.Mc) (fs : List Vm.Fr) (f : Vm.Fr) (c : Cd.Co) (k : Nat) (j z : Nat) (s : List Int) (a x : Int) (h : VmS m w V M) (hf : M.frames = fs ++ [f]) (hc : M.codes[f.proc]? = some c) (hk : c.cells = k) (hb : f.base + k ≤ M.cells.length) (hl : M.cells.length ≤ 100000000) (hfl : fs.length ≤ 1000000) (hst : M.stack = s ++ [a, x]) (hs : s.length ≤ 900000) (he : M.events.length ≤ 1000000000) (hz : 1 ≤ z) (hj : j + z ≤ k) :
    Calls Tryd.prog 33 #[.pointer (some ⟨m, 0, none⟩), inV ⟨5, (j : Int), (z : Int)⟩] w fun e w' => e = .returned (.tuple #[]) ∧ VmQ m w w' (Vm.pt M s a x (f.base + j) z) := by
  obtain ⟨W1, hW1⟩ : ∃ W1, W1 = w.alloc (inB ⟨5, (j : Int), (z : Int)⟩) := ⟨_, rfl⟩
  obtain ⟨ib, hib⟩ : ∃ ib, ib = w.heap.size := ⟨_, rfl⟩
  obtain ⟨t0, t1, t2, bw⟩ := in_box w ⟨5, (j : Int), (z : Int)⟩ ib W1 hib hW1
  dsimp only at t0 t1 t2
  have il : ib < W1.heap.size := by rw [hib, hW1]; simp
  have h1 := h.later bw
  have HW : Hid (Below w.heap.size w W1) := bw
  have hml := h.lt
  obtain ⟨g, cap, hv, _, hmg, hgl, p0, p1, p2, p3, pf⟩ := h1.top hf
  have c10 := h1.cell.2.2.2.2.2.2.1
  rw [hv] at c10
  have ET : Hid _ := vmTop m g fs.length cap W1 c10 hfl
  obtain ⟨n, hn⟩ : ∃ n, n = fs.length := ⟨_, rfl⟩
  rw [← hn] at ET p0 p1 p2 p3 hfl
  have HH : Hid (VmS m W1 V M) := h1
  have EC4 : Hid (∀ X, Below W1.heap.size W1 X → Calls Tryd.prog 43 #[.pointer (some ⟨m, 0, none⟩), .agg #[.int .i64 f.proc, .int .i64 f.place, .int .i64 f.mark, .int .i64 f.base]] X fun e w' => ∃ v, e = .returned v ∧ IsSl v ∧ Hid (0 < k → ∃ g cap, V.cv = .slice (some ⟨g, 0, none⟩) M.cells.length cap ∧ M.cells.length ≤ cap ∧ v = .slice (some ⟨g, f.base, none⟩) k (cap - f.base)) ∧ Hid (Below X.heap.size X w')) := fun X hX => (vmCellsA m X V M f c k (HH.out.later hX) hc hk hb hl).mono fun e w' ⟨v, a, b, d, e2⟩ => ⟨v, a, b, d, e2⟩
  clear h h1 hf hc hv hn c10 pf bw 
  go_enter Tryd.func33, Tryd.ntmps33
  go_upto_region 1 with fail
  rw [← hW1, ← hib]
  clear hW1 hib
  go_wp2_with fail
  refine Calls.mono ET.out ?_
  rintro e2 w2 ⟨rfl, q2, hq2⟩
  have y2 : Below W1.heap.size W1 w2 := by rw [hq2]; exact below_drewN (Below.refl _ _) q2
  have r0 := (y2.cell (p := ⟨g, n * 4, none⟩) hgl).trans p0
  have r1 := (y2.cell (p := ⟨g, n * 4 + 1, none⟩) hgl).trans p1
  have r2 := (y2.cell (p := ⟨g, n * 4 + 2, none⟩) hgl).trans p2
  have r3 := (y2.cell (p := ⟨g, n * 4 + 3, none⟩) hgl).trans p3
  have Y2 : Hid (Below W1.heap.size W1 w2) := y2
  clear hq2 y2 p0 p1 p2 p3 ET
  go_wp2_with fail
  refine Calls.mono (EC4.out _ Y2.out) ?_
  rintro e3 w3 ⟨v3, rfl, ⟨xa, xn, xc, rfl⟩, S3, Y3⟩
  have Y4 : Hid (Below W1.heap.size W1 w3) := Y2.out.trans (Y3.out.mono Y2.out.size)
  have H3 : Hid (VmS m w3 V M) := HH.out.later Y4.out
  have B3 : Hid (Below m w w3) := (HW.out.trans (Y4.out.mono HW.out.size)).mono (Nat.le_of_lt hml)
  have u0 := (Y4.out.cell (p := ⟨ib, 0, none⟩) il).trans t0
  have u1 := (Y4.out.cell (p := ⟨ib, 1, none⟩) il).trans t1
  have u2 := (Y4.out.cell (p := ⟨ib, 2, none⟩) il).trans t2
  have il3 : ib < w3.heap.size := Nat.lt_of_lt_of_le il Y4.out.size
  clear r0 r1 r2 r3 t0 t1 t2 Y2 Y3 Y4 EC4 HH HW il hgl
  obtain ⟨gc, gcap, hcv, hcap, hsl⟩ := S3.out (by omega)
  cases hsl
  have EX : Hid (∀ cc, _) := fun cc => vmPut m w3 V M s a x gc gcap (f.base + j) z cc H3.out hst (by omega) he hcv (by omega) (by omega) hl
  have hj0 : (0 : Int) ≤ (j : Int) := by omega
  have hz0 : (0 : Int) ≤ (z : Int) := by omega
  have hjz : (j : Int) ≤ (j : Int) + (z : Int) := by omega
  have hkb : k ≤ 100000000 := by omega
  have hcd : (j : Int) + (z : Int) ≤ ((gcap - f.base : Nat) : Int) := by omega
  obtain ⟨cd, hcdd⟩ : ∃ cd, cd = gcap - f.base := ⟨_, rfl⟩
  rw [← hcdd] at hcd ⊢
  have hn1 : ¬ cd - j = 0 := by omega
  have hn3 : ¬ (cd : Int) - (j : Int) = 0 := by omega
  have hn4 : ¬ cd = j := by omega
  have hn5 : ¬ cd ≤ j := by omega
  have hn7 : (j : Int) < (cd : Int) := by omega
  have hjb : (j : Int) + (z : Int) ≤ 100000000 := by omega
  have ezj : ((j : Int) + (z : Int) - (j : Int)) = z := by omega
  clear hcv S3 hst hcap hcdd
  go_wp2_with fail
  refine Calls.mono (EX.out _) ?_
  rintro e4 w4 ⟨rfl, Q4⟩
  have FIN : Hid (VmQ m w w4 (Vm.pt M s a x (f.base + j) z)) := ⟨B3.out.trans Q4.1, Q4.2⟩
  clear Q4 EX
  go_wp2_with fail
  first
    | (go_end0; exact ⟨rfl, FIN.out⟩)
    | (refine bodyPost_ret (v := .tuple #[]) (by simp [results, Tryd.results33, go_sem]) rfl ?_; exact ⟨rfl, FIN.out⟩)
set_option maxRecDepth 100000 in
set_option maxHeartbeats 8000000 in
theorem vmR3 (m : Nat) (w : World) (V : VmV) (M : Vm.Mc) (fs : List Vm.Fr) (f : Vm.Fr) (c : Cd.Co) (k : Nat) (j : Nat) (y : Int) (s : List Int) (a : Int) (h : VmS m w V M) (hf : M.frames = fs ++ [f]) (hc : M.codes[f.proc]? = some c) (hk : c.cells = k) (hb : f.base + k ≤ M.cells.length) (hl : M.cells.length ≤ 100000000) (hfl : fs.length ≤ 1000000) (hst : M.stack = s ++ [a]) (hs : s.length ≤ 1000000) (hj : j < k) :
    Calls Tryd.prog 33 #[.pointer (some ⟨m, 0, none⟩), inV ⟨3, (j : Int), y⟩] w fun e w' => e = .returned (.tuple #[]) ∧ VmQ m w w' { M with stack := s, cells := M.cells.set (f.base + j) a } := by
  obtain ⟨W1, hW1⟩ : ∃ W1, W1 = w.alloc (inB ⟨3, (j : Int), y⟩) := ⟨_, rfl⟩
  obtain ⟨ib, hib⟩ : ∃ ib, ib = w.heap.size := ⟨_, rfl⟩
  obtain ⟨t0, t1, t2, bw⟩ := in_box w ⟨3, (j : Int), y⟩ ib W1 hib hW1
  dsimp only at t0 t1 t2
  have il : ib < W1.heap.size := by rw [hib, hW1]; simp
  have h1 := h.later bw
  have HW : Hid (Below w.heap.size w W1) := bw
  have hml := h.lt
  obtain ⟨g, cap, hv, _, hmg, hgl, p0, p1, p2, p3, pf⟩ := h1.top hf
  have c10 := h1.cell.2.2.2.2.2.2.1
  rw [hv] at c10
  have ET : Hid _ := vmTop m g fs.length cap W1 c10 hfl
  obtain ⟨n, hn⟩ : ∃ n, n = fs.length := ⟨_, rfl⟩
  rw [← hn] at ET p0 p1 p2 p3 hfl
  have HH : Hid (VmS m W1 V M) := h1
  have EC4 : Hid (∀ X, Below W1.heap.size W1 X → Calls Tryd.prog 43 #[.pointer (some ⟨m, 0, none⟩), .agg #[.int .i64 f.proc, .int .i64 f.place, .int .i64 f.mark, .int .i64 f.base]] X fun e w' => ∃ v, e = .returned v ∧ IsSl v ∧ Hid (0 < k → ∃ g cap, V.cv = .slice (some ⟨g, 0, none⟩) M.cells.length cap ∧ M.cells.length ≤ cap ∧ v = .slice (some ⟨g, f.base, none⟩) k (cap - f.base)) ∧ Hid (Below X.heap.size X w')) := fun X hX => (vmCellsA m X V M f c k (HH.out.later hX) hc hk hb hl).mono fun e w' ⟨v, a, b, d, e2⟩ => ⟨v, a, b, d, e2⟩
  have HMI : Hid (¬ ib = m) := by unfold Hid; omega
  clear h h1 hf hc hv hn c10 pf bw 
  go_enter Tryd.func33, Tryd.ntmps33
  go_upto_region 1 with fail
  rw [← hW1, ← hib]
  clear hW1 hib
  go_wp2_with fail
  refine Calls.mono ET.out ?_
  rintro e2 w2 ⟨rfl, q2, hq2⟩
  have y2 : Below W1.heap.size W1 w2 := by rw [hq2]; exact below_drewN (Below.refl _ _) q2
  have r0 := (y2.cell (p := ⟨g, n * 4, none⟩) hgl).trans p0
  have r1 := (y2.cell (p := ⟨g, n * 4 + 1, none⟩) hgl).trans p1
  have r2 := (y2.cell (p := ⟨g, n * 4 + 2, none⟩) hgl).trans p2
  have r3 := (y2.cell (p := ⟨g, n * 4 + 3, none⟩) hgl).trans p3
  have Y2 : Hid (Below W1.heap.size W1 w2) := y2
  clear hq2 y2 p0 p1 p2 p3 ET
  go_wp2_with fail
  refine Calls.mono (EC4.out _ Y2.out) ?_
  rintro e3 w3 ⟨v3, rfl, ⟨xa, xn, xc, rfl⟩, S3, Y3⟩
  have Y4 : Hid (Below W1.heap.size W1 w3) := Y2.out.trans (Y3.out.mono Y2.out.size)
  have H3 : Hid (VmS m w3 V M) := HH.out.later Y4.out
  have B3 : Hid (Below m w w3) := (HW.out.trans (Y4.out.mono HW.out.size)).mono (Nat.le_of_lt hml)
  have u0 := (Y4.out.cell (p := ⟨ib, 0, none⟩) il).trans t0
  have u1 := (Y4.out.cell (p := ⟨ib, 1, none⟩) il).trans t1
  have u2 := (Y4.out.cell (p := ⟨ib, 2, none⟩) il).trans t2
  have il3 : ib < w3.heap.size := Nat.lt_of_lt_of_le il Y4.out.size
  clear r0 r1 r2 r3 t0 t1 t2 Y2 Y3 Y4 EC4 HH HW il hgl
  obtain ⟨gc, gcap, hcv, hcap, hsl⟩ := S3.out (by omega)
  cases hsl
  obtain ⟨g', cap', hv', _, hmgc, hgl, hcells, hfz⟩ := H3.out.cells (by omega)
  rw [hcv] at hv'
  cases hv'
  obtain ⟨x, hx⟩ : ∃ x, x = M.cells.getD (f.base + j) 0 := ⟨_, rfl⟩
  have hlt : f.base + j < M.cells.length := by omega
  have EP : Hid (∀ X, Below w3.heap.size w3 X → Calls Tryd.prog 27 #[.pointer (some ⟨m, 0, none⟩)] X fun e w' => e = .returned (.int .i64 a) ∧ Hid (w'.cell? ⟨ib, 1, none⟩ = some (.int .i64 (j : Int))) ∧ Hid (w'.cell? ⟨gc, f.base + j, none⟩ = some (.int .i64 x)) ∧ Hid (w'.frozen? ⟨gc, f.base + j, none⟩ = false) ∧ Hid (VmQ m w (w'.setCell ⟨gc, f.base + j, none⟩ (.int .i64 a)) { M with stack := s, cells := M.cells.set (f.base + j) a })) := fun X hX => by
    have hx3 := H3.out.later hX
    refine (vmPop3 m X V M s a hx3 hst hs).mono fun e w' ⟨h1, sv', h2, h3, h4⟩ => ⟨h1, ?_, ?_, ?_, ?_⟩
    · have k1 : w'.heap[ib]? = X.heap[ib]? := by rw [h2]; exact heap_setCell_other _ _ ib _ (by have := HMI.out; simpa using this)
      exact (World.cell?_of_block (w := X) (a := ⟨ib, 1, none⟩) k1).trans ((hX.cell (p := ⟨ib, 1, none⟩) il3).trans u1)
    · have q := h4.cells (by show 0 < M.cells.length; omega)
      obtain ⟨g2, cap2, hv2, _, _, _, hc2, _⟩ := q
      have hv3 : V.cv = .slice (some ⟨g2, 0, none⟩) M.cells.length cap2 := hv2
      rw [hcv] at hv3
      cases hv3
      rw [hx]
      exact hc2 (f.base + j) _ (by show M.cells[f.base + j]? = _; rw [List.getD_eq_getElem?_getD, List.getElem?_eq_getElem hlt]; rfl)
    · have q := h4.cells (by show 0 < M.cells.length; omega)
      obtain ⟨g2, cap2, hv2, _, _, _, _, hf2⟩ := q
      have hv3 : V.cv = .slice (some ⟨g2, 0, none⟩) M.cells.length cap2 := hv2
      rw [hcv] at hv3
      cases hv3
      exact hf2 _
    · have Q := h4.setCe (g := gc) (cap := gcap) (i := f.base + j) hcv hmgc hlt a
      exact ⟨((B3.out.trans (hX.mono (Nat.le_of_lt H3.out.lt))).trans h3).trans Q.1, _, Q.2⟩
  have hji : (j : Int) < (k : Int) := by omega
  have hj0 : (0 : Int) ≤ (j : Int) := by omega
  have hkb : k ≤ 100000000 := by omega
  clear hx hcells hcv S3 hst hfz H3
  go_wp2_with fail
  go_region_with (first
    | (go_at_call 27; refine Calls.mono (EP.out _ (by go_grown)) ?_; rintro e5 w5 ⟨rfl, A1, A2, A3, A4⟩; have z1 := A1.out; have z2 := A2.out; have z3 := A3.out; clear A1 A2 A3))
  all_goals
    go_wp2_with fail
    go_end0
    exact ⟨rfl, A4.out.later ⟨rfl, rfl, rfl, Nat.le_refl _, fun _ _ => rfl⟩⟩
end Go.Proofs.YtkjkiknpgggadaaDoor

