/- Layer 9: reckon, operation by operation. -/
import Derived.Test.YtkjkiknpgggadaaDoorSVmL
namespace Go.Proofs.YtkjkiknpgggadaaDoor
open Go.RowKit
set_option linter.unusedVariables false
set_option linter.unusedSimpArgs false

theorem VmS.cv_shp {m : Nat} {w : World} {V : VmV} {M : Vm.Mc} (h : VmS m w V M) : (V.cv = .slice none 0 0 ∧ M.cells.length = 0) ∨ ∃ g cap, V.cv = .slice (some ⟨g, 0, none⟩) M.cells.length cap ∧ M.cells.length ≤ cap := by
  have ho : w.ownsRow (m + 1) 2 1 V.cv M.cells.length (nC M.cells) := h.rows.od
  rcases ho.2 with ⟨e, e0⟩ | ⟨g, cap, cur, e, _, _, hcap, _⟩
  · exact .inl ⟨e, e0⟩
  · exact .inr ⟨g, cap, e, hcap⟩
def IsSl (v : Value) : Prop := ∃ a n c, v = .slice a n c
set_option maxRecDepth 100000 in
set_option maxHeartbeats 8000000 in
theorem vmCellsN (m : Nat) (w : World) (V : VmV) (M : Vm.Mc) (f : Vm.Fr) (c : Cd.Co)  (h : VmS m w V M) (hc : M.codes[f.proc]? = some c) (hk : c.cells = 0) (hv : V.cv = .slice none 0 0) (hb : f.base ≤ M.cells.length) (hl : M.cells.length ≤ 100000000) :
    Calls Tryd.prog 43 #[.pointer (some ⟨m, 0, none⟩), frV f] w fun e w' => ∃ v, e = .returned v ∧ IsSl v ∧ Below w.heap.size w w' := by
  obtain ⟨W1, hW1⟩ : ∃ W1, W1 = w.alloc (frB f) := ⟨_, rfl⟩
  obtain ⟨fb, hfb⟩ : ∃ fb, fb = w.heap.size := ⟨_, rfl⟩
  have b1 : Below w.heap.size w W1 := by rw [hW1]; exact (Below.refl _ _).alloc (Nat.le_refl _) _
  have h1 := h.later b1
  have p0 : W1.cell? ⟨fb, 0, none⟩ = some (.int .i64 f.proc) := by rw [hW1, hfb]; simp [go_sem]
  have p3 : W1.cell? ⟨fb, 3, none⟩ = some (.int .i64 f.base) := by rw [hW1, hfb]; simp [go_sem]
  have c0 := h1.cell.1
  have c11 := h1.cell.2.2.2.2.2.2.2.1
  rw [hv] at c11
  obtain ⟨gc, oc, ia, ic, hca, hgc, ca⟩ := h1.co.at hc
  have cc := ca.c1
  rw [hk] at cc
  rw [hca] at c0
  have hpl : f.proc < M.codes.length := (List.getElem?_eq_some_iff.1 hc).1
  have BW : Hid (Below w.heap.size w W1) := b1
  obtain ⟨n, hn⟩ : ∃ n, n = M.cells.length := ⟨_, rfl⟩
  obtain ⟨NC, hNC⟩ : ∃ NC, NC = M.codes.length := ⟨_, rfl⟩
  rw [← hNC] at c0 hpl
  have hpi : (f.proc : Int) < (NC : Int) := by omega
  have hp0 : (0 : Int) ≤ (f.proc : Int) := by omega
  have q0 : f.base = 0 := by
    have ho : w.ownsRow (m + 1) 2 1 V.cv M.cells.length (nC M.cells) := h.rows.od
    rw [hv] at ho
    rcases ho.2 with ⟨e, e0⟩ | ⟨_, _, _, e, _⟩
    · omega
    · cases e
  have q1 : (f.base : Int) = 0 := by omega
  unfold frB at hW1
  rw [q1] at p3 hW1
  show Calls _ _ #[_, .agg #[.int .i64 f.proc, .int .i64 f.place, .int .i64 f.mark, .int .i64 f.base]] _ _
  rw [q1]
  clear h h1 hc hk hv hca ca hn hNC b1 q0 q1 hb
  go_enter Tryd.func43, Tryd.ntmps43
  go_upto_region 1 with fail
  rw [← hW1, ← hfb]
  clear hW1 hfb
  go_wp2_with fail
  go_quiet (fail)
  have BQ := below_drewN BW.out nq
  clear c0 c11 cc p0 p3 BW
  generalize W1.drewN nq = W5 at BQ ⊢
  go_wp2_with fail
  go_ret
  exact ⟨_, rfl, ⟨_, _, _, rfl⟩, BQ⟩
set_option maxRecDepth 100000 in
set_option maxHeartbeats 8000000 in
theorem vmCellsE (m : Nat) (w : World) (V : VmV) (M : Vm.Mc) (f : Vm.Fr) (c : Cd.Co) (g : Nat) (h : VmS m w V M) (hc : M.codes[f.proc]? = some c) (hk : c.cells = 0) (hv : V.cv = .slice (some ⟨g, 0, none⟩) M.cells.length f.base) (hb : f.base ≤ M.cells.length) (hl : M.cells.length ≤ 100000000) :
    Calls Tryd.prog 43 #[.pointer (some ⟨m, 0, none⟩), frV f] w fun e w' => ∃ v, e = .returned v ∧ IsSl v ∧ Below w.heap.size w w' := by
  obtain ⟨W1, hW1⟩ : ∃ W1, W1 = w.alloc (frB f) := ⟨_, rfl⟩
  obtain ⟨fb, hfb⟩ : ∃ fb, fb = w.heap.size := ⟨_, rfl⟩
  have b1 : Below w.heap.size w W1 := by rw [hW1]; exact (Below.refl _ _).alloc (Nat.le_refl _) _
  have h1 := h.later b1
  have p0 : W1.cell? ⟨fb, 0, none⟩ = some (.int .i64 f.proc) := by rw [hW1, hfb]; simp [go_sem]
  have p3 : W1.cell? ⟨fb, 3, none⟩ = some (.int .i64 f.base) := by rw [hW1, hfb]; simp [go_sem]
  have c0 := h1.cell.1
  have c11 := h1.cell.2.2.2.2.2.2.2.1
  rw [hv] at c11
  obtain ⟨gc, oc, ia, ic, hca, hgc, ca⟩ := h1.co.at hc
  have cc := ca.c1
  rw [hk] at cc
  rw [hca] at c0
  have hpl : f.proc < M.codes.length := (List.getElem?_eq_some_iff.1 hc).1
  have BW : Hid (Below w.heap.size w W1) := b1
  obtain ⟨n, hn⟩ : ∃ n, n = M.cells.length := ⟨_, rfl⟩
  obtain ⟨NC, hNC⟩ : ∃ NC, NC = M.codes.length := ⟨_, rfl⟩
  rw [← hNC] at c0 hpl
  have hpi : (f.proc : Int) < (NC : Int) := by omega
  have hp0 : (0 : Int) ≤ (f.proc : Int) := by omega
  rw [← hn] at c11 hb hl
  obtain ⟨q, hq⟩ : ∃ q, q = f.base := ⟨_, rfl⟩
  unfold frB at hW1
  rw [← hq] at p3 hW1 c11 hb
  show Calls _ _ #[_, .agg #[.int .i64 f.proc, .int .i64 f.place, .int .i64 f.mark, .int .i64 f.base]] _ _
  rw [← hq]
  have hq0 : (0 : Int) ≤ (q : Int) := by omega
  have hqb : (q : Int) ≤ 100000000 := by omega
  have hqz : q - q = 0 := by omega
  clear h h1 hc hk hv hca ca hn hNC b1 hq
  go_enter Tryd.func43, Tryd.ntmps43
  go_upto_region 1 with fail
  rw [← hW1, ← hfb]
  clear hW1 hfb
  go_wp2_with fail
  go_quiet (fail)
  have BQ := below_drewN BW.out nq
  clear c0 c11 cc p0 p3 BW
  generalize W1.drewN nq = W5 at BQ ⊢
  go_wp2_with fail
  go_ret
  exact ⟨_, rfl, ⟨_, _, _, rfl⟩, BQ⟩
set_option maxRecDepth 100000 in
set_option maxHeartbeats 8000000 in
theorem vmCellsR (m : Nat) (w : World) (V : VmV) (M : Vm.Mc) (f : Vm.Fr) (c : Cd.Co) (g cap : Nat) (h : VmS m w V M) (hc : M.codes[f.proc]? = some c) (hk : c.cells = 0) (hv : V.cv = .slice (some ⟨g, 0, none⟩) M.cells.length cap) (hcap : f.base < cap) (hb : f.base ≤ M.cells.length) (hl : M.cells.length ≤ 100000000) :
    Calls Tryd.prog 43 #[.pointer (some ⟨m, 0, none⟩), frV f] w fun e w' => ∃ v, e = .returned v ∧ IsSl v ∧ Below w.heap.size w w' := by
  obtain ⟨W1, hW1⟩ : ∃ W1, W1 = w.alloc (frB f) := ⟨_, rfl⟩
  obtain ⟨fb, hfb⟩ : ∃ fb, fb = w.heap.size := ⟨_, rfl⟩
  have b1 : Below w.heap.size w W1 := by rw [hW1]; exact (Below.refl _ _).alloc (Nat.le_refl _) _
  have h1 := h.later b1
  have p0 : W1.cell? ⟨fb, 0, none⟩ = some (.int .i64 f.proc) := by rw [hW1, hfb]; simp [go_sem]
  have p3 : W1.cell? ⟨fb, 3, none⟩ = some (.int .i64 f.base) := by rw [hW1, hfb]; simp [go_sem]
  have c0 := h1.cell.1
  have c11 := h1.cell.2.2.2.2.2.2.2.1
  rw [hv] at c11
  obtain ⟨gc, oc, ia, ic, hca, hgc, ca⟩ := h1.co.at hc
  have cc := ca.c1
  rw [hk] at cc
  rw [hca] at c0
  have hpl : f.proc < M.codes.length := (List.getElem?_eq_some_iff.1 hc).1
  have BW : Hid (Below w.heap.size w W1) := b1
  obtain ⟨n, hn⟩ : ∃ n, n = M.cells.length := ⟨_, rfl⟩
  obtain ⟨NC, hNC⟩ : ∃ NC, NC = M.codes.length := ⟨_, rfl⟩
  rw [← hNC] at c0 hpl
  have hpi : (f.proc : Int) < (NC : Int) := by omega
  have hp0 : (0 : Int) ≤ (f.proc : Int) := by omega
  rw [← hn] at c11 hb hl
  obtain ⟨q, hq⟩ : ∃ q, q = f.base := ⟨_, rfl⟩
  unfold frB at hW1
  rw [← hq] at p3 hW1 hb hcap
  show Calls _ _ #[_, .agg #[.int .i64 f.proc, .int .i64 f.place, .int .i64 f.mark, .int .i64 f.base]] _ _
  rw [← hq]
  have hq0 : (0 : Int) ≤ (q : Int) := by omega
  have hqb : (q : Int) ≤ 100000000 := by omega
  have hqc : (q : Int) ≤ (cap : Int) := by omega
  have hn1 : ¬ cap - q = 0 := by omega
  have hn3 : ¬ (cap : Int) - (q : Int) = 0 := by omega
  have hn4 : ¬ cap = q := by omega
  have hn5 : ¬ cap ≤ q := by omega
  have hn7 : (q : Int) < (cap : Int) := by omega
  clear h h1 hc hk hv hca ca hn hNC b1 hq
  go_enter Tryd.func43, Tryd.ntmps43
  go_upto_region 1 with fail
  rw [← hW1, ← hfb]
  clear hW1 hfb
  go_wp2_with fail
  go_quiet (fail)
  have BQ := below_drewN BW.out nq
  clear c0 c11 cc p0 p3 BW
  generalize W1.drewN nq = W5 at BQ ⊢
  go_wp2_with fail
  go_ret
  exact ⟨_, rfl, ⟨_, _, _, rfl⟩, BQ⟩
theorem vmCellsA (m : Nat) (w : World) (V : VmV) (M : Vm.Mc) (f : Vm.Fr) (c : Cd.Co) (k : Nat) (h : VmS m w V M) (hc : M.codes[f.proc]? = some c) (hk : c.cells = k) (hb : f.base + k ≤ M.cells.length) (hl : M.cells.length ≤ 100000000) :
    Calls Tryd.prog 43 #[.pointer (some ⟨m, 0, none⟩), frV f] w fun e w' => ∃ v, e = .returned v ∧ IsSl v ∧ (0 < k → ∃ g cap, V.cv = .slice (some ⟨g, 0, none⟩) M.cells.length cap ∧ M.cells.length ≤ cap ∧ v = .slice (some ⟨g, f.base, none⟩) k (cap - f.base)) ∧ Below w.heap.size w w' := by
  rcases Nat.eq_zero_or_pos k with h0 | h0
  · subst h0
    have no : ¬ 0 < 0 := by omega
    rcases h.cv_shp with ⟨hv, _⟩ | ⟨g, cap, hv, hcap⟩
    · exact (vmCellsN m w V M f c h hc (by simpa using hk) hv (by omega) hl).mono fun e w' ⟨v, a, b, d⟩ => ⟨v, a, b, fun h => absurd h no, d⟩
    · by_cases hcq : cap = f.base
      · subst hcq
        exact (vmCellsE m w V M f c g h hc (by simpa using hk) hv (by omega) hl).mono fun e w' ⟨v, a, b, d⟩ => ⟨v, a, b, fun h => absurd h no, d⟩
      · exact (vmCellsR m w V M f c g cap h hc (by simpa using hk) hv (by omega) (by omega) hl).mono fun e w' ⟨v, a, b, d⟩ => ⟨v, a, b, fun h => absurd h no, d⟩
  · rcases h.cv_shp with ⟨_, e⟩ | ⟨g, cap, hv, hcap⟩
    · omega
    · exact (vmCells m w V M f c k g cap h hc hk hv hcap hb hl h0).mono fun e w' ⟨a, d⟩ => ⟨_, a, ⟨_, _, _, rfl⟩, fun _ => ⟨g, cap, hv, hcap, rfl⟩, d⟩
set_option maxRecDepth 100000 in
set_option maxHeartbeats 8000000 in
theorem vmR1 (m : Nat) (w : World) (V : VmV) (M : Vm.Mc) (fs : List Vm.Fr) (f : Vm.Fr) (c : Cd.Co) (k : Nat) (x y : Int) (h : VmS m w V M) (hf : M.frames = fs ++ [f]) (hc : M.codes[f.proc]? = some c) (hk : c.cells = k) (hb : f.base + k ≤ M.cells.length) (hl : M.cells.length ≤ 100000000) (hfl : fs.length ≤ 1000000) (hs : M.stack.length ≤ 1000000) :
    Calls Tryd.prog 33 #[.pointer (some ⟨m, 0, none⟩), inV ⟨1, x, y⟩] w fun e w' => e = .returned (.tuple #[]) ∧ VmQ m w w' { M with stack := M.stack ++ [x] } := by
  obtain ⟨W1, hW1⟩ : ∃ W1, W1 = w.alloc (inB ⟨1, x, y⟩) := ⟨_, rfl⟩
  obtain ⟨ib, hib⟩ : ∃ ib, ib = w.heap.size := ⟨_, rfl⟩
  obtain ⟨t0, t1, t2, bw⟩ := in_box w ⟨1, x, y⟩ ib W1 hib hW1
  dsimp only at t0 t1 t2
  have il : ib < W1.heap.size := by rw [hib, hW1]; simp
  have h1 := h.later bw
  have HW : Hid (Below w.heap.size w W1) := bw
  have hml := h.lt
  obtain ⟨g, cap, hv, _, hmg, hgl, p0, p1, p2, p3, pf⟩ := h1.top hf
  have c10 := h1.cell.2.2.2.2.2.2.1
  rw [hv] at c10
  have ET : Hid _ := vmTop m g fs.length cap W1 c10 hfl
  obtain ⟨n, hn⟩ : ∃ n, n = fs.length := ⟨_, rfl⟩
  rw [← hn] at ET p0 p1 p2 p3 hfl
  have HH : Hid (VmS m W1 V M) := h1
  have EC4 : Hid (∀ X, Below W1.heap.size W1 X → Calls Tryd.prog 43 #[.pointer (some ⟨m, 0, none⟩), .agg #[.int .i64 f.proc, .int .i64 f.place, .int .i64 f.mark, .int .i64 f.base]] X fun e w' => ∃ v, e = .returned v ∧ IsSl v ∧ Hid (0 < k → ∃ g cap, V.cv = .slice (some ⟨g, 0, none⟩) M.cells.length cap ∧ M.cells.length ≤ cap ∧ v = .slice (some ⟨g, f.base, none⟩) k (cap - f.base)) ∧ Hid (Below X.heap.size X w')) := fun X hX => (vmCellsA m X V M f c k (HH.out.later hX) hc hk hb hl).mono fun e w' ⟨v, a, b, d, e2⟩ => ⟨v, a, b, d, e2⟩
  clear h h1 hf hc hv hn c10 pf bw 
  go_enter Tryd.func33, Tryd.ntmps33
  go_upto_region 1 with fail
  rw [← hW1, ← hib]
  clear hW1 hib
  go_wp2_with fail
  refine Calls.mono ET.out ?_
  rintro e2 w2 ⟨rfl, q2, hq2⟩
  have y2 : Below W1.heap.size W1 w2 := by rw [hq2]; exact below_drewN (Below.refl _ _) q2
  have r0 := (y2.cell (p := ⟨g, n * 4, none⟩) hgl).trans p0
  have r1 := (y2.cell (p := ⟨g, n * 4 + 1, none⟩) hgl).trans p1
  have r2 := (y2.cell (p := ⟨g, n * 4 + 2, none⟩) hgl).trans p2
  have r3 := (y2.cell (p := ⟨g, n * 4 + 3, none⟩) hgl).trans p3
  have Y2 : Hid (Below W1.heap.size W1 w2) := y2
  clear hq2 y2 p0 p1 p2 p3 ET
  go_wp2_with fail
  refine Calls.mono (EC4.out _ Y2.out) ?_
  rintro e3 w3 ⟨v3, rfl, ⟨xa, xn, xc, rfl⟩, S3, Y3⟩
  have Y4 : Hid (Below W1.heap.size W1 w3) := Y2.out.trans (Y3.out.mono Y2.out.size)
  have H3 : Hid (VmS m w3 V M) := HH.out.later Y4.out
  have B3 : Hid (Below m w w3) := (HW.out.trans (Y4.out.mono HW.out.size)).mono (Nat.le_of_lt hml)
  have u0 := (Y4.out.cell (p := ⟨ib, 0, none⟩) il).trans t0
  have u1 := (Y4.out.cell (p := ⟨ib, 1, none⟩) il).trans t1
  have u2 := (Y4.out.cell (p := ⟨ib, 2, none⟩) il).trans t2
  have il3 : ib < w3.heap.size := Nat.lt_of_lt_of_le il Y4.out.size
  clear r0 r1 r2 r3 t0 t1 t2 Y2 Y3 Y4 EC4 HH HW il hgl
  have EP : Hid _ := vmPush m w3 V M x H3.out hs
  go_wp2_with fail
  refine Calls.mono EP.out ?_
  rintro e4 w4 ⟨rfl, Q4⟩
  have FIN : Hid (VmQ m w w4 { M with stack := M.stack ++ [x] }) := ⟨B3.out.trans Q4.1, Q4.2⟩
  clear Q4 EP
  go_wp2_with fail
  first
    | (go_end0; exact ⟨rfl, FIN.out⟩)
    | (refine bodyPost_ret (v := .tuple #[]) (by simp [results, Tryd.results33, go_sem]) rfl ?_; exact ⟨rfl, FIN.out⟩)
set_option maxRecDepth 100000 in
set_option maxHeartbeats 8000000 in
theorem vmR25 (m : Nat) (w : World) (V : VmV) (M : Vm.Mc) (fs : List Vm.Fr) (f : Vm.Fr) (c : Cd.Co) (k : Nat) (x y : Int) (s : List Int) (a : Int) (h : VmS m w V M) (hf : M.frames = fs ++ [f]) (hc : M.codes[f.proc]? = some c) (hk : c.cells = k) (hb : f.base + k ≤ M.cells.length) (hl : M.cells.length ≤ 100000000) (hfl : fs.length ≤ 1000000) (hst : M.stack = s ++ [a]) (hs : s.length ≤ 1000000) :
    Calls Tryd.prog 33 #[.pointer (some ⟨m, 0, none⟩), inV ⟨25, x, y⟩] w fun e w' => e = .returned (.tuple #[]) ∧ VmQ m w w' { M with stack := s } := by
  obtain ⟨W1, hW1⟩ : ∃ W1, W1 = w.alloc (inB ⟨25, x, y⟩) := ⟨_, rfl⟩
  obtain ⟨ib, hib⟩ : ∃ ib, ib = w.heap.size := ⟨_, rfl⟩
  obtain ⟨t0, t1, t2, bw⟩ := in_box w ⟨25, x, y⟩ ib W1 hib hW1
  dsimp only at t0 t1 t2
  have il : ib < W1.heap.size := by rw [hib, hW1]; simp
  have h1 := h.later bw
  have HW : Hid (Below w.heap.size w W1) := bw
  have hml := h.lt
  obtain ⟨g, cap, hv, _, hmg, hgl, p0, p1, p2, p3, pf⟩ := h1.top hf
  have c10 := h1.cell.2.2.2.2.2.2.1
  rw [hv] at c10
  have ET : Hid _ := vmTop m g fs.length cap W1 c10 hfl
  obtain ⟨n, hn⟩ : ∃ n, n = fs.length := ⟨_, rfl⟩
  rw [← hn] at ET p0 p1 p2 p3 hfl
  have HH : Hid (VmS m W1 V M) := h1
  have EC4 : Hid (∀ X, Below W1.heap.size W1 X → Calls Tryd.prog 43 #[.pointer (some ⟨m, 0, none⟩), .agg #[.int .i64 f.proc, .int .i64 f.place, .int .i64 f.mark, .int .i64 f.base]] X fun e w' => ∃ v, e = .returned v ∧ IsSl v ∧ Hid (0 < k → ∃ g cap, V.cv = .slice (some ⟨g, 0, none⟩) M.cells.length cap ∧ M.cells.length ≤ cap ∧ v = .slice (some ⟨g, f.base, none⟩) k (cap - f.base)) ∧ Hid (Below X.heap.size X w')) := fun X hX => (vmCellsA m X V M f c k (HH.out.later hX) hc hk hb hl).mono fun e w' ⟨v, a, b, d, e2⟩ => ⟨v, a, b, d, e2⟩
  clear h h1 hf hc hv hn c10 pf bw 
  go_enter Tryd.func33, Tryd.ntmps33
  go_upto_region 1 with fail
  rw [← hW1, ← hib]
  clear hW1 hib
  go_wp2_with fail
  refine Calls.mono ET.out ?_
  rintro e2 w2 ⟨rfl, q2, hq2⟩
  have y2 : Below W1.heap.size W1 w2 := by rw [hq2]; exact below_drewN (Below.refl _ _) q2
  have r0 := (y2.cell (p := ⟨g, n * 4, none⟩) hgl).trans p0
  have r1 := (y2.cell (p := ⟨g, n * 4 + 1, none⟩) hgl).trans p1
  have r2 := (y2.cell (p := ⟨g, n * 4 + 2, none⟩) hgl).trans p2
  have r3 := (y2.cell (p := ⟨g, n * 4 + 3, none⟩) hgl).trans p3
  have Y2 : Hid (Below W1.heap.size W1 w2) := y2
  clear hq2 y2 p0 p1 p2 p3 ET
  go_wp2_with fail
  refine Calls.mono (EC4.out _ Y2.out) ?_
  rintro e3 w3 ⟨v3, rfl, ⟨xa, xn, xc, rfl⟩, S3, Y3⟩
  have Y4 : Hid (Below W1.heap.size W1 w3) := Y2.out.trans (Y3.out.mono Y2.out.size)
  have H3 : Hid (VmS m w3 V M) := HH.out.later Y4.out
  have B3 : Hid (Below m w w3) := (HW.out.trans (Y4.out.mono HW.out.size)).mono (Nat.le_of_lt hml)
  have u0 := (Y4.out.cell (p := ⟨ib, 0, none⟩) il).trans t0
  have u1 := (Y4.out.cell (p := ⟨ib, 1, none⟩) il).trans t1
  have u2 := (Y4.out.cell (p := ⟨ib, 2, none⟩) il).trans t2
  have il3 : ib < w3.heap.size := Nat.lt_of_lt_of_le il Y4.out.size
  clear r0 r1 r2 r3 t0 t1 t2 Y2 Y3 Y4 EC4 HH HW il hgl
  have EP : Hid _ := vmPop m w3 V M s a H3.out hst hs
  clear hst
  go_wp2_with fail
  refine Calls.mono EP.out ?_
  rintro e4 w4 ⟨rfl, Q4⟩
  have FIN : Hid (VmQ m w w4 { M with stack := s }) := ⟨B3.out.trans Q4.1, Q4.2⟩
  clear Q4 EP
  go_wp2_with fail
  first
    | (go_end0; exact ⟨rfl, FIN.out⟩)
    | (refine bodyPost_ret (v := .tuple #[]) (by simp [results, Tryd.results33, go_sem]) rfl ?_; exact ⟨rfl, FIN.out⟩)
set_option maxRecDepth 100000 in
set_option maxHeartbeats 8000000 in
theorem vmR16 (m : Nat) (w : World) (V : VmV) (M : Vm.Mc) (fs : List Vm.Fr) (f : Vm.Fr) (c : Cd.Co) (k : Nat) (x y : Int) (s : List Int) (a : Int) (h : VmS m w V M) (hf : M.frames = fs ++ [f]) (hc : M.codes[f.proc]? = some c) (hk : c.cells = k) (hb : f.base + k ≤ M.cells.length) (hl : M.cells.length ≤ 100000000) (hfl : fs.length ≤ 1000000) (hst : M.stack = s ++ [a]) (hs : s.length ≤ 1000000) :
    Calls Tryd.prog 33 #[.pointer (some ⟨m, 0, none⟩), inV ⟨16, x, y⟩] w fun e w' => e = .returned (.tuple #[]) ∧ VmQ m w w' { M with stack := s ++ [wrap64 (-a)] } := by
  obtain ⟨W1, hW1⟩ : ∃ W1, W1 = w.alloc (inB ⟨16, x, y⟩) := ⟨_, rfl⟩
  obtain ⟨ib, hib⟩ : ∃ ib, ib = w.heap.size := ⟨_, rfl⟩
  obtain ⟨t0, t1, t2, bw⟩ := in_box w ⟨16, x, y⟩ ib W1 hib hW1
  dsimp only at t0 t1 t2
  have il : ib < W1.heap.size := by rw [hib, hW1]; simp
  have h1 := h.later bw
  have HW : Hid (Below w.heap.size w W1) := bw
  have hml := h.lt
  obtain ⟨g, cap, hv, _, hmg, hgl, p0, p1, p2, p3, pf⟩ := h1.top hf
  have c10 := h1.cell.2.2.2.2.2.2.1
  rw [hv] at c10
  have ET : Hid _ := vmTop m g fs.length cap W1 c10 hfl
  obtain ⟨n, hn⟩ : ∃ n, n = fs.length := ⟨_, rfl⟩
  rw [← hn] at ET p0 p1 p2 p3 hfl
  have HH : Hid (VmS m W1 V M) := h1
  have EC4 : Hid (∀ X, Below W1.heap.size W1 X → Calls Tryd.prog 43 #[.pointer (some ⟨m, 0, none⟩), .agg #[.int .i64 f.proc, .int .i64 f.place, .int .i64 f.mark, .int .i64 f.base]] X fun e w' => ∃ v, e = .returned v ∧ IsSl v ∧ Hid (0 < k → ∃ g cap, V.cv = .slice (some ⟨g, 0, none⟩) M.cells.length cap ∧ M.cells.length ≤ cap ∧ v = .slice (some ⟨g, f.base, none⟩) k (cap - f.base)) ∧ Hid (Below X.heap.size X w')) := fun X hX => (vmCellsA m X V M f c k (HH.out.later hX) hc hk hb hl).mono fun e w' ⟨v, a, b, d, e2⟩ => ⟨v, a, b, d, e2⟩
  clear h h1 hf hc hv hn c10 pf bw 
  go_enter Tryd.func33, Tryd.ntmps33
  go_upto_region 1 with fail
  rw [← hW1, ← hib]
  clear hW1 hib
  go_wp2_with fail
  refine Calls.mono ET.out ?_
  rintro e2 w2 ⟨rfl, q2, hq2⟩
  have y2 : Below W1.heap.size W1 w2 := by rw [hq2]; exact below_drewN (Below.refl _ _) q2
  have r0 := (y2.cell (p := ⟨g, n * 4, none⟩) hgl).trans p0
  have r1 := (y2.cell (p := ⟨g, n * 4 + 1, none⟩) hgl).trans p1
  have r2 := (y2.cell (p := ⟨g, n * 4 + 2, none⟩) hgl).trans p2
  have r3 := (y2.cell (p := ⟨g, n * 4 + 3, none⟩) hgl).trans p3
  have Y2 : Hid (Below W1.heap.size W1 w2) := y2
  clear hq2 y2 p0 p1 p2 p3 ET
  go_wp2_with fail
  refine Calls.mono (EC4.out _ Y2.out) ?_
  rintro e3 w3 ⟨v3, rfl, ⟨xa, xn, xc, rfl⟩, S3, Y3⟩
  have Y4 : Hid (Below W1.heap.size W1 w3) := Y2.out.trans (Y3.out.mono Y2.out.size)
  have H3 : Hid (VmS m w3 V M) := HH.out.later Y4.out
  have B3 : Hid (Below m w w3) := (HW.out.trans (Y4.out.mono HW.out.size)).mono (Nat.le_of_lt hml)
  have u0 := (Y4.out.cell (p := ⟨ib, 0, none⟩) il).trans t0
  have u1 := (Y4.out.cell (p := ⟨ib, 1, none⟩) il).trans t1
  have u2 := (Y4.out.cell (p := ⟨ib, 2, none⟩) il).trans t2
  have il3 : ib < w3.heap.size := Nat.lt_of_lt_of_le il Y4.out.size
  clear r0 r1 r2 r3 t0 t1 t2 Y2 Y3 Y4 EC4 HH HW il hgl
  have EP : Hid _ := vmPop m w3 V M s a H3.out hst hs
  have EN : Hid (∀ X, _) := fun X => vmNeg a X
  clear hst
  go_wp2_with fail
  refine Calls.mono EP.out ?_
  rintro e4 w4 ⟨rfl, b4, V4, h4⟩
  have EU : Hid _ := vmPush m w4 V4 _ (wrap64 (-a)) h4 hs
  have B4 : Hid (Below m w w4) := B3.out.trans b4
  clear b4 h4 EP
  go_wp2_with fail
  refine Calls.mono (EN.out _) ?_
  rintro e5 w5 ⟨rfl, rfl⟩
  go_wp2_with fail
  refine Calls.mono EU.out ?_
  rintro e6 w6 ⟨rfl, Q6⟩
  have FIN : Hid (VmQ m w w6 { M with stack := s ++ [wrap64 (-a)] }) := ⟨B4.out.trans Q6.1, Q6.2⟩
  clear Q6 EU
  go_wp2_with fail
  first
    | (go_end0; exact ⟨rfl, FIN.out⟩)
    | (refine bodyPost_ret (v := .tuple #[]) (by simp [results, Tryd.results33, go_sem]) rfl ?_; exact ⟨rfl, FIN.out⟩)
set_option maxRecDepth 100000 in
set_option maxHeartbeats 8000000 in
theorem vmR15t (m : Nat) (w : World) (V : VmV) (M : Vm.Mc) (fs : List Vm.Fr) (f : Vm.Fr) (c : Cd.Co) (k : Nat) (x y : Int) (s : List Int) (a : Int) (h : VmS m w V M) (hf : M.frames = fs ++ [f]) (hc : M.codes[f.proc]? = some c) (hk : c.cells = k) (hb : f.base + k ≤ M.cells.length) (hl : M.cells.length ≤ 100000000) (hfl : fs.length ≤ 1000000) (hst : M.stack = s ++ [a]) (hs : s.length ≤ 1000000) (ha : (a == 0) = true) :
    Calls Tryd.prog 33 #[.pointer (some ⟨m, 0, none⟩), inV ⟨15, x, y⟩] w fun e w' => e = .returned (.tuple #[]) ∧ VmQ m w w' { M with stack := s ++ [1] } := by
  obtain ⟨W1, hW1⟩ : ∃ W1, W1 = w.alloc (inB ⟨15, x, y⟩) := ⟨_, rfl⟩
  obtain ⟨ib, hib⟩ : ∃ ib, ib = w.heap.size := ⟨_, rfl⟩
  obtain ⟨t0, t1, t2, bw⟩ := in_box w ⟨15, x, y⟩ ib W1 hib hW1
  dsimp only at t0 t1 t2
  have il : ib < W1.heap.size := by rw [hib, hW1]; simp
  have h1 := h.later bw
  have HW : Hid (Below w.heap.size w W1) := bw
  have hml := h.lt
  obtain ⟨g, cap, hv, _, hmg, hgl, p0, p1, p2, p3, pf⟩ := h1.top hf
  have c10 := h1.cell.2.2.2.2.2.2.1
  rw [hv] at c10
  have ET : Hid _ := vmTop m g fs.length cap W1 c10 hfl
  obtain ⟨n, hn⟩ : ∃ n, n = fs.length := ⟨_, rfl⟩
  rw [← hn] at ET p0 p1 p2 p3 hfl
  have HH : Hid (VmS m W1 V M) := h1
  have EC4 : Hid (∀ X, Below W1.heap.size W1 X → Calls Tryd.prog 43 #[.pointer (some ⟨m, 0, none⟩), .agg #[.int .i64 f.proc, .int .i64 f.place, .int .i64 f.mark, .int .i64 f.base]] X fun e w' => ∃ v, e = .returned v ∧ IsSl v ∧ Hid (0 < k → ∃ g cap, V.cv = .slice (some ⟨g, 0, none⟩) M.cells.length cap ∧ M.cells.length ≤ cap ∧ v = .slice (some ⟨g, f.base, none⟩) k (cap - f.base)) ∧ Hid (Below X.heap.size X w')) := fun X hX => (vmCellsA m X V M f c k (HH.out.later hX) hc hk hb hl).mono fun e w' ⟨v, a, b, d, e2⟩ => ⟨v, a, b, d, e2⟩
  clear h h1 hf hc hv hn c10 pf bw 
  go_enter Tryd.func33, Tryd.ntmps33
  go_upto_region 1 with fail
  rw [← hW1, ← hib]
  clear hW1 hib
  go_wp2_with fail
  refine Calls.mono ET.out ?_
  rintro e2 w2 ⟨rfl, q2, hq2⟩
  have y2 : Below W1.heap.size W1 w2 := by rw [hq2]; exact below_drewN (Below.refl _ _) q2
  have r0 := (y2.cell (p := ⟨g, n * 4, none⟩) hgl).trans p0
  have r1 := (y2.cell (p := ⟨g, n * 4 + 1, none⟩) hgl).trans p1
  have r2 := (y2.cell (p := ⟨g, n * 4 + 2, none⟩) hgl).trans p2
  have r3 := (y2.cell (p := ⟨g, n * 4 + 3, none⟩) hgl).trans p3
  have Y2 : Hid (Below W1.heap.size W1 w2) := y2
  clear hq2 y2 p0 p1 p2 p3 ET
  go_wp2_with fail
  refine Calls.mono (EC4.out _ Y2.out) ?_
  rintro e3 w3 ⟨v3, rfl, ⟨xa, xn, xc, rfl⟩, S3, Y3⟩
  have Y4 : Hid (Below W1.heap.size W1 w3) := Y2.out.trans (Y3.out.mono Y2.out.size)
  have H3 : Hid (VmS m w3 V M) := HH.out.later Y4.out
  have B3 : Hid (Below m w w3) := (HW.out.trans (Y4.out.mono HW.out.size)).mono (Nat.le_of_lt hml)
  have u0 := (Y4.out.cell (p := ⟨ib, 0, none⟩) il).trans t0
  have u1 := (Y4.out.cell (p := ⟨ib, 1, none⟩) il).trans t1
  have u2 := (Y4.out.cell (p := ⟨ib, 2, none⟩) il).trans t2
  have il3 : ib < w3.heap.size := Nat.lt_of_lt_of_le il Y4.out.size
  clear r0 r1 r2 r3 t0 t1 t2 Y2 Y3 Y4 EC4 HH HW il hgl
  have EP : Hid _ := vmPop m w3 V M s a H3.out hst hs
  have EN : Hid (∀ X, Calls Tryd.prog 50 #[.bool true] X fun e w' => e = .returned (.int .i64 1) ∧ w' = X) := fun X => vmTruth true X
  clear hst
  go_wp2_with fail
  refine Calls.mono EP.out ?_
  rintro e4 w4 ⟨rfl, b4, V4, h4⟩
  have EU : Hid _ := vmPush m w4 V4 _ 1 h4 hs
  have B4 : Hid (Below m w w4) := B3.out.trans b4
  clear b4 h4 EP
  go_wp2_with fail
  refine Calls.mono (EN.out _) ?_
  rintro e5 w5 ⟨rfl, rfl⟩
  go_wp2_with fail
  refine Calls.mono EU.out ?_
  rintro e6 w6 ⟨rfl, Q6⟩
  have FIN : Hid (VmQ m w w6 { M with stack := s ++ [1] }) := ⟨B4.out.trans Q6.1, Q6.2⟩
  clear Q6 EU
  go_wp2_with fail
  first
    | (go_end0; exact ⟨rfl, FIN.out⟩)
    | (refine bodyPost_ret (v := .tuple #[]) (by simp [results, Tryd.results33, go_sem]) rfl ?_; exact ⟨rfl, FIN.out⟩)
set_option maxRecDepth 100000 in
set_option maxHeartbeats 8000000 in
theorem vmR15f (m : Nat) (w : World) (V : VmV) (M : Vm.Mc) (fs : List Vm.Fr) (f : Vm.Fr) (c : Cd.Co) (k : Nat) (x y : Int) (s : List Int) (a : Int) (h : VmS m w V M) (hf : M.frames = fs ++ [f]) (hc : M.codes[f.proc]? = some c) (hk : c.cells = k) (hb : f.base + k ≤ M.cells.length) (hl : M.cells.length ≤ 100000000) (hfl : fs.length ≤ 1000000) (hst : M.stack = s ++ [a]) (hs : s.length ≤ 1000000) (ha : (a == 0) = false) :
    Calls Tryd.prog 33 #[.pointer (some ⟨m, 0, none⟩), inV ⟨15, x, y⟩] w fun e w' => e = .returned (.tuple #[]) ∧ VmQ m w w' { M with stack := s ++ [0] } := by
  obtain ⟨W1, hW1⟩ : ∃ W1, W1 = w.alloc (inB ⟨15, x, y⟩) := ⟨_, rfl⟩
  obtain ⟨ib, hib⟩ : ∃ ib, ib = w.heap.size := ⟨_, rfl⟩
  obtain ⟨t0, t1, t2, bw⟩ := in_box w ⟨15, x, y⟩ ib W1 hib hW1
  dsimp only at t0 t1 t2
  have il : ib < W1.heap.size := by rw [hib, hW1]; simp
  have h1 := h.later bw
  have HW : Hid (Below w.heap.size w W1) := bw
  have hml := h.lt
  obtain ⟨g, cap, hv, _, hmg, hgl, p0, p1, p2, p3, pf⟩ := h1.top hf
  have c10 := h1.cell.2.2.2.2.2.2.1
  rw [hv] at c10
  have ET : Hid _ := vmTop m g fs.length cap W1 c10 hfl
  obtain ⟨n, hn⟩ : ∃ n, n = fs.length := ⟨_, rfl⟩
  rw [← hn] at ET p0 p1 p2 p3 hfl
  have HH : Hid (VmS m W1 V M) := h1
  have EC4 : Hid (∀ X, Below W1.heap.size W1 X → Calls Tryd.prog 43 #[.pointer (some ⟨m, 0, none⟩), .agg #[.int .i64 f.proc, .int .i64 f.place, .int .i64 f.mark, .int .i64 f.base]] X fun e w' => ∃ v, e = .returned v ∧ IsSl v ∧ Hid (0 < k → ∃ g cap, V.cv = .slice (some ⟨g, 0, none⟩) M.cells.length cap ∧ M.cells.length ≤ cap ∧ v = .slice (some ⟨g, f.base, none⟩) k (cap - f.base)) ∧ Hid (Below X.heap.size X w')) := fun X hX => (vmCellsA m X V M f c k (HH.out.later hX) hc hk hb hl).mono fun e w' ⟨v, a, b, d, e2⟩ => ⟨v, a, b, d, e2⟩
  clear h h1 hf hc hv hn c10 pf bw 
  go_enter Tryd.func33, Tryd.ntmps33
  go_upto_region 1 with fail
  rw [← hW1, ← hib]
  clear hW1 hib
  go_wp2_with fail
  refine Calls.mono ET.out ?_
  rintro e2 w2 ⟨rfl, q2, hq2⟩
  have y2 : Below W1.heap.size W1 w2 := by rw [hq2]; exact below_drewN (Below.refl _ _) q2
  have r0 := (y2.cell (p := ⟨g, n * 4, none⟩) hgl).trans p0
  have r1 := (y2.cell (p := ⟨g, n * 4 + 1, none⟩) hgl).trans p1
  have r2 := (y2.cell (p := ⟨g, n * 4 + 2, none⟩) hgl).trans p2
  have r3 := (y2.cell (p := ⟨g, n * 4 + 3, none⟩) hgl).trans p3
  have Y2 : Hid (Below W1.heap.size W1 w2) := y2
  clear hq2 y2 p0 p1 p2 p3 ET
  go_wp2_with fail
  refine Calls.mono (EC4.out _ Y2.out) ?_
  rintro e3 w3 ⟨v3, rfl, ⟨xa, xn, xc, rfl⟩, S3, Y3⟩
  have Y4 : Hid (Below W1.heap.size W1 w3) := Y2.out.trans (Y3.out.mono Y2.out.size)
  have H3 : Hid (VmS m w3 V M) := HH.out.later Y4.out
  have B3 : Hid (Below m w w3) := (HW.out.trans (Y4.out.mono HW.out.size)).mono (Nat.le_of_lt hml)
  have u0 := (Y4.out.cell (p := ⟨ib, 0, none⟩) il).trans t0
  have u1 := (Y4.out.cell (p := ⟨ib, 1, none⟩) il).trans t1
  have u2 := (Y4.out.cell (p := ⟨ib, 2, none⟩) il).trans t2
  have il3 : ib < w3.heap.size := Nat.lt_of_lt_of_le il Y4.out.size
  clear r0 r1 r2 r3 t0 t1 t2 Y2 Y3 Y4 EC4 HH HW il hgl
  have EP : Hid _ := vmPop m w3 V M s a H3.out hst hs
  have EN : Hid (∀ X, Calls Tryd.prog 50 #[.bool false] X fun e w' => e = .returned (.int .i64 0) ∧ w' = X) := fun X => vmTruth false X
  clear hst
  go_wp2_with fail
  refine Calls.mono EP.out ?_
  rintro e4 w4 ⟨rfl, b4, V4, h4⟩
  have EU : Hid _ := vmPush m w4 V4 _ 0 h4 hs
  have B4 : Hid (Below m w w4) := B3.out.trans b4
  clear b4 h4 EP
  go_wp2_with fail
  refine Calls.mono (EN.out _) ?_
  rintro e5 w5 ⟨rfl, rfl⟩
  go_wp2_with fail
  refine Calls.mono EU.out ?_
  rintro e6 w6 ⟨rfl, Q6⟩
  have FIN : Hid (VmQ m w w6 { M with stack := s ++ [0] }) := ⟨B4.out.trans Q6.1, Q6.2⟩
  clear Q6 EU
  go_wp2_with fail
  first
    | (go_end0; exact ⟨rfl, FIN.out⟩)
    | (refine bodyPost_ret (v := .tuple #[]) (by simp [results, Tryd.results33, go_sem]) rfl ?_; exact ⟨rfl, FIN.out⟩)
end Go.Proofs.YtkjkiknpgggadaaDoor

