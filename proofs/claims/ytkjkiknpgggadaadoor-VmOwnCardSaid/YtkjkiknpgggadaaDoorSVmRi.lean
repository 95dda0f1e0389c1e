/- Layer 9: the document's machine: store, but for clear. -/
import Derived.Test.YtkjkiknpgggadaaDoorSVmRh
namespace Go.Proofs.YtkjkiknpgggadaaDoor
open Go.RowKit
set_option linter.unusedVariables false
set_option linter.unusedSimpArgs false

def SetQ (w : World) (a : Addr) (v : Value) (e : Ending) (w' : World) : Prop := e = .returned (.tuple #[]) ∧ ∃ X, Below w.heap.size w X ∧ (w' = X.setCell a v ∨ w' = (X.setCell a v).drew)
def NoQ (w : World) (e : Ending) (w' : World) : Prop := e = .returned (.tuple #[]) ∧ Below w.heap.size w w'
set_option maxRecDepth 100000 in
set_option maxHeartbeats 8000000 in
theorem rSto3 (w : World) (gf fo n : Nat) (m a : Int) (hf : gf < w.heap.size) (gl ol lc : Nat) (hg : gl < w.heap.size) (c0 : w.cell? ⟨gl, ol, none⟩ = some (.int .i64 a)) (zb k kc : Nat) (hz : zb < w.heap.size) (c3 : w.cell? ⟨gf, fo + 3, none⟩ = some (.slice (some ⟨zb, 0, none⟩) k kc)) (u : Value) (hu : w.cell? ⟨zb, n, none⟩ = some u) (fu : w.frozen? ⟨zb, n, none⟩ = false) (hn : n < k) : Calls Tryd.prog 55 #[.pointer (some ⟨gf, fo, none⟩), .agg #[.int .i64 3, .int .i64 n, .int .i64 m], .slice (some ⟨gl, ol, none⟩) 1 lc] w (SetQ w ⟨zb, n, none⟩ (.int .i64 a)) := by
  obtain ⟨W1, hW1⟩ : ∃ W1, W1 = w.alloc (.cells #[.int .i64 3, .int .i64 n, .int .i64 m] 47) := ⟨_, rfl⟩
  have BW0 : Below w.heap.size w W1 := by rw [hW1]; go_grown
  have BW : Hid (Below w.heap.size w W1) := BW0
  clear BW0
  have i0 : W1.cell? ⟨w.heap.size, 0, none⟩ = some (.int .i64 3) := by rw [hW1]; simp [go_sem]
  have i1 : W1.cell? ⟨w.heap.size, 1, none⟩ = some (.int .i64 n) := by rw [hW1]; simp [go_sem]
  have l0 := (BW.out.cell (p := ⟨gl, ol, none⟩) hg).trans c0
  clear c0
  have f3 := (BW.out.cell (p := ⟨gf, fo + 3, none⟩) hf).trans c3
  have z1 := (BW.out.cell (p := ⟨zb, n, none⟩) hz).trans hu
  have z2 := (BW.out.frozen (p := ⟨zb, n, none⟩) hz).trans fu
  clear c3 hu fu
  have hni : (n : Int) < (k : Int) := by omega
  go_enter Tryd.func55, Tryd.ntmps55
  go_upto_region 1 with fail
  rw [← hW1]
  clear hW1
  go_wp2_with fail
  go_region_law (fail)
  all_goals
    go_wp2_with fail
    go_end0
    first
      | exact ⟨rfl, W1, BW.out, .inl rfl⟩
      | exact ⟨rfl, W1, BW.out, .inr rfl⟩
set_option maxRecDepth 100000 in
set_option maxHeartbeats 8000000 in
theorem rSto5 (w : World) (gf fo n : Nat) (m b : Int) (hf : gf < w.heap.size) (a : Nat) (gl ol lc : Nat) (hg : gl < w.heap.size) (c0 : w.cell? ⟨gl, ol, none⟩ = some (.int .i64 a)) (c1 : w.cell? ⟨gl, ol + 1, none⟩ = some (.int .i64 b)) (zb k kc : Nat) (hz : zb < w.heap.size) (c3 : w.cell? ⟨gf, fo + 3, none⟩ = some (.slice (some ⟨zb, 0, none⟩) k kc)) (u : Value) (hu : w.cell? ⟨zb, n + a, none⟩ = some u) (fu : w.frozen? ⟨zb, n + a, none⟩ = false) (hn : n + a < k) (hk : k ≤ 65536) : Calls Tryd.prog 55 #[.pointer (some ⟨gf, fo, none⟩), .agg #[.int .i64 5, .int .i64 n, .int .i64 m], .slice (some ⟨gl, ol, none⟩) 2 lc] w (SetQ w ⟨zb, n + a, none⟩ (.int .i64 b)) := by
  obtain ⟨W1, hW1⟩ : ∃ W1, W1 = w.alloc (.cells #[.int .i64 5, .int .i64 n, .int .i64 m] 47) := ⟨_, rfl⟩
  have BW0 : Below w.heap.size w W1 := by rw [hW1]; go_grown
  have BW : Hid (Below w.heap.size w W1) := BW0
  clear BW0
  have i0 : W1.cell? ⟨w.heap.size, 0, none⟩ = some (.int .i64 5) := by rw [hW1]; simp [go_sem]
  have i1 : W1.cell? ⟨w.heap.size, 1, none⟩ = some (.int .i64 n) := by rw [hW1]; simp [go_sem]
  have l0 := (BW.out.cell (p := ⟨gl, ol, none⟩) hg).trans c0
  clear c0
  have l1 := (BW.out.cell (p := ⟨gl, ol + 1, none⟩) hg).trans c1
  clear c1
  have f3 := (BW.out.cell (p := ⟨gf, fo + 3, none⟩) hf).trans c3
  have z1 := (BW.out.cell (p := ⟨zb, n + a, none⟩) hz).trans hu
  have z2 := (BW.out.frozen (p := ⟨zb, n + a, none⟩) hz).trans fu
  clear c3 hu fu
  have hni : (n : Int) + (a : Int) < (k : Int) := by omega
  have hn0 : (0 : Int) ≤ (n : Int) + (a : Int) := by omega
  have hw : IntKind.i64.wrap ((n : Int) + (a : Int)) = (n : Int) + (a : Int) := by rw [IntKind.wrap_i64]; omega
  have ht : ((n : Int) + (a : Int)).toNat = n + a := by omega
  go_enter Tryd.func55, Tryd.ntmps55
  go_upto_region 1 with fail
  rw [← hW1]
  clear hW1
  go_wp2_with fail
  go_region_law (fail)
  all_goals
    go_wp2_with fail
    go_end0
    first
      | exact ⟨rfl, W1, BW.out, .inl rfl⟩
      | exact ⟨rfl, W1, BW.out, .inr rfl⟩
set_option maxRecDepth 100000 in
set_option maxHeartbeats 8000000 in
theorem rSto17 (w : World) (gf fo n : Nat) (m : Int) (hf : gf < w.heap.size) (la : Option Addr) (lc : Nat) (pl : Value) (cp : w.cell? ⟨gf, fo + 1, none⟩ = some pl) (fp : w.frozen? ⟨gf, fo + 1, none⟩ = false) : Calls Tryd.prog 55 #[.pointer (some ⟨gf, fo, none⟩), .agg #[.int .i64 17, .int .i64 n, .int .i64 m], .slice la 0 lc] w (SetQ w ⟨gf, fo + 1, none⟩ (.int .i64 n)) := by
  obtain ⟨W1, hW1⟩ : ∃ W1, W1 = w.alloc (.cells #[.int .i64 17, .int .i64 n, .int .i64 m] 47) := ⟨_, rfl⟩
  have BW0 : Below w.heap.size w W1 := by rw [hW1]; go_grown
  have BW : Hid (Below w.heap.size w W1) := BW0
  clear BW0
  have i0 : W1.cell? ⟨w.heap.size, 0, none⟩ = some (.int .i64 17) := by rw [hW1]; simp [go_sem]
  have i1 : W1.cell? ⟨w.heap.size, 1, none⟩ = some (.int .i64 n) := by rw [hW1]; simp [go_sem]
  have p1 := (BW.out.cell (p := ⟨gf, fo + 1, none⟩) hf).trans cp
  have p2 := (BW.out.frozen (p := ⟨gf, fo + 1, none⟩) hf).trans fp
  clear cp fp
  go_enter Tryd.func55, Tryd.ntmps55
  go_upto_region 1 with fail
  rw [← hW1]
  clear hW1
  go_wp2_with fail
  go_end0
  exact ⟨rfl, W1, BW.out, .inl rfl⟩
set_option maxRecDepth 100000 in
set_option maxHeartbeats 8000000 in
theorem rSto18z (w : World) (gf fo n : Nat) (m : Int) (hf : gf < w.heap.size) (gl ol lc : Nat) (hg : gl < w.heap.size) (c0 : w.cell? ⟨gl, ol, none⟩ = some (.int .i64 0)) (pl : Value) (cp : w.cell? ⟨gf, fo + 1, none⟩ = some pl) (fp : w.frozen? ⟨gf, fo + 1, none⟩ = false) : Calls Tryd.prog 55 #[.pointer (some ⟨gf, fo, none⟩), .agg #[.int .i64 18, .int .i64 n, .int .i64 m], .slice (some ⟨gl, ol, none⟩) 1 lc] w (SetQ w ⟨gf, fo + 1, none⟩ (.int .i64 n)) := by
  obtain ⟨W1, hW1⟩ : ∃ W1, W1 = w.alloc (.cells #[.int .i64 18, .int .i64 n, .int .i64 m] 47) := ⟨_, rfl⟩
  have BW0 : Below w.heap.size w W1 := by rw [hW1]; go_grown
  have BW : Hid (Below w.heap.size w W1) := BW0
  clear BW0
  have i0 : W1.cell? ⟨w.heap.size, 0, none⟩ = some (.int .i64 18) := by rw [hW1]; simp [go_sem]
  have i1 : W1.cell? ⟨w.heap.size, 1, none⟩ = some (.int .i64 n) := by rw [hW1]; simp [go_sem]
  have l0 := (BW.out.cell (p := ⟨gl, ol, none⟩) hg).trans c0
  clear c0
  have p1 := (BW.out.cell (p := ⟨gf, fo + 1, none⟩) hf).trans cp
  have p2 := (BW.out.frozen (p := ⟨gf, fo + 1, none⟩) hf).trans fp
  clear cp fp
  go_enter Tryd.func55, Tryd.ntmps55
  go_upto_region 1 with fail
  rw [← hW1]
  clear hW1
  go_wp2_with fail
  go_end0
  exact ⟨rfl, W1, BW.out, .inl rfl⟩
set_option maxRecDepth 100000 in
set_option maxHeartbeats 8000000 in
theorem rSto18 (w : World) (gf fo n : Nat) (m  a : Int) (hf : gf < w.heap.size) (gl ol lc : Nat) (hg : gl < w.heap.size) (c0 : w.cell? ⟨gl, ol, none⟩ = some (.int .i64 a)) (ha : ¬ a = 0) : Calls Tryd.prog 55 #[.pointer (some ⟨gf, fo, none⟩), .agg #[.int .i64 18, .int .i64 n, .int .i64 m], .slice (some ⟨gl, ol, none⟩) 1 lc] w (NoQ w) := by
  obtain ⟨W1, hW1⟩ : ∃ W1, W1 = w.alloc (.cells #[.int .i64 18, .int .i64 n, .int .i64 m] 47) := ⟨_, rfl⟩
  have BW0 : Below w.heap.size w W1 := by rw [hW1]; go_grown
  have BW : Hid (Below w.heap.size w W1) := BW0
  clear BW0
  have i0 : W1.cell? ⟨w.heap.size, 0, none⟩ = some (.int .i64 18) := by rw [hW1]; simp [go_sem]
  have i1 : W1.cell? ⟨w.heap.size, 1, none⟩ = some (.int .i64 n) := by rw [hW1]; simp [go_sem]
  have l0 := (BW.out.cell (p := ⟨gl, ol, none⟩) hg).trans c0
  clear c0
  have d0 : (a == 0) = false := beq_eq_false_iff_ne.2 ha
  go_enter Tryd.func55, Tryd.ntmps55
  go_upto_region 1 with fail
  rw [← hW1]
  clear hW1
  go_wp2_with fail
  go_end0
  exact ⟨rfl, BW.out⟩
set_option maxRecDepth 100000 in
set_option maxHeartbeats 8000000 in
theorem rSto1 (w : World) (gf fo : Nat) (n m : Int) (hf : gf < w.heap.size) (l : Value) : Calls Tryd.prog 55 #[.pointer (some ⟨gf, fo, none⟩), .agg #[.int .i64 1, .int .i64 n, .int .i64 m], l] w (NoQ w) := by
  obtain ⟨W1, hW1⟩ : ∃ W1, W1 = w.alloc (.cells #[.int .i64 1, .int .i64 n, .int .i64 m] 47) := ⟨_, rfl⟩
  have BW0 : Below w.heap.size w W1 := by rw [hW1]; go_grown
  have BW : Hid (Below w.heap.size w W1) := BW0
  clear BW0
  have i0 : W1.cell? ⟨w.heap.size, 0, none⟩ = some (.int .i64 1) := by rw [hW1]; simp [go_sem]
  have i1 : W1.cell? ⟨w.heap.size, 1, none⟩ = some (.int .i64 n) := by rw [hW1]; simp [go_sem]
  go_enter Tryd.func55, Tryd.ntmps55
  go_upto_region 1 with fail
  rw [← hW1]
  clear hW1
  go_wp2_with fail
  go_end0
  exact ⟨rfl, BW.out⟩
set_option maxRecDepth 100000 in
set_option maxHeartbeats 8000000 in
theorem rSto2 (w : World) (gf fo : Nat) (n m : Int) (hf : gf < w.heap.size) (l : Value) : Calls Tryd.prog 55 #[.pointer (some ⟨gf, fo, none⟩), .agg #[.int .i64 2, .int .i64 n, .int .i64 m], l] w (NoQ w) := by
  obtain ⟨W1, hW1⟩ : ∃ W1, W1 = w.alloc (.cells #[.int .i64 2, .int .i64 n, .int .i64 m] 47) := ⟨_, rfl⟩
  have BW0 : Below w.heap.size w W1 := by rw [hW1]; go_grown
  have BW : Hid (Below w.heap.size w W1) := BW0
  clear BW0
  have i0 : W1.cell? ⟨w.heap.size, 0, none⟩ = some (.int .i64 2) := by rw [hW1]; simp [go_sem]
  have i1 : W1.cell? ⟨w.heap.size, 1, none⟩ = some (.int .i64 n) := by rw [hW1]; simp [go_sem]
  go_enter Tryd.func55, Tryd.ntmps55
  go_upto_region 1 with fail
  rw [← hW1]
  clear hW1
  go_wp2_with fail
  go_end0
  exact ⟨rfl, BW.out⟩
set_option maxRecDepth 100000 in
set_option maxHeartbeats 8000000 in
theorem rSto4 (w : World) (gf fo : Nat) (n m : Int) (hf : gf < w.heap.size) (l : Value) : Calls Tryd.prog 55 #[.pointer (some ⟨gf, fo, none⟩), .agg #[.int .i64 4, .int .i64 n, .int .i64 m], l] w (NoQ w) := by
  obtain ⟨W1, hW1⟩ : ∃ W1, W1 = w.alloc (.cells #[.int .i64 4, .int .i64 n, .int .i64 m] 47) := ⟨_, rfl⟩
  have BW0 : Below w.heap.size w W1 := by rw [hW1]; go_grown
  have BW : Hid (Below w.heap.size w W1) := BW0
  clear BW0
  have i0 : W1.cell? ⟨w.heap.size, 0, none⟩ = some (.int .i64 4) := by rw [hW1]; simp [go_sem]
  have i1 : W1.cell? ⟨w.heap.size, 1, none⟩ = some (.int .i64 n) := by rw [hW1]; simp [go_sem]
  go_enter Tryd.func55, Tryd.ntmps55
  go_upto_region 1 with fail
  rw [← hW1]
  clear hW1
  go_wp2_with fail
  go_end0
  exact ⟨rfl, BW.out⟩
set_option maxRecDepth 100000 in
set_option maxHeartbeats 8000000 in
theorem rSto7 (w : World) (gf fo : Nat) (n m : Int) (hf : gf < w.heap.size) (l : Value) : Calls Tryd.prog 55 #[.pointer (some ⟨gf, fo, none⟩), .agg #[.int .i64 7, .int .i64 n, .int .i64 m], l] w (NoQ w) := by
  obtain ⟨W1, hW1⟩ : ∃ W1, W1 = w.alloc (.cells #[.int .i64 7, .int .i64 n, .int .i64 m] 47) := ⟨_, rfl⟩
  have BW0 : Below w.heap.size w W1 := by rw [hW1]; go_grown
  have BW : Hid (Below w.heap.size w W1) := BW0
  clear BW0
  have i0 : W1.cell? ⟨w.heap.size, 0, none⟩ = some (.int .i64 7) := by rw [hW1]; simp [go_sem]
  have i1 : W1.cell? ⟨w.heap.size, 1, none⟩ = some (.int .i64 n) := by rw [hW1]; simp [go_sem]
  go_enter Tryd.func55, Tryd.ntmps55
  go_upto_region 1 with fail
  rw [← hW1]
  clear hW1
  go_wp2_with fail
  go_end0
  exact ⟨rfl, BW.out⟩
set_option maxRecDepth 100000 in
set_option maxHeartbeats 8000000 in
theorem rSto8 (w : World) (gf fo : Nat) (n m : Int) (hf : gf < w.heap.size) (l : Value) : Calls Tryd.prog 55 #[.pointer (some ⟨gf, fo, none⟩), .agg #[.int .i64 8, .int .i64 n, .int .i64 m], l] w (NoQ w) := by
  obtain ⟨W1, hW1⟩ : ∃ W1, W1 = w.alloc (.cells #[.int .i64 8, .int .i64 n, .int .i64 m] 47) := ⟨_, rfl⟩
  have BW0 : Below w.heap.size w W1 := by rw [hW1]; go_grown
  have BW : Hid (Below w.heap.size w W1) := BW0
  clear BW0
  have i0 : W1.cell? ⟨w.heap.size, 0, none⟩ = some (.int .i64 8) := by rw [hW1]; simp [go_sem]
  have i1 : W1.cell? ⟨w.heap.size, 1, none⟩ = some (.int .i64 n) := by rw [hW1]; simp [go_sem]
  go_enter Tryd.func55, Tryd.ntmps55
  go_upto_region 1 with fail
  rw [← hW1]
  clear hW1
  go_wp2_with fail
  go_end0
  exact ⟨rfl, BW.out⟩
set_option maxRecDepth 100000 in
set_option maxHeartbeats 8000000 in
theorem rSto9 (w : World) (gf fo : Nat) (n m : Int) (hf : gf < w.heap.size) (l : Value) : Calls Tryd.prog 55 #[.pointer (some ⟨gf, fo, none⟩), .agg #[.int .i64 9, .int .i64 n, .int .i64 m], l] w (NoQ w) := by
  obtain ⟨W1, hW1⟩ : ∃ W1, W1 = w.alloc (.cells #[.int .i64 9, .int .i64 n, .int .i64 m] 47) := ⟨_, rfl⟩
  have BW0 : Below w.heap.size w W1 := by rw [hW1]; go_grown
  have BW : Hid (Below w.heap.size w W1) := BW0
  clear BW0
  have i0 : W1.cell? ⟨w.heap.size, 0, none⟩ = some (.int .i64 9) := by rw [hW1]; simp [go_sem]
  have i1 : W1.cell? ⟨w.heap.size, 1, none⟩ = some (.int .i64 n) := by rw [hW1]; simp [go_sem]
  go_enter Tryd.func55, Tryd.ntmps55
  go_upto_region 1 with fail
  rw [← hW1]
  clear hW1
  go_wp2_with fail
  go_end0
  exact ⟨rfl, BW.out⟩
set_option maxRecDepth 100000 in
set_option maxHeartbeats 8000000 in
theorem rSto10 (w : World) (gf fo : Nat) (n m : Int) (hf : gf < w.heap.size) (l : Value) : Calls Tryd.prog 55 #[.pointer (some ⟨gf, fo, none⟩), .agg #[.int .i64 10, .int .i64 n, .int .i64 m], l] w (NoQ w) := by
  obtain ⟨W1, hW1⟩ : ∃ W1, W1 = w.alloc (.cells #[.int .i64 10, .int .i64 n, .int .i64 m] 47) := ⟨_, rfl⟩
  have BW0 : Below w.heap.size w W1 := by rw [hW1]; go_grown
  have BW : Hid (Below w.heap.size w W1) := BW0
  clear BW0
  have i0 : W1.cell? ⟨w.heap.size, 0, none⟩ = some (.int .i64 10) := by rw [hW1]; simp [go_sem]
  have i1 : W1.cell? ⟨w.heap.size, 1, none⟩ = some (.int .i64 n) := by rw [hW1]; simp [go_sem]
  go_enter Tryd.func55, Tryd.ntmps55
  go_upto_region 1 with fail
  rw [← hW1]
  clear hW1
  go_wp2_with fail
  go_end0
  exact ⟨rfl, BW.out⟩
set_option maxRecDepth 100000 in
set_option maxHeartbeats 8000000 in
theorem rSto11 (w : World) (gf fo : Nat) (n m : Int) (hf : gf < w.heap.size) (l : Value) : Calls Tryd.prog 55 #[.pointer (some ⟨gf, fo, none⟩), .agg #[.int .i64 11, .int .i64 n, .int .i64 m], l] w (NoQ w) := by
  obtain ⟨W1, hW1⟩ : ∃ W1, W1 = w.alloc (.cells #[.int .i64 11, .int .i64 n, .int .i64 m] 47) := ⟨_, rfl⟩
  have BW0 : Below w.heap.size w W1 := by rw [hW1]; go_grown
  have BW : Hid (Below w.heap.size w W1) := BW0
  clear BW0
  have i0 : W1.cell? ⟨w.heap.size, 0, none⟩ = some (.int .i64 11) := by rw [hW1]; simp [go_sem]
  have i1 : W1.cell? ⟨w.heap.size, 1, none⟩ = some (.int .i64 n) := by rw [hW1]; simp [go_sem]
  go_enter Tryd.func55, Tryd.ntmps55
  go_upto_region 1 with fail
  rw [← hW1]
  clear hW1
  go_wp2_with fail
  go_end0
  exact ⟨rfl, BW.out⟩
set_option maxRecDepth 100000 in
set_option maxHeartbeats 8000000 in
theorem rSto12 (w : World) (gf fo : Nat) (n m : Int) (hf : gf < w.heap.size) (l : Value) : Calls Tryd.prog 55 #[.pointer (some ⟨gf, fo, none⟩), .agg #[.int .i64 12, .int .i64 n, .int .i64 m], l] w (NoQ w) := by
  obtain ⟨W1, hW1⟩ : ∃ W1, W1 = w.alloc (.cells #[.int .i64 12, .int .i64 n, .int .i64 m] 47) := ⟨_, rfl⟩
  have BW0 : Below w.heap.size w W1 := by rw [hW1]; go_grown
  have BW : Hid (Below w.heap.size w W1) := BW0
  clear BW0
  have i0 : W1.cell? ⟨w.heap.size, 0, none⟩ = some (.int .i64 12) := by rw [hW1]; simp [go_sem]
  have i1 : W1.cell? ⟨w.heap.size, 1, none⟩ = some (.int .i64 n) := by rw [hW1]; simp [go_sem]
  go_enter Tryd.func55, Tryd.ntmps55
  go_upto_region 1 with fail
  rw [← hW1]
  clear hW1
  go_wp2_with fail
  go_end0
  exact ⟨rfl, BW.out⟩
set_option maxRecDepth 100000 in
set_option maxHeartbeats 8000000 in
theorem rSto13 (w : World) (gf fo : Nat) (n m : Int) (hf : gf < w.heap.size) (l : Value) : Calls Tryd.prog 55 #[.pointer (some ⟨gf, fo, none⟩), .agg #[.int .i64 13, .int .i64 n, .int .i64 m], l] w (NoQ w) := by
  obtain ⟨W1, hW1⟩ : ∃ W1, W1 = w.alloc (.cells #[.int .i64 13, .int .i64 n, .int .i64 m] 47) := ⟨_, rfl⟩
  have BW0 : Below w.heap.size w W1 := by rw [hW1]; go_grown
  have BW : Hid (Below w.heap.size w W1) := BW0
  clear BW0
  have i0 : W1.cell? ⟨w.heap.size, 0, none⟩ = some (.int .i64 13) := by rw [hW1]; simp [go_sem]
  have i1 : W1.cell? ⟨w.heap.size, 1, none⟩ = some (.int .i64 n) := by rw [hW1]; simp [go_sem]
  go_enter Tryd.func55, Tryd.ntmps55
  go_upto_region 1 with fail
  rw [← hW1]
  clear hW1
  go_wp2_with fail
  go_end0
  exact ⟨rfl, BW.out⟩
set_option maxRecDepth 100000 in
set_option maxHeartbeats 8000000 in
theorem rSto14 (w : World) (gf fo : Nat) (n m : Int) (hf : gf < w.heap.size) (l : Value) : Calls Tryd.prog 55 #[.pointer (some ⟨gf, fo, none⟩), .agg #[.int .i64 14, .int .i64 n, .int .i64 m], l] w (NoQ w) := by
  obtain ⟨W1, hW1⟩ : ∃ W1, W1 = w.alloc (.cells #[.int .i64 14, .int .i64 n, .int .i64 m] 47) := ⟨_, rfl⟩
  have BW0 : Below w.heap.size w W1 := by rw [hW1]; go_grown
  have BW : Hid (Below w.heap.size w W1) := BW0
  clear BW0
  have i0 : W1.cell? ⟨w.heap.size, 0, none⟩ = some (.int .i64 14) := by rw [hW1]; simp [go_sem]
  have i1 : W1.cell? ⟨w.heap.size, 1, none⟩ = some (.int .i64 n) := by rw [hW1]; simp [go_sem]
  go_enter Tryd.func55, Tryd.ntmps55
  go_upto_region 1 with fail
  rw [← hW1]
  clear hW1
  go_wp2_with fail
  go_end0
  exact ⟨rfl, BW.out⟩
set_option maxRecDepth 100000 in
set_option maxHeartbeats 8000000 in
theorem rSto15 (w : World) (gf fo : Nat) (n m : Int) (hf : gf < w.heap.size) (l : Value) : Calls Tryd.prog 55 #[.pointer (some ⟨gf, fo, none⟩), .agg #[.int .i64 15, .int .i64 n, .int .i64 m], l] w (NoQ w) := by
  obtain ⟨W1, hW1⟩ : ∃ W1, W1 = w.alloc (.cells #[.int .i64 15, .int .i64 n, .int .i64 m] 47) := ⟨_, rfl⟩
  have BW0 : Below w.heap.size w W1 := by rw [hW1]; go_grown
  have BW : Hid (Below w.heap.size w W1) := BW0
  clear BW0
  have i0 : W1.cell? ⟨w.heap.size, 0, none⟩ = some (.int .i64 15) := by rw [hW1]; simp [go_sem]
  have i1 : W1.cell? ⟨w.heap.size, 1, none⟩ = some (.int .i64 n) := by rw [hW1]; simp [go_sem]
  go_enter Tryd.func55, Tryd.ntmps55
  go_upto_region 1 with fail
  rw [← hW1]
  clear hW1
  go_wp2_with fail
  go_end0
  exact ⟨rfl, BW.out⟩
set_option maxRecDepth 100000 in
set_option maxHeartbeats 8000000 in
theorem rSto16 (w : World) (gf fo : Nat) (n m : Int) (hf : gf < w.heap.size) (l : Value) : Calls Tryd.prog 55 #[.pointer (some ⟨gf, fo, none⟩), .agg #[.int .i64 16, .int .i64 n, .int .i64 m], l] w (NoQ w) := by
  obtain ⟨W1, hW1⟩ : ∃ W1, W1 = w.alloc (.cells #[.int .i64 16, .int .i64 n, .int .i64 m] 47) := ⟨_, rfl⟩
  have BW0 : Below w.heap.size w W1 := by rw [hW1]; go_grown
  have BW : Hid (Below w.heap.size w W1) := BW0
  clear BW0
  have i0 : W1.cell? ⟨w.heap.size, 0, none⟩ = some (.int .i64 16) := by rw [hW1]; simp [go_sem]
  have i1 : W1.cell? ⟨w.heap.size, 1, none⟩ = some (.int .i64 n) := by rw [hW1]; simp [go_sem]
  go_enter Tryd.func55, Tryd.ntmps55
  go_upto_region 1 with fail
  rw [← hW1]
  clear hW1
  go_wp2_with fail
  go_end0
  exact ⟨rfl, BW.out⟩
set_option maxRecDepth 100000 in
set_option maxHeartbeats 8000000 in
theorem rSto23 (w : World) (gf fo : Nat) (n m : Int) (hf : gf < w.heap.size) (l : Value) : Calls Tryd.prog 55 #[.pointer (some ⟨gf, fo, none⟩), .agg #[.int .i64 23, .int .i64 n, .int .i64 m], l] w (NoQ w) := by
  obtain ⟨W1, hW1⟩ : ∃ W1, W1 = w.alloc (.cells #[.int .i64 23, .int .i64 n, .int .i64 m] 47) := ⟨_, rfl⟩
  have BW0 : Below w.heap.size w W1 := by rw [hW1]; go_grown
  have BW : Hid (Below w.heap.size w W1) := BW0
  clear BW0
  have i0 : W1.cell? ⟨w.heap.size, 0, none⟩ = some (.int .i64 23) := by rw [hW1]; simp [go_sem]
  have i1 : W1.cell? ⟨w.heap.size, 1, none⟩ = some (.int .i64 n) := by rw [hW1]; simp [go_sem]
  go_enter Tryd.func55, Tryd.ntmps55
  go_upto_region 1 with fail
  rw [← hW1]
  clear hW1
  go_wp2_with fail
  go_end0
  exact ⟨rfl, BW.out⟩
end Go.Proofs.YtkjkiknpgggadaaDoor

