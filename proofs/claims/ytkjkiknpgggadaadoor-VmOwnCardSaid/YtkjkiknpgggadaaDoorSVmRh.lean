/- Layer 9: the document's machine: result: load, index, put. -/
import Derived.Test.YtkjkiknpgggadaaDoorSVmRg
import Derived.BigQuiet
namespace Go.Proofs.YtkjkiknpgggadaaDoor
open Go.RowKit
set_option linter.unusedVariables false
set_option linter.unusedSimpArgs false

set_option maxRecDepth 100000 in
set_option maxHeartbeats 8000000 in
theorem rRes2 (w : World) (p pl mk m x : Int) (n zb k kc : Nat) (sv : Value) (la : Option Addr) (lc : Nat) (hz : zb < w.heap.size) (hn : n < k) (hx : w.cell? ⟨zb, n, none⟩ = some (.int .i64 x)) : Calls Tryd.prog 54 #[.agg #[.int .i64 p, .int .i64 pl, .int .i64 mk, .slice (some ⟨zb, 0, none⟩) k kc, sv], .agg #[.int .i64 2, .int .i64 n, .int .i64 m], .slice la 0 lc] w (ResQ w ([x], 0)) := by
  obtain ⟨W1, hW1⟩ : ∃ W1, W1 = (w.alloc (.cells #[.int .i64 p, .int .i64 pl, .int .i64 mk, .slice (some ⟨zb, 0, none⟩) k kc, sv] 60)).alloc (.cells #[.int .i64 2, .int .i64 n, .int .i64 m] 47) := ⟨_, rfl⟩
  have BW0 : Below w.heap.size w W1 := by rw [hW1]; go_grown
  have BW : Hid (Below w.heap.size w W1) := BW0
  clear BW0
  have c3 : W1.cell? ⟨w.heap.size, 3, none⟩ = some (.slice (some ⟨zb, 0, none⟩) k kc) := by rw [hW1]; simp [go_sem]
  have i0 : W1.cell? ⟨w.heap.size + 1, 0, none⟩ = some (.int .i64 2) := by rw [hW1]; simp [go_sem]
  have i1 : W1.cell? ⟨w.heap.size + 1, 1, none⟩ = some (.int .i64 n) := by rw [hW1]; simp [go_sem]
  have i2 : W1.cell? ⟨w.heap.size + 1, 2, none⟩ = some (.int .i64 m) := by rw [hW1]; simp [go_sem]
  have hni : (n : Int) < (k : Int) := by omega
  have z1 := (BW.out.cell (p := ⟨zb, n, none⟩) hz).trans hx
  go_enter Tryd.func54, Tryd.ntmps54
  go_upto_region 1 with fail
  rw [← hW1]
  clear hW1
  go_wp2_with fail
  go_ret2
  exact ResQ.one BW.out rfl
set_option maxRecDepth 100000 in
set_option maxHeartbeats 8000000 in
theorem rRes4n (w : World) (p pl mk m a : Int) (n zb k kc : Nat) (sv : Value) (gl ol lc : Nat) (hg : gl < w.heap.size) (c0 : w.cell? ⟨gl, ol, none⟩ = some (.int .i64 a)) (ha : a < 0) : Calls Tryd.prog 54 #[.agg #[.int .i64 p, .int .i64 pl, .int .i64 mk, .slice (some ⟨zb, 0, none⟩) k kc, sv], .agg #[.int .i64 4, .int .i64 n, .int .i64 m], .slice (some ⟨gl, ol, none⟩) 1 lc] w (ResQ w ([], 2)) := by
  obtain ⟨W1, hW1⟩ : ∃ W1, W1 = (w.alloc (.cells #[.int .i64 p, .int .i64 pl, .int .i64 mk, .slice (some ⟨zb, 0, none⟩) k kc, sv] 60)).alloc (.cells #[.int .i64 4, .int .i64 n, .int .i64 m] 47) := ⟨_, rfl⟩
  have BW0 : Below w.heap.size w W1 := by rw [hW1]; go_grown
  have BW : Hid (Below w.heap.size w W1) := BW0
  clear BW0
  have c3 : W1.cell? ⟨w.heap.size, 3, none⟩ = some (.slice (some ⟨zb, 0, none⟩) k kc) := by rw [hW1]; simp [go_sem]
  have i0 : W1.cell? ⟨w.heap.size + 1, 0, none⟩ = some (.int .i64 4) := by rw [hW1]; simp [go_sem]
  have i1 : W1.cell? ⟨w.heap.size + 1, 1, none⟩ = some (.int .i64 n) := by rw [hW1]; simp [go_sem]
  have i2 : W1.cell? ⟨w.heap.size + 1, 2, none⟩ = some (.int .i64 m) := by rw [hW1]; simp [go_sem]
  have l0 := (BW.out.cell (p := ⟨gl, ol, none⟩) hg).trans c0
  have d0 : decide (a < 0) = true := decide_eq_true ha
  go_enter Tryd.func54, Tryd.ntmps54
  go_upto_region 1 with fail
  rw [← hW1]
  clear hW1
  go_wp2_with fail
  go_ret2
  exact ⟨BW.out, .inl ⟨rfl, rfl⟩⟩
set_option maxRecDepth 100000 in
set_option maxHeartbeats 8000000 in
theorem rRes4g (w : World) (p pl mk m a : Int) (n zb k kc : Nat) (sv : Value) (gl ol lc : Nat) (hg : gl < w.heap.size) (c0 : w.cell? ⟨gl, ol, none⟩ = some (.int .i64 a)) (ha : ¬ a < 0) (hm : m ≤ a) : Calls Tryd.prog 54 #[.agg #[.int .i64 p, .int .i64 pl, .int .i64 mk, .slice (some ⟨zb, 0, none⟩) k kc, sv], .agg #[.int .i64 4, .int .i64 n, .int .i64 m], .slice (some ⟨gl, ol, none⟩) 1 lc] w (ResQ w ([], 2)) := by
  obtain ⟨W1, hW1⟩ : ∃ W1, W1 = (w.alloc (.cells #[.int .i64 p, .int .i64 pl, .int .i64 mk, .slice (some ⟨zb, 0, none⟩) k kc, sv] 60)).alloc (.cells #[.int .i64 4, .int .i64 n, .int .i64 m] 47) := ⟨_, rfl⟩
  have BW0 : Below w.heap.size w W1 := by rw [hW1]; go_grown
  have BW : Hid (Below w.heap.size w W1) := BW0
  clear BW0
  have c3 : W1.cell? ⟨w.heap.size, 3, none⟩ = some (.slice (some ⟨zb, 0, none⟩) k kc) := by rw [hW1]; simp [go_sem]
  have i0 : W1.cell? ⟨w.heap.size + 1, 0, none⟩ = some (.int .i64 4) := by rw [hW1]; simp [go_sem]
  have i1 : W1.cell? ⟨w.heap.size + 1, 1, none⟩ = some (.int .i64 n) := by rw [hW1]; simp [go_sem]
  have i2 : W1.cell? ⟨w.heap.size + 1, 2, none⟩ = some (.int .i64 m) := by rw [hW1]; simp [go_sem]
  have l0 := (BW.out.cell (p := ⟨gl, ol, none⟩) hg).trans c0
  have d0 : decide (a < 0) = false := decide_eq_false ha
  have d1 : decide (m ≤ a) = true := decide_eq_true hm
  go_enter Tryd.func54, Tryd.ntmps54
  go_upto_region 1 with fail
  rw [← hW1]
  clear hW1
  go_wp2_with fail
  go_ret2
  exact ⟨BW.out, .inl ⟨rfl, rfl⟩⟩
set_option maxRecDepth 100000 in
set_option maxHeartbeats 8000000 in
theorem rRes4 (w : World) (p pl mk m x : Int) (n zb k kc : Nat) (sv : Value) (a : Nat) (gl ol lc : Nat) (hg : gl < w.heap.size) (c0 : w.cell? ⟨gl, ol, none⟩ = some (.int .i64 a)) (ham : (a : Int) < m) (hz : zb < w.heap.size) (hn : n + a < k) (hk : k ≤ 65536) (hx : w.cell? ⟨zb, n + a, none⟩ = some (.int .i64 x)) : Calls Tryd.prog 54 #[.agg #[.int .i64 p, .int .i64 pl, .int .i64 mk, .slice (some ⟨zb, 0, none⟩) k kc, sv], .agg #[.int .i64 4, .int .i64 n, .int .i64 m], .slice (some ⟨gl, ol, none⟩) 1 lc] w (ResQ w ([x], 0)) := by
  obtain ⟨W1, hW1⟩ : ∃ W1, W1 = (w.alloc (.cells #[.int .i64 p, .int .i64 pl, .int .i64 mk, .slice (some ⟨zb, 0, none⟩) k kc, sv] 60)).alloc (.cells #[.int .i64 4, .int .i64 n, .int .i64 m] 47) := ⟨_, rfl⟩
  have BW0 : Below w.heap.size w W1 := by rw [hW1]; go_grown
  have BW : Hid (Below w.heap.size w W1) := BW0
  clear BW0
  have c3 : W1.cell? ⟨w.heap.size, 3, none⟩ = some (.slice (some ⟨zb, 0, none⟩) k kc) := by rw [hW1]; simp [go_sem]
  have i0 : W1.cell? ⟨w.heap.size + 1, 0, none⟩ = some (.int .i64 4) := by rw [hW1]; simp [go_sem]
  have i1 : W1.cell? ⟨w.heap.size + 1, 1, none⟩ = some (.int .i64 n) := by rw [hW1]; simp [go_sem]
  have i2 : W1.cell? ⟨w.heap.size + 1, 2, none⟩ = some (.int .i64 m) := by rw [hW1]; simp [go_sem]
  have l0 := (BW.out.cell (p := ⟨gl, ol, none⟩) hg).trans c0
  have z1 := (BW.out.cell (p := ⟨zb, n + a, none⟩) hz).trans hx
  have ha : ¬ (a : Int) < 0 := by omega
  have d0 : decide ((a : Int) < 0) = false := decide_eq_false ha
  have hm : ¬ m ≤ (a : Int) := by omega
  have d1 : decide (m ≤ (a : Int)) = false := decide_eq_false hm
  have hni : (n : Int) + (a : Int) < (k : Int) := by omega
  have hn0 : (0 : Int) ≤ (n : Int) + (a : Int) := by omega
  have hw : wrap64 ((n : Int) + (a : Int)) = ((n + a : Nat) : Int) := by unfold wrap64; omega
  go_enter Tryd.func54, Tryd.ntmps54
  go_upto_region 1 with fail
  rw [← hW1]
  clear hW1
  go_wp2_with fail
  go_ret2
  exact ResQ.one BW.out rfl
set_option maxRecDepth 100000 in
set_option maxHeartbeats 8000000 in
theorem rRes5n (w : World) (p pl mk m a b : Int) (n zb k kc : Nat) (sv : Value) (gl ol lc : Nat) (hg : gl < w.heap.size) (c0 : w.cell? ⟨gl, ol, none⟩ = some (.int .i64 a)) (c1 : w.cell? ⟨gl, ol + 1, none⟩ = some (.int .i64 b)) (ha : a < 0) : Calls Tryd.prog 54 #[.agg #[.int .i64 p, .int .i64 pl, .int .i64 mk, .slice (some ⟨zb, 0, none⟩) k kc, sv], .agg #[.int .i64 5, .int .i64 n, .int .i64 m], .slice (some ⟨gl, ol, none⟩) 2 lc] w (ResQ w ([], 2)) := by
  obtain ⟨W1, hW1⟩ : ∃ W1, W1 = (w.alloc (.cells #[.int .i64 p, .int .i64 pl, .int .i64 mk, .slice (some ⟨zb, 0, none⟩) k kc, sv] 60)).alloc (.cells #[.int .i64 5, .int .i64 n, .int .i64 m] 47) := ⟨_, rfl⟩
  have BW0 : Below w.heap.size w W1 := by rw [hW1]; go_grown
  have BW : Hid (Below w.heap.size w W1) := BW0
  clear BW0
  have c3 : W1.cell? ⟨w.heap.size, 3, none⟩ = some (.slice (some ⟨zb, 0, none⟩) k kc) := by rw [hW1]; simp [go_sem]
  have i0 : W1.cell? ⟨w.heap.size + 1, 0, none⟩ = some (.int .i64 5) := by rw [hW1]; simp [go_sem]
  have i1 : W1.cell? ⟨w.heap.size + 1, 1, none⟩ = some (.int .i64 n) := by rw [hW1]; simp [go_sem]
  have i2 : W1.cell? ⟨w.heap.size + 1, 2, none⟩ = some (.int .i64 m) := by rw [hW1]; simp [go_sem]
  have l0 := (BW.out.cell (p := ⟨gl, ol, none⟩) hg).trans c0
  have l1 := (BW.out.cell (p := ⟨gl, ol + 1, none⟩) hg).trans c1
  have d0 : decide (a < 0) = true := decide_eq_true ha
  go_enter Tryd.func54, Tryd.ntmps54
  go_upto_region 1 with fail
  rw [← hW1]
  clear hW1
  go_wp2_with fail
  go_ret2
  exact ⟨BW.out, .inl ⟨rfl, rfl⟩⟩
set_option maxRecDepth 100000 in
set_option maxHeartbeats 8000000 in
theorem rRes5g (w : World) (p pl mk m a b : Int) (n zb k kc : Nat) (sv : Value) (gl ol lc : Nat) (hg : gl < w.heap.size) (c0 : w.cell? ⟨gl, ol, none⟩ = some (.int .i64 a)) (c1 : w.cell? ⟨gl, ol + 1, none⟩ = some (.int .i64 b)) (ha : ¬ a < 0) (hm : m ≤ a) : Calls Tryd.prog 54 #[.agg #[.int .i64 p, .int .i64 pl, .int .i64 mk, .slice (some ⟨zb, 0, none⟩) k kc, sv], .agg #[.int .i64 5, .int .i64 n, .int .i64 m], .slice (some ⟨gl, ol, none⟩) 2 lc] w (ResQ w ([], 2)) := by
  obtain ⟨W1, hW1⟩ : ∃ W1, W1 = (w.alloc (.cells #[.int .i64 p, .int .i64 pl, .int .i64 mk, .slice (some ⟨zb, 0, none⟩) k kc, sv] 60)).alloc (.cells #[.int .i64 5, .int .i64 n, .int .i64 m] 47) := ⟨_, rfl⟩
  have BW0 : Below w.heap.size w W1 := by rw [hW1]; go_grown
  have BW : Hid (Below w.heap.size w W1) := BW0
  clear BW0
  have c3 : W1.cell? ⟨w.heap.size, 3, none⟩ = some (.slice (some ⟨zb, 0, none⟩) k kc) := by rw [hW1]; simp [go_sem]
  have i0 : W1.cell? ⟨w.heap.size + 1, 0, none⟩ = some (.int .i64 5) := by rw [hW1]; simp [go_sem]
  have i1 : W1.cell? ⟨w.heap.size + 1, 1, none⟩ = some (.int .i64 n) := by rw [hW1]; simp [go_sem]
  have i2 : W1.cell? ⟨w.heap.size + 1, 2, none⟩ = some (.int .i64 m) := by rw [hW1]; simp [go_sem]
  have l0 := (BW.out.cell (p := ⟨gl, ol, none⟩) hg).trans c0
  have l1 := (BW.out.cell (p := ⟨gl, ol + 1, none⟩) hg).trans c1
  have d0 : decide (a < 0) = false := decide_eq_false ha
  have d1 : decide (m ≤ a) = true := decide_eq_true hm
  go_enter Tryd.func54, Tryd.ntmps54
  go_upto_region 1 with fail
  rw [← hW1]
  clear hW1
  go_wp2_with fail
  go_ret2
  exact ⟨BW.out, .inl ⟨rfl, rfl⟩⟩
set_option maxRecDepth 100000 in
set_option maxHeartbeats 8000000 in
theorem rRes5 (w : World) (p pl mk m a b : Int) (n zb k kc : Nat) (sv : Value) (gl ol lc : Nat) (hg : gl < w.heap.size) (c0 : w.cell? ⟨gl, ol, none⟩ = some (.int .i64 a)) (c1 : w.cell? ⟨gl, ol + 1, none⟩ = some (.int .i64 b)) (ha : ¬ a < 0) (hm : ¬ m ≤ a) : Calls Tryd.prog 54 #[.agg #[.int .i64 p, .int .i64 pl, .int .i64 mk, .slice (some ⟨zb, 0, none⟩) k kc, sv], .agg #[.int .i64 5, .int .i64 n, .int .i64 m], .slice (some ⟨gl, ol, none⟩) 2 lc] w (ResQ w ([], 0)) := by
  obtain ⟨W1, hW1⟩ : ∃ W1, W1 = (w.alloc (.cells #[.int .i64 p, .int .i64 pl, .int .i64 mk, .slice (some ⟨zb, 0, none⟩) k kc, sv] 60)).alloc (.cells #[.int .i64 5, .int .i64 n, .int .i64 m] 47) := ⟨_, rfl⟩
  have BW0 : Below w.heap.size w W1 := by rw [hW1]; go_grown
  have BW : Hid (Below w.heap.size w W1) := BW0
  clear BW0
  have c3 : W1.cell? ⟨w.heap.size, 3, none⟩ = some (.slice (some ⟨zb, 0, none⟩) k kc) := by rw [hW1]; simp [go_sem]
  have i0 : W1.cell? ⟨w.heap.size + 1, 0, none⟩ = some (.int .i64 5) := by rw [hW1]; simp [go_sem]
  have i1 : W1.cell? ⟨w.heap.size + 1, 1, none⟩ = some (.int .i64 n) := by rw [hW1]; simp [go_sem]
  have i2 : W1.cell? ⟨w.heap.size + 1, 2, none⟩ = some (.int .i64 m) := by rw [hW1]; simp [go_sem]
  have l0 := (BW.out.cell (p := ⟨gl, ol, none⟩) hg).trans c0
  have l1 := (BW.out.cell (p := ⟨gl, ol + 1, none⟩) hg).trans c1
  have d0 : decide (a < 0) = false := decide_eq_false ha
  have d1 : decide (m ≤ a) = false := decide_eq_false hm
  go_enter Tryd.func54, Tryd.ntmps54
  go_upto_region 1 with fail
  rw [← hW1]
  clear hW1
  go_wp2_with fail
  go_ret2
  exact ⟨BW.out, .inl ⟨rfl, rfl⟩⟩
end Go.Proofs.YtkjkiknpgggadaaDoor

