/- Layer 9: cellsOf from the box alone; a machine whose last cells hold whatever stood there. -/
import Derived.Test.YtodpdnidinnjjaaDoorUVmW
import Derived.Laws.IdiomCopy
namespace Go.Proofs.YtodpdnidinnjjaaDoor
open Go.RowKit
set_option linter.unusedVariables false
set_option linter.unusedSimpArgs false

set_option maxRecDepth 100000 in
set_option maxHeartbeats 8000000 in
theorem vmCellsB (m : Nat) (w : World) (p NC ccp gc oc : Nat) (k g n q cap : Nat) (hml : m < w.heap.size) (hgc : gc < w.heap.size) (c0 : w.cell? ⟨m, 0, none⟩ = some (.slice (some ⟨gc, oc, none⟩) NC ccp)) (hpl : p < NC) (cc : w.cell? ⟨gc, oc + p * 4 + 1, none⟩ = some (.int .i64 k)) (c11 : w.cell? ⟨m, 11, none⟩ = some (.slice (some ⟨g, 0, none⟩) n cap)) (hk1 : 0 < k) (hqk : q + k ≤ cap) (hl : q + k ≤ 100000000) :
    Calls Tryd.prog 54 #[.pointer (some ⟨m, 0, none⟩), .agg #[.int .i64 p, .int .i64 0, .int .i64 (-1), .int .i64 (q : Int)]] w fun e w' => e = .returned (.slice (some ⟨g, q, none⟩) k (cap - q)) ∧ Below w.heap.size w w' := by
  obtain ⟨W1, hW1⟩ : ∃ W1, W1 = w.alloc (.cells #[.int .i64 p, .int .i64 0, .int .i64 (-1), .int .i64 (q : Int)] 74) := ⟨_, rfl⟩
  obtain ⟨fb, hfb⟩ : ∃ fb, fb = w.heap.size := ⟨_, rfl⟩
  have b1 : Below w.heap.size w W1 := by rw [hW1]; exact (Below.refl _ _).alloc (Nat.le_refl _) _
  have p0 : W1.cell? ⟨fb, 0, none⟩ = some (.int .i64 p) := by rw [hW1, hfb]; simp [go_sem]
  have p3 : W1.cell? ⟨fb, 3, none⟩ = some (.int .i64 (q : Int)) := by rw [hW1, hfb]; simp [go_sem]
  have d0 := (b1.cell (p := ⟨m, 0, none⟩) hml).trans c0
  have d11 := (b1.cell (p := ⟨m, 11, none⟩) hml).trans c11
  have dc := (b1.cell (p := ⟨gc, oc + p * 4 + 1, none⟩) hgc).trans cc
  have BW : Hid (Below w.heap.size w W1) := b1
  have hpi : (p : Int) < (NC : Int) := by omega
  have hp0 : (0 : Int) ≤ (p : Int) := by omega
  have hq0 : (0 : Int) ≤ (q : Int) := by omega
  have hqk : (q : Int) ≤ (q : Int) + (k : Int) := by omega
  have hqc : (q : Int) + (k : Int) ≤ (cap : Int) := by omega
  have hqb : (q : Int) + (k : Int) ≤ 100000000 := by omega
  have hn1 : ¬ cap - q = 0 := by omega
  have hn2 : (cap - q == 0) = false := beq_eq_false_iff_ne.2 hn1
  have hn3 : ¬ (cap : Int) - (q : Int) = 0 := by omega
  have hn4 : ¬ cap = q := by omega
  have hn5 : ¬ cap ≤ q := by omega
  have hn6 : q < cap := by omega
  have hn7 : (q : Int) < (cap : Int) := by omega
  clear b1 c0 c11 cc hml hgc
  go_enter Tryd.func54, Tryd.ntmps54
  go_upto_region 1 with fail
  rw [← hW1, ← hfb]
  clear hW1 hfb
  go_wp2_with fail
  go_quiet (fail)
  have BQ := below_drewN BW.out nq
  clear d0 d11 dc p0 p3 BW
  generalize W1.drewN nq = W5 at BQ ⊢
  go_wp2_with fail
  go_ret
  refine ⟨?_, BQ⟩
  first
    | rfl
    | (simp; done)
    | (congr 2 <;> omega)
set_option maxRecDepth 100000 in
set_option maxHeartbeats 8000000 in
theorem vmCellsZN (m : Nat) (w : World) (p NC ccp gc oc : Nat)  (hml : m < w.heap.size) (hgc : gc < w.heap.size) (c0 : w.cell? ⟨m, 0, none⟩ = some (.slice (some ⟨gc, oc, none⟩) NC ccp)) (hpl : p < NC) (cc : w.cell? ⟨gc, oc + p * 4 + 1, none⟩ = some (.int .i64 0)) (c11 : w.cell? ⟨m, 11, none⟩ = some (.slice none 0 0)) :
    Calls Tryd.prog 54 #[.pointer (some ⟨m, 0, none⟩), .agg #[.int .i64 p, .int .i64 0, .int .i64 (-1), .int .i64 0]] w fun e w' => (∃ a c, e = .returned (.slice a 0 c)) ∧ Below w.heap.size w w' := by
  obtain ⟨W1, hW1⟩ : ∃ W1, W1 = w.alloc (.cells #[.int .i64 p, .int .i64 0, .int .i64 (-1), .int .i64 0] 74) := ⟨_, rfl⟩
  obtain ⟨fb, hfb⟩ : ∃ fb, fb = w.heap.size := ⟨_, rfl⟩
  have b1 : Below w.heap.size w W1 := by rw [hW1]; exact (Below.refl _ _).alloc (Nat.le_refl _) _
  have p0 : W1.cell? ⟨fb, 0, none⟩ = some (.int .i64 p) := by rw [hW1, hfb]; simp [go_sem]
  have p3 : W1.cell? ⟨fb, 3, none⟩ = some (.int .i64 0) := by rw [hW1, hfb]; simp [go_sem]
  have d0 := (b1.cell (p := ⟨m, 0, none⟩) hml).trans c0
  have d11 := (b1.cell (p := ⟨m, 11, none⟩) hml).trans c11
  have dc := (b1.cell (p := ⟨gc, oc + p * 4 + 1, none⟩) hgc).trans cc
  have BW : Hid (Below w.heap.size w W1) := b1
  have hpi : (p : Int) < (NC : Int) := by omega
  have hp0 : (0 : Int) ≤ (p : Int) := by omega
  clear b1 c0 c11 cc hml hgc
  go_enter Tryd.func54, Tryd.ntmps54
  go_upto_region 1 with fail
  rw [← hW1, ← hfb]
  clear hW1 hfb
  go_wp2_with fail
  go_quiet (fail)
  have BQ := below_drewN BW.out nq
  clear d0 d11 dc p0 p3 BW
  generalize W1.drewN nq = W5 at BQ ⊢
  go_wp2_with fail
  go_ret
  exact ⟨⟨_, _, by first | rfl | (simp; done)⟩, BQ⟩
set_option maxRecDepth 100000 in
set_option maxHeartbeats 8000000 in
theorem vmCellsZE (m : Nat) (w : World) (p NC ccp gc oc : Nat) (g n q : Nat) (hml : m < w.heap.size) (hgc : gc < w.heap.size) (c0 : w.cell? ⟨m, 0, none⟩ = some (.slice (some ⟨gc, oc, none⟩) NC ccp)) (hpl : p < NC) (cc : w.cell? ⟨gc, oc + p * 4 + 1, none⟩ = some (.int .i64 0)) (c11 : w.cell? ⟨m, 11, none⟩ = some (.slice (some ⟨g, 0, none⟩) n q)) (hl : q ≤ 100000000) :
    Calls Tryd.prog 54 #[.pointer (some ⟨m, 0, none⟩), .agg #[.int .i64 p, .int .i64 0, .int .i64 (-1), .int .i64 (q : Int)]] w fun e w' => (∃ a c, e = .returned (.slice a 0 c)) ∧ Below w.heap.size w w' := by
  obtain ⟨W1, hW1⟩ : ∃ W1, W1 = w.alloc (.cells #[.int .i64 p, .int .i64 0, .int .i64 (-1), .int .i64 (q : Int)] 74) := ⟨_, rfl⟩
  obtain ⟨fb, hfb⟩ : ∃ fb, fb = w.heap.size := ⟨_, rfl⟩
  have b1 : Below w.heap.size w W1 := by rw [hW1]; exact (Below.refl _ _).alloc (Nat.le_refl _) _
  have p0 : W1.cell? ⟨fb, 0, none⟩ = some (.int .i64 p) := by rw [hW1, hfb]; simp [go_sem]
  have p3 : W1.cell? ⟨fb, 3, none⟩ = some (.int .i64 (q : Int)) := by rw [hW1, hfb]; simp [go_sem]
  have d0 := (b1.cell (p := ⟨m, 0, none⟩) hml).trans c0
  have d11 := (b1.cell (p := ⟨m, 11, none⟩) hml).trans c11
  have dc := (b1.cell (p := ⟨gc, oc + p * 4 + 1, none⟩) hgc).trans cc
  have BW : Hid (Below w.heap.size w W1) := b1
  have hpi : (p : Int) < (NC : Int) := by omega
  have hp0 : (0 : Int) ≤ (p : Int) := by omega
  have hq0 : (0 : Int) ≤ (q : Int) := by omega
  have hqb : (q : Int) ≤ 100000000 := by omega
  have hqz : q - q = 0 := by omega
  clear b1 c0 c11 cc hml hgc
  go_enter Tryd.func54, Tryd.ntmps54
  go_upto_region 1 with fail
  rw [← hW1, ← hfb]
  clear hW1 hfb
  go_wp2_with fail
  go_quiet (fail)
  have BQ := below_drewN BW.out nq
  clear d0 d11 dc p0 p3 BW
  generalize W1.drewN nq = W5 at BQ ⊢
  go_wp2_with fail
  go_ret
  exact ⟨⟨_, _, by first | rfl | (simp; done)⟩, BQ⟩
set_option maxRecDepth 100000 in
set_option maxHeartbeats 8000000 in
theorem vmCellsZR (m : Nat) (w : World) (p NC ccp gc oc : Nat) (g n q cap : Nat) (hml : m < w.heap.size) (hgc : gc < w.heap.size) (c0 : w.cell? ⟨m, 0, none⟩ = some (.slice (some ⟨gc, oc, none⟩) NC ccp)) (hpl : p < NC) (cc : w.cell? ⟨gc, oc + p * 4 + 1, none⟩ = some (.int .i64 0)) (c11 : w.cell? ⟨m, 11, none⟩ = some (.slice (some ⟨g, 0, none⟩) n cap)) (hqc : q < cap) (hl : q ≤ 100000000) :
    Calls Tryd.prog 54 #[.pointer (some ⟨m, 0, none⟩), .agg #[.int .i64 p, .int .i64 0, .int .i64 (-1), .int .i64 (q : Int)]] w fun e w' => (∃ a c, e = .returned (.slice a 0 c)) ∧ Below w.heap.size w w' := by
  obtain ⟨W1, hW1⟩ : ∃ W1, W1 = w.alloc (.cells #[.int .i64 p, .int .i64 0, .int .i64 (-1), .int .i64 (q : Int)] 74) := ⟨_, rfl⟩
  obtain ⟨fb, hfb⟩ : ∃ fb, fb = w.heap.size := ⟨_, rfl⟩
  have b1 : Below w.heap.size w W1 := by rw [hW1]; exact (Below.refl _ _).alloc (Nat.le_refl _) _
  have p0 : W1.cell? ⟨fb, 0, none⟩ = some (.int .i64 p) := by rw [hW1, hfb]; simp [go_sem]
  have p3 : W1.cell? ⟨fb, 3, none⟩ = some (.int .i64 (q : Int)) := by rw [hW1, hfb]; simp [go_sem]
  have d0 := (b1.cell (p := ⟨m, 0, none⟩) hml).trans c0
  have d11 := (b1.cell (p := ⟨m, 11, none⟩) hml).trans c11
  have dc := (b1.cell (p := ⟨gc, oc + p * 4 + 1, none⟩) hgc).trans cc
  have BW : Hid (Below w.heap.size w W1) := b1
  have hpi : (p : Int) < (NC : Int) := by omega
  have hp0 : (0 : Int) ≤ (p : Int) := by omega
  have hq0 : (0 : Int) ≤ (q : Int) := by omega
  have hqb : (q : Int) ≤ 100000000 := by omega
  have hqc : (q : Int) ≤ (cap : Int) := by omega
  have hn1 : ¬ cap - q = 0 := by omega
  have hn3 : ¬ (cap : Int) - (q : Int) = 0 := by omega
  have hn4 : ¬ cap = q := by omega
  have hn5 : ¬ cap ≤ q := by omega
  have hn7 : (q : Int) < (cap : Int) := by omega
  clear b1 c0 c11 cc hml hgc
  go_enter Tryd.func54, Tryd.ntmps54
  go_upto_region 1 with fail
  rw [← hW1, ← hfb]
  clear hW1 hfb
  go_wp2_with fail
  go_quiet (fail)
  have BQ := below_drewN BW.out nq
  clear d0 d11 dc p0 p3 BW
  generalize W1.drewN nq = W5 at BQ ⊢
  go_wp2_with fail
  go_ret
  exact ⟨⟨_, _, by first | rfl | (simp; done)⟩, BQ⟩
/-- The machine, whose row of cells holds ys. -/
structure VmX (m : Nat) (w : World) (V : VmV) (M : Vm.Mc) (n : Nat) (ys : List Value) : Prop where
  box : w.heap[m]? = some (vmB V M)
  rows : VmR M.g w (m + 1) (stR V M) (evR V M) (frR V M) ⟨2, 1, V.cv, n, ys⟩
  co : CoW M.g.lo m w V.ca M.codes
  inp : NuW M.g.lo m w V.ia M.input
theorem VmX.lt {m n : Nat} {w : World} {V : VmV} {M : Vm.Mc} {ys : List Value} (h : VmX m w V M n ys) : m < w.heap.size := (Array.getElem?_eq_some_iff.1 h.box).1
theorem VmX.later {m n : Nat} {w w' : World} {V : VmV} {M : Vm.Mc} {ys : List Value} (h : VmX m w V M n ys) (b : Below w.heap.size w w') : VmX m w' V M n ys :=
  ⟨(b.block m h.lt).trans h.box, h.rows.later b, h.co.later (b.mono (Nat.le_of_lt h.lt)), h.inp.later (b.mono (Nat.le_of_lt h.lt))⟩
theorem VmX.s {m n : Nat} {w : World} {V : VmV} {M : Vm.Mc} {ys : List Value} {cs : List Int} (h : VmX m w V M n ys) (hn : n = cs.length) (hy : ys = nC cs) : VmS m w V { M with cells := cs } := by
  subst hn hy
  exact ⟨h.box, h.rows, h.co, h.inp⟩
theorem VmX.put {m n g cap i : Nat} {w : World} {V : VmV} {M : Vm.Mc} {ys : List Value} (h : VmX m w V M n ys) (hv : V.cv = .slice (some ⟨g, 0, none⟩) n cap) (hg : m < g) (hi : i < n) (u : Value) : Below m w (w.setCell ⟨g, i, none⟩ u) ∧ VmX m (w.setCell ⟨g, i, none⟩ u) V M n (ys.set i u) := by
  have b : Below m w (w.setCell ⟨g, i, none⟩ u) := ⟨rfl, rfl, rfl, by simp, fun j hj => heap_setCell_other _ _ j _ (by simp; omega)⟩
  have r := (h.rows.swap3.put (g := g) (cap := cap) (i := i) hv (by show i < n * 1; omega) u).swap3
  exact ⟨b, ⟨by rw [heap_setCell_other _ _ m _ (by simp; omega), h.box], r, h.co.later b, h.inp.later b⟩⟩
/-- Cells from o on. -/
def VmX.st : List Value → Nat → List Value → List Value
  | ys, _, [] => ys
  | ys, o, u :: us => VmX.st (ys.set o u) (o + 1) us
theorem VmX.st_len : ∀ (us ys : List Value) (o : Nat), (VmX.st ys o us).length = ys.length
  | [], ys, o => rfl
  | u :: us, ys, o => by rw [VmX.st, VmX.st_len us]; simp
theorem VmX.st_app : ∀ (us xs zs rs : List Value), us.length = zs.length → VmX.st (xs ++ (zs ++ rs)) xs.length us = xs ++ (us ++ rs)
  | [], xs, zs, rs, h => by
    have : zs = [] := List.length_eq_zero_iff.1 h.symm
    subst this
    rfl
  | u :: us, xs, [], rs, h => by cases h
  | u :: us, xs, z :: zs, rs, h => by
    have e : (xs ++ (z :: zs ++ rs)).set xs.length u = (xs ++ [u]) ++ (zs ++ rs) := by
      rw [List.set_append_right _ _ (Nat.le_refl _)]
      simp
    have e2 := VmX.st_app us (xs ++ [u]) zs rs (by simpa using h)
    rw [VmX.st, e]
    rw [List.length_append, List.length_singleton] at e2
    rw [e2]
    simp
theorem VmX.puts {m g cap n : Nat} {V : VmV} {M : Vm.Mc} (hv : V.cv = .slice (some ⟨g, 0, none⟩) n cap) (hg : m < g) : ∀ (us : List Value) (w : World) (ys : List Value) (o : Nat), VmX m w V M n ys → o + us.length ≤ n → Below m w (w.setCells g o us) ∧ VmX m (w.setCells g o us) V M n (VmX.st ys o us)
  | [], w, ys, o, h, ho => ⟨Below.refl _ _, h⟩
  | u :: us, w, ys, o, h, ho => by
    have q := h.put hv hg (i := o) (by simp at ho; omega) u
    have r := VmX.puts hv hg us _ _ (o + 1) q.2 (by simp at ho; omega)
    exact ⟨q.1.trans r.1, r.2⟩
theorem own_ext {w : World} {base : Nat} {e : TypeId} {n c k : Nat} {a : Option Addr} {xs : List Value} (h : w.ownsRow base e 1 (.slice a n c) n xs) (hk : n + k ≤ c) : ∃ us : List Value, us.length = k ∧ w.ownsRow base e 1 (.slice a (n + k) c) (n + k) (xs ++ us) := by
  have hl := h.1
  rcases h.2 with ⟨hv, h0⟩ | ⟨g', cap', cur, hv, hb, hh, h1, h2, h3, h4⟩
  · injection hv with e1 e2 e3
    obtain rfl : k = 0 := by omega
    exact ⟨[], rfl, by simpa using h⟩
  · cases hv
    refine ⟨(cur.toList.drop n).take k, by rw [List.length_take, List.length_drop, Array.length_toList, h3]; omega, ?_, .inr ⟨g', c, cur, rfl, hb, hh, hk, h2, h3, ?_⟩⟩
    · rw [List.length_append, hl, List.length_take, List.length_drop, Array.length_toList, h3]
      omega
    · rw [← h4, Nat.mul_one, Nat.mul_one, List.take_add]
end Go.Proofs.YtodpdnidinnjjaaDoor
