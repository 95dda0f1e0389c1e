/- Layer 9: the document's machine: what an operation leaves of two numbers. -/
import Derived.Test.YtkjkiknpgggadaaDoorSVmRe
namespace Go.Proofs.YtkjkiknpgggadaaDoor
open Go.RowKit
set_option linter.unusedVariables false
set_option linter.unusedSimpArgs false

def ResQ (w : World) (r : List Int × Int) (e : Ending) (w' : World) : Prop := Below w.heap.size w w' ∧ ((r.1 = [] ∧ e = .returned (.tuple #[.slice none 0 0, .int .i64 r.2])) ∨ ∃ x g, r.1 = [x] ∧ e = .returned (.tuple #[.slice (some ⟨g, 0, none⟩) 1 1, .int .i64 r.2]) ∧ w.heap.size ≤ g ∧ g < w'.heap.size ∧ w'.cell? ⟨g, 0, none⟩ = some (.int .i64 x))
theorem rTruth (b : Bool) (w : World) : Calls Tryd.prog 68 #[.bool b] w fun e w' => e = .returned (.int .i64 (if b then 1 else 0)) ∧ w' = w := by
  cases b <;> (go_enter Tryd.func68, Tryd.ntmps68; go_wp2_with fail; go_ret; exact ⟨rfl, rfl⟩)
theorem ResQ.one {w W w' : World} {x : Int} (h : Below w.heap.size w W) (y : w' = W.alloc (.cells #[.int .i64 x] 2)) : ResQ w ([x], 0) (.returned (.tuple #[.slice (some ⟨W.heap.size, 0, none⟩) 1 1, .int .i64 0])) w' := by
  subst y
  refine ⟨h.trans (((Below.refl _ _).alloc (Nat.le_refl _) _).mono h.size), .inr ⟨x, _, rfl, rfl, h.size, by simp, ?_⟩⟩
  simp only [World.cell?]
  rw [alloc_at]
  rfl
theorem ResQ.at {w W w' : World} {x : Int} {g : Nat} (h : Below w.heap.size w W) (y : w' = W.alloc (.cells #[.int .i64 x] 2)) (hg : g = W.heap.size) : ResQ w ([x], 0) (.returned (.tuple #[.slice (some ⟨g, 0, none⟩) 1 1, .int .i64 0])) w' := by
  subst hg
  exact ResQ.one h y
set_option maxRecDepth 100000 in
set_option maxHeartbeats 8000000 in
theorem rRes1 (w : World) (p pl mk n m : Int) (cv sv : Value) (la : Option Addr) (lc : Nat) : Calls Tryd.prog 54 #[.agg #[.int .i64 p, .int .i64 pl, .int .i64 mk, cv, sv], .agg #[.int .i64 1, .int .i64 n, .int .i64 m], .slice la 0 lc] w (ResQ w ([n], 0)) := by
  go_enter Tryd.func54, Tryd.ntmps54
  go_wp2_with fail
  go_ret2
  refine ResQ.at ?_ rfl ?_
  · go_grown
  · simp
set_option maxRecDepth 100000 in
set_option maxHeartbeats 8000000 in
theorem rRes3 (w : World) (p pl mk n m a : Int) (cv sv : Value) (gl ol lc : Nat) (hg : gl < w.heap.size) (c0 : w.cell? ⟨gl, ol, none⟩ = some (.int .i64 a)) : Calls Tryd.prog 54 #[.agg #[.int .i64 p, .int .i64 pl, .int .i64 mk, cv, sv], .agg #[.int .i64 3, .int .i64 n, .int .i64 m], .slice (some ⟨gl, ol, none⟩) 1 lc] w (ResQ w ([], 0)) := by
  go_enter Tryd.func54, Tryd.ntmps54
  go_wp2_with fail
  go_ret2
  exact ⟨by go_grown, .inl ⟨rfl, rfl⟩⟩
set_option maxRecDepth 100000 in
set_option maxHeartbeats 8000000 in
theorem rRes6 (w : World) (p pl mk n m : Int) (cv sv : Value) (la : Option Addr) (lc : Nat) : Calls Tryd.prog 54 #[.agg #[.int .i64 p, .int .i64 pl, .int .i64 mk, cv, sv], .agg #[.int .i64 6, .int .i64 n, .int .i64 m], .slice la 0 lc] w (ResQ w ([], 0)) := by
  go_enter Tryd.func54, Tryd.ntmps54
  go_wp2_with fail
  go_ret2
  exact ⟨by go_grown, .inl ⟨rfl, rfl⟩⟩
set_option maxRecDepth 100000 in
set_option maxHeartbeats 8000000 in
theorem rRes17 (w : World) (p pl mk n m : Int) (cv sv : Value) (la : Option Addr) (lc : Nat) : Calls Tryd.prog 54 #[.agg #[.int .i64 p, .int .i64 pl, .int .i64 mk, cv, sv], .agg #[.int .i64 17, .int .i64 n, .int .i64 m], .slice la 0 lc] w (ResQ w ([], 0)) := by
  go_enter Tryd.func54, Tryd.ntmps54
  go_wp2_with fail
  go_ret2
  exact ⟨by go_grown, .inl ⟨rfl, rfl⟩⟩
set_option maxRecDepth 100000 in
set_option maxHeartbeats 8000000 in
theorem rRes18 (w : World) (p pl mk n m a : Int) (cv sv : Value) (gl ol lc : Nat) (hg : gl < w.heap.size) (c0 : w.cell? ⟨gl, ol, none⟩ = some (.int .i64 a)) : Calls Tryd.prog 54 #[.agg #[.int .i64 p, .int .i64 pl, .int .i64 mk, cv, sv], .agg #[.int .i64 18, .int .i64 n, .int .i64 m], .slice (some ⟨gl, ol, none⟩) 1 lc] w (ResQ w ([], 0)) := by
  go_enter Tryd.func54, Tryd.ntmps54
  go_wp2_with fail
  go_ret2
  exact ⟨by go_grown, .inl ⟨rfl, rfl⟩⟩
set_option maxRecDepth 100000 in
set_option maxHeartbeats 8000000 in
theorem rRes7 (w : World) (p pl mk n m a b : Int) (cv sv : Value) (gl ol lc : Nat) (hg : gl < w.heap.size) (c0 : w.cell? ⟨gl, ol, none⟩ = some (.int .i64 a)) (c1 : w.cell? ⟨gl, ol + 1, none⟩ = some (.int .i64 b)) : Calls Tryd.prog 54 #[.agg #[.int .i64 p, .int .i64 pl, .int .i64 mk, cv, sv], .agg #[.int .i64 7, .int .i64 n, .int .i64 m], .slice (some ⟨gl, ol, none⟩) 2 lc] w (ResQ w ([wrap64 (a + b)], 0)) := by
  go_enter Tryd.func54, Tryd.ntmps54
  go_wp2_with fail
  refine (radd_any a b _).mono ?_
  rintro e0 w0 ⟨rfl, b0⟩
  have B0 : Hid (Below w.heap.size w w0) := (by go_grown : Below w.heap.size w _).trans (b0.mono (by go_size))
  clear b0
  go_wp2_with fail
  go_ret2
  exact ResQ.one B0.out rfl
set_option maxRecDepth 100000 in
set_option maxHeartbeats 8000000 in
theorem rRes8 (w : World) (p pl mk n m a b : Int) (cv sv : Value) (gl ol lc : Nat) (hg : gl < w.heap.size) (c0 : w.cell? ⟨gl, ol, none⟩ = some (.int .i64 a)) (c1 : w.cell? ⟨gl, ol + 1, none⟩ = some (.int .i64 b)) : Calls Tryd.prog 54 #[.agg #[.int .i64 p, .int .i64 pl, .int .i64 mk, cv, sv], .agg #[.int .i64 8, .int .i64 n, .int .i64 m], .slice (some ⟨gl, ol, none⟩) 2 lc] w (ResQ w ([wrap64 (a - b)], 0)) := by
  go_enter Tryd.func54, Tryd.ntmps54
  go_wp2_with fail
  refine (rsub_any a b _).mono ?_
  rintro e0 w0 ⟨rfl, b0⟩
  have B0 : Hid (Below w.heap.size w w0) := (by go_grown : Below w.heap.size w _).trans (b0.mono (by go_size))
  clear b0
  go_wp2_with fail
  go_ret2
  exact ResQ.one B0.out rfl
set_option maxRecDepth 100000 in
set_option maxHeartbeats 8000000 in
theorem rRes9 (w : World) (p pl mk n m a b : Int) (cv sv : Value) (gl ol lc : Nat) (hg : gl < w.heap.size) (c0 : w.cell? ⟨gl, ol, none⟩ = some (.int .i64 a)) (c1 : w.cell? ⟨gl, ol + 1, none⟩ = some (.int .i64 b)) : Calls Tryd.prog 54 #[.agg #[.int .i64 p, .int .i64 pl, .int .i64 mk, cv, sv], .agg #[.int .i64 9, .int .i64 n, .int .i64 m], .slice (some ⟨gl, ol, none⟩) 2 lc] w (ResQ w ([wrap64 (a * b)], 0)) := by
  go_enter Tryd.func54, Tryd.ntmps54
  go_wp2_with fail
  refine (rmul_any a b _).mono ?_
  rintro e0 w0 ⟨rfl, b0⟩
  have B0 : Hid (Below w.heap.size w w0) := (by go_grown : Below w.heap.size w _).trans (b0.mono (by go_size))
  clear b0
  go_wp2_with fail
  go_ret2
  exact ResQ.one B0.out rfl
set_option maxRecDepth 100000 in
set_option maxHeartbeats 8000000 in
theorem rRes10 (w : World) (p pl mk n m a b : Int) (cv sv : Value) (gl ol lc : Nat) (hg : gl < w.heap.size) (c0 : w.cell? ⟨gl, ol, none⟩ = some (.int .i64 a)) (c1 : w.cell? ⟨gl, ol + 1, none⟩ = some (.int .i64 b)) (h0 : -9223372036854775808 ≤ a) (h1 : a ≤ 9223372036854775807) (h2 : -9223372036854775808 ≤ b) (h3 : b ≤ 9223372036854775807) : Calls Tryd.prog 54 #[.agg #[.int .i64 p, .int .i64 pl, .int .i64 mk, cv, sv], .agg #[.int .i64 10, .int .i64 n, .int .i64 m], .slice (some ⟨gl, ol, none⟩) 2 lc] w (ResQ w (if b = 0 then ([], 1) else ([Pl.quot a b], 0))) := by
  by_cases h : b = 0
  · subst h; rw [if_pos rfl]
    go_enter Tryd.func54, Tryd.ntmps54
    go_wp2_with fail
    go_ret2
    exact ⟨by go_grown, .inl ⟨rfl, rfl⟩⟩
  · have hbb : (b == 0) = false := beq_eq_false_iff_ne.2 h; rw [if_neg h]
    go_enter Tryd.func54, Tryd.ntmps54
    go_wp2_with fail
    refine (rdiv_some a b _ h0 h1 h2 h3 h).mono ?_
    rintro e0 w0 ⟨rfl, b0⟩
    have B0 : Hid (Below w.heap.size w w0) := (by go_grown : Below w.heap.size w _).trans (b0.mono (by go_size))
    have i0 := (b0.cell (p := ⟨w.heap.size + 1, 0, none⟩) (by go_size)).trans (show _ = some (Value.int .i64 10) by simp [go_sem])
    have i1 : w.heap.size + 1 < w0.heap.size := Nat.lt_of_lt_of_le (by go_size) b0.size
    clear b0
    go_wp2_with fail
    go_ret2
    exact ResQ.one B0.out rfl
set_option maxRecDepth 100000 in
set_option maxHeartbeats 8000000 in
theorem rRes11 (w : World) (p pl mk n m a b : Int) (cv sv : Value) (gl ol lc : Nat) (hg : gl < w.heap.size) (c0 : w.cell? ⟨gl, ol, none⟩ = some (.int .i64 a)) (c1 : w.cell? ⟨gl, ol + 1, none⟩ = some (.int .i64 b)) (h0 : -9223372036854775808 ≤ a) (h1 : a ≤ 9223372036854775807) (h2 : -9223372036854775808 ≤ b) (h3 : b ≤ 9223372036854775807) : Calls Tryd.prog 54 #[.agg #[.int .i64 p, .int .i64 pl, .int .i64 mk, cv, sv], .agg #[.int .i64 11, .int .i64 n, .int .i64 m], .slice (some ⟨gl, ol, none⟩) 2 lc] w (ResQ w (if b = 0 then ([], 1) else ([Pl.rest a b], 0))) := by
  by_cases h : b = 0
  · subst h; rw [if_pos rfl]
    go_enter Tryd.func54, Tryd.ntmps54
    go_wp2_with fail
    go_ret2
    exact ⟨by go_grown, .inl ⟨rfl, rfl⟩⟩
  · have hbb : (b == 0) = false := beq_eq_false_iff_ne.2 h; rw [if_neg h]
    go_enter Tryd.func54, Tryd.ntmps54
    go_wp2_with fail
    refine (rdiv_some a b _ h0 h1 h2 h3 h).mono ?_
    rintro e0 w0 ⟨rfl, b0⟩
    have B0 : Hid (Below w.heap.size w w0) := (by go_grown : Below w.heap.size w _).trans (b0.mono (by go_size))
    have i0 := (b0.cell (p := ⟨w.heap.size + 1, 0, none⟩) (by go_size)).trans (show _ = some (Value.int .i64 11) by simp [go_sem])
    clear b0
    go_wp2_with fail
    refine (rmod_some a b _ h0 h1 h2 h3 h).mono ?_
    rintro e1 w1 ⟨rfl, b1⟩
    have B1 : Hid (Below w.heap.size w w1) := B0.out.trans (b1.mono B0.out.size)
    clear b1
    go_wp2_with fail
    go_ret2
    exact ResQ.one B1.out rfl
set_option maxRecDepth 100000 in
set_option maxHeartbeats 8000000 in
theorem rRes12 (w : World) (p pl mk n m a b : Int) (cv sv : Value) (gl ol lc : Nat) (hg : gl < w.heap.size) (c0 : w.cell? ⟨gl, ol, none⟩ = some (.int .i64 a)) (c1 : w.cell? ⟨gl, ol + 1, none⟩ = some (.int .i64 b)) : Calls Tryd.prog 54 #[.agg #[.int .i64 p, .int .i64 pl, .int .i64 mk, cv, sv], .agg #[.int .i64 12, .int .i64 n, .int .i64 m], .slice (some ⟨gl, ol, none⟩) 2 lc] w (ResQ w ([Vm.tr (decide (a < b))], 0)) := by
  by_cases h : a < b
  · have d : decide (a < b) = true := decide_eq_true h; rw [d]
    go_enter Tryd.func54, Tryd.ntmps54
    go_wp2_with fail
    refine (rTruth true _).mono ?_
    rintro e0 w0 ⟨rfl, rfl⟩
    go_wp2_with fail
    go_ret2
    refine ResQ.at ?_ rfl ?_
    · go_grown
    · simp
  · have d : decide (a < b) = false := decide_eq_false h; rw [d]
    go_enter Tryd.func54, Tryd.ntmps54
    go_wp2_with fail
    refine (rTruth false _).mono ?_
    rintro e0 w0 ⟨rfl, rfl⟩
    go_wp2_with fail
    go_ret2
    refine ResQ.at ?_ rfl ?_
    · go_grown
    · simp
set_option maxRecDepth 100000 in
set_option maxHeartbeats 8000000 in
theorem rRes13 (w : World) (p pl mk n m a b : Int) (cv sv : Value) (gl ol lc : Nat) (hg : gl < w.heap.size) (c0 : w.cell? ⟨gl, ol, none⟩ = some (.int .i64 a)) (c1 : w.cell? ⟨gl, ol + 1, none⟩ = some (.int .i64 b)) : Calls Tryd.prog 54 #[.agg #[.int .i64 p, .int .i64 pl, .int .i64 mk, cv, sv], .agg #[.int .i64 13, .int .i64 n, .int .i64 m], .slice (some ⟨gl, ol, none⟩) 2 lc] w (ResQ w ([Vm.tr (decide (a ≤ b))], 0)) := by
  by_cases h : a ≤ b
  · have d : decide (a ≤ b) = true := decide_eq_true h; rw [d]
    go_enter Tryd.func54, Tryd.ntmps54
    go_wp2_with fail
    refine (rTruth true _).mono ?_
    rintro e0 w0 ⟨rfl, rfl⟩
    go_wp2_with fail
    go_ret2
    refine ResQ.at ?_ rfl ?_
    · go_grown
    · simp
  · have d : decide (a ≤ b) = false := decide_eq_false h; rw [d]
    go_enter Tryd.func54, Tryd.ntmps54
    go_wp2_with fail
    refine (rTruth false _).mono ?_
    rintro e0 w0 ⟨rfl, rfl⟩
    go_wp2_with fail
    go_ret2
    refine ResQ.at ?_ rfl ?_
    · go_grown
    · simp
set_option maxRecDepth 100000 in
set_option maxHeartbeats 8000000 in
theorem rRes14 (w : World) (p pl mk n m a b : Int) (cv sv : Value) (gl ol lc : Nat) (hg : gl < w.heap.size) (c0 : w.cell? ⟨gl, ol, none⟩ = some (.int .i64 a)) (c1 : w.cell? ⟨gl, ol + 1, none⟩ = some (.int .i64 b)) : Calls Tryd.prog 54 #[.agg #[.int .i64 p, .int .i64 pl, .int .i64 mk, cv, sv], .agg #[.int .i64 14, .int .i64 n, .int .i64 m], .slice (some ⟨gl, ol, none⟩) 2 lc] w (ResQ w ([Vm.tr ((a == b))], 0)) := by
  by_cases h : a = b
  · have d : (a == b) = true := beq_iff_eq.2 h; rw [d]
    go_enter Tryd.func54, Tryd.ntmps54
    go_wp2_with fail
    refine (rTruth true _).mono ?_
    rintro e0 w0 ⟨rfl, rfl⟩
    go_wp2_with fail
    go_ret2
    refine ResQ.at ?_ rfl ?_
    · go_grown
    · simp
  · have d : (a == b) = false := beq_eq_false_iff_ne.2 h; rw [d]
    go_enter Tryd.func54, Tryd.ntmps54
    go_wp2_with fail
    refine (rTruth false _).mono ?_
    rintro e0 w0 ⟨rfl, rfl⟩
    go_wp2_with fail
    go_ret2
    refine ResQ.at ?_ rfl ?_
    · go_grown
    · simp
set_option maxRecDepth 100000 in
set_option maxHeartbeats 8000000 in
theorem rRes15 (w : World) (p pl mk n m a : Int) (cv sv : Value) (gl ol lc : Nat) (hg : gl < w.heap.size) (c0 : w.cell? ⟨gl, ol, none⟩ = some (.int .i64 a)) : Calls Tryd.prog 54 #[.agg #[.int .i64 p, .int .i64 pl, .int .i64 mk, cv, sv], .agg #[.int .i64 15, .int .i64 n, .int .i64 m], .slice (some ⟨gl, ol, none⟩) 1 lc] w (ResQ w ([Vm.tr ((a == 0))], 0)) := by
  by_cases h : a = 0
  · have d : (a == 0) = true := beq_iff_eq.2 h; rw [d]
    go_enter Tryd.func54, Tryd.ntmps54
    go_wp2_with fail
    refine (rTruth true _).mono ?_
    rintro e0 w0 ⟨rfl, rfl⟩
    go_wp2_with fail
    go_ret2
    refine ResQ.at ?_ rfl ?_
    · go_grown
    · simp
  · have d : (a == 0) = false := beq_eq_false_iff_ne.2 h; rw [d]
    go_enter Tryd.func54, Tryd.ntmps54
    go_wp2_with fail
    refine (rTruth false _).mono ?_
    rintro e0 w0 ⟨rfl, rfl⟩
    go_wp2_with fail
    go_ret2
    refine ResQ.at ?_ rfl ?_
    · go_grown
    · simp
set_option maxRecDepth 100000 in
set_option maxHeartbeats 8000000 in
theorem rRes16 (w : World) (p pl mk n m a : Int) (cv sv : Value) (gl ol lc : Nat) (hg : gl < w.heap.size) (c0 : w.cell? ⟨gl, ol, none⟩ = some (.int .i64 a)) : Calls Tryd.prog 54 #[.agg #[.int .i64 p, .int .i64 pl, .int .i64 mk, cv, sv], .agg #[.int .i64 16, .int .i64 n, .int .i64 m], .slice (some ⟨gl, ol, none⟩) 1 lc] w (ResQ w ([wrap64 (-a)], 0)) := by
  go_enter Tryd.func54, Tryd.ntmps54
  go_wp2_with fail
  refine (rneg_any a _).mono ?_
  rintro e0 w0 ⟨rfl, b0⟩
  have B0 : Hid (Below w.heap.size w w0) := (by go_grown : Below w.heap.size w _).trans (b0.mono (by go_size))
  clear b0
  go_wp2_with fail
  go_ret2
  exact ResQ.one B0.out rfl
set_option maxRecDepth 100000 in
set_option maxHeartbeats 8000000 in
theorem rRes23 (w : World) (p pl mk n m a : Int) (cv sv : Value) (gl ol lc : Nat) (hg : gl < w.heap.size) (c0 : w.cell? ⟨gl, ol, none⟩ = some (.int .i64 a)) : Calls Tryd.prog 54 #[.agg #[.int .i64 p, .int .i64 pl, .int .i64 mk, cv, sv], .agg #[.int .i64 23, .int .i64 n, .int .i64 m], .slice (some ⟨gl, ol, none⟩) 1 lc] w (ResQ w (if a = 0 then ([], 3) else ([], 0))) := by
  by_cases h : a = 0
  · subst h; rw [if_pos rfl]
    go_enter Tryd.func54, Tryd.ntmps54
    go_wp2_with fail
    go_ret2
    exact ⟨by go_grown, .inl ⟨rfl, rfl⟩⟩
  · have hbb : (a == 0) = false := beq_eq_false_iff_ne.2 h; rw [if_neg h]
    go_enter Tryd.func54, Tryd.ntmps54
    go_wp2_with fail
    go_ret2
    exact ⟨by go_grown, .inl ⟨rfl, rfl⟩⟩
end Go.Proofs.YtkjkiknpgggadaaDoor

