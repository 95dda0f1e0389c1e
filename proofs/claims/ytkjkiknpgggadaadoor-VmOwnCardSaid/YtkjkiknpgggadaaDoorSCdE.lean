/- Layer 8: a code's sizes (the program's hasSizes), for every code. -/
import Derived.Test.YtkjkiknpgggadaaDoorSWordsPl
namespace Go.Proofs.YtkjkiknpgggadaaDoor
open Go.RowKit
set_option linter.unusedVariables false

set_option maxRecDepth 100000 in
set_option maxHeartbeats 4000000 in
theorem cdSz_0 (p : Nat) (la : Option Addr) (ln lc : Nat) (ia : Option Addr) (il ic : Nat) (c : Cd.Co) (hv wv : Value) (w : World) (h : Clm w p la ln lc ia il ic c hv wv)  (h0 : ¬ 1 ≤ il) : Calls Tryd.prog 73 #[.pointer (some ⟨p, 0, none⟩)] w fun e w' => e = .returned (.bool false) ∧ Below w.heap.size w w' := by
  have p1 := h.cell.2.1
  have p2 := h.cell.2.2.1
  have p3 := h.cell.2.2.2.1
  generalize c.cells = c2 at *
  generalize c.params = c3 at *
  have d0 : decide ((1 : Int) ≤ (il : Int)) = false := decide_eq_false (by omega)
  clear h h0
  go_enter Tryd.func73, Tryd.ntmps73
  go_wp2_with fail
  go_quiet (fail)
  have BQ := below_drewN (Below.refl w.heap.size w) nq
  generalize w.drewN nq = W5 at BQ ⊢
  go_wp2_with fail
  go_ret
  exact ⟨rfl, BQ⟩
set_option maxRecDepth 100000 in
set_option maxHeartbeats 4000000 in
theorem cdSz_1 (p : Nat) (la : Option Addr) (ln lc : Nat) (ia : Option Addr) (il ic : Nat) (c : Cd.Co) (hv wv : Value) (w : World) (h : Clm w p la ln lc ia il ic c hv wv) (h0 : 1 ≤ il) (h1 : ¬ il ≤ 65536) : Calls Tryd.prog 73 #[.pointer (some ⟨p, 0, none⟩)] w fun e w' => e = .returned (.bool false) ∧ Below w.heap.size w w' := by
  have p1 := h.cell.2.1
  have p2 := h.cell.2.2.1
  have p3 := h.cell.2.2.2.1
  generalize c.cells = c2 at *
  generalize c.params = c3 at *
  have g0 : (1 : Int) ≤ (il : Int) := by omega
  have d0 : decide ((1 : Int) ≤ (il : Int)) = true := decide_eq_true (by omega)
  have d1 : decide ((il : Int) ≤ 65536) = false := decide_eq_false (by omega)
  clear h h1
  go_enter Tryd.func73, Tryd.ntmps73
  go_wp2_with fail
  go_quiet (fail)
  have BQ := below_drewN (Below.refl w.heap.size w) nq
  generalize w.drewN nq = W5 at BQ ⊢
  go_wp2_with fail
  go_ret
  exact ⟨rfl, BQ⟩
set_option maxRecDepth 100000 in
set_option maxHeartbeats 4000000 in
theorem cdSz_2 (p : Nat) (la : Option Addr) (ln lc : Nat) (ia : Option Addr) (il ic : Nat) (c : Cd.Co) (hv wv : Value) (w : World) (h : Clm w p la ln lc ia il ic c hv wv) (h0 : 1 ≤ il) (h1 : il ≤ 65536) (h2 : ¬ 0 ≤ c.cells) : Calls Tryd.prog 73 #[.pointer (some ⟨p, 0, none⟩)] w fun e w' => e = .returned (.bool false) ∧ Below w.heap.size w w' := by
  have p1 := h.cell.2.1
  have p2 := h.cell.2.2.1
  have p3 := h.cell.2.2.2.1
  generalize c.cells = c2 at *
  generalize c.params = c3 at *
  have g0 : (1 : Int) ≤ (il : Int) := by omega
  have d0 : decide ((1 : Int) ≤ (il : Int)) = true := decide_eq_true (by omega)
  have g1 : (il : Int) ≤ 65536 := by omega
  have d1 : decide ((il : Int) ≤ 65536) = true := decide_eq_true (by omega)
  have d2 : decide (0 ≤ c2) = false := decide_eq_false (by omega)
  clear h h2
  go_enter Tryd.func73, Tryd.ntmps73
  go_wp2_with fail
  go_quiet (fail)
  have BQ := below_drewN (Below.refl w.heap.size w) nq
  generalize w.drewN nq = W5 at BQ ⊢
  go_wp2_with fail
  go_ret
  exact ⟨rfl, BQ⟩
set_option maxRecDepth 100000 in
set_option maxHeartbeats 4000000 in
theorem cdSz_3 (p : Nat) (la : Option Addr) (ln lc : Nat) (ia : Option Addr) (il ic : Nat) (c : Cd.Co) (hv wv : Value) (w : World) (h : Clm w p la ln lc ia il ic c hv wv) (h0 : 1 ≤ il) (h1 : il ≤ 65536) (h2 : 0 ≤ c.cells) (h3 : ¬ c.cells ≤ 65536) : Calls Tryd.prog 73 #[.pointer (some ⟨p, 0, none⟩)] w fun e w' => e = .returned (.bool false) ∧ Below w.heap.size w w' := by
  have p1 := h.cell.2.1
  have p2 := h.cell.2.2.1
  have p3 := h.cell.2.2.2.1
  generalize c.cells = c2 at *
  generalize c.params = c3 at *
  have g0 : (1 : Int) ≤ (il : Int) := by omega
  have d0 : decide ((1 : Int) ≤ (il : Int)) = true := decide_eq_true (by omega)
  have g1 : (il : Int) ≤ 65536 := by omega
  have d1 : decide ((il : Int) ≤ 65536) = true := decide_eq_true (by omega)
  have d2 : decide (0 ≤ c2) = true := decide_eq_true (by omega)
  have d3 : decide (c2 ≤ 65536) = false := decide_eq_false (by omega)
  clear h h3
  go_enter Tryd.func73, Tryd.ntmps73
  go_wp2_with fail
  go_quiet (fail)
  have BQ := below_drewN (Below.refl w.heap.size w) nq
  generalize w.drewN nq = W5 at BQ ⊢
  go_wp2_with fail
  go_ret
  exact ⟨rfl, BQ⟩
set_option maxRecDepth 100000 in
set_option maxHeartbeats 4000000 in
theorem cdSz_4 (p : Nat) (la : Option Addr) (ln lc : Nat) (ia : Option Addr) (il ic : Nat) (c : Cd.Co) (hv wv : Value) (w : World) (h : Clm w p la ln lc ia il ic c hv wv) (h0 : 1 ≤ il) (h1 : il ≤ 65536) (h2 : 0 ≤ c.cells) (h3 : c.cells ≤ 65536) (h4 : ¬ 0 ≤ c.params) : Calls Tryd.prog 73 #[.pointer (some ⟨p, 0, none⟩)] w fun e w' => e = .returned (.bool false) ∧ Below w.heap.size w w' := by
  have p1 := h.cell.2.1
  have p2 := h.cell.2.2.1
  have p3 := h.cell.2.2.2.1
  generalize c.cells = c2 at *
  generalize c.params = c3 at *
  have g0 : (1 : Int) ≤ (il : Int) := by omega
  have d0 : decide ((1 : Int) ≤ (il : Int)) = true := decide_eq_true (by omega)
  have g1 : (il : Int) ≤ 65536 := by omega
  have d1 : decide ((il : Int) ≤ 65536) = true := decide_eq_true (by omega)
  have d2 : decide (0 ≤ c2) = true := decide_eq_true (by omega)
  have d3 : decide (c2 ≤ 65536) = true := decide_eq_true (by omega)
  have d4 : decide (0 ≤ c3) = false := decide_eq_false (by omega)
  clear h h4
  go_enter Tryd.func73, Tryd.ntmps73
  go_wp2_with fail
  go_quiet (fail)
  have BQ := below_drewN (Below.refl w.heap.size w) nq
  generalize w.drewN nq = W5 at BQ ⊢
  go_wp2_with fail
  go_ret
  exact ⟨rfl, BQ⟩
set_option maxRecDepth 100000 in
set_option maxHeartbeats 4000000 in
theorem cdSz_5 (p : Nat) (la : Option Addr) (ln lc : Nat) (ia : Option Addr) (il ic : Nat) (c : Cd.Co) (hv wv : Value) (w : World) (h : Clm w p la ln lc ia il ic c hv wv) (h0 : 1 ≤ il) (h1 : il ≤ 65536) (h2 : 0 ≤ c.cells) (h3 : c.cells ≤ 65536) (h4 : 0 ≤ c.params) : Calls Tryd.prog 73 #[.pointer (some ⟨p, 0, none⟩)] w fun e w' => e = .returned (.bool (decide (c.params ≤ 8) && decide (c.params ≤ c.cells))) ∧ Below w.heap.size w w' := by
  have p1 := h.cell.2.1
  have p2 := h.cell.2.2.1
  have p3 := h.cell.2.2.2.1
  generalize c.cells = c2 at *
  generalize c.params = c3 at *
  have g0 : (1 : Int) ≤ (il : Int) := by omega
  have d0 : decide ((1 : Int) ≤ (il : Int)) = true := decide_eq_true (by omega)
  have g1 : (il : Int) ≤ 65536 := by omega
  have d1 : decide ((il : Int) ≤ 65536) = true := decide_eq_true (by omega)
  have d2 : decide (0 ≤ c2) = true := decide_eq_true (by omega)
  have d3 : decide (c2 ≤ 65536) = true := decide_eq_true (by omega)
  have d4 : decide (0 ≤ c3) = true := decide_eq_true (by omega)
  clear h
  by_cases q : c2 < 8
  · have E : Hid (decide (c3 ≤ c2) = (decide (c3 ≤ 8) && decide (c3 ≤ c2))) := by
      unfold Hid
      by_cases r : c3 ≤ c2
      · rw [decide_eq_true r, decide_eq_true (by omega : c3 ≤ 8)]; rfl
      · rw [decide_eq_false r]; simp
    go_enter Tryd.func73, Tryd.ntmps73
    go_wp2_with fail
    go_quiet (fail)
    have BQ := below_drewN (Below.refl w.heap.size w) nq
    generalize w.drewN nq = W5 at BQ ⊢
    go_wp2_with fail
    go_ret
    exact ⟨retB E.out, BQ⟩
  · have E : Hid (decide (c3 ≤ 8) = (decide (c3 ≤ 8) && decide (c3 ≤ c2))) := by
      unfold Hid
      by_cases r : c3 ≤ 8
      · rw [decide_eq_true r, decide_eq_true (by omega : c3 ≤ c2)]; rfl
      · rw [decide_eq_false r]; rfl
    go_enter Tryd.func73, Tryd.ntmps73
    go_wp2_with fail
    go_quiet (fail)
    have BQ := below_drewN (Below.refl w.heap.size w) nq
    generalize w.drewN nq = W5 at BQ ⊢
    go_wp2_with fail
    go_ret
    exact ⟨retB E.out, BQ⟩
theorem cdSz_any (p : Nat) (la : Option Addr) (ln lc : Nat) (ia : Option Addr) (ic : Nat) (c : Cd.Co) (hv wv : Value) (w : World) (h : Clm w p la ln lc ia c.ins.length ic c hv wv) : Calls Tryd.prog 73 #[.pointer (some ⟨p, 0, none⟩)] w fun e w' => e = .returned (.bool (Cd.sz c)) ∧ Below w.heap.size w w' := by
  unfold Cd.sz
  by_cases h0 : 1 ≤ c.ins.length
  · by_cases h1 : c.ins.length ≤ 65536
    · by_cases h2 : 0 ≤ c.cells
      · by_cases h3 : c.cells ≤ 65536
        · by_cases h4 : 0 ≤ c.params
          · have := cdSz_5 p la ln lc ia _ ic c hv wv w h h0 h1 h2 h3 h4
            simpa [h0, h1, h2, h3, h4] using this
          · have := cdSz_4 p la ln lc ia _ ic c hv wv w h h0 h1 h2 h3 h4
            simpa [h4] using this
        · have := cdSz_3 p la ln lc ia _ ic c hv wv w h h0 h1 h2 h3
          simpa [h3] using this
      · have := cdSz_2 p la ln lc ia _ ic c hv wv w h h0 h1 h2
        simpa [h2] using this
    · have := cdSz_1 p la ln lc ia _ ic c hv wv w h h0 h1
      simpa [h1] using this
  · have := cdSz_0 p la ln lc ia _ ic c hv wv w h h0
    simpa [h0] using this
end Go.Proofs.YtkjkiknpgggadaaDoor

