/- Layer 9: index, put. -/
import Derived.Test.YtodpdnidinnjjaaDoorTVmK
namespace Go.Proofs.YtodpdnidinnjjaaDoor
open Go.RowKit
set_option linter.unusedVariables false
set_option linter.unusedSimpArgs false

def Vm.ip (a : Int) (k : Nat) : Bool := decide (0 ≤ a) && decide (a < (k : Int))
theorem vmIsPlace (a : Int) (la : Option Addr) (k c : Nat) (w : World) : Calls Tryd.prog 71 #[.int .i64 a, .slice la k c] w fun e w' => e = .returned (.bool (Vm.ip a k)) ∧ w' = w := by
  unfold Vm.ip
  by_cases h1 : 0 ≤ a
  · have d1 : decide (0 ≤ a) = true := decide_eq_true h1
    by_cases h2 : a < (k : Int)
    · have d2 : decide (a < (k : Int)) = true := decide_eq_true h2
      rw [d1, d2]
      go_enter Tryd.func71, Tryd.ntmps71
      go_wp2_with fail
      go_ret
      exact ⟨rfl, rfl⟩
    · have d2 : decide (a < (k : Int)) = false := decide_eq_false h2
      rw [d1, d2]
      go_enter Tryd.func71, Tryd.ntmps71
      go_wp2_with fail
      go_ret
      exact ⟨rfl, rfl⟩
  · have d1 : decide (0 ≤ a) = false := decide_eq_false h1
    rw [d1]
    go_enter Tryd.func71, Tryd.ntmps71
    go_wp2_with fail
    go_ret
    exact ⟨rfl, rfl⟩
/-- What index does. -/
def Vm.ix (M : Vm.Mc) (s : List Int) (a : Int) (o k : Nat) : Vm.Mc := if Vm.ip a k then { M with stack := s ++ [M.cells.getD (o + a.toNat) 0] } else { M with stack := s, events := M.events ++ [(4, 2)], run := false }
set_option maxRecDepth 100000 in
set_option maxHeartbeats 8000000 in
theorem vmIndex (m : Nat) (w : World) (V : VmV) (M : Vm.Mc) (s : List Int) (a : Int) (g cap o k c : Nat) (h : VmS m w V M) (hs : M.stack = s ++ [a]) (hsl : s.length ≤ 1000000) (he : M.events.length ≤ 1000000000) (hv : V.cv = .slice (some ⟨g, 0, none⟩) M.cells.length cap) (ho : o + k ≤ M.cells.length) (hk : 0 < k) (hl : M.cells.length ≤ 100000000) :
    Calls Tryd.prog 58 #[.pointer (some ⟨m, 0, none⟩), .slice (some ⟨g, o, none⟩) k c] w fun e w' => e = .returned (.tuple #[]) ∧ VmQ m w w' (Vm.ix M s a o k) := by
  have EP : Hid _ := vmPop2 m w V M s a h hs hsl
  have EI : Hid (∀ X, _) := fun X => vmIsPlace a (some ⟨g, o, none⟩) k c X
  have HV : Hid (V.cv = .slice (some ⟨g, 0, none⟩) M.cells.length cap) := hv
  have HO : Hid (o + k ≤ M.cells.length ∧ 0 < k ∧ s.length ≤ 1000000 ∧ M.events.length ≤ 1000000000) := ⟨ho, hk, hsl, he⟩
  have hkb : k ≤ 100000000 := by omega
  clear h hs hsl he hv ho hl
  cases hip : Vm.ip a k with
  | false =>
    have EQ : Hid (Vm.ix M s a o k = { M with stack := s, events := M.events ++ [(4, 2)], run := false }) := by unfold Hid Vm.ix; rw [hip]; rfl
    rw [EQ.out]
    rw [hip] at EI
    clear hip EQ
    go_enter Tryd.func58, Tryd.ntmps58
    go_wp2_with fail
    refine Calls.mono EP.out ?_
    rintro e1 w1 ⟨rfl, b1, sv1, h1⟩
    have ET : Hid _ := vmTrap m w1 _ _ 2 h1 HO.out.2.2.2
    have B1 : Hid (Below m w w1) := b1
    clear b1 h1 EP
    go_wp2_with fail
    refine Calls.mono (EI.out _) ?_
    rintro e2 w2 ⟨rfl, rfl⟩
    go_wp2_with fail
    refine Calls.mono ET.out ?_
    rintro e3 w3 ⟨rfl, Q3⟩
    have FIN : Hid (VmQ m w w3 _) := ⟨B1.out.trans Q3.1, Q3.2⟩
    clear Q3 ET
    go_wp2_with fail
    refine bodyPost_ret (v := .tuple #[]) (by simp [results, Tryd.results58, go_sem]) rfl ?_
    exact ⟨rfl, FIN.out⟩
  | true =>
    have EQ : Hid (Vm.ix M s a o k = { M with stack := s ++ [M.cells.getD (o + a.toNat) 0] }) := by unfold Hid Vm.ix; rw [hip]; rfl
    rw [EQ.out]
    rw [hip] at EI
    unfold Vm.ip at hip
    simp only [Bool.and_eq_true, decide_eq_true_eq] at hip
    obtain ⟨j, rfl⟩ : ∃ j : Nat, a = j := ⟨a.toNat, by omega⟩
    have hjk : j < k := by omega
    have hji : (j : Int) < (k : Int) := by omega
    have hj0 : (0 : Int) ≤ (j : Int) := by omega
    rw [Int.toNat_natCast]
    clear hip EQ
    go_enter Tryd.func58, Tryd.ntmps58
    go_wp2_with fail
    refine Calls.mono EP.out ?_
    rintro e1 w1 ⟨rfl, b1, sv1, h1⟩
    obtain ⟨g', cap', hv', _, _, hgl, hcells, _⟩ := h1.cells (by have := HO.out; show 0 < M.cells.length; omega)
    have hv2 : V.cv = .slice (some ⟨g', 0, none⟩) M.cells.length cap' := hv'
    rw [HV.out] at hv2
    cases hv2
    have cx := hcells (o + j) (M.cells.getD (o + j) 0) (by
      show M.cells[o + j]? = _
      have hlt : o + j < M.cells.length := by have := HO.out; omega
      rw [List.getD_eq_getElem?_getD, List.getElem?_eq_getElem hlt]; rfl)
    have EU : Hid (∀ v, _) := fun v => vmPush m w1 _ _ v h1 HO.out.2.2.1
    have B1 : Hid (Below m w w1) := b1
    obtain ⟨x, hx⟩ : ∃ x, x = M.cells.getD (o + j) 0 := ⟨_, rfl⟩
    rw [← hx] at cx
    have HX : Hid (x = M.cells.getD (o + j) 0) := hx
    clear hx
    clear b1 h1 EP hcells hv'
    go_wp2_with fail
    refine Calls.mono (EI.out _) ?_
    rintro e2 w2 ⟨rfl, rfl⟩
    go_wp2_with fail
    refine Calls.mono (EU.out x) ?_
    rintro e3 w3 ⟨rfl, Q3⟩
    have FIN : Hid (VmQ m w w3 { M with stack := s ++ [M.cells.getD (o + j) 0] }) := by rw [← HX.out]; exact ⟨B1.out.trans Q3.1, Q3.2⟩
    clear Q3 EU
    go_wp2_with fail
    first
      | (go_end0; exact ⟨rfl, FIN.out⟩)
      | (refine bodyPost_ret (v := .tuple #[]) (by simp [results, Tryd.results58, go_sem]) rfl ?_; exact ⟨rfl, FIN.out⟩)
/-- What put does. -/
def Vm.pt (M : Vm.Mc) (s : List Int) (a n : Int) (o k : Nat) : Vm.Mc := if Vm.ip a k then { M with stack := s, cells := M.cells.set (o + a.toNat) n } else { M with stack := s, events := M.events ++ [(4, 2)], run := false }
/-- A cell is set. -/
theorem VmS.setCe {m : Nat} {w : World} {V : VmV} {M : Vm.Mc} {g cap i : Nat} (h : VmS m w V M) (hv : V.cv = .slice (some ⟨g, 0, none⟩) M.cells.length cap) (hg : m < g) (hi : i < M.cells.length) (x : Int) : Below m w (w.setCell ⟨g, i, none⟩ (.int .i64 x)) ∧ VmS m (w.setCell ⟨g, i, none⟩ (.int .i64 x)) V { M with cells := M.cells.set i x } := by
  have b : Below m w (w.setCell ⟨g, i, none⟩ (.int .i64 x)) := ⟨rfl, rfl, rfl, by simp, fun j hj => heap_setCell_other _ _ j _ (by simp; omega)⟩
  have r := (h.rows.swap3.put (g := g) (cap := cap) (i := i) (by show V.cv = _; exact hv) (by show _ < M.cells.length * 1; omega) (.int .i64 x)).swap3
  refine ⟨b, ⟨?_, ?_, h.co.later b, h.inp.later b⟩⟩
  · rw [heap_setCell_other _ _ m _ (by simp; omega), h.box]
  · have e : (nC M.cells).set i (.int .i64 x) = nC (M.cells.set i x) := by simp [nC, List.map_set]
    have e2 : M.cells.length = (M.cells.set i x).length := by simp
    dsimp only at r ⊢
    rw [e, e2] at r
    exact r
set_option maxRecDepth 100000 in
set_option maxHeartbeats 8000000 in
theorem vmPut (m : Nat) (w : World) (V : VmV) (M : Vm.Mc) (s : List Int) (a x : Int) (g cap o k c : Nat) (h : VmS m w V M) (hs : M.stack = s ++ [a, x]) (hsl : s.length ≤ 900000) (he : M.events.length ≤ 1000000000) (hv : V.cv = .slice (some ⟨g, 0, none⟩) M.cells.length cap) (ho : o + k ≤ M.cells.length) (hk : 0 < k) (hl : M.cells.length ≤ 100000000) :
    Calls Tryd.prog 59 #[.pointer (some ⟨m, 0, none⟩), .slice (some ⟨g, o, none⟩) k c] w fun e w' => e = .returned (.tuple #[]) ∧ VmQ m w w' (Vm.pt M s a x o k) := by
  have EP : Hid _ := vmPop2 m w V M (s ++ [a]) x h (by rw [hs]; simp) (by simp; omega)
  have EI : Hid (∀ X, _) := fun X => vmIsPlace a (some ⟨g, o, none⟩) k c X
  have HV : Hid (V.cv = .slice (some ⟨g, 0, none⟩) M.cells.length cap) := hv
  have HO : Hid (o + k ≤ M.cells.length ∧ 0 < k ∧ s.length ≤ 900000 ∧ M.events.length ≤ 1000000000) := ⟨ho, hk, hsl, he⟩
  have hkb : k ≤ 100000000 := by omega
  clear h hs hsl he hv ho hl
  cases hip : Vm.ip a k with
  | false =>
    have EQ : Hid (Vm.pt M s a x o k = { M with stack := s, events := M.events ++ [(4, 2)], run := false }) := by unfold Hid Vm.pt; rw [hip]; rfl
    rw [EQ.out]
    rw [hip] at EI
    clear hip EQ
    go_enter Tryd.func59, Tryd.ntmps59
    go_wp2_with fail
    refine Calls.mono EP.out ?_
    rintro e1 w1 ⟨rfl, b1, sv1, h1⟩
    have EP2 : Hid _ := vmPop2 m w1 _ _ s a h1 rfl (by have := HO.out; omega)
    have B1 : Hid (Below m w w1) := b1
    clear b1 h1 EP
    go_wp2_with fail
    refine Calls.mono EP2.out ?_
    rintro e2 w2 ⟨rfl, b2, sv2, h2⟩
    have ET : Hid _ := vmTrap m w2 _ _ 2 h2 HO.out.2.2.2
    have B2 : Hid (Below m w w2) := B1.out.trans b2
    clear b2 h2 EP2 B1
    go_wp2_with fail
    refine Calls.mono (EI.out _) ?_
    rintro e3 w3 ⟨rfl, rfl⟩
    go_wp2_with fail
    refine Calls.mono ET.out ?_
    rintro e4 w4 ⟨rfl, Q4⟩
    have FIN : Hid (VmQ m w w4 { M with stack := s, events := M.events ++ [(4, 2)], run := false }) := ⟨B2.out.trans Q4.1, Q4.2⟩
    clear Q4 ET
    go_wp2_with fail
    refine bodyPost_ret (v := .tuple #[]) (by simp [results, Tryd.results59, go_sem]) rfl ?_
    exact ⟨rfl, FIN.out⟩
  | true =>
    have EQ : Hid (Vm.pt M s a x o k = { M with stack := s, cells := M.cells.set (o + a.toNat) x }) := by unfold Hid Vm.pt; rw [hip]; rfl
    rw [EQ.out]
    rw [hip] at EI
    unfold Vm.ip at hip
    simp only [Bool.and_eq_true, decide_eq_true_eq] at hip
    obtain ⟨j, rfl⟩ : ∃ j : Nat, a = j := ⟨a.toNat, by omega⟩
    have hjk : j < k := by omega
    have hji : (j : Int) < (k : Int) := by omega
    have hj0 : (0 : Int) ≤ (j : Int) := by omega
    rw [Int.toNat_natCast]
    clear hip EQ
    go_enter Tryd.func59, Tryd.ntmps59
    go_wp2_with fail
    refine Calls.mono EP.out ?_
    rintro e1 w1 ⟨rfl, b1, sv1, h1⟩
    have EP2 : Hid _ := vmPop2 m w1 _ _ s (j : Int) h1 rfl (by have := HO.out; omega)
    have B1 : Hid (Below m w w1) := b1
    clear b1 h1 EP
    go_wp2_with fail
    refine Calls.mono EP2.out ?_
    rintro e2 w2 ⟨rfl, b2, sv2, h2⟩
    obtain ⟨g', cap', hv', _, hmg, hgl, hcells, hfz⟩ := h2.cells (by have := HO.out; show 0 < M.cells.length; omega)
    have hv2 : V.cv = .slice (some ⟨g', 0, none⟩) M.cells.length cap' := hv'
    rw [HV.out] at hv2
    cases hv2
    have hlt : o + j < M.cells.length := by have := HO.out; omega
    have cx := hcells (o + j) (M.cells.getD (o + j) 0) (by
      show M.cells[o + j]? = _
      rw [List.getD_eq_getElem?_getD, List.getElem?_eq_getElem hlt]; rfl)
    have fx := hfz (o + j)
    have Q := h2.setCe HV.out hmg hlt x
    have FIN : Hid (VmQ m w (w2.setCell ⟨g, o + j, none⟩ (.int .i64 x)) { M with stack := s, cells := M.cells.set (o + j) x }) := ⟨(B1.out.trans b2).trans Q.1, _, Q.2⟩
    clear b2 h2 EP2 hcells hv' hfz Q
    go_wp2_with fail
    refine Calls.mono (EI.out _) ?_
    rintro e3 w3 ⟨rfl, rfl⟩
    go_wp2_with fail
    first
      | (go_end0; exact ⟨rfl, FIN.out⟩)
      | (refine bodyPost_ret (v := .tuple #[]) (by simp [results, Tryd.results59, go_sem]) rfl ?_; exact ⟨rfl, FIN.out⟩)
end Go.Proofs.YtodpdnidinnjjaaDoor
