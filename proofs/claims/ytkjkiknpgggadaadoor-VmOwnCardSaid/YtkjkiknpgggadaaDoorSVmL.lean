/- Layer 9: readNumber; where the last frame's cells are. -/
/- Layer 9: where the last frame's cells are; index, put. -/
/- Layer 9: index, put. -/
import Derived.Test.YtkjkiknpgggadaaDoorSVmI
namespace Go.Proofs.YtkjkiknpgggadaaDoor
open Go.RowKit
set_option linter.unusedVariables false
set_option linter.unusedSimpArgs false

def Vm.rd (M : Vm.Mc) : Vm.Mc := match M.input[M.read]? with | none => { M with events := M.events ++ [(4, 5)], run := false } | some n => { M with read := M.read + 1, events := M.events ++ [(2, n)], stack := M.stack ++ [n] }
set_option maxRecDepth 100000 in
set_option maxHeartbeats 8000000 in
theorem vmRead (m : Nat) (w : World) (V : VmV) (M : Vm.Mc) (h : VmS m w V M) (hr : M.read ≤ M.input.length) (hi : M.input.length ≤ 1000000) (hs : M.stack.length ≤ 1000000) (he : M.events.length ≤ 1000000000) : Calls Tryd.prog 31 #[.pointer (some ⟨m, 0, none⟩)] w fun e w' => e = .returned (.tuple #[]) ∧ VmQ m w w' (Vm.rd M) := by
  have c1 := h.cell.2.1
  have c2 := h.cell.2.2.1
  have HH : Hid (VmS m w V M) := h
  have hlt := h.lt
  have HE : Hid (M.events.length ≤ 1000000000) := he
  have HS : Hid (M.stack.length ≤ 1000000) := hs
  cases hn : M.input[M.read]? with
  | none =>
    have hrl : M.read = M.input.length := by
      have := List.getElem?_eq_none_iff.1 hn
      omega
    have EQ : Hid (Vm.rd M = { M with events := M.events ++ [(4, 5)], run := false }) := by unfold Hid Vm.rd; rw [hn]
    rw [EQ.out]
    obtain ⟨n, hnn⟩ : ∃ n, n = M.input.length := ⟨_, rfl⟩
    rw [← hnn] at c1
    rw [hrl, ← hnn] at c2
    have ee : ((n : Int) == (n : Int)) = true := beq_self_eq_true _
    clear h hrl hnn hn EQ hr hi hs he
    go_enter Tryd.func31, Tryd.ntmps31
    go_wp2_with fail
    go_quiet (fail)
    have y : Below w.heap.size w (w.drewN nq) := below_drewN (Below.refl _ _) nq
    have ET : Hid _ := vmTrap m (w.drewN nq) V M 5 (HH.out.later y) HE.out
    have BY : Hid (Below m w (w.drewN nq)) := y.mono (Nat.le_of_lt hlt)
    clear y c1 c2
    generalize w.drewN nq = W5 at ET BY ⊢
    go_wp2_with fail
    refine Calls.mono ET.out ?_
    rintro e2 w2 ⟨rfl, Q2⟩
    have FIN : Hid (VmQ m w w2 _) := ⟨BY.out.trans Q2.1, Q2.2⟩
    clear Q2 ET
    go_wp2_with fail
    refine bodyPost_ret (v := .tuple #[]) (by simp [results, Tryd.results31, go_sem]) rfl ?_
    exact ⟨rfl, FIN.out⟩
  | some x =>
    have hrl : M.read < M.input.length := (List.getElem?_eq_some_iff.1 hn).1
    have EQ : Hid (Vm.rd M = { M with read := M.read + 1, events := M.events ++ [(2, x)], stack := M.stack ++ [x] }) := by unfold Hid Vm.rd; rw [hn]
    rw [EQ.out]
    obtain ⟨g, o, hia, hg, hc⟩ := h.inp.s (by omega)
    have cx := hc _ _ hn
    rw [hia] at c1
    obtain ⟨n, hnn⟩ : ∃ n, n = M.input.length := ⟨_, rfl⟩
    obtain ⟨r, hrr⟩ : ∃ r, r = M.read := ⟨_, rfl⟩
    rw [← hnn] at c1 hrl hi
    rw [← hrr] at c2 cx hrl
    have HRR : Hid (r = M.read) := hrr
    have hri : (r : Int) < (n : Int) := by omega
    have hr0 : (0 : Int) ≤ (r : Int) := by omega
    have ee : ((r : Int) == (n : Int)) = false := beq_eq_false_iff_ne.2 (by omega)
    have een : (r == n) = false := beq_eq_false_iff_ne.2 (by omega)
    have hgl : g < w.heap.size := by omega
    clear h hnn hn EQ hr hs he hrr hc hia
    go_enter Tryd.func31, Tryd.ntmps31
    go_wp2_with fail
    go_quiet (fail)
    have y : Below w.heap.size w (w.drewN nq) := below_drewN (Below.refl _ _) nq
    have k1 := (y.cell (p := ⟨m, 1, none⟩) hlt).trans c1
    have k2 := (y.cell (p := ⟨m, 2, none⟩) hlt).trans c2
    have kx := (y.cell (p := ⟨g, o + r, none⟩) hgl).trans cx
    have Y5 : Hid (Below w.heap.size w (w.drewN nq)) := y
    clear y c1 c2 cx
    generalize w.drewN nq = W5 at Y5 k1 k2 kx ⊢
    go_wp2_with fail
    go_quiet (fail)
    have y6 : Below w.heap.size w (W5.drewN nq) := below_drewN Y5.out nq
    have H6 := HH.out.later y6
    have d2 := H6.cell.2.2.1
    have f2 := H6.frozen 2
    rw [← HRR.out] at d2
    have H7 := H6.setRd (M.read + 1)
    have e1 : ((M.read + 1 : Nat) : Int) = (r : Int) + 1 := by rw [HRR.out]; omega
    rw [e1] at H7
    have Y6 : Hid (Below m w (W5.drewN nq)) := y6.mono (Nat.le_of_lt hlt)
    clear y6 H6 k1 k2 kx Y5
    generalize W5.drewN nq = W6 at Y6 d2 f2 H7 ⊢
    obtain ⟨W7, hW7⟩ : ∃ W7, W7 = W6.setCell ⟨m, 2, none⟩ (.int .i64 ((r : Int) + 1)) := ⟨_, rfl⟩
    rw [← hW7] at H7
    have B7 : Hid (Below m w W7) := by rw [hW7]; exact Y6.out.trans below_set
    have ET : Hid _ := vmTell m W7 V _ 2 x H7 HE.out
    clear H7
    go_upto_region 4 with fail
    rw [← hW7]
    clear hW7 d2 f2 Y6
    go_wp2_with fail
    refine Calls.mono ET.out ?_
    rintro e8 w8 ⟨rfl, b8, V8, h8⟩
    have EP : Hid _ := vmPush m w8 V8 _ x h8 HS.out
    have B8 : Hid (Below m w w8) := B7.out.trans b8
    clear b8 h8 ET
    go_wp2_with fail
    refine Calls.mono EP.out ?_
    rintro e9 w9 ⟨rfl, Q9⟩
    have FIN : Hid (VmQ m w w9 _) := ⟨B8.out.trans Q9.1, Q9.2⟩
    clear Q9 EP
    go_wp2_with fail
    first
      | (go_end0; exact ⟨rfl, FIN.out⟩)
      | (refine bodyPost_ret (v := .tuple #[]) (by simp [results, Tryd.results31, go_sem]) rfl ?_; exact ⟨rfl, FIN.out⟩)
end Go.Proofs.YtkjkiknpgggadaaDoor

namespace Go.Proofs.YtkjkiknpgggadaaDoor
open Go.RowKit
set_option linter.unusedVariables false
set_option linter.unusedSimpArgs false

abbrev frV (f : Vm.Fr) : Value := .agg #[.int .i64 f.proc, .int .i64 f.place, .int .i64 f.mark, .int .i64 f.base]
abbrev frB (f : Vm.Fr) : Obj := .cells #[.int .i64 f.proc, .int .i64 f.place, .int .i64 f.mark, .int .i64 f.base] 70
theorem VmS.cells {m : Nat} {w : World} {V : VmV} {M : Vm.Mc} (h : VmS m w V M) (h0 : 0 < M.cells.length) : ∃ g cap, V.cv = .slice (some ⟨g, 0, none⟩) M.cells.length cap ∧ M.cells.length ≤ cap ∧ m < g ∧ g < w.heap.size ∧ (∀ j x, M.cells[j]? = some x → w.cell? ⟨g, j, none⟩ = some (.int .i64 x)) ∧ ∀ k, w.frozen? ⟨g, k, none⟩ = false := by
  have ho : w.ownsRow (m + 1) 2 1 V.cv M.cells.length (nC M.cells) := h.rows.od
  have hl := World.ownsRow.lt ho
  have hc := @World.ownsRow.cells _ _ _ _ _ _ _ ho
  rcases ho.2 with ⟨_, e⟩ | ⟨g, cap, cur, e, hb, hh, hcap, _⟩
  · omega
  · have eo : V.cv.ownBlock = some g := by rw [e]; rfl
    refine ⟨g, cap, e, hcap, by omega, (hl g eo).2, fun j x hx => ?_, fun k => by simp [World.frozen?, hh]⟩
    have := @hc g eo j (.int .i64 x) (by simp [nC, hx])
    have add : (⟨g, 0, none⟩ : Addr).add j = ⟨g, j, none⟩ := by unfold Addr.add; split <;> simp_all
    rwa [add] at this
set_option maxRecDepth 100000 in
set_option maxHeartbeats 8000000 in
theorem vmCells (m : Nat) (w : World) (V : VmV) (M : Vm.Mc) (f : Vm.Fr) (c : Cd.Co) (k g cap : Nat) (h : VmS m w V M) (hc : M.codes[f.proc]? = some c) (hk : c.cells = k) (hv : V.cv = .slice (some ⟨g, 0, none⟩) M.cells.length cap) (hcap : M.cells.length ≤ cap) (hb : f.base + k ≤ M.cells.length) (hl : M.cells.length ≤ 100000000) (hk1 : 0 < k) :
    Calls Tryd.prog 43 #[.pointer (some ⟨m, 0, none⟩), frV f] w fun e w' => e = .returned (.slice (some ⟨g, f.base, none⟩) k (cap - f.base)) ∧ Below w.heap.size w w' := by
  obtain ⟨W1, hW1⟩ : ∃ W1, W1 = w.alloc (frB f) := ⟨_, rfl⟩
  obtain ⟨fb, hfb⟩ : ∃ fb, fb = w.heap.size := ⟨_, rfl⟩
  have b1 : Below w.heap.size w W1 := by rw [hW1]; exact (Below.refl _ _).alloc (Nat.le_refl _) _
  have h1 := h.later b1
  have p0 : W1.cell? ⟨fb, 0, none⟩ = some (.int .i64 f.proc) := by rw [hW1, hfb]; simp [go_sem]
  have p3 : W1.cell? ⟨fb, 3, none⟩ = some (.int .i64 f.base) := by rw [hW1, hfb]; simp [go_sem]
  have c0 := h1.cell.1
  have c11 := h1.cell.2.2.2.2.2.2.2.1
  rw [hv] at c11
  obtain ⟨gc, oc, ia, ic, hca, hgc, ca⟩ := h1.co.at hc
  have cc := ca.c1
  rw [hk] at cc
  rw [hca] at c0
  have hpl : f.proc < M.codes.length := (List.getElem?_eq_some_iff.1 hc).1
  have BW : Hid (Below w.heap.size w W1) := b1
  obtain ⟨n, hn⟩ : ∃ n, n = M.cells.length := ⟨_, rfl⟩
  rw [← hn] at c11 hcap hb hl
  obtain ⟨q, hq⟩ : ∃ q, q = f.base := ⟨_, rfl⟩
  rw [← hq] at p3 hb ⊢
  obtain ⟨NC, hNC⟩ : ∃ NC, NC = M.codes.length := ⟨_, rfl⟩
  rw [← hNC] at c0 hpl
  have hpi : (f.proc : Int) < (NC : Int) := by omega
  have hp0 : (0 : Int) ≤ (f.proc : Int) := by omega
  have hq0 : (0 : Int) ≤ (q : Int) := by omega
  have hqk : (q : Int) ≤ (q : Int) + (k : Int) := by omega
  have hqc : (q : Int) + (k : Int) ≤ (cap : Int) := by omega
  have hqb : (q : Int) + (k : Int) ≤ 100000000 := by omega
  have hn1 : ¬ cap - q = 0 := by omega
  have hn2 : (cap - q == 0) = false := beq_eq_false_iff_ne.2 hn1
  have hn3 : ¬ (cap : Int) - (q : Int) = 0 := by omega
  have hn4 : ¬ cap = q := by omega
  have hn5 : ¬ cap ≤ q := by omega
  have hn6 : q < cap := by omega
  have hn7 : (q : Int) < (cap : Int) := by omega
  clear h h1 hc hk hv hca ca hn hNC b1
  show Calls _ _ #[_, .agg #[.int .i64 f.proc, .int .i64 f.place, .int .i64 f.mark, .int .i64 f.base]] _ _
  rw [← hq]
  unfold frB at hW1
  rw [← hq] at hW1
  clear hq
  go_enter Tryd.func43, Tryd.ntmps43
  go_upto_region 1 with fail
  rw [← hW1, ← hfb]
  clear hW1 hfb
  go_wp2_with fail
  go_quiet (fail)
  have BQ := below_drewN BW.out nq
  clear c0 c11 cc p0 p3 BW
  generalize W1.drewN nq = W5 at BQ ⊢
  go_wp2_with fail
  go_ret
  refine ⟨?_, BQ⟩
  first
    | rfl
    | (simp; done)
    | (congr 2 <;> omega)
end Go.Proofs.YtkjkiknpgggadaaDoor

namespace Go.Proofs.YtkjkiknpgggadaaDoor
open Go.RowKit
set_option linter.unusedVariables false
set_option linter.unusedSimpArgs false

def Vm.ip (a : Int) (k : Nat) : Bool := decide (0 ≤ a) && decide (a < (k : Int))
theorem vmIsPlace (a : Int) (la : Option Addr) (k c : Nat) (w : World) : Calls Tryd.prog 61 #[.int .i64 a, .slice la k c] w fun e w' => e = .returned (.bool (Vm.ip a k)) ∧ w' = w := by
  unfold Vm.ip
  by_cases h1 : 0 ≤ a
  · have d1 : decide (0 ≤ a) = true := decide_eq_true h1
    by_cases h2 : a < (k : Int)
    · have d2 : decide (a < (k : Int)) = true := decide_eq_true h2
      rw [d1, d2]
      go_enter Tryd.func61, Tryd.ntmps61
      go_wp2_with fail
      go_ret
      exact ⟨rfl, rfl⟩
    · have d2 : decide (a < (k : Int)) = false := decide_eq_false h2
      rw [d1, d2]
      go_enter Tryd.func61, Tryd.ntmps61
      go_wp2_with fail
      go_ret
      exact ⟨rfl, rfl⟩
  · have d1 : decide (0 ≤ a) = false := decide_eq_false h1
    rw [d1]
    go_enter Tryd.func61, Tryd.ntmps61
    go_wp2_with fail
    go_ret
    exact ⟨rfl, rfl⟩
def Vm.ix (M : Vm.Mc) (s : List Int) (a : Int) (o k : Nat) : Vm.Mc := if Vm.ip a k then { M with stack := s ++ [M.cells.getD (o + a.toNat) 0] } else { M with stack := s, events := M.events ++ [(4, 2)], run := false }
set_option maxRecDepth 100000 in
set_option maxHeartbeats 8000000 in
theorem vmIndex (m : Nat) (w : World) (V : VmV) (M : Vm.Mc) (s : List Int) (a : Int) (g cap o k c : Nat) (h : VmS m w V M) (hs : M.stack = s ++ [a]) (hsl : s.length ≤ 1000000) (he : M.events.length ≤ 1000000000) (hv : V.cv = .slice (some ⟨g, 0, none⟩) M.cells.length cap) (ho : o + k ≤ M.cells.length) (hk : 0 < k) (hl : M.cells.length ≤ 100000000) :
    Calls Tryd.prog 48 #[.pointer (some ⟨m, 0, none⟩), .slice (some ⟨g, o, none⟩) k c] w fun e w' => e = .returned (.tuple #[]) ∧ VmQ m w w' (Vm.ix M s a o k) := by
  have EP : Hid _ := vmPop2 m w V M s a h hs hsl
  have EI : Hid (∀ X, _) := fun X => vmIsPlace a (some ⟨g, o, none⟩) k c X
  have HV : Hid (V.cv = .slice (some ⟨g, 0, none⟩) M.cells.length cap) := hv
  have HO : Hid (o + k ≤ M.cells.length ∧ 0 < k ∧ s.length ≤ 1000000 ∧ M.events.length ≤ 1000000000) := ⟨ho, hk, hsl, he⟩
  have hkb : k ≤ 100000000 := by omega
  clear h hs hsl he hv ho hl
  cases hip : Vm.ip a k with
  | false =>
    have EQ : Hid (Vm.ix M s a o k = { M with stack := s, events := M.events ++ [(4, 2)], run := false }) := by unfold Hid Vm.ix; rw [hip]; rfl
    rw [EQ.out]
    rw [hip] at EI
    clear hip EQ
    go_enter Tryd.func48, Tryd.ntmps48
    go_wp2_with fail
    refine Calls.mono EP.out ?_
    rintro e1 w1 ⟨rfl, b1, sv1, h1⟩
    have ET : Hid _ := vmTrap m w1 _ _ 2 h1 HO.out.2.2.2
    have B1 : Hid (Below m w w1) := b1
    clear b1 h1 EP
    go_wp2_with fail
    refine Calls.mono (EI.out _) ?_
    rintro e2 w2 ⟨rfl, rfl⟩
    go_wp2_with fail
    refine Calls.mono ET.out ?_
    rintro e3 w3 ⟨rfl, Q3⟩
    have FIN : Hid (VmQ m w w3 _) := ⟨B1.out.trans Q3.1, Q3.2⟩
    clear Q3 ET
    go_wp2_with fail
    refine bodyPost_ret (v := .tuple #[]) (by simp [results, Tryd.results48, go_sem]) rfl ?_
    exact ⟨rfl, FIN.out⟩
  | true =>
    have EQ : Hid (Vm.ix M s a o k = { M with stack := s ++ [M.cells.getD (o + a.toNat) 0] }) := by unfold Hid Vm.ix; rw [hip]; rfl
    rw [EQ.out]
    rw [hip] at EI
    unfold Vm.ip at hip
    simp only [Bool.and_eq_true, decide_eq_true_eq] at hip
    obtain ⟨j, rfl⟩ : ∃ j : Nat, a = j := ⟨a.toNat, by omega⟩
    have hjk : j < k := by omega
    have hji : (j : Int) < (k : Int) := by omega
    have hj0 : (0 : Int) ≤ (j : Int) := by omega
    rw [Int.toNat_natCast]
    clear hip EQ
    go_enter Tryd.func48, Tryd.ntmps48
    go_wp2_with fail
    refine Calls.mono EP.out ?_
    rintro e1 w1 ⟨rfl, b1, sv1, h1⟩
    obtain ⟨g', cap', hv', _, _, hgl, hcells, _⟩ := h1.cells (by have := HO.out; show 0 < M.cells.length; omega)
    have hv2 : V.cv = .slice (some ⟨g', 0, none⟩) M.cells.length cap' := hv'
    rw [HV.out] at hv2
    cases hv2
    have cx := hcells (o + j) (M.cells.getD (o + j) 0) (by
      show M.cells[o + j]? = _
      have hlt : o + j < M.cells.length := by have := HO.out; omega
      rw [List.getD_eq_getElem?_getD, List.getElem?_eq_getElem hlt]; rfl)
    have EU : Hid (∀ v, _) := fun v => vmPush m w1 _ _ v h1 HO.out.2.2.1
    have B1 : Hid (Below m w w1) := b1
    obtain ⟨x, hx⟩ : ∃ x, x = M.cells.getD (o + j) 0 := ⟨_, rfl⟩
    rw [← hx] at cx
    have HX : Hid (x = M.cells.getD (o + j) 0) := hx
    clear hx
    clear b1 h1 EP hcells hv'
    go_wp2_with fail
    refine Calls.mono (EI.out _) ?_
    rintro e2 w2 ⟨rfl, rfl⟩
    go_wp2_with fail
    refine Calls.mono (EU.out x) ?_
    rintro e3 w3 ⟨rfl, Q3⟩
    have FIN : Hid (VmQ m w w3 { M with stack := s ++ [M.cells.getD (o + j) 0] }) := by rw [← HX.out]; exact ⟨B1.out.trans Q3.1, Q3.2⟩
    clear Q3 EU
    go_wp2_with fail
    first
      | (go_end0; exact ⟨rfl, FIN.out⟩)
      | (refine bodyPost_ret (v := .tuple #[]) (by simp [results, Tryd.results48, go_sem]) rfl ?_; exact ⟨rfl, FIN.out⟩)
def Vm.pt (M : Vm.Mc) (s : List Int) (a n : Int) (o k : Nat) : Vm.Mc := if Vm.ip a k then { M with stack := s, cells := M.cells.set (o + a.toNat) n } else { M with stack := s, events := M.events ++ [(4, 2)], run := false }
theorem VmS.setCe {m : Nat} {w : World} {V : VmV} {M : Vm.Mc} {g cap i : Nat} (h : VmS m w V M) (hv : V.cv = .slice (some ⟨g, 0, none⟩) M.cells.length cap) (hg : m < g) (hi : i < M.cells.length) (x : Int) : Below m w (w.setCell ⟨g, i, none⟩ (.int .i64 x)) ∧ VmS m (w.setCell ⟨g, i, none⟩ (.int .i64 x)) V { M with cells := M.cells.set i x } := by
  have b : Below m w (w.setCell ⟨g, i, none⟩ (.int .i64 x)) := ⟨rfl, rfl, rfl, by simp, fun j hj => heap_setCell_other _ _ j _ (by simp; omega)⟩
  have r := (h.rows.swap3.put (g := g) (cap := cap) (i := i) (by show V.cv = _; exact hv) (by show _ < M.cells.length * 1; omega) (.int .i64 x)).swap3
  refine ⟨b, ⟨?_, ?_, h.co.later b, h.inp.later b⟩⟩
  · rw [heap_setCell_other _ _ m _ (by simp; omega), h.box]
  · have e : (nC M.cells).set i (.int .i64 x) = nC (M.cells.set i x) := by simp [nC, List.map_set]
    have e2 : M.cells.length = (M.cells.set i x).length := by simp
    dsimp only at r ⊢
    rw [e, e2] at r
    exact r
set_option maxRecDepth 100000 in
set_option maxHeartbeats 8000000 in
theorem vmPut (m : Nat) (w : World) (V : VmV) (M : Vm.Mc) (s : List Int) (a x : Int) (g cap o k c : Nat) (h : VmS m w V M) (hs : M.stack = s ++ [a, x]) (hsl : s.length ≤ 900000) (he : M.events.length ≤ 1000000000) (hv : V.cv = .slice (some ⟨g, 0, none⟩) M.cells.length cap) (ho : o + k ≤ M.cells.length) (hk : 0 < k) (hl : M.cells.length ≤ 100000000) :
    Calls Tryd.prog 49 #[.pointer (some ⟨m, 0, none⟩), .slice (some ⟨g, o, none⟩) k c] w fun e w' => e = .returned (.tuple #[]) ∧ VmQ m w w' (Vm.pt M s a x o k) := by
  have EP : Hid _ := vmPop2 m w V M (s ++ [a]) x h (by rw [hs]; simp) (by simp; omega)
  have EI : Hid (∀ X, _) := fun X => vmIsPlace a (some ⟨g, o, none⟩) k c X
  have HV : Hid (V.cv = .slice (some ⟨g, 0, none⟩) M.cells.length cap) := hv
  have HO : Hid (o + k ≤ M.cells.length ∧ 0 < k ∧ s.length ≤ 900000 ∧ M.events.length ≤ 1000000000) := ⟨ho, hk, hsl, he⟩
  have hkb : k ≤ 100000000 := by omega
  clear h hs hsl he hv ho hl
  cases hip : Vm.ip a k with
  | false =>
    have EQ : Hid (Vm.pt M s a x o k = { M with stack := s, events := M.events ++ [(4, 2)], run := false }) := by unfold Hid Vm.pt; rw [hip]; rfl
    rw [EQ.out]
    rw [hip] at EI
    clear hip EQ
    go_enter Tryd.func49, Tryd.ntmps49
    go_wp2_with fail
    refine Calls.mono EP.out ?_
    rintro e1 w1 ⟨rfl, b1, sv1, h1⟩
    have EP2 : Hid _ := vmPop2 m w1 _ _ s a h1 rfl (by have := HO.out; omega)
    have B1 : Hid (Below m w w1) := b1
    clear b1 h1 EP
    go_wp2_with fail
    refine Calls.mono EP2.out ?_
    rintro e2 w2 ⟨rfl, b2, sv2, h2⟩
    have ET : Hid _ := vmTrap m w2 _ _ 2 h2 HO.out.2.2.2
    have B2 : Hid (Below m w w2) := B1.out.trans b2
    clear b2 h2 EP2 B1
    go_wp2_with fail
    refine Calls.mono (EI.out _) ?_
    rintro e3 w3 ⟨rfl, rfl⟩
    go_wp2_with fail
    refine Calls.mono ET.out ?_
    rintro e4 w4 ⟨rfl, Q4⟩
    have FIN : Hid (VmQ m w w4 { M with stack := s, events := M.events ++ [(4, 2)], run := false }) := ⟨B2.out.trans Q4.1, Q4.2⟩
    clear Q4 ET
    go_wp2_with fail
    refine bodyPost_ret (v := .tuple #[]) (by simp [results, Tryd.results49, go_sem]) rfl ?_
    exact ⟨rfl, FIN.out⟩
  | true =>
    have EQ : Hid (Vm.pt M s a x o k = { M with stack := s, cells := M.cells.set (o + a.toNat) x }) := by unfold Hid Vm.pt; rw [hip]; rfl
    rw [EQ.out]
    rw [hip] at EI
    unfold Vm.ip at hip
    simp only [Bool.and_eq_true, decide_eq_true_eq] at hip
    obtain ⟨j, rfl⟩ : ∃ j : Nat, a = j := ⟨a.toNat, by omega⟩
    have hjk : j < k := by omega
    have hji : (j : Int) < (k : Int) := by omega
    have hj0 : (0 : Int) ≤ (j : Int) := by omega
    rw [Int.toNat_natCast]
    clear hip EQ
    go_enter Tryd.func49, Tryd.ntmps49
    go_wp2_with fail
    refine Calls.mono EP.out ?_
    rintro e1 w1 ⟨rfl, b1, sv1, h1⟩
    have EP2 : Hid _ := vmPop2 m w1 _ _ s (j : Int) h1 rfl (by have := HO.out; omega)
    have B1 : Hid (Below m w w1) := b1
    clear b1 h1 EP
    go_wp2_with fail
    refine Calls.mono EP2.out ?_
    rintro e2 w2 ⟨rfl, b2, sv2, h2⟩
    obtain ⟨g', cap', hv', _, hmg, hgl, hcells, hfz⟩ := h2.cells (by have := HO.out; show 0 < M.cells.length; omega)
    have hv2 : V.cv = .slice (some ⟨g', 0, none⟩) M.cells.length cap' := hv'
    rw [HV.out] at hv2
    cases hv2
    have hlt : o + j < M.cells.length := by have := HO.out; omega
    have cx := hcells (o + j) (M.cells.getD (o + j) 0) (by
      show M.cells[o + j]? = _
      rw [List.getD_eq_getElem?_getD, List.getElem?_eq_getElem hlt]; rfl)
    have fx := hfz (o + j)
    have Q := h2.setCe HV.out hmg hlt x
    have FIN : Hid (VmQ m w (w2.setCell ⟨g, o + j, none⟩ (.int .i64 x)) { M with stack := s, cells := M.cells.set (o + j) x }) := ⟨(B1.out.trans b2).trans Q.1, _, Q.2⟩
    clear b2 h2 EP2 hcells hv' hfz Q
    go_wp2_with fail
    refine Calls.mono (EI.out _) ?_
    rintro e3 w3 ⟨rfl, rfl⟩
    go_wp2_with fail
    first
      | (go_end0; exact ⟨rfl, FIN.out⟩)
      | (refine bodyPost_ret (v := .tuple #[]) (by simp [results, Tryd.results49, go_sem]) rfl ?_; exact ⟨rfl, FIN.out⟩)
end Go.Proofs.YtkjkiknpgggadaaDoor

