/- Layer 9: leave, readNumber. -/
/- Layer 9: readNumber; what two numbers leave; join. -/
import Derived.Test.YtkjkiknpgggadaaDoorSVmG
import Derived.Deep.RegionWith
import Derived.Test.YtkjkiknpgggadaaDoorSGrN
namespace Go.Proofs.YtkjkiknpgggadaaDoor
open Go.RowKit
set_option linter.unusedVariables false
set_option linter.unusedSimpArgs false

theorem own_cut {w : World} {base : Nat} {e : TypeId} {sz n c k : Nat} {a : Option Addr} {xs : List Value} (h : w.ownsRow base e sz (.slice a n c) n xs) (hk : k ≤ n) : w.ownsRow base e sz (.slice a k c) k (xs.take (k * sz)) := by
  have hl := h.1
  have hks : k * sz ≤ n * sz := Nat.mul_le_mul_right _ hk
  refine ⟨by rw [List.length_take, hl]; omega, ?_⟩
  rcases h.2 with ⟨hv, h0⟩ | ⟨g', cap', cur, hv, hb, hh, h1, h2, h3, h4⟩
  · cases hv
    exact .inl ⟨by have : k = 0 := by omega
                   rw [this], by omega⟩
  · cases hv
    refine .inr ⟨g', c, cur, rfl, hb, hh, by omega, h2, h3, ?_⟩
    rw [← h4, List.take_take]
    congr 1
    omega
theorem VmS.setC {m : Nat} {w w8 : World} {V : VmV} {M : Vm.Mc} (h : VmS m w V M) (b8 : Below (m + 1) w w8) {cv' : Value} {cs' : List Int} (r8 : VmR M.g w8 (m + 1) (stR V M) (evR V M) (frR V M) ⟨2, 1, cv', cs'.length, nC cs'⟩) : Below m w (w8.setCell ⟨m, 11, none⟩ cv') ∧ VmS m (w8.setCell ⟨m, 11, none⟩ cv') { V with cv := cv' } { M with cells := cs' } := by
  have hb : w8.heap[m]? = some (vmB V M) := (b8.block m (by omega)).trans h.box
  have bm : Below m w (w8.setCell ⟨m, 11, none⟩ cv') := (b8.mono (by omega)).trans below_set
  exact ⟨bm, ⟨heap_setCell_same _ _ _ _ _ _ hb, r8.below _, h.co.later bm, h.inp.later bm⟩⟩
theorem VmS.setFs {m : Nat} {w w8 : World} {V : VmV} {M : Vm.Mc} (h : VmS m w V M) (b8 : Below (m + 1) w w8) {fv' : Value} {fs' : List Vm.Fr} (r8 : VmR M.g w8 (m + 1) (stR V M) (evR V M) ⟨70, 4, fv', fs'.length, Vm.frC fs'⟩ (ceR V M)) : Below m w (w8.setCell ⟨m, 10, none⟩ fv') ∧ VmS m (w8.setCell ⟨m, 10, none⟩ fv') { V with fv := fv' } { M with frames := fs' } := by
  have hb : w8.heap[m]? = some (vmB V M) := (b8.block m (by omega)).trans h.box
  have bm : Below m w (w8.setCell ⟨m, 10, none⟩ fv') := (b8.mono (by omega)).trans below_set
  exact ⟨bm, ⟨heap_setCell_same _ _ _ _ _ _ hb, r8.below _, h.co.later bm, h.inp.later bm⟩⟩
theorem VmS.cutC {m : Nat} {w : World} {V : VmV} {M : Vm.Mc} {a : Option Addr} {c k : Nat} (h : VmS m w V M) (hv : V.cv = .slice a M.cells.length c) (hk : k ≤ M.cells.length) : Below m w (w.setCell ⟨m, 11, none⟩ (.slice a k c)) ∧ VmS m (w.setCell ⟨m, 11, none⟩ (.slice a k c)) { V with cv := .slice a k c } { M with cells := M.cells.take k } := by
  have ho : w.ownsRow (m + 1) 2 1 V.cv M.cells.length (nC M.cells) := h.rows.od
  rw [hv] at ho
  have h1 := own_cut ho hk
  have e : (nC M.cells).take (k * 1) = nC (M.cells.take k) := by rw [Nat.mul_one]; simp [nC]
  have e2 : (M.cells.take k).length = k := by simp; omega
  rw [e] at h1
  refine h.setC (Below.refl _ _) ?_
  rw [e2]
  exact (h.rows.swap3.cut (v' := .slice a k c) (n' := k) (xs' := nC (M.cells.take k)) h1 (fun g eg => by show V.cv.ownBlock = _; rw [hv]; cases a <;> exact eg)).swap3
theorem VmS.cutF {m : Nat} {w : World} {V : VmV} {M : Vm.Mc} {fs : List Vm.Fr} {f : Vm.Fr} {g cap : Nat} (h : VmS m w V M) (hf : M.frames = fs ++ [f]) (hv : V.fv = .slice (some ⟨g, 0, none⟩) (fs.length + 1) cap) : Below m w (w.setCell ⟨m, 10, none⟩ (.slice (some ⟨g, 0, none⟩) fs.length cap)) ∧ VmS m (w.setCell ⟨m, 10, none⟩ (.slice (some ⟨g, 0, none⟩) fs.length cap)) { V with fv := .slice (some ⟨g, 0, none⟩) fs.length cap } { M with frames := fs } := by
  have ho : w.ownsRow (m + 1) 70 4 V.fv M.frames.length (Vm.frC M.frames) := h.rows.oc
  rw [hv, hf, List.length_append, List.length_singleton] at ho
  have h1 := own_cut (k := fs.length) ho (by omega)
  have e : (Vm.frC (fs ++ [f])).take (fs.length * 4) = Vm.frC fs := by rw [Vm.frC_app, List.take_left' (Vm.frC_len fs)]
  rw [e] at h1
  refine h.setFs (Below.refl _ _) ?_
  exact (h.rows.swap2.cut (v' := .slice (some ⟨g, 0, none⟩) fs.length cap) (n' := fs.length) (xs' := Vm.frC fs) h1 (fun k eg => by show V.fv.ownBlock = _; rw [hv]; exact eg)).swap2
def Vm.lv (M : Vm.Mc) (fs : List Vm.Fr) (f : Vm.Fr) : Vm.Mc := if fs = [] then { M with cells := M.cells.take f.base, frames := fs, events := M.events ++ [(3, 0)], run := false } else { M with cells := M.cells.take f.base, frames := fs }
set_option maxRecDepth 100000 in
set_option maxHeartbeats 8000000 in
theorem vmLeave (m : Nat) (w : World) (V : VmV) (M : Vm.Mc) (fs : List Vm.Fr) (f : Vm.Fr) (h : VmS m w V M) (hf : M.frames = fs ++ [f]) (hb : fs.length ≤ 1000000) (hba : f.base ≤ M.cells.length) (hce : M.cells.length ≤ 100000000) (hev : M.events.length ≤ 1000000000) :
    Calls Tryd.prog 29 #[.pointer (some ⟨m, 0, none⟩)] w fun e w' => e = .returned (.tuple #[]) ∧ VmQ m w w' (Vm.lv M fs f) := by
  obtain ⟨g, cap, hv, hcap, hmg, hgl, p0, p1, p2, p3, pf⟩ := h.top hf
  have ho : w.ownsRow (m + 1) 2 1 V.cv M.cells.length (nC M.cells) := h.rows.od
  obtain ⟨ca, cc, hcv⟩ := own_shp ho
  have c10 := h.cell.2.2.2.2.2.2.1
  have c11 := h.cell.2.2.2.2.2.2.2.1
  rw [hv] at c10
  rw [hcv] at c11
  have hcc : M.cells.length ≤ cc := by
    rw [hcv] at ho
    rcases ho.2 with ⟨e, e0⟩ | ⟨_, _, _, e, _, _, hc, _⟩
    · omega
    · injection e with e1 e2 e3; omega
  have f10 := h.frozen 10
  have f11 := h.frozen 11
  have hlt := h.lt
  have HH : Hid (VmS m w V M) := h
  have HF : Hid (M.frames = fs ++ [f]) := hf
  have HV : Hid (V.fv = .slice (some ⟨g, 0, none⟩) (fs.length + 1) cap) := hv
  have HCV : Hid (V.cv = .slice ca M.cells.length cc) := hcv
  have HBA : Hid (f.base ≤ M.cells.length) := hba
  obtain ⟨n, hn⟩ : ∃ n, n = fs.length := ⟨_, rfl⟩
  have HN : Hid (n = fs.length) := hn
  rw [← hn] at p0 p1 p2 p3 c10 hb hcap
  obtain ⟨nc, hnc⟩ : ∃ nc, nc = M.cells.length := ⟨_, rfl⟩
  rw [← hnc] at c11 hba hce hcc
  have HNC : Hid (nc = M.cells.length) := hnc
  obtain ⟨k, hk⟩ : ∃ k, k = f.base := ⟨_, rfl⟩
  have HK : Hid (k = f.base) := hk
  rw [← hk] at p3 hba
  have hki : (k : Int) ≤ (cc : Int) := by omega
  have hk0 : (0 : Int) ≤ (k : Int) := by omega
  have HEV : Hid (M.events.length ≤ 1000000000) := hev
  have ET : Hid (∀ X, Below w.heap.size w X → Calls Tryd.prog 26 #[.pointer (some ⟨m, 0, none⟩)] X fun e w' => e = .returned (.pointer (some ⟨g, n * 4, none⟩)) ∧ Below w.heap.size w w') := fun X hX => (vmTop m g n cap X ((hX.cell (p := ⟨m, 10, none⟩) hlt).trans c10) hb).mono fun e w' ⟨a, q, hq⟩ => ⟨a, by rw [hq]; exact below_drewN hX q⟩
  clear h hf hv hcv ho hn hnc hk p0 p1 p2 pf hev
  go_enter Tryd.func29, Tryd.ntmps29
  go_wp2_with fail
  go_cut [0] from 2 to 14 (fun s wx => s = .pointer (some ⟨m, 0, none⟩) ∧ ∃ w5, Hid (Below w.heap.size w w5) ∧ wx = w5.setCell ⟨m, 11, none⟩ (.slice ca k cc))
  case first =>
    go_region_with (first
      | (go_at_call 26; refine Calls.mono (ET.out _ (by go_grown)) ?_; rintro e5 w5 ⟨rfl, y5⟩; have z11 := (y5.cell (p := ⟨m, 11, none⟩) hlt).trans c11; have z3 := (y5.cell (p := ⟨g, n * 4 + 3, none⟩) hgl).trans p3; have zf := (y5.frozen (p := ⟨m, 11, none⟩) hlt).trans f11; have Y5 : Hid (Below w.heap.size w w5) := y5; clear y5))
    all_goals
      go_wp2_with fail
      go_meet
      exact ⟨rfl, _, Y5, rfl⟩
  case rest =>
    obtain ⟨rfl, w5, Y5, rfl⟩ := hcut
    have H5 := HH.out.later Y5.out
    have C5 := H5.cutC HCV.out (k := k) (by rw [HK.out]; exact HBA.out)
    obtain ⟨W6, hW6⟩ : ∃ W6, W6 = w5.setCell ⟨m, 11, none⟩ (.slice ca k cc) := ⟨_, rfl⟩
    rw [← hW6] at C5 ⊢
    have F6 := C5.2.cutF HF.out HV.out
    have d10 := C5.2.cell.2.2.2.2.2.2.1
    have g10 := C5.2.frozen 10
    try dsimp only at d10
    rw [HV.out, ← HN.out] at d10
    rw [← HN.out] at F6
    have BB : Hid (Below m w W6) := (Y5.out.mono (Nat.le_of_lt hlt)).trans C5.1
    obtain ⟨W7, hW7⟩ : ∃ W7, W7 = W6.setCell ⟨m, 10, none⟩ (.slice (some ⟨g, 0, none⟩) n cap) := ⟨_, rfl⟩
    rw [← hW7] at F6
    have B7 : Hid (Below m w W7) := BB.out.trans F6.1
    have H7 : Hid _ := F6.2
    have e7 : ((n : Int) + 1 - 1) = n := by omega
    have hni : (n : Int) ≤ (cap : Int) := by omega
    have hn0 : (0 : Int) ≤ (n : Int) := by omega
    clear C5 H5 hW6 F6 BB c10 c11 f10 f11 p3 hgl Y5
    go_wp2_with fail
    go_cut [0] from 15 to 28 (fun s wx => s = .pointer (some ⟨m, 0, none⟩) ∧ Hid (Below W7.heap.size W7 wx))
    case first =>
      go_region
      all_goals
        go_wp2_with fail
        go_meet
        exact ⟨rfl, by rw [hW7]; exact ⟨rfl, rfl, rfl, Nat.le_refl _, fun _ _ => rfl⟩⟩
    case rest =>
      obtain ⟨rfl, Y8⟩ := hcut
      have H8 := H7.out.later Y8.out
      have B8 : Hid (Below m w wc) := B7.out.trans (Y8.out.mono (Nat.le_of_lt H7.out.lt))
      have d8 := H8.cell.2.2.2.2.2.2.1
      try dsimp only at d8
      have EL : Hid (fs = [] → Vm.lv M fs f = { M with cells := M.cells.take f.base, frames := fs, events := M.events ++ [(3, 0)], run := false }) := fun e => by unfold Vm.lv; rw [if_pos e]
      have EM : Hid (fs ≠ [] → Vm.lv M fs f = { M with cells := M.cells.take f.base, frames := fs }) := fun e => by unfold Vm.lv; rw [if_neg e]
      have HK8 : Hid (VmS m wc _ _) := H8
      clear hW7 d10 g10 H7 B7 Y8
      by_cases h0 : n = 0
      · subst h0
        have hfs : fs = [] := List.length_eq_zero_iff.1 HN.out.symm
        have EE : Hid _ := vmEnd m wc _ _ 3 0 HK8.out HEV.out
        rw [HK.out] at EE
        have FQ : Hid (∀ w', VmQ m wc w' _ → VmQ m w w' (Vm.lv M fs f)) := fun w' hq => ⟨B8.out.trans hq.1, by rw [EL.out hfs]; exact hq.2⟩
        clear HK8 H8
        go_wp2_with fail
        refine Calls.mono EE.out ?_
        rintro e9 w9 ⟨rfl, Q9⟩
        have FIN : Hid (VmQ m w w9 (Vm.lv M fs f)) := FQ.out w9 Q9
        clear Q9 EE FQ
        go_wp2_with fail
        first
          | (go_end0; exact ⟨rfl, FIN.out⟩)
          | (go_ret; exact ⟨rfl, FIN.out⟩)
      · have hfs : fs ≠ [] := fun e => h0 (by rw [HN.out, e]; rfl)
        have e0 : ((n : Int) == 0) = false := beq_eq_false_iff_ne.2 (by omega)
        have FIN : Hid (VmQ m w wc (Vm.lv M fs f)) := ⟨B8.out, by rw [EM.out hfs]; rw [HK.out] at HK8; exact ⟨_, HK8.out⟩⟩
        clear HK8 H8 h0
        go_wp2_with fail
        first
          | (go_end0; exact ⟨rfl, FIN.out⟩)
          | (go_ret; exact ⟨rfl, FIN.out⟩)
end Go.Proofs.YtkjkiknpgggadaaDoor

namespace Go.Proofs.YtkjkiknpgggadaaDoor
open Go.RowKit
set_option linter.unusedVariables false
set_option linter.unusedSimpArgs false

theorem vmTruth (b : Bool) (w : World) : Calls Tryd.prog 50 #[.bool b] w fun e w' => e = .returned (.int .i64 (if b then 1 else 0)) ∧ w' = w := by
  cases b <;> (go_enter Tryd.func50, Tryd.ntmps50; go_wp2_with fail; go_ret; exact ⟨rfl, rfl⟩)
theorem vmAdd (a b : Int) (w : World) : Calls Tryd.prog 76 #[.int .i64 a, .int .i64 b] w fun e w' => e = .returned (.int .i64 (wrap64 (a + b))) ∧ w' = w := by
  go_enter Tryd.func76, Tryd.ntmps76
  go_wp2
  go_ret
  exact ⟨rfl, rfl⟩
theorem vmSub (a b : Int) (w : World) : Calls Tryd.prog 77 #[.int .i64 a, .int .i64 b] w fun e w' => e = .returned (.int .i64 (wrap64 (a - b))) ∧ w' = w := by
  go_enter Tryd.func77, Tryd.ntmps77
  go_wp2
  go_ret
  exact ⟨rfl, rfl⟩
theorem vmMul (a b : Int) (w : World) : Calls Tryd.prog 78 #[.int .i64 a, .int .i64 b] w fun e w' => e = .returned (.int .i64 (wrap64 (a * b))) ∧ w' = w := by
  go_enter Tryd.func78, Tryd.ntmps78
  go_wp2
  go_ret
  exact ⟨rfl, rfl⟩
theorem vmNeg (a : Int) (w : World) : Calls Tryd.prog 51 #[.int .i64 a] w fun e w' => e = .returned (.int .i64 (wrap64 (-a))) ∧ w' = w := by
  go_enter Tryd.func51, Tryd.ntmps51
  go_wp2
  go_ret
  exact ⟨rfl, rfl⟩
namespace Vm
def tr (b : Bool) : Int := if b then 1 else 0
def bt (op a b : Int) : Option Int :=
  if op = 7 then some (wrap64 (a + b)) else if op = 8 then some (wrap64 (a - b)) else if op = 9 then some (wrap64 (a * b))
  else if op = 10 then (if b = 0 then none else some (Pl.quot a b)) else if op = 11 then (if b = 0 then none else some (Pl.rest a b))
  else if op = 12 then some (tr (decide (a < b))) else if op = 13 then some (tr (decide (a ≤ b))) else some (tr (a == b))
def btE (r : Option Int) : Value := match r with | some v => .tuple #[.int .i64 v, .int .i64 0] | none => .tuple #[.int .i64 0, .int .i64 11]
end Vm
set_option maxRecDepth 100000 in
set_option maxHeartbeats 4000000 in
theorem vmBt7 (a b : Int) (w : World) : Calls Tryd.prog 62 #[.int .i64 7, .int .i64 a, .int .i64 b] w fun e w' => e = .returned (Vm.btE (some (wrap64 (a + b)))) ∧ w' = w := by
  have E : Hid _ := vmAdd a b w
  go_enter Tryd.func62, Tryd.ntmps62
  go_wp2_with fail
  refine Calls.mono E.out ?_
  rintro e1 w1 ⟨rfl, rfl⟩
  go_wp2_with fail
  go_ret2
  exact ⟨rfl, rfl⟩
set_option maxRecDepth 100000 in
set_option maxHeartbeats 4000000 in
theorem vmBt8 (a b : Int) (w : World) : Calls Tryd.prog 62 #[.int .i64 8, .int .i64 a, .int .i64 b] w fun e w' => e = .returned (Vm.btE (some (wrap64 (a - b)))) ∧ w' = w := by
  have E : Hid _ := vmSub a b w
  go_enter Tryd.func62, Tryd.ntmps62
  go_wp2_with fail
  refine Calls.mono E.out ?_
  rintro e1 w1 ⟨rfl, rfl⟩
  go_wp2_with fail
  go_ret2
  exact ⟨rfl, rfl⟩
set_option maxRecDepth 100000 in
set_option maxHeartbeats 4000000 in
theorem vmBt9 (a b : Int) (w : World) : Calls Tryd.prog 62 #[.int .i64 9, .int .i64 a, .int .i64 b] w fun e w' => e = .returned (Vm.btE (some (wrap64 (a * b)))) ∧ w' = w := by
  have E : Hid _ := vmMul a b w
  go_enter Tryd.func62, Tryd.ntmps62
  go_wp2_with fail
  refine Calls.mono E.out ?_
  rintro e1 w1 ⟨rfl, rfl⟩
  go_wp2_with fail
  go_ret2
  exact ⟨rfl, rfl⟩
set_option maxRecDepth 100000 in
set_option maxHeartbeats 4000000 in
theorem vmBt10 (a b : Int) (w : World) : Calls Tryd.prog 62 #[.int .i64 10, .int .i64 a, .int .i64 b] w fun e w' => e = .returned (Vm.btE (if b = 0 then none else some (Pl.quot a b))) ∧ w' = w := by
  by_cases h : b = 0
  · subst h
    rw [if_pos rfl]
    have E : Hid _ := div_zero a w
    go_enter Tryd.func62, Tryd.ntmps62
    go_wp2_with fail
    refine Calls.mono E.out ?_
    rintro e1 w1 ⟨rfl, rfl⟩
    go_wp2_with fail
    go_ret2
    exact ⟨rfl, rfl⟩
  · rw [if_neg h]
    have E : Hid _ := div_some a b w (beq_eq_false_iff_ne.2 h) h
    go_enter Tryd.func62, Tryd.ntmps62
    go_wp2_with fail
    refine Calls.mono E.out ?_
    rintro e1 w1 ⟨rfl, rfl⟩
    go_wp2_with fail
    go_ret2
    exact ⟨rfl, rfl⟩
set_option maxRecDepth 100000 in
set_option maxHeartbeats 4000000 in
theorem vmBt11 (a b : Int) (w : World) : Calls Tryd.prog 62 #[.int .i64 11, .int .i64 a, .int .i64 b] w fun e w' => e = .returned (Vm.btE (if b = 0 then none else some (Pl.rest a b))) ∧ w' = w := by
  by_cases h : b = 0
  · subst h
    rw [if_pos rfl]
    have E : Hid _ := mod_zero a w
    go_enter Tryd.func62, Tryd.ntmps62
    go_wp2_with fail
    refine Calls.mono E.out ?_
    rintro e1 w1 ⟨rfl, rfl⟩
    go_wp2_with fail
    go_ret2
    exact ⟨rfl, rfl⟩
  · rw [if_neg h]
    have E : Hid _ := mod_some a b w (beq_eq_false_iff_ne.2 h) h
    go_enter Tryd.func62, Tryd.ntmps62
    go_wp2_with fail
    refine Calls.mono E.out ?_
    rintro e1 w1 ⟨rfl, rfl⟩
    go_wp2_with fail
    go_ret2
    exact ⟨rfl, rfl⟩
set_option maxRecDepth 100000 in
set_option maxHeartbeats 4000000 in
theorem vmBt12 (a b : Int) (w : World) : Calls Tryd.prog 62 #[.int .i64 12, .int .i64 a, .int .i64 b] w fun e w' => e = .returned (Vm.btE (some (Vm.tr (decide (a < b))))) ∧ w' = w := by
  by_cases h : a < b
  · have d : decide (a < b) = true := decide_eq_true h
    rw [d]
    have E : Hid _ := vmTruth true w
    go_enter Tryd.func62, Tryd.ntmps62
    go_wp2_with fail
    refine Calls.mono E.out ?_
    rintro e1 w1 ⟨rfl, rfl⟩
    go_wp2_with fail
    go_ret2
    exact ⟨rfl, rfl⟩
  · have d : decide (a < b) = false := decide_eq_false h
    rw [d]
    have E : Hid _ := vmTruth false w
    go_enter Tryd.func62, Tryd.ntmps62
    go_wp2_with fail
    refine Calls.mono E.out ?_
    rintro e1 w1 ⟨rfl, rfl⟩
    go_wp2_with fail
    go_ret2
    exact ⟨rfl, rfl⟩
set_option maxRecDepth 100000 in
set_option maxHeartbeats 4000000 in
theorem vmBt13 (a b : Int) (w : World) : Calls Tryd.prog 62 #[.int .i64 13, .int .i64 a, .int .i64 b] w fun e w' => e = .returned (Vm.btE (some (Vm.tr (decide (a ≤ b))))) ∧ w' = w := by
  by_cases h : a ≤ b
  · have d : decide (a ≤ b) = true := decide_eq_true h
    rw [d]
    have E : Hid _ := vmTruth true w
    go_enter Tryd.func62, Tryd.ntmps62
    go_wp2_with fail
    refine Calls.mono E.out ?_
    rintro e1 w1 ⟨rfl, rfl⟩
    go_wp2_with fail
    go_ret2
    exact ⟨rfl, rfl⟩
  · have d : decide (a ≤ b) = false := decide_eq_false h
    rw [d]
    have E : Hid _ := vmTruth false w
    go_enter Tryd.func62, Tryd.ntmps62
    go_wp2_with fail
    refine Calls.mono E.out ?_
    rintro e1 w1 ⟨rfl, rfl⟩
    go_wp2_with fail
    go_ret2
    exact ⟨rfl, rfl⟩
set_option maxRecDepth 100000 in
set_option maxHeartbeats 4000000 in
theorem vmBt14 (a b : Int) (w : World) : Calls Tryd.prog 62 #[.int .i64 14, .int .i64 a, .int .i64 b] w fun e w' => e = .returned (Vm.btE (some (Vm.tr (a == b)))) ∧ w' = w := by
  by_cases h : a = b
  · have d : (a == b) = true := by rw [h]; exact beq_self_eq_true _
    rw [d]
    have E : Hid _ := vmTruth true w
    clear h
    go_enter Tryd.func62, Tryd.ntmps62
    go_wp2_with fail
    refine Calls.mono E.out ?_
    rintro e1 w1 ⟨rfl, rfl⟩
    go_wp2_with fail
    go_ret2
    exact ⟨rfl, rfl⟩
  · have d : (a == b) = false := beq_eq_false_iff_ne.2 h
    rw [d]
    have E : Hid _ := vmTruth false w
    clear h
    go_enter Tryd.func62, Tryd.ntmps62
    go_wp2_with fail
    refine Calls.mono E.out ?_
    rintro e1 w1 ⟨rfl, rfl⟩
    go_wp2_with fail
    go_ret2
    exact ⟨rfl, rfl⟩
theorem vmBt (op a b : Int) (h1 : 7 ≤ op) (h2 : op ≤ 14) (w : World) : Calls Tryd.prog 62 #[.int .i64 op, .int .i64 a, .int .i64 b] w fun e w' => e = .returned (Vm.btE (Vm.bt op a b)) ∧ w' = w := by
  rcases (by omega : op = 7 ∨ op = 8 ∨ op = 9 ∨ op = 10 ∨ op = 11 ∨ op = 12 ∨ op = 13 ∨ op = 14) with rfl | rfl | rfl | rfl | rfl | rfl | rfl | rfl
  · exact vmBt7 a b w
  · exact vmBt8 a b w
  · exact vmBt9 a b w
  · exact vmBt10 a b w
  · exact vmBt11 a b w
  · exact vmBt12 a b w
  · exact vmBt13 a b w
  · exact vmBt14 a b w
def Vm.jn (M : Vm.Mc) (op a b : Int) : Vm.Mc := match Vm.bt op a b with | some v => { M with stack := M.stack ++ [v] } | none => { M with events := M.events ++ [(4, 1)], run := false }
set_option maxRecDepth 100000 in
set_option maxHeartbeats 4000000 in
theorem vmJoin (m : Nat) (w : World) (V : VmV) (M : Vm.Mc) (op a b : Int) (h1 : 7 ≤ op) (h2 : op ≤ 14) (h : VmS m w V M) (hs : M.stack.length ≤ 1000000) (he : M.events.length ≤ 1000000000) : Calls Tryd.prog 52 #[.pointer (some ⟨m, 0, none⟩), .int .i64 op, .int .i64 a, .int .i64 b] w fun e w' => e = .returned (.tuple #[]) ∧ VmQ m w w' (Vm.jn M op a b) := by
  have EB : Hid _ := vmBt op a b h1 h2 w
  have ET : Hid _ := vmTrap m w V M 1 h he
  have EP : Hid (∀ v, _) := fun v => vmPush m w V M v h hs
  have EJ : Hid (Vm.jn M op a b = match Vm.bt op a b with | some v => { M with stack := M.stack ++ [v] } | none => { M with events := M.events ++ [(4, 1)], run := false }) := rfl
  clear h
  cases hr : Vm.bt op a b with
  | none =>
    rw [hr] at EB EJ
    have EJ2 : Hid (Vm.jn M op a b = { M with events := M.events ++ [(4, 1)], run := false }) := EJ.out
    rw [EJ2.out]
    unfold Vm.btE at EB
    clear hr EJ EJ2
    go_enter Tryd.func52, Tryd.ntmps52
    go_wp2_with fail
    refine Calls.mono EB.out ?_
    rintro e1 w1 ⟨rfl, rfl⟩
    go_wp2_with fail
    refine Calls.mono ET.out ?_
    rintro e2 w2 ⟨rfl, Q2⟩
    have FIN : Hid _ := Q2
    clear Q2 ET EB EP
    go_wp2_with fail
    first
      | (go_end0; exact ⟨rfl, FIN.out⟩)
      | (refine bodyPost_ret (v := .tuple #[]) (by simp [results, Tryd.results52, go_sem]) rfl ?_; exact ⟨rfl, FIN.out⟩)
  | some v =>
    rw [hr] at EB EJ
    have EJ2 : Hid (Vm.jn M op a b = { M with stack := M.stack ++ [v] }) := EJ.out
    rw [EJ2.out]
    unfold Vm.btE at EB
    clear hr EJ EJ2
    go_enter Tryd.func52, Tryd.ntmps52
    go_wp2_with fail
    refine Calls.mono EB.out ?_
    rintro e1 w1 ⟨rfl, rfl⟩
    go_wp2_with fail
    refine Calls.mono (EP.out v) ?_
    rintro e2 w2 ⟨rfl, Q2⟩
    have FIN : Hid _ := Q2
    clear Q2 ET EB EP
    go_wp2_with fail
    first
      | (go_end0; exact ⟨rfl, FIN.out⟩)
      | (refine bodyPost_ret (v := .tuple #[]) (by simp [results, Tryd.results52, go_sem]) rfl ?_; exact ⟨rfl, FIN.out⟩)
end Go.Proofs.YtkjkiknpgggadaaDoor

