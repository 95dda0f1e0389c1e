/- Layer 9: the program's Tick and Frame. -/
import Derived.Test.YtkjkiknpgggadaaDoorSVmRc
import Derived.Deep.CutBlock
import Derived.Deep.DeepCutAuto
import Derived.Deep.RegionHeld3
import Derived.BigQuiet
namespace Go.Proofs.YtkjkiknpgggadaaDoor
open Go.RowKit
set_option linter.unusedVariables false
set_option linter.unusedSimpArgs false

set_option maxRecDepth 100000 in
set_option maxHeartbeats 8000000 in
theorem vmCellsN0 (m : Nat) (w : World) (V : VmV) (M : Vm.Mc) (f : Vm.Fr) (c : Cd.Co)  (h : VmS m w V M) (hc : M.codes[f.proc]? = some c) (hk : c.cells = 0) (hv : V.cv = .slice none 0 0) (hb : f.base ≤ M.cells.length) (hl : M.cells.length ≤ 100000000) :
    Calls Tryd.prog 43 #[.pointer (some ⟨m, 0, none⟩), frV f] w fun e w' => ∃ a c, e = .returned (.slice a 0 c) ∧ Below w.heap.size w w' := by
  obtain ⟨W1, hW1⟩ : ∃ W1, W1 = w.alloc (frB f) := ⟨_, rfl⟩
  obtain ⟨fb, hfb⟩ : ∃ fb, fb = w.heap.size := ⟨_, rfl⟩
  have b1 : Below w.heap.size w W1 := by rw [hW1]; exact (Below.refl _ _).alloc (Nat.le_refl _) _
  have h1 := h.later b1
  have p0 : W1.cell? ⟨fb, 0, none⟩ = some (.int .i64 f.proc) := by rw [hW1, hfb]; simp [go_sem]
  have p3 : W1.cell? ⟨fb, 3, none⟩ = some (.int .i64 f.base) := by rw [hW1, hfb]; simp [go_sem]
  have c0 := h1.cell.1
  have c11 := h1.cell.2.2.2.2.2.2.2.1
  rw [hv] at c11
  obtain ⟨gc, oc, ia, ic, hca, hgc, ca⟩ := h1.co.at hc
  have cc := ca.c1
  rw [hk] at cc
  rw [hca] at c0
  have hpl : f.proc < M.codes.length := (List.getElem?_eq_some_iff.1 hc).1
  have BW : Hid (Below w.heap.size w W1) := b1
  obtain ⟨n, hn⟩ : ∃ n, n = M.cells.length := ⟨_, rfl⟩
  obtain ⟨NC, hNC⟩ : ∃ NC, NC = M.codes.length := ⟨_, rfl⟩
  rw [← hNC] at c0 hpl
  have hpi : (f.proc : Int) < (NC : Int) := by omega
  have hp0 : (0 : Int) ≤ (f.proc : Int) := by omega
  have q0 : f.base = 0 := by
    have ho : w.ownsRow (m + 1) 2 1 V.cv M.cells.length (nC M.cells) := h.rows.od
    rw [hv] at ho
    rcases ho.2 with ⟨e, e0⟩ | ⟨_, _, _, e, _⟩
    · omega
    · cases e
  have q1 : (f.base : Int) = 0 := by omega
  unfold frB at hW1
  rw [q1] at p3 hW1
  show Calls _ _ #[_, .agg #[.int .i64 f.proc, .int .i64 f.place, .int .i64 f.mark, .int .i64 f.base]] _ _
  rw [q1]
  clear h h1 hc hk hv hca ca hn hNC b1 q0 q1 hb
  go_enter Tryd.func43, Tryd.ntmps43
  go_upto_region 1 with fail
  rw [← hW1, ← hfb]
  clear hW1 hfb
  go_wp2_with fail
  go_quiet (fail)
  have BQ := below_drewN BW.out nq
  clear c0 c11 cc p0 p3 BW
  generalize W1.drewN nq = W5 at BQ ⊢
  go_wp2_with fail
  go_ret
  exact ⟨_, _, rfl, BQ⟩
set_option maxRecDepth 100000 in
set_option maxHeartbeats 8000000 in
theorem vmCellsE0 (m : Nat) (w : World) (V : VmV) (M : Vm.Mc) (f : Vm.Fr) (c : Cd.Co) (g : Nat) (h : VmS m w V M) (hc : M.codes[f.proc]? = some c) (hk : c.cells = 0) (hv : V.cv = .slice (some ⟨g, 0, none⟩) M.cells.length f.base) (hb : f.base ≤ M.cells.length) (hl : M.cells.length ≤ 100000000) :
    Calls Tryd.prog 43 #[.pointer (some ⟨m, 0, none⟩), frV f] w fun e w' => ∃ a c, e = .returned (.slice a 0 c) ∧ Below w.heap.size w w' := by
  obtain ⟨W1, hW1⟩ : ∃ W1, W1 = w.alloc (frB f) := ⟨_, rfl⟩
  obtain ⟨fb, hfb⟩ : ∃ fb, fb = w.heap.size := ⟨_, rfl⟩
  have b1 : Below w.heap.size w W1 := by rw [hW1]; exact (Below.refl _ _).alloc (Nat.le_refl _) _
  have h1 := h.later b1
  have p0 : W1.cell? ⟨fb, 0, none⟩ = some (.int .i64 f.proc) := by rw [hW1, hfb]; simp [go_sem]
  have p3 : W1.cell? ⟨fb, 3, none⟩ = some (.int .i64 f.base) := by rw [hW1, hfb]; simp [go_sem]
  have c0 := h1.cell.1
  have c11 := h1.cell.2.2.2.2.2.2.2.1
  rw [hv] at c11
  obtain ⟨gc, oc, ia, ic, hca, hgc, ca⟩ := h1.co.at hc
  have cc := ca.c1
  rw [hk] at cc
  rw [hca] at c0
  have hpl : f.proc < M.codes.length := (List.getElem?_eq_some_iff.1 hc).1
  have BW : Hid (Below w.heap.size w W1) := b1
  obtain ⟨n, hn⟩ : ∃ n, n = M.cells.length := ⟨_, rfl⟩
  obtain ⟨NC, hNC⟩ : ∃ NC, NC = M.codes.length := ⟨_, rfl⟩
  rw [← hNC] at c0 hpl
  have hpi : (f.proc : Int) < (NC : Int) := by omega
  have hp0 : (0 : Int) ≤ (f.proc : Int) := by omega
  rw [← hn] at c11 hb hl
  obtain ⟨q, hq⟩ : ∃ q, q = f.base := ⟨_, rfl⟩
  unfold frB at hW1
  rw [← hq] at p3 hW1 c11 hb
  show Calls _ _ #[_, .agg #[.int .i64 f.proc, .int .i64 f.place, .int .i64 f.mark, .int .i64 f.base]] _ _
  rw [← hq]
  have hq0 : (0 : Int) ≤ (q : Int) := by omega
  have hqb : (q : Int) ≤ 100000000 := by omega
  have hqz : q - q = 0 := by omega
  clear h h1 hc hk hv hca ca hn hNC b1 hq
  go_enter Tryd.func43, Tryd.ntmps43
  go_upto_region 1 with fail
  rw [← hW1, ← hfb]
  clear hW1 hfb
  go_wp2_with fail
  go_quiet (fail)
  have BQ := below_drewN BW.out nq
  clear c0 c11 cc p0 p3 BW
  generalize W1.drewN nq = W5 at BQ ⊢
  go_wp2_with fail
  go_ret
  exact ⟨_, _, rfl, BQ⟩
set_option maxRecDepth 100000 in
set_option maxHeartbeats 8000000 in
theorem vmCellsR0 (m : Nat) (w : World) (V : VmV) (M : Vm.Mc) (f : Vm.Fr) (c : Cd.Co) (g cap : Nat) (h : VmS m w V M) (hc : M.codes[f.proc]? = some c) (hk : c.cells = 0) (hv : V.cv = .slice (some ⟨g, 0, none⟩) M.cells.length cap) (hcap : f.base < cap) (hb : f.base ≤ M.cells.length) (hl : M.cells.length ≤ 100000000) :
    Calls Tryd.prog 43 #[.pointer (some ⟨m, 0, none⟩), frV f] w fun e w' => ∃ a c, e = .returned (.slice a 0 c) ∧ Below w.heap.size w w' := by
  obtain ⟨W1, hW1⟩ : ∃ W1, W1 = w.alloc (frB f) := ⟨_, rfl⟩
  obtain ⟨fb, hfb⟩ : ∃ fb, fb = w.heap.size := ⟨_, rfl⟩
  have b1 : Below w.heap.size w W1 := by rw [hW1]; exact (Below.refl _ _).alloc (Nat.le_refl _) _
  have h1 := h.later b1
  have p0 : W1.cell? ⟨fb, 0, none⟩ = some (.int .i64 f.proc) := by rw [hW1, hfb]; simp [go_sem]
  have p3 : W1.cell? ⟨fb, 3, none⟩ = some (.int .i64 f.base) := by rw [hW1, hfb]; simp [go_sem]
  have c0 := h1.cell.1
  have c11 := h1.cell.2.2.2.2.2.2.2.1
  rw [hv] at c11
  obtain ⟨gc, oc, ia, ic, hca, hgc, ca⟩ := h1.co.at hc
  have cc := ca.c1
  rw [hk] at cc
  rw [hca] at c0
  have hpl : f.proc < M.codes.length := (List.getElem?_eq_some_iff.1 hc).1
  have BW : Hid (Below w.heap.size w W1) := b1
  obtain ⟨n, hn⟩ : ∃ n, n = M.cells.length := ⟨_, rfl⟩
  obtain ⟨NC, hNC⟩ : ∃ NC, NC = M.codes.length := ⟨_, rfl⟩
  rw [← hNC] at c0 hpl
  have hpi : (f.proc : Int) < (NC : Int) := by omega
  have hp0 : (0 : Int) ≤ (f.proc : Int) := by omega
  rw [← hn] at c11 hb hl
  obtain ⟨q, hq⟩ : ∃ q, q = f.base := ⟨_, rfl⟩
  unfold frB at hW1
  rw [← hq] at p3 hW1 hb hcap
  show Calls _ _ #[_, .agg #[.int .i64 f.proc, .int .i64 f.place, .int .i64 f.mark, .int .i64 f.base]] _ _
  rw [← hq]
  have hq0 : (0 : Int) ≤ (q : Int) := by omega
  have hqb : (q : Int) ≤ 100000000 := by omega
  have hqc : (q : Int) ≤ (cap : Int) := by omega
  have hn1 : ¬ cap - q = 0 := by omega
  have hn3 : ¬ (cap : Int) - (q : Int) = 0 := by omega
  have hn4 : ¬ cap = q := by omega
  have hn5 : ¬ cap ≤ q := by omega
  have hn7 : (q : Int) < (cap : Int) := by omega
  clear h h1 hc hk hv hca ca hn hNC b1 hq
  go_enter Tryd.func43, Tryd.ntmps43
  go_upto_region 1 with fail
  rw [← hW1, ← hfb]
  clear hW1 hfb
  go_wp2_with fail
  go_quiet (fail)
  have BQ := below_drewN BW.out nq
  clear c0 c11 cc p0 p3 BW
  generalize W1.drewN nq = W5 at BQ ⊢
  go_wp2_with fail
  go_ret
  exact ⟨_, _, rfl, BQ⟩
theorem vmCellsT (m : Nat) (w : World) (V : VmV) (M : Vm.Mc) (f : Vm.Fr) (c : Cd.Co) (k : Nat) (h : VmS m w V M) (hc : M.codes[f.proc]? = some c) (hk : c.cells = k) (hb : f.base + k ≤ M.cells.length) (hl : M.cells.length ≤ 100000000) :
    Calls Tryd.prog 43 #[.pointer (some ⟨m, 0, none⟩), frV f] w fun e w' => ∃ a cp, e = .returned (.slice a k cp) ∧ Below w.heap.size w w' ∧ (a = none → k = 0) ∧ ∀ ad, a = some ad → ∀ j u, (nC ((M.cells.drop f.base).take k))[j]? = some u → w'.cell? (ad.add j) = some u := by
  rcases Nat.eq_zero_or_pos k with h0 | h0
  · subst h0
    have e0 : nC ((M.cells.drop f.base).take 0) = [] := by simp [nC]
    have fin : ∀ e w', (∃ a c, e = .returned (.slice a 0 c) ∧ Below w.heap.size w w') → ∃ a cp, e = Ending.returned (.slice a 0 cp) ∧ Below w.heap.size w w' ∧ (a = none → (0 : Nat) = 0) ∧ ∀ ad, a = some ad → ∀ j u, (nC ((M.cells.drop f.base).take 0))[j]? = some u → w'.cell? (ad.add j) = some u := fun e w' ⟨a, c, h1, h2⟩ => ⟨a, c, h1, h2, fun _ => rfl, fun ad _ j u hu => by rw [e0] at hu; simp at hu⟩
    rcases h.cv_shp with ⟨hv, _⟩ | ⟨g, cap, hv, hcap⟩
    · exact (vmCellsN0 m w V M f c h hc (by simpa using hk) hv (by omega) hl).mono fun e w' q => fin e w' q
    · by_cases hcq : cap = f.base
      · subst hcq
        exact (vmCellsE0 m w V M f c g h hc (by simpa using hk) hv (by omega) hl).mono fun e w' q => fin e w' q
      · exact (vmCellsR0 m w V M f c g cap h hc (by simpa using hk) hv (by omega) (by omega) hl).mono fun e w' q => fin e w' q
  · rcases h.cv_shp with ⟨_, e⟩ | ⟨g, cap, hv, hcap⟩
    · omega
    · refine (vmCells m w V M f c k g cap h hc hk hv hcap hb hl h0).mono fun e w' ⟨a, d⟩ => ⟨_, _, a, d, fun e => (by cases e), fun ad e j u hu => ?_⟩
      cases e
      have o : w.ownsRow (m + 1) 2 1 V.cv M.cells.length (nC M.cells) := h.rows.od
      rw [hv] at o
      have hg := (World.ownsRow.lt o g rfl).2
      have hj : j < k := by
        have := (List.getElem?_eq_some_iff.1 hu).1
        simp [nC] at this
        omega
      have hu' : (nC M.cells)[f.base + j]? = some u := by
        rw [← hu]
        simp only [nC, List.getElem?_map, List.getElem?_take, List.getElem?_drop]
        rw [if_pos hj]
      have := o.cells (g := g) rfl (f.base + j) u hu'
      rw [adM, Nat.zero_add] at this
      rw [adM]
      exact (d.cell (p := ⟨g, f.base + j, none⟩) hg).trans this
theorem VmS.tick {m : Nat} {w : World} {V : VmV} {M : Vm.Mc} (h : VmS m w V M) : w.cell? ⟨m, 5, none⟩ = some (.int .i64 M.t0) ∧ w.cell? ⟨m, 6, none⟩ = some (.int .i64 M.t1) ∧ w.cell? ⟨m, 7, none⟩ = some (.int .i64 M.t2) ∧ w.cell? ⟨m, 8, none⟩ = some (.int .i64 M.t3) := by
  have := h.box
  refine ⟨?_, ?_, ?_, ?_⟩ <;> simp [World.cell?, this]
set_option maxRecDepth 100000 in
set_option maxHeartbeats 4000000 in
theorem vmTick (m : Nat) (w : World) (V : VmV) (M : Vm.Mc) (h : VmS m w V M) : Calls Tryd.prog 20 #[.pointer (some ⟨m, 0, none⟩)] w fun e w' => e = .returned (.tuple #[.agg #[.int .i64 M.t0, .int .i64 M.t1, .int .i64 M.t2, .int .i64 M.t3], .bool (decide (0 < M.ticks))]) ∧ Below w.heap.size w w' := by
  have c4 := h.cell.2.2.2.2.1
  obtain ⟨t0, t1, t2, t3⟩ := h.tick
  have hml := h.lt
  have nml : ¬ m = w.heap.size := Nat.ne_of_lt hml
  by_cases hp : 0 < M.ticks
  · have d1 : decide (0 < M.ticks) = true := decide_eq_true hp
    rw [d1]
    clear h
    go_enter Tryd.func20, Tryd.ntmps20
    go_wp2_with fail
    go_region
    all_goals
      go_wp2_with fail
      refine bodyPost_ret (v := .tuple #[.agg #[.int .i64 M.t0, .int .i64 M.t1, .int .i64 M.t2, .int .i64 M.t3], .bool true]) (by simp [results, Tryd.results20, go_sem]) rfl ?_
      exact ⟨rfl, by go_grown⟩
  · have d1 : decide (0 < M.ticks) = false := decide_eq_false hp
    rw [d1]
    clear h
    go_enter Tryd.func20, Tryd.ntmps20
    go_wp2_with fail
    go_region
    all_goals
      go_wp2_with fail
      refine bodyPost_ret (v := .tuple #[.agg #[.int .i64 M.t0, .int .i64 M.t1, .int .i64 M.t2, .int .i64 M.t3], .bool false]) (by simp [results, Tryd.results20, go_sem]) rfl ?_
      exact ⟨rfl, by go_grown⟩
def FrQ (w : World) (p mk : Int) (l : List Int) (e : Ending) (w' : World) : Prop := ∃ a c, e = .returned (.tuple #[.int .i64 p, .int .i64 mk, .slice a l.length c, .bool true]) ∧ NuW w.heap.size w'.heap.size w' a l ∧ Below w.heap.size w w'
set_option maxRecDepth 100000 in
set_option maxHeartbeats 8000000 in
theorem vmFrame (m : Nat) (w : World) (V : VmV) (M : Vm.Mc) (j : Nat) (f : Vm.Fr) (c : Cd.Co) (k : Nat) (h : VmS m w V M) (hj : M.frames[j]? = some f) (hc : M.codes[f.proc]? = some c) (hk : c.cells = k) (hb : f.base + k ≤ M.cells.length) (hl : M.cells.length ≤ 100000000) (hfl : M.frames.length ≤ 1000) :
    Calls Tryd.prog 14 #[.pointer (some ⟨m, 0, none⟩), .int .i64 j] w (FrQ w f.proc f.mark ((M.cells.drop f.base).take k)) := by
  have hlen : ((M.cells.drop f.base).take k).length = k := by rw [List.length_take, List.length_drop]; omega
  have hjl := (List.getElem?_eq_some_iff.1 hj).1
  have EF : Hid (Calls Tryd.prog 19 #[.pointer (some ⟨m, 0, none⟩)] w fun e w' => e = .returned (.int .i64 M.frames.length) ∧ Below w.heap.size w w') := vmFrames m w V M h
  have HCT : Hid (∀ X, Below w.heap.size w X → Calls Tryd.prog 43 #[.pointer (some ⟨m, 0, none⟩), .agg #[.int .i64 f.proc, .int .i64 f.place, .int .i64 f.mark, .int .i64 f.base]] X fun e w' => ∃ a cp, e = .returned (.slice a k cp) ∧ Below X.heap.size X w' ∧ (a = none → k = 0) ∧ ∀ ad, a = some ad → ∀ j u, (nC ((M.cells.drop f.base).take k))[j]? = some u → w'.cell? (ad.add j) = some u) := fun X hX => vmCellsT m X V M f c k (h.later hX) hc hk hb hl
  have hkb : k ≤ 100000000 := by omega
  have c10 := h.cell.2.2.2.2.2.2.1
  have ho : w.ownsRow (m + 1) 70 4 V.fv M.frames.length (Vm.frC M.frames) := h.rows.oc
  obtain ⟨g, cap, hv, hcap⟩ : ∃ g cap, V.fv = .slice (some ⟨g, 0, none⟩) M.frames.length cap ∧ M.frames.length ≤ cap := by
    rcases ho.2 with ⟨_, e0⟩ | ⟨g, cap, cur, e, hb2, hh, h1, _⟩
    · omega
    · exact ⟨g, cap, e, h1⟩
  rw [hv] at c10 ho
  have hg := (World.ownsRow.lt ho g rfl).2
  have cel : ∀ i u, ([Value.int .i64 f.proc, .int .i64 f.place, .int .i64 f.mark, .int .i64 f.base] : List Value)[i]? = some u → w.cell? ⟨g, j * 4 + i, none⟩ = some u := fun i u hu => by
    have hi : i < 4 := by have := (List.getElem?_eq_some_iff.1 hu).1; simpa using this
    have e1 : (Vm.frC M.frames)[j * 4 + i]? = some u := by
      have es : M.frames = M.frames.take j ++ f :: M.frames.drop (j + 1) := by
        have := List.getElem_cons_drop hjl
        rw [show M.frames[j] = f from (List.getElem?_eq_some_iff.1 hj).2] at this
        rw [this, List.take_append_drop]
      have el : (M.frames.take j).length = j := by rw [List.length_take]; omega
      rw [es, Vm.frC_app, List.getElem?_append_right (by rw [Vm.frC_len, el]; omega), Vm.frC_len, el, Nat.add_sub_cancel_left]
      show ([Value.int .i64 f.proc, .int .i64 f.place, .int .i64 f.mark, .int .i64 f.base] ++ Vm.frC (M.frames.drop (j + 1)))[i]? = _
      rw [List.getElem?_append_left (by simpa using hi)]
      exact hu
    have := ho.cells (g := g) rfl (j * 4 + i) u e1
    rw [adM, Nat.zero_add] at this
    exact this
  have f0 := cel 0 _ rfl
  have f1 := cel 1 _ rfl
  have f2 := cel 2 _ rfl
  have f3 := cel 3 _ rfl
  rw [Nat.add_zero] at f0
  have hml := h.lt
  obtain ⟨nf, hnf⟩ : ∃ nf, nf = M.frames.length := ⟨_, rfl⟩
  rw [← hnf] at EF c10 hjl
  have hji : (j : Int) < (nf : Int) := by omega
  have hj0 : ¬ (j : Int) < 0 := by omega
  have hj1 : (0 : Int) ≤ (j : Int) := by omega
  have hj2 : ¬ (j : Int) ≥ (nf : Int) := by omega
  have dj : decide ((nf : Int) ≤ (j : Int)) = false := decide_eq_false (by omega)
  have dj2 : decide (nf ≤ j) = false := decide_eq_false (by omega)
  unfold FrQ
  rw [hlen]
  have HLN := (show Hid (((M.cells.drop f.base).take k).length = k) from hlen)
  clear h hj hc hk hb hl ho hv cel hnf hlen
  go_enter Tryd.func14, Tryd.ntmps14
  go_wp2_with fail
  refine Calls.mono EF.out ?_
  rintro e1 w1 ⟨rfl, b1⟩
  have d10 := (b1.cell (p := ⟨m, 10, none⟩) hml).trans c10
  have g0 := (b1.cell (p := ⟨g, j * 4, none⟩) hg).trans f0
  have g1 := (b1.cell (p := ⟨g, j * 4 + 1, none⟩) hg).trans f1
  have g2 := (b1.cell (p := ⟨g, j * 4 + 2, none⟩) hg).trans f2
  have g3 := (b1.cell (p := ⟨g, j * 4 + 3, none⟩) hg).trans f3
  obtain ⟨W2, hW2⟩ : ∃ W2, W2 = w1.alloc (frB f) := ⟨_, rfl⟩
  obtain ⟨fb, hfb⟩ : ∃ fb, fb = w1.heap.size := ⟨_, rfl⟩
  have x2 : W2.heap[fb]? = some (.cells #[.int .i64 f.proc, .int .i64 f.place, .int .i64 f.mark, .int .i64 f.base] 70 (0, 0)) := by rw [hW2, hfb]; exact alloc_at w1 _
  have hfl2 : fb < W2.heap.size := (Array.getElem?_eq_some_iff.1 x2).1
  have t0 : W2.cell? ⟨fb, 0, none⟩ = some (.int .i64 f.proc) := by simp [World.cell?, x2]
  have t1 : W2.cell? ⟨fb, 1, none⟩ = some (.int .i64 f.place) := by simp [World.cell?, x2]
  have t2 : W2.cell? ⟨fb, 2, none⟩ = some (.int .i64 f.mark) := by simp [World.cell?, x2]
  have t3 : W2.cell? ⟨fb, 3, none⟩ = some (.int .i64 f.base) := by simp [World.cell?, x2]
  have BW : Hid (Below w.heap.size w W2) := b1.trans (by rw [hW2]; exact ((Below.refl w1.heap.size w1).alloc (Nat.le_refl _) _).mono b1.size)
  clear x2 b1 EF c10 f0 f1 f2 f3
  go_upto_region 4 with fail
  rw [← hW2, ← hfb]
  clear hW2 hfb d10 g0 g1 g2 g3
  have EC2 : Hid (∀ X, Below W2.heap.size W2 X → Calls Tryd.prog 43 #[.pointer (some ⟨m, 0, none⟩), .agg #[.int .i64 f.proc, .int .i64 f.place, .int .i64 f.mark, .int .i64 f.base]] X fun e w' => ∃ a cp, e = .returned (.slice a k cp) ∧ w'.cell? ⟨fb, 0, none⟩ = some (.int .i64 f.proc) ∧ w'.cell? ⟨fb, 2, none⟩ = some (.int .i64 f.mark) ∧ Hid (Below W2.heap.size W2 w' ∧ (a = none → k = 0) ∧ ∀ ad, a = some ad → ∀ j u, (nC ((M.cells.drop f.base).take k))[j]? = some u → w'.cell? (ad.add j) = some u)) := fun X hX => (HCT.out X (BW.out.trans (hX.mono BW.out.size))).mono fun e w' ⟨a, cp, h1, h2, h3, h4⟩ => by
    have hb2 : Below W2.heap.size W2 w' := hX.trans (h2.mono hX.size)
    exact ⟨a, cp, h1, (hb2.cell hfl2).trans t0, (hb2.cell hfl2).trans t2, hb2, h3, h4⟩
  have EL2 : Hid (∀ X a cp, Below W2.heap.size W2 X → (a = none → k = 0) → (∀ ad, a = some ad → ∀ j u, (nC ((M.cells.drop f.base).take k))[j]? = some u → X.cell? (ad.add j) = some u) → Calls Tryd.prog 42 #[.slice a k cp] X fun e w' => ∃ a' c', e = .returned (.slice a' k c') ∧ w'.cell? ⟨fb, 0, none⟩ = some (.int .i64 f.proc) ∧ w'.cell? ⟨fb, 2, none⟩ = some (.int .i64 f.mark) ∧ Hid (NuW w.heap.size w'.heap.size w' a' ((M.cells.drop f.base).take k) ∧ Below w.heap.size w w')) := fun X a cp hX ha hx => by
    have hXw := BW.out.trans (hX.mono BW.out.size)
    refine (cloneNu X a k cp (nC ((M.cells.drop f.base).take k)) ha (by have := HLN.out; simp only [nC, List.length_map]; omega) hx (nC_one _) (by omega)).mono fun e w' ⟨v', h1, h2, h3⟩ => ?_
    obtain ⟨a', c', e', _, nu⟩ := own_nuW h2 HLN.out.symm
    have hb2 : Below W2.heap.size W2 w' := hX.trans (h3.mono hX.size)
    exact ⟨a', c', by rw [h1, e'], (hb2.cell hfl2).trans t0, (hb2.cell hfl2).trans t2, nu.mono hXw.size (Nat.le_refl _), hXw.trans (h3.mono hXw.size)⟩
  clear HCT
  go_region_with (first
    | (go_at_call 43; refine Calls.mono (EC2.out _ (by go_grown)) ?_; rintro e5 w5 ⟨a5, c5, rfl, s0, s2, A5⟩)
    | (go_at_call 42; refine Calls.mono (EL2.out _ _ _ A5.out.1 A5.out.2.1 A5.out.2.2) ?_; rintro e6 w6 ⟨a6, c6, rfl, r0, r2, A6⟩))
  all_goals
    go_wp2_with fail
    refine bodyPost_ret (v := .tuple #[.int .i64 f.proc, .int .i64 f.mark, .slice a6 k c6, .bool true]) (by simp [results, Tryd.results14, go_sem]) rfl ?_
    exact ⟨a6, c6, rfl, A6.out.1, A6.out.2⟩
set_option maxRecDepth 100000 in
set_option maxHeartbeats 4000000 in
theorem vmFrameB (m : Nat) (w : World) (V : VmV) (M : Vm.Mc) (h : VmS m w V M) (hfl : M.frames.length ≤ 1000) : Calls Tryd.prog 14 #[.pointer (some ⟨m, 0, none⟩), .int .i64 M.frames.length] w fun e w' => e = .returned (.tuple #[.int .i64 0, .int .i64 0, .slice none 0 0, .bool false]) ∧ Below w.heap.size w w' := by
  have EF : Hid (Calls Tryd.prog 19 #[.pointer (some ⟨m, 0, none⟩)] w fun e w' => e = .returned (.int .i64 M.frames.length) ∧ Below w.heap.size w w') := vmFrames m w V M h
  generalize M.frames.length = nf at EF hfl ⊢
  have hj0 : ¬ (nf : Int) < 0 := by omega
  have dk : decide ((nf : Int) < 0) = false := decide_eq_false hj0
  clear h
  go_enter Tryd.func14, Tryd.ntmps14
  go_wp2_with fail
  refine Calls.mono EF.out ?_
  rintro e1 w1 ⟨rfl, b1⟩
  have FIN : Hid (Below w.heap.size w w1) := b1
  clear b1 EF
  go_wp2_with fail
  refine bodyPost_ret (v := .tuple #[.int .i64 0, .int .i64 0, .slice none 0 0, .bool false]) (by simp [results, Tryd.results14, go_sem]) rfl ?_
  exact ⟨rfl, FIN.out⟩
theorem oTick (lo m : Nat) (w : World) (V : VmV) (M : Vm.Mc) (h : VmO lo m w V M) : Calls Tryd.prog 20 #[.pointer (some ⟨m, 0, none⟩)] w fun e w' => e = .returned (.tuple #[.agg #[.int .i64 M.t0, .int .i64 M.t1, .int .i64 M.t2, .int .i64 M.t3], .bool (decide (0 < M.ticks))]) ∧ Below w.heap.size w w' := vmTick m w V (M.gh ⟨w, VOwn V, lo⟩) h.re
theorem oFrame (lo m : Nat) (w : World) (V : VmV) (M : Vm.Mc) (j : Nat) (f : Vm.Fr) (c : Cd.Co) (k : Nat) (h : VmO lo m w V M) (hj : M.frames[j]? = some f) (hc : M.codes[f.proc]? = some c) (hk : c.cells = k) (hb : f.base + k ≤ M.cells.length) (hl : M.cells.length ≤ 100000000) (hfl : M.frames.length ≤ 1000) : Calls Tryd.prog 14 #[.pointer (some ⟨m, 0, none⟩), .int .i64 j] w (FrQ w f.proc f.mark ((M.cells.drop f.base).take k)) := vmFrame m w V (M.gh ⟨w, VOwn V, lo⟩) j f c k h.re hj hc hk hb hl hfl
theorem oFrameB (lo m : Nat) (w : World) (V : VmV) (M : Vm.Mc) (h : VmO lo m w V M) (hfl : M.frames.length ≤ 1000) : Calls Tryd.prog 14 #[.pointer (some ⟨m, 0, none⟩), .int .i64 M.frames.length] w fun e w' => e = .returned (.tuple #[.int .i64 0, .int .i64 0, .slice none 0 0, .bool false]) ∧ Below w.heap.size w w' := vmFrameB m w V (M.gh ⟨w, VOwn V, lo⟩) h.re hfl
end Go.Proofs.YtkjkiknpgggadaaDoor

