/- Layer 9: where the last frame's cells are; index, put. -/
import Derived.Test.YtodpdnidinnjjaaDoorTVmJ
namespace Go.Proofs.YtodpdnidinnjjaaDoor
open Go.RowKit
set_option linter.unusedVariables false
set_option linter.unusedSimpArgs false

/-- The value of a frame. -/
abbrev frV (f : Vm.Fr) : Value := .agg #[.int .i64 f.proc, .int .i64 f.place, .int .i64 f.mark, .int .i64 f.base]
abbrev frB (f : Vm.Fr) : Obj := .cells #[.int .i64 f.proc, .int .i64 f.place, .int .i64 f.mark, .int .i64 f.base] 74
theorem VmS.cells {m : Nat} {w : World} {V : VmV} {M : Vm.Mc} (h : VmS m w V M) (h0 : 0 < M.cells.length) : ∃ g cap, V.cv = .slice (some ⟨g, 0, none⟩) M.cells.length cap ∧ M.cells.length ≤ cap ∧ m < g ∧ g < w.heap.size ∧ (∀ j x, M.cells[j]? = some x → w.cell? ⟨g, j, none⟩ = some (.int .i64 x)) ∧ ∀ k, w.frozen? ⟨g, k, none⟩ = false := by
  have ho : w.ownsRow (m + 1) 2 1 V.cv M.cells.length (nC M.cells) := h.rows.od
  have hl := World.ownsRow.lt ho
  have hc := @World.ownsRow.cells _ _ _ _ _ _ _ ho
  rcases ho.2 with ⟨_, e⟩ | ⟨g, cap, cur, e, hb, hh, hcap, _⟩
  · omega
  · have eo : V.cv.ownBlock = some g := by rw [e]; rfl
    refine ⟨g, cap, e, hcap, by omega, (hl g eo).2, fun j x hx => ?_, fun k => by simp [World.frozen?, hh]⟩
    have := @hc g eo j (.int .i64 x) (by simp [nC, hx])
    have add : (⟨g, 0, none⟩ : Addr).add j = ⟨g, j, none⟩ := by unfold Addr.add; split <;> simp_all
    rwa [add] at this
set_option maxRecDepth 100000 in
set_option maxHeartbeats 8000000 in
/-- Where there are cells. -/
theorem vmCells (m : Nat) (w : World) (V : VmV) (M : Vm.Mc) (f : Vm.Fr) (c : Cd.Co) (k g cap : Nat) (h : VmS m w V M) (hc : M.codes[f.proc]? = some c) (hk : c.cells = k) (hv : V.cv = .slice (some ⟨g, 0, none⟩) M.cells.length cap) (hcap : M.cells.length ≤ cap) (hb : f.base + k ≤ M.cells.length) (hl : M.cells.length ≤ 100000000) (hk1 : 0 < k) :
    Calls Tryd.prog 54 #[.pointer (some ⟨m, 0, none⟩), frV f] w fun e w' => e = .returned (.slice (some ⟨g, f.base, none⟩) k (cap - f.base)) ∧ Below w.heap.size w w' := by
  obtain ⟨W1, hW1⟩ : ∃ W1, W1 = w.alloc (frB f) := ⟨_, rfl⟩
  obtain ⟨fb, hfb⟩ : ∃ fb, fb = w.heap.size := ⟨_, rfl⟩
  have b1 : Below w.heap.size w W1 := by rw [hW1]; exact (Below.refl _ _).alloc (Nat.le_refl _) _
  have h1 := h.later b1
  have p0 : W1.cell? ⟨fb, 0, none⟩ = some (.int .i64 f.proc) := by rw [hW1, hfb]; simp [go_sem]
  have p3 : W1.cell? ⟨fb, 3, none⟩ = some (.int .i64 f.base) := by rw [hW1, hfb]; simp [go_sem]
  have c0 := h1.cell.1
  have c11 := h1.cell.2.2.2.2.2.2.2.1
  rw [hv] at c11
  obtain ⟨gc, oc, ia, ic, hca, hgc, ca⟩ := h1.co.at hc
  have cc := ca.c1
  rw [hk] at cc
  rw [hca] at c0
  have hpl : f.proc < M.codes.length := (List.getElem?_eq_some_iff.1 hc).1
  have BW : Hid (Below w.heap.size w W1) := b1
  obtain ⟨n, hn⟩ : ∃ n, n = M.cells.length := ⟨_, rfl⟩
  rw [← hn] at c11 hcap hb hl
  obtain ⟨q, hq⟩ : ∃ q, q = f.base := ⟨_, rfl⟩
  rw [← hq] at p3 hb ⊢
  obtain ⟨NC, hNC⟩ : ∃ NC, NC = M.codes.length := ⟨_, rfl⟩
  rw [← hNC] at c0 hpl
  have hpi : (f.proc : Int) < (NC : Int) := by omega
  have hp0 : (0 : Int) ≤ (f.proc : Int) := by omega
  have hq0 : (0 : Int) ≤ (q : Int) := by omega
  have hqk : (q : Int) ≤ (q : Int) + (k : Int) := by omega
  have hqc : (q : Int) + (k : Int) ≤ (cap : Int) := by omega
  have hqb : (q : Int) + (k : Int) ≤ 100000000 := by omega
  have hn1 : ¬ cap - q = 0 := by omega
  have hn2 : (cap - q == 0) = false := beq_eq_false_iff_ne.2 hn1
  have hn3 : ¬ (cap : Int) - (q : Int) = 0 := by omega
  have hn4 : ¬ cap = q := by omega
  have hn5 : ¬ cap ≤ q := by omega
  have hn6 : q < cap := by omega
  have hn7 : (q : Int) < (cap : Int) := by omega
  clear h h1 hc hk hv hca ca hn hNC b1
  show Calls _ _ #[_, .agg #[.int .i64 f.proc, .int .i64 f.place, .int .i64 f.mark, .int .i64 f.base]] _ _
  rw [← hq]
  unfold frB at hW1
  rw [← hq] at hW1
  clear hq
  go_enter Tryd.func54, Tryd.ntmps54
  go_upto_region 1 with fail
  rw [← hW1, ← hfb]
  clear hW1 hfb
  go_wp2_with fail
  go_quiet (fail)
  have BQ := below_drewN BW.out nq
  clear c0 c11 cc p0 p3 BW
  generalize W1.drewN nq = W5 at BQ ⊢
  go_wp2_with fail
  go_ret
  refine ⟨?_, BQ⟩
  first
    | rfl
    | (simp; done)
    | (congr 2 <;> omega)
end Go.Proofs.YtodpdnidinnjjaaDoor
