/- Layer 9: the elder world plays no part in what a machine does; a machine with all that belongs to it. -/
import Derived.Test.YtodpdnidinnjjaaDoorTVmSt
import Derived.Test.YtodpdnidinnjjaaDoorTVmCw
namespace Go.Proofs.YtodpdnidinnjjaaDoor
open Go.RowKit
set_option linter.unusedVariables false
set_option linter.unusedSimpArgs false

namespace Vm
def Mc.gh (M : Mc) (G : Gh) : Mc := { M with g := G }
theorem gh_ite {c : Prop} [Decidable c] (A B : Mc) (G : Gh) : (if c then A else B).gh G = if c then A.gh G else B.gh G := by split <;> rfl
theorem jn_gh (M : Mc) (G : Gh) (op a b : Int) : jn (M.gh G) op a b = (jn M op a b).gh G := by
  unfold jn
  cases bt op a b <;> rfl
theorem rk_gh (M : Mc) (G : Gh) (f : Fr) (i : Cd.In) : rk (M.gh G) f i = (rk M f i).gh G := by
  unfold rk
  simp only [gh_ite]
  by_cases h1 : i.op = 1
  · simp only [if_pos h1]; rfl
  simp only [if_neg h1]
  by_cases h2 : i.op = 2
  · simp only [if_pos h2]; rfl
  simp only [if_neg h2]
  by_cases h3 : i.op = 3
  · simp only [if_pos h3]; rfl
  simp only [if_neg h3]
  by_cases h4 : i.op = 4
  · simp only [if_pos h4]
    unfold ix
    rw [gh_ite]
    rfl
  simp only [if_neg h4]
  by_cases h5 : i.op = 5
  · simp only [if_pos h5]
    unfold pt
    rw [gh_ite]
    rfl
  simp only [if_neg h5]
  by_cases h6 : i.op = 6
  · simp only [if_pos h6]; rfl
  simp only [if_neg h6]
  by_cases h15 : i.op = 15
  · simp only [if_pos h15]; rfl
  simp only [if_neg h15]
  by_cases h16 : i.op = 16
  · simp only [if_pos h16]; rfl
  simp only [if_neg h16]
  by_cases h25 : i.op = 25
  · simp only [if_pos h25]; rfl
  simp only [if_neg h25]
  exact jn_gh { M with stack := M.stack.dropLast.dropLast } G _ _ _
theorem ex_gh (M : Mc) (G : Gh) (fs : List Fr) (f : Fr) (i : Cd.In) : ex (M.gh G) fs f i = (ex M fs f i).gh G := by
  unfold ex
  simp only [gh_ite]
  by_cases h1 : i.op = 17
  · simp only [if_pos h1]; rfl
  simp only [if_neg h1]
  by_cases h2 : i.op = 18
  · simp only [if_pos h2]; rfl
  simp only [if_neg h2]
  by_cases h3 : i.op = 19
  · simp only [if_pos h3]
    show (if M.frames.length = 50 then trp (M.gh G) 4 else match M.codes[i.n.toNat]? with | some d => en (M.gh G) i.n.toNat d.cells.toNat i.m.toNat | none => M.gh G) = _
    cases M.codes[i.n.toNat]? <;> rfl
  simp only [if_neg h3]
  by_cases h4 : i.op = 20
  · simp only [if_pos h4]
    unfold lv
    rw [gh_ite]
    rfl
  simp only [if_neg h4]
  by_cases h5 : i.op = 21
  · simp only [if_pos h5]; rfl
  simp only [if_neg h5]
  by_cases h6 : i.op = 22
  · simp only [if_pos h6]
    unfold rd
    show (match M.input[M.read]? with | none => { M.gh G with events := M.events ++ [(4, 5)], run := false } | some n => { M.gh G with read := M.read + 1, events := M.events ++ [(2, n)], stack := M.stack ++ [n] }) = _
    cases M.input[M.read]? <;> rfl
  simp only [if_neg h6]
  by_cases h7 : i.op = 23
  · simp only [if_pos h7]; rfl
  simp only [if_neg h7]
  exact rk_gh M G f i
theorem go_gh : ∀ (n : Nat) (M : Mc) (G : Gh), go n (M.gh G) = (go n M).gh G
  | 0, M, G => rfl
  | n + 1, M, G => by
    rw [go, go]
    show (match it M with | none => M.gh G | some (fs, f, _, i) => _) = _
    cases hi : it M with
    | none => rfl
    | some x =>
      obtain ⟨fs, f, c, i⟩ := x
      dsimp only
      simp only [gh_ite]
      by_cases h24 : i.op = 24
      · simp only [if_pos h24]; rfl
      simp only [if_neg h24]
      have e : ex { M.gh G with frames := fs ++ [{ f with place := f.place + 1 }] } fs { f with place := f.place + 1 } i = (ex { M with frames := fs ++ [{ f with place := f.place + 1 }] } fs { f with place := f.place + 1 } i).gh G := ex_gh { M with frames := fs ++ [{ f with place := f.place + 1 }] } G fs { f with place := f.place + 1 } i
      rw [e, go_gh n _ G]
      rfl
theorem fin_gh (t : Int) (M : Mc) (G : Gh) : fin t (M.gh G) = (fin t M).gh G := by
  unfold fin
  rw [gh_ite]
  rfl
theorem step_gh (M : Mc) (G : Gh) : step (M.gh G) = (step M).gh G := by
  unfold step
  rw [gh_ite, go_gh]
  show (if M.run = true then fin M.ticks ((go 1048576 M).gh G) else M.gh G) = _
  rw [fin_gh]
theorem ticked_gh (M : Mc) (G : Gh) : ticked (M.gh G) = ticked M := by
  unfold ticked
  rw [go_gh]
  rfl
theorem WF.gh {B : Int} {M : Mc} (w : WF B M) (G : Gh) : WF B (M.gh G) := ⟨w.len, w.fit, w.fs, w.f1, w.f50, w.rd, w.inp, w.fu, w.ti, w.su⟩
theorem WF.ungh {B : Int} {M : Mc} {G : Gh} (w : WF B (M.gh G)) : WF B M := ⟨w.len, w.fit, w.fs, w.f1, w.f50, w.rd, w.inp, w.fu, w.ti, w.su⟩
end Vm
/-- The blocks of a machine's rows. -/
def VOwn (V : VmV) (k : Nat) : Prop := V.sv.ownBlock = some k ∨ V.ev.ownBlock = some k ∨ V.fv.ownBlock = some k ∨ V.cv.ownBlock = some k
theorem VmS.regh {m : Nat} {w : World} {V : VmV} {M : Vm.Mc} (h : VmS m w V M) : VmS m w V (M.gh ⟨w, VOwn V, M.g.lo⟩) :=
  ⟨h.box, ⟨h.rows.oa, h.rows.ob, h.rows.oc, h.rows.od, h.rows.ab, h.rows.ac, h.rows.ad, h.rows.bc, h.rows.bd, h.rows.cd, ⟨Nat.le_refl _, fun _ _ _ _ => rfl⟩, fun k e => .inl (.inl e), fun k e => .inl (.inr (.inl e)), fun k e => .inl (.inr (.inr (.inl e))), fun k e => .inl (.inr (.inr (.inr e)))⟩, h.co, h.inp⟩
/-- What a call leaves of all that is not the machine's. -/
structure Frm (m : Nat) (w w' : World) (V V' : VmV) : Prop where
  b : Below m w w'
  eq : ∀ k, k < w.heap.size → k ≠ m → ¬ VOwn V k → w'.heap[k]? = w.heap[k]?
  ow : ∀ k, VOwn V' k → VOwn V k ∨ w.heap.size ≤ k
theorem VmS.frm {m lo : Nat} {w w' : World} {V V' : VmV} {N : Vm.Mc} (h : VmS m w' V' (N.gh ⟨w, VOwn V, lo⟩)) (b : Below m w w') : Frm m w w' V V' :=
  ⟨b, fun k hk n o => h.rows.gk.eq k hk (by omega) o, fun k o => by
    rcases o with o | o | o | o
    · exact h.rows.ga k o
    · exact h.rows.gb k o
    · exact h.rows.gc k o
    · exact h.rows.gd k o⟩
/-- A machine: all that belongs to it lies from lo on. -/
structure VmO (lo m : Nat) (w : World) (V : VmV) (M : Vm.Mc) : Prop where
  s : ∃ G, VmS m w V (M.gh G) ∧ G.lo = lo
  lm : lo ≤ m
theorem VmO.re {lo m : Nat} {w : World} {V : VmV} {M : Vm.Mc} (h : VmO lo m w V M) : VmS m w V (M.gh ⟨w, VOwn V, lo⟩) := by
  obtain ⟨G, h1, h2⟩ := h.s
  have := h1.regh
  rw [show (M.gh G).g.lo = lo from h2] at this
  exact this
theorem VmO.own_lt {lo m : Nat} {w : World} {V : VmV} {M : Vm.Mc} (h : VmO lo m w V M) {k : Nat} (o : VOwn V k) : m < k ∧ k < w.heap.size := by
  have r := h.re.rows
  rcases o with o | o | o | o
  · have := World.ownsRow.lt r.oa k o; omega
  · have := World.ownsRow.lt r.ob k o; omega
  · have := World.ownsRow.lt r.oc k o; omega
  · have := World.ownsRow.lt r.od k o; omega
theorem VmO.lt {lo m : Nat} {w : World} {V : VmV} {M : Vm.Mc} (h : VmO lo m w V M) : m < w.heap.size := h.re.lt
theorem VmO.later {lo m : Nat} {w w' : World} {V : VmV} {M : Vm.Mc} (h : VmO lo m w V M) (b : Below w.heap.size w w') : VmO lo m w' V M := by
  obtain ⟨G, h1, h2⟩ := h.s
  exact ⟨⟨G, h1.later b, h2⟩, h.lm⟩
/-- The blocks that are a machine's. -/
def Sup (lo m : Nat) (V : VmV) (k : Nat) : Prop := (lo ≤ k ∧ k ≤ m) ∨ VOwn V k
theorem own_of {w w' : World} {base n sz : Nat} {e : TypeId} {v : Value} {xs : List Value} (h : w.ownsRow base e sz v n xs) (k : ∀ g, v.ownBlock = some g → w'.heap[g]? = w.heap[g]?) : w'.ownsRow base e sz v n xs := by
  refine ⟨h.1, ?_⟩
  rcases h.2 with h0 | ⟨g, cap, cur, e, hb, hh, h1⟩
  · exact .inl h0
  · exact .inr ⟨g, cap, cur, e, hb, (k g (by rw [e]; rfl)).trans hh, h1⟩
theorem VmO.keep {lo m : Nat} {w w' : World} {V : VmV} {M : Vm.Mc} (h : VmO lo m w V M) (k : ∀ b, Sup lo m V b → w'.heap[b]? = w.heap[b]?) : VmO lo m w' V M := by
  have s := h.re
  have r := s.rows
  have kp : Kpt lo m w w' := fun b h1 h2 => k b (.inl ⟨h1, by omega⟩)
  refine ⟨⟨⟨w', VOwn V, lo⟩, ⟨(k m (.inl ⟨h.lm, Nat.le_refl _⟩)).trans s.box, ⟨own_of r.oa fun g e => k g (.inr (.inl e)), own_of r.ob fun g e => k g (.inr (.inr (.inl e))), own_of r.oc fun g e => k g (.inr (.inr (.inr (.inl e)))), own_of r.od fun g e => k g (.inr (.inr (.inr (.inr e)))), r.ab, r.ac, r.ad, r.bc, r.bd, r.cd, ⟨Nat.le_refl _, fun _ _ _ _ => rfl⟩, fun k e => .inl (.inl e), fun k e => .inl (.inr (.inl e)), fun k e => .inl (.inr (.inr (.inl e))), fun k e => .inl (.inr (.inr (.inr e)))⟩, s.co.keep kp, s.inp.keep kp⟩, rfl⟩, h.lm⟩
/-- A call that is contracted for the machine alone. -/
theorem VmO.next {lo m : Nat} {w w' : World} {V : VmV} {M N : Vm.Mc} (h : VmO lo m w V M) (q : VmQ m w w' (N.gh ⟨w, VOwn V, lo⟩)) : ∃ V', VmO lo m w' V' N ∧ Frm m w w' V V' := by
  obtain ⟨b, V', s⟩ := q
  exact ⟨V', ⟨⟨_, s, rfl⟩, h.lm⟩, s.frm b⟩
theorem oStep (lo m : Nat) (w : World) (V : VmV) (M : Vm.Mc) (B : Int) (h : VmO lo m w V M) (wf : Vm.WF B M) (hrun : M.run = true) (he : M.events.length + 1048577 ≤ 1000000000) :
    Calls Tryd.prog 12 #[.pointer (some ⟨m, 0, none⟩)] w fun e w' => e = .returned (.bool (Vm.ticked M)) ∧ ∃ V', VmO lo m w' V' (Vm.step M) ∧ Frm m w w' V V' := by
  refine (vmStep m w V (M.gh ⟨w, VOwn V, lo⟩) B h.re (wf.gh _) hrun he).mono fun e w' ⟨h1, h2⟩ => ⟨?_, ?_⟩
  · rw [h1, Vm.ticked_gh]
  · rw [Vm.step_gh] at h2
    exact h.next h2
set_option maxRecDepth 100000 in
set_option maxHeartbeats 4000000 in
/-- One that has ended. -/
theorem vmStepE (m : Nat) (w : World) (c13 : w.cell? ⟨m, 13, none⟩ = some (.bool false)) : Calls Tryd.prog 12 #[.pointer (some ⟨m, 0, none⟩)] w fun e w' => e = .returned (.bool false) ∧ Below w.heap.size w w' := by
  go_enter Tryd.func12, Tryd.ntmps12
  go_wp2_with fail
  first
    | (go_ret; exact ⟨rfl, by go_grown⟩)
    | (rw [Exit.noGoto_ret]; go_ret; exact ⟨rfl, by go_grown⟩)
    | (go_step3; go_wp2_with fail; (try rw [Exit.noGoto_ret]); go_ret; exact ⟨rfl, by go_grown⟩)
theorem oStepE (lo m : Nat) (w : World) (V : VmV) (M : Vm.Mc) (h : VmO lo m w V M) (hrun : M.run = false) :
    Calls Tryd.prog 12 #[.pointer (some ⟨m, 0, none⟩)] w fun e w' => e = .returned (.bool false) ∧ Below w.heap.size w w' := by
  have c := h.re.cell.2.2.2.2.2.2.2.2.2
  rw [show (M.gh ⟨w, VOwn V, lo⟩).run = M.run from rfl, hrun] at c
  exact vmStepE m w c
end Go.Proofs.YtodpdnidinnjjaaDoor
