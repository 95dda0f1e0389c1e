/- Layer 9: what a machine tells, with all that belongs to it; one that is not there. -/
/- Layer 9: a machine run to its end. -/
/- Layer 9, plain: the document's machine, instruction by instruction; what it is, seen as the program's. -/
/- Layer 9: the document's machine in memory; end. -/
/- Layer 9: the document's machine: end. -/
import Derived.Test.YtkjkiknpgggadaaDoorSVmNw
import Derived.Test.YtkjkiknpgggadaaDoorSVmG
namespace Go.Proofs.YtkjkiknpgggadaaDoor
open Go.RowKit
set_option linter.unusedVariables false
set_option linter.unusedSimpArgs false

theorem oEnded (lo m : Nat) (w : World) (V : VmV) (M : Vm.Mc) (h : VmO lo m w V M) : Calls Tryd.prog 18 #[.pointer (some ⟨m, 0, none⟩)] w fun e w' => e = .returned (.bool (!M.run)) ∧ Below w.heap.size w w' := vmEnded m w V (M.gh ⟨w, VOwn V, lo⟩) h.re
theorem oTicks (lo m : Nat) (w : World) (V : VmV) (M : Vm.Mc) (h : VmO lo m w V M) : Calls Tryd.prog 17 #[.pointer (some ⟨m, 0, none⟩)] w fun e w' => e = .returned (.int .i64 M.ticks) ∧ Below w.heap.size w w' := vmTicks m w V (M.gh ⟨w, VOwn V, lo⟩) h.re
theorem oCount (lo m : Nat) (w : World) (V : VmV) (M : Vm.Mc) (h : VmO lo m w V M) : Calls Tryd.prog 21 #[.pointer (some ⟨m, 0, none⟩)] w fun e w' => e = .returned (.int .i64 M.events.length) ∧ Below w.heap.size w w' := vmCount m w V (M.gh ⟨w, VOwn V, lo⟩) h.re
theorem oFrames (lo m : Nat) (w : World) (V : VmV) (M : Vm.Mc) (h : VmO lo m w V M) : Calls Tryd.prog 19 #[.pointer (some ⟨m, 0, none⟩)] w fun e w' => e = .returned (.int .i64 M.frames.length) ∧ Below w.heap.size w w' := vmFrames m w V (M.gh ⟨w, VOwn V, lo⟩) h.re
def EvW (lo hi : Nat) (w : World) (a : Option Addr) (l : List (Int × Int)) : Prop := 0 < l.length → ∃ g, a = some ⟨g, 0, none⟩ ∧ lo ≤ g ∧ g < hi ∧ ∀ j e, l[j]? = some e → w.cell? ⟨g, j * 2, none⟩ = some (.int .i64 e.1) ∧ w.cell? ⟨g, j * 2 + 1, none⟩ = some (.int .i64 e.2)
theorem EvW.keep {lo hi : Nat} {w w' : World} {a : Option Addr} {l : List (Int × Int)} (h : EvW lo hi w a l) (k : Kpt lo hi w w') : EvW lo hi w' a l := fun h0 => by
  obtain ⟨g, e, h1, h2, h3⟩ := h h0
  exact ⟨g, e, h1, h2, fun j x hj => ⟨(k.cell h1 h2).trans (h3 j x hj).1, (k.cell h1 h2).trans (h3 j x hj).2⟩⟩
theorem EvW.later {lo hi : Nat} {w w' : World} {a : Option Addr} {l : List (Int × Int)} (h : EvW lo hi w a l) (b : Below hi w w') : EvW lo hi w' a l := h.keep (bl_kpt b)
theorem evC_len : ∀ l : List (Int × Int), (Vm.evC l).length = l.length * 2
  | [] => rfl
  | p :: ps => by
    have := evC_len ps
    simp only [Vm.evC, List.flatMap_cons, List.length_append, List.length_cons, List.length_nil] at this ⊢
    omega
theorem evC_one (ps : List (Int × Int)) : ∀ u ∈ Vm.evC ps, u.oneCell' = true := by
  intro u hu
  obtain ⟨p, _, hp⟩ := List.mem_flatMap.1 hu
  simp only [List.mem_cons, List.not_mem_nil, or_false] at hp
  rcases hp with rfl | rfl <;> rfl
theorem evC_get : ∀ (ps : List (Int × Int)) (j : Nat) (p : Int × Int), ps[j]? = some p → (Vm.evC ps)[j * 2]? = some (.int .i64 p.1) ∧ (Vm.evC ps)[j * 2 + 1]? = some (.int .i64 p.2)
  | [], j, p, h => by simp at h
  | q :: ps, 0, p, h => by
    simp at h
    subst h
    exact ⟨rfl, rfl⟩
  | q :: ps, j + 1, p, h => by
    have ih := evC_get ps j p (by simpa using h)
    have e : ∀ k, (Vm.evC (q :: ps))[(j + 1) * 2 + k]? = (Vm.evC ps)[j * 2 + k]? := fun k => by
      unfold Vm.evC
      rw [List.flatMap_cons, List.getElem?_append_right (by show 2 ≤ _; omega)]
      congr 1
      show _ - 2 = _
      omega
    exact ⟨(e 0).trans ih.1, (e 1).trans ih.2⟩
theorem own_evW {w : World} {base n : Nat} {e : TypeId} {v : Value} {l : List (Int × Int)} (h : w.ownsRow base e 2 v n (Vm.evC l)) (hn : n = l.length) : ∃ a cap, v = .slice a n cap ∧ n ≤ cap ∧ EvW base w.heap.size w a l := by
  have hc := @World.ownsRow.cells _ _ _ _ _ _ _ h
  have hl := h.lt
  rcases h.2 with ⟨hv, h1⟩ | ⟨g, cap, cur, rfl, hbg, _, hcap, _⟩
  · exact ⟨none, 0, by rw [hv, h1], by omega, fun h0 => by omega⟩
  · refine ⟨_, cap, rfl, hcap, fun _ => ⟨g, rfl, hbg, (hl g rfl).2, fun j i hj => ?_⟩⟩
    obtain ⟨a0, a1⟩ := evC_get _ _ _ hj
    have get := fun j u hu => @hc g rfl j u hu
    refine ⟨?_, ?_⟩
    · have := get _ _ a0; rw [adM, Nat.zero_add] at this; exact this
    · have := get _ _ a1; rw [adM, Nat.zero_add] at this; exact this
set_option maxRecDepth 100000 in
set_option maxHeartbeats 4000000 in
theorem vmEvents (m : Nat) (w : World) (V : VmV) (M : Vm.Mc) (h : VmS m w V M) (hb : M.events.length ≤ 1000000000) : Calls Tryd.prog 13 #[.pointer (some ⟨m, 0, none⟩)] w fun e w' => ∃ a c, e = .returned (.slice a M.events.length c) ∧ EvW w.heap.size w'.heap.size w' a M.events ∧ Below w.heap.size w w' := by
  have ho : w.ownsRow (m + 1) 50 2 V.ev M.events.length (Vm.evC M.events) := h.rows.ob
  obtain ⟨sa, sc, hv⟩ := own_shp ho
  have c9 := h.cell.2.2.2.2.2.1
  rw [hv] at c9 ho
  have EC : Hid (Calls Tryd.prog 41 #[.slice sa M.events.length sc] w fun e w' => ∃ a c, e = .returned (.slice a M.events.length c) ∧ EvW w.heap.size w'.heap.size w' a M.events ∧ Below w.heap.size w w') := by
    refine (cloneEv w sa M.events.length sc (Vm.evC M.events) (fun e => ?_) (evC_len _) (fun ad e => ?_) (evC_one _) (by omega)).mono fun e w' ⟨v', h1, h2, h3⟩ => ?_
    · subst e
      rcases ho.2 with ⟨_, e0⟩ | ⟨_, _, _, e, _⟩
      · exact e0
      · cases e
    · subst e
      rcases ho.2 with ⟨e, _⟩ | ⟨g, cap, cur, e, _⟩
      · cases e
      · cases e
        exact fun j u hu => @World.ownsRow.cells _ _ _ _ _ _ _ ho g rfl j u hu
    · obtain ⟨a, cap, e1, h4, h5⟩ := own_evW h2 rfl
      exact ⟨a, cap, by rw [h1, e1], h5, h3⟩
  obtain ⟨n, hn⟩ : ∃ n, n = M.events.length := ⟨_, rfl⟩
  rw [← hn] at EC c9 ⊢
  clear h ho hv hb hn
  go_enter Tryd.func13, Tryd.ntmps13
  go_wp2_with fail
  refine Calls.mono EC.out ?_
  rintro e1 w1 ⟨a, c, rfl, h1, h2⟩
  have FIN : Hid (∃ a' c', Ending.returned (.slice a n c) = .returned (.slice a' n c') ∧ EvW w.heap.size w1.heap.size w1 a' M.events ∧ Below w.heap.size w w1) := ⟨a, c, rfl, h1, h2⟩
  clear h1 h2 EC c9
  go_wp2_with fail
  go_ret
  first
    | exact FIN.out
    | simpa using FIN.out
theorem oEvents (lo m : Nat) (w : World) (V : VmV) (M : Vm.Mc) (h : VmO lo m w V M) (hb : M.events.length ≤ 1000000000) : Calls Tryd.prog 13 #[.pointer (some ⟨m, 0, none⟩)] w fun e w' => ∃ a c, e = .returned (.slice a M.events.length c) ∧ EvW w.heap.size w'.heap.size w' a M.events ∧ Below w.heap.size w w' := vmEvents m w V (M.gh ⟨w, VOwn V, lo⟩) h.re hb
def Dis (lo m : Nat) (V : VmV) (lo2 m2 : Nat) (V2 : VmV) : Prop := ∀ k, Sup lo m V k → Sup lo2 m2 V2 k → False
theorem Dis.symm {lo m lo2 m2 : Nat} {V V2 : VmV} (h : Dis lo m V lo2 m2 V2) : Dis lo2 m2 V2 lo m V := fun k a b => h k b a
theorem VmO.sup_lt {lo m : Nat} {w : World} {V : VmV} {M : Vm.Mc} (h : VmO lo m w V M) {k : Nat} (s : Sup lo m V k) : k < w.heap.size := by
  rcases s with s | s
  · have := h.lt; omega
  · exact (h.own_lt s).2
theorem VmO.sup_ge {lo m : Nat} {w : World} {V : VmV} {M : Vm.Mc} (h : VmO lo m w V M) {k : Nat} (s : Sup lo m V k) : lo ≤ k := by
  rcases s with s | s
  · exact s.1
  · have := (h.own_lt s).1; have := h.lm; omega
theorem VmO.other {lo m lo2 m2 : Nat} {w w' : World} {V V' V2 : VmV} {M M2 : Vm.Mc} (h : VmO lo m w V M) (f : Frm m w w' V V') (h2 : VmO lo2 m2 w V2 M2) (d : Dis lo m V lo2 m2 V2) : VmO lo2 m2 w' V2 M2 ∧ Dis lo m V' lo2 m2 V2 := by
  refine ⟨h2.keep fun b s => f.eq b (h2.sup_lt s) (fun e => d b (.inl ⟨by have := h.lm; omega, by omega⟩) s) (fun o => d b (.inr o) s), fun k a b => ?_⟩
  rcases a with a | a
  · exact d k (.inl a) b
  · rcases f.ow k a with o | o
    · exact d k (.inr o) b
    · have := h2.sup_lt b
      omega
theorem VmO.young {lo m lo2 m2 : Nat} {w w' : World} {V V2 : VmV} {M M2 : Vm.Mc} (h : VmO lo m w V M) (hl : w.heap.size ≤ lo2) (h2 : VmO lo2 m2 w' V2 M2) : Dis lo m V lo2 m2 V2 := fun k a b => by
  have := h.sup_lt a
  have := h2.sup_ge b
  omega
theorem Frm.low {m : Nat} {w w' : World} {V V' : VmV} (h : Frm m w w' V V') {b : Nat} (hb : b ≤ m) : Below b w w' := h.b.mono hb
end Go.Proofs.YtkjkiknpgggadaaDoor

namespace Go.Proofs.YtkjkiknpgggadaaDoor
open Go.RowKit
set_option linter.unusedVariables false
set_option linter.unusedSimpArgs false

namespace Vm
def nth : Nat → Mc → Mc
  | 0, M => M
  | n + 1, M => nth n (step M)
theorem nth_succ : ∀ (n : Nat) (M : Mc), nth (n + 1) M = step (nth n M)
  | 0, M => rfl
  | n + 1, M => by
    rw [nth, nth_succ n (step M)]
    rfl
structure On (B : Int) (M : Mc) (j : Nat) : Prop where
  wf : WF B (nth j M)
  run : (nth j M).run = true
  ti : (nth j M).ticks = M.ticks + j
  fu : (nth j M).fuel = M.fuel - j
  co : (nth j M).codes = M.codes
  inp : (nth j M).input = M.input
  ev : ∃ t, (nth j M).events = M.events ++ t ∧ t.length ≤ j * 1048577 ∧ ∀ e ∈ t, e.1 < 3
theorem on_all {B : Int} {M : Mc} (w : WF B M) (hr : M.run = true) : ∀ (j : Nat), (∀ i, i < j → ticked (nth i M) = true) → On B M j
  | 0, _ => ⟨w, hr, by simp [nth], by simp [nth], rfl, rfl, [], by simp [nth], by simp, fun e he => by simp at he⟩
  | j + 1, h => by
    have o := on_all w hr j fun i hi => h i (by omega)
    have t := h j (by omega)
    obtain ⟨g, g1, g2⟩ := step_gd o.wf o.run
    obtain ⟨e1, e2⟩ := g2 t
    have tk := g.tk
    obtain ⟨t0, a1, a2, a3⟩ := o.ev
    obtain ⟨t1, b1, b2, b3, _⟩ := g.ev
    have e0 := nth_succ j M
    refine ⟨by rw [e0]; exact g.wf e2, by rw [e0]; exact e2, ?_, ?_, by rw [e0]; exact g.co.trans o.co, by rw [e0]; exact g.inp.trans o.inp, t0 ++ t1, ?_, ?_, fun e he => ?_⟩
    · rw [e0, e1, o.ti]; omega
    · have := o.fu
      rw [e0]
      omega
    · rw [e0, b1, a1, List.append_assoc]
    · rw [List.length_append]; omega
    · rcases List.mem_append.1 he with he | he
      · exact a3 e he
      · exact b3 e2 e he
structure Dn (B : Int) (M : Mc) (k : Nat) : Prop where
  on : On B M k
  run : (nth (k + 1) M).run = false
  ti : (nth (k + 1) M).ticks = M.ticks + k
  ev : ∃ t e, (nth (k + 1) M).events = M.events ++ t ++ [e] ∧ t.length ≤ (k + 1) * 1048577 ∧ (∀ x ∈ t, x.1 < 3) ∧ 3 ≤ e.1
end Vm
end Go.Proofs.YtkjkiknpgggadaaDoor

namespace Go.Proofs.YtkjkiknpgggadaaDoor.Vm
open Go.RowKit
set_option linter.unusedVariables false
set_option linter.unusedSimpArgs false

structure Rf where
  proc : Nat
  place : Nat
  mark : Int
  cells : List Int
  stack : List Int
structure Rm where
  codes : List Cd.Co
  frames : List Rf
  input : List Int
  read : Nat
  fuel : Int
  ticks : Int
  t0 : Int
  t1 : Int
  t2 : Int
  t3 : Int
  events : List (Int × Int)
  ended : Bool
  ran : Int
def res (f : Rf) (i : Cd.In) (l : List Int) : List Int × Int :=
  if i.op = 1 then ([i.n], 0)
  else if i.op = 2 then ([f.cells.getD i.n.toNat 0], 0)
  else if i.op = 4 then (if ip (l.getD 0 0) i.m.toNat then ([f.cells.getD (i.n.toNat + (l.getD 0 0).toNat) 0], 0) else ([], 2))
  else if i.op = 5 then (if ip (l.getD 0 0) i.m.toNat then ([], 0) else ([], 2))
  else if 7 ≤ i.op ∧ i.op ≤ 14 then (match bt i.op (l.getD 0 0) (l.getD 1 0) with | some v => ([v], 0) | none => ([], 1))
  else if i.op = 15 then ([tr (l.getD 0 0 == 0)], 0)
  else if i.op = 16 then ([wrap64 (-(l.getD 0 0))], 0)
  else if i.op = 23 then (if l.getD 0 0 = 0 then ([], 3) else ([], 0))
  else ([], 0)
def sto (f : Rf) (i : Cd.In) (l : List Int) : Rf :=
  if i.op = 3 then { f with cells := f.cells.set i.n.toNat (l.getD 0 0) }
  else if i.op = 5 then { f with cells := f.cells.set (i.n.toNat + (l.getD 0 0).toNat) (l.getD 1 0) }
  else if i.op = 6 then { f with cells := cl f.cells i.n.toNat i.m.toNat }
  else if i.op = 17 then { f with place := i.n.toNat }
  else if i.op = 18 then (if l.getD 0 0 = 0 then { f with place := i.n.toNat } else f)
  else f
def rend (R : Rm) (k n : Int) : Rm := { R with events := R.events ++ [(k, n)], ended := true }
def rbeg (R : Rm) (p k : Nat) (l : List Int) : Rm := { R with frames := R.frames ++ [⟨p, 0, -1, l ++ List.replicate (k - l.length) 0, []⟩] }
def rf1 (f : Rf) (t : Nat) : Rf := { f with place := f.place + 1, stack := f.stack.take (f.stack.length - t) }
def rtk (f : Rf) (t : Nat) : List Int := f.stack.drop (f.stack.length - t)
def ron (R : Rm) (gs : List Rf) (g : Rf) (i : Cd.In) : Rm × Bool :=
  if i.op = 24 then (if R.fuel = 0 then (rend { R with frames := gs ++ [rf1 g 0] } 5 0, false) else ({ R with fuel := R.fuel - 1, ticks := R.ticks + 1, frames := gs ++ [{ rf1 g 0 with mark := i.n }], t0 := i.m, t1 := g.proc, t2 := i.n, t3 := gs.length + 1 }, true))
  else if i.op = 19 then (if 50 ≤ gs.length + 1 then (rend { R with frames := gs ++ [rf1 g (Cd.tk i).toNat] } 4 4, false) else (match R.codes[i.n.toNat]? with | some d => rbeg { R with frames := gs ++ [rf1 g (Cd.tk i).toNat] } i.n.toNat d.cells.toNat (rtk g (Cd.tk i).toNat) | none => R, false))
  else if i.op = 20 then (match gs.getLast? with | none => (rend { R with frames := [] } 3 0, false) | some b => ({ R with frames := gs.dropLast ++ [{ b with stack := b.stack ++ rtk g (Cd.tk i).toNat }] }, false))
  else if i.op = 21 then ({ R with frames := gs ++ [rf1 g (Cd.tk i).toNat], events := R.events ++ [(1, (rtk g (Cd.tk i).toNat).getD 0 0)] }, false)
  else if i.op = 22 then (match R.input[R.read]? with | none => (rend { R with frames := gs ++ [rf1 g 0] } 4 5, false) | some n => ({ R with frames := gs ++ [{ rf1 g 0 with stack := (rf1 g 0).stack ++ [n] }], events := R.events ++ [(2, n)], read := R.read + 1 }, false))
  else (if (res (rf1 g (Cd.tk i).toNat) i (rtk g (Cd.tk i).toNat)).2 = 0 then ({ R with frames := gs ++ [{ sto (rf1 g (Cd.tk i).toNat) i (rtk g (Cd.tk i).toNat) with stack := (rf1 g (Cd.tk i).toNat).stack ++ (res (rf1 g (Cd.tk i).toNat) i (rtk g (Cd.tk i).toNat)).1 }] }, false) else (rend { R with frames := gs ++ [rf1 g (Cd.tk i).toNat] } 4 (res (rf1 g (Cd.tk i).toNat) i (rtk g (Cd.tk i).toNat)).2, false))
def rit (R : Rm) : Option (List Rf × Rf × Cd.In) :=
  match R.frames.getLast? with
  | none => none
  | some g => match R.codes[g.proc]? with
    | none => none
    | some c => match c.ins[g.place]? with
      | none => none
      | some i => some (R.frames.dropLast, g, i)
theorem rit_of {R : Rm} {gs : List Rf} {g : Rf} {c : Cd.Co} {i : Cd.In} (hf : R.frames = gs ++ [g]) (hc : R.codes[g.proc]? = some c) (hi : c.ins[g.place]? = some i) : rit R = some (gs, g, i) := by
  unfold rit
  rw [hf]
  simp [hc, hi]
def frs : Nat → List Rf → List Fr
  | _, [] => []
  | b, g :: r => ⟨g.proc, g.place, g.mark, b⟩ :: frs (b + g.cells.length) r
def fce (l : List Rf) : List Int := l.flatMap Rf.cells
def fst (l : List Rf) : List Int := l.flatMap Rf.stack
theorem fce_app (a b : List Rf) : fce (a ++ b) = fce a ++ fce b := List.flatMap_append
theorem fst_app (a b : List Rf) : fst (a ++ b) = fst a ++ fst b := List.flatMap_append
theorem fce_one (g : Rf) : fce [g] = g.cells := by simp [fce]
theorem fst_one (g : Rf) : fst [g] = g.stack := by simp [fst]
theorem frs_len : ∀ (b : Nat) (l : List Rf), (frs b l).length = l.length
  | b, [] => rfl
  | b, g :: r => by rw [frs, List.length_cons, frs_len, List.length_cons]
theorem frs_app : ∀ (b : Nat) (l : List Rf) (g : Rf), frs b (l ++ [g]) = frs b l ++ [⟨g.proc, g.place, g.mark, b + (fce l).length⟩]
  | b, [], g => by simp [frs, fce]
  | b, x :: r, g => by
    rw [List.cons_append, frs, frs, frs_app _ r g, List.cons_append]
    congr 4
    show _ = b + (x.cells ++ fce r).length
    rw [List.length_append]
    omega
def abs (R : Rm) (G : Gh) : Mc := ⟨R.codes, R.input, R.read, R.fuel, R.ticks, R.t0, R.t1, R.t2, R.t3, R.events, frs 0 R.frames, fce R.frames, fst R.frames, !R.ended, G⟩
inductive Rs (l : List Cd.Co) : List Rf → Int → Prop
  | nil : Rs l [] 0
  | snoc (gs : List Rf) (g : Rf) (a : Int) (c : Cd.Co) (r : Rs l gs (Cd.an c)) (hc : l[g.proc]? = some c) (hk : (g.cells.length : Int) = c.cells) (hr : Cd.Rc l c (g.place : Int) ((g.stack.length : Int) + a)) : Rs l (gs ++ [g]) a
theorem Rs.fs {l : List Cd.Co} {gs : List Rf} {a : Int} (h : Rs l gs a) : Fs l (frs 0 gs) (fce gs).length (fst gs).length a := by
  induction h with
  | nil => exact .nil
  | snoc gs g a c r hc hk hr ih =>
    rw [frs_app, fce_app, fst_app, fce_one, fst_one, List.length_append, List.length_append, Nat.zero_add]
    have e : g.cells.length = c.cells.toNat := by omega
    rw [e]
    exact .snoc (frs 0 gs) ⟨g.proc, g.place, g.mark, (fce gs).length⟩ (fce gs).length (fst gs).length g.stack.length a c ih hc rfl hr
structure RW (B : Int) (R : Rm) : Prop where
  wf : ∀ G, WF B (abs R G)
  rs : Rs R.codes R.frames 0
structure RA (B : Int) (R : Rm) (gs : List Rf) (g : Rf) (c : Cd.Co) (i : Cd.In) : Prop where
  hf : R.frames = gs ++ [g]
  r : Rs R.codes gs (Cd.an c)
  hc : R.codes[g.proc]? = some c
  hi : c.ins[g.place]? = some i
  hk : (g.cells.length : Int) = c.cells
  hr : Cd.Rc R.codes c (g.place : Int) (g.stack.length : Int)
  tk : Cd.tk i ≤ g.stack.length
  t0 : 0 ≤ Cd.tk i
  at_ : ∀ G, ∃ C0 S0, At B (abs R G) (frs 0 gs) ⟨g.proc, g.place, g.mark, (fce gs).length⟩ c i C0 S0 g.stack.length
end Go.Proofs.YtkjkiknpgggadaaDoor.Vm

namespace Go.Proofs.YtkjkiknpgggadaaDoor
open Go.RowKit
set_option linter.unusedVariables false
set_option linter.unusedSimpArgs false

structure RmV where
  ca : Option Addr
  cc : Nat
  fv : Value
  ia : Option Addr
  ic : Nat
  ev : Value
  fc : List (Value × Value)
abbrev rmB (U : RmV) (R : Vm.Rm) : Obj := .cells #[.slice U.ca R.codes.length U.cc, U.fv, .slice U.ia R.input.length U.ic, .int .i64 R.read, .int .i64 R.fuel, .int .i64 R.ticks, .int .i64 R.t0, .int .i64 R.t1, .int .i64 R.t2, .int .i64 R.t3, U.ev, .bool R.ended, .int .i64 R.ran] 35 (0, 0)
def rmC : List Vm.Rf → List (Value × Value) → List Value
  | g :: r, v :: s => [.int .i64 g.proc, .int .i64 g.place, .int .i64 g.mark, v.1, v.2] ++ rmC r s
  | _, _ => []
def rmR : List Vm.Rf → List (Value × Value) → List Rw
  | g :: r, v :: s => ⟨2, 1, v.1, g.cells.length, nC g.cells⟩ :: ⟨2, 1, v.2, g.stack.length, nC g.stack⟩ :: rmR r s
  | _, _ => []
theorem rmC_app : ∀ (l : List Vm.Rf) (f : List (Value × Value)) (g : Vm.Rf) (v : Value × Value), l.length = f.length → rmC (l ++ [g]) (f ++ [v]) = rmC l f ++ [.int .i64 g.proc, .int .i64 g.place, .int .i64 g.mark, v.1, v.2]
  | [], [], g, v, h => by simp [rmC]
  | [], _ :: _, g, v, h => by simp at h
  | _ :: _, [], g, v, h => by simp at h
  | x :: l, y :: f, g, v, h => by
    rw [List.cons_append, List.cons_append, rmC, rmC_app l f g v (by simpa using h), rmC, List.append_assoc]
theorem rmR_app : ∀ (l : List Vm.Rf) (f : List (Value × Value)) (g : Vm.Rf) (v : Value × Value), l.length = f.length → rmR (l ++ [g]) (f ++ [v]) = rmR l f ++ [⟨2, 1, v.1, g.cells.length, nC g.cells⟩, ⟨2, 1, v.2, g.stack.length, nC g.stack⟩]
  | [], [], g, v, h => by simp [rmR]
  | [], _ :: _, g, v, h => by simp at h
  | _ :: _, [], g, v, h => by simp at h
  | x :: l, y :: f, g, v, h => by
    rw [List.cons_append, List.cons_append, rmR, rmR_app l f g v (by simpa using h), rmR]
    rfl
theorem rmC_len : ∀ (l : List Vm.Rf) (f : List (Value × Value)), l.length = f.length → (rmC l f).length = l.length * 5
  | [], [], h => rfl
  | [], _ :: _, h => by simp at h
  | _ :: _, [], h => by simp at h
  | x :: l, y :: f, h => by
    have := rmC_len l f (by simpa using h)
    rw [rmC, List.length_append, this, List.length_cons]
    simp only [List.length_cons, List.length_nil]
    omega
abbrev reR (U : RmV) (R : Vm.Rm) : Rw := ⟨50, 2, U.ev, R.events.length, Vm.evC R.events⟩
abbrev rfR (U : RmV) (R : Vm.Rm) : Rw := ⟨60, 5, U.fv, R.frames.length, rmC R.frames U.fc⟩
structure RmS (G : Gh) (r : Nat) (w : World) (U : RmV) (R : Vm.Rm) : Prop where
  box : w.heap[r]? = some (rmB U R)
  fl : R.frames.length = U.fc.length
  rows : RwL G w (r + 1) (reR U R :: rfR U R :: rmR R.frames U.fc)
  co : CoS G.lo w U.ca R.codes
  inp : NuW G.lo r w U.ia R.input
  lo : G.lo ≤ r
  fix : ∀ v0 v2, G.w.cell? ⟨r, 0, none⟩ = some v0 → G.w.cell? ⟨r, 2, none⟩ = some v2 → v0 = .slice U.ca R.codes.length U.cc ∧ v2 = .slice U.ia R.input.length U.ic
theorem RmS.lt {G : Gh} {r : Nat} {w : World} {U : RmV} {R : Vm.Rm} (h : RmS G r w U R) : r < w.heap.size := (Array.getElem?_eq_some_iff.1 h.box).1
theorem RmS.later {G : Gh} {r : Nat} {w w' : World} {U : RmV} {R : Vm.Rm} (h : RmS G r w U R) (b : Below w.heap.size w w') : RmS G r w' U R :=
  ⟨(b.block r h.lt).trans h.box, h.fl, h.rows.later b, h.co.later (b.mono (Nat.le_of_lt (Nat.lt_of_le_of_lt h.lo h.lt))), h.inp.later (b.mono (Nat.le_of_lt h.lt)), h.lo, h.fix⟩
theorem RmS.cell {G : Gh} {r : Nat} {w : World} {U : RmV} {R : Vm.Rm} (h : RmS G r w U R) : w.cell? ⟨r, 0, none⟩ = some (.slice U.ca R.codes.length U.cc) ∧ w.cell? ⟨r, 1, none⟩ = some U.fv ∧ w.cell? ⟨r, 2, none⟩ = some (.slice U.ia R.input.length U.ic) ∧ w.cell? ⟨r, 3, none⟩ = some (.int .i64 R.read) ∧ w.cell? ⟨r, 4, none⟩ = some (.int .i64 R.fuel) ∧ w.cell? ⟨r, 5, none⟩ = some (.int .i64 R.ticks) ∧ w.cell? ⟨r, 10, none⟩ = some U.ev ∧ w.cell? ⟨r, 11, none⟩ = some (.bool R.ended) ∧ w.cell? ⟨r, 12, none⟩ = some (.int .i64 R.ran) := by
  have := h.box
  refine ⟨?_, ?_, ?_, ?_, ?_, ?_, ?_, ?_, ?_⟩ <;> simp [World.cell?, this]
theorem RmS.frozen {G : Gh} {r : Nat} {w : World} {U : RmV} {R : Vm.Rm} (h : RmS G r w U R) (k : Nat) : w.frozen? ⟨r, k, none⟩ = false := by simp [World.frozen?, h.box]
def RmQ (G : Gh) (r : Nat) (w w' : World) (R : Vm.Rm) : Prop := Below r w w' ∧ ∃ U, RmS G r w' U R
theorem RmS.low {G : Gh} {r : Nat} {w w' : World} {U : RmV} {R : Vm.Rm} (h : RmS G r w U R) (b : Below r w w') : CoS G.lo w' U.ca R.codes ∧ NuW G.lo r w' U.ia R.input := ⟨h.co.later (b.mono h.lo), h.inp.later b⟩
theorem RmS.setE {G : Gh} {r : Nat} {w w8 : World} {U : RmV} {R : Vm.Rm} (h : RmS G r w U R) (b8 : Below (r + 1) w w8) {ev' : Value} {es' : List (Int × Int)} (r8 : RwL G w8 (r + 1) (⟨50, 2, ev', es'.length, Vm.evC es'⟩ :: rfR U R :: rmR R.frames U.fc)) : RmQ G r w (w8.setCell ⟨r, 10, none⟩ ev') { R with events := es' } := by
  have hb : w8.heap[r]? = some (rmB U R) := (b8.block r (by omega)).trans h.box
  have bm : Below r w (w8.setCell ⟨r, 10, none⟩ ev') := (b8.mono (by omega)).trans below_set
  exact ⟨bm, { U with ev := ev' }, ⟨heap_setCell_same _ _ _ _ _ _ hb, h.fl, r8.below _, (h.low bm).1, (h.low bm).2, h.lo, h.fix⟩⟩
theorem RmS.setEn {G : Gh} {r : Nat} {w : World} {U : RmV} {R : Vm.Rm} (h : RmS G r w U R) (e : Bool) : RmQ G r w (w.setCell ⟨r, 11, none⟩ (.bool e)) { R with ended := e } :=
  ⟨below_set, U, heap_setCell_same _ _ _ _ _ _ h.box, h.fl, h.rows.below _, (h.low below_set).1, (h.low below_set).2, h.lo, h.fix⟩
theorem RmS.setRn {G : Gh} {r : Nat} {w : World} {U : RmV} {R : Vm.Rm} (h : RmS G r w U R) (e : Int) : RmQ G r w (w.setCell ⟨r, 12, none⟩ (.int .i64 e)) { R with ran := e } :=
  ⟨below_set, U, heap_setCell_same _ _ _ _ _ _ h.box, h.fl, h.rows.below _, (h.low below_set).1, (h.low below_set).2, h.lo, h.fix⟩
end Go.Proofs.YtkjkiknpgggadaaDoor

namespace Go.Proofs.YtkjkiknpgggadaaDoor
open Go.RowKit
set_option linter.unusedVariables false
set_option linter.unusedSimpArgs false

theorem grownL_below {G : Gh} {r : Nat} {w X w8 : World} {A C : List Rw} {x : Rw} (h : RwL G w (r + 1) (A ++ x :: C)) (hr : r < w.heap.size) (y : Below w.heap.size w X) (g8 : X.grownBy w8 x.v.ownBlock) : Below (r + 1) w w8 :=
  (y.mono hr).trans ⟨g8.os, g8.tape, g8.output, g8.size, fun k hk => g8.block k (by have := y.size; omega) (fun e => by have := (World.ownsRow.lt (h.own x (by simp)) _ e.symm).1; omega)⟩
set_option maxRecDepth 100000 in
set_option maxHeartbeats 4000000 in
theorem rEnd (G : Gh) (r : Nat) (w : World) (U : RmV) (R : Vm.Rm) (k a : Int) (h : RmS G r w U R) (hb : R.events.length ≤ 1000000000) : Calls Tryd.prog 36 #[.pointer (some ⟨r, 0, none⟩), .int .i64 k, .int .i64 a] w fun e w' => e = .returned (.tuple #[]) ∧ RmQ G r w w' (Vm.rend R k a) := by
  obtain ⟨i0, hi, hz0, hz1, hz2⟩ := info_parts infoEv
  have ho : w.ownsRow (r + 1) 50 2 U.ev R.events.length (Vm.evC R.events) := h.rows.own _ (List.mem_cons_self ..)
  obtain ⟨sa, sc, hv⟩ := own_shp ho
  have HH : Hid (RmS G r w U R) := h
  have c10 := h.cell.2.2.2.2.2.2.1
  have HV : Hid (U.ev = .slice sa R.events.length sc) := hv
  rw [hv] at c10 ho
  have hlt := h.lt
  obtain ⟨n, hn⟩ : ∃ n, n = R.events.length := ⟨_, rfl⟩
  have HN : Hid (n = R.events.length) := hn
  rw [← hn] at c10 ho hb
  have HO : Hid (w.ownsRow (r + 1) 50 2 (.slice sa n sc) n (Vm.evC R.events)) := ho
  have H63 : Hid (n + 1 ≤ maxLen ∧ (n + 1) * 16 ≤ 140737488355328) := by unfold Hid maxLen; omega
  have ONE1 : Hid (∀ u ∈ [Value.int .i64 k, .int .i64 a], u.oneCell' = true) := fun y hy => by
    simp only [List.mem_cons, List.not_mem_nil, or_false] at hy
    rcases hy with rfl | rfl <;> rfl
  have f10 := h.frozen 10
  clear h hv ho hn
  go_enter Tryd.func36, Tryd.ntmps36
  go_wp2_with (at_builtin; refine wpList_app_t rfl _ _ 33 rfl (r + 1) 50 i0 (.agg #[.int .i64 0, .int .i64 0]) 2 16 Tryd.underlying33 hi hz0 hz1 hz2 rfl (by decide) _ _ _ rfl (own_lat HO.out ((Below.refl _ _).alloc (Nat.le_refl _) _)) ⟨w.heap.size, 0, none⟩ 1 1 [.int .i64 k, .int .i64 a] rfl rfl (lit_2 _ _ _ _) ONE1.out H63.out.1 H63.out.2 (by simp; omega) (by decide) ?_)
  intro v8 w8 h8 g8 o8
  have y : Below w.heap.size w (w.alloc (.cells #[.int .i64 k, .int .i64 a] 50)) := (Below.refl _ _).alloc (Nat.le_refl _) _
  have RS : RwL G w (r + 1) ([] ++ reR U R :: rfR U R :: rmR R.frames U.fc) := HH.out.rows
  have g8' : World.grownBy (w.alloc (.cells #[.int .i64 k, .int .i64 a] 50)) w8 U.ev.ownBlock := by rw [HV.out, ← HN.out]; exact g8
  have b8 : Below (r + 1) w w8 := grownL_below RS hlt y g8'
  have R8 := RS.grow y (v' := v8) (n' := (R.events ++ [(k, a)]).length) (xs' := Vm.evC (R.events ++ [(k, a)])) (by rw [List.length_append, ← HN.out, Vm.evC_app]; simpa [Vm.evC] using h8) g8' (by show v8.ownBlock = U.ev.ownBlock ∨ _; rw [HV.out, ← HN.out]; simpa using o8)
  obtain ⟨q1, U2, q2⟩ := HH.out.setE b8 R8
  have q3 := q2.setEn true
  have FIN : Hid (RmQ G r w ((w8.setCell ⟨r, 10, none⟩ v8).setCell ⟨r, 11, none⟩ (.bool true)) (Vm.rend R k a)) := ⟨q1.trans q3.1, q3.2⟩
  have k10 := (b8.cell (p := ⟨r, 10, none⟩) (Nat.lt_succ_self r)).trans c10
  have g10 := (b8.frozen (p := ⟨r, 10, none⟩) (Nat.lt_succ_self r)).trans f10
  have d11 := q2.cell.2.2.2.2.2.2.2.1
  have e11 := q2.frozen 11
  obtain ⟨W9, hW9⟩ : ∃ W9, W9 = w8.setCell ⟨r, 10, none⟩ v8 := ⟨_, rfl⟩
  rw [← hW9] at d11 e11 FIN
  obtain ⟨va8, cap8, hv8⟩ := own_shp h8
  subst hv8
  clear h8 g8 g8' o8 R8 RS y b8 c10 f10 q1 q2 q3
  go_upto_region 1 with fail
  rw [← hW9]
  clear hW9 k10 g10
  go_wp2_with fail
  first
    | (go_end0; exact ⟨rfl, FIN.out⟩)
    | (go_ret; exact ⟨rfl, FIN.out⟩)
end Go.Proofs.YtkjkiknpgggadaaDoor

