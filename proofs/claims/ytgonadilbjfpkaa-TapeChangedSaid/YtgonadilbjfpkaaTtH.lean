/- Layer 13: the reader of a trace: its box and its three rows. -/
import Derived.Test.YtgonadilbjfpkaaTtG
namespace Go.Proofs.Ytgonadilbjfpkaa
open Go.RowKit
set_option linter.unusedVariables false
set_option linter.unusedSimpArgs false
section
variable {w w' w8 : World} {g : Nat} {T : TypeId} {a : Option Addr} {c : Nat} {b : List Int} {k k' : Nat} {r : List Value}
theorem PlB.setR (h : PlB w g T a c b k r) (i : Nat) (x : Value) : PlB (w.setCell ⟨g, i + 2, none⟩ x) g T a c b k (r.set i x) ∧ w.grownBy (w.setCell ⟨g, i + 2, none⟩ x) (some g) := by
  have hg : w.grownBy (w.setCell ⟨g, i + 2, none⟩ x) (some g) := ⟨rfl, rfl, rfl, by simp, fun i _ hn => heap_setCell_other _ _ i _ (by intro e; exact hn (by rw [e]))⟩
  refine ⟨⟨?_, h.bs.later (gbB hg (Nat.le_of_lt h.lt)) (Nat.le_refl _), h.yt, h.cap, h.le, h.ln⟩, hg⟩
  rw [heap_setCell_same _ _ _ _ _ _ h.hb]
  simp
theorem PlB.grow (h : PlB w g T a c b k r) {v v' : Value} (k8 : Gw w v v' w8) (hv : ∀ j, v.ownBlock = some j → g < j) : PlB w8 g T a c b k r := by
  have hb : ∀ i, i ≤ g → w8.heap[i]? = w.heap[i]? := fun i hi => k8.1.block i (Nat.lt_of_le_of_lt hi h.lt) (fun e => by have := hv i e.symm; omega)
  have bl : Below g w w8 := ⟨k8.1.os, k8.1.tape, k8.1.output, k8.1.size, fun i hi => hb i (Nat.le_of_lt hi)⟩
  exact ⟨(hb g (Nat.le_refl _)).trans h.hb, h.bs.later bl (Nat.le_refl _), h.yt, h.cap, h.le, h.ln⟩
end
/-- Two rows lie apart. -/
def Apt (u v : Value) : Prop := ∀ k, u.ownBlock = some k → v.ownBlock ≠ some k
theorem Apt.symm {u v : Value} (h : Apt u v) : Apt v u := fun k e e' => h k e' e
theorem Apt.kept {w w8 : World} {base size n m sz : Nat} {e e' : TypeId} {u v v' : Value} {xs ys : List Value} (h : Apt u v) (ho : w.ownsRow base e size u n xs) (k : Gw w v v' w8) : w8.ownsRow base e size u n xs ∧ Apt u v' := by
  refine ⟨World.ownsRow.kept ho k.1 ?_, fun j hj hj' => ?_⟩
  · cases hu : u.ownBlock with
    | none => exact .inl rfl
    | some x => exact .inr (fun e => h x hu e.symm)
  · rcases k.2 with k2 | ⟨g, k2, k3⟩
    · exact h j hj (k2.symm.trans hj')
    · rw [k2] at hj'
      cases hj'
      have := (World.ownsRow.lt ho j hj).2
      omega
structure TrR (w : World) (g : Nat) (a : Option Addr) (c : Nat) (b : List Int) (k : Nat) (tv cv ev : Value) (s : Int) (t : Tp.Tr) (wr : World) : Prop where
  p : PlB wr g 75 a c b k [tv, cv, ev, .int .i64 s]
  ot : wr.ownsRow w.heap.size 80 4 tv t.ticks.length (tkC t.ticks)
  oc : wr.ownsRow w.heap.size 3 1 cv t.counts.length (nmC t.counts)
  oe : wr.ownsRow w.heap.size 96 2 ev t.events.length (evC t.events)
  dtc : Apt tv cv
  dte : Apt tv ev
  dce : Apt cv ev
  bl : w.grownBy wr (some g)
  lo : g < w.heap.size
section
variable {w wr wq w8 : World} {g : Nat} {a : Option Addr} {c : Nat} {b : List Int} {k k' : Nat} {tv cv ev v8 : Value} {s : Int} {t : Tp.Tr}
theorem own_gb {base size n : Nat} {e : TypeId} {v : Value} {xs : List Value} (h : wr.ownsRow base e size v n xs) (q : wr.grownBy wq (some g)) (hg : g < base) : wq.ownsRow base e size v n xs := by
  refine World.ownsRow.kept h q ?_
  cases hv : v.ownBlock with
  | none => exact .inl rfl
  | some x => exact .inr (fun e => by have := (World.ownsRow.lt h x hv).1; simp at e; omega)
theorem TrR.later (h : TrR w g a c b k tv cv ev s t wr) (q : Below wr.heap.size wr wq) : TrR w g a c b k tv cv ev s t wq :=
  ⟨h.p.later (q.mono h.p.lt), ownLtT h.ot q, ownLtT h.oc q, ownLtT h.oe q, h.dtc, h.dte, h.dce, gbT h.bl (gbOf q), h.lo⟩
theorem TrR.go (h : TrR w g a c b k tv cv ev s t wr) (q : PlQ g 75 a c b [tv, cv, ev, .int .i64 s] wr k' wq) : TrR w g a c b k' tv cv ev s t wq :=
  ⟨q.1, own_gb h.ot q.2 h.lo, own_gb h.oc q.2 h.lo, own_gb h.oe q.2 h.lo, h.dtc, h.dte, h.dce, gbT h.bl q.2, h.lo⟩
theorem TrR.cells (h : TrR w g a c b k tv cv ev s t wr) : wr.cell? ⟨g, 2, none⟩ = some tv ∧ wr.cell? ⟨g, 3, none⟩ = some cv ∧ wr.cell? ⟨g, 4, none⟩ = some ev ∧ wr.cell? ⟨g, 5, none⟩ = some (.int .i64 s) := by
  refine ⟨?_, ?_, ?_, ?_⟩ <;> simp [World.cell?, h.p.hb]
theorem TrR.gbG {v v' : Value} (h : TrR w g a c b k tv cv ev s t wr) (k8 : Gw wr v v' w8) (hv : ∀ j, v.ownBlock = some j → w.heap.size ≤ j) : w.grownBy w8 (some g) :=
  ⟨k8.1.os.trans h.bl.os, k8.1.tape.trans h.bl.tape, k8.1.output.trans h.bl.output, Nat.le_trans h.bl.size k8.1.size, fun i hi hn => (k8.1.block i (Nat.lt_of_lt_of_le hi h.bl.size) (fun e => by have := hv i e.symm; omega)).trans (h.bl.block i hi hn)⟩
/-- A row has grown, but does not yet lie in the box. -/
theorem TrR.grT {n : Nat} {xs : List Value} (h : TrR w g a c b k tv cv ev s t wr) (o8 : w8.ownsRow w.heap.size 80 4 v8 n xs) (k8 : Gw wr tv v8 w8) {x : Tp.Tk} (hn : n = t.ticks.length + 1) (hx : xs = tkC (t.ticks ++ [x])) : w8.cell? ⟨g, 2, none⟩ = some tv ∧ w8.frozen? ⟨g, 2, none⟩ = false ∧ TrR w g a c b k v8 cv ev s ⟨t.ticks ++ [x], t.counts, t.events⟩ (w8.setCell ⟨g, 2, none⟩ v8) := by
  have hv : ∀ j, tv.ownBlock = some j → w.heap.size ≤ j := fun j hj => (World.ownsRow.lt h.ot j hj).1
  have hlo := h.lo
  have p8 := h.p.grow k8 (fun j hj => by have := hv j hj; omega)
  obtain ⟨c1, c2⟩ := (h.dtc.symm).kept (m := 0) (sz := 0) (e' := 0) (ys := []) h.oc k8
  obtain ⟨e1, e2⟩ := (h.dte.symm).kept (m := 0) (sz := 0) (e' := 0) (ys := []) h.oe k8
  obtain ⟨s1, s2⟩ := p8.setR 0 v8
  subst hn hx
  refine ⟨by simp [World.cell?, p8.hb], p8.fz 2, s1, ?_, own_gb c1 s2 hlo, own_gb e1 s2 hlo, c2.symm, e2.symm, h.dce, gbT (h.gbG k8 hv) s2, hlo⟩
  have := own_gb o8 s2 hlo
  simpa using this
theorem TrR.grC {n : Nat} {xs : List Value} (h : TrR w g a c b k tv cv ev s t wr) (o8 : w8.ownsRow w.heap.size 3 1 v8 n xs) (k8 : Gw wr cv v8 w8) {x : Int} (hn : n = t.counts.length + 1) (hx : xs = nmC (t.counts ++ [x])) : w8.cell? ⟨g, 3, none⟩ = some cv ∧ w8.frozen? ⟨g, 3, none⟩ = false ∧ TrR w g a c b k tv v8 ev s ⟨t.ticks, t.counts ++ [x], t.events⟩ (w8.setCell ⟨g, 3, none⟩ v8) := by
  have hv : ∀ j, cv.ownBlock = some j → w.heap.size ≤ j := fun j hj => (World.ownsRow.lt h.oc j hj).1
  have hlo := h.lo
  have p8 := h.p.grow k8 (fun j hj => by have := hv j hj; omega)
  obtain ⟨c1, c2⟩ := (h.dtc).kept (m := 0) (sz := 0) (e' := 0) (ys := []) h.ot k8
  obtain ⟨e1, e2⟩ := (h.dce.symm).kept (m := 0) (sz := 0) (e' := 0) (ys := []) h.oe k8
  obtain ⟨s1, s2⟩ := p8.setR 1 v8
  subst hn hx
  refine ⟨by simp [World.cell?, p8.hb], p8.fz 3, s1, own_gb c1 s2 hlo, ?_, own_gb e1 s2 hlo, c2, h.dte, e2.symm, gbT (h.gbG k8 hv) s2, hlo⟩
  have := own_gb o8 s2 hlo
  simpa using this
theorem TrR.grE {n : Nat} {xs : List Value} (h : TrR w g a c b k tv cv ev s t wr) (o8 : w8.ownsRow w.heap.size 96 2 v8 n xs) (k8 : Gw wr ev v8 w8) {x : Tp.Ev} (hn : n = t.events.length + 1) (hx : xs = evC (t.events ++ [x])) : w8.cell? ⟨g, 4, none⟩ = some ev ∧ w8.frozen? ⟨g, 4, none⟩ = false ∧ TrR w g a c b k tv cv v8 s ⟨t.ticks, t.counts, t.events ++ [x]⟩ (w8.setCell ⟨g, 4, none⟩ v8) := by
  have hv : ∀ j, ev.ownBlock = some j → w.heap.size ≤ j := fun j hj => (World.ownsRow.lt h.oe j hj).1
  have hlo := h.lo
  have p8 := h.p.grow k8 (fun j hj => by have := hv j hj; omega)
  obtain ⟨c1, c2⟩ := (h.dte).kept (m := 0) (sz := 0) (e' := 0) (ys := []) h.ot k8
  obtain ⟨e1, e2⟩ := (h.dce).kept (m := 0) (sz := 0) (e' := 0) (ys := []) h.oc k8
  obtain ⟨s1, s2⟩ := p8.setR 2 v8
  subst hn hx
  refine ⟨by simp [World.cell?, p8.hb], p8.fz 4, s1, own_gb c1 s2 hlo, own_gb e1 s2 hlo, ?_, h.dtc, c2, e2, gbT (h.gbG k8 hv) s2, hlo⟩
  have := own_gb o8 s2 hlo
  simpa using this
theorem TrR.setS (h : TrR w g a c b k tv cv ev s t wr) (x : Int) : TrR w g a c b k tv cv ev x t (wr.setCell ⟨g, 5, none⟩ (.int .i64 x)) := by
  obtain ⟨s1, s2⟩ := h.p.setR 3 (.int .i64 x)
  exact ⟨s1, own_gb h.ot s2 h.lo, own_gb h.oc s2 h.lo, own_gb h.oe s2 h.lo, h.dtc, h.dte, h.dce, gbT h.bl s2, h.lo⟩
theorem TrR.setK (h : TrR w g a c b k tv cv ev s t wr) (hk : k' ≤ b.length) : TrR w g a c b k' tv cv ev s t (wr.setCell ⟨g, 1, none⟩ (.int .i64 k')) := h.go (h.p.set hk)
end
end Go.Proofs.Ytgonadilbjfpkaa
