/- VmEnds, walked: a machine ends behind as many ticks as it has fuel, at most; its last event, and no other, is an end. -/
/- Layer 9: VmRuns walked: any codes run, tick by tick, as the document says. -/
/- Layer 9: codes copied one by one, and written over. -/
/- Layer 9: what VmOwn calls. -/
import Derived.Test.YtkjkiknpgggadaaDoorSVmOh
import Derived.Test.YtkjkiknpgggadaaDoorSVmOj
import Derived.Test.YtkjkiknpgggadaaDoorSVmPa
import Derived.Deep.DeepAppendWide
namespace Go.Proofs.YtkjkiknpgggadaaDoor
open Go.RowKit
set_option linter.unusedVariables false
set_option linter.unusedSimpArgs false

theorem fw_le {f : Int} {n : Nat} (h : VmArg (Vm.fw f) n) : 0 ≤ Vm.fw f ∧ Vm.fw f ≤ 200 := by
  obtain ⟨h1, h2, _⟩ := h
  refine ⟨h1, ?_⟩
  unfold Vm.fw at h1 h2 ⊢
  split
  · omega
  · rename_i hn
    rw [if_neg hn] at h2
    omega
end Go.Proofs.YtkjkiknpgggadaaDoor

namespace Go.Proofs.YtkjkiknpgggadaaDoor
open Go.RowKit
set_option linter.unusedVariables false
set_option linter.unusedSimpArgs false

structure RnI (B0 m lo r : Nat) (w : World) (gk : Nat) (V : VmV) (M : Vm.Mc) (U : RmV) (R : Vm.Rm) (wr : World) : Prop where
  t : Two B0 m lo r wr V M U R
  b : Below B0 w wr
  sm : Vm.Sm M R
  rb : Vm.RB R
  rc : Vm.Rcl R
  on : R.ended = false → (∃ G, M = Vm.abs R G) ∧ Vm.RW Cd.top R
  ev : R.events.length + gk * 1048577 ≤ 900000000
  ms : R.ended = false → R.fuel.toNat + 1 ≤ gk
theorem RnI.later {B0 m lo r : Nat} {w : World} {gk : Nat} {V : VmV} {M : Vm.Mc} {U : RmV} {R : Vm.Rm} {wr w' : World} (h : RnI B0 m lo r w gk V M U R wr) (b : Below wr.heap.size wr w') : RnI B0 m lo r w gk V M U R w' :=
  ⟨h.t.later b, h.b.trans (b.mono (by have := h.t.v.lm; have := h.t.v.lt; omega)), h.sm, h.rb, h.rc, h.on, h.ev, h.ms⟩
theorem RnI.step {B0 m lo r : Nat} {w : World} {gO : Nat} {V V' : VmV} {M : Vm.Mc} {U U' : RmV} {R : Vm.Rm} {wr w1 w2 : World} (h : RnI B0 m lo r w (gO + 1) V M U R wr) (hr : R.ended = false) (v' : VmO B0 m w1 V' (Vm.step M)) (f : Frm m wr w1 V V') (u' : RmO B0 lo r w1 U R → RmO B0 lo r w2 U' (Vm.rstep R).1 ∧ RFrm r w1 w2 U R U' (Vm.rstep R).1) : RnI B0 m lo r w gO V' (Vm.step M) U' (Vm.rstep R).1 w2 := by
  obtain ⟨⟨G, hG⟩, wf⟩ := h.on hr
  have s := Vm.stp wf hr h.rb h.rc G
  have t1 := h.t.left v' f
  obtain ⟨u1, u2⟩ := u' t1.u
  have t2 := t1.right u1 u2
  have bm := h.t.v.lm
  have lr : B0 ≤ r := Nat.le_trans h.t.u.bl h.t.u.lm
  refine ⟨t2, (h.b.trans (f.b.mono bm)).trans (u2.b.mono lr), by rw [hG]; exact s.sm, s.rb, s.rc, fun he => ?_, ?_, fun he => ?_⟩
  · obtain ⟨a1, a2, _⟩ := s.on he
    exact ⟨⟨G, by rw [hG]; exact a1⟩, a2⟩
  · have := h.ev
    have := s.ev
    omega
  · obtain ⟨_, _, a3, a4⟩ := s.on he
    have := h.ms hr
    omega
end Go.Proofs.YtkjkiknpgggadaaDoor

namespace Go.Proofs.YtkjkiknpgggadaaDoor
open Go.RowKit
set_option linter.unusedVariables false
set_option linter.unusedSimpArgs false

def Wr (w : World) (a : Option Addr) (n lo hi : Nat) : Prop := n = 0 ∨ ∃ g cur t, a = some ⟨g, 0, none⟩ ∧ lo ≤ g ∧ g < hi ∧ w.heap[g]? = some (.cells cur t (0, 0)) ∧ n ≤ cur.size
theorem own_wr {w : World} {base n sz cap : Nat} {e : TypeId} {a : Option Addr} {xs : List Value} (h : w.ownsRow base e sz (.slice a n cap) n xs) : Wr w a (n * sz) base w.heap.size := by
  have hl := h.lt
  rcases h.2 with ⟨e1, e0⟩ | ⟨g, cap', cur, e1, hb, hh, h1, h2, h3, h4⟩
  · exact .inl (by rw [e0]; omega)
  · obtain ⟨e2, _, e3⟩ := Value.slice.inj e1
    subst e2
    refine .inr ⟨g, cur, e, rfl, hb, (hl g rfl).2, hh, ?_⟩
    rw [h3]
    exact Nat.mul_le_mul_right _ h1
theorem Wr.set {w : World} {a : Option Addr} {n lo hi : Nat} (h : Wr w a n lo hi) (g' i : Nat) (u : Value) : Wr (w.setCell ⟨g', i, none⟩ u) a n lo hi := by
  rcases h with h | ⟨g, cur, t, e, h1, h2, h3, h4⟩
  · exact .inl h
  · by_cases hg : g' = g
    · subst hg
      exact .inr ⟨g', _, t, e, h1, h2, heap_setCell_same _ _ _ _ _ _ h3, by simpa using h4⟩
    · exact .inr ⟨g, cur, t, e, h1, h2, (heap_setCell_other _ _ g _ (by simp; omega)).trans h3, h4⟩
theorem Wr.of {w w' : World} {a : Option Addr} {n lo hi : Nat} (h : Wr w a n lo hi) (k : ∀ b, lo ≤ b → b < hi → w'.heap[b]? = w.heap[b]?) {lo' hi' : Nat} (h1 : lo' ≤ lo) (h2 : hi ≤ hi') : Wr w' a n lo' hi' := by
  rcases h with h | ⟨g, cur, t, e, a1, a2, a3, a4⟩
  · exact .inl h
  · exact .inr ⟨g, cur, t, e, by omega, by omega, (k g a1 a2).trans a3, a4⟩
theorem Wr.at {w : World} {a : Option Addr} {n lo hi i : Nat} (h : Wr w a n lo hi) (ht : i < n) : ∃ g u, a = some ⟨g, 0, none⟩ ∧ lo ≤ g ∧ g < hi ∧ g < w.heap.size ∧ w.cell? ⟨g, i, none⟩ = some u ∧ w.frozen? ⟨g, i, none⟩ = false := by
  rcases h with h | ⟨g, cur, t, e, a1, a2, a3, a4⟩
  · omega
  · refine ⟨g, cur[i]'(by omega), e, a1, a2, (Array.getElem?_eq_some_iff.1 a3).1, ?_, ?_⟩
    · simp [World.cell?, a3, show i < cur.size by omega]
    · simp [World.frozen?, a3]
structure OwI (w : World) (l : List Cd.Co) (k : Nat) (qs : List Lc) (v : Value) (wr : World) : Prop where
  b : Below w.heap.size w wr
  eq : qs.map Lc.c = l.take k
  row : wr.ownsRow w.heap.size 41 4 v k (LcS qs)
  hi : ∀ q ∈ qs, InW w.heap.size wr.heap.size wr q.ia q.c.ins ∧ q.c.ins.length ≤ q.ic ∧ Wr wr q.ia (q.c.ins.length * 3) w.heap.size wr.heap.size ∧ ∀ g, q.ia = some ⟨g, 0, none⟩ → g < wr.heap.size ∧ ¬ v.ownBlock = some g
theorem OwI.zero {w : World} {l : List Cd.Co} : OwI w l 0 [] (.slice none 0 0) w := ⟨Below.refl _ _, by simp, World.ownsRow_nil _ _ _ _, fun q hq => by cases hq⟩
theorem OwI.step {w : World} {l : List Cd.Co} {k : Nat} {qs : List Lc} {v : Value} {wr : World} (h : OwI w l k qs v wr) {c : Cd.Co} (hc : l[k]? = some c) {ia : Option Addr} {ic : Nat} {W1 X w8 : World} (b1 : Below wr.heap.size wr W1) (rw1 : W1.ownsRow wr.heap.size 47 3 (.slice ia c.ins.length ic) c.ins.length (InX c.ins)) (hcl : c.ins.length ≤ 1000000000000000) (hX : Below W1.heap.size W1 X) {v8 : Value} (h8 : w8.ownsRow w.heap.size 41 4 v8 (k + 1) (LcS qs ++ [.slice ia c.ins.length ic, .int .i64 c.cells, .int .i64 c.params, .bool c.ans])) (g8 : X.grownBy w8 v.ownBlock) (o8 : v8.ownBlock = v.ownBlock ∨ ∃ g, v8.ownBlock = some g ∧ X.heap.size ≤ g) : OwI w l (k + 1) (qs ++ [⟨ia, ic, c⟩]) v8 w8 := by
  have bX : Below wr.heap.size wr X := b1.trans (hX.mono b1.size)
  have hlt : k < l.length := (List.getElem?_eq_some_iff.1 hc).1
  have vlt : ∀ g, v.ownBlock = some g → w.heap.size ≤ g ∧ g < wr.heap.size := fun g e => h.row.lt g e
  have kp : ∀ b, b < X.heap.size → ¬ v.ownBlock = some b → w8.heap[b]? = X.heap[b]? := fun b hb hn => g8.block b hb (fun e => hn e.symm)
  have sz : wr.heap.size ≤ w8.heap.size := Nat.le_trans bX.size g8.size
  refine ⟨h.b.trans ⟨g8.os.trans bX.os, g8.tape.trans bX.tape, g8.output.trans bX.output, sz, fun b hb => ?_⟩, ?_, ?_, fun q hq => ?_⟩
  · have := h.b.size
    have := bX.size
    exact (kp b (by omega) (fun e => by have := (vlt b e).1; omega)).trans (bX.block b (by omega))
  · rw [List.map_append, h.eq, List.take_add_one, hc]
    rfl
  · rw [LcS_app]
    exact h8
  · rcases List.mem_append.1 hq with hq | hq
    · obtain ⟨a1, a2, a3, a4⟩ := h.hi q hq
      have same : ∀ g, q.ia = some ⟨g, 0, none⟩ → w8.heap[g]? = wr.heap[g]? := fun g e => by
        obtain ⟨e1, e2⟩ := a4 g e
        have := bX.size
        exact (kp g (by omega) e2).trans (bX.block g e1)
      have w3 : Wr w8 q.ia (q.c.ins.length * 3) w.heap.size w8.heap.size := by
        rcases a3 with a3 | ⟨g, cur, t, e, b1, b2, b3, b4⟩
        · exact .inl a3
        · exact .inr ⟨g, cur, t, e, b1, by omega, (same g e).trans b3, b4⟩
      refine ⟨⟨a1.1, fun h0 => ?_⟩, a2, w3, fun g e => ?_⟩
      · obtain ⟨g, o, e, c1, c2, c3⟩ := a1.2 h0
        obtain ⟨g', cur, t, e', _⟩ : ∃ g cur t, q.ia = some ⟨g, 0, none⟩ ∧ w.heap.size ≤ g ∧ g < wr.heap.size ∧ wr.heap[g]? = some (.cells cur t (0, 0)) ∧ q.c.ins.length * 3 ≤ cur.size := by
          rcases a3 with a3 | a3
          · omega
          · exact a3
        rw [e'] at e
        obtain ⟨hg, ho⟩ : g' = g ∧ 0 = o := by simpa using e
        rw [← hg] at c1 c2
        rw [← hg, ← ho] at c3
        refine ⟨g', 0, e', c1, by omega, fun j i hj => ?_⟩
        have r := c3 j i hj
        have s := same g' e'
        exact ⟨(World.cell?_of_block (a := ⟨g', _, none⟩) s).trans r.c0, (World.cell?_of_block (a := ⟨g', _, none⟩) s).trans r.c1, (World.cell?_of_block (a := ⟨g', _, none⟩) s).trans r.c2⟩
      · obtain ⟨e1, e2⟩ := a4 g e
        refine ⟨by omega, fun e3 => ?_⟩
        rcases o8 with o | ⟨g', o, hg'⟩
        · exact e2 (o.symm.trans e3)
        · rw [o] at e3
          cases e3
          have := bX.size
          omega
    · rw [List.mem_singleton.1 hq]
      have s1 := rw1.lt
      have same : ∀ g, ia = some ⟨g, 0, none⟩ → wr.heap.size ≤ g ∧ g < W1.heap.size ∧ w8.heap[g]? = W1.heap[g]? := fun g e => by
        subst e
        have q := s1 g rfl
        refine ⟨q.1, q.2, ?_⟩
        have := hX.size
        exact (kp g (by omega) (fun e => by have := (vlt g e).2; omega)).trans (hX.block g q.2)
      obtain ⟨a', cap', e1, h4, inw⟩ := own_inW rw1 rfl hcl
      obtain ⟨ea, _, ec⟩ := Value.slice.inj e1
      subst ea
      subst ec
      have hb1 := h.b.size
      have wr1 : Wr w8 ia (c.ins.length * 3) w.heap.size w8.heap.size := by
        rcases own_wr rw1 with a3 | ⟨g, cur, t, e, b1', b2, b3, b4⟩
        · exact .inl a3
        · obtain ⟨q1, q2, q3⟩ := same g e
          have := hX.size
          have := g8.size
          exact .inr ⟨g, cur, t, e, by omega, by omega, q3.trans b3, b4⟩
      refine ⟨⟨inw.1, fun h0 => ?_⟩, h4, wr1, fun g e => ?_⟩
      · have h0' : 0 < c.ins.length := h0
        obtain ⟨g, o, e, c1, c2, c3⟩ := inw.2 h0
        obtain ⟨g', cur, t, e', _⟩ : ∃ g cur t, ia = some ⟨g, 0, none⟩ ∧ w.heap.size ≤ g ∧ g < w8.heap.size ∧ w8.heap[g]? = some (.cells cur t (0, 0)) ∧ c.ins.length * 3 ≤ cur.size := by
          rcases wr1 with a3 | a3
          · omega
          · exact a3
        rw [e'] at e
        obtain ⟨hg, ho⟩ : g' = g ∧ 0 = o := by simpa using e
        rw [← hg] at c1 c2
        rw [← hg, ← ho] at c3
        obtain ⟨q1, q2, q3⟩ := same g' e'
        have := hX.size
        have := g8.size
        refine ⟨g', 0, e', by omega, by omega, fun j i hj => ?_⟩
        have r := c3 j i hj
        exact ⟨(World.cell?_of_block (a := ⟨g', _, none⟩) q3).trans r.c0, (World.cell?_of_block (a := ⟨g', _, none⟩) q3).trans r.c1, (World.cell?_of_block (a := ⟨g', _, none⟩) q3).trans r.c2⟩
      · obtain ⟨q1, q2, q3⟩ := same g e
        have := hX.size
        have := g8.size
        refine ⟨by omega, fun e3 => ?_⟩
        rcases o8 with o | ⟨g', o, hg'⟩
        · have := (vlt g (o.symm.trans e3)).2
          omega
        · rw [o] at e3
          cases e3
          omega
theorem OwI.done {w : World} {l : List Cd.Co} {qs : List Lc} {v : Value} {wr : World} (h : OwI w l l.length qs v wr) (hb : l.length ≤ 1000000000000000) : ∃ a cap, v = .slice a l.length cap ∧ CoS wr.heap.size wr a l := by
  have hc := @World.ownsRow.cells _ _ _ _ _ _ _ h.row
  have hl := h.row.lt
  have heq := h.eq
  rw [List.take_length] at heq
  rcases h.row.2 with ⟨hv, h1⟩ | ⟨g, cap, cur, hv, hbg, _, hcap, _⟩
  · exact ⟨none, 0, by rw [hv, h1], by omega, fun h0 => by omega⟩
  · refine ⟨_, cap, hv, by omega, fun _ => ⟨g, 0, rfl, (hl g (by rw [hv]; rfl)).2, fun j c hj => ?_⟩⟩
    have hj' := hj
    rw [← heq, List.getElem?_map] at hj'
    obtain ⟨p, hp, rfl⟩ := Option.map_eq_some_iff.1 hj'
    obtain ⟨a0, a1, a2, a3⟩ := LcS_get _ _ _ hp
    have q := h.hi p (List.mem_of_getElem? hp)
    have get := fun j u hu => @hc g (by rw [hv]; rfl) j u hu
    refine ⟨p.ia, p.ic, ?_, ?_, ?_, ?_, q.1.s, q.2.1⟩
    · have := get _ _ a0; rw [adM] at this; exact this
    · have := get _ _ a1; rw [adM] at this; rw [Nat.add_assoc]; exact this
    · have := get _ _ a2; rw [adM] at this; rw [Nat.add_assoc]; exact this
    · have := get _ _ a3; rw [adM] at this; rw [Nat.add_assoc]; exact this
structure MtI (lo hi : Nat) (W0 : World) (qs : List Lc) (g : Nat) (wr : World) : Prop where
  b : Below lo W0 wr
  sz : wr.heap.size = W0.heap.size
  k : ∀ b, hi ≤ b → wr.heap[b]? = W0.heap[b]?
  m : wr.heap[g]? = W0.heap[g]?
  w : ∀ q ∈ qs, Wr wr q.ia (q.c.ins.length * 3) lo hi ∧ ∀ x, q.ia = some ⟨x, 0, none⟩ → x ≠ g
theorem MtI.set {lo hi : Nat} {W0 : World} {qs : List Lc} {g : Nat} {wr : World} (h : MtI lo hi W0 qs g wr) {x : Nat} (h1 : lo ≤ x) (h2 : x < hi) (h3 : x ≠ g) (i : Nat) (u : Value) : MtI lo hi W0 qs g (wr.setCell ⟨x, i, none⟩ u) :=
  ⟨h.b.trans ⟨rfl, rfl, rfl, by simp, fun j hj => heap_setCell_other _ _ j _ (by simp; omega)⟩, by simpa using h.sz, fun b hb => (heap_setCell_other _ _ b _ (by simp; omega)).trans (h.k b hb), (heap_setCell_other _ _ g _ (by simp; omega)).trans h.m, fun q hq => ⟨(h.w q hq).1.set x i u, (h.w q hq).2⟩⟩
end Go.Proofs.YtkjkiknpgggadaaDoor

namespace Go.Proofs.YtkjkiknpgggadaaDoor
open Go.RowKit
set_option linter.unusedVariables false
set_option linter.unusedSimpArgs false

theorem app_noneIn (W : World) (xa : Option Addr) (xc : Nat) (ty : TypeId) : (Builtin.append_ #[39, 39] ty #[.slice none 0 0, .slice xa 0 xc]).run Tryd.prog W = .ok (.slice none 0 0) W := by
  obtain ⟨i0, hi, hz0, hz1, hz2⟩ := info_parts infIn
  refine run_append_nothing W _ _ ty 47 i0 Tryd.underlying39 hi none 0 0 (Nat.le_refl _) _ ?_
  cases xa with
  | none => exact Src.ofNil W Tryd.underlying39 xc
  | some x => exact Src.ofSlice W Tryd.underlying39 x 0 xc [] (by simp) (by simp) (by simp)
theorem inRun (W : World) (ia : Option Addr) (ic : Nat) (inp : List Int) (hi : NuS W.heap.size W ia inp) (hb : inp.length ≤ 1000) (ty : TypeId) : ∃ (a2 : Option Addr) (c2 : Nat) (w2 : World), (Builtin.append_ #[23, 23] ty #[.slice none 0 0, .slice ia inp.length ic]).run Tryd.prog W = .ok (.slice a2 inp.length c2) w2 ∧ w2.ownsRow W.heap.size 2 1 (.slice a2 inp.length c2) inp.length (nC inp) ∧ Below W.heap.size W w2 ∧ (a2 = none → c2 = 0) := by
  rcases Nat.eq_zero_or_pos inp.length with h0 | h0
  · have e : inp = [] := List.length_eq_zero_iff.1 h0
    subst e
    exact ⟨none, 0, W, app_none64 W none 0 0 (Nat.le_refl _) ia ic ty, World.ownsRow_nil _ _ _ _, Below.refl _ _, fun _ => rfl⟩
  · obtain ⟨i0, hi0, hz0, hz1, hz2⟩ := info_parts info64
    obtain ⟨g, o, rfl, hg, hc⟩ := hi h0
    obtain ⟨v', w', h1, h2, h3, _⟩ := run_append_own_wide (P := Tryd.prog) W W.heap.size 23 ty 2 i0 (.int .i64 0) 1 8 Tryd.underlying23 hi0 hz0 hz1 hz2 rfl (by decide) (.slice none 0 0) 0 [] (World.ownsRow_nil _ _ _ _) ⟨g, o, none⟩ inp.length ic (nC inp) (by simp [nC]) (nC_at hc) (nC_one _) (by unfold maxLen; omega) (by omega) (Nat.le_refl _)
    have h2' : w'.ownsRow W.heap.size 2 1 v' inp.length (nC inp) := by simpa using h2
    obtain ⟨a2, c2, e⟩ := own_shp h2'
    subst e
    refine ⟨a2, c2, w', h1, h2', grn_none h3, fun e => ?_⟩
    subst e
    rcases h2'.2 with ⟨e, _⟩ | ⟨_, _, _, e, _⟩
    · exact (Value.slice.inj e).2.2
    · cases e
theorem newAny (B : Nat) (w : World) (la ia : Option Addr) (lc ic : Nat) (l : List Cd.Co) (inp : List Int) (main fuel : Int) (h : CdH B w la l) (hi : NuS w.heap.size w ia inp) (hin : ia = none → ic = 0) : Calls Tryd.prog 11 #[.slice la l.length lc, .int .i64 main, .slice ia inp.length ic, .int .i64 fuel] w fun e w' => ∃ (pk : Option Addr) (er : Int), e = .returned (.tuple #[.pointer pk, .int .i64 er]) ∧ Hid (Below w.heap.size w w' ∧ ∀ (p : Nat) (c : Cd.Co), main = p → Cd.Snd Cd.top l p → l[p]? = some c → VmArg fuel inp.length → er = 0 ∧ ∃ r U, pk = some ⟨r, 0, none⟩ ∧ RmO B w.heap.size r w' U (Vm.rini l p c.cells.toNat inp fuel)) := by
  by_cases hs : Cd.Snd Cd.top l main
  · by_cases ha : VmArg fuel inp.length
    · obtain ⟨p, hp⟩ : ∃ p : Nat, main = p := ⟨main.toNat, by have := hs.2.1; omega⟩
      subst hp
      obtain ⟨c, hc⟩ : ∃ c, l[p]? = some c := by
        obtain ⟨_, _, ⟨c, hc, _⟩, _⟩ := hs
        exact ⟨c, by rw [Int.toNat_natCast] at hc; exact hc⟩
      refine (rNewR B w la ia lc ic l inp p c fuel h hi hin hs hc ha).mono fun e w' ⟨r, U, h1, h2, h3⟩ => ⟨_, _, h1, h3, fun p' c' e1 _ e3 _ => ?_⟩
      obtain rfl : p = p' := by omega
      rw [hc] at e3
      cases e3
      exact ⟨rfl, r, U, rfl, h2⟩
    · exact (rNewA B w la ia lc ic l inp main fuel h hs ha).mono fun e w' ⟨h1, h2⟩ => ⟨_, _, h1, h2, fun _ _ _ _ _ h => absurd h ha⟩
  · exact (rNewC B w la ia lc ic l inp main fuel h hs).mono fun e w' ⟨h1, h2⟩ => ⟨_, _, h1, h2, fun p _ e h _ _ => absurd (e ▸ h) hs⟩
theorem cells4 {W : World} {b : Nat} {v0 v1 v2 v3 : Value} (h0 : W.cell? ⟨b, 0, none⟩ = some v0) (h1 : W.cell? ⟨b, 1, none⟩ = some v1) (h2 : W.cell? ⟨b, 2, none⟩ = some v2) (h3 : W.cell? ⟨b, 3, none⟩ = some v3) : ∀ (j : Nat) u, [v0, v1, v2, v3][j]? = some u → W.cell? ((⟨b, 0, none⟩ : Addr).add j) = some u := fun j u hj => by
  rw [adM, Nat.zero_add]
  match j, hj with
  | 0, hj => simp at hj; subst hj; exact h0
  | 1, hj => simp at hj; subst hj; exact h1
  | 2, hj => simp at hj; subst hj; exact h2
  | 3, hj => simp at hj; subst hj; exact h3
  | n + 4, hj => simp at hj
theorem coBx_at (w : World) (c : Cd.Co) (ia : Option Addr) (ic cb : Nat) (W : World) (hcb : cb = w.heap.size) (hW : W = w.alloc (coBx c ia ic)) : W.heap[cb]? = some (.cells #[.slice ia c.ins.length ic, .int .i64 c.cells, .int .i64 c.params, .bool c.ans] 41 (0, 0)) ∧ Below w.heap.size w W := by
  subst hW hcb
  exact ⟨alloc_at w _, (Below.refl _ _).alloc (Nat.le_refl _) _⟩
theorem frAny {B0 m lo r : Nat} {w : World} {gk : Nat} {V : VmV} {M : Vm.Mc} {U : RmV} {R : Vm.Rm} {X : World} (h : RnI B0 m lo r w gk V M U R X) : Calls Tryd.prog 14 #[.pointer (some ⟨m, 0, none⟩), .int .i64 0] X fun e w' => ∃ (p mk : Int) (a : Option Addr) (n c : Nat) (b : Bool), e = .returned (.tuple #[.int .i64 p, .int .i64 mk, .slice a n c, .bool b]) ∧ Hid (Wr w' a n X.heap.size w'.heap.size ∧ Below X.heap.size X w' ∧ n ≤ 65536) := by
  cases hf : R.frames[0]? with
  | some g =>
    have q := oFrameW B0 m X V M R 0 g h.t.v h.sm h.rc hf
    refine q.mono fun e w' ⟨a, c, h1, h2, h3⟩ => ⟨_, _, a, _, c, true, h1, ?_, h3, ?_⟩
    · have := own_wr h2
      rw [Nat.mul_one] at this
      exact this
    · obtain ⟨c, hc, hk⟩ := h.rc.fr g (List.mem_of_getElem? hf)
      have := h.rc.ce c (List.mem_of_getElem? hc)
      omega
  | none =>
    have e0 : R.frames.length = 0 := by
      have := List.getElem?_eq_none_iff.1 hf
      omega
    obtain ⟨s, G, e⟩ := h.sm
    have e1 : M.frames.length = 0 := by rw [e]; exact (Vm.frs_len 0 R.frames).trans e0
    have q := oFrameB B0 m X V M h.t.v (by omega)
    rw [e1] at q
    exact q.mono fun e w' ⟨h1, h2⟩ => ⟨_, _, _, _, _, _, h1, .inl rfl, h2, by omega⟩
theorem evAny {B0 m lo r : Nat} {w : World} {gk : Nat} {V : VmV} {M : Vm.Mc} {U : RmV} {R : Vm.Rm} {X : World} (h : RnI B0 m lo r w gk V M U R X) : Calls Tryd.prog 13 #[.pointer (some ⟨m, 0, none⟩)] X fun e w' => ∃ (a : Option Addr) (n c : Nat), e = .returned (.slice a n c) ∧ Hid (Wr w' a (n * 2) X.heap.size w'.heap.size ∧ Below X.heap.size X w' ∧ n ≤ 1000000000) := by
  obtain ⟨s, G, e⟩ := h.sm
  have hb : M.events.length ≤ 1000000000 := by rw [e]; show R.events.length ≤ _; have := h.ev; omega
  exact (vmEventsW m X V (M.gh ⟨X, VOwn V, B0⟩) h.t.v.re hb).mono fun e w' ⟨a, c, h1, h2, h3⟩ => ⟨a, _, c, h1, own_wr h2, h3, hb⟩
theorem MtI.two {W0 wx : World} {lo hi m l2 r B0 : Nat} {qs : List Lc} {g : Nat} {V : VmV} {M : Vm.Mc} {U : RmV} {R : Vm.Rm} {W3 : World} (h : MtI lo hi W0 qs g wx) (v : VmO hi m W3 V M) (b : Below W3.heap.size W3 W0) (u : RmO B0 l2 r W0 U R) (h1 : B0 ≤ lo) (h2 : W3.heap.size ≤ l2) (h3 : hi ≤ W3.heap.size) (h4 : B0 ≤ hi) : Two B0 m l2 r wx V M U R := by
  have v0 := v.later b
  have v1 : VmO hi m wx V M := v0.keep fun b s => h.k b (v0.sup_ge s)
  have u1 : RmO B0 l2 r wx U R := u.keep (h.b.mono h1) fun b s => h.k b (by
    rcases s with s | s
    · omega
    · have := (u.own_lt s).1
      have := u.lm
      omega)
  refine ⟨v1.lower h4, u1, fun k a1 a2 a3 => ?_⟩
  have hk : k < W3.heap.size := by
    rcases a2 with a2 | a2
    · have := v.lt; omega
    · exact (v.own_lt a2).2
  rcases a3 with a3 | a3
  · omega
  · have := (u.own_lt a3).1
    have := u.lm
    omega
end Go.Proofs.YtkjkiknpgggadaaDoor

