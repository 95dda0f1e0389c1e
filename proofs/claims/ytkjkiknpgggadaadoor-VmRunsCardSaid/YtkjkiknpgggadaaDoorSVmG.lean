/- Layer 9: any number of rows that lie apart (for the document's machine). -/
/- Layer 9: mark, leave, readNumber. -/
import Derived.Test.YtkjkiknpgggadaaDoorSVmF
namespace Go.Proofs.YtkjkiknpgggadaaDoor
open Go.RowKit
set_option linter.unusedVariables false
set_option linter.unusedSimpArgs false

/-- Rows that lie apart, above base. -/
structure RwL (G : Gh) (w : World) (base : Nat) (L : List Rw) : Prop where
  own : ∀ x ∈ L, x.Own w base
  apt : L.Pairwise (fun a b => Apt a.v b.v)
  gk : Gk G base w
  gn : ∀ x ∈ L, Gn G x.v
theorem RwL.later {G : Gh} {w w' : World} {base : Nat} {L : List Rw} (h : RwL G w base L) (y : Below w.heap.size w w') : RwL G w' base L :=
  ⟨fun x hx => own_lat (h.own x hx) y, h.apt, h.gk.later y, h.gn⟩
theorem RwL.sub {G : Gh} {w : World} {base : Nat} {L L' : List Rw} (h : RwL G w base L) (s : L'.Sublist L) : RwL G w base L' :=
  ⟨fun x hx => h.own x (s.subset hx), h.apt.sublist s, h.gk, fun x hx => h.gn x (s.subset hx)⟩
/-- A cell below is set. -/
theorem RwL.below {G : Gh} {w : World} {m k : Nat} {L : List Rw} (h : RwL G w (m + 1) L) (u : Value) : RwL G (w.setCell ⟨m, k, none⟩ u) (m + 1) L :=
  ⟨fun x hx => ownsRow_setCell_below (h.own x hx) (by simp) _, h.apt, ⟨by simpa using h.gk.sz, fun j hj n nb => (heap_setCell_other _ _ j _ (by simp; omega)).trans (h.gk.eq j hj n nb)⟩, h.gn⟩
theorem apt_mid {A C : List Rw} {x : Rw} (h : (A ++ x :: C).Pairwise (fun a b => Apt a.v b.v)) : (∀ y ∈ A, Apt x.v y.v) ∧ (∀ y ∈ C, Apt x.v y.v) := by
  rw [List.pairwise_append] at h
  obtain ⟨_, h2, h3⟩ := h
  rw [List.pairwise_cons] at h2
  exact ⟨fun y hy => (h3 y hy x (List.mem_cons_self ..)).symm, h2.1⟩
theorem apt_set {A C : List Rw} {x x' : Rw} (h : (A ++ x :: C).Pairwise (fun a b => Apt a.v b.v)) (hA : ∀ y ∈ A, Apt x'.v y.v) (hC : ∀ y ∈ C, Apt x'.v y.v) : (A ++ x' :: C).Pairwise (fun a b => Apt a.v b.v) := by
  rw [List.pairwise_append, List.pairwise_cons] at h ⊢
  obtain ⟨h1, h2, h3⟩ := h
  refine ⟨h1, ⟨hC, h2.2⟩, fun y hy z hz => ?_⟩
  rcases List.mem_cons.1 hz with rfl | hz
  · exact (hA y hy).symm
  · exact h3 y hy z (List.mem_cons_of_mem _ hz)
theorem mem_mid {A C : List Rw} {x y : Rw} (h : y ∈ A ++ x :: C) : y = x ∨ y ∈ A ∨ y ∈ C := by
  rcases List.mem_append.1 h with h | h
  · exact .inr (.inl h)
  · rcases List.mem_cons.1 h with h | h
    · exact .inl h
    · exact .inr (.inr h)
/-- A row grows. -/
theorem RwL.grow {G : Gh} {w X w8 : World} {base : Nat} {A C : List Rw} {x : Rw} (h : RwL G w base (A ++ x :: C)) (y : Below w.heap.size w X) {v' : Value} {n' : Nat} {xs' : List Value} (h8 : w8.ownsRow base x.e x.sz v' n' xs') (g8 : X.grownBy w8 x.v.ownBlock) (o8 : v'.ownBlock = x.v.ownBlock ∨ ∃ g, v'.ownBlock = some g ∧ X.heap.size ≤ g) : RwL G w8 base (A ++ ⟨x.e, x.sz, v', n', xs'⟩ :: C) := by
  have h1 := h.later y
  have hx : x ∈ A ++ x :: C := by simp
  obtain ⟨aA, aC⟩ := apt_mid h1.apt
  have kp : ∀ z, z ∈ A ++ x :: C → Apt x.v z.v → z.Own w8 base := fun z hz hA => Rw.kept (h1.own z hz) g8 (fun k e e2 => hA k e2 e)
  have apt : ∀ z, z ∈ A ++ x :: C → Apt x.v z.v → Apt v' z.v := fun z hz hA g e e2 => by
    rcases o8 with o | ⟨k, o, hk⟩
    · exact hA g (o.symm.trans e) e2
    · rw [o] at e
      cases e
      have := (World.ownsRow.lt (h1.own z hz) _ e2).2
      omega
  have iA : ∀ z, z ∈ A → z ∈ A ++ x :: C := fun z hz => List.mem_append.2 (.inl hz)
  have iC : ∀ z, z ∈ C → z ∈ A ++ x :: C := fun z hz => List.mem_append.2 (.inr (List.mem_cons_of_mem _ hz))
  refine ⟨fun z hz => ?_, apt_set h1.apt (fun z hz => apt z (iA z hz) (aA z hz)) (fun z hz => apt z (iC z hz) (aC z hz)), ⟨Nat.le_trans h1.gk.sz g8.size, fun k hk n nb => (g8.block k (Nat.lt_of_lt_of_le hk h1.gk.sz) (fun e => ?_)).trans (h1.gk.eq k hk n nb)⟩, fun z hz => ?_⟩
  · rcases mem_mid hz with rfl | hz | hz
    · exact h8
    · exact kp z (iA z hz) (aA z hz)
    · exact kp z (iC z hz) (aC z hz)
  · rcases h1.gn x hx k e.symm with e2 | e2
    · exact nb e2
    · omega
  · rcases mem_mid hz with rfl | hz | hz
    · intro k e
      rcases o8 with o | ⟨k', o, hk'⟩
      · exact h1.gn x hx k (o.symm.trans e)
      · dsimp only at e
        rw [o] at e
        cases e
        exact .inr (Nat.le_trans h1.gk.sz hk')
    · exact h1.gn z (iA z hz)
    · exact h1.gn z (iC z hz)
/-- A row is cut. -/
theorem RwL.cut {G : Gh} {w : World} {base : Nat} {A C : List Rw} {x : Rw} (h : RwL G w base (A ++ x :: C)) {v' : Value} {n' : Nat} {xs' : List Value} (h8 : w.ownsRow base x.e x.sz v' n' xs') (o8 : ∀ g, v'.ownBlock = some g → x.v.ownBlock = some g) : RwL G w base (A ++ ⟨x.e, x.sz, v', n', xs'⟩ :: C) := by
  obtain ⟨aA, aC⟩ := apt_mid h.apt
  refine ⟨fun z hz => ?_, apt_set h.apt (fun z hz g e => aA z hz g (o8 g e)) (fun z hz g e => aC z hz g (o8 g e)), h.gk, fun z hz => ?_⟩
  · rcases mem_mid hz with rfl | hz | hz
    · exact h8
    · exact h.own z (List.mem_append.2 (.inl hz))
    · exact h.own z (List.mem_append.2 (.inr (List.mem_cons_of_mem _ hz)))
  · rcases mem_mid hz with rfl | hz | hz
    · exact fun k e => h.gn x (by simp) k (o8 k e)
    · exact h.gn z (List.mem_append.2 (.inl hz))
    · exact h.gn z (List.mem_append.2 (.inr (List.mem_cons_of_mem _ hz)))
/-- A cell of a row is set. -/
theorem RwL.put {G : Gh} {w : World} {base : Nat} {A C : List Rw} {x : Rw} {g cap i : Nat} (h : RwL G w base (A ++ x :: C)) (hv : x.v = .slice (some ⟨g, 0, none⟩) x.n cap) (hi : i < x.n * x.sz) (u : Value) : RwL G (w.setCell ⟨g, i, none⟩ u) base (A ++ ⟨x.e, x.sz, x.v, x.n, x.xs.set i u⟩ :: C) := by
  have hg : x.v.ownBlock = some g := by rw [hv]; rfl
  have hx : x ∈ A ++ x :: C := by simp
  obtain ⟨aA, aC⟩ := apt_mid h.apt
  have oth : ∀ z : Rw, z.Own w base → Apt x.v z.v → z.Own (w.setCell ⟨g, i, none⟩ u) base := fun z hz hA => ownsRow_setCell_other hz (fun e => hA g hg e) _
  refine ⟨fun z hz => ?_, apt_set h.apt aA aC, ⟨by simpa using h.gk.sz, fun j hj n nb => (heap_setCell_other _ _ j _ (fun e => ?_)).trans (h.gk.eq j hj n nb)⟩, fun z hz => ?_⟩
  · rcases mem_mid hz with rfl | hz | hz
    · have := h.own x hx
      unfold Rw.Own at this ⊢
      dsimp only
      rw [hv] at this ⊢
      exact own_setc this hi u
    · exact oth z (h.own z (List.mem_append.2 (.inl hz))) (aA z hz)
    · exact oth z (h.own z (List.mem_append.2 (.inr (List.mem_cons_of_mem _ hz)))) (aC z hz)
  · simp at e
    subst e
    rcases h.gn x hx _ hg with e2 | e2
    · exact nb e2
    · omega
  · rcases mem_mid hz with rfl | hz | hz
    · exact h.gn x hx
    · exact h.gn z (List.mem_append.2 (.inl hz))
    · exact h.gn z (List.mem_append.2 (.inr (List.mem_cons_of_mem _ hz)))
/-- A row more, in a new block or in none. -/
theorem RwL.add {G : Gh} {w w' : World} {base : Nat} {L : List Rw} (h : RwL G w base L) (y : Below w.heap.size w w') {x : Rw} (hx : x.Own w' base) (hn : ∀ g, x.v.ownBlock = some g → w.heap.size ≤ g) : RwL G w' base (L ++ [x]) := by
  have h1 := h.later y
  refine ⟨fun z hz => ?_, ?_, h1.gk, fun z hz => ?_⟩
  · rcases List.mem_append.1 hz with hz | hz
    · exact h1.own z hz
    · rw [List.mem_singleton.1 hz]
      exact hx
  · rw [List.pairwise_append]
    refine ⟨h1.apt, List.pairwise_singleton _ _, fun a ha b hb g e1 e2 => ?_⟩
    rw [List.mem_singleton.1 hb] at e2
    have q1 := hn g e2
    have q2 := (World.ownsRow.lt (h.own a ha) g e1).2
    omega
  · rcases List.mem_append.1 hz with hz | hz
    · exact h1.gn z hz
    · rw [List.mem_singleton.1 hz]
      exact fun k e => .inr (Nat.le_trans h.gk.sz (hn k e))
/-- The blocks of rows. -/
def LOwn (L : List Rw) (k : Nat) : Prop := ∃ x ∈ L, x.v.ownBlock = some k
theorem RwL.regh {G : Gh} {w : World} {base : Nat} {L : List Rw} (h : RwL G w base L) (lo : Nat) : RwL ⟨w, LOwn L, lo⟩ w base L :=
  ⟨h.own, h.apt, ⟨Nat.le_refl _, fun _ _ _ _ => rfl⟩, fun x hx k e => .inl ⟨x, hx, e⟩⟩
theorem RwL.keep {G : Gh} {w w' : World} {base lo : Nat} {L : List Rw} (h : RwL G w base L) (k : ∀ b, LOwn L b → w'.heap[b]? = w.heap[b]?) : RwL ⟨w', LOwn L, lo⟩ w' base L := by
  refine ⟨fun x hx => ?_, h.apt, ⟨Nat.le_refl _, fun _ _ _ _ => rfl⟩, fun x hx k e => .inl ⟨x, hx, e⟩⟩
  have o := h.own x hx
  refine ⟨o.1, ?_⟩
  rcases o.2 with h0 | ⟨g, cap, cur, e, hb, hh, h1⟩
  · exact .inl h0
  · exact .inr ⟨g, cap, cur, e, hb, (k g ⟨x, hx, by rw [e]; rfl⟩).trans hh, h1⟩
end Go.Proofs.YtkjkiknpgggadaaDoor

namespace Go.Proofs.YtkjkiknpgggadaaDoor
open Go.RowKit
set_option linter.unusedVariables false
set_option linter.unusedSimpArgs false

theorem VmQ.later {m : Nat} {w w1 w2 : World} {M : Vm.Mc} (h : VmQ m w w1 M) (b : Below w1.heap.size w1 w2) : VmQ m w w2 M := by
  obtain ⟨h1, V, h2⟩ := h
  exact ⟨h1.trans (b.mono (Nat.le_of_lt h2.lt)), V, h2.later b⟩
theorem VmS.setFu {m : Nat} {w : World} {V : VmV} {M : Vm.Mc} (h : VmS m w V M) (r : Int) : VmS m (w.setCell ⟨m, 3, none⟩ (.int .i64 r)) V { M with fuel := r } := ⟨heap_setCell_same _ _ _ _ _ _ h.box, h.rows.below _, h.co.later below_set, h.inp.later below_set⟩
theorem VmS.setTi {m : Nat} {w : World} {V : VmV} {M : Vm.Mc} (h : VmS m w V M) (r : Int) : VmS m (w.setCell ⟨m, 4, none⟩ (.int .i64 r)) V { M with ticks := r } := ⟨heap_setCell_same _ _ _ _ _ _ h.box, h.rows.below _, h.co.later below_set, h.inp.later below_set⟩
theorem VmS.setRd {m : Nat} {w : World} {V : VmV} {M : Vm.Mc} (h : VmS m w V M) (r : Nat) : VmS m (w.setCell ⟨m, 2, none⟩ (.int .i64 r)) V { M with read := r } := ⟨heap_setCell_same _ _ _ _ _ _ h.box, h.rows.below _, h.co.later below_set, h.inp.later below_set⟩
theorem VmS.setT4 {m : Nat} {w : World} {V : VmV} {M : Vm.Mc} (h : VmS m w V M) (a b c d : Int) : VmS m ((((w.setCell ⟨m, 5, none⟩ (.int .i64 a)).setCell ⟨m, 6, none⟩ (.int .i64 b)).setCell ⟨m, 7, none⟩ (.int .i64 c)).setCell ⟨m, 8, none⟩ (.int .i64 d)) V { M with t0 := a, t1 := b, t2 := c, t3 := d } := by
  have h1 : VmS m (w.setCell ⟨m, 5, none⟩ (.int .i64 a)) V { M with t0 := a } := ⟨heap_setCell_same _ _ _ _ _ _ h.box, h.rows.below _, h.co.later below_set, h.inp.later below_set⟩
  have h2 : VmS m ((w.setCell ⟨m, 5, none⟩ (.int .i64 a)).setCell ⟨m, 6, none⟩ (.int .i64 b)) V { M with t0 := a, t1 := b } := ⟨heap_setCell_same _ _ _ _ _ _ h1.box, h1.rows.below _, h1.co.later below_set, h1.inp.later below_set⟩
  have h3 : VmS m (((w.setCell ⟨m, 5, none⟩ (.int .i64 a)).setCell ⟨m, 6, none⟩ (.int .i64 b)).setCell ⟨m, 7, none⟩ (.int .i64 c)) V { M with t0 := a, t1 := b, t2 := c } := ⟨heap_setCell_same _ _ _ _ _ _ h2.box, h2.rows.below _, h2.co.later below_set, h2.inp.later below_set⟩
  exact ⟨heap_setCell_same _ _ _ _ _ _ h3.box, h3.rows.below _, h3.co.later below_set, h3.inp.later below_set⟩
theorem VmS.cell2 {m : Nat} {w : World} {V : VmV} {M : Vm.Mc} (h : VmS m w V M) : w.cell? ⟨m, 5, none⟩ = some (.int .i64 M.t0) ∧ w.cell? ⟨m, 6, none⟩ = some (.int .i64 M.t1) ∧ w.cell? ⟨m, 7, none⟩ = some (.int .i64 M.t2) ∧ w.cell? ⟨m, 8, none⟩ = some (.int .i64 M.t3) := by
  have := h.box
  refine ⟨?_, ?_, ?_, ?_⟩ <;> simp [World.cell?, this]
/-- What a mark does. -/
def Vm.mk (M : Vm.Mc) (fs : List Vm.Fr) (f : Vm.Fr) (i : Cd.In) : Vm.Mc := { M with fuel := M.fuel - 1, ticks := M.ticks + 1, frames := fs ++ [{ f with mark := i.n }], t0 := i.m, t1 := f.proc, t2 := i.n, t3 := fs.length + 1 }
set_option maxRecDepth 100000 in
set_option maxHeartbeats 8000000 in
theorem vmMark (m : Nat) (w : World) (V : VmV) (M : Vm.Mc) (fs : List Vm.Fr) (f : Vm.Fr) (i : Cd.In) (h : VmS m w V M) (hf : M.frames = fs ++ [f]) (hb : fs.length ≤ 1000000) (hfu : 1 ≤ M.fuel ∧ M.fuel ≤ 10000000) (hti : 0 ≤ M.ticks ∧ M.ticks ≤ 10000000) :
    Calls Tryd.prog 25 #[.pointer (some ⟨m, 0, none⟩), inV i] w fun e w' => e = .returned (.tuple #[]) ∧ VmQ m w w' (Vm.mk M fs f i) := by
  obtain ⟨W1, hW1⟩ : ∃ W1, W1 = w.alloc (inB i) := ⟨_, rfl⟩
  obtain ⟨ib, hib⟩ : ∃ ib, ib = w.heap.size := ⟨_, rfl⟩
  obtain ⟨b0, b1, b2, bw⟩ := in_box w i ib W1 hib hW1
  have hib1 : ib < W1.heap.size := by rw [hib, hW1]; simp
  have h1 : VmS m W1 V M := h.later bw
  have hmw := h.lt
  obtain ⟨g, cap, hv, hcap, hmg, hgl0, -⟩ := h.top hf
  have c3 := h1.cell.2.2.2.1
  have f3 := h1.frozen 3
  have h2 := h1.setFu (M.fuel - 1)
  have c4 := h2.cell.2.2.2.2.1
  have f4 := h2.frozen 4
  have h3 := h2.setTi (M.ticks + 1)
  obtain ⟨W3, hW3⟩ : ∃ W3, W3 = (W1.setCell ⟨m, 3, none⟩ (.int .i64 (M.fuel - 1))).setCell ⟨m, 4, none⟩ (.int .i64 (M.ticks + 1)) := ⟨_, rfl⟩
  rw [← hW3] at h3
  have B3 : Hid (Below m w W3) := by
    rw [hW3]
    exact ((bw.mono (Nat.le_of_lt hmw)).trans below_set).trans below_set
  have i1 : W3.cell? ⟨ib, 1, none⟩ = some (.int .i64 i.n) := by
    have k : W3.heap[ib]? = W1.heap[ib]? := by rw [hW3, heap_setCell_other _ _ ib _ (by simp; omega), heap_setCell_other _ _ ib _ (by simp; omega)]
    exact (World.cell?_of_block (w := W1) (a := ⟨ib, 1, none⟩) k).trans b1
  have i2 : W3.cell? ⟨ib, 2, none⟩ = some (.int .i64 i.m) := by
    have k : W3.heap[ib]? = W1.heap[ib]? := by rw [hW3, heap_setCell_other _ _ ib _ (by simp; omega), heap_setCell_other _ _ ib _ (by simp; omega)]
    exact (World.cell?_of_block (w := W1) (a := ⟨ib, 2, none⟩) k).trans b2
  have il3 : ib < W3.heap.size := by rw [hW3]; simpa using hib1
  have c10 := h3.cell.2.2.2.2.2.2.1
  try dsimp only at c10
  rw [hv] at c10
  have ET : Hid _ := vmTop m g fs.length cap W3 c10 hb
  have HH : Hid _ := h3
  have HF : Hid (M.frames = fs ++ [f]) := hf
  have HV : Hid (V.fv = .slice (some ⟨g, 0, none⟩) (fs.length + 1) cap) := hv
  obtain ⟨n, hn⟩ : ∃ n, n = fs.length := ⟨_, rfl⟩
  have HN : Hid (n = fs.length) := hn
  rw [← hn] at ET hb
  have ngi : ¬ g = ib := by omega
  have nmi : ¬ m = ib := by omega
  have nim : ¬ ib = m := by omega
  have nig : ¬ ib = g := by omega
  have ngm : ¬ g = m := by omega
  have nmg : ¬ m = g := by omega
  clear h h1 h2 h3 hf hv hn bw c10 hgl0
  go_enter Tryd.func25, Tryd.ntmps25
  go_upto_region 1 with fail
  rw [← hW1, ← hib]
  clear hW1 hib
  go_upto_region 3 with fail
  rw [← hW3]
  clear hW3 c3 f3 c4 f4 b0 b1 b2 hib1
  go_wp2_with fail
  refine Calls.mono ET.out ?_
  rintro e2 w2 ⟨rfl, q2, hq2⟩
  have y2 : Below W3.heap.size W3 w2 := by rw [hq2]; exact below_drewN (Below.refl _ _) q2
  have H2 := HH.out.later y2
  have B2 : Hid (Below m w w2) := B3.out.trans (y2.mono (Nat.le_of_lt HH.out.lt))
  have j1 := (y2.cell (p := ⟨ib, 1, none⟩) il3).trans i1
  have j2 := (y2.cell (p := ⟨ib, 2, none⟩) il3).trans i2
  clear hq2 y2 ET i1 i2 B3 HH
  obtain ⟨g', cap', hv', _, _, hgl, p0, p1, p2, p3, pf⟩ := H2.top HF.out
  have hv2 : V.fv = .slice (some ⟨g', 0, none⟩) (fs.length + 1) cap' := hv'
  rw [HV.out] at hv2
  cases hv2
  rw [← HN.out] at p0 p2
  have pf2 := pf (n * 4 + 2)
  have Q4 := H2.setM HF.out HV.out hmg i.n
  rw [← HN.out] at Q4
  obtain ⟨W4, hW4⟩ : ∃ W4, W4 = w2.setCell ⟨g, n * 4 + 2, none⟩ (.int .i64 i.n) := ⟨_, rfl⟩
  rw [← hW4] at Q4
  obtain ⟨g', cap', hv', _, _, hgl4, p0', p1', p2', p3', pf'⟩ := Q4.2.top rfl
  have hv2 : V.fv = .slice (some ⟨g', 0, none⟩) (fs.length + 1) cap' := hv'
  rw [HV.out] at hv2
  cases hv2
  rw [← HN.out] at p0' p2'
  have c10 := Q4.2.cell.2.2.2.2.2.2.1
  try dsimp only at c10 p0' p2'
  rw [HV.out, ← HN.out] at c10
  obtain ⟨d5, d6, d7, d8⟩ := Q4.2.cell2
  have f5 := Q4.2.frozen 5
  have f6 := Q4.2.frozen 6
  have f7 := Q4.2.frozen 7
  have f8 := Q4.2.frozen 8
  have k4 : W4.heap[ib]? = w2.heap[ib]? := by rw [hW4]; exact heap_setCell_other _ _ ib _ (by simp; omega)
  have l2 := (World.cell?_of_block (w := w2) (a := ⟨ib, 2, none⟩) k4).trans j2
  have FIN : Hid (VmQ m w ((((W4.setCell ⟨m, 5, none⟩ (.int .i64 i.m)).setCell ⟨m, 6, none⟩ (.int .i64 (f.proc : Int))).setCell ⟨m, 7, none⟩ (.int .i64 i.n)).setCell ⟨m, 8, none⟩ (.int .i64 ((n : Int) + 1))) (Vm.mk M fs f i)) := by
    have hq := Q4.2.setT4 i.m (f.proc : Int) i.n ((n : Int) + 1)
    refine ⟨((((B2.out.trans Q4.1).trans below_set).trans below_set).trans below_set).trans below_set, V, ?_⟩
    unfold Vm.mk
    rw [← HN.out]
    exact hq
  clear Q4 H2 B2 pf pf' p1 p3 p1' p3'
  go_upto_region 5 with fail
  rw [← hW4]
  clear hW4 k4 p0 p2 pf2 j1 j2 hgl il3
  go_region
  all_goals
    go_wp2_with fail
    go_end0
    exact ⟨rfl, FIN.out.later ⟨rfl, rfl, rfl, Nat.le_refl _, fun _ _ => rfl⟩⟩
end Go.Proofs.YtkjkiknpgggadaaDoor

