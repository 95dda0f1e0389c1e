/- Layer 9: the program's Events and Frame answer in memory of their own. -/
import Derived.Test.YtkjkiknpgggadaaDoorSVmOi
import Derived.Deep.RegionHeld3
import Derived.BigQuiet
namespace Go.Proofs.YtkjkiknpgggadaaDoor
open Go.RowKit
set_option linter.unusedVariables false
set_option linter.unusedSimpArgs false

theorem own_low {w : World} {base base' n sz : Nat} {e : TypeId} {v : Value} {xs : List Value} (h : w.ownsRow base e sz v n xs) (hb : base' ≤ base) : w.ownsRow base' e sz v n xs := by
  refine ⟨h.1, ?_⟩
  rcases h.2 with h0 | ⟨g, cap, cur, e1, hbb, hh, h1⟩
  · exact .inl h0
  · exact .inr ⟨g, cap, cur, e1, by omega, hh, h1⟩
def FrW (w : World) (p mk : Int) (l : List Int) (e : Ending) (w' : World) : Prop := ∃ a c, e = .returned (.tuple #[.int .i64 p, .int .i64 mk, .slice a l.length c, .bool true]) ∧ w'.ownsRow w.heap.size 2 1 (.slice a l.length c) l.length (nC l) ∧ Below w.heap.size w w'
set_option maxRecDepth 100000 in
set_option maxHeartbeats 8000000 in
theorem vmFrameW (m : Nat) (w : World) (V : VmV) (M : Vm.Mc) (j : Nat) (f : Vm.Fr) (c : Cd.Co) (k : Nat) (h : VmS m w V M) (hj : M.frames[j]? = some f) (hc : M.codes[f.proc]? = some c) (hk : c.cells = k) (hb : f.base + k ≤ M.cells.length) (hl : M.cells.length ≤ 100000000) (hfl : M.frames.length ≤ 1000) :
    Calls Tryd.prog 14 #[.pointer (some ⟨m, 0, none⟩), .int .i64 j] w (FrW w f.proc f.mark ((M.cells.drop f.base).take k)) := by
  have hlen : ((M.cells.drop f.base).take k).length = k := by rw [List.length_take, List.length_drop]; omega
  have hjl := (List.getElem?_eq_some_iff.1 hj).1
  have EF : Hid (Calls Tryd.prog 19 #[.pointer (some ⟨m, 0, none⟩)] w fun e w' => e = .returned (.int .i64 M.frames.length) ∧ Below w.heap.size w w') := vmFrames m w V M h
  have HCT : Hid (∀ X, Below w.heap.size w X → Calls Tryd.prog 43 #[.pointer (some ⟨m, 0, none⟩), .agg #[.int .i64 f.proc, .int .i64 f.place, .int .i64 f.mark, .int .i64 f.base]] X fun e w' => ∃ a cp, e = .returned (.slice a k cp) ∧ Below X.heap.size X w' ∧ (a = none → k = 0) ∧ ∀ ad, a = some ad → ∀ j u, (nC ((M.cells.drop f.base).take k))[j]? = some u → w'.cell? (ad.add j) = some u) := fun X hX => vmCellsT m X V M f c k (h.later hX) hc hk hb hl
  have hkb : k ≤ 100000000 := by omega
  have c10 := h.cell.2.2.2.2.2.2.1
  have ho : w.ownsRow (m + 1) 70 4 V.fv M.frames.length (Vm.frC M.frames) := h.rows.oc
  obtain ⟨g, cap, hv, hcap⟩ : ∃ g cap, V.fv = .slice (some ⟨g, 0, none⟩) M.frames.length cap ∧ M.frames.length ≤ cap := by
    rcases ho.2 with ⟨_, e0⟩ | ⟨g, cap, cur, e, hb2, hh, h1, _⟩
    · omega
    · exact ⟨g, cap, e, h1⟩
  rw [hv] at c10 ho
  have hg := (World.ownsRow.lt ho g rfl).2
  have cel : ∀ i u, ([Value.int .i64 f.proc, .int .i64 f.place, .int .i64 f.mark, .int .i64 f.base] : List Value)[i]? = some u → w.cell? ⟨g, j * 4 + i, none⟩ = some u := fun i u hu => by
    have hi : i < 4 := by have := (List.getElem?_eq_some_iff.1 hu).1; simpa using this
    have e1 : (Vm.frC M.frames)[j * 4 + i]? = some u := by
      have es : M.frames = M.frames.take j ++ f :: M.frames.drop (j + 1) := by
        have := List.getElem_cons_drop hjl
        rw [show M.frames[j] = f from (List.getElem?_eq_some_iff.1 hj).2] at this
        rw [this, List.take_append_drop]
      have el : (M.frames.take j).length = j := by rw [List.length_take]; omega
      rw [es, Vm.frC_app, List.getElem?_append_right (by rw [Vm.frC_len, el]; omega), Vm.frC_len, el, Nat.add_sub_cancel_left]
      show ([Value.int .i64 f.proc, .int .i64 f.place, .int .i64 f.mark, .int .i64 f.base] ++ Vm.frC (M.frames.drop (j + 1)))[i]? = _
      rw [List.getElem?_append_left (by simpa using hi)]
      exact hu
    have := ho.cells (g := g) rfl (j * 4 + i) u e1
    rw [adM, Nat.zero_add] at this
    exact this
  have f0 := cel 0 _ rfl
  have f1 := cel 1 _ rfl
  have f2 := cel 2 _ rfl
  have f3 := cel 3 _ rfl
  rw [Nat.add_zero] at f0
  have hml := h.lt
  obtain ⟨nf, hnf⟩ : ∃ nf, nf = M.frames.length := ⟨_, rfl⟩
  rw [← hnf] at EF c10 hjl
  have hji : (j : Int) < (nf : Int) := by omega
  have hj0 : ¬ (j : Int) < 0 := by omega
  have hj1 : (0 : Int) ≤ (j : Int) := by omega
  have hj2 : ¬ (j : Int) ≥ (nf : Int) := by omega
  have dj : decide ((nf : Int) ≤ (j : Int)) = false := decide_eq_false (by omega)
  have dj2 : decide (nf ≤ j) = false := decide_eq_false (by omega)
  unfold FrW
  rw [hlen]
  have HLN := (show Hid (((M.cells.drop f.base).take k).length = k) from hlen)
  clear h hj hc hk hb hl ho hv cel hnf hlen
  go_enter Tryd.func14, Tryd.ntmps14
  go_wp2_with fail
  refine Calls.mono EF.out ?_
  rintro e1 w1 ⟨rfl, b1⟩
  have d10 := (b1.cell (p := ⟨m, 10, none⟩) hml).trans c10
  have g0 := (b1.cell (p := ⟨g, j * 4, none⟩) hg).trans f0
  have g1 := (b1.cell (p := ⟨g, j * 4 + 1, none⟩) hg).trans f1
  have g2 := (b1.cell (p := ⟨g, j * 4 + 2, none⟩) hg).trans f2
  have g3 := (b1.cell (p := ⟨g, j * 4 + 3, none⟩) hg).trans f3
  obtain ⟨W2, hW2⟩ : ∃ W2, W2 = w1.alloc (frB f) := ⟨_, rfl⟩
  obtain ⟨fb, hfb⟩ : ∃ fb, fb = w1.heap.size := ⟨_, rfl⟩
  have x2 : W2.heap[fb]? = some (.cells #[.int .i64 f.proc, .int .i64 f.place, .int .i64 f.mark, .int .i64 f.base] 70 (0, 0)) := by rw [hW2, hfb]; exact alloc_at w1 _
  have hfl2 : fb < W2.heap.size := (Array.getElem?_eq_some_iff.1 x2).1
  have t0 : W2.cell? ⟨fb, 0, none⟩ = some (.int .i64 f.proc) := by simp [World.cell?, x2]
  have t1 : W2.cell? ⟨fb, 1, none⟩ = some (.int .i64 f.place) := by simp [World.cell?, x2]
  have t2 : W2.cell? ⟨fb, 2, none⟩ = some (.int .i64 f.mark) := by simp [World.cell?, x2]
  have t3 : W2.cell? ⟨fb, 3, none⟩ = some (.int .i64 f.base) := by simp [World.cell?, x2]
  have BW : Hid (Below w.heap.size w W2) := b1.trans (by rw [hW2]; exact ((Below.refl w1.heap.size w1).alloc (Nat.le_refl _) _).mono b1.size)
  clear x2 b1 EF c10 f0 f1 f2 f3
  go_upto_region 4 with fail
  rw [← hW2, ← hfb]
  clear hW2 hfb d10 g0 g1 g2 g3
  have EC2 : Hid (∀ X, Below W2.heap.size W2 X → Calls Tryd.prog 43 #[.pointer (some ⟨m, 0, none⟩), .agg #[.int .i64 f.proc, .int .i64 f.place, .int .i64 f.mark, .int .i64 f.base]] X fun e w' => ∃ a cp, e = .returned (.slice a k cp) ∧ w'.cell? ⟨fb, 0, none⟩ = some (.int .i64 f.proc) ∧ w'.cell? ⟨fb, 2, none⟩ = some (.int .i64 f.mark) ∧ Hid (Below W2.heap.size W2 w' ∧ (a = none → k = 0) ∧ ∀ ad, a = some ad → ∀ j u, (nC ((M.cells.drop f.base).take k))[j]? = some u → w'.cell? (ad.add j) = some u)) := fun X hX => (HCT.out X (BW.out.trans (hX.mono BW.out.size))).mono fun e w' ⟨a, cp, h1, h2, h3, h4⟩ => by
    have hb2 : Below W2.heap.size W2 w' := hX.trans (h2.mono hX.size)
    exact ⟨a, cp, h1, (hb2.cell hfl2).trans t0, (hb2.cell hfl2).trans t2, hb2, h3, h4⟩
  have EL2 : Hid (∀ X a cp, Below W2.heap.size W2 X → (a = none → k = 0) → (∀ ad, a = some ad → ∀ j u, (nC ((M.cells.drop f.base).take k))[j]? = some u → X.cell? (ad.add j) = some u) → Calls Tryd.prog 42 #[.slice a k cp] X fun e w' => ∃ a' c', e = .returned (.slice a' k c') ∧ w'.cell? ⟨fb, 0, none⟩ = some (.int .i64 f.proc) ∧ w'.cell? ⟨fb, 2, none⟩ = some (.int .i64 f.mark) ∧ Hid (w'.ownsRow w.heap.size 2 1 (.slice a' k c') k (nC ((M.cells.drop f.base).take k)) ∧ Below w.heap.size w w')) := fun X a cp hX ha hx => by
    have hXw := BW.out.trans (hX.mono BW.out.size)
    refine (cloneNu X a k cp (nC ((M.cells.drop f.base).take k)) ha (by have := HLN.out; simp only [nC, List.length_map]; omega) hx (nC_one _) (by omega)).mono fun e w' ⟨v', h1, h2, h3⟩ => ?_
    obtain ⟨a', c', e'⟩ := own_shp h2
    rw [e'] at h2
    have h2' : w'.ownsRow w.heap.size 2 1 (.slice a' k c') k (nC ((M.cells.drop f.base).take k)) := own_low h2 hXw.size
    have hb2 : Below W2.heap.size W2 w' := hX.trans (h3.mono hX.size)
    exact ⟨a', c', by rw [h1, e'], (hb2.cell hfl2).trans t0, (hb2.cell hfl2).trans t2, h2', hXw.trans (h3.mono hXw.size)⟩
  clear HCT
  go_region_with (first
    | (go_at_call 43; refine Calls.mono (EC2.out _ (by go_grown)) ?_; rintro e5 w5 ⟨a5, c5, rfl, s0, s2, A5⟩)
    | (go_at_call 42; refine Calls.mono (EL2.out _ _ _ A5.out.1 A5.out.2.1 A5.out.2.2) ?_; rintro e6 w6 ⟨a6, c6, rfl, r0, r2, A6⟩))
  all_goals
    go_wp2_with fail
    refine bodyPost_ret (v := .tuple #[.int .i64 f.proc, .int .i64 f.mark, .slice a6 k c6, .bool true]) (by simp [results, Tryd.results14, go_sem]) rfl ?_
    exact ⟨a6, c6, rfl, A6.out.1, A6.out.2⟩
theorem oFrameW (B0 m : Nat) (w : World) (V : VmV) (M : Vm.Mc) (R : Vm.Rm) (j : Nat) (g : Vm.Rf) (h : VmO B0 m w V M) (sm : Vm.Sm M R) (rc : Vm.Rcl R) (hj : R.frames[j]? = some g) : Calls Tryd.prog 14 #[.pointer (some ⟨m, 0, none⟩), .int .i64 j] w (FrW w g.proc g.mark g.cells) := by
  obtain ⟨s, G, e⟩ := sm
  obtain ⟨f1, t, f2⟩ := Vm.frs_at 0 R.frames j g hj
  obtain ⟨c, hc, hk⟩ := rc.fr g (List.mem_of_getElem? hj)
  have e1 : M.frames = Vm.frs 0 R.frames := by rw [e]; rfl
  have e2 : M.cells = Vm.fce R.frames := by rw [e]; rfl
  have e3 : M.codes = R.codes := by rw [e]; rfl
  have ln := Vm.fce_len rc R.frames fun _ h => h
  have n50 := rc.n50
  have ln2 : R.frames.length * 65536 ≤ 50 * 65536 := Nat.mul_le_mul_right _ n50
  have q := vmFrameW m w V (M.gh ⟨w, VOwn V, B0⟩) j ⟨g.proc, g.place, g.mark, 0 + (Vm.fce (R.frames.take j)).length⟩ c g.cells.length h.re (by show M.frames[j]? = _; rw [e1]; exact f1) (by show M.codes[_]? = _; rw [e3]; exact hc) hk.symm (by show _ ≤ M.cells.length; rw [e2, f2, List.length_append, List.length_append]; show 0 + _ + _ ≤ _; omega) (by show M.cells.length ≤ _; rw [e2]; omega) (by show M.frames.length ≤ _; rw [e1, Vm.frs_len]; omega)
  have e4 : ((M.gh ⟨w, VOwn V, B0⟩).cells.drop (0 + (Vm.fce (R.frames.take j)).length)).take g.cells.length = g.cells := by
    show (M.cells.drop _).take _ = _
    rw [e2, f2, Nat.zero_add, List.drop_left, List.take_left]
  rw [e4] at q
  exact q
set_option maxRecDepth 100000 in
set_option maxHeartbeats 4000000 in
theorem vmEventsW (m : Nat) (w : World) (V : VmV) (M : Vm.Mc) (h : VmS m w V M) (hb : M.events.length ≤ 1000000000) : Calls Tryd.prog 13 #[.pointer (some ⟨m, 0, none⟩)] w fun e w' => ∃ a c, e = .returned (.slice a M.events.length c) ∧ w'.ownsRow w.heap.size 50 2 (.slice a M.events.length c) M.events.length (Vm.evC M.events) ∧ Below w.heap.size w w' := by
  have ho : w.ownsRow (m + 1) 50 2 V.ev M.events.length (Vm.evC M.events) := h.rows.ob
  obtain ⟨sa, sc, hv⟩ := own_shp ho
  have c9 := h.cell.2.2.2.2.2.1
  rw [hv] at c9 ho
  have EC : Hid (Calls Tryd.prog 41 #[.slice sa M.events.length sc] w fun e w' => ∃ a c, e = .returned (.slice a M.events.length c) ∧ w'.ownsRow w.heap.size 50 2 (.slice a M.events.length c) M.events.length (Vm.evC M.events) ∧ Below w.heap.size w w') := by
    refine (cloneEv w sa M.events.length sc (Vm.evC M.events) (fun e => ?_) (evC_len _) (fun ad e => ?_) (evC_one _) (by omega)).mono fun e w' ⟨v', h1, h2, h3⟩ => ?_
    · subst e
      rcases ho.2 with ⟨_, e0⟩ | ⟨_, _, _, e, _⟩
      · exact e0
      · cases e
    · subst e
      rcases ho.2 with ⟨e, _⟩ | ⟨g, cap, cur, e, _⟩
      · cases e
      · cases e
        exact fun j u hu => @World.ownsRow.cells _ _ _ _ _ _ _ ho g rfl j u hu
    · obtain ⟨a, cap, e1⟩ := own_shp h2
      rw [e1] at h2
      exact ⟨a, cap, by rw [h1, e1], h2, h3⟩
  obtain ⟨n, hn⟩ : ∃ n, n = M.events.length := ⟨_, rfl⟩
  rw [← hn] at EC c9 ⊢
  clear h ho hv hb hn
  go_enter Tryd.func13, Tryd.ntmps13
  go_wp2_with fail
  refine Calls.mono EC.out ?_
  rintro e1 w1 ⟨a, c, rfl, h1, h2⟩
  have FIN : Hid (∃ a' c', Ending.returned (.slice a n c) = .returned (.slice a' n c') ∧ w1.ownsRow w.heap.size 50 2 (.slice a' n c') n (Vm.evC M.events) ∧ Below w.heap.size w w1) := ⟨a, c, rfl, h1, h2⟩
  clear h1 h2 EC c9
  go_wp2_with fail
  go_ret
  first
    | exact FIN.out
    | simpa using FIN.out
end Go.Proofs.YtkjkiknpgggadaaDoor

