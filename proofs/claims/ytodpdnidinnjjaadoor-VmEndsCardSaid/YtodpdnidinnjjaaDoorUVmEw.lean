/- VmEnds, walked: a machine ends behind as many ticks as it has fuel, at most; its last event, and no other, is an end. -/
import Derived.Test.YtodpdnidinnjjaaDoorUVmRo
namespace Go.Proofs.YtodpdnidinnjjaaDoor
open Go.RowKit
set_option linter.unusedVariables false
set_option linter.unusedSimpArgs false

theorem fw_le {f : Int} {n : Nat} (h : VmArg (Vm.fw f) n) : 0 ≤ Vm.fw f ∧ Vm.fw f ≤ 200 := by
  obtain ⟨h1, h2, _⟩ := h
  refine ⟨h1, ?_⟩
  unfold Vm.fw at h1 h2 ⊢
  split
  · omega
  · rename_i hn
    rw [if_neg hn] at h2
    omega
/-- A row of events whose last one, and no other, is an end. -/
structure EvE (l : List (Int × Int)) : Prop where
  pos : 0 < l.length
  mid : ∀ (k : Nat) e, l[k]? = some e → (3 ≤ e.1 ↔ k + 1 = l.length)
theorem EvE.of {t : List (Int × Int)} {e : Int × Int} (h : ∀ x ∈ t, x.1 < 3) (he : 3 ≤ e.1) : EvE (t ++ [e]) := by
  refine ⟨by simp, fun k x hk => ?_⟩
  rw [List.length_append, List.length_singleton]
  by_cases hkt : k < t.length
  · rw [List.getElem?_append_left hkt] at hk
    have := h x (List.mem_of_getElem? hk)
    omega
  · have hkl := (List.getElem?_eq_some_iff.1 hk).1
    rw [List.length_append, List.length_singleton] at hkl
    have e0 : k = t.length := by omega
    subst e0
    simp at hk
    subst hk
    omega
set_option maxRecDepth 100000 in
set_option maxHeartbeats 16000000 in
theorem ends9_walk (la : Option Addr) (l : List Cd.Co) (lc : Nat) (main : Int) (ia : Option Addr) (inp : List Int) (ic : Nat) (fuel : Int) (B : Nat) (w : World) (hB : B ≤ w.heap.size) (tn : Tn B w) (tm : Tm B w) (hco : CoS w.heap.size w la l) (hok : ∀ d, d ∈ l → d.Ok) (hi : NuS w.heap.size w ia inp) (hin : ia = none → ic = 0) :
    Calls Tryd.prog 4 #[.slice la l.length lc, .int .i64 main, .slice ia inp.length ic, .int .i64 fuel] w fun e w' => e = .returned (.bool true) ∧ Below w.heap.size w w' := by
  have EB : Hid _ := both9 w.heap.size w la ia lc ic l inp main fuel ⟨Nat.le_refl _, hco, hok, tn.mono hB, tm.mono hB⟩ hi hin
  have EK : Hid (∀ X, Below w.heap.size w X → Calls Tryd.prog 10 #[] X fun e w' => e = .returned (.bool true) ∧ Below X.heap.size X w') := fun X hX => known9 B X (Nat.le_trans hB hX.size) (tn.later (hX.mono hB)) (tm.later (hX.mono hB))
  have EF : Hid (∀ X, Calls Tryd.prog 15 #[.int .i64 fuel] X fun e w' => e = .returned (.int .i64 (Vm.fw fuel)) ∧ w' = X) := fun X => vmFew fuel X
  generalize inp.length = nI at EB ⊢
  generalize l.length = L at EB ⊢
  clear tn tm hco hok hi hin
  go_enter Tryd.func4, Tryd.ntmps4
  go_wp2_with fail
  refine Calls.mono EB.out ?_
  intro e1 w1 Q1
  rcases Q1 with ⟨rfl, b1⟩ | ⟨m, r, V, on, p, c, G, rfl, hmp, hs, hc, ha, hi2, h1, b1⟩
  · have B1 : Hid (Below w.heap.size w w1) := b1
    clear b1 EB
    go_wp2_with fail
    refine Calls.mono (EK.out _ B1.out) ?_
    rintro e2 w2 ⟨rfl, b2⟩
    have FIN : Hid (Below w.heap.size w w2) := B1.out.trans (b2.mono B1.out.size)
    clear b2
    go_wp2_with fail
    go_ret
    exact ⟨rfl, FIN.out⟩
  · have B1 : Hid (Below w.heap.size w w1) := b1
    clear b1 EB
    cases on with
    | false =>
      clear h1 hs hc ha
      go_wp2_with fail
      refine Calls.mono (EK.out _ B1.out) ?_
      rintro e2 w2 ⟨rfl, b2⟩
      have FIN : Hid (Below w.heap.size w w2) := B1.out.trans (b2.mono B1.out.size)
      clear b2
      go_wp2_with fail
      go_ret
      exact ⟨rfl, FIN.out⟩
    | true =>
      obtain ⟨M, hM⟩ : ∃ M, M = Vm.beg l p c.cells.toNat inp (Vm.fw fuel) G := ⟨_, rfl⟩
      have wf : Vm.WF Cd.top M := by rw [hM]; exact Vm.beg_wf hs hc ⟨ha.1, ha.2.1⟩ ha.2.2
      have fle := fw_le ha
      have hrun : M.run = true := by rw [hM]; rfl
      have hfu : M.fuel = Vm.fw fuel := by rw [hM]; rfl
      have hti : M.ticks = 0 := by rw [hM]; rfl
      have hev0 : M.events = [] := by rw [hM]; rfl
      rw [← hM] at h1
      have EE : Hid (Calls Tryd.prog 14 #[.pointer (some ⟨m, 0, none⟩), .int .i64 (Vm.fw fuel)] w1 fun e w' => e = .returned (.bool true) ∧ ∃ (k : Nat) (N : Vm.Mc) (V' : VmV), (k : Int) ≤ Vm.fw fuel ∧ N.run = false ∧ N.ticks = k ∧ EvE N.events ∧ N.events.length ≤ 900000000 ∧ VmO w.heap.size m w' V' N ∧ Below w.heap.size w w') := by
        refine (oEnd w.heap.size m w1 V M Cd.top (Vm.fw fuel) h1 wf hrun (by omega) (by omega) (fun j hj hle => Vm.ev_le (Vm.on_all wf hrun j hj) hev0 (by omega))).mono fun e w' ⟨h1', k, V', hk, ho, hf⟩ => ?_
        have D := hk.dn wf hrun
        have hkl := D.on.le
        obtain ⟨t, x, e1, e2, e3, e4⟩ := D.ev
        rw [hev0, List.nil_append] at e1
        refine ⟨h1', k, _, V', by omega, D.run, by rw [D.ti, hti]; omega, by rw [e1]; exact EvE.of e3 e4, ?_, ho, B1.out.trans (hf.low h1.lm)⟩
        rw [e1, List.length_append, List.length_singleton]
        have : (k + 1) * 1048577 ≤ 201 * 1048577 := Nat.mul_le_mul_right _ (by omega)
        omega
      obtain ⟨F, hF⟩ : ∃ F, F = Vm.fw fuel := ⟨_, rfl⟩
      rw [← hF] at EE EF
      clear h1 hs hc ha wf hrun hfu hti hev0 hM hF fle
      go_wp2_with fail
      refine Calls.mono (EF.out _) ?_
      rintro e2 w2 ⟨rfl, hw2⟩
      subst hw2
      go_wp2_with fail
      refine Calls.mono EE.out ?_
      rintro e3 w3 ⟨rfl, k, N, V3, hk, hr, hti, hev, hel, h3, b3⟩
      have B3 : Hid (Below w.heap.size w w3) := b3
      have H3 : Hid (VmO w.heap.size m w3 V3 N) := h3
      have HT : Hid (N.ticks = k ∧ N.run = false ∧ EvE N.events ∧ N.events.length ≤ 900000000) := ⟨hti, hr, hev, hel⟩
      have ET : Hid (∀ X, Below w3.heap.size w3 X → Calls Tryd.prog 16 #[.pointer (some ⟨m, 0, none⟩)] X fun e w' => e = .returned (.int .i64 k) ∧ Below X.heap.size X w') := fun X hX => by
        have := oTicks _ _ _ _ _ (H3.out.later hX)
        rw [HT.out.1] at this
        exact this
      obtain ⟨nf, hnf⟩ : ∃ nf, nf = N.frames.length := ⟨_, rfl⟩
      have EFr : Hid (∀ X, Below w3.heap.size w3 X → Calls Tryd.prog 18 #[.pointer (some ⟨m, 0, none⟩)] X fun e w' => e = .returned (.int .i64 nf) ∧ Below X.heap.size X w') := fun X hX => by
        have := oFrames _ _ _ _ _ (H3.out.later hX)
        rw [← hnf] at this
        exact this
      obtain ⟨n, hn⟩ : ∃ n, n = N.events.length := ⟨_, rfl⟩
      have HNL : Hid (n = N.events.length) := hn
      have hn0 : 0 < n := by rw [hn]; exact hev.pos
      have hnb : n ≤ 900000000 := by rw [hn]; exact hel
      have EC : Hid (∀ X, Below w3.heap.size w3 X → Calls Tryd.prog 19 #[.pointer (some ⟨m, 0, none⟩)] X fun e w' => e = .returned (.int .i64 n) ∧ Below X.heap.size X w') := fun X hX => by
        have := oCount _ _ _ _ _ (H3.out.later hX)
        rw [← hn] at this
        exact this
      have EV : Hid (∀ X, Below w3.heap.size w3 X → Calls Tryd.prog 17 #[.pointer (some ⟨m, 0, none⟩)] X fun e w' => ∃ a c, e = .returned (.slice a n c) ∧ EvW X.heap.size w'.heap.size w' a N.events ∧ Below X.heap.size X w') := fun X hX => by
        have := oEvents _ _ _ _ _ (H3.out.later hX) (by omega)
        rw [← hn] at this
        exact this
      have ES : Hid (∀ X, Below w3.heap.size w3 X → Calls Tryd.prog 12 #[.pointer (some ⟨m, 0, none⟩)] X fun e w' => e = .returned (.bool false) ∧ Below X.heap.size X w') := fun X hX => oStepE _ _ _ _ _ (H3.out.later hX) hr
      clear EE b3 h3 hr hti hev hel hnf hn
      have hkF : ¬ (k : Int) > F := by omega
      go_wp2_with fail
      refine Calls.mono (ET.out _ (Below.refl _ _)) ?_
      rintro e4 w4 ⟨rfl, b4⟩
      have B4 : Hid (Below w3.heap.size w3 w4) := b4
      clear b4
      go_wp2_with fail
      refine Calls.mono (EF.out _) ?_
      rintro e5 w5 ⟨rfl, hw5⟩
      subst hw5
      go_wp2_with fail
      refine Calls.mono (EV.out _ B4.out) ?_
      rintro e6 w6 ⟨ea, ec, rfl, v6, b6⟩
      obtain ⟨g6, rfl, hg6, hl6, hc6⟩ := v6 (by rw [← HNL.out]; exact hn0)
      have HC6 : Hid (∀ (j : Nat) e, N.events[j]? = some e → w6.cell? ⟨g6, j * 2, none⟩ = some (.int .i64 e.1)) := fun j e hj => (hc6 j e hj).1
      have B6 : Hid (Below w3.heap.size w3 w6) := B4.out.trans (b6.mono B4.out.size)
      clear v6 hc6 b6 B4
      go_wp2_with fail
      go_loopw [14] (fun i wr => ∃ j : Nat, j ≤ n ∧ i = .int .i64 j ∧ Hid (Below w6.heap.size w6 wr)) (fun i _ => n - (intOf i).toNat)
      case atStart => exact ⟨0, by omega, rfl, Below.refl _ _⟩
      case round =>
        obtain ⟨j, hj, rfl, BR⟩ := hrel
        by_cases hlt : j < n
        · have hji : (j : Int) < (n : Int) := by omega
          have dj : decide ((j : Int) < (n : Int)) = true := decide_eq_true hji
          have djn : decide (j < n) = true := decide_eq_true hlt
          obtain ⟨x, hx⟩ : ∃ x, N.events[j]? = some x := ⟨_, List.getElem?_eq_getElem (by rw [← HNL.out]; exact hlt)⟩
          have c0 := (BR.out.cell (p := ⟨g6, j * 2, none⟩) hl6).trans (HC6.out j x hx)
          have mid := HT.out.2.2.1.mid j x hx
          rw [← HNL.out] at mid
          generalize x.1 = x1 at c0 mid
          clear hx
          by_cases h3 : 3 ≤ x1
          · have hjn : j + 1 = n := mid.1 h3
            have d3 : decide (3 ≤ x1) = true := decide_eq_true h3
            have d3' : decide (x1 ≥ 3) = true := decide_eq_true h3
            have dq : ((j : Int) == (n : Int) - 1) = true := beq_iff_eq.2 (by omega)
            clear mid
            go_wp2_with fail
            go_roundw
            case rel => exact ⟨j + 1, by omega, by go_num, BR⟩
            case measure => simp [intOf]; omega
          · have hjn : ¬ j + 1 = n := fun h => h3 (mid.2 h)
            have d3 : decide (3 ≤ x1) = false := decide_eq_false h3
            have d3' : decide (x1 ≥ 3) = false := decide_eq_false h3
            have dq : ((j : Int) == (n : Int) - 1) = false := beq_eq_false_iff_ne.2 (by omega)
            clear mid
            go_wp2_with fail
            go_roundw
            case rel => exact ⟨j + 1, by omega, by go_num, BR⟩
            case measure => simp [intOf]; omega
        · have hji : ¬ (j : Int) < (n : Int) := by omega
          have dj : decide ((j : Int) < (n : Int)) = false := decide_eq_false hji
          have djn : decide (j < n) = false := decide_eq_false hlt
          have hn0i : (n : Int) > 0 := by omega
          have dn0 : decide ((0 : Int) < (n : Int)) = true := decide_eq_true hn0i
          have B7 : Hid (Below w3.heap.size w3 wr) := B6.out.trans (BR.out.mono B6.out.size)
          go_wp2_with fail
          refine Calls.mono (ET.out _ B7.out) ?_
          rintro e8 w8 ⟨rfl, b8⟩
          have B8 : Hid (Below w3.heap.size w3 w8) := B7.out.trans (b8.mono B7.out.size)
          clear b8 B7
          go_wp2_with fail
          refine Calls.mono (EFr.out _ B8.out) ?_
          rintro e9 w9 ⟨rfl, b9⟩
          have B9 : Hid (Below w3.heap.size w3 w9) := B8.out.trans (b9.mono B8.out.size)
          clear b9 B8
          go_wp2_with fail
          refine Calls.mono (ES.out _ B9.out) ?_
          rintro e10 w10 ⟨rfl, b10⟩
          have B10 : Hid (Below w3.heap.size w3 w10) := B9.out.trans (b10.mono B9.out.size)
          clear b10 B9
          go_wp2_with fail
          refine Calls.mono (ET.out _ B10.out) ?_
          rintro e11 w11 ⟨rfl, b11⟩
          have B11 : Hid (Below w3.heap.size w3 w11) := B10.out.trans (b11.mono B10.out.size)
          clear b11 B10
          go_wp2_with fail
          refine Calls.mono (EFr.out _ B11.out) ?_
          rintro e12 w12 ⟨rfl, b12⟩
          have B12 : Hid (Below w3.heap.size w3 w12) := B11.out.trans (b12.mono B11.out.size)
          clear b12 B11
          go_wp2_with fail
          refine Calls.mono (EC.out _ B12.out) ?_
          rintro e13 w13 ⟨rfl, b13⟩
          have B13 : Hid (Below w.heap.size w w13) := B3.out.trans ((B12.out.trans (b13.mono B12.out.size)).mono B3.out.size)
          clear b13 B12
          go_wp2_with fail
          refine Calls.mono (EK.out _ B13.out) ?_
          rintro e14 w14 ⟨rfl, b14⟩
          have FIN : Hid (Below w.heap.size w w14) := B13.out.trans (b14.mono B13.out.size)
          clear b14 B13
          go_wp2_with fail
          go_ret
          exact ⟨rfl, FIN.out⟩
end Go.Proofs.YtodpdnidinnjjaaDoor
