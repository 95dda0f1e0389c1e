/- Layer 9: the document's New; both machines begin, or neither. -/
/- Layer 9: the document's New with what it makes; both machines begin, or neither. -/
import Derived.Test.YtkjkiknpgggadaaDoorSVmRd
import Derived.Test.YtkjkiknpgggadaaDoorSVmOf
namespace Go.Proofs.YtkjkiknpgggadaaDoor
open Go.RowKit
set_option linter.unusedVariables false
set_option linter.unusedSimpArgs false

set_option maxRecDepth 100000 in
set_option maxHeartbeats 8000000 in
theorem rNewC (B : Nat) (w : World) (la ia : Option Addr) (lc ic : Nat) (l : List Cd.Co) (inp : List Int) (main fuel : Int) (h : CdH B w la l) (hs : ¬ Cd.Snd Cd.top l main) :
    Calls Tryd.prog 11 #[.slice la l.length lc, .int .i64 main, .slice ia inp.length ic, .int .i64 fuel] w fun e w' => e = .returned (.tuple #[.pointer none, .int .i64 60]) ∧ Below w.heap.size w w' := by
  have ES : Hid (Calls Tryd.prog 38 #[.slice la l.length lc, .int .i64 main] w fun e w' => e = .returned (.bool false) ∧ Below w.heap.size w w') := (rSnd_any main B la lc l w h.hB h.co h.ok).mono fun e w' ⟨b, h1, h2, h3⟩ => ⟨by
    cases b with
    | false => exact h1
    | true => exact absurd (snd_both.2 (h2.1 rfl)) hs, h3⟩
  generalize inp.length = nI
  generalize l.length = L at ES ⊢
  clear h hs
  go_enter Tryd.func11, Tryd.ntmps11
  go_wp2_with fail
  refine Calls.mono ES.out ?_
  rintro e1 w1 ⟨rfl, b1⟩
  have FIN : Hid (Below w.heap.size w w1) := b1
  clear b1 ES
  go_wp2_with fail
  refine bodyPost_ret (v := .tuple #[.pointer none, .int .i64 60]) (by simp [results, Tryd.results11, go_sem]) rfl ?_
  exact ⟨rfl, FIN.out⟩
set_option maxRecDepth 100000 in
set_option maxHeartbeats 8000000 in
theorem rNewA (B : Nat) (w : World) (la ia : Option Addr) (lc ic : Nat) (l : List Cd.Co) (inp : List Int) (main fuel : Int) (h : CdH B w la l) (hs : Cd.Snd Cd.top l main) (ha : ¬ VmArg fuel inp.length) :
    Calls Tryd.prog 11 #[.slice la l.length lc, .int .i64 main, .slice ia inp.length ic, .int .i64 fuel] w fun e w' => e = .returned (.tuple #[.pointer none, .int .i64 1]) ∧ Below w.heap.size w w' := by
  have ES : Hid (Calls Tryd.prog 38 #[.slice la l.length lc, .int .i64 main] w fun e w' => e = .returned (.bool true) ∧ Below w.heap.size w w') := (rSnd_any main B la lc l w h.hB h.co h.ok).mono fun e w' ⟨b, h1, h2, h3⟩ => ⟨by rw [h1, h2.2 (snd_both.1 hs)], h3⟩
  unfold VmArg at ha
  generalize inp.length = nI at ha ⊢
  generalize l.length = L at ES ⊢
  clear h hs
  go_enter Tryd.func11, Tryd.ntmps11
  go_wp2_with fail
  refine Calls.mono ES.out ?_
  rintro e1 w1 ⟨rfl, b1⟩
  have FIN : Hid (Below w.heap.size w w1) := b1
  clear b1 ES
  by_cases h1 : fuel < 0
  · have d1 : decide (fuel < 0) = true := decide_eq_true h1
    go_wp2_with fail
    refine bodyPost_ret (v := .tuple #[.pointer none, .int .i64 1]) (by simp [results, Tryd.results11, go_sem]) rfl ?_
    exact ⟨rfl, FIN.out⟩
  · have d1 : decide (fuel < 0) = false := decide_eq_false h1
    by_cases h2 : fuel > 1048576
    · have d2 : decide (fuel > 1048576) = true := decide_eq_true h2
      go_wp2_with fail
      refine bodyPost_ret (v := .tuple #[.pointer none, .int .i64 1]) (by simp [results, Tryd.results11, go_sem]) rfl ?_
      exact ⟨rfl, FIN.out⟩
    · have d2 : decide (fuel > 1048576) = false := decide_eq_false h2
      have h3 : (nI : Int) > 1000 := by omega
      have h4 : nI > 1000 := by omega
      go_wp2_with fail
      refine bodyPost_ret (v := .tuple #[.pointer none, .int .i64 1]) (by simp [results, Tryd.results11, go_sem]) rfl ?_
      exact ⟨rfl, FIN.out⟩
theorem VmO.lower {lo lo' m : Nat} {w : World} {V : VmV} {M : Vm.Mc} (h : VmO lo m w V M) (hl : lo' ≤ lo) : VmO lo' m w V M := by
  have s := h.re
  exact ⟨⟨⟨w, VOwn V, lo'⟩, ⟨s.box, ⟨s.rows.oa, s.rows.ob, s.rows.oc, s.rows.od, s.rows.ab, s.rows.ac, s.rows.ad, s.rows.bc, s.rows.bd, s.rows.cd, ⟨Nat.le_refl _, fun _ _ _ _ => rfl⟩, fun k e => .inl (.inl e), fun k e => .inl (.inr (.inl e)), fun k e => .inl (.inr (.inr (.inl e))), fun k e => .inl (.inr (.inr (.inr e)))⟩, s.co.mono hl (Nat.le_refl _), s.inp.mono hl (Nat.le_refl _)⟩, rfl⟩, Nat.le_trans hl h.lm⟩
end Go.Proofs.YtkjkiknpgggadaaDoor

namespace Go.Proofs.YtkjkiknpgggadaaDoor
open Go.RowKit
set_option linter.unusedVariables false
set_option linter.unusedSimpArgs false

set_option maxRecDepth 100000 in
set_option maxHeartbeats 8000000 in
theorem rNewR (B : Nat) (w : World) (la ia : Option Addr) (lc ic : Nat) (l : List Cd.Co) (inp : List Int) (p : Nat) (c : Cd.Co) (fuel : Int) (h : CdH B w la l) (hi : NuS w.heap.size w ia inp) (hin : ia = none → ic = 0) (hs : Cd.Snd Cd.top l p) (hc : l[p]? = some c) (ha : VmArg fuel inp.length) :
    Calls Tryd.prog 11 #[.slice la l.length lc, .int .i64 p, .slice ia inp.length ic, .int .i64 fuel] w fun e w' => ∃ r U, e = .returned (.tuple #[.pointer (some ⟨r, 0, none⟩), .int .i64 0]) ∧ RmO B w.heap.size r w' U (Vm.rini l p c.cells.toNat inp fuel) ∧ Below w.heap.size w w' := by
  have ES : Hid (Calls Tryd.prog 38 #[.slice la l.length lc, .int .i64 p] w fun e w' => e = .returned (.bool true) ∧ Below w.heap.size w w') := (rSnd_any p B la lc l w h.hB h.co h.ok).mono fun e w' ⟨b, h1, h2, h3⟩ => ⟨by rw [h1, h2.2 (snd_both.1 hs)], h3⟩
  have fc : 0 ≤ c.cells ∧ c.cells ≤ 65536 := by
    have := (hs.2.2.2 c (List.mem_of_getElem? hc)).sz
    unfold Cd.sz at this
    simp at this
    omega
  obtain ⟨k, hk⟩ : ∃ k : Nat, c.cells = k := ⟨c.cells.toNat, by omega⟩
  obtain ⟨ha1, ha2, ha3⟩ := ha
  have EO : Hid (∀ X, Below w.heap.size w X → Calls Tryd.prog 39 #[.slice ia inp.length ic] X fun e w' => ∃ a' c', e = .returned (.slice a' inp.length c') ∧ NuW w.heap.size w'.heap.size w' a' inp ∧ Below X.heap.size X w') := fun X hX => (rOwn X ia ic inp ((fun h0 => by
    obtain ⟨g, o, e, hg, hc⟩ := (hi.later hX) h0
    exact ⟨g, o, e, Nat.lt_of_lt_of_le hg hX.size, hc⟩) : NuS X.heap.size X ia inp) (by omega) hin).mono fun e w' ⟨a, c, h1, h3, h2⟩ => ⟨a, c, h1, h3.mono hX.size (Nat.le_refl _), h2⟩
  have HC : Hid (CdH B w la l ∧ l[p]? = some c ∧ c.cells = k ∧ k ≤ 65536) := ⟨h, hc, hk, by omega⟩
  obtain ⟨nI, hn⟩ : ∃ nI, nI = inp.length := ⟨_, rfl⟩
  obtain ⟨L, hL⟩ : ∃ L, L = l.length := ⟨_, rfl⟩
  have HN : Hid (L = l.length ∧ nI = inp.length) := ⟨hL, hn⟩
  rw [← hn] at EO ha3 ⊢
  rw [← hL] at ES ⊢
  have d1 : ¬ fuel < 0 := by omega
  have d2 : ¬ fuel > 1048576 := by omega
  have d3 : ¬ (nI : Int) > 1000 := by omega
  have d4 : ¬ nI > 1000 := by omega
  clear h hi hs hc fc hk hn hL ha3 hin
  go_enter Tryd.func11, Tryd.ntmps11
  go_wp2_with fail
  refine Calls.mono ES.out ?_
  rintro e1 w1 ⟨rfl, b1⟩
  have B1 : Hid (Below w.heap.size w w1) := b1
  clear b1 ES
  go_wp2_with fail
  refine Calls.mono (EO.out _ B1.out) ?_
  rintro e2 w2 ⟨a2, c2, rfl, nu2, b2⟩
  have HNU := (show Hid (NuW w.heap.size w2.heap.size w2 a2 inp) from nu2)
  clear nu2
  have B2 : Hid (Below w.heap.size w w2) := B1.out.trans (b2.mono B1.out.size)
  clear b2 EO B1
  obtain ⟨W3, hW3⟩ : ∃ W3, W3 = w2.alloc (.cells #[.slice la L lc, .slice none 0 0, .slice a2 nI c2, .int .i64 0, .int .i64 fuel, .int .i64 0, .int .i64 0, .int .i64 0, .int .i64 0, .int .i64 0, .slice none 0 0, .bool false, .int .i64 0] 35) := ⟨_, rfl⟩
  obtain ⟨r, hr⟩ : ∃ r, r = w2.heap.size := ⟨_, rfl⟩
  have x3 : W3.heap[r]? = some (.cells #[.slice la L lc, .slice none 0 0, .slice a2 nI c2, .int .i64 0, .int .i64 fuel, .int .i64 0, .int .i64 0, .int .i64 0, .int .i64 0, .int .i64 0, .slice none 0 0, .bool false, .int .i64 0] 35 (0, 0)) := by rw [hW3, hr]; exact alloc_at w2 _
  have B3 : Hid (Below w.heap.size w W3) := B2.out.trans (by rw [hW3]; exact ((Below.refl w2.heap.size w2).alloc (Nat.le_refl _) _).mono B2.out.size)
  have HR : Hid (w.heap.size ≤ r) := by unfold Hid; rw [hr]; exact B2.out.size
  have U3 : Hid (RmO B w.heap.size r W3 ⟨la, lc, .slice none 0 0, a2, c2, .slice none 0 0, []⟩ ⟨l, [], inp, 0, fuel, 0, 0, 0, 0, 0, [], false, 0⟩) := by
    obtain ⟨hC, _, _, _⟩ := HC.out
    have y3 : Below w2.heap.size w2 W3 := by rw [hW3]; exact (Below.refl w2.heap.size w2).alloc (Nat.le_refl _) _
    refine ⟨⟨⟨w, fun _ => False, w.heap.size⟩, ⟨?_, rfl, ⟨fun x hx => ?_, ?_, ⟨B3.out.size, fun k hk _ _ => B3.out.block k hk⟩, fun x hx k e => ?_⟩, (hC.co.later (B3.out.mono hC.hB)).mono hC.hB, ?_, HR.out, fun v0 v2 e0 _ => ?_⟩, rfl⟩, hC.co.later (B3.out.mono hC.hB), hC.hB⟩
    · show W3.heap[r]? = some (.cells #[.slice la l.length lc, _, .slice a2 inp.length c2, _, _, _, _, _, _, _, _, _, _] _ _)
      rw [← HN.out.1, ← HN.out.2]
      exact x3
    · simp only [List.mem_cons, rmR, List.not_mem_nil, or_false] at hx
      rcases hx with rfl | rfl
      · exact World.ownsRow_nil _ _ _ _
      · exact World.ownsRow_nil _ _ _ _
    · refine List.pairwise_cons.2 ⟨fun x hx g e => ?_, List.pairwise_singleton _ _⟩
      cases e
    · simp only [List.mem_cons, rmR, List.not_mem_nil, or_false] at hx
      rcases hx with rfl | rfl <;> cases e
    · have q : NuW w.heap.size w2.heap.size W3 a2 inp := HNU.out.later y3
      rw [hr]
      exact q
    · have q1 : r < w.heap.size := World.block_lt_of_cell? w _ e0
      have q2 : w.heap.size ≤ r := HR.out
      omega
  have EB : Hid (Calls Tryd.prog 40 #[.pointer (some ⟨r, 0, none⟩), .int .i64 p, .slice none 0 0] W3 fun e w' => e = .returned (.tuple #[]) ∧ ∃ U, RmO B w.heap.size r w' U (Vm.rini l p k inp fuel) ∧ Below r W3 w') := by
    obtain ⟨hC, hc, hk, hk2⟩ := HC.out
    have q := rBegin _ r p W3 _ _ c k none 0 [] U3.out.re hc hk hk2 (fun h => by simp at h) (by simp) (by simp)
    refine q.mono fun e w' ⟨h1, h2⟩ => ⟨h1, ?_⟩
    obtain ⟨U', u1, u2⟩ := U3.out.next h2 rfl
    exact ⟨U', u1, u2.b⟩
  have HKE : Hid (c.cells.toNat = k) := by unfold Hid; rw [HC.out.2.2.1]; simp
  clear x3 B2 HNU U3
  go_upto_region 6 with fail
  rw [← hr, ← hW3]
  clear hr hW3
  go_wp2_with fail
  refine Calls.mono EB.out ?_
  rintro e4 w4 ⟨rfl, U4, u4, b4⟩
  have FIN : Hid (RmO B w.heap.size r w4 U4 (Vm.rini l p c.cells.toNat inp fuel) ∧ Below w.heap.size w w4) := ⟨by rw [HKE.out]; exact u4, B3.out.trans (b4.mono HR.out)⟩
  clear b4 u4 EB B3
  go_wp2_with fail
  refine bodyPost_ret (v := .tuple #[.pointer (some ⟨r, 0, none⟩), .int .i64 0]) (by simp [results, Tryd.results11, go_sem]) rfl ?_
  exact ⟨r, U4, rfl, FIN.out.1, FIN.out.2⟩
def BtR (w : World) (l : List Cd.Co) (main : Int) (inp : List Int) (fuel : Int) (e : Ending) (w' : World) : Prop :=
  (e = .returned (.tuple #[.pointer none, .pointer none, .bool false, .bool true]) ∧ Below w.heap.size w w') ∨
  ∃ (m r lo : Nat) (V : VmV) (U : RmV) (on : Bool) (p : Nat) (c : Cd.Co) (G : Gh), e = .returned (.tuple #[.pointer (some ⟨m, 0, none⟩), .pointer (some ⟨r, 0, none⟩), .bool on, .bool true]) ∧ main = p ∧ Cd.Snd Cd.top l p ∧ l[p]? = some c ∧ VmArg (Vm.fw fuel) inp.length ∧ inp.length ≤ 200 ∧ Two w.heap.size m lo r w' V (Vm.beg l p c.cells.toNat inp (Vm.fw fuel) G) U (Vm.rini l p c.cells.toNat inp (Vm.fw fuel)) ∧ Below w.heap.size w w'
set_option maxRecDepth 100000 in
set_option maxHeartbeats 16000000 in
theorem both9R (B : Nat) (w : World) (la ia : Option Addr) (lc ic : Nat) (l : List Cd.Co) (inp : List Int) (main fuel : Int) (h : CdH B w la l) (hi : NuS w.heap.size w ia inp) (hin : ia = none → ic = 0) :
    Calls Tryd.prog 5 #[.slice la l.length lc, .int .i64 main, .slice ia inp.length ic, .int .i64 fuel] w (BtR w l main inp fuel) := by
  have EG : Hid _ := great9_any B la lc l w h
  have EF : Hid (∀ X, Calls Tryd.prog 12 #[.int .i64 fuel] X fun e w' => e = .returned (.int .i64 (Vm.fw fuel)) ∧ w' = X) := fun X => vmFew fuel X
  have BA : Hid (∀ W, Below w.heap.size w W → BtR w l main inp fuel (.returned (.tuple #[.pointer none, .pointer none, .bool false, .bool true])) W) := fun W hW => .inl ⟨rfl, hW⟩
  have HH : Hid (∀ X, Below w.heap.size w X → CdH B X la l ∧ NuS X.heap.size X ia inp) := fun X hX => ⟨h.later (hX.mono h.hB), fun h0 => by
    obtain ⟨g, o, e, hg, hc⟩ := (hi.later hX) h0
    exact ⟨g, o, e, Nat.lt_of_lt_of_le hg hX.size, hc⟩⟩
  have HIN : Hid (ia = none → ic = 0) := hin
  have HBB : Hid (B ≤ w.heap.size) := h.hB
  obtain ⟨nI, hn⟩ : ∃ nI, nI = inp.length := ⟨_, rfl⟩
  obtain ⟨L, hL⟩ : ∃ L, L = l.length := ⟨_, rfl⟩
  have HN : Hid (nI = inp.length ∧ L = l.length) := ⟨hn, hL⟩
  rw [← hL] at EG ⊢
  rw [← hn]
  clear h hi hn hL hin
  go_enter Tryd.func5, Tryd.ntmps5
  go_wp2_with fail
  refine Calls.mono EG.out ?_
  rintro e1 w1 ⟨gb, rfl, b1⟩
  have B1 : Hid (Below w.heap.size w w1) := b1
  clear b1 EG
  cases gb with
  | true =>
    go_wp2_with fail
    refine bodyPost_ret (v := .tuple #[.pointer none, .pointer none, .bool false, .bool true]) (by simp [results, Tryd.results5, go_sem]) rfl ?_
    exact BA.out _ B1.out
  | false =>
    by_cases h200 : nI > 200 ∧ nI ≤ 1000
    · have g1 : (nI : Int) > 200 := by omega
      have g2 : (nI : Int) ≤ 1000 := by omega
      have g3 : nI > 200 := h200.1
      have g4 : nI ≤ 1000 := h200.2
      have dg1 : decide ((200 : Int) < (nI : Int)) = true := decide_eq_true g1
      have dg2 : decide ((nI : Int) ≤ 1000) = true := decide_eq_true g2
      go_wp2_with fail
      refine bodyPost_ret (v := .tuple #[.pointer none, .pointer none, .bool false, .bool true]) (by simp [results, Tryd.results5, go_sem]) rfl ?_
      exact BA.out _ B1.out
    · by_cases hle : nI ≤ 200
      · have g1 : ¬ (nI : Int) > 200 := by omega
        have dg1 : decide ((200 : Int) < (nI : Int)) = false := decide_eq_false g1
        have dg3 : decide (200 < nI) = false := decide_eq_false (by omega)
        by_cases hs : Cd.Snd Cd.top l main
        · by_cases ha : VmArg (Vm.fw fuel) inp.length
          · -- ok
            obtain ⟨p, hp⟩ : ∃ p : Nat, main = p := ⟨main.toNat, by have := hs.2.1; omega⟩
            subst hp
            obtain ⟨c, hc⟩ : ∃ c, l[p]? = some c := by
              obtain ⟨_, _, ⟨c, hc, _⟩, _⟩ := hs
              exact ⟨c, by rw [Int.toNat_natCast] at hc; exact hc⟩
            have EN1 : Hid (∀ X, Below w.heap.size w X → Calls Tryd.prog 15 #[.slice la L lc, .int .i64 p, .slice ia nI ic, .int .i64 (Vm.fw fuel)] X fun e w' => ∃ m V, e = .returned (.tuple #[.pointer (some ⟨m, 0, none⟩), .int .i64 0]) ∧ VmO X.heap.size m w' V (Vm.beg l p c.cells.toNat inp (Vm.fw fuel) ⟨X, fun _ => False, X.heap.size⟩) ∧ Below X.heap.size X w') := fun X hX => by
              have := vmNewO B X la ia lc ic l inp p c (Vm.fw fuel) (HH.out X hX).1 (HH.out X hX).2 hs hc ha
              rw [← HN.out.1, ← HN.out.2] at this
              exact this
            have EN2 : Hid (∀ X, Below w.heap.size w X → Calls Tryd.prog 11 #[.slice la L lc, .int .i64 p, .slice ia nI ic, .int .i64 (Vm.fw fuel)] X fun e w' => ∃ r U, e = .returned (.tuple #[.pointer (some ⟨r, 0, none⟩), .int .i64 0]) ∧ RmO B X.heap.size r w' U (Vm.rini l p c.cells.toNat inp (Vm.fw fuel)) ∧ Below X.heap.size X w') := fun X hX => by
              have := rNewR B X la ia lc ic l inp p c (Vm.fw fuel) (HH.out X hX).1 (HH.out X hX).2 HIN.out hs hc ha
              rw [← HN.out.1, ← HN.out.2] at this
              exact this
            have HBw : Hid (B ≤ w.heap.size) := HBB.out
            have ESL : Hid (∀ X, Below w.heap.size w X → Calls Tryd.prog 16 #[.slice la L lc] X (BoQ X)) := fun X hX => by
              have hC := (HH.out X hX).1
              have := slow9_any la lc l X (hC.co.mono hC.hB) hs.2.2.2 hs.1
              rw [← HN.out.2] at this
              exact this
            have HP : Hid (Cd.Snd Cd.top l p ∧ l[p]? = some c ∧ VmArg (Vm.fw fuel) inp.length ∧ inp.length ≤ 200) := ⟨hs, hc, ha, by rw [← HN.out.1]; omega⟩
            clear hs hc ha
            go_wp2_with fail
            refine Calls.mono (EF.out _) ?_
            rintro e2 w2 ⟨rfl, hw2⟩
            subst hw2
            go_wp2_with fail
            refine Calls.mono (EN1.out _ B1.out) ?_
            rintro e3 w3 ⟨m, V, rfl, h3, b3⟩
            have B3 : Hid (Below w.heap.size w w3) := B1.out.trans (b3.mono B1.out.size)
            have H3 : Hid (VmO w2.heap.size m w3 V (Vm.beg l p c.cells.toNat inp (Vm.fw fuel) ⟨w2, fun _ => False, w2.heap.size⟩)) := h3
            clear b3 h3 EN1
            go_wp2_with fail
            refine Calls.mono (EF.out _) ?_
            rintro e4 w4 ⟨rfl, hw4⟩
            subst hw4
            go_wp2_with fail
            refine Calls.mono (EN2.out _ B3.out) ?_
            rintro e5 w5 ⟨r, U, rfl, u5, b5⟩
            have B5 : Hid (Below w.heap.size w w5) := B3.out.trans (b5.mono B3.out.size)
            have H5 : Hid (Two w.heap.size m w4.heap.size r w5 V (Vm.beg l p c.cells.toNat inp (Vm.fw fuel) ⟨w2, fun _ => False, w2.heap.size⟩) U (Vm.rini l p c.cells.toNat inp (Vm.fw fuel))) := by
              have v3 := H3.out.lower B1.out.size
              refine ⟨v3.later b5, ⟨u5.s, u5.co.mono HBw.out, B3.out.size⟩, fun k a1 a2 a3 => ?_⟩
              have hk : k < w4.heap.size := by
                rcases a2 with a2 | a2
                · have := v3.lt; omega
                · exact (v3.own_lt a2).2
              rcases a3 with a3 | a3
              · omega
              · have q1 := (u5.own_lt a3).1
                have q2 := u5.lm
                omega
            clear b5 EN2 B3 H3 u5
            go_wp2_with fail
            refine Calls.mono (ESL.out _ B5.out) ?_
            rintro e6 w6 ⟨sb, rfl, b6⟩
            have B6 : Hid (Below w.heap.size w w6) := B5.out.trans (b6.mono B5.out.size)
            have FIN : Hid (BtR w l p inp fuel (.returned (.tuple #[.pointer (some ⟨m, 0, none⟩), .pointer (some ⟨r, 0, none⟩), .bool (!sb), .bool true])) w6) := .inr ⟨m, r, w4.heap.size, V, U, !sb, p, c, _, rfl, rfl, HP.out.1, HP.out.2.1, HP.out.2.2.1, HP.out.2.2.2, H5.out.later b6, B6.out⟩
            clear b6 ESL H5 B5
            go_wp2_with fail
            refine bodyPost_ret (v := .tuple #[.pointer (some ⟨m, 0, none⟩), .pointer (some ⟨r, 0, none⟩), .bool (!sb), .bool true]) (by simp [results, Tryd.results5, go_sem]) rfl ?_
            exact FIN.out
          · -- no
            have EN1 : Hid (∀ X, Below w.heap.size w X → Calls Tryd.prog 15 #[.slice la L lc, .int .i64 main, .slice ia nI ic, .int .i64 (Vm.fw fuel)] X fun e w' => e = .returned (.tuple #[.pointer none, .int .i64 1]) ∧ Below X.heap.size X w') := fun X hX => by
              have := vmNewA B X la ia lc ic l inp main (Vm.fw fuel) (HH.out X hX).1 hs ha
              rw [← HN.out.1, ← HN.out.2] at this
              exact this
            have EN2 : Hid (∀ X, Below w.heap.size w X → Calls Tryd.prog 11 #[.slice la L lc, .int .i64 main, .slice ia nI ic, .int .i64 (Vm.fw fuel)] X fun e w' => e = .returned (.tuple #[.pointer none, .int .i64 1]) ∧ Below X.heap.size X w') := fun X hX => by
              have := rNewA B X la ia lc ic l inp main (Vm.fw fuel) (HH.out X hX).1 hs ha
              rw [← HN.out.1, ← HN.out.2] at this
              exact this
            go_wp2_with fail
            refine Calls.mono (EF.out _) ?_
            rintro e2 w2 ⟨rfl, hw2⟩
            subst hw2
            go_wp2_with fail
            refine Calls.mono (EN1.out _ B1.out) ?_
            rintro e3 w3 ⟨rfl, b3⟩
            have B3 : Hid (Below w.heap.size w w3) := B1.out.trans (b3.mono B1.out.size)
            clear b3 EN1
            go_wp2_with fail
            refine Calls.mono (EF.out _) ?_
            rintro e4 w4 ⟨rfl, hw4⟩
            subst hw4
            go_wp2_with fail
            refine Calls.mono (EN2.out _ B3.out) ?_
            rintro e5 w5 ⟨rfl, b5⟩
            have B5 : Hid (Below w.heap.size w w5) := B3.out.trans (b5.mono B3.out.size)
            clear b5 EN2 B3
            go_wp2_with fail
            refine bodyPost_ret (v := .tuple #[.pointer none, .pointer none, .bool false, .bool true]) (by simp [results, Tryd.results5, go_sem]) rfl ?_
            exact BA.out _ B5.out
        · -- unsound
          have EN1 : Hid (∀ X, Below w.heap.size w X → Calls Tryd.prog 15 #[.slice la L lc, .int .i64 main, .slice ia nI ic, .int .i64 (Vm.fw fuel)] X fun e w' => e = .returned (.tuple #[.pointer none, .int .i64 60]) ∧ Below X.heap.size X w') := fun X hX => by
            have := vmNewC B X la ia lc ic l inp main (Vm.fw fuel) (HH.out X hX).1 hs
            rw [← HN.out.1, ← HN.out.2] at this
            exact this
          have EN2 : Hid (∀ X, Below w.heap.size w X → Calls Tryd.prog 11 #[.slice la L lc, .int .i64 main, .slice ia nI ic, .int .i64 (Vm.fw fuel)] X fun e w' => e = .returned (.tuple #[.pointer none, .int .i64 60]) ∧ Below X.heap.size X w') := fun X hX => by
            have := rNewC B X la ia lc ic l inp main (Vm.fw fuel) (HH.out X hX).1 hs
            rw [← HN.out.1, ← HN.out.2] at this
            exact this
          go_wp2_with fail
          refine Calls.mono (EF.out _) ?_
          rintro e2 w2 ⟨rfl, hw2⟩
          subst hw2
          go_wp2_with fail
          refine Calls.mono (EN1.out _ B1.out) ?_
          rintro e3 w3 ⟨rfl, b3⟩
          have B3 : Hid (Below w.heap.size w w3) := B1.out.trans (b3.mono B1.out.size)
          clear b3 EN1
          go_wp2_with fail
          refine Calls.mono (EF.out _) ?_
          rintro e4 w4 ⟨rfl, hw4⟩
          subst hw4
          go_wp2_with fail
          refine Calls.mono (EN2.out _ B3.out) ?_
          rintro e5 w5 ⟨rfl, b5⟩
          have B5 : Hid (Below w.heap.size w w5) := B3.out.trans (b5.mono B3.out.size)
          clear b5 EN2 B3
          go_wp2_with fail
          refine bodyPost_ret (v := .tuple #[.pointer none, .pointer none, .bool false, .bool true]) (by simp [results, Tryd.results5, go_sem]) rfl ?_
          exact BA.out _ B5.out
      · have g1 : (nI : Int) > 200 := by omega
        have g2 : ¬ (nI : Int) ≤ 1000 := by omega
        have dg1 : decide ((200 : Int) < (nI : Int)) = true := decide_eq_true g1
        have dg3 : decide (200 < nI) = true := decide_eq_true (by omega)
        have dg2 : decide ((nI : Int) ≤ 1000) = false := decide_eq_false g2
        have dg4 : decide (nI ≤ 1000) = false := decide_eq_false (by omega)
        by_cases hs : Cd.Snd Cd.top l main
        · have ha : ¬ VmArg (Vm.fw fuel) inp.length := fun h => by have := h.2.2; rw [← HN.out.1] at this; omega
          have EN1 : Hid (∀ X, Below w.heap.size w X → Calls Tryd.prog 15 #[.slice la L lc, .int .i64 main, .slice ia nI ic, .int .i64 (Vm.fw fuel)] X fun e w' => e = .returned (.tuple #[.pointer none, .int .i64 1]) ∧ Below X.heap.size X w') := fun X hX => by
            have := vmNewA B X la ia lc ic l inp main (Vm.fw fuel) (HH.out X hX).1 hs ha
            rw [← HN.out.1, ← HN.out.2] at this
            exact this
          have EN2 : Hid (∀ X, Below w.heap.size w X → Calls Tryd.prog 11 #[.slice la L lc, .int .i64 main, .slice ia nI ic, .int .i64 (Vm.fw fuel)] X fun e w' => e = .returned (.tuple #[.pointer none, .int .i64 1]) ∧ Below X.heap.size X w') := fun X hX => by
            have := rNewA B X la ia lc ic l inp main (Vm.fw fuel) (HH.out X hX).1 hs ha
            rw [← HN.out.1, ← HN.out.2] at this
            exact this
          go_wp2_with fail
          refine Calls.mono (EF.out _) ?_
          rintro e2 w2 ⟨rfl, hw2⟩
          subst hw2
          go_wp2_with fail
          refine Calls.mono (EN1.out _ B1.out) ?_
          rintro e3 w3 ⟨rfl, b3⟩
          have B3 : Hid (Below w.heap.size w w3) := B1.out.trans (b3.mono B1.out.size)
          clear b3 EN1
          go_wp2_with fail
          refine Calls.mono (EF.out _) ?_
          rintro e4 w4 ⟨rfl, hw4⟩
          subst hw4
          go_wp2_with fail
          refine Calls.mono (EN2.out _ B3.out) ?_
          rintro e5 w5 ⟨rfl, b5⟩
          have B5 : Hid (Below w.heap.size w w5) := B3.out.trans (b5.mono B3.out.size)
          clear b5 EN2 B3
          go_wp2_with fail
          refine bodyPost_ret (v := .tuple #[.pointer none, .pointer none, .bool false, .bool true]) (by simp [results, Tryd.results5, go_sem]) rfl ?_
          exact BA.out _ B5.out
        · -- unsound
          have EN1 : Hid (∀ X, Below w.heap.size w X → Calls Tryd.prog 15 #[.slice la L lc, .int .i64 main, .slice ia nI ic, .int .i64 (Vm.fw fuel)] X fun e w' => e = .returned (.tuple #[.pointer none, .int .i64 60]) ∧ Below X.heap.size X w') := fun X hX => by
            have := vmNewC B X la ia lc ic l inp main (Vm.fw fuel) (HH.out X hX).1 hs
            rw [← HN.out.1, ← HN.out.2] at this
            exact this
          have EN2 : Hid (∀ X, Below w.heap.size w X → Calls Tryd.prog 11 #[.slice la L lc, .int .i64 main, .slice ia nI ic, .int .i64 (Vm.fw fuel)] X fun e w' => e = .returned (.tuple #[.pointer none, .int .i64 60]) ∧ Below X.heap.size X w') := fun X hX => by
            have := rNewC B X la ia lc ic l inp main (Vm.fw fuel) (HH.out X hX).1 hs
            rw [← HN.out.1, ← HN.out.2] at this
            exact this
          go_wp2_with fail
          refine Calls.mono (EF.out _) ?_
          rintro e2 w2 ⟨rfl, hw2⟩
          subst hw2
          go_wp2_with fail
          refine Calls.mono (EN1.out _ B1.out) ?_
          rintro e3 w3 ⟨rfl, b3⟩
          have B3 : Hid (Below w.heap.size w w3) := B1.out.trans (b3.mono B1.out.size)
          clear b3 EN1
          go_wp2_with fail
          refine Calls.mono (EF.out _) ?_
          rintro e4 w4 ⟨rfl, hw4⟩
          subst hw4
          go_wp2_with fail
          refine Calls.mono (EN2.out _ B3.out) ?_
          rintro e5 w5 ⟨rfl, b5⟩
          have B5 : Hid (Below w.heap.size w w5) := B3.out.trans (b5.mono B3.out.size)
          clear b5 EN2 B3
          go_wp2_with fail
          refine bodyPost_ret (v := .tuple #[.pointer none, .pointer none, .bool false, .bool true]) (by simp [results, Tryd.results5, go_sem]) rfl ?_
          exact BA.out _ B5.out
end Go.Proofs.YtkjkiknpgggadaaDoor

