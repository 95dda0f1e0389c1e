/- Layer 9: the document's New; both machines begin, or neither. -/
import Derived.Test.YtkjkiknpgggadaaDoorSVmRd
namespace Go.Proofs.YtkjkiknpgggadaaDoor
open Go.RowKit
set_option linter.unusedVariables false
set_option linter.unusedSimpArgs false

set_option maxRecDepth 100000 in
set_option maxHeartbeats 8000000 in
theorem rNewC (B : Nat) (w : World) (la ia : Option Addr) (lc ic : Nat) (l : List Cd.Co) (inp : List Int) (main fuel : Int) (h : CdH B w la l) (hs : ¬ Cd.Snd Cd.top l main) :
    Calls Tryd.prog 11 #[.slice la l.length lc, .int .i64 main, .slice ia inp.length ic, .int .i64 fuel] w fun e w' => e = .returned (.tuple #[.pointer none, .int .i64 60]) ∧ Below w.heap.size w w' := by
  have ES : Hid (Calls Tryd.prog 38 #[.slice la l.length lc, .int .i64 main] w fun e w' => e = .returned (.bool false) ∧ Below w.heap.size w w') := (rSnd_any main B la lc l w h.hB h.co h.ok).mono fun e w' ⟨b, h1, h2, h3⟩ => ⟨by
    cases b with
    | false => exact h1
    | true => exact absurd (snd_both.2 (h2.1 rfl)) hs, h3⟩
  generalize inp.length = nI
  generalize l.length = L at ES ⊢
  clear h hs
  go_enter Tryd.func11, Tryd.ntmps11
  go_wp2_with fail
  refine Calls.mono ES.out ?_
  rintro e1 w1 ⟨rfl, b1⟩
  have FIN : Hid (Below w.heap.size w w1) := b1
  clear b1 ES
  go_wp2_with fail
  refine bodyPost_ret (v := .tuple #[.pointer none, .int .i64 60]) (by simp [results, Tryd.results11, go_sem]) rfl ?_
  exact ⟨rfl, FIN.out⟩
set_option maxRecDepth 100000 in
set_option maxHeartbeats 8000000 in
theorem rNewA (B : Nat) (w : World) (la ia : Option Addr) (lc ic : Nat) (l : List Cd.Co) (inp : List Int) (main fuel : Int) (h : CdH B w la l) (hs : Cd.Snd Cd.top l main) (ha : ¬ VmArg fuel inp.length) :
    Calls Tryd.prog 11 #[.slice la l.length lc, .int .i64 main, .slice ia inp.length ic, .int .i64 fuel] w fun e w' => e = .returned (.tuple #[.pointer none, .int .i64 1]) ∧ Below w.heap.size w w' := by
  have ES : Hid (Calls Tryd.prog 38 #[.slice la l.length lc, .int .i64 main] w fun e w' => e = .returned (.bool true) ∧ Below w.heap.size w w') := (rSnd_any main B la lc l w h.hB h.co h.ok).mono fun e w' ⟨b, h1, h2, h3⟩ => ⟨by rw [h1, h2.2 (snd_both.1 hs)], h3⟩
  unfold VmArg at ha
  generalize inp.length = nI at ha ⊢
  generalize l.length = L at ES ⊢
  clear h hs
  go_enter Tryd.func11, Tryd.ntmps11
  go_wp2_with fail
  refine Calls.mono ES.out ?_
  rintro e1 w1 ⟨rfl, b1⟩
  have FIN : Hid (Below w.heap.size w w1) := b1
  clear b1 ES
  by_cases h1 : fuel < 0
  · have d1 : decide (fuel < 0) = true := decide_eq_true h1
    go_wp2_with fail
    refine bodyPost_ret (v := .tuple #[.pointer none, .int .i64 1]) (by simp [results, Tryd.results11, go_sem]) rfl ?_
    exact ⟨rfl, FIN.out⟩
  · have d1 : decide (fuel < 0) = false := decide_eq_false h1
    by_cases h2 : fuel > 1048576
    · have d2 : decide (fuel > 1048576) = true := decide_eq_true h2
      go_wp2_with fail
      refine bodyPost_ret (v := .tuple #[.pointer none, .int .i64 1]) (by simp [results, Tryd.results11, go_sem]) rfl ?_
      exact ⟨rfl, FIN.out⟩
    · have d2 : decide (fuel > 1048576) = false := decide_eq_false h2
      have h3 : (nI : Int) > 1000 := by omega
      have h4 : nI > 1000 := by omega
      go_wp2_with fail
      refine bodyPost_ret (v := .tuple #[.pointer none, .int .i64 1]) (by simp [results, Tryd.results11, go_sem]) rfl ?_
      exact ⟨rfl, FIN.out⟩
theorem VmO.lower {lo lo' m : Nat} {w : World} {V : VmV} {M : Vm.Mc} (h : VmO lo m w V M) (hl : lo' ≤ lo) : VmO lo' m w V M := by
  have s := h.re
  exact ⟨⟨⟨w, VOwn V, lo'⟩, ⟨s.box, ⟨s.rows.oa, s.rows.ob, s.rows.oc, s.rows.od, s.rows.ab, s.rows.ac, s.rows.ad, s.rows.bc, s.rows.bd, s.rows.cd, ⟨Nat.le_refl _, fun _ _ _ _ => rfl⟩, fun k e => .inl (.inl e), fun k e => .inl (.inr (.inl e)), fun k e => .inl (.inr (.inr (.inl e))), fun k e => .inl (.inr (.inr (.inr e)))⟩, s.co.mono hl (Nat.le_refl _), s.inp.mono hl (Nat.le_refl _)⟩, rfl⟩, Nat.le_trans hl h.lm⟩
end Go.Proofs.YtkjkiknpgggadaaDoor

