/- VmDeep, plain: the codes are sound; what becomes of each run. -/
import Derived.Test.YtodpdnidinnjjaaDoorTVmDq1
import Derived.Test.YtodpdnidinnjjaaDoorTVmDq2
namespace Go.Proofs.YtodpdnidinnjjaaDoor
open Go.RowKit
set_option linter.unusedVariables false
set_option linter.unusedSimpArgs false

namespace Vm
theorem tst_all (G : Gh) : ∀ n : Nat, n < 70 → tst n G = true
  | 0, _ => tq0 G
  | 1, _ => tq1 G
  | 2, _ => tq2 G
  | 3, _ => tq3 G
  | 4, _ => tq4 G
  | 5, _ => tq5 G
  | 6, _ => tq6 G
  | 7, _ => tq7 G
  | 8, _ => tq8 G
  | 9, _ => tq9 G
  | 10, _ => tq10 G
  | 11, _ => tq11 G
  | 12, _ => tq12 G
  | 13, _ => tq13 G
  | 14, _ => tq14 G
  | 15, _ => tq15 G
  | 16, _ => tq16 G
  | 17, _ => tq17 G
  | 18, _ => tq18 G
  | 19, _ => tq19 G
  | 20, _ => tq20 G
  | 21, _ => tq21 G
  | 22, _ => tq22 G
  | 23, _ => tq23 G
  | 24, _ => tq24 G
  | 25, _ => tq25 G
  | 26, _ => tq26 G
  | 27, _ => tq27 G
  | 28, _ => tq28 G
  | 29, _ => tq29 G
  | 30, _ => tq30 G
  | 31, _ => tq31 G
  | 32, _ => tq32 G
  | 33, _ => tq33 G
  | 34, _ => tq34 G
  | 35, _ => tq35 G
  | 36, _ => tq36 G
  | 37, _ => tq37 G
  | 38, _ => tq38 G
  | 39, _ => tq39 G
  | 40, _ => tq40 G
  | 41, _ => tq41 G
  | 42, _ => tq42 G
  | 43, _ => tq43 G
  | 44, _ => tq44 G
  | 45, _ => tq45 G
  | 46, _ => tq46 G
  | 47, _ => tq47 G
  | 48, _ => tq48 G
  | 49, _ => tq49 G
  | 50, _ => tq50 G
  | 51, _ => tq51 G
  | 52, _ => tq52 G
  | 53, _ => tq53 G
  | 54, _ => tq54 G
  | 55, _ => tq55 G
  | 56, _ => tq56 G
  | 57, _ => tq57 G
  | 58, _ => tq58 G
  | 59, _ => tq59 G
  | 60, _ => tq60 G
  | 61, _ => tq61 G
  | 62, _ => tq62 G
  | 63, _ => tq63 G
  | 64, _ => tq64 G
  | 65, _ => tq65 G
  | 66, _ => tq66 G
  | 67, _ => tq67 G
  | 68, _ => tq68 G
  | 69, _ => tq69 G
  | n + 70, h => by omega
theorem dm_cl (n : Int) : Cd.Cl [dm n, df] (dm n) [0, 1, 0, 0] := by
  have r1 : Cd.Rc [dm n, df] (dm n) 1 1 := Cd.Rc.one (l := [dm n, df]) (c := dm n) 0 0 ⟨1, n, 0⟩ .zero (by omega) rfl (by simp)
  have r2 : Cd.Rc [dm n, df] (dm n) 2 0 := Cd.Rc.one (l := [dm n, df]) (c := dm n) 1 1 ⟨19, 1, 1⟩ r1 (by omega) rfl (by simp)
  have r3 : Cd.Rc [dm n, df] (dm n) 3 0 := Cd.Rc.one (l := [dm n, df]) (c := dm n) 2 0 ⟨24, 1, 3⟩ r2 (by omega) rfl (by simp)
  refine ⟨rfl, rfl, fun p h e => ?_, fun p h i e ne ei => ?_⟩
  · match p, e with
    | 0, e => simp at e; subst e; exact .inr .zero
    | 1, e => simp at e; subst e; exact .inr r1
    | 2, e => simp at e; subst e; exact .inr r2
    | 3, e => simp at e; subst e; exact .inr r3
    | p + 4, e => simp at e
  · match p, e, ei with
    | 0, e, ei => simp at e; subst e; simp [dm] at ei; subst ei; exact ⟨Int.le_refl 0, by omega, (fun h => by cases h), fun _ => ⟨(by decide : (0 : Int) ≤ 1), (by decide : (0 : Int) ≤ 1), rfl, rfl, (by decide : (0 : Int) ≤ 1)⟩⟩
    | 1, e, ei => simp at e; subst e; simp [dm] at ei; subst ei; exact ⟨Int.le_refl 1, by omega, (fun h => by cases h), fun _ => ⟨(by decide : (0 : Int) ≤ 2), (by decide : (0 : Int) ≤ 2), rfl, rfl, (by decide : (0 : Int) ≤ 0)⟩⟩
    | 2, e, ei => simp at e; subst e; simp [dm] at ei; subst ei; exact ⟨Int.le_refl 0, by omega, fun _ => rfl, fun _ => ⟨(by decide : (0 : Int) ≤ 3), (by decide : (0 : Int) ≤ 3), rfl, rfl, (by decide : (0 : Int) ≤ 0)⟩⟩
    | 3, e, ei => simp at e; subst e; simp [dm] at ei; subst ei; exact ⟨Int.le_refl 0, by omega, fun _ => rfl, fun h => absurd rfl h⟩
    | p + 4, e, ei => simp at e
theorem df_cl (n : Int) : Cd.Cl [dm n, df] df [0, 0, 1, 0, 1, 2, 1, 0] := by
  have r1 : Cd.Rc [dm n, df] df 1 0 := Cd.Rc.one (l := [dm n, df]) (c := df) 0 0 ⟨24, 0, 1⟩ .zero (by omega) rfl (by simp)
  have r2 : Cd.Rc [dm n, df] df 2 1 := Cd.Rc.one (l := [dm n, df]) (c := df) 1 0 ⟨2, 0, 0⟩ r1 (by omega) rfl (by simp)
  have r3 : Cd.Rc [dm n, df] df 3 0 := Cd.Rc.one (l := [dm n, df]) (c := df) 2 1 ⟨18, 7, 0⟩ r2 (by omega) rfl (by simp)
  have r4 : Cd.Rc [dm n, df] df 4 1 := Cd.Rc.one (l := [dm n, df]) (c := df) 3 0 ⟨2, 0, 0⟩ r3 (by omega) rfl (by simp)
  have r5 : Cd.Rc [dm n, df] df 5 2 := Cd.Rc.one (l := [dm n, df]) (c := df) 4 1 ⟨1, 1, 0⟩ r4 (by omega) rfl (by simp)
  have r6 : Cd.Rc [dm n, df] df 6 1 := Cd.Rc.one (l := [dm n, df]) (c := df) 5 2 ⟨8, 0, 0⟩ r5 (by omega) rfl (by simp)
  have r7 : Cd.Rc [dm n, df] df 7 0 := Cd.Rc.one (l := [dm n, df]) (c := df) 6 1 ⟨19, 1, 1⟩ r6 (by omega) rfl (by simp)
  refine ⟨rfl, rfl, fun p h e => ?_, fun p h i e ne ei => ?_⟩
  · match p, e with
    | 0, e => simp at e; subst e; exact .inr .zero
    | 1, e => simp at e; subst e; exact .inr r1
    | 2, e => simp at e; subst e; exact .inr r2
    | 3, e => simp at e; subst e; exact .inr r3
    | 4, e => simp at e; subst e; exact .inr r4
    | 5, e => simp at e; subst e; exact .inr r5
    | 6, e => simp at e; subst e; exact .inr r6
    | 7, e => simp at e; subst e; exact .inr r7
    | p + 8, e => simp at e
  · match p, e, ei with
    | 0, e, ei => simp at e; subst e; simp [df] at ei; subst ei; exact ⟨Int.le_refl 0, by omega, fun _ => rfl, fun _ => ⟨(by decide : (0 : Int) ≤ 1), (by decide : (0 : Int) ≤ 1), rfl, rfl, (by decide : (0 : Int) ≤ 0)⟩⟩
    | 1, e, ei => simp at e; subst e; simp [df] at ei; subst ei; exact ⟨Int.le_refl 0, by omega, (fun h => by cases h), fun _ => ⟨(by decide : (0 : Int) ≤ 2), (by decide : (0 : Int) ≤ 2), rfl, rfl, (by decide : (0 : Int) ≤ 1)⟩⟩
    | 2, e, ei => simp at e; subst e; simp [df] at ei; subst ei; exact ⟨Int.le_refl 1, by omega, (fun h => by cases h), fun _ => ⟨(by decide : (0 : Int) ≤ 3), (by decide : (0 : Int) ≤ 7), rfl, rfl, (by decide : (0 : Int) ≤ 0)⟩⟩
    | 3, e, ei => simp at e; subst e; simp [df] at ei; subst ei; exact ⟨Int.le_refl 0, by omega, (fun h => by cases h), fun _ => ⟨(by decide : (0 : Int) ≤ 4), (by decide : (0 : Int) ≤ 4), rfl, rfl, (by decide : (0 : Int) ≤ 1)⟩⟩
    | 4, e, ei => simp at e; subst e; simp [df] at ei; subst ei; exact ⟨(by decide : (0 : Int) ≤ 1), by omega, (fun h => by cases h), fun _ => ⟨(by decide : (0 : Int) ≤ 5), (by decide : (0 : Int) ≤ 5), rfl, rfl, (by decide : (0 : Int) ≤ 2)⟩⟩
    | 5, e, ei => simp at e; subst e; simp [df] at ei; subst ei; exact ⟨Int.le_refl 2, by omega, (fun h => by cases h), fun _ => ⟨(by decide : (0 : Int) ≤ 6), (by decide : (0 : Int) ≤ 6), rfl, rfl, (by decide : (0 : Int) ≤ 1)⟩⟩
    | 6, e, ei => simp at e; subst e; simp [df] at ei; subst ei; exact ⟨Int.le_refl 1, by omega, (fun h => by cases h), fun _ => ⟨(by decide : (0 : Int) ≤ 7), (by decide : (0 : Int) ≤ 7), rfl, rfl, (by decide : (0 : Int) ≤ 0)⟩⟩
    | 7, e, ei => simp at e; subst e; simp [df] at ei; subst ei; exact ⟨Int.le_refl 0, by omega, fun _ => rfl, fun h => absurd rfl h⟩
    | p + 8, e, ei => simp at e
theorem dm_fit (n : Int) : Cd.Fit Cd.top [dm n, df] (dm n) := (dm_cl n).fit rfl (fun i hi => by
  simp [dm] at hi
  rcases hi with rfl | rfl | rfl | rfl
  · exact ⟨by simp [Cd.hl, Cd.nm, Cd.numsL], rfl⟩
  · exact ⟨rfl, rfl⟩
  · exact ⟨rfl, rfl⟩
  · exact ⟨rfl, rfl⟩)
theorem df_fit (n : Int) : Cd.Fit Cd.top [dm n, df] df := (df_cl n).fit rfl (fun i hi => by
  simp [df] at hi
  rcases hi with rfl | rfl | rfl | rfl | rfl | rfl | rfl | rfl <;> exact ⟨rfl, rfl⟩)
theorem d_snd (n : Int) : Cd.Snd Cd.top [dm n, df] ((0 : Nat) : Int) := ⟨by simp, by omega, ⟨dm n, rfl, rfl, rfl⟩, fun c hc => by
  simp at hc
  rcases hc with rfl | rfl
  · exact dm_fit n
  · exact df_fit n⟩
theorem dk_wf (n : Nat) (G : Gh) : WF Cd.top (dk n G) := beg_wf (d_snd n) rfl ⟨by decide, by decide⟩ (by simp)
theorem df_ok : df.Ok := ⟨fun i hi => by
  simp [df] at hi
  rcases hi with rfl | rfl | rfl | rfl | rfl | rfl | rfl | rfl <;> exact ⟨⟨by decide, by decide⟩, ⟨by decide, by decide⟩, by decide, by decide⟩, ⟨by decide, by decide⟩, by decide, by decide⟩
theorem dm_ok (n : Nat) (h : n < 70) : (dm n).Ok := ⟨fun i hi => by
  simp [dm] at hi
  rcases hi with rfl | rfl | rfl | rfl
  · exact ⟨(show Cd.I6 1 from ⟨by decide, by decide⟩), (show Cd.I6 (n : Int) from ⟨by omega, by omega⟩), (show Cd.I6 0 from ⟨by decide, by decide⟩)⟩
  all_goals exact ⟨⟨by decide, by decide⟩, ⟨by decide, by decide⟩, by decide, by decide⟩, (show Cd.I6 0 from ⟨by decide, by decide⟩), (show Cd.I6 0 from ⟨by decide, by decide⟩)⟩
/-- What becomes of it. -/
structure DkF (n : Nat) (N : Mc) : Prop where
  ti : N.ticks = dt n
  hi : n + 2 > 50 → N.events = [(4, 4)] ∧ N.frames.length = 50
  lo : ¬ n + 2 > 50 → N.events = [(3, 0)]
theorem dk_end (n : Nat) (h : n < 70) (G : Gh) : EndP (dk n G) (dt n) ∧ DkF n (nth (dt n + 1) (dk n G)) := by
  have t := tst_all G n h
  unfold tst at t
  rw [tkd_nth] at t
  simp only [Bool.and_eq_true, beq_iff_eq] at t
  refine ⟨tkd_end _ _ t.1.1, t.1.2, fun e => ?_, fun e => ?_⟩
  · have := t.2
    rw [if_pos e] at this
    simp only [Bool.and_eq_true, beq_iff_eq] at this
    exact this
  · have := t.2
    rw [if_neg e] at this
    simp only [beq_iff_eq] at this
    exact this
end Vm
end Go.Proofs.YtodpdnidinnjjaaDoor
