/- Layer 9: a machine run to its end. -/
import Derived.Test.YtodpdnidinnjjaaDoorTVmOc
namespace Go.Proofs.YtodpdnidinnjjaaDoor
open Go.RowKit
set_option linter.unusedVariables false
set_option linter.unusedSimpArgs false

namespace Vm
/-- So many steps. -/
def nth : Nat → Mc → Mc
  | 0, M => M
  | n + 1, M => nth n (step M)
theorem nth_succ : ∀ (n : Nat) (M : Mc), nth (n + 1) M = step (nth n M)
  | 0, M => rfl
  | n + 1, M => by
    rw [nth, nth_succ n (step M)]
    rfl
/-- Behind k ticks it ends. -/
structure EndP (M : Mc) (k : Nat) : Prop where
  tk : ∀ j, j < k → ticked (nth j M) = true
  no : ticked (nth k M) = false
theorem EndP.uniq {M : Mc} {k k' : Nat} (h : EndP M k) (h' : EndP M k') : k = k' := by
  rcases Nat.lt_trichotomy k k' with e | e | e
  · have := h'.tk k e
    rw [h.no] at this
    cases this
  · exact e
  · have := h.tk k' e
    rw [h'.no] at this
    cases this
/-- So many ticks on. -/
structure On (B : Int) (M : Mc) (j : Nat) : Prop where
  wf : WF B (nth j M)
  run : (nth j M).run = true
  ti : (nth j M).ticks = M.ticks + j
  fu : (nth j M).fuel = M.fuel - j
  co : (nth j M).codes = M.codes
  inp : (nth j M).input = M.input
  ev : ∃ t, (nth j M).events = M.events ++ t ∧ t.length ≤ j * 1048577 ∧ ∀ e ∈ t, e.1 < 3
theorem on_all {B : Int} {M : Mc} (w : WF B M) (hr : M.run = true) : ∀ (j : Nat), (∀ i, i < j → ticked (nth i M) = true) → On B M j
  | 0, _ => ⟨w, hr, by simp [nth], by simp [nth], rfl, rfl, [], by simp [nth], by simp, fun e he => by simp at he⟩
  | j + 1, h => by
    have o := on_all w hr j fun i hi => h i (by omega)
    have t := h j (by omega)
    obtain ⟨g, g1, g2⟩ := step_gd o.wf o.run
    obtain ⟨e1, e2⟩ := g2 t
    have tk := g.tk
    obtain ⟨t0, a1, a2, a3⟩ := o.ev
    obtain ⟨t1, b1, b2, b3, _⟩ := g.ev
    have e0 := nth_succ j M
    refine ⟨by rw [e0]; exact g.wf e2, by rw [e0]; exact e2, ?_, ?_, by rw [e0]; exact g.co.trans o.co, by rw [e0]; exact g.inp.trans o.inp, t0 ++ t1, ?_, ?_, fun e he => ?_⟩
    · rw [e0, e1, o.ti]; omega
    · have := o.fu
      rw [e0]
      omega
    · rw [e0, b1, a1, List.append_assoc]
    · rw [List.length_append]; omega
    · rcases List.mem_append.1 he with he | he
      · exact a3 e he
      · exact b3 e2 e he
theorem On.le {B : Int} {M : Mc} {j : Nat} (o : On B M j) : (j : Int) ≤ M.fuel := by
  have := o.wf.fu
  have := o.fu
  omega
/-- What is left at the end. -/
structure Dn (B : Int) (M : Mc) (k : Nat) : Prop where
  on : On B M k
  run : (nth (k + 1) M).run = false
  ti : (nth (k + 1) M).ticks = M.ticks + k
  ev : ∃ t e, (nth (k + 1) M).events = M.events ++ t ++ [e] ∧ t.length ≤ (k + 1) * 1048577 ∧ (∀ x ∈ t, x.1 < 3) ∧ 3 ≤ e.1
theorem EndP.dn {B : Int} {M : Mc} {k : Nat} (h : EndP M k) (w : WF B M) (hr : M.run = true) : Dn B M k := by
  have o := on_all w hr k h.tk
  obtain ⟨g, g1, g2⟩ := step_gd o.wf o.run
  have hrun : (step (nth k M)).run = false := by
    cases e : (step (nth k M)).run with
    | false => rfl
    | true => have := g1 e; rw [h.no] at this; cases this
  obtain ⟨t0, a1, a2, a3⟩ := o.ev
  obtain ⟨t1, b1, b2, _, b4⟩ := g.ev
  obtain ⟨s, e, hs, b5, b6⟩ := b4 hrun
  refine ⟨o, by rw [nth_succ]; exact hrun, ?_, t0 ++ s, e, ?_, ?_, fun x hx => ?_, b6⟩
  · rw [nth_succ]
    rcases g.tk with h1 | h1
    · rw [h1.1, o.ti]
    · rw [hrun] at h1
      exact absurd h1.2.2.2 (by decide)
  · rw [nth_succ, b1, a1, hs]
    simp
  · rw [hs] at b2
    rw [List.length_append] at b2 ⊢
    simp at b2
    omega
  · rcases List.mem_append.1 hx with hx | hx
    · exact a3 x hx
    · exact b5 x hx
end Vm
theorem Frm.refl (m : Nat) (w : World) (V : VmV) : Frm m w w V V := ⟨Below.refl _ _, fun _ _ _ _ => rfl, fun _ o => .inl o⟩
theorem Frm.trans {m : Nat} {w w1 w2 : World} {V V1 V2 : VmV} (f : Frm m w w1 V V1) (g : Frm m w1 w2 V1 V2) : Frm m w w2 V V2 := by
  refine ⟨f.b.trans g.b, fun k hk n o => ?_, fun k o => ?_⟩
  · refine (g.eq k (Nat.lt_of_lt_of_le hk f.b.size) n fun o1 => ?_).trans (f.eq k hk n o)
    rcases f.ow k o1 with h | h
    · exact o h
    · omega
  · rcases g.ow k o with h | h
    · exact f.ow k h
    · exact .inr (Nat.le_trans f.b.size h)
theorem Frm.after {m : Nat} {w w1 w2 : World} {V V1 : VmV} (f : Frm m w w1 V V1) (hm : m < w.heap.size) (b : Below w1.heap.size w1 w2) : Frm m w w2 V V1 :=
  ⟨f.b.trans (b.mono (Nat.le_of_lt (Nat.lt_of_lt_of_le hm f.b.size))), fun k hk n o => (b.block k (Nat.lt_of_lt_of_le hk f.b.size)).trans (f.eq k hk n o), f.ow⟩
/-- While it is run to its end. -/
def EnL (lo m : Nat) (w : World) (V : VmV) (M : Vm.Mc) (B : Int) (gk : Nat) (i : Value) (wr : World) : Prop := ∃ (j : Nat) (V1 : VmV), i = .int .i64 j ∧ j + gk = M.fuel.toNat + 1 ∧ Hid (VmO lo m wr V1 (Vm.nth j M) ∧ Frm m w wr V V1 ∧ Vm.On B M j)
set_option maxRecDepth 100000 in
set_option maxHeartbeats 8000000 in
theorem oEnd (lo m : Nat) (w : World) (V : VmV) (M : Vm.Mc) (B : Int) (most : Int) (h : VmO lo m w V M) (wf : Vm.WF B M) (hrun : M.run = true) (hm : M.fuel ≤ most) (hm2 : most ≤ 10000000) (he : ∀ j, (∀ i, i < j → Vm.ticked (Vm.nth i M) = true) → (j : Int) ≤ M.fuel → (Vm.nth j M).events.length + 1048577 ≤ 1000000000) :
    Calls Tryd.prog 14 #[.pointer (some ⟨m, 0, none⟩), .int .i64 most] w fun e w' => e = .returned (.bool true) ∧ ∃ k V', Vm.EndP M k ∧ VmO lo m w' V' (Vm.nth (k + 1) M) ∧ Frm m w w' V V' := by
  have HO : Hid (VmO lo m w V M ∧ Frm m w w V V ∧ Vm.On B M 0) := ⟨h, Frm.refl _ _ _, Vm.on_all wf hrun 0 (fun i hi => by omega)⟩
  have HE : Hid (∀ j, (∀ i, i < j → Vm.ticked (Vm.nth i M) = true) → (j : Int) ≤ M.fuel → (Vm.nth j M).events.length + 1048577 ≤ 1000000000) := he
  have HW : Hid (Vm.WF B M ∧ M.run = true) := ⟨wf, hrun⟩
  have h0 := wf.fu
  obtain ⟨F, hF⟩ : ∃ F : Nat, M.fuel = F := ⟨M.fuel.toNat, by omega⟩
  have HF : Hid (M.fuel = F) := hF
  rw [hF] at hm
  have ML : Hid (m < w.heap.size) := h.lt
  clear h wf hrun he h0 hF
  go_enter Tryd.func14, Tryd.ntmps14
  go_wp2_with fail
  go_loopg [5] (F + 1) (fun gk i wr => ∃ (j : Nat) (V1 : VmV), i = .int .i64 j ∧ j + gk = F + 1 ∧ Hid ((∀ i, i < j → Vm.ticked (Vm.nth i M) = true) ∧ VmO lo m wr V1 (Vm.nth j M) ∧ Frm m w wr V V1))
  case atStart => exact ⟨0, V, rfl, by omega, (fun i hi => by omega), HO.out.1, HO.out.2.1⟩
  case round =>
    obtain ⟨j, V1, rfl, hj, HJ⟩ := hrel
    clear HO
    have ON := Vm.on_all HW.out.1 HW.out.2 j HJ.out.1
    have hle := ON.le
    rw [HF.out] at hle
    have hjm : (j : Int) ≤ most := by omega
    have ES : Hid _ := oStep lo m wr V1 (Vm.nth j M) B HJ.out.2.1 ON.wf ON.run (HE.out j HJ.out.1 ON.le)
    cases ht : Vm.ticked (Vm.nth j M) with
    | true =>
      rw [ht] at ES
      have HT : Hid (Vm.ticked (Vm.nth j M) = true) := ht
      clear ON ht
      go_wp2_with fail
      refine Calls.mono ES.out ?_
      rintro e1 w1 ⟨rfl, V2, h2, f2⟩
      have NX : Hid ((∀ i, i < j + 1 → Vm.ticked (Vm.nth i M) = true) ∧ VmO lo m w1 V2 (Vm.nth (j + 1) M) ∧ Frm m w w1 V V2) := ⟨fun i hi => by
        rcases Nat.lt_succ_iff_lt_or_eq.1 hi with h | h
        · exact HJ.out.1 i h
        · rw [h]; exact HT.out, by rw [Vm.nth_succ]; exact h2, HJ.out.2.2.trans f2⟩
      have hfj := (Vm.on_all HW.out.1 HW.out.2 (j + 1) NX.out.1).le
      rw [HF.out] at hfj
      clear h2 f2 ES HJ HT
      go_wp2_with fail
      go_roundg (F - j)
      case measure => omega
      case rel => exact ⟨j + 1, V2, by go_num, by omega, NX⟩
    | false =>
      rw [ht] at ES
      have EP : Hid (Vm.EndP M j) := ⟨HJ.out.1, ht⟩
      clear ON ht
      go_wp2_with fail
      refine Calls.mono ES.out ?_
      rintro e1 w1 ⟨rfl, V2, h2, f2⟩
      rw [← Vm.nth_succ] at h2
      have D := EP.out.dn HW.out.1 HW.out.2
      have EE : Hid (Calls Tryd.prog 28 #[.pointer (some ⟨m, 0, none⟩)] w1 fun e w' => e = .returned (.bool true) ∧ Below w1.heap.size w1 w') := (oEnded lo m w1 V2 _ h2).mono fun e w' ⟨a, b⟩ => ⟨by rw [a, D.run]; rfl, b⟩
      have H2 : Hid (VmO lo m w1 V2 (Vm.nth (j + 1) M)) := h2
      have F2 : Hid (Frm m w w1 V V2) := HJ.out.2.2.trans f2
      clear h2 f2 D ES HJ
      go_wp2_with fail
      refine Calls.mono EE.out ?_
      rintro e3 w3 ⟨rfl, b3⟩
      have FIN : Hid (∃ k V', Vm.EndP M k ∧ VmO lo m w3 V' (Vm.nth (k + 1) M) ∧ Frm m w w3 V V') := ⟨j, V2, EP.out, H2.out.later b3, F2.out.after ML.out b3⟩
      clear b3 EE H2 F2
      go_wp2_with fail
      go_ret
      exact ⟨rfl, FIN.out⟩
end Go.Proofs.YtodpdnidinnjjaaDoor
