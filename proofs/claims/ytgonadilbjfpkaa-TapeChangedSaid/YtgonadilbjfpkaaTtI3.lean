/- Layer 13: a tick's record: its third number is wrong. -/
import Derived.Test.YtgonadilbjfpkaaTtI
namespace Go.Proofs.Ytgonadilbjfpkaa
open Go.RowKit
set_option linter.unusedVariables false
set_option linter.unusedSimpArgs false
set_option maxRecDepth 100000 in
set_option maxHeartbeats 4000000 in
theorem tick_b3 (w0 w : World) (g : Nat) (a : Option Addr) (c : Nat) (b : List Int) (k : Nat) (tv cv ev : Value) (s : Int) (t : Tp.Tr) (h : TrR w0 g a c b k tv cv ev s t w) (hk : k < b.length) (kd : Int) (z1 k1 z2 k2 j : Nat) (x : Int) (h1 : Tp.tnum b 0 (k + 1) = .good z1 k1) (h2 : Tp.tnum b 0 k1 = .good z2 k2) (h3 : Tp.tnum b 1 k2 = .bad j x) :
    Calls Try.prog 76 #[.pointer (some ⟨g, 0, none⟩), .int .i64 kd] w fun e w' => e = tpPan x ∧ ∃ tv cv ev, TrR w0 g a c b j tv cv ev s t w' := by
  have hln := h.p.ln
  have a1 := h.p.c1
  have af := h.p.fz 1
  have H1 := hidT (h.setK (k' := k + 1) hk)
  have ek : ((k + 1 : Nat) : Int) = (k : Int) + 1 := by omega
  rw [ek] at H1
  obtain ⟨W1, hW1⟩ : ∃ W, W = w.setCell ⟨g, 1, none⟩ (.int .i64 ((k : Int) + 1)) := ⟨_, rfl⟩
  rw [← hW1] at H1
  clear ek
  have E1 : Hid (∀ W, TrR w0 g a c b (k + 1) tv cv ev s t W → Calls Try.prog 59 #[.pointer (some ⟨g, 0, none⟩), .int .u64 0, .int .u64 2147483647, .int .i64 110] W fun e w' => e = .returned (.int .i64 (z1 : Nat)) ∧ PlQ g 75 a c b [tv, cv, ev, .int .i64 s] W k1 w') := fun W q => (countT W g _ a c b _ _ q.p 0).1 _ _ h1
  have E2 : Hid (∀ W, TrR w0 g a c b k1 tv cv ev s t W → Calls Try.prog 59 #[.pointer (some ⟨g, 0, none⟩), .int .u64 0, .int .u64 2147483647, .int .i64 110] W fun e w' => e = .returned (.int .i64 (z2 : Nat)) ∧ PlQ g 75 a c b [tv, cv, ev, .int .i64 s] W k2 w') := fun W q => (countT W g _ a c b _ _ q.p 0).1 _ _ h2
  have E3 : Hid (∀ W, TrR w0 g a c b k2 tv cv ev s t W → Calls Try.prog 59 #[.pointer (some ⟨g, 0, none⟩), .int .u64 1, .int .u64 2147483647, .int .i64 110] W fun e w' => e = tpPan x ∧ PlQ g 75 a c b [tv, cv, ev, .int .i64 s] W j w') := fun W q => (countT W g _ a c b _ _ q.p 1).2 _ _ h3
  clear h1 h2 h3
  clear h
  go_enter Try.func76, Try.ntmps76
  go_upto_region 2 with fail
  rw [← hW1]
  clear hW1 a1 af
  go_region_with (first
    | (have qq := hF; go_at_call 59; refine Calls.mono (show Calls _ _ _ _ (fun e _ => e = .returned (.int .i64 0) ∧ True) from hF.out _) ?_; rintro e w5 ⟨rfl, -⟩)
    | (have qq := H3; go_at_call 59; refine shutT (E3.out _ (H3.out.later (by go_grown))) ?_ (.int .i64 0) ?_; (unfold tpPan; rintro e w9 ⟨rfl, q⟩; exact ⟨rfl, rfl, _, _, _, (H3.out.later (by go_grown)).go q⟩); intro hF; have hz8 : ∀ (W : World) (q : Addr), W.frozen? q = false := fun _ _ => hF.out _; have hz9 : ∀ (W : World) (q : Addr), W.cell? q = some (.int .i64 0) := fun _ _ => hF.out _)
    | (have qq := H2; go_at_call 59; refine Calls.mono (E2.out _ (H2.out.later (by go_grown))) ?_; rintro e w2 ⟨rfl, q2⟩; have H3 := hidT ((H2.out.later (by go_grown)).go q2); clear q2)
    | (go_at_call 59; refine Calls.mono (E1.out _ (H1.out.later (by go_grown))) ?_; rintro e w1 ⟨rfl, q1⟩; have H2 := hidT ((H1.out.later (by go_grown)).go q1); clear q1))
  all_goals exact hF.out _
end Go.Proofs.Ytgonadilbjfpkaa
