/- Layer 13: an event's record is taken: its number is wrong. -/
import Derived.Test.YtgonadilbjfpkaaTtI
namespace Go.Proofs.Ytgonadilbjfpkaa
open Go.RowKit
set_option linter.unusedVariables false
set_option linter.unusedSimpArgs false
set_option maxRecDepth 100000 in
set_option maxHeartbeats 4000000 in
theorem event_bad (w0 w : World) (g : Nat) (a : Option Addr) (c : Nat) (b : List Int) (k : Nat) (tv cv ev : Value) (s : Int) (t : Tp.Tr) (h : TrR w0 g a c b k tv cv ev s t w) (hk : k < b.length) (kd : Int) (hn : Tp.hasN kd = true) (x : Int) (h1 : Tp.rdF 0 0 (b.drop (k + 1)) = .inr x) :
    Calls Try.prog 77 #[.pointer (some ⟨g, 0, none⟩), .int .i64 kd] w fun e w' => e = tpPan x ∧ ∃ tv cv ev, TrR w0 g a c b (k + 1) tv cv ev s t w' := by
  have hln := h.p.ln
  have a1 := h.p.c1
  have af := h.p.fz 1
  have H1 := hidT (h.setK (k' := k + 1) hk)
  have ek : ((k + 1 : Nat) : Int) = (k : Int) + 1 := by omega
  rw [ek] at H1
  obtain ⟨W1, hW1⟩ : ∃ W, W = w.setCell ⟨g, 1, none⟩ (.int .i64 ((k : Int) + 1)) := ⟨_, rfl⟩
  rw [← hW1] at H1
  clear ek
  have E2 := hidT (numbered_any kd)
  rw [hn] at E2
  have E1 : Hid (∀ W, TrR w0 g a c b (k + 1) tv cv ev s t W → Calls Try.prog 60 #[.pointer (some ⟨g, 0, none⟩)] W fun e w' => e = tpPan x ∧ PlQ g 75 a c b [tv, cv, ev, .int .i64 s] W (k + 1) w') := fun W q => by have := number_any W g _ a c b _ _ q.p; rw [h1] at this; exact this
  clear h1
  obtain ⟨i0, hi, hz0, hz1, hz2⟩ := info_of infoIt
  clear h
  go_enter Try.func77, Try.ntmps77
  go_upto_region 2 with fail
  rw [← hW1]
  clear hW1 a1 af
  go_wp2_with fail
  refine (E2.out _).mono ?_
  rintro e w2 ⟨rfl, rfl⟩
  go_wp2_with fail
  refine (E1.out _ (H1.out.later (by go_grown))).mono ?_
  rintro e w3 ⟨rfl, q3⟩
  have H3 := hidT ((H1.out.later (by go_grown)).go q3)
  unfold tpPan
  clear q3
  go_wp2_with fail
  exact ⟨rfl, rfl, _, _, _, H3.out⟩
end Go.Proofs.Ytgonadilbjfpkaa
