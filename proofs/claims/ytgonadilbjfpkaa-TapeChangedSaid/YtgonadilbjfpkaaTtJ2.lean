/- Layer 13: an event's record is taken: without a number. -/
import Derived.Test.YtgonadilbjfpkaaTtI
namespace Go.Proofs.Ytgonadilbjfpkaa
open Go.RowKit
set_option linter.unusedVariables false
set_option linter.unusedSimpArgs false
set_option maxRecDepth 100000 in
set_option maxHeartbeats 4000000 in
theorem event_no (w0 w : World) (g : Nat) (a : Option Addr) (c : Nat) (b : List Int) (k : Nat) (tv cv ev : Value) (s : Int) (t : Tp.Tr) (h : TrR w0 g a c b k tv cv ev s t w) (hk : k < b.length) (kd : Int) (hn : Tp.hasN kd = false) (hE : t.events.length ≤ 1000000) :
    Calls Try.prog 77 #[.pointer (some ⟨g, 0, none⟩), .int .i64 kd] w fun e w' => e = .returned (.tuple #[]) ∧ ∃ tv cv ev, TrR w0 g a c b (k + 1) tv cv ev s ⟨t.ticks, t.counts, t.events ++ [⟨kd, 0⟩]⟩ w' := by
  have hln := h.p.ln
  have a1 := h.p.c1
  have af := h.p.fz 1
  have H1 := hidT (h.setK (k' := k + 1) hk)
  have ek : ((k + 1 : Nat) : Int) = (k : Int) + 1 := by omega
  rw [ek] at H1
  obtain ⟨W1, hW1⟩ : ∃ W, W = w.setCell ⟨g, 1, none⟩ (.int .i64 ((k : Int) + 1)) := ⟨_, rfl⟩
  rw [← hW1] at H1
  clear ek
  have E2 := hidT (numbered_any kd)
  rw [hn] at E2
  have hT1 := hidT hE
  clear hE
  obtain ⟨i0, hi, hz0, hz1, hz2⟩ := info_of infoIt
  clear h
  go_enter Try.func77, Try.ntmps77
  go_upto_region 2 with fail
  rw [← hW1]
  clear hW1 a1 af
  go_wp2_with fail
  refine (E2.out _).mono ?_
  rintro e w2 ⟨rfl, rfl⟩
  have B5 := heap_alloc_new W1 (.cells #[.int .i64 kd, .int .i64 0] 96)
  have H5 := hidT (H1.out.later ((Below.refl _ _).alloc (Nat.le_refl _) (.cells #[.int .i64 kd, .int .i64 0] 96)))
  generalize W1.alloc (.cells #[.int .i64 kd, .int .i64 0] 96) = wc at *
  have m0 : wc.cell? ⟨W1.heap.size, 0, none⟩ = some (.int .i64 kd) := by simp [World.cell?, B5]
  have m1 : wc.cell? ⟨W1.heap.size, 1, none⟩ = some (.int .i64 0) := by simp [World.cell?, B5]
  clear B5 H1
  generalize W1.heap.size = M5 at *
  obtain ⟨ea, ec, hv3⟩ := ownShT H5.out.oe
  subst hv3
  obtain ⟨n0, n1, n2, n3⟩ := H5.out.cells
  have hlt5 := H5.out.p.lt
  have EPT := hidT (fun (W : World) (fst : Int) (q : Below wc.heap.size wc W) => putE_any W w0.heap.size g fst (.slice ea t.events.length ec) t.events ⟨kd, 0⟩ (H5.out.later q).oe (H5.out.later q).bl.size hT1.out)
  obtain ⟨ne, hne⟩ : ∃ n, n = t.events.length := ⟨_, rfl⟩
  have HNE := hidT hne
  rw [← hne] at EPT H5 n2
  clear hne hT1
  go_upto_region 5 with fail
  go_region_with (first
    | (go_at_call 80; refine Calls.mono (EPT.out _ _ (by go_grown)) ?_; rintro e w6 ⟨v6, rfl, o6, k6⟩; have F6 := (H5.out.later (by go_grown)).grE o6 k6 (congrArg (· + 1) HNE.out) rfl; have F6a := F6.1; have F6b := F6.2.1; have H6 := hidT F6.2.2; have F6s := ownShT o6; obtain ⟨va6, vc6, hv6⟩ := F6s; subst hv6; clear F6 o6 k6))
  all_goals go_wp2_with fail
  all_goals refine ⟨rfl, .tuple #[], by simp [results, Try.results77, go_sem], rfl, ?_⟩
  all_goals exact ⟨_, _, _, H6.out⟩
end Go.Proofs.Ytgonadilbjfpkaa
