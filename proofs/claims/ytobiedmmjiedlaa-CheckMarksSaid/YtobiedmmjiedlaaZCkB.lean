/- Layer 4: attempt. -/
/- Layer 4: built, for every expression; unaryType, binaryType. -/
import Derived.Test.YtobiedmmjiedlaaZRdN
import Derived.Defers
import Derived.Recover
namespace Go.Proofs.Ytobiedmmjiedlaa
open Go.RowKit

def ckPan (er : Int) : Ending := .panicked [{ v := .iface 40 (.int .i64 er), recovered := false }]
set_option maxRecDepth 100000 in
set_option maxHeartbeats 1000000 in
theorem ck_idle (v0 : Value) (w : World) :
    CallsD Try.prog 37 #[v0] .returning w fun e u' w' => e = .returned (.tuple #[]) ∧ u' = .returning ∧ w' = w := by
  refine callsD_of_wpS Try.func37 rfl fun c₀ cs hu => ?_
  apply wpS_seq
  apply wpS_region
  simp [wpOpsS, go_sem, recoverD, hu, Try.ntmps37, Exit.thenS]
  refine wpS_of_wp ?_
  change Code.wp _ _ _ { tmps := #[v0, .nilIface, .nilIface, undef, undef, undef, undef], defers := [] } _
  go_wp2_with fail
  cases c₀
  simp_all [bodyPostS, results, Try.results37]
theorem ck_ta (er : Int) (w : World) : (Instr.typeAssert (.iface 40 (.int .i64 er)) 20 40 false).run Try.prog w = .ok (.int .i64 er) w := by kernel_rfl
set_option maxRecDepth 100000 in
set_option maxHeartbeats 1000000 in
theorem ck_thrown (n : Nat) (er : Int) (x : Value) (w : World) (hn : w.cell? ⟨n, 0, none⟩ = some x) (fn : w.frozen? ⟨n, 0, none⟩ = false) :
    CallsD Try.prog 37 #[.pointer (some ⟨n, 0, none⟩)] (.panicking [{ v := .iface 40 (.int .i64 er), recovered := false }]) w fun e u' w' =>
      e = .returned (.tuple #[]) ∧ u' = .panicking [{ v := .iface 40 (.int .i64 er), recovered := true }] ∧ w'.cell? ⟨n, 0, none⟩ = some (.int .i64 er) ∧ Keep (fun g => g = n) w w' := by
  refine callsD_of_wpS Try.func37 rfl fun c₀ cs hu => ?_
  apply wpS_seq
  apply wpS_region
  simp [wpOpsS, go_sem, recoverD, hu, Try.ntmps37, Exit.thenS]
  have kt := ck_ta
  refine wpS_of_wp ?_
  change Code.wp _ _ _ { tmps := #[.pointer (some ⟨n, 0, none⟩), .iface 40 (.int .i64 er), .iface 40 (.int .i64 er), undef, undef, undef, undef], defers := [] } _
  go_wp2_with fail
  refine ⟨rfl, _, rfl, .tuple #[], by simp [results, Try.results37, go_sem], rfl, rfl, ?_, ?_⟩
  · simp [go_sem, hn]
  · exact (Keep.refl (fun g => g = n) w).set (a := ⟨n, 0, none⟩) (.inr rfl) _
def ck1box (w : World) : World := w.alloc (.cells #[.int .i64 0] 40)
set_option maxRecDepth 100000 in
set_option maxHeartbeats 1000000 in
theorem ckAttempt_ok (F : FuncId) (c : Array Value) (w : World) (D : Nat → Prop) (hD : ∀ g, D g → g < w.heap.size) (C : World → Prop) (hF : ∀ w, (callFunc F c).run Try.prog w = .ok (.enter F c) w)
    (hc : Calls Try.prog F c (ck1box w) fun e w' => e = .returned (.tuple #[]) ∧ Keep D (ck1box w) w' ∧ C w') :
    Calls Try.prog 24 #[.func (.func F) #[] c] w fun e w' => e = .returned (.int .i64 0) ∧ ∃ w1, Keep D (ck1box w) w1 ∧ C w1 ∧ w' = w1.setCell ⟨w.heap.size, 0, none⟩ (.int .i64 0) := by
  have hmf : ∀ (fn : Fn) (first cap : Array Value) (w : World), (Instr.makeFunc fn first cap).run Try.prog w = .ok (.func fn first cap) w := fun _ _ _ _ => rfl
  go_enter_defers Try.func24, Try.ntmps24
  have HC : Hid _ := hc
  have HD : Hid (∀ g, D g → g < w.heap.size) := hD
  clear hc hD
  go_wp2_with fail
  refine Calls.mono HC.out ?_
  rintro e w1 ⟨rfl, k1, c1⟩
  have a0 : w1.cell? ⟨w.heap.size, 0, none⟩ = some (.int .i64 0) := (k1.cell (by simp [ck1box]) (fun e => absurd (HD.out _ e) (by simp))).trans (by simp [ck1box, go_sem])
  have f0 : w1.frozen? ⟨w.heap.size, 0, none⟩ = false := (k1.frozen (by simp [ck1box]) (fun e => absurd (HD.out _ e) (by simp))).trans (by simp [ck1box, go_sem])
  have K1 : Hid _ := k1
  have C1 : Hid _ := c1
  clear k1 c1
  go_wp2_with fail
  refine leaves_cons (f := 37) (args := #[.pointer (some ⟨w.heap.size, 0, none⟩)]) (by simp) (by simp [go_sem]) ?_
  refine CallsD.mono (ck_idle _ _) ?_
  rintro e u' w'' ⟨rfl, rfl, rfl⟩
  simp [Leaves, settle, results, Try.results24, go_sem, a0]
  exact ⟨w1, K1.out, C1.out, rfl⟩
set_option maxRecDepth 100000 in
set_option maxHeartbeats 1000000 in
theorem ckAttempt_bad (er : Int) (F : FuncId) (c : Array Value) (w : World) (D : Nat → Prop) (hD : ∀ g, D g → g < w.heap.size) (C : World → Prop) (hF : ∀ w, (callFunc F c).run Try.prog w = .ok (.enter F c) w)
    (hc : Calls Try.prog F c (ck1box w) fun e w' => e = ckPan er ∧ Keep D (ck1box w) w' ∧ C w') :
    Calls Try.prog 24 #[.func (.func F) #[] c] w fun e w' => e = .returned (.int .i64 er) ∧ ∃ w1, Keep D (ck1box w) w1 ∧ C w1 ∧ Keep (fun g => g = w.heap.size) w1 w' := by
  have hmf : ∀ (fn : Fn) (first cap : Array Value) (w : World), (Instr.makeFunc fn first cap).run Try.prog w = .ok (.func fn first cap) w := fun _ _ _ _ => rfl
  go_enter_defers Try.func24, Try.ntmps24
  have HC : Hid _ := hc
  have HD : Hid (∀ g, D g → g < w.heap.size) := hD
  clear hc hD
  go_wp2_with fail
  refine Calls.mono HC.out ?_
  rintro e w1 ⟨rfl, k1, c1⟩
  have a0 : w1.cell? ⟨w.heap.size, 0, none⟩ = some (.int .i64 0) := (k1.cell (by simp [ck1box]) (fun e => absurd (HD.out _ e) (by simp))).trans (by simp [ck1box, go_sem])
  have f0 : w1.frozen? ⟨w.heap.size, 0, none⟩ = false := (k1.frozen (by simp [ck1box]) (fun e => absurd (HD.out _ e) (by simp))).trans (by simp [ck1box, go_sem])
  have K1 : Hid _ := k1
  have C1 : Hid _ := c1
  clear k1 c1
  unfold ckPan
  go_wp2_with fail
  refine leaves_cons (f := 37) (args := #[.pointer (some ⟨w.heap.size, 0, none⟩)]) (by simp) (by simp [go_sem]) ?_
  refine CallsD.mono (ck_thrown w.heap.size er _ w1 a0 f0) ?_
  rintro e u' w'' ⟨rfl, rfl, q0, kk⟩
  simp [Leaves, settle, results, Try.results24, go_sem, q0]
  exact ⟨w1, K1.out, C1.out, kk⟩
/-- must. -/
theorem ckMust_yes (er : Int) (w : World) : Calls Try.prog 40 #[.bool true, .int .i64 er] w fun e w' => e = .returned (.tuple #[]) ∧ w' = w := by
  go_enter Try.func40, Try.ntmps40
  go_wp2_with fail
  exact ⟨rfl, .tuple #[], by simp [results, Try.results40, go_sem], rfl, rfl⟩
theorem ckMust_no (er : Int) (w : World) : Calls Try.prog 40 #[.bool false, .int .i64 er] w fun e w' => e = ckPan er ∧ Below w.heap.size w w' := by
  unfold ckPan
  go_enter Try.func40, Try.ntmps40
  go_wp2_with fail
  exact ⟨rfl, rfl, Below.refl _ _⟩
end Go.Proofs.Ytobiedmmjiedlaa

namespace Go.Proofs.Ytobiedmmjiedlaa
open Go.RowKit

/-- Built as it must be: its kind, its number, how many parts. -/
def ckBu (k m : Int) (c : Nat) : Bool :=
  if k = 1 then decide (0 ≤ m) && ((c : Int) == 0) else if k = 2 then ((m == 0) || (m == 1)) && ((c : Int) == 0)
  else if k = 3 then ((c : Int) == 0) else if k = 4 then ((c : Int) == 1) else if k = 5 then ((c : Int) == 1) else if k = 6 then ((c : Int) == 2) else false
set_option maxRecDepth 100000 in
set_option maxHeartbeats 2000000 in
theorem ckBuilt_i1 (n : List UInt8) (sa : Option Addr) (sn sc : Nat) (w : World) (m : Int) (hm : 0 ≤ m) : Calls Try.prog 41 #[.agg #[.int .i64 1, .string ⟨n.toArray⟩, .int .i64 m, .slice sa sn sc]] w fun e w' => e = .returned (.bool (ckBu 1 m sn)) ∧ Below w.heap.size w w' := by
  have H : Hid (ckBu 1 m sn = ((sn : Int) == 0)) := by unfold Hid ckBu; simp [hm]
  go_enter Try.func41, Try.ntmps41
  go_wp2_with fail
  go_ret
  exact ⟨ret_bool H.out.symm, by go_grown⟩
set_option maxRecDepth 100000 in
set_option maxHeartbeats 2000000 in
theorem ckBuilt_i0 (n : List UInt8) (sa : Option Addr) (sn sc : Nat) (w : World) (m : Int) (hm : ¬ 0 ≤ m) : Calls Try.prog 41 #[.agg #[.int .i64 1, .string ⟨n.toArray⟩, .int .i64 m, .slice sa sn sc]] w fun e w' => e = .returned (.bool (ckBu 1 m sn)) ∧ Below w.heap.size w w' := by
  have H : Hid (ckBu 1 m sn = false) := by unfold Hid ckBu; simp [hm]
  have hm2 : decide (0 ≤ m) = false := decide_eq_false hm
  go_enter Try.func41, Try.ntmps41
  go_wp2_with fail
  go_ret
  exact ⟨ret_bool H.out.symm, by go_grown⟩
set_option maxRecDepth 100000 in
set_option maxHeartbeats 2000000 in
theorem ckBuilt_b0 (n : List UInt8) (sa : Option Addr) (sn sc : Nat) (w : World) : Calls Try.prog 41 #[.agg #[.int .i64 2, .string ⟨n.toArray⟩, .int .i64 0, .slice sa sn sc]] w fun e w' => e = .returned (.bool (ckBu 2 0 sn)) ∧ Below w.heap.size w w' := by
  have H : Hid (ckBu 2 0 sn = ((sn : Int) == 0)) := by unfold Hid ckBu; simp
  go_enter Try.func41, Try.ntmps41
  go_wp2_with fail
  go_ret
  exact ⟨ret_bool H.out.symm, by go_grown⟩
set_option maxRecDepth 100000 in
set_option maxHeartbeats 2000000 in
theorem ckBuilt_b1 (n : List UInt8) (sa : Option Addr) (sn sc : Nat) (w : World) : Calls Try.prog 41 #[.agg #[.int .i64 2, .string ⟨n.toArray⟩, .int .i64 1, .slice sa sn sc]] w fun e w' => e = .returned (.bool (ckBu 2 1 sn)) ∧ Below w.heap.size w w' := by
  have H : Hid (ckBu 2 1 sn = ((sn : Int) == 0)) := by unfold Hid ckBu; simp
  go_enter Try.func41, Try.ntmps41
  go_wp2_with fail
  go_ret
  exact ⟨ret_bool H.out.symm, by go_grown⟩
set_option maxRecDepth 100000 in
set_option maxHeartbeats 2000000 in
theorem ckBuilt_b2 (n : List UInt8) (sa : Option Addr) (sn sc : Nat) (w : World) (m : Int) (h0 : ¬ m = 0) (h1 : ¬ m = 1) : Calls Try.prog 41 #[.agg #[.int .i64 2, .string ⟨n.toArray⟩, .int .i64 m, .slice sa sn sc]] w fun e w' => e = .returned (.bool (ckBu 2 m sn)) ∧ Below w.heap.size w w' := by
  have H : Hid (ckBu 2 m sn = false) := by unfold Hid ckBu; simp [h0, h1]
  go_enter Try.func41, Try.ntmps41
  go_wp2_with fail
  go_ret
  exact ⟨ret_bool H.out.symm, by go_grown⟩
set_option maxRecDepth 100000 in
set_option maxHeartbeats 2000000 in
theorem ckBuilt_k3 (n : List UInt8) (sa : Option Addr) (sn sc : Nat) (w : World) (m : Int) : Calls Try.prog 41 #[.agg #[.int .i64 3, .string ⟨n.toArray⟩, .int .i64 m, .slice sa sn sc]] w fun e w' => e = .returned (.bool (ckBu 3 m sn)) ∧ Below w.heap.size w w' := by
  have H : Hid (ckBu 3 m sn = ((sn : Int) == 0)) := by unfold Hid ckBu; simp
  go_enter Try.func41, Try.ntmps41
  go_wp2_with fail
  go_ret
  exact ⟨ret_bool H.out.symm, by go_grown⟩
set_option maxRecDepth 100000 in
set_option maxHeartbeats 2000000 in
theorem ckBuilt_k4 (n : List UInt8) (sa : Option Addr) (sn sc : Nat) (w : World) (m : Int) : Calls Try.prog 41 #[.agg #[.int .i64 4, .string ⟨n.toArray⟩, .int .i64 m, .slice sa sn sc]] w fun e w' => e = .returned (.bool (ckBu 4 m sn)) ∧ Below w.heap.size w w' := by
  have H : Hid (ckBu 4 m sn = ((sn : Int) == 1)) := by unfold Hid ckBu; simp
  go_enter Try.func41, Try.ntmps41
  go_wp2_with fail
  go_ret
  exact ⟨ret_bool H.out.symm, by go_grown⟩
set_option maxRecDepth 100000 in
set_option maxHeartbeats 2000000 in
theorem ckBuilt_k5 (n : List UInt8) (sa : Option Addr) (sn sc : Nat) (w : World) (m : Int) : Calls Try.prog 41 #[.agg #[.int .i64 5, .string ⟨n.toArray⟩, .int .i64 m, .slice sa sn sc]] w fun e w' => e = .returned (.bool (ckBu 5 m sn)) ∧ Below w.heap.size w w' := by
  have H : Hid (ckBu 5 m sn = ((sn : Int) == 1)) := by unfold Hid ckBu; simp
  go_enter Try.func41, Try.ntmps41
  go_wp2_with fail
  go_ret
  exact ⟨ret_bool H.out.symm, by go_grown⟩
set_option maxRecDepth 100000 in
set_option maxHeartbeats 2000000 in
theorem ckBuilt_k6 (n : List UInt8) (sa : Option Addr) (sn sc : Nat) (w : World) (m : Int) : Calls Try.prog 41 #[.agg #[.int .i64 6, .string ⟨n.toArray⟩, .int .i64 m, .slice sa sn sc]] w fun e w' => e = .returned (.bool (ckBu 6 m sn)) ∧ Below w.heap.size w w' := by
  have H : Hid (ckBu 6 m sn = ((sn : Int) == 2)) := by unfold Hid ckBu; simp
  go_enter Try.func41, Try.ntmps41
  go_wp2_with fail
  go_ret
  exact ⟨ret_bool H.out.symm, by go_grown⟩
set_option maxRecDepth 100000 in
set_option maxHeartbeats 2000000 in
theorem ckBuilt_no (n : List UInt8) (sa : Option Addr) (sn sc : Nat) (w : World) (k m : Int) (h1 : ¬ k = 1) (h2 : ¬ k = 2) (h3 : ¬ k = 3) (h4 : ¬ k = 4) (h5 : ¬ k = 5) (h6 : ¬ k = 6) : Calls Try.prog 41 #[.agg #[.int .i64 k, .string ⟨n.toArray⟩, .int .i64 m, .slice sa sn sc]] w fun e w' => e = .returned (.bool (ckBu k m sn)) ∧ Below w.heap.size w w' := by
  have H : Hid (ckBu k m sn = false) := by unfold Hid ckBu; simp [h1, h2, h3, h4, h5, h6]
  go_enter Try.func41, Try.ntmps41
  go_wp2_with fail
  go_ret
  exact ⟨ret_bool H.out.symm, by go_grown⟩
theorem ckBuilt_any (k : Int) (n : List UInt8) (m : Int) (sa : Option Addr) (sn sc : Nat) (w : World) : Calls Try.prog 41 #[.agg #[.int .i64 k, .string ⟨n.toArray⟩, .int .i64 m, .slice sa sn sc]] w fun e w' => e = .returned (.bool (ckBu k m sn)) ∧ Below w.heap.size w w' := by
  by_cases h1 : k = 1
  · subst h1
    by_cases hm : 0 ≤ m
    · exact ckBuilt_i1 n sa sn sc w m hm
    · exact ckBuilt_i0 n sa sn sc w m hm
  by_cases h2 : k = 2
  · subst h2
    by_cases hm : m = 0
    · subst hm; exact ckBuilt_b0 n sa sn sc w
    by_cases hm1 : m = 1
    · subst hm1; exact ckBuilt_b1 n sa sn sc w
    exact ckBuilt_b2 n sa sn sc w m hm hm1
  by_cases h3 : k = 3
  · subst h3; exact ckBuilt_k3 n sa sn sc w m
  by_cases h4 : k = 4
  · subst h4; exact ckBuilt_k4 n sa sn sc w m
  by_cases h5 : k = 5
  · subst h5; exact ckBuilt_k5 n sa sn sc w m
  by_cases h6 : k = 6
  · subst h6; exact ckBuilt_k6 n sa sn sc w m
  exact ckBuilt_no n sa sn sc w k m h1 h2 h3 h4 h5 h6
end Go.Proofs.Ytobiedmmjiedlaa
