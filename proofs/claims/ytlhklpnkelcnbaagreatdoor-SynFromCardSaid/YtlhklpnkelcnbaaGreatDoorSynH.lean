/- Layer 3: attempt. -/
import Derived.Test.YtlhklpnkelcnbaaGreatDoorSynG
import Derived.Defers
import Derived.Recover
namespace Go.Proofs.YtlhklpnkelcnbaaGreatDoor
open Go.RowKit

/-- But for blocks of D nothing that was there has changed. -/
structure Keep (D : Nat → Prop) (w w' : World) : Prop where
  os : w'.os = w.os
  tape : w'.tape = w.tape
  output : w'.output = w.output
  size : w.heap.size ≤ w'.heap.size
  block : ∀ k, k < w.heap.size → ¬ D k → w'.heap[k]? = w.heap[k]?
theorem Keep.refl (D : Nat → Prop) (w : World) : Keep D w w := ⟨rfl, rfl, rfl, Nat.le_refl _, fun _ _ _ => rfl⟩
theorem Keep.trans {D : Nat → Prop} {a b c : World} (h : Keep D a b) (k : Keep D b c) : Keep D a c :=
  ⟨k.os.trans h.os, k.tape.trans h.tape, k.output.trans h.output, Nat.le_trans h.size k.size, fun i hi hp => (k.block i (Nat.lt_of_lt_of_le hi h.size) hp).trans (h.block i hi hp)⟩
theorem Keep.mono {D D' : Nat → Prop} {w w' : World} (h : Keep D w w') (hD : ∀ g, g < w.heap.size → D g → D' g) : Keep D' w w' := ⟨h.os, h.tape, h.output, h.size, fun k hk hn => h.block k hk fun e => hn (hD k hk e)⟩
theorem Keep.cell {D : Nat → Prop} {w w' : World} (h : Keep D w w') {q : Addr} (hq : q.block < w.heap.size) (hD : ¬ D q.block) : w'.cell? q = w.cell? q := World.cell?_of_block (w := w) (h.block _ hq hD)
theorem Keep.frozen {D : Nat → Prop} {w w' : World} (h : Keep D w w') {q : Addr} (hq : q.block < w.heap.size) (hD : ¬ D q.block) : w'.frozen? q = w.frozen? q := World.frozen?_of_block (w := w) (h.block _ hq hD)
theorem Keep.of_mov {p : Nat} {w w' : World} (h : Mov p w w') : Keep (fun g => g = p) w w' := ⟨h.os, h.tape, h.output, h.size, fun k hk hn => h.block k hk hn⟩
theorem Keep.of_below {D : Nat → Prop} {n : Nat} {w w' : World} (h : Below n w w') (hn : w.heap.size ≤ n) : Keep D w w' := ⟨h.os, h.tape, h.output, h.size, fun k hk _ => h.block k (Nat.lt_of_lt_of_le hk hn)⟩
theorem Keep.set {D : Nat → Prop} {w w' : World} (h : Keep D w w') {a : Addr} (ha : w.heap.size ≤ a.block ∨ D a.block) (v : Value) : Keep D w (w'.setCell a v) :=
  ⟨h.os, h.tape, h.output, by simpa using h.size, fun k hk hn => (heap_setCell_other w' _ k _ (fun e => by subst e; rcases ha with ha | ha; omega; exact hn ha)).trans (h.block k hk hn)⟩
theorem Keep.alloc {D : Nat → Prop} {w w' : World} (h : Keep D w w') (o : Obj) : Keep D w (w'.alloc o) := h.trans (.of_below (box_below w' o) (Nat.le_refl _))
theorem Keep.drew {D : Nat → Prop} {w w' : World} (h : Keep D w w') : Keep D w w'.drew := ⟨h.os, h.tape, h.output, h.size, h.block⟩
theorem Keep.below {D : Nat → Prop} {w w' : World} (h : Keep D w w') (hD : ∀ g, g < w.heap.size → ¬ D g) : Below w.heap.size w w' := ⟨h.os, h.tape, h.output, h.size, fun k hk => h.block k hk (hD k hk)⟩

set_option maxRecDepth 100000 in
set_option maxHeartbeats 1000000 in
theorem catch_idle (v0 v1 : Value) (w : World) :
    CallsD Tryz.prog 56 #[v0, v1] .returning w fun e u' w' => e = .returned (.tuple #[]) ∧ u' = .returning ∧ w' = w := by
  refine callsD_of_wpS Tryz.func56 rfl fun c₀ cs hu => ?_
  apply wpS_seq
  apply wpS_region
  simp [wpOpsS, go_sem, recoverD, hu, Tryz.ntmps56, Exit.thenS]
  refine wpS_of_wp ?_
  change Code.wp _ _ _ { tmps := #[v0, v1, .nilIface, undef, .nilIface, undef, undef, undef, undef, undef, undef, undef, undef], defers := [] } _
  go_wp2_with fail
  cases c₀
  simp_all [bodyPostS, results, Tryz.results56]
theorem ta (a er : Int) (w : World) : (Instr.typeAssert (.iface 97 (.agg #[.int .i64 a, .int .i64 er])) 20 97 false).run Tryz.prog w = .ok (.agg #[.int .i64 a, .int .i64 er]) w := by kernel_rfl
set_option maxRecDepth 100000 in
set_option maxHeartbeats 1000000 in
theorem catch_panicking (n m : Nat) (a er : Int) (x y : Value) (w : World) (hn : w.cell? ⟨n, 0, none⟩ = some x) (hm : w.cell? ⟨m, 0, none⟩ = some y) (fn : w.frozen? ⟨n, 0, none⟩ = false) (fm : w.frozen? ⟨m, 0, none⟩ = false) (hnm : n ≠ m) (hnl : n < w.heap.size) (hml : m < w.heap.size) :
    CallsD Tryz.prog 56 #[.pointer (some ⟨n, 0, none⟩), .pointer (some ⟨m, 0, none⟩)] (.panicking [{ v := .iface 97 (fltV a er), recovered := false }]) w fun e u' w' =>
      e = .returned (.tuple #[]) ∧ u' = .panicking [{ v := .iface 97 (fltV a er), recovered := true }] ∧ w'.cell? ⟨n, 0, none⟩ = some (.int .i64 a) ∧ w'.cell? ⟨m, 0, none⟩ = some (.int .i64 er) ∧ Keep (fun g => g = n ∨ g = m) w w' := by
  refine callsD_of_wpS Tryz.func56 rfl fun c₀ cs hu => ?_
  apply wpS_seq
  apply wpS_region
  simp [wpOpsS, go_sem, recoverD, hu, Tryz.ntmps56, Exit.thenS]
  unfold fltV
  have kt := ta
  have n1 : ¬ n = w.heap.size := Nat.ne_of_lt hnl
  have m1 : ¬ m = w.heap.size := Nat.ne_of_lt hml
  have n2 : ¬ w.heap.size = n := Nat.ne_of_gt hnl
  have m2 : ¬ w.heap.size = m := Nat.ne_of_gt hml
  have nm2 : ¬ m = n := Ne.symm hnm
  refine wpS_of_wp ?_
  change Code.wp _ _ _ { tmps := #[.pointer (some ⟨n, 0, none⟩), .pointer (some ⟨m, 0, none⟩), .iface 97 (.agg #[.int .i64 a, .int .i64 er]), undef, .iface 97 (.agg #[.int .i64 a, .int .i64 er]), undef, undef, undef, undef, undef, undef, undef, undef], defers := [] } _
  go_wp2_with fail
  go_region
  refine ⟨rfl, _, rfl, .tuple #[], by simp [results, Tryz.results56, go_sem], rfl, rfl, ?_, ?_, ?_⟩
  · simp [go_sem, hn, hnl]
  · simp [go_sem, hm, hml]
  · exact (((Keep.refl _ w).set (.inr (.inl rfl)) _).set (.inr (.inr rfl)) _).alloc _ |>.drew
/-- Whatever is attempted: what the closure F over c comes to in the world behind two boxes. -/
def w2box (w : World) : World := (w.alloc (.cells #[.int .i64 0] 3)).alloc (.cells #[.int .i64 0] 26)
set_option maxRecDepth 100000 in
set_option maxHeartbeats 1000000 in
theorem attempt_ok (F : FuncId) (c : Array Value) (w : World) (D : Nat → Prop) (hD : ∀ g, D g → g < w.heap.size) (C : World → Prop) (hF : ∀ w, (callFunc F c).run Tryz.prog w = .ok (.enter F c) w)
    (hc : Calls Tryz.prog F c (w2box w) fun e w' => e = .returned (.tuple #[]) ∧ Keep D (w2box w) w' ∧ C w') :
    Calls Tryz.prog 30 #[.func (.func F) #[] c] w fun e w' => e = .returned (.tuple #[.int .i64 0, .int .i64 0]) ∧ ∃ w1, Keep D (w2box w) w1 ∧ C w1 ∧ w' = (w1.setCell ⟨w.heap.size, 0, none⟩ (.int .i64 0)).setCell ⟨w.heap.size + 1, 0, none⟩ (.int .i64 0) := by
  have hmf : ∀ (fn : Fn) (first cap : Array Value) (w : World), (Instr.makeFunc fn first cap).run Tryz.prog w = .ok (.func fn first cap) w := fun _ _ _ _ => rfl
  go_enter_defers Tryz.func30, Tryz.ntmps30
  have HC : Hid _ := hc
  have HD : Hid (∀ g, D g → g < w.heap.size) := hD
  clear hc hD
  go_wp2_with fail
  refine Calls.mono HC.out ?_
  rintro e w1 ⟨rfl, k1, c1⟩
  have a0 : w1.cell? ⟨w.heap.size, 0, none⟩ = some (.int .i64 0) := (k1.cell (by simp [w2box] <;> omega) (fun e => absurd (HD.out _ e) (by simp))).trans (by simp [w2box, go_sem])
  have a1 : w1.cell? ⟨w.heap.size + 1, 0, none⟩ = some (.int .i64 0) := (k1.cell (by simp [w2box] <;> omega) (fun e => absurd (HD.out _ e) (by simp))).trans (by simp [w2box, go_sem])
  have f0 : w1.frozen? ⟨w.heap.size, 0, none⟩ = false := (k1.frozen (by simp [w2box] <;> omega) (fun e => absurd (HD.out _ e) (by simp))).trans (by simp [w2box, go_sem])
  have f1 : w1.frozen? ⟨w.heap.size + 1, 0, none⟩ = false := (k1.frozen (by simp [w2box] <;> omega) (fun e => absurd (HD.out _ e) (by simp))).trans (by simp [w2box, go_sem])
  have K1 : Hid _ := k1
  have C1 : Hid _ := c1
  clear k1 c1
  go_wp2_with fail
  refine leaves_cons (f := 56) (args := #[.pointer (some ⟨w.heap.size, 0, none⟩), .pointer (some ⟨w.heap.size + 1, 0, none⟩)]) (by simp) (by simp [go_sem]) ?_
  refine CallsD.mono (catch_idle _ _ _) ?_
  rintro e u' w'' ⟨rfl, rfl, rfl⟩
  simp [Leaves, settle, results, Tryz.results30, go_sem, a0, a1]
  exact ⟨w1, K1.out, C1.out, rfl⟩
set_option maxRecDepth 100000 in
set_option maxHeartbeats 1000000 in
theorem attempt_bad (a er : Int) (F : FuncId) (c : Array Value) (w : World) (D : Nat → Prop) (hD : ∀ g, D g → g < w.heap.size) (C : World → Prop) (hF : ∀ w, (callFunc F c).run Tryz.prog w = .ok (.enter F c) w)
    (hc : Calls Tryz.prog F c (w2box w) fun e w' => e = pan a er ∧ Keep D (w2box w) w' ∧ C w') :
    Calls Tryz.prog 30 #[.func (.func F) #[] c] w fun e w' => e = .returned (.tuple #[.int .i64 a, .int .i64 er]) ∧ ∃ w1, Keep D (w2box w) w1 ∧ C w1 ∧ Keep (fun g => g = w.heap.size ∨ g = w.heap.size + 1) w1 w' := by
  have hmf : ∀ (fn : Fn) (first cap : Array Value) (w : World), (Instr.makeFunc fn first cap).run Tryz.prog w = .ok (.func fn first cap) w := fun _ _ _ _ => rfl
  go_enter_defers Tryz.func30, Tryz.ntmps30
  have HC : Hid _ := hc
  have HD : Hid (∀ g, D g → g < w.heap.size) := hD
  clear hc hD
  go_wp2_with fail
  refine Calls.mono HC.out ?_
  rintro e w1 ⟨rfl, k1, c1⟩
  have a0 : w1.cell? ⟨w.heap.size, 0, none⟩ = some (.int .i64 0) := (k1.cell (by simp [w2box] <;> omega) (fun e => absurd (HD.out _ e) (by simp))).trans (by simp [w2box, go_sem])
  have a1 : w1.cell? ⟨w.heap.size + 1, 0, none⟩ = some (.int .i64 0) := (k1.cell (by simp [w2box] <;> omega) (fun e => absurd (HD.out _ e) (by simp))).trans (by simp [w2box, go_sem])
  have f0 : w1.frozen? ⟨w.heap.size, 0, none⟩ = false := (k1.frozen (by simp [w2box] <;> omega) (fun e => absurd (HD.out _ e) (by simp))).trans (by simp [w2box, go_sem])
  have f1 : w1.frozen? ⟨w.heap.size + 1, 0, none⟩ = false := (k1.frozen (by simp [w2box] <;> omega) (fun e => absurd (HD.out _ e) (by simp))).trans (by simp [w2box, go_sem])
  have K1 : Hid _ := k1
  have C1 : Hid _ := c1
  have z1 : w.heap.size + 2 ≤ w1.heap.size := by have := k1.size; simp [w2box] at this; omega
  clear k1 c1
  unfold pan
  go_wp2_with fail
  refine leaves_cons (f := 56) (args := #[.pointer (some ⟨w.heap.size, 0, none⟩), .pointer (some ⟨w.heap.size + 1, 0, none⟩)]) (by simp) (by simp [go_sem]) ?_
  refine CallsD.mono (catch_panicking w.heap.size (w.heap.size + 1) a er _ _ w1 a0 a1 f0 f1 (by omega) (by omega) (by omega)) ?_
  rintro e u' w'' ⟨rfl, rfl, q0, q1, kk⟩
  simp [Leaves, settle, results, Tryz.results30, go_sem, q0, q1]
  exact ⟨w1, K1.out, C1.out, kk⟩
end Go.Proofs.YtlhklpnkelcnbaaGreatDoor
