/- Layer 4: typed; typeOf of an element. -/
/- Layer 4: typeOf, for every expression and variables. -/
/- Layer 4: typeOf, for every expression and variables: the walk. -/
/- Layer 4: TypeOf. -/
/- Layer 4: plainFormed, for every statement. -/
/- Layer 4: formed, for every statement. -/
/- Layer 4: a statement's check, plain; the checker in memory; called. -/
import Derived.Test.YtobiedmmjiedlaaZCkI
import Derived.Test.YtobiedmmjiedlaaZCkJ
import Derived.Test.YtobiedmmjiedlaaZCkK
import Derived.Test.YtobiedmmjiedlaaZCkL
import Derived.Test.YtobiedmmjiedlaaZCkG
namespace Go.Proofs.Ytobiedmmjiedlaa
open Go.RowKit

/-- What typed throws, if it does. -/
def ckTd (r : Except Int Int) (t : Int) : Option Int :=
  match r with
  | .error e => some e
  | .ok u => if u = t then none else some 41
set_option maxRecDepth 100000 in
set_option maxHeartbeats 2000000 in
theorem ckTyped_ok (p : Nat) (w : World) (k1 : Int) (n1 : List UInt8) (m1 : Int) (s1 : Option Addr) (l1 c1 : Nat) (t : Int) (h1 : ∀ W, Below w.heap.size w W → Calls Try.prog 27 #[.pointer (some ⟨p, 0, none⟩), .agg #[.int .i64 k1, .string ⟨n1.toArray⟩, .int .i64 m1, .slice s1 l1 c1]] W fun e w' => e = .returned (.int .i64 t) ∧ Below W.heap.size W w') : Calls Try.prog 44 #[.pointer (some ⟨p, 0, none⟩), exV k1 n1 m1 s1 l1 c1, .int .i64 t] w fun e w' => e = .returned (.tuple #[]) ∧ Below w.heap.size w w' := by
  have E1 : Hid _ := h1
  clear h1
  have ht : (t == t) = true := beq_self_eq_true t
  unfold exV
  go_enter Try.func44, Try.ntmps44
  go_wp2_with fail
  refine Calls.mono (E1.out _ (by go_grown)) ?_
  rintro e w1 ⟨rfl, b1⟩
  have B1 : Hid (Below w.heap.size w w1) := Below.trans (by go_grown) (b1.mono (by go_size))
  clear b1
  go_wp2_with fail
  refine Calls.mono (ckMust_yes _ _) ?_
  rintro e w3 ⟨rfl, rfl⟩
  go_wp2_with fail
  exact ⟨rfl, .tuple #[], by simp [results, Try.results44, go_sem], rfl, B1.out⟩
set_option maxRecDepth 100000 in
set_option maxHeartbeats 2000000 in
theorem ckTyped_no (p : Nat) (w : World) (k1 : Int) (n1 : List UInt8) (m1 : Int) (s1 : Option Addr) (l1 c1 : Nat) (t u : Int) (hu : ¬ u = t) (h1 : ∀ W, Below w.heap.size w W → Calls Try.prog 27 #[.pointer (some ⟨p, 0, none⟩), .agg #[.int .i64 k1, .string ⟨n1.toArray⟩, .int .i64 m1, .slice s1 l1 c1]] W fun e w' => e = .returned (.int .i64 u) ∧ Below W.heap.size W w') : Calls Try.prog 44 #[.pointer (some ⟨p, 0, none⟩), exV k1 n1 m1 s1 l1 c1, .int .i64 t] w fun e w' => e = ckPan 41 ∧ Below w.heap.size w w' := by
  have E1 : Hid _ := h1
  clear h1
  have ht : (u == t) = false := beq_eq_false_iff_ne.2 hu
  clear hu
  unfold exV
  go_enter Try.func44, Try.ntmps44
  go_wp2_with fail
  refine Calls.mono (E1.out _ (by go_grown)) ?_
  rintro e w1 ⟨rfl, b1⟩
  have B1 : Hid (Below w.heap.size w w1) := Below.trans (by go_grown) (b1.mono (by go_size))
  clear b1
  go_wp2_with fail
  refine Calls.mono (ckMust_no _ _) ?_
  rintro e w3 ⟨rfl, b3⟩
  have B3 : Hid (Below w.heap.size w w3) := B1.out.trans (b3.mono B1.out.size)
  clear b3
  unfold ckPan
  go_wp2_with fail
  exact ⟨rfl, rfl, B3.out⟩
set_option maxRecDepth 100000 in
set_option maxHeartbeats 2000000 in
theorem ckTyped_err (p : Nat) (w : World) (k1 : Int) (n1 : List UInt8) (m1 : Int) (s1 : Option Addr) (l1 c1 : Nat) (t er : Int) (h1 : ∀ W, Below w.heap.size w W → Calls Try.prog 27 #[.pointer (some ⟨p, 0, none⟩), .agg #[.int .i64 k1, .string ⟨n1.toArray⟩, .int .i64 m1, .slice s1 l1 c1]] W fun e w' => e = ckPan er ∧ Below W.heap.size W w') : Calls Try.prog 44 #[.pointer (some ⟨p, 0, none⟩), exV k1 n1 m1 s1 l1 c1, .int .i64 t] w fun e w' => e = ckPan er ∧ Below w.heap.size w w' := by
  have E1 : Hid _ := h1
  clear h1
  unfold exV
  go_enter Try.func44, Try.ntmps44
  go_wp2_with fail
  refine Calls.mono (E1.out _ (by go_grown)) ?_
  rintro e w1 ⟨rfl, b1⟩
  have B1 : Hid (Below w.heap.size w w1) := Below.trans (by go_grown) (b1.mono (by go_size))
  clear b1
  unfold ckPan
  go_wp2_with fail
  exact ⟨rfl, rfl, B1.out⟩
theorem ckTyped_of (p : Nat) (w : World) (k1 : Int) (n1 : List UInt8) (m1 : Int) (s1 : Option Addr) (l1 c1 : Nat) (t : Int) (r : Except Int Int) (h1 : ∀ W, Below w.heap.size w W → Calls Try.prog 27 #[.pointer (some ⟨p, 0, none⟩), .agg #[.int .i64 k1, .string ⟨n1.toArray⟩, .int .i64 m1, .slice s1 l1 c1]] W fun e w' => e = ckEnd r ∧ Below W.heap.size W w') : Calls Try.prog 44 #[.pointer (some ⟨p, 0, none⟩), exV k1 n1 m1 s1 l1 c1, .int .i64 t] w fun e w' => e = ckEndU (ckTd r t) ∧ Below w.heap.size w w' := by
  cases r with
  | error er => exact ckTyped_err p w k1 n1 m1 s1 l1 c1 t er h1
  | ok u =>
    by_cases hu : u = t
    · subst hu
      have : ckTd (.ok u) u = none := if_pos rfl
      rw [this]
      exact ckTyped_ok p w k1 n1 m1 s1 l1 c1 u h1
    · have : ckTd (.ok u) t = some 41 := if_neg hu
      rw [this]
      exact ckTyped_no p w k1 n1 m1 s1 l1 c1 t u hu h1
set_option maxRecDepth 100000 in
set_option maxHeartbeats 2000000 in
theorem ckTy_ix_name (p : Nat) (n : List UInt8) (m : Int) (g o sc : Nat) (w : World) (er : Int) (ha : ∀ W, Below w.heap.size w W → Calls Try.prog 43 #[.pointer (some ⟨p, 0, none⟩), .string ⟨n.toArray⟩] W fun e w' => e = ckPan er ∧ Below W.heap.size W w') : Calls Try.prog 27 #[.pointer (some ⟨p, 0, none⟩), exV 4 n m (some ⟨g, o, none⟩) 1 sc] w fun e w' => e = ckPan er ∧ Below w.heap.size w w' := by
  have EA : Hid _ := ha
  clear ha
  have EB : Hid (∀ W, Calls Try.prog 41 #[.agg #[.int .i64 4, .string ⟨n.toArray⟩, .int .i64 m, .slice (some ⟨g, o, none⟩) 1 sc]] W fun e w' => e = .returned (.bool true) ∧ Below W.heap.size W w') := fun W => ckBuilt_any 4 n m (some ⟨g, o, none⟩) 1 sc W
  unfold exV
  go_enter Try.func27, Try.ntmps27
  go_wp2_with fail
  refine Calls.mono (EB.out _) ?_
  rintro e w1 ⟨rfl, b1⟩
  have B1 : Hid (Below w.heap.size w w1) := Below.trans (by go_grown) (b1.mono (by go_size))
  have z1 : w.heap.size < w1.heap.size := Nat.lt_of_lt_of_le (by simp) b1.size
  have d0 : w1.cell? ⟨w.heap.size, 0, none⟩ = some (.int .i64 4) := (b1.cell (p := ⟨w.heap.size, 0, none⟩) (by simp)).trans (by simp [go_sem])
  have d1 : w1.cell? ⟨w.heap.size, 1, none⟩ = some (.string ⟨n.toArray⟩) := (b1.cell (p := ⟨w.heap.size, 1, none⟩) (by simp)).trans (by simp [go_sem])
  have d3 : w1.cell? ⟨w.heap.size, 3, none⟩ = some (.slice (some ⟨g, o, none⟩) 1 sc) := (b1.cell (p := ⟨w.heap.size, 3, none⟩) (by simp)).trans (by simp [go_sem])
  clear b1
  go_wp2_with fail
  refine Calls.mono (ckMust_yes _ _) ?_
  rintro e w2 ⟨rfl, rfl⟩
  go_wp2_with fail
  refine Calls.mono (EA.out _ B1.out) ?_
  rintro e w3 ⟨rfl, b3⟩
  have B3 : Hid (Below w.heap.size w w3) := B1.out.trans (b3.mono B1.out.size)
  clear b3
  unfold ckPan
  go_wp2_with fail
  exact ⟨rfl, rfl, B3.out⟩
set_option maxRecDepth 100000 in
set_option maxHeartbeats 2000000 in
theorem ckTy_ix_ok (p : Nat) (n : List UInt8) (m : Int) (g o sc : Nat) (w : World) (k1 : Int) (n1 : List UInt8) (m1 : Int) (s1 : Option Addr) (l1 c1 : Nat) (hx : ExAt w g o k1 n1 m1 s1 l1 c1) (ha : ∀ W, Below w.heap.size w W → Calls Try.prog 43 #[.pointer (some ⟨p, 0, none⟩), .string ⟨n.toArray⟩] W fun e w' => e = .returned (.tuple #[]) ∧ Below W.heap.size W w') (h1 : ∀ W, Below w.heap.size w W → Calls Try.prog 44 #[.pointer (some ⟨p, 0, none⟩), .agg #[.int .i64 k1, .string ⟨n1.toArray⟩, .int .i64 m1, .slice s1 l1 c1], .int .i64 1] W fun e w' => e = .returned (.tuple #[]) ∧ Below W.heap.size W w') : Calls Try.prog 27 #[.pointer (some ⟨p, 0, none⟩), exV 4 n m (some ⟨g, o, none⟩) 1 sc] w fun e w' => e = .returned (.int .i64 1) ∧ Below w.heap.size w w' := by
  have EA : Hid _ := ha
  have E1 : Hid _ := h1
  have HX : Hid _ := hx
  clear ha h1 hx
  have EB : Hid (∀ W, Calls Try.prog 41 #[.agg #[.int .i64 4, .string ⟨n.toArray⟩, .int .i64 m, .slice (some ⟨g, o, none⟩) 1 sc]] W fun e w' => e = .returned (.bool true) ∧ Below W.heap.size W w') := fun W => ckBuilt_any 4 n m (some ⟨g, o, none⟩) 1 sc W
  unfold exV
  go_enter Try.func27, Try.ntmps27
  go_wp2_with fail
  refine Calls.mono (EB.out _) ?_
  rintro e w1 ⟨rfl, b1⟩
  have B1 : Hid (Below w.heap.size w w1) := Below.trans (by go_grown) (b1.mono (by go_size))
  have z1 : w.heap.size < w1.heap.size := Nat.lt_of_lt_of_le (by simp) b1.size
  have d0 : w1.cell? ⟨w.heap.size, 0, none⟩ = some (.int .i64 4) := (b1.cell (p := ⟨w.heap.size, 0, none⟩) (by simp)).trans (by simp [go_sem])
  have d1 : w1.cell? ⟨w.heap.size, 1, none⟩ = some (.string ⟨n.toArray⟩) := (b1.cell (p := ⟨w.heap.size, 1, none⟩) (by simp)).trans (by simp [go_sem])
  have d3 : w1.cell? ⟨w.heap.size, 3, none⟩ = some (.slice (some ⟨g, o, none⟩) 1 sc) := (b1.cell (p := ⟨w.heap.size, 3, none⟩) (by simp)).trans (by simp [go_sem])
  clear b1
  go_wp2_with fail
  refine Calls.mono (ckMust_yes _ _) ?_
  rintro e w2 ⟨rfl, rfl⟩
  go_wp2_with fail
  refine Calls.mono (EA.out _ B1.out) ?_
  rintro e w3 ⟨rfl, b3⟩
  have B3 : Hid (Below w.heap.size w w3) := B1.out.trans (b3.mono B1.out.size)
  have g3 : w3.cell? ⟨w.heap.size, 3, none⟩ = some (.slice (some ⟨g, o, none⟩) 1 sc) := (b3.cell (p := ⟨w.heap.size, 3, none⟩) z1).trans d3
  have y := HX.out.later B3.out
  obtain ⟨y0, y1, y2, y3, yz⟩ := y
  clear b3 d0 d1 d3
  go_wp2_with fail
  refine Calls.mono (E1.out _ B3.out) ?_
  rintro e w4 ⟨rfl, b4⟩
  have B4 : Hid (Below w.heap.size w w4) := B3.out.trans (b4.mono B3.out.size)
  clear b4
  go_wp2_with fail
  go_ret
  exact ⟨rfl, B4.out⟩
set_option maxRecDepth 100000 in
set_option maxHeartbeats 2000000 in
theorem ckTy_ix_err (p : Nat) (n : List UInt8) (m : Int) (g o sc : Nat) (w : World) (k1 : Int) (n1 : List UInt8) (m1 : Int) (s1 : Option Addr) (l1 c1 : Nat) (hx : ExAt w g o k1 n1 m1 s1 l1 c1) (er : Int) (ha : ∀ W, Below w.heap.size w W → Calls Try.prog 43 #[.pointer (some ⟨p, 0, none⟩), .string ⟨n.toArray⟩] W fun e w' => e = .returned (.tuple #[]) ∧ Below W.heap.size W w') (h1 : ∀ W, Below w.heap.size w W → Calls Try.prog 44 #[.pointer (some ⟨p, 0, none⟩), .agg #[.int .i64 k1, .string ⟨n1.toArray⟩, .int .i64 m1, .slice s1 l1 c1], .int .i64 1] W fun e w' => e = ckPan er ∧ Below W.heap.size W w') : Calls Try.prog 27 #[.pointer (some ⟨p, 0, none⟩), exV 4 n m (some ⟨g, o, none⟩) 1 sc] w fun e w' => e = ckPan er ∧ Below w.heap.size w w' := by
  have EA : Hid _ := ha
  have E1 : Hid _ := h1
  have HX : Hid _ := hx
  clear ha h1 hx
  have EB : Hid (∀ W, Calls Try.prog 41 #[.agg #[.int .i64 4, .string ⟨n.toArray⟩, .int .i64 m, .slice (some ⟨g, o, none⟩) 1 sc]] W fun e w' => e = .returned (.bool true) ∧ Below W.heap.size W w') := fun W => ckBuilt_any 4 n m (some ⟨g, o, none⟩) 1 sc W
  unfold exV
  go_enter Try.func27, Try.ntmps27
  go_wp2_with fail
  refine Calls.mono (EB.out _) ?_
  rintro e w1 ⟨rfl, b1⟩
  have B1 : Hid (Below w.heap.size w w1) := Below.trans (by go_grown) (b1.mono (by go_size))
  have z1 : w.heap.size < w1.heap.size := Nat.lt_of_lt_of_le (by simp) b1.size
  have d0 : w1.cell? ⟨w.heap.size, 0, none⟩ = some (.int .i64 4) := (b1.cell (p := ⟨w.heap.size, 0, none⟩) (by simp)).trans (by simp [go_sem])
  have d1 : w1.cell? ⟨w.heap.size, 1, none⟩ = some (.string ⟨n.toArray⟩) := (b1.cell (p := ⟨w.heap.size, 1, none⟩) (by simp)).trans (by simp [go_sem])
  have d3 : w1.cell? ⟨w.heap.size, 3, none⟩ = some (.slice (some ⟨g, o, none⟩) 1 sc) := (b1.cell (p := ⟨w.heap.size, 3, none⟩) (by simp)).trans (by simp [go_sem])
  clear b1
  go_wp2_with fail
  refine Calls.mono (ckMust_yes _ _) ?_
  rintro e w2 ⟨rfl, rfl⟩
  go_wp2_with fail
  refine Calls.mono (EA.out _ B1.out) ?_
  rintro e w3 ⟨rfl, b3⟩
  have B3 : Hid (Below w.heap.size w w3) := B1.out.trans (b3.mono B1.out.size)
  have g3 : w3.cell? ⟨w.heap.size, 3, none⟩ = some (.slice (some ⟨g, o, none⟩) 1 sc) := (b3.cell (p := ⟨w.heap.size, 3, none⟩) z1).trans d3
  have y := HX.out.later B3.out
  obtain ⟨y0, y1, y2, y3, yz⟩ := y
  clear b3 d0 d1 d3
  go_wp2_with fail
  refine Calls.mono (E1.out _ B3.out) ?_
  rintro e w4 ⟨rfl, b4⟩
  have B4 : Hid (Below w.heap.size w w4) := B3.out.trans (b4.mono B3.out.size)
  clear b4
  unfold ckPan
  go_wp2_with fail
  exact ⟨rfl, rfl, B4.out⟩
end Go.Proofs.Ytobiedmmjiedlaa

namespace Go.Proofs.Ytobiedmmjiedlaa
open Go.RowKit

/-- An expression's type, or what is wrong with it. -/
def ckTy (l : List CkVa) (mk : Int) : Sx.Ex → Except Int Int
  | .mk k n m [] => if ckBu k m 0 = false then .error 32 else if k = 1 then .ok 1 else if k = 2 then .ok 2 else ckSi l n mk
  | .mk k n m [a] => if ckBu k m 1 = false then .error 32 else if k = 4 then (match ckAr l n mk with | some e => .error e | none => match ckTd (ckTy l mk a) 1 with | some e => .error e | none => .ok 1) else (match ckTy l mk a with | .error e => .error e | .ok t => ckUn n t)
  | .mk k n m [a, b] => if ckBu k m 2 = false then .error 32 else (match ckTy l mk a with | .error e => .error e | .ok t => match ckTy l mk b with | .error e => .error e | .ok u => ckBi n t u)
  | .mk _ _ _ _ => .error 32
def ckTC (A : Nat → Prop) (p : Nat) (l : List CkVa) (mk : Int) (w : World) (x : Sx.Ex) : Prop := ∀ (k : Int) (n : List UInt8) (m : Int) (ll : List Sx.Ex) (sa : Option Addr) (sc : Nat) (W : World), x = .mk k n m ll → Below w.heap.size w W → ExS A W (.slice sa ll.length sc) ll → Calls Try.prog 27 #[.pointer (some ⟨p, 0, none⟩), exV k n m sa ll.length sc] W fun e w' => e = ckEnd (ckTy l mk x) ∧ Below W.heap.size W w'
theorem ckBu0 {k m : Int} (h : ckBu k m 0 = true) : k = 1 ∨ k = 2 ∨ k = 3 := by
  unfold ckBu at h
  by_cases h1 : k = 1
  · exact .inl h1
  by_cases h2 : k = 2
  · exact .inr (.inl h2)
  by_cases h3 : k = 3
  · exact .inr (.inr h3)
  rw [if_neg h1, if_neg h2, if_neg h3] at h
  by_cases h4 : k = 4
  · rw [if_pos h4] at h; cases h
  by_cases h5 : k = 5
  · rw [if_neg h4, if_pos h5] at h; cases h
  by_cases h6 : k = 6
  · rw [if_neg h4, if_neg h5, if_pos h6] at h; cases h
  rw [if_neg h4, if_neg h5, if_neg h6] at h; cases h
theorem ckBu1 {k m : Int} (h : ckBu k m 1 = true) : k = 4 ∨ k = 5 := by
  unfold ckBu at h
  by_cases h1 : k = 1
  · rw [if_pos h1] at h; simp at h
  by_cases h2 : k = 2
  · rw [if_neg h1, if_pos h2] at h; simp at h
  by_cases h3 : k = 3
  · rw [if_neg h1, if_neg h2, if_pos h3] at h; cases h
  rw [if_neg h1, if_neg h2, if_neg h3] at h
  by_cases h4 : k = 4
  · exact .inl h4
  by_cases h5 : k = 5
  · exact .inr h5
  by_cases h6 : k = 6
  · rw [if_neg h4, if_neg h5, if_pos h6] at h; cases h
  rw [if_neg h4, if_neg h5, if_neg h6] at h; cases h
theorem ckBu2 {k m : Int} {c : Nat} (hc : 2 ≤ c) (h : ckBu k m c = true) : k = 6 ∧ c = 2 := by
  have a0 : ((c : Int) == 0) = false := by rw [beq_eq_false_iff_ne]; omega
  have a1 : ((c : Int) == 1) = false := by rw [beq_eq_false_iff_ne]; omega
  unfold ckBu at h
  rw [a0, a1] at h
  by_cases h1 : k = 1
  · rw [if_pos h1] at h; simp at h
  by_cases h2 : k = 2
  · rw [if_neg h1, if_pos h2] at h; simp at h
  by_cases h3 : k = 3
  · rw [if_neg h1, if_neg h2, if_pos h3] at h; cases h
  rw [if_neg h1, if_neg h2, if_neg h3] at h
  by_cases h4 : k = 4
  · rw [if_pos h4] at h; cases h
  by_cases h5 : k = 5
  · rw [if_neg h4, if_pos h5] at h; cases h
  by_cases h6 : k = 6
  · rw [if_neg h4, if_neg h5, if_pos h6] at h
    exact ⟨h6, by have := beq_iff_eq.1 h; omega⟩
  rw [if_neg h4, if_neg h5, if_neg h6] at h; cases h
theorem ckPart {A : Nat → Prop} {w : World} {sa : Option Addr} {sc : Nat} {l : List Sx.Ex} (h : ExS A w (.slice sa l.length sc) l) (j : Nat) (hj : j < l.length) : ∃ g o k n m s1 c1 ll, sa = some ⟨g, o, none⟩ ∧ l[j]? = some (.mk k n m ll) ∧ ExAt w g (o + j * 4) k n m s1 ll.length c1 ∧ ExS A w (.slice s1 ll.length c1) ll := by
  obtain ⟨g, o, k, n, m, s1, sn, c1, ll, e, hg, el, c0, c1', c2, c3, hs⟩ := h.part j hj
  have hl := hs.len
  subst hl
  exact ⟨g, o, k, n, m, s1, c1, ll, e, el, ⟨c0, c1', c2, c3, hg⟩, hs⟩
end Go.Proofs.Ytobiedmmjiedlaa

namespace Go.Proofs.Ytobiedmmjiedlaa
open Go.RowKit

theorem ckTypeOf_any (A : Nat → Prop) (p : Nat) (va : Option Addr) (vc : Nat) (l : List CkVa) (mk : Int) (w : World) (h : Sco w p va vc l mk) (x : Sx.Ex) : ckTC A p l mk w x := by
  refine Fo.ind (P := fun x => ckTC A p l mk w x) ?_ x
  intro k n m ll ih k' n' m' ll' sa sc W e hW hs
  cases e
  have hS := h.later hW
  have EI : ∀ y, y ∈ ll → ∀ k1 n1 m1 lx s1 c1 W', y = .mk k1 n1 m1 lx → Below W.heap.size W W' → ExS A W (.slice s1 lx.length c1) lx → Calls Try.prog 27 #[.pointer (some ⟨p, 0, none⟩), .agg #[.int .i64 k1, .string ⟨(n1 : List UInt8).toArray⟩, .int .i64 m1, .slice s1 lx.length c1]] W' fun e w' => e = ckEnd (ckTy l mk y) ∧ Below W'.heap.size W' w' := fun y hy k1 n1 m1 lx s1 c1 W' ey hW' hx => ih y hy k1 n1 m1 lx s1 c1 W' ey (hW.trans (hW'.mono hW.size)) (hx.later hW' (Nat.le_refl _))
  match ll, hs, EI with
  | [], hs, EI =>
    cases hb : ckBu k m 0 with
    | false =>
      rw [ckTy, if_pos hb]
      exact ckTy_form _ k n m sa 0 sc W hb
    | true =>
      rw [ckTy, if_neg (by rw [hb]; exact Bool.noConfusion)]
      rcases ckBu0 hb with rfl | rfl | rfl
      · exact ckTy_int _ n m sa 0 sc W hb
      · exact ckTy_bool _ n m sa 0 sc W hb
      · exact ckTy_var p va vc l mk n m sa 0 sc W hS hb _ rfl
  | [a], hs, EI =>
    cases hb : ckBu k m 1 with
    | false =>
      rw [ckTy, if_pos hb]
      exact ckTy_form _ k n m sa 1 sc W hb
    | true =>
      rw [ckTy, if_neg (by rw [hb]; exact Bool.noConfusion)]
      obtain ⟨g, o, k1, n1, m1, s1, c1, lx, rfl, el, hx, hsx⟩ := ckPart hs 0 (by simp)
      cases el
      rw [Nat.zero_mul, Nat.add_zero] at hx
      have E1 := fun W' (hW' : Below W.heap.size W W') => EI _ (List.mem_cons_self ..) k1 n1 m1 lx s1 c1 W' rfl hW' hsx
      rcases ckBu1 hb with rfl | rfl
      · rw [if_pos rfl]
        have EA := fun W' (hW' : Below W.heap.size W W') => ckArray_any p va vc l mk n W' (hS.later hW')
        cases ha : ckAr l n mk with
        | some er =>
          rw [ha] at EA
          exact ckTy_ix_name p n m g o sc W er EA
        | none =>
          rw [ha] at EA
          have ET := fun W' (hW' : Below W.heap.size W W') => ckTyped_of p W' k1 n1 m1 s1 lx.length c1 1 _ (fun W'' hW'' => E1 W'' (hW'.trans (hW''.mono hW'.size)))
          cases ht : ckTd (ckTy l mk (.mk k1 n1 m1 lx)) 1 with
          | some er =>
            rw [ht] at ET
            exact ckTy_ix_err p n m g o sc W k1 n1 m1 s1 lx.length c1 hx er EA ET
          | none =>
            rw [ht] at ET
            exact ckTy_ix_ok p n m g o sc W k1 n1 m1 s1 lx.length c1 hx EA ET
      · rw [if_neg (by decide)]
        cases hr : ckTy l mk (.mk k1 n1 m1 lx) with
        | error er =>
          rw [hr] at E1
          exact ckTy_un_err p n m g o sc W k1 n1 m1 s1 lx.length c1 hx er E1
        | ok t =>
          rw [hr] at E1
          cases hu : ckUn n t with
          | ok u => dsimp only; rw [hu]; exact ckTy_un_ok p n m g o sc W k1 n1 m1 s1 lx.length c1 hx t u hu E1
          | error er => dsimp only; rw [hu]; exact ckTy_un_bad p n m g o sc W k1 n1 m1 s1 lx.length c1 hx t er hu E1
  | [a, b], hs, EI =>
    cases hb : ckBu k m 2 with
    | false =>
      rw [ckTy, if_pos hb]
      exact ckTy_form _ k n m sa 2 sc W hb
    | true =>
      rw [ckTy, if_neg (by rw [hb]; exact Bool.noConfusion)]
      obtain ⟨rfl, -⟩ := ckBu2 (by omega) hb
      obtain ⟨g, o, k1, n1, m1, s1, c1, lx, rfl, el, hx, hsx⟩ := ckPart hs 0 (by simp)
      obtain ⟨g', o', k2, n2, m2, s2, c2, ly, e2, el2, hy, hsy⟩ := ckPart hs 1 (by simp)
      cases e2
      cases el
      cases el2
      rw [Nat.zero_mul, Nat.add_zero] at hx
      rw [Nat.one_mul] at hy
      have E1 := fun W' (hW' : Below W.heap.size W W') => EI _ (List.mem_cons_self ..) k1 n1 m1 lx s1 c1 W' rfl hW' hsx
      have E2 := fun W' (hW' : Below W.heap.size W W') => EI _ (List.mem_cons_of_mem _ (List.mem_cons_self ..)) k2 n2 m2 ly s2 c2 W' rfl hW' hsy
      cases hr : ckTy l mk (.mk k1 n1 m1 lx) with
      | error er =>
        rw [hr] at E1
        exact ckTy_bi_left p n m g o sc W k1 n1 m1 s1 lx.length c1 hx er E1
      | ok t =>
        rw [hr] at E1
        cases hq : ckTy l mk (.mk k2 n2 m2 ly) with
        | error er =>
          rw [hq] at E2
          exact ckTy_bi_right p n m g o sc W k1 n1 m1 s1 lx.length c1 k2 n2 m2 s2 ly.length c2 hx hy t er E1 E2
        | ok u =>
          rw [hq] at E2
          cases hu : ckBi n t u with
          | ok v => dsimp only; rw [hu]; exact ckTy_bi_ok p n m g o sc W k1 n1 m1 s1 lx.length c1 k2 n2 m2 s2 ly.length c2 hx hy t u v hu E1 E2
          | error er => dsimp only; rw [hu]; exact ckTy_bi_bad p n m g o sc W k1 n1 m1 s1 lx.length c1 k2 n2 m2 s2 ly.length c2 hx hy t u er hu E1 E2
  | a :: b :: c :: r, hs, EI =>
    have hb : ckBu k m (a :: b :: c :: r).length = false := by
      cases hb : ckBu k m (a :: b :: c :: r).length with
      | false => rfl
      | true =>
        have := (ckBu2 (by simp) hb).2
        simp at this
    have e : ckTy l mk (.mk k n m (a :: b :: c :: r)) = .error 32 := by rw [ckTy]; all_goals simp
    rw [e]
    exact ckTy_form _ k n m sa _ sc W hb
end Go.Proofs.Ytobiedmmjiedlaa

namespace Go.Proofs.Ytobiedmmjiedlaa
open Go.RowKit

set_option maxRecDepth 100000 in
set_option maxHeartbeats 2000000 in
theorem ckTypeOf1 (p g t : Nat) (A : Nat → Prop) (va : Option Addr) (vc : Nat) (l : List CkVa) (mk : Int) (k : Int) (n : List UInt8) (m : Int) (ll : List Sx.Ex) (sa : Option Addr) (sc : Nat) (w : World) (h : Sco w p va vc l mk) (hx : ExAt w g 0 k n m sa ll.length sc) (hs : ExS A w (.slice sa ll.length sc) ll) (ct : ∃ v, w.cell? ⟨t, 0, none⟩ = some v) (ft : w.frozen? ⟨t, 0, none⟩ = false) (lt : t < w.heap.size) (u : Int) (hu : ckTy l mk (.mk k n m ll) = .ok u) :
    Calls Try.prog 26 #[.pointer (some ⟨p, 0, none⟩), .pointer (some ⟨g, 0, none⟩), .pointer (some ⟨t, 0, none⟩)] w fun e w' => e = .returned (.tuple #[]) ∧ (w'.cell? ⟨t, 0, none⟩ = some (.int .i64 u) ∧ w'.frozen? ⟨t, 0, none⟩ = false) ∧ Keep (fun b => b = t) w w' := by
  have E1 : Hid (∀ W, Below w.heap.size w W → Calls Try.prog 27 #[.pointer (some ⟨p, 0, none⟩), .agg #[.int .i64 k, .string ⟨n.toArray⟩, .int .i64 m, .slice sa ll.length sc]] W fun e w' => e = .returned (.int .i64 u) ∧ Below W.heap.size W w') := fun W hW => by
    have := ckTypeOf_any A p va vc l mk w h (.mk k n m ll) k n m ll sa sc W rfl hW (hs.later hW (Nat.le_refl _))
    rw [hu] at this
    exact this
  obtain ⟨v, cv⟩ := ct
  have HT : Hid (w.cell? ⟨t, 0, none⟩ = some v ∧ w.frozen? ⟨t, 0, none⟩ = false ∧ t < w.heap.size) := ⟨cv, ft, lt⟩
  obtain ⟨y0, y1, y2, y3, yz⟩ := hx
  clear hu hs h
  go_enter Try.func26, Try.ntmps26
  go_wp2_with fail
  refine Calls.mono (E1.out _ (by go_grown)) ?_
  rintro e w1 ⟨rfl, b1⟩
  have cv1 := (b1.cell (p := ⟨t, 0, none⟩) HT.out.2.2).trans HT.out.1
  have ft1 := (b1.frozen (p := ⟨t, 0, none⟩) HT.out.2.2).trans HT.out.2.1
  have B1 : Hid _ := b1
  clear b1
  go_wp2_with fail
  exact ⟨rfl, .tuple #[], by simp [results, Try.results26, go_sem], rfl, ⟨by simp [go_sem, cv1], by simp [go_sem, ft1]⟩, (Keep.of_below B1.out (Nat.le_refl _) : Keep (fun b => b = t) w w1).set (a := ⟨t, 0, none⟩) (.inr rfl) _⟩
set_option maxRecDepth 100000 in
set_option maxHeartbeats 2000000 in
/-- TypeOf of a right expression. -/
theorem ckTypeOf_ok (A : Nat → Prop) (va : Option Addr) (vc : Nat) (l : List CkVa) (mk : Int) (k : Int) (n : List UInt8) (m : Int) (ll : List Sx.Ex) (sa : Option Addr) (sc : Nat) (w : World) (hv : VaS w va l) (hs : ExS A w (.slice sa ll.length sc) ll) (u : Int) (hu : ckTy l mk (.mk k n m ll) = .ok u) :
    Calls Try.prog 14 #[exV k n m sa ll.length sc, .slice va l.length vc, .int .i64 mk] w fun e w' => e = .returned (.tuple #[.int .i64 u, .int .i64 0]) ∧ Below w.heap.size w w' := by
  have HV : Hid (VaS w va l) := hv
  have HS : Hid (ExS A w (.slice sa ll.length sc) ll) := hs
  have HU : Hid _ := hu
  clear hv hs hu
  unfold exV
  go_enter Try.func14, Try.ntmps14
  go_wp2_with fail
  obtain ⟨V, hV⟩ : ∃ V, V = (((w.alloc (.cells #[.int .i64 k, .string ⟨n.toArray⟩, .int .i64 m, .slice sa ll.length sc] 54)).alloc (.cells #[.int .i64 0] 3)).alloc (.cells #[.slice va l.length vc, .int .i64 mk] 76)) := ⟨_, rfl⟩
  have zV : V.heap.size = w.heap.size + 1 + 1 + 1 := by rw [hV]; simp
  have bV : Below w.heap.size w V := by rw [hV]; exact ((Below.refl w.heap.size w).alloc (Nat.le_refl _) _ |>.alloc (by simp) _).alloc (by simp; omega) _
  have bC : Below V.heap.size V (ck1box V) := box_below V _
  have bW : Below w.heap.size w (ck1box V) := bV.trans (bC.mono bV.size)
  have hx : ExAt (ck1box V) w.heap.size 0 k n m sa ll.length sc := by
    constructor
    all_goals (unfold ck1box; rw [hV]; simp [go_sem])
  have hsc : Sco (ck1box V) (w.heap.size + 1 + 1) va vc l mk := by
    refine ⟨?_, ?_, ?_, HV.out.later bW⟩
    all_goals (unfold ck1box; rw [hV]; simp [go_sem])
  have ct : ∃ v, (ck1box V).cell? ⟨w.heap.size + 1, 0, none⟩ = some v := ⟨.int .i64 0, by unfold ck1box; rw [hV]; simp [go_sem]⟩
  have ft : (ck1box V).frozen? ⟨w.heap.size + 1, 0, none⟩ = false := by unfold ck1box; rw [hV]; simp [go_sem]
  have lt : w.heap.size + 1 < (ck1box V).heap.size := Nat.lt_of_lt_of_le (by omega) bC.size
  have E1 : Hid _ := ckAttempt_ok 26 #[.pointer (some ⟨w.heap.size + 1 + 1, 0, none⟩), .pointer (some ⟨w.heap.size, 0, none⟩), .pointer (some ⟨w.heap.size + 1, 0, none⟩)] V (fun b => b = w.heap.size + 1) (fun g e => by omega) (fun W => W.cell? ⟨w.heap.size + 1, 0, none⟩ = some (.int .i64 u) ∧ W.frozen? ⟨w.heap.size + 1, 0, none⟩ = false) (fun _ => rfl) (Calls.mono (ckTypeOf1 (w.heap.size + 1 + 1) w.heap.size (w.heap.size + 1) A va vc l mk k n m ll sa sc (ck1box V) hsc hx (HS.out.later bW (Nat.le_refl _)) ct ft lt u HU.out) (fun e w' h => ⟨h.1, h.2.2, h.2.1⟩))
  have BW : Hid (Below w.heap.size w (ck1box V)) := bW
  have zC : (ck1box V).heap.size = w.heap.size + 1 + 1 + 1 + 1 := by unfold ck1box; simp [zV]
  rw [← hV]
  clear hV hx hsc ct ft lt bC bV bW
  refine Calls.mono E1.out ?_
  rintro e w' ⟨rfl, w1, k1, c1, rfl⟩
  have z1 := k1.size
  rw [zC] at z1
  have KW : Hid (Below w.heap.size w w1) := BW.out.trans ⟨k1.os, k1.tape, k1.output, k1.size, fun i hi => k1.block i (by omega) (by omega)⟩
  obtain ⟨q0, q1⟩ := c1
  have r0 : (w1.setCell ⟨V.heap.size, 0, none⟩ (.int .i64 0)).cell? ⟨w.heap.size + 1, 0, none⟩ = some (.int .i64 u) := by simp [go_sem, q0, zV]
  have r1 : (w1.setCell ⟨V.heap.size, 0, none⟩ (.int .i64 0)).frozen? ⟨w.heap.size + 1, 0, none⟩ = false := by simp [go_sem, q1]
  have KS : Hid (Below w.heap.size w (w1.setCell ⟨V.heap.size, 0, none⟩ (.int .i64 0))) := KW.out.setCell (by simp; omega) _
  have r2 : w.heap.size + 1 < (w1.setCell ⟨V.heap.size, 0, none⟩ (.int .i64 0)).heap.size := by simp; omega
  generalize w1.setCell ⟨V.heap.size, 0, none⟩ (.int .i64 0) = U at *
  clear E1 k1 q0 q1 KW BW zC z1
  go_wp2_with fail
  refine bodyPost_ret (v := .tuple #[.int .i64 u, .int .i64 0]) (by simp [results, Try.results14, go_sem, r0]) rfl ?_
  exact ⟨rfl, KS.out.setCell (by simp) _⟩
end Go.Proofs.Ytobiedmmjiedlaa

namespace Go.Proofs.Ytobiedmmjiedlaa
open Go.RowKit

def smV (k : Int) (n q : List UInt8) (m : Int) (ea : Option Addr) (en ec : Nat) (ba : Option Addr) (bn bc : Nat) (la : Option Addr) (ln lc : Nat) : Value := .agg #[.int .i64 k, .string ⟨n.toArray⟩, .string ⟨q.toArray⟩, .int .i64 m, .slice ea en ec, .slice ba bn bc, .slice la ln lc]
/-- Formed as it must be, of a kind without blocks. -/
def ckPf (k m : Int) (e : Nat) : Bool :=
  if k = 1 then ((e : Int) == 0) && decide (-1 ≤ m) else if k = 9 then ((e : Int) == 0)
  else if k = 2 then ((e : Int) == 1) else if k = 8 then ((e : Int) == 1) else if k = 10 then ((e : Int) == 1)
  else if k = 3 then ((e : Int) == 2) else if k = 7 then decide ((e : Int) ≤ 1) else k == 6
set_option maxRecDepth 100000 in
set_option maxHeartbeats 2000000 in
theorem ckPf_v1 (n q : List UInt8) (ea : Option Addr) (ec : Nat) (ba : Option Addr) (bn bc : Nat) (la : Option Addr) (ln lc : Nat) (w : World) (m : Int) : Calls Try.prog 95 #[smV 1 n q m ea 0 ec ba bn bc la ln lc] w fun e w' => e = .returned (.bool (ckPf 1 m 0)) ∧ Below w.heap.size w w' := by
  have H : Hid (ckPf 1 m 0 = decide (-1 ≤ m)) := by unfold Hid ckPf; simp
  unfold smV
  go_enter Try.func95, Try.ntmps95
  go_wp2_with fail
  go_ret
  exact ⟨ret_bool H.out.symm, by go_grown⟩
set_option maxRecDepth 100000 in
set_option maxHeartbeats 2000000 in
theorem ckPf_v0 (n q : List UInt8) (ea : Option Addr) (ec : Nat) (ba : Option Addr) (bn bc : Nat) (la : Option Addr) (ln lc : Nat) (w : World) (m : Int) (en : Nat) (h : ¬ en = 0) : Calls Try.prog 95 #[smV 1 n q m ea en ec ba bn bc la ln lc] w fun e w' => e = .returned (.bool (ckPf 1 m en)) ∧ Below w.heap.size w w' := by
  have H : Hid (ckPf 1 m en = false) := by unfold Hid ckPf; simp [h]
  have h2 : ((en : Int) == 0) = false := by rw [beq_eq_false_iff_ne]; omega
  clear h
  unfold smV
  go_enter Try.func95, Try.ntmps95
  go_wp2_with fail
  go_ret
  exact ⟨ret_bool H.out.symm, by go_grown⟩
set_option maxRecDepth 100000 in
set_option maxHeartbeats 2000000 in
theorem ckPf_k9 (n q : List UInt8) (ea : Option Addr) (ec : Nat) (ba : Option Addr) (bn bc : Nat) (la : Option Addr) (ln lc : Nat) (w : World) (m : Int) (en : Nat) : Calls Try.prog 95 #[smV 9 n q m ea en ec ba bn bc la ln lc] w fun e w' => e = .returned (.bool (ckPf 9 m en)) ∧ Below w.heap.size w w' := by
  have H : Hid (ckPf 9 m en = ((en : Int) == 0)) := by unfold Hid ckPf; simp
  unfold smV
  go_enter Try.func95, Try.ntmps95
  go_wp2_with fail
  go_ret
  exact ⟨ret_bool H.out.symm, by go_grown⟩
set_option maxRecDepth 100000 in
set_option maxHeartbeats 2000000 in
theorem ckPf_k2 (n q : List UInt8) (ea : Option Addr) (ec : Nat) (ba : Option Addr) (bn bc : Nat) (la : Option Addr) (ln lc : Nat) (w : World) (m : Int) (en : Nat) : Calls Try.prog 95 #[smV 2 n q m ea en ec ba bn bc la ln lc] w fun e w' => e = .returned (.bool (ckPf 2 m en)) ∧ Below w.heap.size w w' := by
  have H : Hid (ckPf 2 m en = ((en : Int) == 1)) := by unfold Hid ckPf; simp
  unfold smV
  go_enter Try.func95, Try.ntmps95
  go_wp2_with fail
  go_ret
  exact ⟨ret_bool H.out.symm, by go_grown⟩
set_option maxRecDepth 100000 in
set_option maxHeartbeats 2000000 in
theorem ckPf_k8 (n q : List UInt8) (ea : Option Addr) (ec : Nat) (ba : Option Addr) (bn bc : Nat) (la : Option Addr) (ln lc : Nat) (w : World) (m : Int) (en : Nat) : Calls Try.prog 95 #[smV 8 n q m ea en ec ba bn bc la ln lc] w fun e w' => e = .returned (.bool (ckPf 8 m en)) ∧ Below w.heap.size w w' := by
  have H : Hid (ckPf 8 m en = ((en : Int) == 1)) := by unfold Hid ckPf; simp
  unfold smV
  go_enter Try.func95, Try.ntmps95
  go_wp2_with fail
  go_ret
  exact ⟨ret_bool H.out.symm, by go_grown⟩
set_option maxRecDepth 100000 in
set_option maxHeartbeats 2000000 in
theorem ckPf_k10 (n q : List UInt8) (ea : Option Addr) (ec : Nat) (ba : Option Addr) (bn bc : Nat) (la : Option Addr) (ln lc : Nat) (w : World) (m : Int) (en : Nat) : Calls Try.prog 95 #[smV 10 n q m ea en ec ba bn bc la ln lc] w fun e w' => e = .returned (.bool (ckPf 10 m en)) ∧ Below w.heap.size w w' := by
  have H : Hid (ckPf 10 m en = ((en : Int) == 1)) := by unfold Hid ckPf; simp
  unfold smV
  go_enter Try.func95, Try.ntmps95
  go_wp2_with fail
  go_ret
  exact ⟨ret_bool H.out.symm, by go_grown⟩
set_option maxRecDepth 100000 in
set_option maxHeartbeats 2000000 in
theorem ckPf_k3 (n q : List UInt8) (ea : Option Addr) (ec : Nat) (ba : Option Addr) (bn bc : Nat) (la : Option Addr) (ln lc : Nat) (w : World) (m : Int) (en : Nat) : Calls Try.prog 95 #[smV 3 n q m ea en ec ba bn bc la ln lc] w fun e w' => e = .returned (.bool (ckPf 3 m en)) ∧ Below w.heap.size w w' := by
  have H : Hid (ckPf 3 m en = ((en : Int) == 2)) := by unfold Hid ckPf; simp
  unfold smV
  go_enter Try.func95, Try.ntmps95
  go_wp2_with fail
  go_ret
  exact ⟨ret_bool H.out.symm, by go_grown⟩
set_option maxRecDepth 100000 in
set_option maxHeartbeats 2000000 in
theorem ckPf_k7 (n q : List UInt8) (ea : Option Addr) (ec : Nat) (ba : Option Addr) (bn bc : Nat) (la : Option Addr) (ln lc : Nat) (w : World) (m : Int) (en : Nat) : Calls Try.prog 95 #[smV 7 n q m ea en ec ba bn bc la ln lc] w fun e w' => e = .returned (.bool (ckPf 7 m en)) ∧ Below w.heap.size w w' := by
  have H : Hid (ckPf 7 m en = decide ((en : Int) ≤ 1)) := by unfold Hid ckPf; simp
  unfold smV
  go_enter Try.func95, Try.ntmps95
  go_wp2_with fail
  go_ret
  exact ⟨ret_bool H.out.symm, by go_grown⟩
set_option maxRecDepth 100000 in
set_option maxHeartbeats 2000000 in
theorem ckPf_no (n q : List UInt8) (ea : Option Addr) (ec : Nat) (ba : Option Addr) (bn bc : Nat) (la : Option Addr) (ln lc : Nat) (w : World) (k m : Int) (en : Nat) (h1 : ¬ k = 1) (h9 : ¬ k = 9) (h2 : ¬ k = 2) (h8 : ¬ k = 8) (h10 : ¬ k = 10) (h3 : ¬ k = 3) (h7 : ¬ k = 7) : Calls Try.prog 95 #[smV k n q m ea en ec ba bn bc la ln lc] w fun e w' => e = .returned (.bool (ckPf k m en)) ∧ Below w.heap.size w w' := by
  have H : Hid (ckPf k m en = (k == 6)) := by unfold Hid ckPf; simp [h1, h9, h2, h8, h10, h3, h7]
  unfold smV
  go_enter Try.func95, Try.ntmps95
  go_wp2_with fail
  go_ret
  exact ⟨ret_bool H.out.symm, by go_grown⟩
theorem ckPf_any (k m : Int) (en : Nat) (n q : List UInt8) (ea : Option Addr) (ec : Nat) (ba : Option Addr) (bn bc : Nat) (la : Option Addr) (ln lc : Nat) (w : World) : Calls Try.prog 95 #[smV k n q m ea en ec ba bn bc la ln lc] w fun e w' => e = .returned (.bool (ckPf k m en)) ∧ Below w.heap.size w w' := by
  by_cases h1 : k = 1
  · subst h1
    by_cases h : en = 0
    · subst h; exact ckPf_v1 n q ea ec ba bn bc la ln lc w m
    · exact ckPf_v0 n q ea ec ba bn bc la ln lc w m en h
  by_cases h9 : k = 9
  · subst h9; exact ckPf_k9 n q ea ec ba bn bc la ln lc w m en
  by_cases h2 : k = 2
  · subst h2; exact ckPf_k2 n q ea ec ba bn bc la ln lc w m en
  by_cases h8 : k = 8
  · subst h8; exact ckPf_k8 n q ea ec ba bn bc la ln lc w m en
  by_cases h10 : k = 10
  · subst h10; exact ckPf_k10 n q ea ec ba bn bc la ln lc w m en
  by_cases h3 : k = 3
  · subst h3; exact ckPf_k3 n q ea ec ba bn bc la ln lc w m en
  by_cases h7 : k = 7
  · subst h7; exact ckPf_k7 n q ea ec ba bn bc la ln lc w m en
  exact ckPf_no n q ea ec ba bn bc la ln lc w k m en h1 h9 h2 h8 h10 h3 h7
end Go.Proofs.Ytobiedmmjiedlaa

namespace Go.Proofs.Ytobiedmmjiedlaa
open Go.RowKit

def ckFm (k m : Int) (e b l : Nat) : Bool :=
  if k = 4 then ((e : Int) == 1) else if k = 5 then ((e : Int) == 1) && ((l : Int) == 0)
  else ((b : Int) == 0) && (((l : Int) == 0) && ckPf k m e)
set_option maxRecDepth 100000 in
set_option maxHeartbeats 2000000 in
theorem ckFm_if (n q : List UInt8) (m : Int) (ea : Option Addr) (ec : Nat) (ba : Option Addr) (bc : Nat) (la : Option Addr) (lc : Nat) (w : World) (en bn ln : Nat) : Calls Try.prog 86 #[smV 4 n q m ea en ec ba bn bc la ln lc] w fun e w' => e = .returned (.bool (ckFm 4 m en bn ln)) ∧ Below w.heap.size w w' := by
  have H : Hid (ckFm 4 m en bn ln = ((en : Int) == 1)) := by unfold Hid ckFm; simp
  unfold smV
  go_enter Try.func86, Try.ntmps86
  go_wp2_with fail
  go_ret
  exact ⟨ret_bool H.out.symm, by go_grown⟩
set_option maxRecDepth 100000 in
set_option maxHeartbeats 2000000 in
theorem ckFm_wh1 (n q : List UInt8) (m : Int) (ea : Option Addr) (ec : Nat) (ba : Option Addr) (bc : Nat) (la : Option Addr) (lc : Nat) (w : World) (bn ln : Nat) : Calls Try.prog 86 #[smV 5 n q m ea 1 ec ba bn bc la ln lc] w fun e w' => e = .returned (.bool (ckFm 5 m 1 bn ln)) ∧ Below w.heap.size w w' := by
  have H : Hid (ckFm 5 m 1 bn ln = ((ln : Int) == 0)) := by unfold Hid ckFm; simp
  unfold smV
  go_enter Try.func86, Try.ntmps86
  go_wp2_with fail
  go_ret
  exact ⟨ret_bool H.out.symm, by go_grown⟩
set_option maxRecDepth 100000 in
set_option maxHeartbeats 2000000 in
theorem ckFm_wh0 (n q : List UInt8) (m : Int) (ea : Option Addr) (ec : Nat) (ba : Option Addr) (bc : Nat) (la : Option Addr) (lc : Nat) (w : World) (en bn ln : Nat) (h : ¬ en = 1) : Calls Try.prog 86 #[smV 5 n q m ea en ec ba bn bc la ln lc] w fun e w' => e = .returned (.bool (ckFm 5 m en bn ln)) ∧ Below w.heap.size w w' := by
  have H : Hid (ckFm 5 m en bn ln = false) := by unfold Hid ckFm; simp; omega
  have h2 : ((en : Int) == 1) = false := by rw [beq_eq_false_iff_ne]; omega
  clear h
  unfold smV
  go_enter Try.func86, Try.ntmps86
  go_wp2_with fail
  go_ret
  exact ⟨ret_bool H.out.symm, by go_grown⟩
set_option maxRecDepth 100000 in
set_option maxHeartbeats 2000000 in
theorem ckFm_b (n q : List UInt8) (m : Int) (ea : Option Addr) (ec : Nat) (ba : Option Addr) (bc : Nat) (la : Option Addr) (lc : Nat) (w : World) (k : Int) (k4 : ¬ k = 4) (k5 : ¬ k = 5) (en bn ln : Nat) (h : ¬ bn = 0) : Calls Try.prog 86 #[smV k n q m ea en ec ba bn bc la ln lc] w fun e w' => e = .returned (.bool (ckFm k m en bn ln)) ∧ Below w.heap.size w w' := by
  have H : Hid (ckFm k m en bn ln = false) := by unfold Hid ckFm; simp [k4, k5, h]
  have h2 : ((bn : Int) == 0) = false := by rw [beq_eq_false_iff_ne]; omega
  clear h
  unfold smV
  go_enter Try.func86, Try.ntmps86
  go_wp2_with fail
  go_ret
  exact ⟨ret_bool H.out.symm, by go_grown⟩
set_option maxRecDepth 100000 in
set_option maxHeartbeats 2000000 in
theorem ckFm_l (n q : List UInt8) (m : Int) (ea : Option Addr) (ec : Nat) (ba : Option Addr) (bc : Nat) (la : Option Addr) (lc : Nat) (w : World) (k : Int) (k4 : ¬ k = 4) (k5 : ¬ k = 5) (en ln : Nat) (h : ¬ ln = 0) : Calls Try.prog 86 #[smV k n q m ea en ec ba 0 bc la ln lc] w fun e w' => e = .returned (.bool (ckFm k m en 0 ln)) ∧ Below w.heap.size w w' := by
  have H : Hid (ckFm k m en 0 ln = false) := by unfold Hid ckFm; simp [k4, k5, h]
  have h2 : ((ln : Int) == 0) = false := by rw [beq_eq_false_iff_ne]; omega
  clear h
  unfold smV
  go_enter Try.func86, Try.ntmps86
  go_wp2_with fail
  go_ret
  exact ⟨ret_bool H.out.symm, by go_grown⟩
set_option maxRecDepth 100000 in
set_option maxHeartbeats 2000000 in
theorem ckFm_p (n q : List UInt8) (m : Int) (ea : Option Addr) (ec : Nat) (ba : Option Addr) (bc : Nat) (la : Option Addr) (lc : Nat) (w : World) (k : Int) (k4 : ¬ k = 4) (k5 : ¬ k = 5) (en : Nat) : Calls Try.prog 86 #[smV k n q m ea en ec ba 0 bc la 0 lc] w fun e w' => e = .returned (.bool (ckFm k m en 0 0)) ∧ Below w.heap.size w w' := by
  have H : Hid (ckFm k m en 0 0 = ckPf k m en) := by unfold Hid ckFm; simp [k4, k5]
  have EP : Hid (∀ W, Calls Try.prog 95 #[.agg #[.int .i64 k, .string ⟨n.toArray⟩, .string ⟨q.toArray⟩, .int .i64 m, .slice ea en ec, .slice ba 0 bc, .slice la 0 lc]] W fun e w' => e = .returned (.bool (ckPf k m en)) ∧ Below W.heap.size W w') := fun W => ckPf_any k m en n q ea ec ba 0 bc la 0 lc W
  unfold smV
  go_enter Try.func86, Try.ntmps86
  go_wp2_with fail
  refine Calls.mono (EP.out _) ?_
  rintro e w1 ⟨rfl, b1⟩
  have B1 : Hid (Below w.heap.size w w1) := Below.trans (by go_grown) (b1.mono (by go_size))
  clear b1
  go_wp2_with fail
  go_ret
  exact ⟨ret_bool H.out.symm, B1.out⟩
theorem ckFm_any (k : Int) (en bn ln : Nat) (n q : List UInt8) (m : Int) (ea : Option Addr) (ec : Nat) (ba : Option Addr) (bc : Nat) (la : Option Addr) (lc : Nat) (w : World) : Calls Try.prog 86 #[smV k n q m ea en ec ba bn bc la ln lc] w fun e w' => e = .returned (.bool (ckFm k m en bn ln)) ∧ Below w.heap.size w w' := by
  by_cases k4 : k = 4
  · subst k4; exact ckFm_if n q m ea ec ba bc la lc w en bn ln
  by_cases k5 : k = 5
  · subst k5
    by_cases h : en = 1
    · subst h; exact ckFm_wh1 n q m ea ec ba bc la lc w bn ln
    · exact ckFm_wh0 n q m ea ec ba bc la lc w en bn ln h
  by_cases hb : bn = 0
  · subst hb
    by_cases hl : ln = 0
    · subst hl; exact ckFm_p n q m ea ec ba bc la lc w k k4 k5 en
    · exact ckFm_l n q m ea ec ba bc la lc w k k4 k5 en ln hl
  · exact ckFm_b n q m ea ec ba bc la lc w k k4 k5 en bn ln hb
end Go.Proofs.Ytobiedmmjiedlaa

namespace Go.Proofs.Ytobiedmmjiedlaa
open Go.RowKit

/-- The procedure of a name. -/
def ckCd : List Sy.Pc → List UInt8 → Option Sy.Pc
  | [], _ => none
  | x :: r, n => if x.name = n then some x else ckCd r n
def ckArgs (vs : List CkVa) (mk : Int) : List Sx.Ex → List Sy.Pa → Option Int
  | x :: r, a :: t => match ckTd (ckTy vs mk x) a.type with | some e => some e | none => ckArgs vs mk r t
  | _, _ => none
def ckTake (vs : List CkVa) (mk : Int) (n : List UInt8) (t : Int) : Option Int := match ckSi vs n mk with | .error er => some er | .ok u => if u = t then none else some 41
/-- A call. -/
def ckCal (vs : List CkVa) (mk : Int) (ps : List Sy.Pc) (n q : List UInt8) (e : List Sx.Ex) : Option Int :=
  match ckCd ps q with
  | none => some 40
  | some x => if e.length = x.params.length then (match ckArgs vs mk e x.params with | some er => some er | none => if n = [] then none else ckTake vs mk n x.type) else some 41
/-- A return. -/
def ckAns (vs : List CkVa) (mk ty : Int) : List Sx.Ex → Option Int
  | [] => if ty = 0 then none else some 41
  | [a] => if ty = 0 then some 41 else ckTd (ckTy vs mk a) ty
  | _ => some 41
def ex0 : Sx.Ex := .mk 0 [] 0 []
/-- What is wrong with a statement, but for its blocks. -/
def ckStm (vs : List CkVa) (mk : Int) (ps : List Sy.Pc) (ty : Int) : Sy.St → Option Int
  | .mk k n q num e b l =>
    if ckFm k num e.length b.length l.length = false then some 32
    else if k = 1 then (if num ≤ 64 then none else some 2)
    else if k = 2 then (match ckSi vs n mk with | .error er => some er | .ok t => ckTd (ckTy vs mk (e.getD 0 ex0)) t)
    else if k = 3 then (match ckAr vs n mk with | some er => some er | none => match ckTd (ckTy vs mk (e.getD 0 ex0)) 1 with | some er => some er | none => ckTd (ckTy vs mk (e.getD 1 ex0)) 1)
    else if k = 4 ∨ k = 5 ∨ k = 10 then ckTd (ckTy vs mk (e.getD 0 ex0)) 2
    else if k = 8 then (match ckTy vs mk (e.getD 0 ex0) with | .error er => some er | .ok _ => none)
    else if k = 9 then ckTake vs mk n 1
    else if k = 6 then ckCal vs mk ps n q e
    else ckAns vs mk ty e
/-- The checker, as far as a statement's check reads it. -/
structure Ckr (A : Nat → Prop) (w : World) (p : Nat) (va : Option Addr) (vc : Nat) (vs : List CkVa) (m : Int) (qa : Option Addr) (qc : Nat) (ps : List Sy.Pc) (at_ : Nat) : Prop where
  s : Sco w p va vc vs m
  c2 : w.cell? ⟨p, 2, none⟩ = some (.slice qa ps.length qc)
  c3 : w.cell? ⟨p, 3, none⟩ = some (.int .i64 (at_ : Int))
  pr : PcS A w (.slice qa ps.length qc) ps
  ln : ps.length ≤ 1000000
theorem Ckr.later {A : Nat → Prop} {w w' : World} {p : Nat} {va : Option Addr} {vc : Nat} {vs : List CkVa} {m : Int} {qa : Option Addr} {qc : Nat} {ps : List Sy.Pc} {at_ : Nat} (h : Ckr A w p va vc vs m qa qc ps at_) (b : Below w.heap.size w w') : Ckr A w' p va vc vs m qa qc ps at_ :=
  ⟨h.s.later b, (b.cell h.s.lt).trans h.c2, (b.cell h.s.lt).trans h.c3, h.pr.later b (Nat.le_refl _), h.ln⟩
theorem PcS.part {A : Nat → Prop} {w : World} {qa : Option Addr} {qc : Nat} {ps : List Sy.Pc} (h : PcS A w (.slice qa ps.length qc) ps) (j : Nat) (hj : j < ps.length) : ∃ g o x pa pc ba bc, qa = some ⟨g, o, none⟩ ∧ A g ∧ g < w.heap.size ∧ ps[j]? = some x ∧ PcAt A w g (o + j * 4) x pa pc ba bc := by
  obtain ⟨a, c, e, h⟩ := h
  cases e
  obtain ⟨g, o, e, ha, hg, h⟩ := h (by omega)
  obtain ⟨x, pa, pc, ba, bc, e1, e2⟩ := h j hj
  exact ⟨g, o, x, pa, pc, ba, bc, e, ha, hg, e1, e2⟩
def pcV (x : Sy.Pc) (pa : Option Addr) (pc : Nat) (ba : Option Addr) (bc : Nat) : Value := .agg #[.string ⟨x.name.toArray⟩, .slice pa x.params.length pc, .int .i64 x.type, .slice ba x.body.length bc]
abbrev pcB (x : Sy.Pc) (pa : Option Addr) (pc : Nat) (ba : Option Addr) (bc : Nat) : Obj := .cells #[.string ⟨x.name.toArray⟩, .slice pa x.params.length pc, .int .i64 x.type, .slice ba x.body.length bc] 25
theorem ckCd_at {ps : List Sy.Pc} {j : Nat} {x : Sy.Pc} (h : ps[j]? = some x) (n : List UInt8) : ckCd (ps.drop j) n = if x.name = n then some x else ckCd (ps.drop (j + 1)) n := by
  obtain ⟨hj, e⟩ := List.getElem?_eq_some_iff.1 h
  rw [List.drop_eq_getElem_cons hj, e, ckCd]
/-- What called answers. -/
def CdR (A : Nat → Prop) (w : World) (r : Option Sy.Pc) (e : Ending) (w' : World) : Prop :=
  (r = none ∧ e = ckPan 40 ∧ Below w.heap.size w w') ∨ ∃ x pa pc ba bc, r = some x ∧ e = .returned (pcV x pa pc ba bc) ∧ PaS A w' (.slice pa x.params.length pc) x.params ∧ Below w.heap.size w w'
set_option maxRecDepth 100000 in
set_option maxHeartbeats 4000000 in
theorem ckCalled_any (A : Nat → Prop) (p : Nat) (va : Option Addr) (vc : Nat) (vs : List CkVa) (m : Int) (qa : Option Addr) (qc : Nat) (ps : List Sy.Pc) (at_ : Nat) (n : List UInt8) (w : World) (h : Ckr A w p va vc vs m qa qc ps at_) :
    Calls Try.prog 96 #[.pointer (some ⟨p, 0, none⟩), .string ⟨n.toArray⟩] w (CdR A w (ckCd ps n)) := by
  have H : Hid (Ckr A w p va vc vs m qa qc ps at_) := h
  have c2 := h.c2
  have hp := h.s.lt
  have HL : Hid (ps.length ≤ 1000000) := h.ln
  have npz : ¬ p = w.heap.size := by omega
  have bz : Hid (Below w.heap.size w (w.alloc zPc)) := box_below w _
  clear h
  go_enter Try.func96, Try.ntmps96
  go_wp2_with fail
  go_loopw [12] (fun i wr => ∃ (j : Nat), j ≤ ps.length ∧ i = .int .i64 j ∧ Hid (ckCd (ps.drop j) n = ckCd ps n) ∧ Hid (Below (w.alloc zPc).heap.size (w.alloc zPc) wr)) (fun i _ => ps.length - (intOf i).toNat)
  case atStart => exact ⟨0, by omega, rfl, (by simp : ckCd (ps.drop 0) n = ckCd ps n), Below.refl _ _⟩
  case round =>
    obtain ⟨j, hj, rfl, N, B⟩ := hrel
    have BW : Hid (Below w.heap.size w wr) := bz.out.trans (B.out.mono bz.out.size)
    have z0 : w.heap.size < (w.alloc zPc).heap.size := by simp
    have zw : w.heap.size < wr.heap.size := Nat.lt_of_lt_of_le z0 B.out.size
    by_cases hlt : j < ps.length
    · obtain ⟨g, o, x, pa, pc, ba, bc, rfl, ha, hg, el, at0⟩ := H.out.pr.part j hlt
      have HP : Hid (PaS A w (.slice pa x.params.length pc) x.params) := at0.hp
      obtain ⟨c0, c1, c2', c3, -, -⟩ := at0.keep (A' := A) (fun _ _ a => a) (fun q _ hq => BW.out.cell hq) BW.out.size ha hg
      have hji : (j : Int) < (ps.length : Int) := by omega
      have hj0 : (0 : Int) ≤ (j : Int) := by omega
      have hL := HL.out
      have CA : Hid _ := ckCd_at el n
      have b0 : wr.cell? ⟨w.heap.size, 0, none⟩ = some (.string ⟨#[]⟩) := (B.out.cell (p := ⟨w.heap.size, 0, none⟩) z0).trans (by simp [go_sem])
      have b1 : wr.cell? ⟨w.heap.size, 1, none⟩ = some (.slice none 0 0) := (B.out.cell (p := ⟨w.heap.size, 1, none⟩) z0).trans (by simp [go_sem])
      have b2 : wr.cell? ⟨w.heap.size, 2, none⟩ = some (.int .i64 0) := (B.out.cell (p := ⟨w.heap.size, 2, none⟩) z0).trans (by simp [go_sem])
      have b3 : wr.cell? ⟨w.heap.size, 3, none⟩ = some (.slice none 0 0) := (B.out.cell (p := ⟨w.heap.size, 3, none⟩) z0).trans (by simp [go_sem])
      have f0 : wr.frozen? ⟨w.heap.size, 0, none⟩ = false := (B.out.frozen (p := ⟨w.heap.size, 0, none⟩) z0).trans (by simp [go_sem])
      have f1 : wr.frozen? ⟨w.heap.size, 1, none⟩ = false := (B.out.frozen (p := ⟨w.heap.size, 1, none⟩) z0).trans (by simp [go_sem])
      have f2 : wr.frozen? ⟨w.heap.size, 2, none⟩ = false := (B.out.frozen (p := ⟨w.heap.size, 2, none⟩) z0).trans (by simp [go_sem])
      have f3 : wr.frozen? ⟨w.heap.size, 3, none⟩ = false := (B.out.frozen (p := ⟨w.heap.size, 3, none⟩) z0).trans (by simp [go_sem])
      have nz : ¬ w.heap.size = wr.heap.size := by omega
      have bx : Hid (Below wr.heap.size wr (wr.alloc (pcB x pa pc ba bc))) := box_below wr _
      clear el at0
      by_cases hn : x.name = n
      · have en := text_t hn
        have G : Hid (ckCd ps n = some x) := by rw [← N.out, CA.out, if_pos hn]; rfl
        clear CA hn
        go_wp2_with fail
        refine bodyPost_ret (v := pcV x pa pc ba bc) (by simp [results, Try.results96, go_sem, pcV, b0, b1, b2, b3, zw]) rfl ?_
        have bs := (((BW.out.setCell (p := ⟨w.heap.size, 0, none⟩) (Nat.le_refl _) (.string ⟨x.name.toArray⟩)).setCell (p := ⟨w.heap.size, 1, none⟩) (Nat.le_refl _) (.slice pa x.params.length pc)).setCell (p := ⟨w.heap.size, 2, none⟩) (Nat.le_refl _) (.int .i64 x.type)).setCell (p := ⟨w.heap.size, 3, none⟩) (Nat.le_refl _) (.slice ba x.body.length bc)
        have bf := bs.alloc bs.size (pcB x pa pc ba bc)
        exact .inr ⟨x, pa, pc, ba, bc, G.out, rfl, HP.out.later bf (Nat.le_refl _), bf⟩
      · have en := text_f hn
        have G : Hid (ckCd (ps.drop (j + 1)) n = ckCd ps n) := by rw [← N.out, CA.out, if_neg hn]; rfl
        clear CA hn
        go_wp2_with fail
        go_roundw
        case rel => exact ⟨j + 1, by omega, by go_num, G, B.out.trans (bx.out.mono B.out.size)⟩
        case measure => simp [intOf]; omega
    · obtain rfl : j = ps.length := by omega
      have G : Hid (ckCd ps n = none) := by rw [← N.out, List.drop_length]; rfl
      clear N
      go_wp2_with fail
      exact ⟨rfl, .inl ⟨G.out, rfl, BW.out⟩⟩
end Go.Proofs.Ytobiedmmjiedlaa
