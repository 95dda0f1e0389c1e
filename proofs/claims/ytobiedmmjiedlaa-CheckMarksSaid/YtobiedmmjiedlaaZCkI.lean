/- Layer 4: typeOf: a sign that does not fit; a left part that throws. -/
import Derived.Test.YtobiedmmjiedlaaZCkH
namespace Go.Proofs.Ytobiedmmjiedlaa
open Go.RowKit

set_option maxRecDepth 100000 in
set_option maxHeartbeats 2000000 in
theorem ckTy_un_bad (p : Nat) (n : List UInt8) (m : Int) (g o sc : Nat) (w : World) (k1 : Int) (n1 : List UInt8) (m1 : Int) (s1 : Option Addr) (l1 c1 : Nat) (hx : ExAt w g o k1 n1 m1 s1 l1 c1) (t er : Int) (hu : ckUn n t = .error er) (h1 : ∀ W, Below w.heap.size w W → Calls Try.prog 27 #[.pointer (some ⟨p, 0, none⟩), .agg #[.int .i64 k1, .string ⟨n1.toArray⟩, .int .i64 m1, .slice s1 l1 c1]] W fun e w' => e = .returned (.int .i64 t) ∧ Below W.heap.size W w') : Calls Try.prog 27 #[.pointer (some ⟨p, 0, none⟩), exV 5 n m (some ⟨g, o, none⟩) 1 sc] w fun e w' => e = ckPan er ∧ Below w.heap.size w w' := by
  have E1 : Hid _ := h1
  have HX : Hid _ := hx
  have EU : Hid (∀ W, Calls Try.prog 45 #[.string ⟨n.toArray⟩, .int .i64 t] W fun e w' => e = ckPan er ∧ Below W.heap.size W w') := fun W => by have := ckUn_any n t W; rw [hu] at this; exact this
  clear hu
  clear h1 hx
  have EB : Hid (∀ W, Calls Try.prog 41 #[.agg #[.int .i64 5, .string ⟨n.toArray⟩, .int .i64 m, .slice (some ⟨g, o, none⟩) 1 sc]] W fun e w' => e = .returned (.bool true) ∧ Below W.heap.size W w') := fun W => ckBuilt_any 5 n m (some ⟨g, o, none⟩) 1 sc W
  unfold exV
  go_enter Try.func27, Try.ntmps27
  go_wp2_with fail
  refine Calls.mono (EB.out _) ?_
  rintro e w1 ⟨rfl, b1⟩
  have B1 : Hid (Below w.heap.size w w1) := Below.trans (by go_grown) (b1.mono (by go_size))
  have z1 : w.heap.size < w1.heap.size := Nat.lt_of_lt_of_le (by simp) b1.size
  have d0 : w1.cell? ⟨w.heap.size, 0, none⟩ = some (.int .i64 5) := (b1.cell (p := ⟨w.heap.size, 0, none⟩) (by simp)).trans (by simp [go_sem])
  have d1 : w1.cell? ⟨w.heap.size, 1, none⟩ = some (.string ⟨n.toArray⟩) := (b1.cell (p := ⟨w.heap.size, 1, none⟩) (by simp)).trans (by simp [go_sem])
  have d3 : w1.cell? ⟨w.heap.size, 3, none⟩ = some (.slice (some ⟨g, o, none⟩) 1 sc) := (b1.cell (p := ⟨w.heap.size, 3, none⟩) (by simp)).trans (by simp [go_sem])
  clear b1
  go_wp2_with fail
  refine Calls.mono (ckMust_yes _ _) ?_
  rintro e w2 ⟨rfl, rfl⟩
  have y := HX.out.later B1.out
  obtain ⟨y0, y1, y2, y3, yz⟩ := y
  go_wp2_with fail
  go_cut [4] from 35 (fun _ _ => False)
  case rest => exact hcut.elim
  case first =>
    go_region_with (first
      | (go_at_call 27; refine Calls.mono (E1.out _ (Below.trans B1.out (Below.mono (by go_grown) B1.out.size))) ?_; rintro e w3 ⟨rfl, b3⟩; have b4 : Below w2.heap.size w2 w3 := Below.trans (by go_grown) (b3.mono (by go_size)); have B4 : Hid (Below w.heap.size w w3) := B1.out.trans (b4.mono B1.out.size); have e1 : w3.cell? ⟨w.heap.size, 1, none⟩ = some (.string ⟨n.toArray⟩) := (b4.cell (p := ⟨w.heap.size, 1, none⟩) z1).trans d1; clear b3 b4)
      | (go_at_call 45; refine shutWay (EU.out _) ?_ (.int .i64 0) ?_; (rintro e w5 ⟨rfl, b5⟩; exact ⟨rfl, rfl, Below.trans (Below.trans B4.out (Below.mono (by go_grown) B4.out.size)) (b5.mono (Nat.le_trans B4.out.size (by go_size)))⟩); intro hF; have hz1 : ∀ (W : World) (q : Addr), W.frozen? q = false := fun _ _ => hF.out _; have hz2 : ∀ (W : World) (q : Addr), W.cell? q = some (.int .i64 0) := fun _ _ => hF.out _))
    all_goals exact hF.out _
set_option maxRecDepth 100000 in
set_option maxHeartbeats 2000000 in
theorem ckTy_bi_left (p : Nat) (n : List UInt8) (m : Int) (g o sc : Nat) (w : World) (k1 : Int) (n1 : List UInt8) (m1 : Int) (s1 : Option Addr) (l1 c1 : Nat) (hx : ExAt w g o k1 n1 m1 s1 l1 c1) (er : Int) (h1 : ∀ W, Below w.heap.size w W → Calls Try.prog 27 #[.pointer (some ⟨p, 0, none⟩), .agg #[.int .i64 k1, .string ⟨n1.toArray⟩, .int .i64 m1, .slice s1 l1 c1]] W fun e w' => e = ckPan er ∧ Below W.heap.size W w') : Calls Try.prog 27 #[.pointer (some ⟨p, 0, none⟩), exV 6 n m (some ⟨g, o, none⟩) 2 sc] w fun e w' => e = ckPan er ∧ Below w.heap.size w w' := by
  have E1 : Hid _ := h1
  have HX : Hid _ := hx
  clear h1 hx
  have EB : Hid (∀ W, Calls Try.prog 41 #[.agg #[.int .i64 6, .string ⟨n.toArray⟩, .int .i64 m, .slice (some ⟨g, o, none⟩) 2 sc]] W fun e w' => e = .returned (.bool true) ∧ Below W.heap.size W w') := fun W => ckBuilt_any 6 n m (some ⟨g, o, none⟩) 2 sc W
  unfold exV
  go_enter Try.func27, Try.ntmps27
  go_wp2_with fail
  refine Calls.mono (EB.out _) ?_
  rintro e w1 ⟨rfl, b1⟩
  have B1 : Hid (Below w.heap.size w w1) := Below.trans (by go_grown) (b1.mono (by go_size))
  have z1 : w.heap.size < w1.heap.size := Nat.lt_of_lt_of_le (by simp) b1.size
  have d0 : w1.cell? ⟨w.heap.size, 0, none⟩ = some (.int .i64 6) := (b1.cell (p := ⟨w.heap.size, 0, none⟩) (by simp)).trans (by simp [go_sem])
  have d1 : w1.cell? ⟨w.heap.size, 1, none⟩ = some (.string ⟨n.toArray⟩) := (b1.cell (p := ⟨w.heap.size, 1, none⟩) (by simp)).trans (by simp [go_sem])
  have d3 : w1.cell? ⟨w.heap.size, 3, none⟩ = some (.slice (some ⟨g, o, none⟩) 2 sc) := (b1.cell (p := ⟨w.heap.size, 3, none⟩) (by simp)).trans (by simp [go_sem])
  clear b1
  go_wp2_with fail
  refine Calls.mono (ckMust_yes _ _) ?_
  rintro e w2 ⟨rfl, rfl⟩
  have y := HX.out.later B1.out
  obtain ⟨y0, y1, y2, y3, yz⟩ := y
  go_wp2_with fail
  refine Calls.mono (E1.out _ B1.out) ?_
  rintro e w3 ⟨rfl, b3⟩
  have B3 : Hid (Below w.heap.size w w3) := B1.out.trans (b3.mono B1.out.size)
  clear b3
  unfold ckPan
  go_wp2_with fail
  exact ⟨rfl, rfl, B3.out⟩
end Go.Proofs.Ytobiedmmjiedlaa
