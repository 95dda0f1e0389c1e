/- Layer 4: typeOf of a sign between two, the right part throws. -/
import Derived.Test.YtobiedmmjiedlaaZCkH
namespace Go.Proofs.Ytobiedmmjiedlaa
open Go.RowKit

set_option maxRecDepth 100000 in
set_option maxHeartbeats 2000000 in
theorem ckTy_bi_right (p : Nat) (n : List UInt8) (m : Int) (g o sc : Nat) (w : World) (k1 : Int) (n1 : List UInt8) (m1 : Int) (s1 : Option Addr) (l1 c1 : Nat) (k2 : Int) (n2 : List UInt8) (m2 : Int) (s2 : Option Addr) (l2 c2 : Nat) (hx : ExAt w g o k1 n1 m1 s1 l1 c1) (hy : ExAt w g (o + 4) k2 n2 m2 s2 l2 c2) (t er : Int) (h1 : ∀ W, Below w.heap.size w W → Calls Try.prog 27 #[.pointer (some ⟨p, 0, none⟩), .agg #[.int .i64 k1, .string ⟨n1.toArray⟩, .int .i64 m1, .slice s1 l1 c1]] W fun e w' => e = .returned (.int .i64 t) ∧ Below W.heap.size W w') (h2 : ∀ W, Below w.heap.size w W → Calls Try.prog 27 #[.pointer (some ⟨p, 0, none⟩), .agg #[.int .i64 k2, .string ⟨n2.toArray⟩, .int .i64 m2, .slice s2 l2 c2]] W fun e w' => e = ckPan er ∧ Below W.heap.size W w') : Calls Try.prog 27 #[.pointer (some ⟨p, 0, none⟩), exV 6 n m (some ⟨g, o, none⟩) 2 sc] w fun e w' => e = ckPan er ∧ Below w.heap.size w w' := by
  have E1 : Hid _ := h1
  have HX : Hid _ := hx
  have HY : Hid _ := hy
  have E2 : Hid _ := h2
  clear h2
  clear h1 hx hy
  have EB : Hid (∀ W, Calls Try.prog 41 #[.agg #[.int .i64 6, .string ⟨n.toArray⟩, .int .i64 m, .slice (some ⟨g, o, none⟩) 2 sc]] W fun e w' => e = .returned (.bool true) ∧ Below W.heap.size W w') := fun W => ckBuilt_any 6 n m (some ⟨g, o, none⟩) 2 sc W
  unfold exV
  go_enter Try.func27, Try.ntmps27
  go_wp2_with fail
  refine Calls.mono (EB.out _) ?_
  rintro e w1 ⟨rfl, b1⟩
  have B1 : Hid (Below w.heap.size w w1) := Below.trans (by go_grown) (b1.mono (by go_size))
  have z1 : w.heap.size < w1.heap.size := Nat.lt_of_lt_of_le (by simp) b1.size
  have d0 : w1.cell? ⟨w.heap.size, 0, none⟩ = some (.int .i64 6) := (b1.cell (p := ⟨w.heap.size, 0, none⟩) (by simp)).trans (by simp [go_sem])
  have d1 : w1.cell? ⟨w.heap.size, 1, none⟩ = some (.string ⟨n.toArray⟩) := (b1.cell (p := ⟨w.heap.size, 1, none⟩) (by simp)).trans (by simp [go_sem])
  have d3 : w1.cell? ⟨w.heap.size, 3, none⟩ = some (.slice (some ⟨g, o, none⟩) 2 sc) := (b1.cell (p := ⟨w.heap.size, 3, none⟩) (by simp)).trans (by simp [go_sem])
  clear b1
  go_wp2_with fail
  refine Calls.mono (ckMust_yes _ _) ?_
  rintro e w2 ⟨rfl, rfl⟩
  have y := HX.out.later B1.out
  obtain ⟨y0, y1, y2, y3, yz⟩ := y
  go_wp2_with fail
  refine Calls.mono (E1.out _ B1.out) ?_
  rintro e w3 ⟨rfl, b3⟩
  have B3 : Hid (Below w.heap.size w w3) := B1.out.trans (b3.mono B1.out.size)
  have z3 : w.heap.size < w3.heap.size := Nat.lt_of_lt_of_le z1 b3.size
  have g1 : w3.cell? ⟨w.heap.size, 1, none⟩ = some (.string ⟨n.toArray⟩) := (b3.cell (p := ⟨w.heap.size, 1, none⟩) z1).trans d1
  have g3 : w3.cell? ⟨w.heap.size, 3, none⟩ = some (.slice (some ⟨g, o, none⟩) 2 sc) := (b3.cell (p := ⟨w.heap.size, 3, none⟩) z1).trans d3
  have vv := HY.out.later B3.out
  obtain ⟨v0, v1, v2, v3, vz⟩ := vv
  clear b3 d0 d1 d3 y0 y1 y2 y3 yz
  go_wp2_with fail
  go_cut [4] from 50 (fun _ _ => False)
  case rest => exact hcut.elim
  case first =>
    go_region_with (first
      | (go_at_call 27; refine shutWay (E2.out _ (Below.trans B3.out (Below.mono (by go_grown) B3.out.size))) ?_ (.int .i64 0) ?_; (rintro e w4 ⟨rfl, b4⟩; exact ⟨rfl, rfl, Below.trans B3.out (Below.mono (Below.trans (by go_grown) (b4.mono (by go_size))) B3.out.size)⟩); intro hF; have hz1 : ∀ (W : World) (q : Addr), W.frozen? q = false := fun _ _ => hF.out _; have hz2 : ∀ (W : World) (q : Addr), W.cell? q = some (.int .i64 0) := fun _ _ => hF.out _)
      | (go_at_call 46; refine Calls.mono (show Calls _ _ _ _ (fun e _ => e = .returned (.int .i64 0) ∧ True) from hF.out _) ?_; rintro e w6 ⟨rfl, -⟩))
    all_goals exact hF.out _
end Go.Proofs.Ytobiedmmjiedlaa
