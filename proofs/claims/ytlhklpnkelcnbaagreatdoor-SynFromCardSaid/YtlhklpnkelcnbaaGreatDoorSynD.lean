/- Layer 3: unary, where it gives up at once. -/
import Derived.Test.YtlhklpnkelcnbaaGreatDoorSynC
namespace Go.Proofs.YtlhklpnkelcnbaaGreatDoor
open Go.RowKit

set_option maxRecDepth 100000 in
set_option maxHeartbeats 1000000 in
theorem unary_form (w : World) (p b o cap : Nat) (ts : List Tok) (k : Nat) (x : Tok) (d : Nat) (h : Rn w p b o cap ts k x) (hx : Sx.begE x = false) :
    Calls Tryz.prog 79 #[.pointer (some ⟨p, 0, none⟩), .int .i64 (d : Int)] w fun e w' => e = pan x.2 30 ∧ Mov p w w' := by
  have H : Hid (Rn w p b o cap ts k x) := h
  have HX : Hid (Sx.begE x = false) := hx
  clear h hx
  go_enter Tryz.func79, Tryz.ntmps79
  go_wp2_with fail
  go_cut [5] from 7 (fun _ _ => False)
  case rest => exact hcut.elim
  case first =>
    go_region_with (first
      | (go_at_call 80; refine (now_any _ p b o cap ts k x ?_).mono ?_; exact H.out.later (by go_grown); rintro e w1 ⟨rfl, b1⟩; replace b1 : Below w.heap.size w w1 := Below.trans (by go_grown) (b1.mono (by go_size)); have z1 := b1.size)
      | (go_at_call 105; refine (beginsExpr_any x _).mono ?_; rintro e w2 ⟨rfl, b2⟩; replace b2 : Below w.heap.size w w2 := Below.trans (by go_grown) (b2.mono (by go_size)); have z2 := b2.size; rw [HX.out])
      | (go_at_call 104; refine shutWay (begin_form _ p b o cap ts k x d (H.out.later ?_)) ?_ (tokA x) ?_; go_grown; (rintro e w3 ⟨rfl, b3⟩; exact ⟨rfl, rfl, Mov.of_below (Below.trans (by go_grown) (b3.mono (by go_size)))⟩); intro hF; unfold tokA; have hz1 : ∀ (W : World) (q : Addr), W.frozen? q = false := fun _ _ => hF.out _; have hz2 : ∀ (W : World) (q : Addr), W.cell? q = some (.int .i64 0) := fun _ _ => hF.out _))
    all_goals exact hF.out _
set_option maxRecDepth 100000 in
set_option maxHeartbeats 1000000 in
theorem unary_deep (w : World) (p b o cap : Nat) (ts : List Tok) (k : Nat) (x : Tok) (d : Nat) (h : Rn w p b o cap ts k x) (hx : Sx.begE x = true) (hd : 60 < d) :
    Calls Tryz.prog 79 #[.pointer (some ⟨p, 0, none⟩), .int .i64 (d : Int)] w fun e w' => e = pan x.2 31 ∧ Mov p w w' := by
  have H : Hid (Rn w p b o cap ts k x) := h
  have HX : Hid (Sx.begE x = true) := hx
  have HD : Hid (60 < d) := hd
  clear h hx hd
  go_enter Tryz.func79, Tryz.ntmps79
  go_wp2_with fail
  go_cut [5] from 7 (fun _ _ => False)
  case rest => exact hcut.elim
  case first =>
    go_region_with (first
      | (go_at_call 80; refine (now_any _ p b o cap ts k x ?_).mono ?_; exact H.out.later (by go_grown); rintro e w1 ⟨rfl, b1⟩; replace b1 : Below w.heap.size w w1 := Below.trans (by go_grown) (b1.mono (by go_size)); have z1 := b1.size)
      | (go_at_call 105; refine (beginsExpr_any x _).mono ?_; rintro e w2 ⟨rfl, b2⟩; replace b2 : Below w.heap.size w w2 := Below.trans (by go_grown) (b2.mono (by go_size)); have z2 := b2.size; rw [HX.out])
      | (go_at_call 104; refine shutWay (begin_deep _ p b o cap ts k x d (H.out.later ?_) HD.out) ?_ (tokA x) ?_; go_grown; (rintro e w3 ⟨rfl, b3⟩; exact ⟨rfl, rfl, Mov.of_below (Below.trans (by go_grown) (b3.mono (by go_size)))⟩); intro hF; unfold tokA; have hz1 : ∀ (W : World) (q : Addr), W.frozen? q = false := fun _ _ => hF.out _; have hz2 : ∀ (W : World) (q : Addr), W.cell? q = some (.int .i64 0) := fun _ _ => hF.out _))
    all_goals exact hF.out _
end Go.Proofs.YtlhklpnkelcnbaaGreatDoor
