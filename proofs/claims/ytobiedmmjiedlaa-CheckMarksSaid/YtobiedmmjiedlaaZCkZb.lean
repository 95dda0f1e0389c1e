/- Layer 4: the program's checker of statements, kind by kind. -/
import Derived.Test.YtobiedmmjiedlaaZCkZ
namespace Go.Proofs.Ytobiedmmjiedlaa
open Go.RowKit

set_option maxRecDepth 100000 in
set_option maxHeartbeats 2000000 in
theorem ckStmt_put_err (A : Nat → Prop) (p : Nat) (va : Option Addr) (vc : Nat) (vs : List CkVa) (mk : Int) (w : World) (h : Sco w p va vc vs mk) (n q : List UInt8) (num : Int) (ba : Option Addr) (bn bc : Nat) (la : Option Addr) (ln lc : Nat) (g o ec : Nat) (k1 : Int) (n1 : List UInt8) (m1 : Int) (s1 : Option Addr) (c1 : Nat) (l1 : List Sx.Ex) (hx1 : ExAt w g o k1 n1 m1 s1 l1.length c1) (hs1 : ExS A w (.slice s1 l1.length c1) l1) (k2 : Int) (n2 : List UInt8) (m2 : Int) (s2 : Option Addr) (c2 : Nat) (l2 : List Sx.Ex) (hx2 : ExAt w g (o + 4) k2 n2 m2 s2 l2.length c2) (hs2 : ExS A w (.slice s2 l2.length c2) l2) (hf : ckFm 3 num 2 bn ln = true) (er : Int) (hr : ckAr vs n mk = some er) : Calls Try.prog 78 #[.pointer (some ⟨p, 0, none⟩), smV 3 n q num (some ⟨g, o, none⟩) 2 ec ba bn bc la ln lc] w fun en w' => en = ckPan er ∧ Below w.heap.size w w' := by
  have E1 : Hid (∀ W, Below w.heap.size w W → Calls Try.prog 43 #[.pointer (some ⟨p, 0, none⟩), .string ⟨n.toArray⟩] W fun e w' => e = ckPan er ∧ Below W.heap.size W w') := fun W hW => by have := ckArray_any p va vc vs mk n W (h.later hW); rw [hr] at this; exact this
  have hu := hx1
  have hu' := hx2
  have hv := hs1
  have hv' := hs2
  clear hu hu' hv hv' hx1 hs1 hx2 hs2 hr h
  have EF : Hid (∀ W, Calls Try.prog 86 #[.agg #[.int .i64 (3), .string ⟨n.toArray⟩, .string ⟨q.toArray⟩, .int .i64 num, .slice (some ⟨g, o, none⟩) 2 ec, .slice ba bn bc, .slice la ln lc]] W fun e w' => e = .returned (.bool true) ∧ Below W.heap.size W w') := fun W => by have := ckFm_any (3) 2 bn ln n q num (some ⟨g, o, none⟩) ec ba bc la lc W; rw [hf] at this; exact this
  clear hf
  unfold smV
  go_enter Try.func78, Try.ntmps78
  go_wp2_with fail
  refine Calls.mono (EF.out _) ?_
  rintro e1 w1 ⟨rfl, b1⟩
  have B1 : Hid (Below w.heap.size w w1) := Below.trans (by go_grown) (b1.mono (by go_size))
  have z1 : w.heap.size < w1.heap.size := Nat.lt_of_lt_of_le (by simp) b1.size
  have d0 : w1.cell? ⟨w.heap.size, 0, none⟩ = some (.int .i64 (3)) := (b1.cell (p := ⟨w.heap.size, 0, none⟩) (by simp)).trans (by simp [go_sem])
  have d1 : w1.cell? ⟨w.heap.size, 1, none⟩ = some (.string ⟨n.toArray⟩) := (b1.cell (p := ⟨w.heap.size, 1, none⟩) (by simp)).trans (by simp [go_sem])
  have d4 : w1.cell? ⟨w.heap.size, 4, none⟩ = some (.slice (some ⟨g, o, none⟩) 2 ec) := (b1.cell (p := ⟨w.heap.size, 4, none⟩) (by simp)).trans (by simp [go_sem])
  clear b1 EF
  go_wp2_with fail
  refine Calls.mono (ckMust_yes _ _) ?_
  rintro e2 w2 ⟨rfl, rfl⟩
  go_wp2_with fail
  go_cut [38] from 33 to 38 (fun _ _ => False)
  case rest => exact hcut.elim
  case first =>
    go_region_with (first
      | (go_at_call 43; refine shutWay (E1.out _ (Below.trans B1.out (Below.mono (by go_grown) B1.out.size))) ?_ (.tuple #[]) ?_; (rintro e9 w9 ⟨rfl, b9⟩; exact ⟨rfl, rfl, Below.trans (Below.trans B1.out (Below.mono (by go_grown) B1.out.size)) (b9.mono (Nat.le_trans B1.out.size (by go_size)))⟩); intro hF; have hz1 : ∀ (W : World) (q : Addr), W.frozen? q = false := fun _ _ => hF.out _; have hz2 : ∀ (W : World) (q : Addr), W.cell? q = some (.int .i64 0) := fun _ _ => hF.out _))
    all_goals exact hF.out _
set_option maxRecDepth 100000 in
set_option maxHeartbeats 2000000 in
theorem ckStmt_put_no0 (A : Nat → Prop) (p : Nat) (va : Option Addr) (vc : Nat) (vs : List CkVa) (mk : Int) (w : World) (h : Sco w p va vc vs mk) (n q : List UInt8) (num : Int) (ba : Option Addr) (bn bc : Nat) (la : Option Addr) (ln lc : Nat) (g o ec : Nat) (k1 : Int) (n1 : List UInt8) (m1 : Int) (s1 : Option Addr) (c1 : Nat) (l1 : List Sx.Ex) (hx1 : ExAt w g o k1 n1 m1 s1 l1.length c1) (hs1 : ExS A w (.slice s1 l1.length c1) l1) (k2 : Int) (n2 : List UInt8) (m2 : Int) (s2 : Option Addr) (c2 : Nat) (l2 : List Sx.Ex) (hx2 : ExAt w g (o + 4) k2 n2 m2 s2 l2.length c2) (hs2 : ExS A w (.slice s2 l2.length c2) l2) (hf : ckFm 3 num 2 bn ln = true) (hr : ckAr vs n mk = none) (er : Int) (hq : ckTd (ckTy vs mk (.mk k1 n1 m1 l1)) 1 = some er) : Calls Try.prog 78 #[.pointer (some ⟨p, 0, none⟩), smV 3 n q num (some ⟨g, o, none⟩) 2 ec ba bn bc la ln lc] w fun en w' => en = ckPan er ∧ Below w.heap.size w w' := by
  have E1 : Hid (∀ W, Below w.heap.size w W → Calls Try.prog 43 #[.pointer (some ⟨p, 0, none⟩), .string ⟨n.toArray⟩] W fun e w' => e = .returned (.tuple #[]) ∧ Below W.heap.size W w') := fun W hW => by have := ckArray_any p va vc vs mk n W (h.later hW); rw [hr] at this; exact this
  have E2 : Hid (∀ W, Below w.heap.size w W → Calls Try.prog 44 #[.pointer (some ⟨p, 0, none⟩), .agg #[.int .i64 k1, .string ⟨n1.toArray⟩, .int .i64 m1, .slice s1 l1.length c1], .int .i64 1] W fun e w' => e = ckPan er ∧ Below W.heap.size W w') := ckTyped_is h hs1 hq
  have HX : Hid (ExAt w g o k1 n1 m1 s1 l1.length c1) := hx1
  have HY : Hid (ExAt w g (o + 4) k2 n2 m2 s2 l2.length c2) := hx2
  have hv' := hs2
  clear hv' hx1 hs1 hx2 hs2 hr hq h
  have EF : Hid (∀ W, Calls Try.prog 86 #[.agg #[.int .i64 (3), .string ⟨n.toArray⟩, .string ⟨q.toArray⟩, .int .i64 num, .slice (some ⟨g, o, none⟩) 2 ec, .slice ba bn bc, .slice la ln lc]] W fun e w' => e = .returned (.bool true) ∧ Below W.heap.size W w') := fun W => by have := ckFm_any (3) 2 bn ln n q num (some ⟨g, o, none⟩) ec ba bc la lc W; rw [hf] at this; exact this
  clear hf
  unfold smV
  go_enter Try.func78, Try.ntmps78
  go_wp2_with fail
  refine Calls.mono (EF.out _) ?_
  rintro e1 w1 ⟨rfl, b1⟩
  have B1 : Hid (Below w.heap.size w w1) := Below.trans (by go_grown) (b1.mono (by go_size))
  have z1 : w.heap.size < w1.heap.size := Nat.lt_of_lt_of_le (by simp) b1.size
  have d0 : w1.cell? ⟨w.heap.size, 0, none⟩ = some (.int .i64 (3)) := (b1.cell (p := ⟨w.heap.size, 0, none⟩) (by simp)).trans (by simp [go_sem])
  have d1 : w1.cell? ⟨w.heap.size, 1, none⟩ = some (.string ⟨n.toArray⟩) := (b1.cell (p := ⟨w.heap.size, 1, none⟩) (by simp)).trans (by simp [go_sem])
  have d4 : w1.cell? ⟨w.heap.size, 4, none⟩ = some (.slice (some ⟨g, o, none⟩) 2 ec) := (b1.cell (p := ⟨w.heap.size, 4, none⟩) (by simp)).trans (by simp [go_sem])
  clear b1 EF
  go_wp2_with fail
  refine Calls.mono (ckMust_yes _ _) ?_
  rintro e2 w2 ⟨rfl, rfl⟩
  go_wp2_with fail
  go_cut [38] from 33 to 38 (fun s wx => s = .tuple #[] ∧ Hid (Below w2.heap.size w2 wx))
  case first =>
    go_region_with (first
      | (go_at_call 43; refine Calls.mono (E1.out _ (Below.trans B1.out (Below.mono (by go_grown) B1.out.size))) ?_; rintro ew3 w3 ⟨rfl, bw3⟩; have B3 : Hid (Below w.heap.size w w3) := Below.trans (Below.trans B1.out (Below.mono (by go_grown) B1.out.size)) (bw3.mono (Nat.le_trans B1.out.size (by go_size))); have cw3 : Below w2.heap.size w2 w3 := Below.trans (by go_grown) (bw3.mono (by go_size)); have Cw3 : Hid (Below w2.heap.size w2 w3) := cw3; clear cw3; clear bw3))
    all_goals
      go_wp2_with fail
      go_meet
      exact ⟨rfl, Cw3⟩
  case rest =>
    obtain ⟨rfl, CC⟩ := hcut
    have B4 : Hid (Below w.heap.size w wc) := B1.out.trans (CC.out.mono B1.out.size)
    have d0' := (CC.out.cell (p := ⟨w.heap.size, 0, none⟩) z1).trans d0
    have d1' := (CC.out.cell (p := ⟨w.heap.size, 1, none⟩) z1).trans d1
    have d4' := (CC.out.cell (p := ⟨w.heap.size, 4, none⟩) z1).trans d4
    have y := HX.out.later B4.out
    obtain ⟨y0, y1, y2, y3, yz⟩ := y
    have x := HY.out.later B4.out
    obtain ⟨x0, x1, x2, x3, xz⟩ := x
    go_wp2_with fail
    go_cut [46] from 39 to 46 (fun _ _ => False)
    case rest => exact hcut.elim
    case first =>
      go_region_with (first
        | (go_at_call 44; refine shutWay (E2.out _ (Below.trans B4.out (Below.mono (by go_grown) B4.out.size))) ?_ (.tuple #[]) ?_; (rintro e9 w9 ⟨rfl, b9⟩; exact ⟨rfl, rfl, Below.trans (Below.trans B4.out (Below.mono (by go_grown) B4.out.size)) (b9.mono (Nat.le_trans B4.out.size (by go_size)))⟩); intro hF; have hz1 : ∀ (W : World) (q : Addr), W.frozen? q = false := fun _ _ => hF.out _; have hz2 : ∀ (W : World) (q : Addr), W.cell? q = some (.int .i64 0) := fun _ _ => hF.out _))
      all_goals exact hF.out _
set_option maxRecDepth 100000 in
set_option maxHeartbeats 2000000 in
theorem ckStmt_put_ok (A : Nat → Prop) (p : Nat) (va : Option Addr) (vc : Nat) (vs : List CkVa) (mk : Int) (w : World) (h : Sco w p va vc vs mk) (n q : List UInt8) (num : Int) (ba : Option Addr) (bn bc : Nat) (la : Option Addr) (ln lc : Nat) (g o ec : Nat) (k1 : Int) (n1 : List UInt8) (m1 : Int) (s1 : Option Addr) (c1 : Nat) (l1 : List Sx.Ex) (hx1 : ExAt w g o k1 n1 m1 s1 l1.length c1) (hs1 : ExS A w (.slice s1 l1.length c1) l1) (k2 : Int) (n2 : List UInt8) (m2 : Int) (s2 : Option Addr) (c2 : Nat) (l2 : List Sx.Ex) (hx2 : ExAt w g (o + 4) k2 n2 m2 s2 l2.length c2) (hs2 : ExS A w (.slice s2 l2.length c2) l2) (hf : ckFm 3 num 2 bn ln = true) (hr : ckAr vs n mk = none) (hq : ckTd (ckTy vs mk (.mk k1 n1 m1 l1)) 1 = none) (hz : ckTd (ckTy vs mk (.mk k2 n2 m2 l2)) 1 = none) : Calls Try.prog 78 #[.pointer (some ⟨p, 0, none⟩), smV 3 n q num (some ⟨g, o, none⟩) 2 ec ba bn bc la ln lc] w fun en w' => en = .returned (.tuple #[]) ∧ Below w.heap.size w w' := by
  have E1 : Hid (∀ W, Below w.heap.size w W → Calls Try.prog 43 #[.pointer (some ⟨p, 0, none⟩), .string ⟨n.toArray⟩] W fun e w' => e = .returned (.tuple #[]) ∧ Below W.heap.size W w') := fun W hW => by have := ckArray_any p va vc vs mk n W (h.later hW); rw [hr] at this; exact this
  have E2 : Hid (∀ W, Below w.heap.size w W → Calls Try.prog 44 #[.pointer (some ⟨p, 0, none⟩), .agg #[.int .i64 k1, .string ⟨n1.toArray⟩, .int .i64 m1, .slice s1 l1.length c1], .int .i64 1] W fun e w' => e = .returned (.tuple #[]) ∧ Below W.heap.size W w') := ckTyped_is h hs1 hq
  have E3 : Hid (∀ W, Below w.heap.size w W → Calls Try.prog 44 #[.pointer (some ⟨p, 0, none⟩), .agg #[.int .i64 k2, .string ⟨n2.toArray⟩, .int .i64 m2, .slice s2 l2.length c2], .int .i64 1] W fun e w' => e = .returned (.tuple #[]) ∧ Below W.heap.size W w') := ckTyped_is h hs2 hz
  have HX : Hid (ExAt w g o k1 n1 m1 s1 l1.length c1) := hx1
  have HY : Hid (ExAt w g (o + 4) k2 n2 m2 s2 l2.length c2) := hx2
  clear hx1 hs1 hx2 hs2 hr hq hz h
  have EF : Hid (∀ W, Calls Try.prog 86 #[.agg #[.int .i64 (3), .string ⟨n.toArray⟩, .string ⟨q.toArray⟩, .int .i64 num, .slice (some ⟨g, o, none⟩) 2 ec, .slice ba bn bc, .slice la ln lc]] W fun e w' => e = .returned (.bool true) ∧ Below W.heap.size W w') := fun W => by have := ckFm_any (3) 2 bn ln n q num (some ⟨g, o, none⟩) ec ba bc la lc W; rw [hf] at this; exact this
  clear hf
  unfold smV
  go_enter Try.func78, Try.ntmps78
  go_wp2_with fail
  refine Calls.mono (EF.out _) ?_
  rintro e1 w1 ⟨rfl, b1⟩
  have B1 : Hid (Below w.heap.size w w1) := Below.trans (by go_grown) (b1.mono (by go_size))
  have z1 : w.heap.size < w1.heap.size := Nat.lt_of_lt_of_le (by simp) b1.size
  have d0 : w1.cell? ⟨w.heap.size, 0, none⟩ = some (.int .i64 (3)) := (b1.cell (p := ⟨w.heap.size, 0, none⟩) (by simp)).trans (by simp [go_sem])
  have d1 : w1.cell? ⟨w.heap.size, 1, none⟩ = some (.string ⟨n.toArray⟩) := (b1.cell (p := ⟨w.heap.size, 1, none⟩) (by simp)).trans (by simp [go_sem])
  have d4 : w1.cell? ⟨w.heap.size, 4, none⟩ = some (.slice (some ⟨g, o, none⟩) 2 ec) := (b1.cell (p := ⟨w.heap.size, 4, none⟩) (by simp)).trans (by simp [go_sem])
  clear b1 EF
  go_wp2_with fail
  refine Calls.mono (ckMust_yes _ _) ?_
  rintro e2 w2 ⟨rfl, rfl⟩
  go_wp2_with fail
  go_cut [38] from 33 to 38 (fun s wx => s = .tuple #[] ∧ Hid (Below w2.heap.size w2 wx))
  case first =>
    go_region_with (first
      | (go_at_call 43; refine Calls.mono (E1.out _ (Below.trans B1.out (Below.mono (by go_grown) B1.out.size))) ?_; rintro ew3 w3 ⟨rfl, bw3⟩; have B3 : Hid (Below w.heap.size w w3) := Below.trans (Below.trans B1.out (Below.mono (by go_grown) B1.out.size)) (bw3.mono (Nat.le_trans B1.out.size (by go_size))); have cw3 : Below w2.heap.size w2 w3 := Below.trans (by go_grown) (bw3.mono (by go_size)); have Cw3 : Hid (Below w2.heap.size w2 w3) := cw3; clear cw3; clear bw3))
    all_goals
      go_wp2_with fail
      go_meet
      exact ⟨rfl, Cw3⟩
  case rest =>
    obtain ⟨rfl, CC⟩ := hcut
    have B4 : Hid (Below w.heap.size w wc) := B1.out.trans (CC.out.mono B1.out.size)
    have d0' := (CC.out.cell (p := ⟨w.heap.size, 0, none⟩) z1).trans d0
    have d1' := (CC.out.cell (p := ⟨w.heap.size, 1, none⟩) z1).trans d1
    have d4' := (CC.out.cell (p := ⟨w.heap.size, 4, none⟩) z1).trans d4
    have y := HX.out.later B4.out
    obtain ⟨y0, y1, y2, y3, yz⟩ := y
    have x := HY.out.later B4.out
    obtain ⟨x0, x1, x2, x3, xz⟩ := x
    go_wp2_with fail
    go_cut [46] from 39 to 46 (fun s wx => s = .tuple #[] ∧ Hid (Below w2.heap.size w2 wx))
    case first =>
      go_region_with (first
        | (go_at_call 44; refine Calls.mono (E2.out _ (Below.trans B4.out (Below.mono (by go_grown) B4.out.size))) ?_; rintro ew5 w5 ⟨rfl, bw5⟩; have B5 : Hid (Below w.heap.size w w5) := Below.trans (Below.trans B4.out (Below.mono (by go_grown) B4.out.size)) (bw5.mono (Nat.le_trans B4.out.size (by go_size))); have cw5 : Below wc.heap.size wc w5 := Below.trans (by go_grown) (bw5.mono (by go_size)); have Cw5 : Hid (Below w2.heap.size w2 w5) := CC.out.trans (cw5.mono CC.out.size); clear cw5; clear bw5))
      all_goals
        go_wp2_with fail
        go_meet
        exact ⟨rfl, Cw5⟩
    case rest =>
      obtain ⟨rfl, CC⟩ := hcut
      clear d0' d1' d4' y0 y1 y2 y3 x0 x1 x2 x3
      have B6 : Hid (Below w.heap.size w wc) := B1.out.trans (CC.out.mono B1.out.size)
      have d0' := (CC.out.cell (p := ⟨w.heap.size, 0, none⟩) z1).trans d0
      have d1' := (CC.out.cell (p := ⟨w.heap.size, 1, none⟩) z1).trans d1
      have d4' := (CC.out.cell (p := ⟨w.heap.size, 4, none⟩) z1).trans d4
      have y := HX.out.later B6.out
      obtain ⟨y0, y1, y2, y3, yz⟩ := y
      have x := HY.out.later B6.out
      obtain ⟨x0, x1, x2, x3, xz⟩ := x
      go_wp2_with fail
      go_region_with (first
        | (go_at_call 44; refine Calls.mono (E3.out _ (Below.trans B6.out (Below.mono (by go_grown) B6.out.size))) ?_; rintro ew7 w7 ⟨rfl, bw7⟩; have B7 : Hid (Below w.heap.size w w7) := Below.trans (Below.trans B6.out (Below.mono (by go_grown) B6.out.size)) (bw7.mono (Nat.le_trans B6.out.size (by go_size))); clear bw7))
      all_goals
        go_wp2_with fail
        go_end0
        exact ⟨rfl, B7.out⟩
set_option maxRecDepth 100000 in
set_option maxHeartbeats 2000000 in
theorem ckStmt_put_no1 (A : Nat → Prop) (p : Nat) (va : Option Addr) (vc : Nat) (vs : List CkVa) (mk : Int) (w : World) (h : Sco w p va vc vs mk) (n q : List UInt8) (num : Int) (ba : Option Addr) (bn bc : Nat) (la : Option Addr) (ln lc : Nat) (g o ec : Nat) (k1 : Int) (n1 : List UInt8) (m1 : Int) (s1 : Option Addr) (c1 : Nat) (l1 : List Sx.Ex) (hx1 : ExAt w g o k1 n1 m1 s1 l1.length c1) (hs1 : ExS A w (.slice s1 l1.length c1) l1) (k2 : Int) (n2 : List UInt8) (m2 : Int) (s2 : Option Addr) (c2 : Nat) (l2 : List Sx.Ex) (hx2 : ExAt w g (o + 4) k2 n2 m2 s2 l2.length c2) (hs2 : ExS A w (.slice s2 l2.length c2) l2) (hf : ckFm 3 num 2 bn ln = true) (hr : ckAr vs n mk = none) (hq : ckTd (ckTy vs mk (.mk k1 n1 m1 l1)) 1 = none) (er : Int) (hz : ckTd (ckTy vs mk (.mk k2 n2 m2 l2)) 1 = some er) : Calls Try.prog 78 #[.pointer (some ⟨p, 0, none⟩), smV 3 n q num (some ⟨g, o, none⟩) 2 ec ba bn bc la ln lc] w fun en w' => en = ckPan er ∧ Below w.heap.size w w' := by
  have E1 : Hid (∀ W, Below w.heap.size w W → Calls Try.prog 43 #[.pointer (some ⟨p, 0, none⟩), .string ⟨n.toArray⟩] W fun e w' => e = .returned (.tuple #[]) ∧ Below W.heap.size W w') := fun W hW => by have := ckArray_any p va vc vs mk n W (h.later hW); rw [hr] at this; exact this
  have E2 : Hid (∀ W, Below w.heap.size w W → Calls Try.prog 44 #[.pointer (some ⟨p, 0, none⟩), .agg #[.int .i64 k1, .string ⟨n1.toArray⟩, .int .i64 m1, .slice s1 l1.length c1], .int .i64 1] W fun e w' => e = .returned (.tuple #[]) ∧ Below W.heap.size W w') := ckTyped_is h hs1 hq
  have E3 : Hid (∀ W, Below w.heap.size w W → Calls Try.prog 44 #[.pointer (some ⟨p, 0, none⟩), .agg #[.int .i64 k2, .string ⟨n2.toArray⟩, .int .i64 m2, .slice s2 l2.length c2], .int .i64 1] W fun e w' => e = ckPan er ∧ Below W.heap.size W w') := ckTyped_is h hs2 hz
  have HX : Hid (ExAt w g o k1 n1 m1 s1 l1.length c1) := hx1
  have HY : Hid (ExAt w g (o + 4) k2 n2 m2 s2 l2.length c2) := hx2
  clear hx1 hs1 hx2 hs2 hr hq hz h
  have EF : Hid (∀ W, Calls Try.prog 86 #[.agg #[.int .i64 (3), .string ⟨n.toArray⟩, .string ⟨q.toArray⟩, .int .i64 num, .slice (some ⟨g, o, none⟩) 2 ec, .slice ba bn bc, .slice la ln lc]] W fun e w' => e = .returned (.bool true) ∧ Below W.heap.size W w') := fun W => by have := ckFm_any (3) 2 bn ln n q num (some ⟨g, o, none⟩) ec ba bc la lc W; rw [hf] at this; exact this
  clear hf
  unfold smV
  go_enter Try.func78, Try.ntmps78
  go_wp2_with fail
  refine Calls.mono (EF.out _) ?_
  rintro e1 w1 ⟨rfl, b1⟩
  have B1 : Hid (Below w.heap.size w w1) := Below.trans (by go_grown) (b1.mono (by go_size))
  have z1 : w.heap.size < w1.heap.size := Nat.lt_of_lt_of_le (by simp) b1.size
  have d0 : w1.cell? ⟨w.heap.size, 0, none⟩ = some (.int .i64 (3)) := (b1.cell (p := ⟨w.heap.size, 0, none⟩) (by simp)).trans (by simp [go_sem])
  have d1 : w1.cell? ⟨w.heap.size, 1, none⟩ = some (.string ⟨n.toArray⟩) := (b1.cell (p := ⟨w.heap.size, 1, none⟩) (by simp)).trans (by simp [go_sem])
  have d4 : w1.cell? ⟨w.heap.size, 4, none⟩ = some (.slice (some ⟨g, o, none⟩) 2 ec) := (b1.cell (p := ⟨w.heap.size, 4, none⟩) (by simp)).trans (by simp [go_sem])
  clear b1 EF
  go_wp2_with fail
  refine Calls.mono (ckMust_yes _ _) ?_
  rintro e2 w2 ⟨rfl, rfl⟩
  go_wp2_with fail
  go_cut [38] from 33 to 38 (fun s wx => s = .tuple #[] ∧ Hid (Below w2.heap.size w2 wx))
  case first =>
    go_region_with (first
      | (go_at_call 43; refine Calls.mono (E1.out _ (Below.trans B1.out (Below.mono (by go_grown) B1.out.size))) ?_; rintro ew3 w3 ⟨rfl, bw3⟩; have B3 : Hid (Below w.heap.size w w3) := Below.trans (Below.trans B1.out (Below.mono (by go_grown) B1.out.size)) (bw3.mono (Nat.le_trans B1.out.size (by go_size))); have cw3 : Below w2.heap.size w2 w3 := Below.trans (by go_grown) (bw3.mono (by go_size)); have Cw3 : Hid (Below w2.heap.size w2 w3) := cw3; clear cw3; clear bw3))
    all_goals
      go_wp2_with fail
      go_meet
      exact ⟨rfl, Cw3⟩
  case rest =>
    obtain ⟨rfl, CC⟩ := hcut
    have B4 : Hid (Below w.heap.size w wc) := B1.out.trans (CC.out.mono B1.out.size)
    have d0' := (CC.out.cell (p := ⟨w.heap.size, 0, none⟩) z1).trans d0
    have d1' := (CC.out.cell (p := ⟨w.heap.size, 1, none⟩) z1).trans d1
    have d4' := (CC.out.cell (p := ⟨w.heap.size, 4, none⟩) z1).trans d4
    have y := HX.out.later B4.out
    obtain ⟨y0, y1, y2, y3, yz⟩ := y
    have x := HY.out.later B4.out
    obtain ⟨x0, x1, x2, x3, xz⟩ := x
    go_wp2_with fail
    go_cut [46] from 39 to 46 (fun s wx => s = .tuple #[] ∧ Hid (Below w2.heap.size w2 wx))
    case first =>
      go_region_with (first
        | (go_at_call 44; refine Calls.mono (E2.out _ (Below.trans B4.out (Below.mono (by go_grown) B4.out.size))) ?_; rintro ew5 w5 ⟨rfl, bw5⟩; have B5 : Hid (Below w.heap.size w w5) := Below.trans (Below.trans B4.out (Below.mono (by go_grown) B4.out.size)) (bw5.mono (Nat.le_trans B4.out.size (by go_size))); have cw5 : Below wc.heap.size wc w5 := Below.trans (by go_grown) (bw5.mono (by go_size)); have Cw5 : Hid (Below w2.heap.size w2 w5) := CC.out.trans (cw5.mono CC.out.size); clear cw5; clear bw5))
      all_goals
        go_wp2_with fail
        go_meet
        exact ⟨rfl, Cw5⟩
    case rest =>
      obtain ⟨rfl, CC⟩ := hcut
      clear d0' d1' d4' y0 y1 y2 y3 x0 x1 x2 x3
      have B6 : Hid (Below w.heap.size w wc) := B1.out.trans (CC.out.mono B1.out.size)
      have d0' := (CC.out.cell (p := ⟨w.heap.size, 0, none⟩) z1).trans d0
      have d1' := (CC.out.cell (p := ⟨w.heap.size, 1, none⟩) z1).trans d1
      have d4' := (CC.out.cell (p := ⟨w.heap.size, 4, none⟩) z1).trans d4
      have y := HX.out.later B6.out
      obtain ⟨y0, y1, y2, y3, yz⟩ := y
      have x := HY.out.later B6.out
      obtain ⟨x0, x1, x2, x3, xz⟩ := x
      go_wp2_with fail
      go_region_with (first
        | (go_at_call 44; refine shutWay (E3.out _ (Below.trans B6.out (Below.mono (by go_grown) B6.out.size))) ?_ (.tuple #[]) ?_; (rintro e9 w9 ⟨rfl, b9⟩; exact ⟨rfl, rfl, Below.trans (Below.trans B6.out (Below.mono (by go_grown) B6.out.size)) (b9.mono (Nat.le_trans B6.out.size (by go_size)))⟩); intro hF; have hz1 : ∀ (W : World) (q : Addr), W.frozen? q = false := fun _ _ => hF.out _; have hz2 : ∀ (W : World) (q : Addr), W.cell? q = some (.int .i64 0) := fun _ _ => hF.out _))
      all_goals exact hF.out _
end Go.Proofs.Ytobiedmmjiedlaa
