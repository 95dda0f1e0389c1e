/- Layer 4: the program's checker of statements, kind by kind. -/
import Derived.Test.YtobiedmmjiedlaaZCkZ
namespace Go.Proofs.Ytobiedmmjiedlaa
open Go.RowKit

set_option maxRecDepth 100000 in
set_option maxHeartbeats 2000000 in
theorem ckStmt_read_err (p : Nat) (va : Option Addr) (vc : Nat) (vs : List CkVa) (mk : Int) (w : World) (h : Sco w p va vc vs mk) (ea : Option Addr) (en ec : Nat) (n q : List UInt8) (num : Int) (ba : Option Addr) (bn bc : Nat) (la : Option Addr) (ln lc : Nat) (hf : ckFm 9 num en bn ln = true) (er : Int) (hr : ckSi vs n mk = .error er) : Calls Try.prog 78 #[.pointer (some ⟨p, 0, none⟩), smV 9 n q num ea en ec ba bn bc la ln lc] w fun en w' => en = ckPan er ∧ Below w.heap.size w w' := by
  have E1 : Hid (∀ W, Below w.heap.size w W → Calls Try.prog 42 #[.pointer (some ⟨p, 0, none⟩), .string ⟨n.toArray⟩] W fun e w' => e = ckPan er ∧ Below W.heap.size W w') := fun W hW => by have := ckSingle_any p va vc vs mk n W (h.later hW); rw [hr] at this; exact this
  clear h hr
  have EF : Hid (∀ W, Calls Try.prog 86 #[.agg #[.int .i64 (9), .string ⟨n.toArray⟩, .string ⟨q.toArray⟩, .int .i64 num, .slice ea en ec, .slice ba bn bc, .slice la ln lc]] W fun e w' => e = .returned (.bool true) ∧ Below W.heap.size W w') := fun W => by have := ckFm_any (9) en bn ln n q num ea ec ba bc la lc W; rw [hf] at this; exact this
  clear hf
  unfold smV
  go_enter Try.func78, Try.ntmps78
  go_wp2_with fail
  refine Calls.mono (EF.out _) ?_
  rintro e1 w1 ⟨rfl, b1⟩
  have B1 : Hid (Below w.heap.size w w1) := Below.trans (by go_grown) (b1.mono (by go_size))
  have z1 : w.heap.size < w1.heap.size := Nat.lt_of_lt_of_le (by simp) b1.size
  have d0 : w1.cell? ⟨w.heap.size, 0, none⟩ = some (.int .i64 (9)) := (b1.cell (p := ⟨w.heap.size, 0, none⟩) (by simp)).trans (by simp [go_sem])
  have d1 : w1.cell? ⟨w.heap.size, 1, none⟩ = some (.string ⟨n.toArray⟩) := (b1.cell (p := ⟨w.heap.size, 1, none⟩) (by simp)).trans (by simp [go_sem])
  clear b1 EF
  go_wp2_with fail
  refine Calls.mono (ckMust_yes _ _) ?_
  rintro e2 w2 ⟨rfl, rfl⟩
  go_wp2_with fail
  go_region_with (first
    | (go_at_call 42; refine shutWay (E1.out _ (Below.trans B1.out (Below.mono (by go_grown) B1.out.size))) ?_ (.int .i64 0) ?_; (rintro e9 w9 ⟨rfl, b9⟩; exact ⟨rfl, rfl, Below.trans (Below.trans B1.out (Below.mono (by go_grown) B1.out.size)) (b9.mono (Nat.le_trans B1.out.size (by go_size)))⟩); intro hF; have hz1 : ∀ (W : World) (q : Addr), W.frozen? q = false := fun _ _ => hF.out _; have hz2 : ∀ (W : World) (q : Addr), W.cell? q = some (.int .i64 0) := fun _ _ => hF.out _)
    | (go_at_call 40; refine Calls.mono (show Calls _ _ _ _ (fun e _ => e = .returned (.tuple #[]) ∧ True) from hF.out _) ?_; rintro e8 w8 ⟨rfl, -⟩))
  all_goals exact hF.out _
set_option maxRecDepth 100000 in
set_option maxHeartbeats 2000000 in
theorem ckStmt_read_ok (p : Nat) (va : Option Addr) (vc : Nat) (vs : List CkVa) (mk : Int) (w : World) (h : Sco w p va vc vs mk) (ea : Option Addr) (en ec : Nat) (n q : List UInt8) (num : Int) (ba : Option Addr) (bn bc : Nat) (la : Option Addr) (ln lc : Nat) (hf : ckFm 9 num en bn ln = true) (hr : ckSi vs n mk = .ok 1) : Calls Try.prog 78 #[.pointer (some ⟨p, 0, none⟩), smV 9 n q num ea en ec ba bn bc la ln lc] w fun en w' => en = .returned (.tuple #[]) ∧ Below w.heap.size w w' := by
  have E1 : Hid (∀ W, Below w.heap.size w W → Calls Try.prog 42 #[.pointer (some ⟨p, 0, none⟩), .string ⟨n.toArray⟩] W fun e w' => e = .returned (.int .i64 1) ∧ Below W.heap.size W w') := fun W hW => by have := ckSingle_any p va vc vs mk n W (h.later hW); rw [hr] at this; exact this
  clear h hr
  have EF : Hid (∀ W, Calls Try.prog 86 #[.agg #[.int .i64 (9), .string ⟨n.toArray⟩, .string ⟨q.toArray⟩, .int .i64 num, .slice ea en ec, .slice ba bn bc, .slice la ln lc]] W fun e w' => e = .returned (.bool true) ∧ Below W.heap.size W w') := fun W => by have := ckFm_any (9) en bn ln n q num ea ec ba bc la lc W; rw [hf] at this; exact this
  clear hf
  unfold smV
  go_enter Try.func78, Try.ntmps78
  go_wp2_with fail
  refine Calls.mono (EF.out _) ?_
  rintro e1 w1 ⟨rfl, b1⟩
  have B1 : Hid (Below w.heap.size w w1) := Below.trans (by go_grown) (b1.mono (by go_size))
  have z1 : w.heap.size < w1.heap.size := Nat.lt_of_lt_of_le (by simp) b1.size
  have d0 : w1.cell? ⟨w.heap.size, 0, none⟩ = some (.int .i64 (9)) := (b1.cell (p := ⟨w.heap.size, 0, none⟩) (by simp)).trans (by simp [go_sem])
  have d1 : w1.cell? ⟨w.heap.size, 1, none⟩ = some (.string ⟨n.toArray⟩) := (b1.cell (p := ⟨w.heap.size, 1, none⟩) (by simp)).trans (by simp [go_sem])
  clear b1 EF
  go_wp2_with fail
  refine Calls.mono (ckMust_yes _ _) ?_
  rintro e2 w2 ⟨rfl, rfl⟩
  go_wp2_with fail
  go_region_with (first
    | (go_at_call 42; refine Calls.mono (E1.out _ (Below.trans B1.out (Below.mono (by go_grown) B1.out.size))) ?_; rintro ew3 w3 ⟨rfl, bw3⟩; have B3 : Hid (Below w.heap.size w w3) := Below.trans (Below.trans B1.out (Below.mono (by go_grown) B1.out.size)) (bw3.mono (Nat.le_trans B1.out.size (by go_size))); clear bw3)
    | (go_at_call 40; refine Calls.mono (ckMust_yes _ _) ?_; rintro e6 w6 ⟨rfl, rfl⟩))
  all_goals
    go_wp2_with fail
    go_end0
    exact ⟨rfl, Below.trans B3.out (Below.mono (by go_grown) B3.out.size)⟩
set_option maxRecDepth 100000 in
set_option maxHeartbeats 2000000 in
theorem ckStmt_read_no (p : Nat) (va : Option Addr) (vc : Nat) (vs : List CkVa) (mk : Int) (w : World) (h : Sco w p va vc vs mk) (ea : Option Addr) (en ec : Nat) (n q : List UInt8) (num : Int) (ba : Option Addr) (bn bc : Nat) (la : Option Addr) (ln lc : Nat) (hf : ckFm 9 num en bn ln = true) (t : Int) (ht : ¬ t = 1) (hr : ckSi vs n mk = .ok t) : Calls Try.prog 78 #[.pointer (some ⟨p, 0, none⟩), smV 9 n q num ea en ec ba bn bc la ln lc] w fun en w' => en = ckPan 41 ∧ Below w.heap.size w w' := by
  have E1 : Hid (∀ W, Below w.heap.size w W → Calls Try.prog 42 #[.pointer (some ⟨p, 0, none⟩), .string ⟨n.toArray⟩] W fun e w' => e = .returned (.int .i64 t) ∧ Below W.heap.size W w') := fun W hW => by have := ckSingle_any p va vc vs mk n W (h.later hW); rw [hr] at this; exact this
  have tb : (t == 1) = false := beq_eq_false_iff_ne.2 ht
  clear h hr ht
  have EF : Hid (∀ W, Calls Try.prog 86 #[.agg #[.int .i64 (9), .string ⟨n.toArray⟩, .string ⟨q.toArray⟩, .int .i64 num, .slice ea en ec, .slice ba bn bc, .slice la ln lc]] W fun e w' => e = .returned (.bool true) ∧ Below W.heap.size W w') := fun W => by have := ckFm_any (9) en bn ln n q num ea ec ba bc la lc W; rw [hf] at this; exact this
  clear hf
  unfold smV
  go_enter Try.func78, Try.ntmps78
  go_wp2_with fail
  refine Calls.mono (EF.out _) ?_
  rintro e1 w1 ⟨rfl, b1⟩
  have B1 : Hid (Below w.heap.size w w1) := Below.trans (by go_grown) (b1.mono (by go_size))
  have z1 : w.heap.size < w1.heap.size := Nat.lt_of_lt_of_le (by simp) b1.size
  have d0 : w1.cell? ⟨w.heap.size, 0, none⟩ = some (.int .i64 (9)) := (b1.cell (p := ⟨w.heap.size, 0, none⟩) (by simp)).trans (by simp [go_sem])
  have d1 : w1.cell? ⟨w.heap.size, 1, none⟩ = some (.string ⟨n.toArray⟩) := (b1.cell (p := ⟨w.heap.size, 1, none⟩) (by simp)).trans (by simp [go_sem])
  clear b1 EF
  go_wp2_with fail
  refine Calls.mono (ckMust_yes _ _) ?_
  rintro e2 w2 ⟨rfl, rfl⟩
  go_wp2_with fail
  go_region_with (first
    | (go_at_call 42; refine Calls.mono (E1.out _ (Below.trans B1.out (Below.mono (by go_grown) B1.out.size))) ?_; rintro ew3 w3 ⟨rfl, bw3⟩; have B3 : Hid (Below w.heap.size w w3) := Below.trans (Below.trans B1.out (Below.mono (by go_grown) B1.out.size)) (bw3.mono (Nat.le_trans B1.out.size (by go_size))); clear bw3)
    | (go_at_call 40; refine shutWay (ckMust_no _ _) ?_ (.tuple #[]) ?_; (rintro e9 w9 ⟨rfl, b9⟩; exact ⟨rfl, rfl, Below.trans (Below.trans B3.out (Below.mono (by go_grown) B3.out.size)) (b9.mono (Nat.le_trans B3.out.size (by go_size)))⟩); intro hF; have hz1 : ∀ (W : World) (q : Addr), W.frozen? q = false := fun _ _ => hF.out _; have hz2 : ∀ (W : World) (q : Addr), W.cell? q = some (.int .i64 0) := fun _ _ => hF.out _))
  all_goals exact hF.out _
set_option maxRecDepth 100000 in
set_option maxHeartbeats 2000000 in
theorem ckStmt_set_err (A : Nat → Prop) (p : Nat) (va : Option Addr) (vc : Nat) (vs : List CkVa) (mk : Int) (w : World) (h : Sco w p va vc vs mk) (n q : List UInt8) (num : Int) (ba : Option Addr) (bn bc : Nat) (la : Option Addr) (ln lc : Nat) (g o ec : Nat) (k1 : Int) (n1 : List UInt8) (m1 : Int) (s1 : Option Addr) (c1 : Nat) (l1 : List Sx.Ex) (hx1 : ExAt w g o k1 n1 m1 s1 l1.length c1) (hs1 : ExS A w (.slice s1 l1.length c1) l1) (hf : ckFm 2 num 1 bn ln = true) (er : Int) (hr : ckSi vs n mk = .error er) : Calls Try.prog 78 #[.pointer (some ⟨p, 0, none⟩), smV 2 n q num (some ⟨g, o, none⟩) 1 ec ba bn bc la ln lc] w fun en w' => en = ckPan er ∧ Below w.heap.size w w' := by
  have E1 : Hid (∀ W, Below w.heap.size w W → Calls Try.prog 42 #[.pointer (some ⟨p, 0, none⟩), .string ⟨n.toArray⟩] W fun e w' => e = ckPan er ∧ Below W.heap.size W w') := fun W hW => by have := ckSingle_any p va vc vs mk n W (h.later hW); rw [hr] at this; exact this
  have HX : Hid (ExAt w g o k1 n1 m1 s1 l1.length c1) := hx1
  have hu := hs1
  clear hx1 hs1 hu hr h
  have EF : Hid (∀ W, Calls Try.prog 86 #[.agg #[.int .i64 (2), .string ⟨n.toArray⟩, .string ⟨q.toArray⟩, .int .i64 num, .slice (some ⟨g, o, none⟩) 1 ec, .slice ba bn bc, .slice la ln lc]] W fun e w' => e = .returned (.bool true) ∧ Below W.heap.size W w') := fun W => by have := ckFm_any (2) 1 bn ln n q num (some ⟨g, o, none⟩) ec ba bc la lc W; rw [hf] at this; exact this
  clear hf
  unfold smV
  go_enter Try.func78, Try.ntmps78
  go_wp2_with fail
  refine Calls.mono (EF.out _) ?_
  rintro e1 w1 ⟨rfl, b1⟩
  have B1 : Hid (Below w.heap.size w w1) := Below.trans (by go_grown) (b1.mono (by go_size))
  have z1 : w.heap.size < w1.heap.size := Nat.lt_of_lt_of_le (by simp) b1.size
  have d0 : w1.cell? ⟨w.heap.size, 0, none⟩ = some (.int .i64 (2)) := (b1.cell (p := ⟨w.heap.size, 0, none⟩) (by simp)).trans (by simp [go_sem])
  have d1 : w1.cell? ⟨w.heap.size, 1, none⟩ = some (.string ⟨n.toArray⟩) := (b1.cell (p := ⟨w.heap.size, 1, none⟩) (by simp)).trans (by simp [go_sem])
  have d4 : w1.cell? ⟨w.heap.size, 4, none⟩ = some (.slice (some ⟨g, o, none⟩) 1 ec) := (b1.cell (p := ⟨w.heap.size, 4, none⟩) (by simp)).trans (by simp [go_sem])
  clear b1 EF
  go_wp2_with fail
  refine Calls.mono (ckMust_yes _ _) ?_
  rintro e2 w2 ⟨rfl, rfl⟩
  have y := HX.out.later B1.out
  obtain ⟨y0, y1, y2, y3, yz⟩ := y
  go_wp2_with fail
  go_region_with (first
    | (go_at_call 42; refine shutWay (E1.out _ (Below.trans B1.out (Below.mono (by go_grown) B1.out.size))) ?_ (.int .i64 0) ?_; (rintro e9 w9 ⟨rfl, b9⟩; exact ⟨rfl, rfl, Below.trans (Below.trans B1.out (Below.mono (by go_grown) B1.out.size)) (b9.mono (Nat.le_trans B1.out.size (by go_size)))⟩); intro hF; have hz1 : ∀ (W : World) (q : Addr), W.frozen? q = false := fun _ _ => hF.out _; have hz2 : ∀ (W : World), W.cell? ⟨w.heap.size, 4, none⟩ = some (.slice (some ⟨g, o, none⟩) 1 ec) := fun _ => hF.out _; have hz3 : ∀ (W : World), W.cell? ⟨g, o, none⟩ = some (.int .i64 k1) := fun _ => hF.out _; have hz4 : ∀ (W : World), W.cell? ⟨g, o + 1, none⟩ = some (.string ⟨n1.toArray⟩) := fun _ => hF.out _; have hz5 : ∀ (W : World), W.cell? ⟨g, o + 2, none⟩ = some (.int .i64 m1) := fun _ => hF.out _; have hz6 : ∀ (W : World), W.cell? ⟨g, o + 3, none⟩ = some (.slice s1 l1.length c1) := fun _ => hF.out _)
    | (go_at_call 44; refine Calls.mono (show Calls _ _ _ _ (fun e _ => e = .returned (.tuple #[]) ∧ True) from hF.out _) ?_; rintro e8 w8 ⟨rfl, -⟩))
  all_goals exact hF.out _
set_option maxRecDepth 100000 in
set_option maxHeartbeats 2000000 in
theorem ckStmt_set_ok (A : Nat → Prop) (p : Nat) (va : Option Addr) (vc : Nat) (vs : List CkVa) (mk : Int) (w : World) (h : Sco w p va vc vs mk) (n q : List UInt8) (num : Int) (ba : Option Addr) (bn bc : Nat) (la : Option Addr) (ln lc : Nat) (g o ec : Nat) (k1 : Int) (n1 : List UInt8) (m1 : Int) (s1 : Option Addr) (c1 : Nat) (l1 : List Sx.Ex) (hx1 : ExAt w g o k1 n1 m1 s1 l1.length c1) (hs1 : ExS A w (.slice s1 l1.length c1) l1) (hf : ckFm 2 num 1 bn ln = true) (t : Int) (hr : ckSi vs n mk = .ok t) (hq : ckTd (ckTy vs mk (.mk k1 n1 m1 l1)) t = none) : Calls Try.prog 78 #[.pointer (some ⟨p, 0, none⟩), smV 2 n q num (some ⟨g, o, none⟩) 1 ec ba bn bc la ln lc] w fun en w' => en = .returned (.tuple #[]) ∧ Below w.heap.size w w' := by
  have E1 : Hid (∀ W, Below w.heap.size w W → Calls Try.prog 42 #[.pointer (some ⟨p, 0, none⟩), .string ⟨n.toArray⟩] W fun e w' => e = .returned (.int .i64 t) ∧ Below W.heap.size W w') := fun W hW => by have := ckSingle_any p va vc vs mk n W (h.later hW); rw [hr] at this; exact this
  have E2 : Hid (∀ W, Below w.heap.size w W → Calls Try.prog 44 #[.pointer (some ⟨p, 0, none⟩), .agg #[.int .i64 k1, .string ⟨n1.toArray⟩, .int .i64 m1, .slice s1 l1.length c1], .int .i64 t] W fun e w' => e = .returned (.tuple #[]) ∧ Below W.heap.size W w') := ckTyped_is h hs1 hq
  have HX : Hid (ExAt w g o k1 n1 m1 s1 l1.length c1) := hx1
  clear hx1 hs1 hr hq h
  have EF : Hid (∀ W, Calls Try.prog 86 #[.agg #[.int .i64 (2), .string ⟨n.toArray⟩, .string ⟨q.toArray⟩, .int .i64 num, .slice (some ⟨g, o, none⟩) 1 ec, .slice ba bn bc, .slice la ln lc]] W fun e w' => e = .returned (.bool true) ∧ Below W.heap.size W w') := fun W => by have := ckFm_any (2) 1 bn ln n q num (some ⟨g, o, none⟩) ec ba bc la lc W; rw [hf] at this; exact this
  clear hf
  unfold smV
  go_enter Try.func78, Try.ntmps78
  go_wp2_with fail
  refine Calls.mono (EF.out _) ?_
  rintro e1 w1 ⟨rfl, b1⟩
  have B1 : Hid (Below w.heap.size w w1) := Below.trans (by go_grown) (b1.mono (by go_size))
  have z1 : w.heap.size < w1.heap.size := Nat.lt_of_lt_of_le (by simp) b1.size
  have d0 : w1.cell? ⟨w.heap.size, 0, none⟩ = some (.int .i64 (2)) := (b1.cell (p := ⟨w.heap.size, 0, none⟩) (by simp)).trans (by simp [go_sem])
  have d1 : w1.cell? ⟨w.heap.size, 1, none⟩ = some (.string ⟨n.toArray⟩) := (b1.cell (p := ⟨w.heap.size, 1, none⟩) (by simp)).trans (by simp [go_sem])
  have d4 : w1.cell? ⟨w.heap.size, 4, none⟩ = some (.slice (some ⟨g, o, none⟩) 1 ec) := (b1.cell (p := ⟨w.heap.size, 4, none⟩) (by simp)).trans (by simp [go_sem])
  clear b1 EF
  go_wp2_with fail
  refine Calls.mono (ckMust_yes _ _) ?_
  rintro e2 w2 ⟨rfl, rfl⟩
  have y := HX.out.later B1.out
  obtain ⟨y0, y1, y2, y3, yz⟩ := y
  go_wp2_with fail
  go_region_with (first
    | (go_at_call 42; refine Calls.mono (E1.out _ (Below.trans B1.out (Below.mono (by go_grown) B1.out.size))) ?_; rintro ew3 w3 ⟨rfl, bw3⟩; have B3 : Hid (Below w.heap.size w w3) := Below.trans (Below.trans B1.out (Below.mono (by go_grown) B1.out.size)) (bw3.mono (Nat.le_trans B1.out.size (by go_size))); have b4 : Below w2.heap.size w2 w3 := Below.trans (by go_grown) (bw3.mono (by go_size)); have d4' : w3.cell? ⟨w.heap.size, 4, none⟩ = some (.slice (some ⟨g, o, none⟩) 1 ec) := (b4.cell (p := ⟨w.heap.size, 4, none⟩) z1).trans d4; have yy := HX.out.later B3.out; obtain ⟨y0', y1', y2', y3', yz'⟩ := yy; clear b4; clear bw3)
    | (go_at_call 44; refine Calls.mono (E2.out _ (Below.trans B3.out (Below.mono (by go_grown) B3.out.size))) ?_; rintro ew5 w5 ⟨rfl, bw5⟩; have B5 : Hid (Below w.heap.size w w5) := Below.trans (Below.trans B3.out (Below.mono (by go_grown) B3.out.size)) (bw5.mono (Nat.le_trans B3.out.size (by go_size))); clear bw5))
  all_goals
    go_wp2_with fail
    go_end0
    exact ⟨rfl, B5.out⟩
set_option maxRecDepth 100000 in
set_option maxHeartbeats 2000000 in
theorem ckStmt_set_no (A : Nat → Prop) (p : Nat) (va : Option Addr) (vc : Nat) (vs : List CkVa) (mk : Int) (w : World) (h : Sco w p va vc vs mk) (n q : List UInt8) (num : Int) (ba : Option Addr) (bn bc : Nat) (la : Option Addr) (ln lc : Nat) (g o ec : Nat) (k1 : Int) (n1 : List UInt8) (m1 : Int) (s1 : Option Addr) (c1 : Nat) (l1 : List Sx.Ex) (hx1 : ExAt w g o k1 n1 m1 s1 l1.length c1) (hs1 : ExS A w (.slice s1 l1.length c1) l1) (hf : ckFm 2 num 1 bn ln = true) (t : Int) (hr : ckSi vs n mk = .ok t) (er : Int) (hq : ckTd (ckTy vs mk (.mk k1 n1 m1 l1)) t = some er) : Calls Try.prog 78 #[.pointer (some ⟨p, 0, none⟩), smV 2 n q num (some ⟨g, o, none⟩) 1 ec ba bn bc la ln lc] w fun en w' => en = ckPan er ∧ Below w.heap.size w w' := by
  have E1 : Hid (∀ W, Below w.heap.size w W → Calls Try.prog 42 #[.pointer (some ⟨p, 0, none⟩), .string ⟨n.toArray⟩] W fun e w' => e = .returned (.int .i64 t) ∧ Below W.heap.size W w') := fun W hW => by have := ckSingle_any p va vc vs mk n W (h.later hW); rw [hr] at this; exact this
  have E2 : Hid (∀ W, Below w.heap.size w W → Calls Try.prog 44 #[.pointer (some ⟨p, 0, none⟩), .agg #[.int .i64 k1, .string ⟨n1.toArray⟩, .int .i64 m1, .slice s1 l1.length c1], .int .i64 t] W fun e w' => e = ckPan er ∧ Below W.heap.size W w') := ckTyped_is h hs1 hq
  have HX : Hid (ExAt w g o k1 n1 m1 s1 l1.length c1) := hx1
  clear hx1 hs1 hr hq h
  have EF : Hid (∀ W, Calls Try.prog 86 #[.agg #[.int .i64 (2), .string ⟨n.toArray⟩, .string ⟨q.toArray⟩, .int .i64 num, .slice (some ⟨g, o, none⟩) 1 ec, .slice ba bn bc, .slice la ln lc]] W fun e w' => e = .returned (.bool true) ∧ Below W.heap.size W w') := fun W => by have := ckFm_any (2) 1 bn ln n q num (some ⟨g, o, none⟩) ec ba bc la lc W; rw [hf] at this; exact this
  clear hf
  unfold smV
  go_enter Try.func78, Try.ntmps78
  go_wp2_with fail
  refine Calls.mono (EF.out _) ?_
  rintro e1 w1 ⟨rfl, b1⟩
  have B1 : Hid (Below w.heap.size w w1) := Below.trans (by go_grown) (b1.mono (by go_size))
  have z1 : w.heap.size < w1.heap.size := Nat.lt_of_lt_of_le (by simp) b1.size
  have d0 : w1.cell? ⟨w.heap.size, 0, none⟩ = some (.int .i64 (2)) := (b1.cell (p := ⟨w.heap.size, 0, none⟩) (by simp)).trans (by simp [go_sem])
  have d1 : w1.cell? ⟨w.heap.size, 1, none⟩ = some (.string ⟨n.toArray⟩) := (b1.cell (p := ⟨w.heap.size, 1, none⟩) (by simp)).trans (by simp [go_sem])
  have d4 : w1.cell? ⟨w.heap.size, 4, none⟩ = some (.slice (some ⟨g, o, none⟩) 1 ec) := (b1.cell (p := ⟨w.heap.size, 4, none⟩) (by simp)).trans (by simp [go_sem])
  clear b1 EF
  go_wp2_with fail
  refine Calls.mono (ckMust_yes _ _) ?_
  rintro e2 w2 ⟨rfl, rfl⟩
  have y := HX.out.later B1.out
  obtain ⟨y0, y1, y2, y3, yz⟩ := y
  go_wp2_with fail
  go_region_with (first
    | (go_at_call 42; refine Calls.mono (E1.out _ (Below.trans B1.out (Below.mono (by go_grown) B1.out.size))) ?_; rintro ew3 w3 ⟨rfl, bw3⟩; have B3 : Hid (Below w.heap.size w w3) := Below.trans (Below.trans B1.out (Below.mono (by go_grown) B1.out.size)) (bw3.mono (Nat.le_trans B1.out.size (by go_size))); have b4 : Below w2.heap.size w2 w3 := Below.trans (by go_grown) (bw3.mono (by go_size)); have d4' : w3.cell? ⟨w.heap.size, 4, none⟩ = some (.slice (some ⟨g, o, none⟩) 1 ec) := (b4.cell (p := ⟨w.heap.size, 4, none⟩) z1).trans d4; have yy := HX.out.later B3.out; obtain ⟨y0', y1', y2', y3', yz'⟩ := yy; clear b4; clear bw3)
    | (go_at_call 44; refine shutWay (E2.out _ (Below.trans B3.out (Below.mono (by go_grown) B3.out.size))) ?_ (.tuple #[]) ?_; (rintro e9 w9 ⟨rfl, b9⟩; exact ⟨rfl, rfl, Below.trans (Below.trans B3.out (Below.mono (by go_grown) B3.out.size)) (b9.mono (Nat.le_trans B3.out.size (by go_size)))⟩); intro hF; have hz1 : ∀ (W : World) (q : Addr), W.frozen? q = false := fun _ _ => hF.out _; have hz2 : ∀ (W : World) (q : Addr), W.cell? q = some (.int .i64 0) := fun _ _ => hF.out _))
  all_goals exact hF.out _
end Go.Proofs.Ytobiedmmjiedlaa
