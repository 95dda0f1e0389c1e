/- Layer 4: the program's checker of statements, kind by kind. -/
import Derived.Test.YtobiedmmjiedlaaZCkY
namespace Go.Proofs.Ytobiedmmjiedlaa
open Go.RowKit

theorem ckTyped_at (A : Nat → Prop) (p : Nat) (va : Option Addr) (vc : Nat) (vs : List CkVa) (mk : Int) (w : World) (h : Sco w p va vc vs mk) (k : Int) (n : List UInt8) (m : Int) (s1 : Option Addr) (c1 : Nat) (ll : List Sx.Ex) (hs : ExS A w (.slice s1 ll.length c1) ll) (t : Int) :
    ∀ W, Below w.heap.size w W → Calls Try.prog 44 #[.pointer (some ⟨p, 0, none⟩), .agg #[.int .i64 k, .string ⟨n.toArray⟩, .int .i64 m, .slice s1 ll.length c1], .int .i64 t] W fun e w' => e = ckEndU (ckTd (ckTy vs mk (.mk k n m ll)) t) ∧ Below W.heap.size W w' := fun W hW =>
  ckTyped_of p W k n m s1 ll.length c1 t _ fun W' hW' => ckTypeOf_any A p va vc vs mk w h (.mk k n m ll) k n m ll s1 c1 W' rfl (hW.trans (hW'.mono hW.size)) (hs.later (hW.trans (hW'.mono hW.size)) (Nat.le_refl _))
theorem ckTyped_is {A : Nat → Prop} {p : Nat} {va : Option Addr} {vc : Nat} {vs : List CkVa} {mk : Int} {w : World} (h : Sco w p va vc vs mk) {k : Int} {n : List UInt8} {m : Int} {s1 : Option Addr} {c1 : Nat} {ll : List Sx.Ex} (hs : ExS A w (.slice s1 ll.length c1) ll) {t : Int} {r : Option Int} (hr : ckTd (ckTy vs mk (.mk k n m ll)) t = r) :
    ∀ W, Below w.heap.size w W → Calls Try.prog 44 #[.pointer (some ⟨p, 0, none⟩), .agg #[.int .i64 k, .string ⟨n.toArray⟩, .int .i64 m, .slice s1 ll.length c1], .int .i64 t] W fun e w' => e = ckEndU r ∧ Below W.heap.size W w' := by
  subst hr
  exact ckTyped_at A p va vc vs mk w h k n m s1 c1 ll hs t
set_option maxRecDepth 100000 in
set_option maxHeartbeats 2000000 in
theorem ckStmt_form (p : Nat) (w : World) (ea : Option Addr) (en ec : Nat) (n q : List UInt8) (num : Int) (ba : Option Addr) (bn bc : Nat) (la : Option Addr) (ln lc : Nat) (k : Int) (hf : ckFm k num en bn ln = false) : Calls Try.prog 78 #[.pointer (some ⟨p, 0, none⟩), smV k n q num ea en ec ba bn bc la ln lc] w fun en w' => en = ckPan 32 ∧ Below w.heap.size w w' := by
  have EF : Hid (∀ W, Calls Try.prog 86 #[.agg #[.int .i64 k, .string ⟨n.toArray⟩, .string ⟨q.toArray⟩, .int .i64 num, .slice ea en ec, .slice ba bn bc, .slice la ln lc]] W fun e w' => e = .returned (.bool false) ∧ Below W.heap.size W w') := fun W => by have := ckFm_any k en bn ln n q num ea ec ba bc la lc W; rw [hf] at this; exact this
  clear hf
  unfold smV
  go_enter Try.func78, Try.ntmps78
  go_wp2_with fail
  refine Calls.mono (EF.out _) ?_
  rintro e1 w1 ⟨rfl, b1⟩
  have B1 : Hid (Below w.heap.size w w1) := Below.trans (by go_grown) (b1.mono (by go_size))
  clear b1
  go_wp2_with fail
  refine Calls.mono (ckMust_no _ _) ?_
  rintro e2 w2 ⟨rfl, b2⟩
  unfold ckPan
  go_wp2_with fail
  exact ⟨rfl, rfl, B1.out.trans (b2.mono B1.out.size)⟩
set_option maxRecDepth 100000 in
set_option maxHeartbeats 2000000 in
theorem ckStmt_var_ok (p : Nat) (w : World) (ea : Option Addr) (en ec : Nat) (n q : List UInt8) (num : Int) (ba : Option Addr) (bn bc : Nat) (la : Option Addr) (ln lc : Nat) (hf : ckFm 1 num en bn ln = true) (hn : num ≤ 64) : Calls Try.prog 78 #[.pointer (some ⟨p, 0, none⟩), smV 1 n q num ea en ec ba bn bc la ln lc] w fun en w' => en = .returned (.tuple #[]) ∧ Below w.heap.size w w' := by
  have EF : Hid (∀ W, Calls Try.prog 86 #[.agg #[.int .i64 (1), .string ⟨n.toArray⟩, .string ⟨q.toArray⟩, .int .i64 num, .slice ea en ec, .slice ba bn bc, .slice la ln lc]] W fun e w' => e = .returned (.bool true) ∧ Below W.heap.size W w') := fun W => by have := ckFm_any (1) en bn ln n q num ea ec ba bc la lc W; rw [hf] at this; exact this
  clear hf
  unfold smV
  go_enter Try.func78, Try.ntmps78
  go_wp2_with fail
  refine Calls.mono (EF.out _) ?_
  rintro e1 w1 ⟨rfl, b1⟩
  have B1 : Hid (Below w.heap.size w w1) := Below.trans (by go_grown) (b1.mono (by go_size))
  have z1 : w.heap.size < w1.heap.size := Nat.lt_of_lt_of_le (by simp) b1.size
  have d0 : w1.cell? ⟨w.heap.size, 0, none⟩ = some (.int .i64 (1)) := (b1.cell (p := ⟨w.heap.size, 0, none⟩) (by simp)).trans (by simp [go_sem])
  have d3 : w1.cell? ⟨w.heap.size, 3, none⟩ = some (.int .i64 num) := (b1.cell (p := ⟨w.heap.size, 3, none⟩) (by simp)).trans (by simp [go_sem])
  clear b1 EF
  go_wp2_with fail
  refine Calls.mono (ckMust_yes _ _) ?_
  rintro e2 w2 ⟨rfl, rfl⟩
  go_wp2_with fail
  refine Calls.mono (ckMust_yes _ _) ?_
  rintro e3 w3 ⟨rfl, rfl⟩
  go_wp2_with fail
  go_end0
  exact ⟨rfl, B1.out⟩
set_option maxRecDepth 100000 in
set_option maxHeartbeats 2000000 in
theorem ckStmt_var_no (p : Nat) (w : World) (ea : Option Addr) (en ec : Nat) (n q : List UInt8) (num : Int) (ba : Option Addr) (bn bc : Nat) (la : Option Addr) (ln lc : Nat) (hf : ckFm 1 num en bn ln = true) (hn : ¬ num ≤ 64) : Calls Try.prog 78 #[.pointer (some ⟨p, 0, none⟩), smV 1 n q num ea en ec ba bn bc la ln lc] w fun en w' => en = ckPan 2 ∧ Below w.heap.size w w' := by
  have hd : decide (num ≤ 64) = false := decide_eq_false hn
  clear hn
  have EF : Hid (∀ W, Calls Try.prog 86 #[.agg #[.int .i64 (1), .string ⟨n.toArray⟩, .string ⟨q.toArray⟩, .int .i64 num, .slice ea en ec, .slice ba bn bc, .slice la ln lc]] W fun e w' => e = .returned (.bool true) ∧ Below W.heap.size W w') := fun W => by have := ckFm_any (1) en bn ln n q num ea ec ba bc la lc W; rw [hf] at this; exact this
  clear hf
  unfold smV
  go_enter Try.func78, Try.ntmps78
  go_wp2_with fail
  refine Calls.mono (EF.out _) ?_
  rintro e1 w1 ⟨rfl, b1⟩
  have B1 : Hid (Below w.heap.size w w1) := Below.trans (by go_grown) (b1.mono (by go_size))
  have z1 : w.heap.size < w1.heap.size := Nat.lt_of_lt_of_le (by simp) b1.size
  have d0 : w1.cell? ⟨w.heap.size, 0, none⟩ = some (.int .i64 (1)) := (b1.cell (p := ⟨w.heap.size, 0, none⟩) (by simp)).trans (by simp [go_sem])
  have d3 : w1.cell? ⟨w.heap.size, 3, none⟩ = some (.int .i64 num) := (b1.cell (p := ⟨w.heap.size, 3, none⟩) (by simp)).trans (by simp [go_sem])
  clear b1 EF
  go_wp2_with fail
  refine Calls.mono (ckMust_yes _ _) ?_
  rintro e2 w2 ⟨rfl, rfl⟩
  go_wp2_with fail
  refine Calls.mono (ckMust_no _ _) ?_
  rintro e3 w3 ⟨rfl, b3⟩
  have B3 : Hid (Below w.heap.size w w3) := B1.out.trans (b3.mono B1.out.size)
  unfold ckPan
  go_wp2_with fail
  exact ⟨rfl, rfl, B3.out⟩
set_option maxRecDepth 100000 in
set_option maxHeartbeats 2000000 in
theorem ckStmt_t4_ok (A : Nat → Prop) (p : Nat) (va : Option Addr) (vc : Nat) (vs : List CkVa) (mk : Int) (w : World) (h : Sco w p va vc vs mk) (n q : List UInt8) (num : Int) (ba : Option Addr) (bn bc : Nat) (la : Option Addr) (ln lc : Nat) (g o ec : Nat) (k1 : Int) (n1 : List UInt8) (m1 : Int) (s1 : Option Addr) (c1 : Nat) (l1 : List Sx.Ex) (hx1 : ExAt w g o k1 n1 m1 s1 l1.length c1) (hs1 : ExS A w (.slice s1 l1.length c1) l1) (hf : ckFm 4 num 1 bn ln = true) (hr : ckTd (ckTy vs mk (.mk k1 n1 m1 l1)) 2 = none) : Calls Try.prog 78 #[.pointer (some ⟨p, 0, none⟩), smV 4 n q num (some ⟨g, o, none⟩) 1 ec ba bn bc la ln lc] w fun en w' => en = .returned (.tuple #[]) ∧ Below w.heap.size w w' := by
  have E1 : Hid (∀ W, Below w.heap.size w W → Calls Try.prog 44 #[.pointer (some ⟨p, 0, none⟩), .agg #[.int .i64 k1, .string ⟨n1.toArray⟩, .int .i64 m1, .slice s1 l1.length c1], .int .i64 2] W fun e w' => e = .returned (.tuple #[]) ∧ Below W.heap.size W w') := ckTyped_is h hs1 hr
  have HX : Hid (ExAt w g o k1 n1 m1 s1 l1.length c1) := hx1
  clear hx1 hs1 hr h
  have EF : Hid (∀ W, Calls Try.prog 86 #[.agg #[.int .i64 (4), .string ⟨n.toArray⟩, .string ⟨q.toArray⟩, .int .i64 num, .slice (some ⟨g, o, none⟩) 1 ec, .slice ba bn bc, .slice la ln lc]] W fun e w' => e = .returned (.bool true) ∧ Below W.heap.size W w') := fun W => by have := ckFm_any (4) 1 bn ln n q num (some ⟨g, o, none⟩) ec ba bc la lc W; rw [hf] at this; exact this
  clear hf
  unfold smV
  go_enter Try.func78, Try.ntmps78
  go_wp2_with fail
  refine Calls.mono (EF.out _) ?_
  rintro e1 w1 ⟨rfl, b1⟩
  have B1 : Hid (Below w.heap.size w w1) := Below.trans (by go_grown) (b1.mono (by go_size))
  have z1 : w.heap.size < w1.heap.size := Nat.lt_of_lt_of_le (by simp) b1.size
  have d0 : w1.cell? ⟨w.heap.size, 0, none⟩ = some (.int .i64 (4)) := (b1.cell (p := ⟨w.heap.size, 0, none⟩) (by simp)).trans (by simp [go_sem])
  have d4 : w1.cell? ⟨w.heap.size, 4, none⟩ = some (.slice (some ⟨g, o, none⟩) 1 ec) := (b1.cell (p := ⟨w.heap.size, 4, none⟩) (by simp)).trans (by simp [go_sem])
  clear b1 EF
  go_wp2_with fail
  refine Calls.mono (ckMust_yes _ _) ?_
  rintro e2 w2 ⟨rfl, rfl⟩
  have y := HX.out.later B1.out
  obtain ⟨y0, y1, y2, y3, yz⟩ := y
  go_wp2_with fail
  go_region_with (first
    | (go_at_call 44; refine Calls.mono (E1.out _ (Below.trans B1.out (Below.mono (by go_grown) B1.out.size))) ?_; rintro ew3 w3 ⟨rfl, bw3⟩; have B3 : Hid (Below w.heap.size w w3) := Below.trans (Below.trans B1.out (Below.mono (by go_grown) B1.out.size)) (bw3.mono (Nat.le_trans B1.out.size (by go_size))); clear bw3))
  all_goals
    go_wp2_with fail
    go_end0
    exact ⟨rfl, B3.out⟩
set_option maxRecDepth 100000 in
set_option maxHeartbeats 2000000 in
theorem ckStmt_t4_no (A : Nat → Prop) (p : Nat) (va : Option Addr) (vc : Nat) (vs : List CkVa) (mk : Int) (w : World) (h : Sco w p va vc vs mk) (n q : List UInt8) (num : Int) (ba : Option Addr) (bn bc : Nat) (la : Option Addr) (ln lc : Nat) (g o ec : Nat) (k1 : Int) (n1 : List UInt8) (m1 : Int) (s1 : Option Addr) (c1 : Nat) (l1 : List Sx.Ex) (hx1 : ExAt w g o k1 n1 m1 s1 l1.length c1) (hs1 : ExS A w (.slice s1 l1.length c1) l1) (hf : ckFm 4 num 1 bn ln = true) (er : Int) (hr : ckTd (ckTy vs mk (.mk k1 n1 m1 l1)) 2 = some er) : Calls Try.prog 78 #[.pointer (some ⟨p, 0, none⟩), smV 4 n q num (some ⟨g, o, none⟩) 1 ec ba bn bc la ln lc] w fun en w' => en = ckPan er ∧ Below w.heap.size w w' := by
  have E1 : Hid (∀ W, Below w.heap.size w W → Calls Try.prog 44 #[.pointer (some ⟨p, 0, none⟩), .agg #[.int .i64 k1, .string ⟨n1.toArray⟩, .int .i64 m1, .slice s1 l1.length c1], .int .i64 2] W fun e w' => e = ckPan er ∧ Below W.heap.size W w') := ckTyped_is h hs1 hr
  have HX : Hid (ExAt w g o k1 n1 m1 s1 l1.length c1) := hx1
  clear hx1 hs1 hr h
  have EF : Hid (∀ W, Calls Try.prog 86 #[.agg #[.int .i64 (4), .string ⟨n.toArray⟩, .string ⟨q.toArray⟩, .int .i64 num, .slice (some ⟨g, o, none⟩) 1 ec, .slice ba bn bc, .slice la ln lc]] W fun e w' => e = .returned (.bool true) ∧ Below W.heap.size W w') := fun W => by have := ckFm_any (4) 1 bn ln n q num (some ⟨g, o, none⟩) ec ba bc la lc W; rw [hf] at this; exact this
  clear hf
  unfold smV
  go_enter Try.func78, Try.ntmps78
  go_wp2_with fail
  refine Calls.mono (EF.out _) ?_
  rintro e1 w1 ⟨rfl, b1⟩
  have B1 : Hid (Below w.heap.size w w1) := Below.trans (by go_grown) (b1.mono (by go_size))
  have z1 : w.heap.size < w1.heap.size := Nat.lt_of_lt_of_le (by simp) b1.size
  have d0 : w1.cell? ⟨w.heap.size, 0, none⟩ = some (.int .i64 (4)) := (b1.cell (p := ⟨w.heap.size, 0, none⟩) (by simp)).trans (by simp [go_sem])
  have d4 : w1.cell? ⟨w.heap.size, 4, none⟩ = some (.slice (some ⟨g, o, none⟩) 1 ec) := (b1.cell (p := ⟨w.heap.size, 4, none⟩) (by simp)).trans (by simp [go_sem])
  clear b1 EF
  go_wp2_with fail
  refine Calls.mono (ckMust_yes _ _) ?_
  rintro e2 w2 ⟨rfl, rfl⟩
  have y := HX.out.later B1.out
  obtain ⟨y0, y1, y2, y3, yz⟩ := y
  go_wp2_with fail
  go_region_with (first
    | (go_at_call 44; refine shutWay (E1.out _ (Below.trans B1.out (Below.mono (by go_grown) B1.out.size))) ?_ (.tuple #[]) ?_; (rintro e9 w9 ⟨rfl, b9⟩; exact ⟨rfl, rfl, Below.trans (Below.trans B1.out (Below.mono (by go_grown) B1.out.size)) (b9.mono (Nat.le_trans B1.out.size (by go_size)))⟩); intro hF; have hz1 : ∀ (W : World) (q : Addr), W.frozen? q = false := fun _ _ => hF.out _; have hz2 : ∀ (W : World) (q : Addr), W.cell? q = some (.int .i64 0) := fun _ _ => hF.out _))
  all_goals exact hF.out _
set_option maxRecDepth 100000 in
set_option maxHeartbeats 2000000 in
theorem ckStmt_t5_ok (A : Nat → Prop) (p : Nat) (va : Option Addr) (vc : Nat) (vs : List CkVa) (mk : Int) (w : World) (h : Sco w p va vc vs mk) (n q : List UInt8) (num : Int) (ba : Option Addr) (bn bc : Nat) (la : Option Addr) (ln lc : Nat) (g o ec : Nat) (k1 : Int) (n1 : List UInt8) (m1 : Int) (s1 : Option Addr) (c1 : Nat) (l1 : List Sx.Ex) (hx1 : ExAt w g o k1 n1 m1 s1 l1.length c1) (hs1 : ExS A w (.slice s1 l1.length c1) l1) (hf : ckFm 5 num 1 bn ln = true) (hr : ckTd (ckTy vs mk (.mk k1 n1 m1 l1)) 2 = none) : Calls Try.prog 78 #[.pointer (some ⟨p, 0, none⟩), smV 5 n q num (some ⟨g, o, none⟩) 1 ec ba bn bc la ln lc] w fun en w' => en = .returned (.tuple #[]) ∧ Below w.heap.size w w' := by
  have E1 : Hid (∀ W, Below w.heap.size w W → Calls Try.prog 44 #[.pointer (some ⟨p, 0, none⟩), .agg #[.int .i64 k1, .string ⟨n1.toArray⟩, .int .i64 m1, .slice s1 l1.length c1], .int .i64 2] W fun e w' => e = .returned (.tuple #[]) ∧ Below W.heap.size W w') := ckTyped_is h hs1 hr
  have HX : Hid (ExAt w g o k1 n1 m1 s1 l1.length c1) := hx1
  clear hx1 hs1 hr h
  have EF : Hid (∀ W, Calls Try.prog 86 #[.agg #[.int .i64 (5), .string ⟨n.toArray⟩, .string ⟨q.toArray⟩, .int .i64 num, .slice (some ⟨g, o, none⟩) 1 ec, .slice ba bn bc, .slice la ln lc]] W fun e w' => e = .returned (.bool true) ∧ Below W.heap.size W w') := fun W => by have := ckFm_any (5) 1 bn ln n q num (some ⟨g, o, none⟩) ec ba bc la lc W; rw [hf] at this; exact this
  clear hf
  unfold smV
  go_enter Try.func78, Try.ntmps78
  go_wp2_with fail
  refine Calls.mono (EF.out _) ?_
  rintro e1 w1 ⟨rfl, b1⟩
  have B1 : Hid (Below w.heap.size w w1) := Below.trans (by go_grown) (b1.mono (by go_size))
  have z1 : w.heap.size < w1.heap.size := Nat.lt_of_lt_of_le (by simp) b1.size
  have d0 : w1.cell? ⟨w.heap.size, 0, none⟩ = some (.int .i64 (5)) := (b1.cell (p := ⟨w.heap.size, 0, none⟩) (by simp)).trans (by simp [go_sem])
  have d4 : w1.cell? ⟨w.heap.size, 4, none⟩ = some (.slice (some ⟨g, o, none⟩) 1 ec) := (b1.cell (p := ⟨w.heap.size, 4, none⟩) (by simp)).trans (by simp [go_sem])
  clear b1 EF
  go_wp2_with fail
  refine Calls.mono (ckMust_yes _ _) ?_
  rintro e2 w2 ⟨rfl, rfl⟩
  have y := HX.out.later B1.out
  obtain ⟨y0, y1, y2, y3, yz⟩ := y
  go_wp2_with fail
  go_region_with (first
    | (go_at_call 44; refine Calls.mono (E1.out _ (Below.trans B1.out (Below.mono (by go_grown) B1.out.size))) ?_; rintro ew3 w3 ⟨rfl, bw3⟩; have B3 : Hid (Below w.heap.size w w3) := Below.trans (Below.trans B1.out (Below.mono (by go_grown) B1.out.size)) (bw3.mono (Nat.le_trans B1.out.size (by go_size))); clear bw3))
  all_goals
    go_wp2_with fail
    go_end0
    exact ⟨rfl, B3.out⟩
set_option maxRecDepth 100000 in
set_option maxHeartbeats 2000000 in
theorem ckStmt_t5_no (A : Nat → Prop) (p : Nat) (va : Option Addr) (vc : Nat) (vs : List CkVa) (mk : Int) (w : World) (h : Sco w p va vc vs mk) (n q : List UInt8) (num : Int) (ba : Option Addr) (bn bc : Nat) (la : Option Addr) (ln lc : Nat) (g o ec : Nat) (k1 : Int) (n1 : List UInt8) (m1 : Int) (s1 : Option Addr) (c1 : Nat) (l1 : List Sx.Ex) (hx1 : ExAt w g o k1 n1 m1 s1 l1.length c1) (hs1 : ExS A w (.slice s1 l1.length c1) l1) (hf : ckFm 5 num 1 bn ln = true) (er : Int) (hr : ckTd (ckTy vs mk (.mk k1 n1 m1 l1)) 2 = some er) : Calls Try.prog 78 #[.pointer (some ⟨p, 0, none⟩), smV 5 n q num (some ⟨g, o, none⟩) 1 ec ba bn bc la ln lc] w fun en w' => en = ckPan er ∧ Below w.heap.size w w' := by
  have E1 : Hid (∀ W, Below w.heap.size w W → Calls Try.prog 44 #[.pointer (some ⟨p, 0, none⟩), .agg #[.int .i64 k1, .string ⟨n1.toArray⟩, .int .i64 m1, .slice s1 l1.length c1], .int .i64 2] W fun e w' => e = ckPan er ∧ Below W.heap.size W w') := ckTyped_is h hs1 hr
  have HX : Hid (ExAt w g o k1 n1 m1 s1 l1.length c1) := hx1
  clear hx1 hs1 hr h
  have EF : Hid (∀ W, Calls Try.prog 86 #[.agg #[.int .i64 (5), .string ⟨n.toArray⟩, .string ⟨q.toArray⟩, .int .i64 num, .slice (some ⟨g, o, none⟩) 1 ec, .slice ba bn bc, .slice la ln lc]] W fun e w' => e = .returned (.bool true) ∧ Below W.heap.size W w') := fun W => by have := ckFm_any (5) 1 bn ln n q num (some ⟨g, o, none⟩) ec ba bc la lc W; rw [hf] at this; exact this
  clear hf
  unfold smV
  go_enter Try.func78, Try.ntmps78
  go_wp2_with fail
  refine Calls.mono (EF.out _) ?_
  rintro e1 w1 ⟨rfl, b1⟩
  have B1 : Hid (Below w.heap.size w w1) := Below.trans (by go_grown) (b1.mono (by go_size))
  have z1 : w.heap.size < w1.heap.size := Nat.lt_of_lt_of_le (by simp) b1.size
  have d0 : w1.cell? ⟨w.heap.size, 0, none⟩ = some (.int .i64 (5)) := (b1.cell (p := ⟨w.heap.size, 0, none⟩) (by simp)).trans (by simp [go_sem])
  have d4 : w1.cell? ⟨w.heap.size, 4, none⟩ = some (.slice (some ⟨g, o, none⟩) 1 ec) := (b1.cell (p := ⟨w.heap.size, 4, none⟩) (by simp)).trans (by simp [go_sem])
  clear b1 EF
  go_wp2_with fail
  refine Calls.mono (ckMust_yes _ _) ?_
  rintro e2 w2 ⟨rfl, rfl⟩
  have y := HX.out.later B1.out
  obtain ⟨y0, y1, y2, y3, yz⟩ := y
  go_wp2_with fail
  go_region_with (first
    | (go_at_call 44; refine shutWay (E1.out _ (Below.trans B1.out (Below.mono (by go_grown) B1.out.size))) ?_ (.tuple #[]) ?_; (rintro e9 w9 ⟨rfl, b9⟩; exact ⟨rfl, rfl, Below.trans (Below.trans B1.out (Below.mono (by go_grown) B1.out.size)) (b9.mono (Nat.le_trans B1.out.size (by go_size)))⟩); intro hF; have hz1 : ∀ (W : World) (q : Addr), W.frozen? q = false := fun _ _ => hF.out _; have hz2 : ∀ (W : World) (q : Addr), W.cell? q = some (.int .i64 0) := fun _ _ => hF.out _))
  all_goals exact hF.out _
set_option maxRecDepth 100000 in
set_option maxHeartbeats 2000000 in
theorem ckStmt_t10_ok (A : Nat → Prop) (p : Nat) (va : Option Addr) (vc : Nat) (vs : List CkVa) (mk : Int) (w : World) (h : Sco w p va vc vs mk) (n q : List UInt8) (num : Int) (ba : Option Addr) (bn bc : Nat) (la : Option Addr) (ln lc : Nat) (g o ec : Nat) (k1 : Int) (n1 : List UInt8) (m1 : Int) (s1 : Option Addr) (c1 : Nat) (l1 : List Sx.Ex) (hx1 : ExAt w g o k1 n1 m1 s1 l1.length c1) (hs1 : ExS A w (.slice s1 l1.length c1) l1) (hf : ckFm 10 num 1 bn ln = true) (hr : ckTd (ckTy vs mk (.mk k1 n1 m1 l1)) 2 = none) : Calls Try.prog 78 #[.pointer (some ⟨p, 0, none⟩), smV 10 n q num (some ⟨g, o, none⟩) 1 ec ba bn bc la ln lc] w fun en w' => en = .returned (.tuple #[]) ∧ Below w.heap.size w w' := by
  have E1 : Hid (∀ W, Below w.heap.size w W → Calls Try.prog 44 #[.pointer (some ⟨p, 0, none⟩), .agg #[.int .i64 k1, .string ⟨n1.toArray⟩, .int .i64 m1, .slice s1 l1.length c1], .int .i64 2] W fun e w' => e = .returned (.tuple #[]) ∧ Below W.heap.size W w') := ckTyped_is h hs1 hr
  have HX : Hid (ExAt w g o k1 n1 m1 s1 l1.length c1) := hx1
  clear hx1 hs1 hr h
  have EF : Hid (∀ W, Calls Try.prog 86 #[.agg #[.int .i64 (10), .string ⟨n.toArray⟩, .string ⟨q.toArray⟩, .int .i64 num, .slice (some ⟨g, o, none⟩) 1 ec, .slice ba bn bc, .slice la ln lc]] W fun e w' => e = .returned (.bool true) ∧ Below W.heap.size W w') := fun W => by have := ckFm_any (10) 1 bn ln n q num (some ⟨g, o, none⟩) ec ba bc la lc W; rw [hf] at this; exact this
  clear hf
  unfold smV
  go_enter Try.func78, Try.ntmps78
  go_wp2_with fail
  refine Calls.mono (EF.out _) ?_
  rintro e1 w1 ⟨rfl, b1⟩
  have B1 : Hid (Below w.heap.size w w1) := Below.trans (by go_grown) (b1.mono (by go_size))
  have z1 : w.heap.size < w1.heap.size := Nat.lt_of_lt_of_le (by simp) b1.size
  have d0 : w1.cell? ⟨w.heap.size, 0, none⟩ = some (.int .i64 (10)) := (b1.cell (p := ⟨w.heap.size, 0, none⟩) (by simp)).trans (by simp [go_sem])
  have d4 : w1.cell? ⟨w.heap.size, 4, none⟩ = some (.slice (some ⟨g, o, none⟩) 1 ec) := (b1.cell (p := ⟨w.heap.size, 4, none⟩) (by simp)).trans (by simp [go_sem])
  clear b1 EF
  go_wp2_with fail
  refine Calls.mono (ckMust_yes _ _) ?_
  rintro e2 w2 ⟨rfl, rfl⟩
  have y := HX.out.later B1.out
  obtain ⟨y0, y1, y2, y3, yz⟩ := y
  go_wp2_with fail
  go_region_with (first
    | (go_at_call 44; refine Calls.mono (E1.out _ (Below.trans B1.out (Below.mono (by go_grown) B1.out.size))) ?_; rintro ew3 w3 ⟨rfl, bw3⟩; have B3 : Hid (Below w.heap.size w w3) := Below.trans (Below.trans B1.out (Below.mono (by go_grown) B1.out.size)) (bw3.mono (Nat.le_trans B1.out.size (by go_size))); clear bw3))
  all_goals
    go_wp2_with fail
    go_end0
    exact ⟨rfl, B3.out⟩
set_option maxRecDepth 100000 in
set_option maxHeartbeats 2000000 in
theorem ckStmt_t10_no (A : Nat → Prop) (p : Nat) (va : Option Addr) (vc : Nat) (vs : List CkVa) (mk : Int) (w : World) (h : Sco w p va vc vs mk) (n q : List UInt8) (num : Int) (ba : Option Addr) (bn bc : Nat) (la : Option Addr) (ln lc : Nat) (g o ec : Nat) (k1 : Int) (n1 : List UInt8) (m1 : Int) (s1 : Option Addr) (c1 : Nat) (l1 : List Sx.Ex) (hx1 : ExAt w g o k1 n1 m1 s1 l1.length c1) (hs1 : ExS A w (.slice s1 l1.length c1) l1) (hf : ckFm 10 num 1 bn ln = true) (er : Int) (hr : ckTd (ckTy vs mk (.mk k1 n1 m1 l1)) 2 = some er) : Calls Try.prog 78 #[.pointer (some ⟨p, 0, none⟩), smV 10 n q num (some ⟨g, o, none⟩) 1 ec ba bn bc la ln lc] w fun en w' => en = ckPan er ∧ Below w.heap.size w w' := by
  have E1 : Hid (∀ W, Below w.heap.size w W → Calls Try.prog 44 #[.pointer (some ⟨p, 0, none⟩), .agg #[.int .i64 k1, .string ⟨n1.toArray⟩, .int .i64 m1, .slice s1 l1.length c1], .int .i64 2] W fun e w' => e = ckPan er ∧ Below W.heap.size W w') := ckTyped_is h hs1 hr
  have HX : Hid (ExAt w g o k1 n1 m1 s1 l1.length c1) := hx1
  clear hx1 hs1 hr h
  have EF : Hid (∀ W, Calls Try.prog 86 #[.agg #[.int .i64 (10), .string ⟨n.toArray⟩, .string ⟨q.toArray⟩, .int .i64 num, .slice (some ⟨g, o, none⟩) 1 ec, .slice ba bn bc, .slice la ln lc]] W fun e w' => e = .returned (.bool true) ∧ Below W.heap.size W w') := fun W => by have := ckFm_any (10) 1 bn ln n q num (some ⟨g, o, none⟩) ec ba bc la lc W; rw [hf] at this; exact this
  clear hf
  unfold smV
  go_enter Try.func78, Try.ntmps78
  go_wp2_with fail
  refine Calls.mono (EF.out _) ?_
  rintro e1 w1 ⟨rfl, b1⟩
  have B1 : Hid (Below w.heap.size w w1) := Below.trans (by go_grown) (b1.mono (by go_size))
  have z1 : w.heap.size < w1.heap.size := Nat.lt_of_lt_of_le (by simp) b1.size
  have d0 : w1.cell? ⟨w.heap.size, 0, none⟩ = some (.int .i64 (10)) := (b1.cell (p := ⟨w.heap.size, 0, none⟩) (by simp)).trans (by simp [go_sem])
  have d4 : w1.cell? ⟨w.heap.size, 4, none⟩ = some (.slice (some ⟨g, o, none⟩) 1 ec) := (b1.cell (p := ⟨w.heap.size, 4, none⟩) (by simp)).trans (by simp [go_sem])
  clear b1 EF
  go_wp2_with fail
  refine Calls.mono (ckMust_yes _ _) ?_
  rintro e2 w2 ⟨rfl, rfl⟩
  have y := HX.out.later B1.out
  obtain ⟨y0, y1, y2, y3, yz⟩ := y
  go_wp2_with fail
  go_region_with (first
    | (go_at_call 44; refine shutWay (E1.out _ (Below.trans B1.out (Below.mono (by go_grown) B1.out.size))) ?_ (.tuple #[]) ?_; (rintro e9 w9 ⟨rfl, b9⟩; exact ⟨rfl, rfl, Below.trans (Below.trans B1.out (Below.mono (by go_grown) B1.out.size)) (b9.mono (Nat.le_trans B1.out.size (by go_size)))⟩); intro hF; have hz1 : ∀ (W : World) (q : Addr), W.frozen? q = false := fun _ _ => hF.out _; have hz2 : ∀ (W : World) (q : Addr), W.cell? q = some (.int .i64 0) := fun _ _ => hF.out _))
  all_goals exact hF.out _
set_option maxRecDepth 100000 in
set_option maxHeartbeats 2000000 in
theorem ckStmt_print_ok (A : Nat → Prop) (p : Nat) (va : Option Addr) (vc : Nat) (vs : List CkVa) (mk : Int) (w : World) (h : Sco w p va vc vs mk) (n q : List UInt8) (num : Int) (ba : Option Addr) (bn bc : Nat) (la : Option Addr) (ln lc : Nat) (g o ec : Nat) (k1 : Int) (n1 : List UInt8) (m1 : Int) (s1 : Option Addr) (c1 : Nat) (l1 : List Sx.Ex) (hx1 : ExAt w g o k1 n1 m1 s1 l1.length c1) (hs1 : ExS A w (.slice s1 l1.length c1) l1) (hf : ckFm 8 num 1 bn ln = true) (t : Int) (hr : ckTy vs mk (.mk k1 n1 m1 l1) = .ok t) : Calls Try.prog 78 #[.pointer (some ⟨p, 0, none⟩), smV 8 n q num (some ⟨g, o, none⟩) 1 ec ba bn bc la ln lc] w fun en w' => en = .returned (.tuple #[]) ∧ Below w.heap.size w w' := by
  have E1 : Hid (∀ W, Below w.heap.size w W → Calls Try.prog 27 #[.pointer (some ⟨p, 0, none⟩), .agg #[.int .i64 k1, .string ⟨n1.toArray⟩, .int .i64 m1, .slice s1 l1.length c1]] W fun e w' => e = .returned (.int .i64 t) ∧ Below W.heap.size W w') := fun W hW => by have := ckTypeOf_any A p va vc vs mk w h (.mk k1 n1 m1 l1) k1 n1 m1 l1 s1 c1 W rfl hW (hs1.later hW (Nat.le_refl _)); rw [hr] at this; exact this
  have HX : Hid (ExAt w g o k1 n1 m1 s1 l1.length c1) := hx1
  clear hx1 hs1 hr h
  have EF : Hid (∀ W, Calls Try.prog 86 #[.agg #[.int .i64 (8), .string ⟨n.toArray⟩, .string ⟨q.toArray⟩, .int .i64 num, .slice (some ⟨g, o, none⟩) 1 ec, .slice ba bn bc, .slice la ln lc]] W fun e w' => e = .returned (.bool true) ∧ Below W.heap.size W w') := fun W => by have := ckFm_any (8) 1 bn ln n q num (some ⟨g, o, none⟩) ec ba bc la lc W; rw [hf] at this; exact this
  clear hf
  unfold smV
  go_enter Try.func78, Try.ntmps78
  go_wp2_with fail
  refine Calls.mono (EF.out _) ?_
  rintro e1 w1 ⟨rfl, b1⟩
  have B1 : Hid (Below w.heap.size w w1) := Below.trans (by go_grown) (b1.mono (by go_size))
  have z1 : w.heap.size < w1.heap.size := Nat.lt_of_lt_of_le (by simp) b1.size
  have d0 : w1.cell? ⟨w.heap.size, 0, none⟩ = some (.int .i64 (8)) := (b1.cell (p := ⟨w.heap.size, 0, none⟩) (by simp)).trans (by simp [go_sem])
  have d4 : w1.cell? ⟨w.heap.size, 4, none⟩ = some (.slice (some ⟨g, o, none⟩) 1 ec) := (b1.cell (p := ⟨w.heap.size, 4, none⟩) (by simp)).trans (by simp [go_sem])
  clear b1 EF
  go_wp2_with fail
  refine Calls.mono (ckMust_yes _ _) ?_
  rintro e2 w2 ⟨rfl, rfl⟩
  have y := HX.out.later B1.out
  obtain ⟨y0, y1, y2, y3, yz⟩ := y
  go_wp2_with fail
  go_region_with (first
    | (go_at_call 27; refine Calls.mono (E1.out _ (Below.trans B1.out (Below.mono (by go_grown) B1.out.size))) ?_; rintro ew3 w3 ⟨rfl, bw3⟩; have B3 : Hid (Below w.heap.size w w3) := Below.trans (Below.trans B1.out (Below.mono (by go_grown) B1.out.size)) (bw3.mono (Nat.le_trans B1.out.size (by go_size))); clear bw3))
  all_goals
    go_wp2_with fail
    go_end0
    exact ⟨rfl, B3.out⟩
set_option maxRecDepth 100000 in
set_option maxHeartbeats 2000000 in
theorem ckStmt_print_no (A : Nat → Prop) (p : Nat) (va : Option Addr) (vc : Nat) (vs : List CkVa) (mk : Int) (w : World) (h : Sco w p va vc vs mk) (n q : List UInt8) (num : Int) (ba : Option Addr) (bn bc : Nat) (la : Option Addr) (ln lc : Nat) (g o ec : Nat) (k1 : Int) (n1 : List UInt8) (m1 : Int) (s1 : Option Addr) (c1 : Nat) (l1 : List Sx.Ex) (hx1 : ExAt w g o k1 n1 m1 s1 l1.length c1) (hs1 : ExS A w (.slice s1 l1.length c1) l1) (hf : ckFm 8 num 1 bn ln = true) (er : Int) (hr : ckTy vs mk (.mk k1 n1 m1 l1) = .error er) : Calls Try.prog 78 #[.pointer (some ⟨p, 0, none⟩), smV 8 n q num (some ⟨g, o, none⟩) 1 ec ba bn bc la ln lc] w fun en w' => en = ckPan er ∧ Below w.heap.size w w' := by
  have E1 : Hid (∀ W, Below w.heap.size w W → Calls Try.prog 27 #[.pointer (some ⟨p, 0, none⟩), .agg #[.int .i64 k1, .string ⟨n1.toArray⟩, .int .i64 m1, .slice s1 l1.length c1]] W fun e w' => e = ckPan er ∧ Below W.heap.size W w') := fun W hW => by have := ckTypeOf_any A p va vc vs mk w h (.mk k1 n1 m1 l1) k1 n1 m1 l1 s1 c1 W rfl hW (hs1.later hW (Nat.le_refl _)); rw [hr] at this; exact this
  have HX : Hid (ExAt w g o k1 n1 m1 s1 l1.length c1) := hx1
  clear hx1 hs1 hr h
  have EF : Hid (∀ W, Calls Try.prog 86 #[.agg #[.int .i64 (8), .string ⟨n.toArray⟩, .string ⟨q.toArray⟩, .int .i64 num, .slice (some ⟨g, o, none⟩) 1 ec, .slice ba bn bc, .slice la ln lc]] W fun e w' => e = .returned (.bool true) ∧ Below W.heap.size W w') := fun W => by have := ckFm_any (8) 1 bn ln n q num (some ⟨g, o, none⟩) ec ba bc la lc W; rw [hf] at this; exact this
  clear hf
  unfold smV
  go_enter Try.func78, Try.ntmps78
  go_wp2_with fail
  refine Calls.mono (EF.out _) ?_
  rintro e1 w1 ⟨rfl, b1⟩
  have B1 : Hid (Below w.heap.size w w1) := Below.trans (by go_grown) (b1.mono (by go_size))
  have z1 : w.heap.size < w1.heap.size := Nat.lt_of_lt_of_le (by simp) b1.size
  have d0 : w1.cell? ⟨w.heap.size, 0, none⟩ = some (.int .i64 (8)) := (b1.cell (p := ⟨w.heap.size, 0, none⟩) (by simp)).trans (by simp [go_sem])
  have d4 : w1.cell? ⟨w.heap.size, 4, none⟩ = some (.slice (some ⟨g, o, none⟩) 1 ec) := (b1.cell (p := ⟨w.heap.size, 4, none⟩) (by simp)).trans (by simp [go_sem])
  clear b1 EF
  go_wp2_with fail
  refine Calls.mono (ckMust_yes _ _) ?_
  rintro e2 w2 ⟨rfl, rfl⟩
  have y := HX.out.later B1.out
  obtain ⟨y0, y1, y2, y3, yz⟩ := y
  go_wp2_with fail
  go_region_with (first
    | (go_at_call 27; refine shutWay (E1.out _ (Below.trans B1.out (Below.mono (by go_grown) B1.out.size))) ?_ (.int .i64 0) ?_; (rintro e9 w9 ⟨rfl, b9⟩; exact ⟨rfl, rfl, Below.trans (Below.trans B1.out (Below.mono (by go_grown) B1.out.size)) (b9.mono (Nat.le_trans B1.out.size (by go_size)))⟩); intro hF; have hz1 : ∀ (W : World) (q : Addr), W.frozen? q = false := fun _ _ => hF.out _; have hz2 : ∀ (W : World) (q : Addr), W.cell? q = some (.int .i64 0) := fun _ _ => hF.out _))
  all_goals exact hF.out _
end Go.Proofs.Ytobiedmmjiedlaa
