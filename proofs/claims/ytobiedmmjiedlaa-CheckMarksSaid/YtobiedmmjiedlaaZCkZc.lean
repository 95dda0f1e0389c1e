/- Layer 4: the program's checker of statements, kind by kind. -/
import Derived.Test.YtobiedmmjiedlaaZCkZ
import Derived.BigQuiet
namespace Go.Proofs.Ytobiedmmjiedlaa
open Go.RowKit

set_option maxRecDepth 100000 in
set_option maxHeartbeats 2000000 in
theorem ckAns_e_ok (p : Nat) (w : World) (hp : p < w.heap.size) (gq oq qn qc at_ : Nat) (ty : Int) (q2 : w.cell? ⟨p, 2, none⟩ = some (.slice (some ⟨gq, oq, none⟩) qn qc)) (q3 : w.cell? ⟨p, 3, none⟩ = some (.int .i64 (at_ : Int))) (qt : w.cell? ⟨gq, oq + at_ * 4 + 2, none⟩ = some (.int .i64 ty)) (ql : at_ < qn) (qg : gq < w.heap.size) (n q : List UInt8) (num : Int) (ba : Option Addr) (bn bc : Nat) (la : Option Addr) (ln lc : Nat) (ea : Option Addr) (ec : Nat) (ht : ty = 0) : Calls Try.prog 88 #[.pointer (some ⟨p, 0, none⟩), smV 7 n q num ea 0 ec ba bn bc la ln lc] w fun en w' => en = .returned (.tuple #[]) ∧ Below w.heap.size w w' := by
  subst ht
  have qi : (at_ : Int) < (qn : Int) := by omega
  have qj : (0 : Int) ≤ (at_ : Int) := by omega
  have np : ¬ p = w.heap.size := by omega
  have ng : ¬ gq = w.heap.size := by omega

  unfold smV
  go_enter Try.func88, Try.ntmps88
  go_wp2_with fail
  go_quiet (fail)
  obtain ⟨W, hW⟩ : ∃ W, W = (w.alloc (.cells #[.int .i64 7, .string ⟨n.toArray⟩, .string ⟨q.toArray⟩, .int .i64 num, .slice ea 0 ec, .slice ba bn bc, .slice la ln lc] 33)).drewN nq := ⟨_, rfl⟩
  rw [← hW]
  have B1 : Hid (Below w.heap.size w W) := by rw [hW]; exact below_drewN (box_below w _) nq
  have d4 : W.cell? ⟨w.heap.size, 4, none⟩ = some (.slice ea 0 ec) := by rw [hW]; simp [go_sem]
  have z1 : w.heap.size < W.heap.size := by rw [hW]; simp
  clear hW q2 q3 qt ql qg qi qj
  go_wp2_with fail
  refine Calls.mono (ckMust_yes _ _) ?_
  rintro e2 w2 ⟨rfl, rfl⟩
  go_wp2_with fail
  refine wp_loop_rounds 1 ?_
  rw [rounds_succ]
  go_wp2_with fail
  go_end0
  exact ⟨rfl, B1.out⟩
set_option maxRecDepth 100000 in
set_option maxHeartbeats 2000000 in
theorem ckAns_e_no (p : Nat) (w : World) (hp : p < w.heap.size) (gq oq qn qc at_ : Nat) (ty : Int) (q2 : w.cell? ⟨p, 2, none⟩ = some (.slice (some ⟨gq, oq, none⟩) qn qc)) (q3 : w.cell? ⟨p, 3, none⟩ = some (.int .i64 (at_ : Int))) (qt : w.cell? ⟨gq, oq + at_ * 4 + 2, none⟩ = some (.int .i64 ty)) (ql : at_ < qn) (qg : gq < w.heap.size) (n q : List UInt8) (num : Int) (ba : Option Addr) (bn bc : Nat) (la : Option Addr) (ln lc : Nat) (ea : Option Addr) (ec : Nat) (ht : ¬ ty = 0) : Calls Try.prog 88 #[.pointer (some ⟨p, 0, none⟩), smV 7 n q num ea 0 ec ba bn bc la ln lc] w fun en w' => en = ckPan 41 ∧ Below w.heap.size w w' := by
  have tb : (ty == 0) = false := beq_eq_false_iff_ne.2 ht
  have tc : (ty != 0) = true := bne_iff_ne.2 ht
  clear ht
  have qi : (at_ : Int) < (qn : Int) := by omega
  have qj : (0 : Int) ≤ (at_ : Int) := by omega
  have np : ¬ p = w.heap.size := by omega
  have ng : ¬ gq = w.heap.size := by omega

  unfold smV
  go_enter Try.func88, Try.ntmps88
  go_wp2_with fail
  go_quiet (fail)
  obtain ⟨W, hW⟩ : ∃ W, W = (w.alloc (.cells #[.int .i64 7, .string ⟨n.toArray⟩, .string ⟨q.toArray⟩, .int .i64 num, .slice ea 0 ec, .slice ba bn bc, .slice la ln lc] 33)).drewN nq := ⟨_, rfl⟩
  rw [← hW]
  have B1 : Hid (Below w.heap.size w W) := by rw [hW]; exact below_drewN (box_below w _) nq
  have d4 : W.cell? ⟨w.heap.size, 4, none⟩ = some (.slice ea 0 ec) := by rw [hW]; simp [go_sem]
  have z1 : w.heap.size < W.heap.size := by rw [hW]; simp
  clear hW q2 q3 qt ql qg qi qj
  go_wp2_with fail
  refine Calls.mono (ckMust_no _ _) ?_
  rintro e2 w2 ⟨rfl, b2⟩
  have B2 : Hid (Below w.heap.size w w2) := B1.out.trans (b2.mono B1.out.size)
  clear b2
  unfold ckPan
  go_wp2_with fail
  exact ⟨rfl, rfl, B2.out⟩
set_option maxRecDepth 100000 in
set_option maxHeartbeats 2000000 in
theorem ckAns_x_none (p : Nat) (w : World) (hp : p < w.heap.size) (gq oq qn qc at_ : Nat) (ty : Int) (q2 : w.cell? ⟨p, 2, none⟩ = some (.slice (some ⟨gq, oq, none⟩) qn qc)) (q3 : w.cell? ⟨p, 3, none⟩ = some (.int .i64 (at_ : Int))) (qt : w.cell? ⟨gq, oq + at_ * 4 + 2, none⟩ = some (.int .i64 ty)) (ql : at_ < qn) (qg : gq < w.heap.size) (n q : List UInt8) (num : Int) (ba : Option Addr) (bn bc : Nat) (la : Option Addr) (ln lc : Nat) (g o ec : Nat) (ht : ty = 0) : Calls Try.prog 88 #[.pointer (some ⟨p, 0, none⟩), smV 7 n q num (some ⟨g, o, none⟩) 1 ec ba bn bc la ln lc] w fun en w' => en = ckPan 41 ∧ Below w.heap.size w w' := by
  subst ht
  have qi : (at_ : Int) < (qn : Int) := by omega
  have qj : (0 : Int) ≤ (at_ : Int) := by omega
  have np : ¬ p = w.heap.size := by omega
  have ng : ¬ gq = w.heap.size := by omega

  unfold smV
  go_enter Try.func88, Try.ntmps88
  go_wp2_with fail
  go_quiet (fail)
  obtain ⟨W, hW⟩ : ∃ W, W = (w.alloc (.cells #[.int .i64 7, .string ⟨n.toArray⟩, .string ⟨q.toArray⟩, .int .i64 num, .slice (some ⟨g, o, none⟩) 1 ec, .slice ba bn bc, .slice la ln lc] 33)).drewN nq := ⟨_, rfl⟩
  rw [← hW]
  have B1 : Hid (Below w.heap.size w W) := by rw [hW]; exact below_drewN (box_below w _) nq
  have d4 : W.cell? ⟨w.heap.size, 4, none⟩ = some (.slice (some ⟨g, o, none⟩) 1 ec) := by rw [hW]; simp [go_sem]
  have z1 : w.heap.size < W.heap.size := by rw [hW]; simp
  clear hW q2 q3 qt ql qg qi qj
  go_wp2_with fail
  refine Calls.mono (ckMust_no _ _) ?_
  rintro e2 w2 ⟨rfl, b2⟩
  have B2 : Hid (Below w.heap.size w w2) := B1.out.trans (b2.mono B1.out.size)
  clear b2
  unfold ckPan
  go_wp2_with fail
  exact ⟨rfl, rfl, B2.out⟩
set_option maxRecDepth 100000 in
set_option maxHeartbeats 2000000 in
theorem ckAns_x_ok (A : Nat → Prop) (p : Nat) (va : Option Addr) (vc : Nat) (vs : List CkVa) (mk : Int) (w : World) (h : Sco w p va vc vs mk) (gq oq qn qc at_ : Nat) (ty : Int) (q2 : w.cell? ⟨p, 2, none⟩ = some (.slice (some ⟨gq, oq, none⟩) qn qc)) (q3 : w.cell? ⟨p, 3, none⟩ = some (.int .i64 (at_ : Int))) (qt : w.cell? ⟨gq, oq + at_ * 4 + 2, none⟩ = some (.int .i64 ty)) (ql : at_ < qn) (qg : gq < w.heap.size) (n q : List UInt8) (num : Int) (ba : Option Addr) (bn bc : Nat) (la : Option Addr) (ln lc : Nat) (g o ec : Nat) (k1 : Int) (n1 : List UInt8) (m1 : Int) (s1 : Option Addr) (c1 : Nat) (l1 : List Sx.Ex) (hx1 : ExAt w g o k1 n1 m1 s1 l1.length c1) (hs1 : ExS A w (.slice s1 l1.length c1) l1) (ht : ¬ ty = 0) (hq : ckTd (ckTy vs mk (.mk k1 n1 m1 l1)) ty = none) : Calls Try.prog 88 #[.pointer (some ⟨p, 0, none⟩), smV 7 n q num (some ⟨g, o, none⟩) 1 ec ba bn bc la ln lc] w fun en w' => en = .returned (.tuple #[]) ∧ Below w.heap.size w w' := by
  have E1 : Hid (∀ W, Below w.heap.size w W → Calls Try.prog 44 #[.pointer (some ⟨p, 0, none⟩), .agg #[.int .i64 k1, .string ⟨n1.toArray⟩, .int .i64 m1, .slice s1 l1.length c1], .int .i64 ty] W fun e w' => e = .returned (.tuple #[]) ∧ Below W.heap.size W w') := ckTyped_is h hs1 hq
  have HX : Hid (ExAt w g o k1 n1 m1 s1 l1.length c1) := hx1
  have hp := h.lt
  clear hx1 hs1 hq h
  have tb : (ty == 0) = false := beq_eq_false_iff_ne.2 ht
  have tc : (ty != 0) = true := bne_iff_ne.2 ht
  clear ht
  have qi : (at_ : Int) < (qn : Int) := by omega
  have qj : (0 : Int) ≤ (at_ : Int) := by omega
  have np : ¬ p = w.heap.size := by omega
  have ng : ¬ gq = w.heap.size := by omega

  unfold smV
  go_enter Try.func88, Try.ntmps88
  go_wp2_with fail
  go_quiet (fail)
  obtain ⟨W, hW⟩ : ∃ W, W = (w.alloc (.cells #[.int .i64 7, .string ⟨n.toArray⟩, .string ⟨q.toArray⟩, .int .i64 num, .slice (some ⟨g, o, none⟩) 1 ec, .slice ba bn bc, .slice la ln lc] 33)).drewN nq := ⟨_, rfl⟩
  rw [← hW]
  have B1 : Hid (Below w.heap.size w W) := by rw [hW]; exact below_drewN (box_below w _) nq
  have d4 : W.cell? ⟨w.heap.size, 4, none⟩ = some (.slice (some ⟨g, o, none⟩) 1 ec) := by rw [hW]; simp [go_sem]
  have z1 : w.heap.size < W.heap.size := by rw [hW]; simp
  clear hW q2 q3 qt ql qg qi qj
  go_wp2_with fail
  refine Calls.mono (ckMust_yes _ _) ?_
  rintro e2 w2 ⟨rfl, rfl⟩
  go_wp2_with fail
  have y := HX.out.later B1.out
  obtain ⟨y0, y1, y2, y3, yz⟩ := y
  refine wp_loop_rounds 2 ?_
  rw [rounds_succ]
  go_wp2_with fail
  go_region_with (first
    | (go_at_call 44; refine Calls.mono (E1.out _ (Below.trans B1.out (Below.mono (by go_grown) B1.out.size))) ?_; rintro ew5 w5 ⟨rfl, bw5⟩; have B5 : Hid (Below w.heap.size w w5) := Below.trans (Below.trans B1.out (Below.mono (by go_grown) B1.out.size)) (bw5.mono (Nat.le_trans B1.out.size (by go_size))); clear bw5))
  all_goals
    go_wp2_with fail
    rw [rounds_succ]
    go_wp2_with fail
    go_end0
    exact ⟨rfl, B5.out⟩
set_option maxRecDepth 100000 in
set_option maxHeartbeats 2000000 in
theorem ckAns_x_no (A : Nat → Prop) (p : Nat) (va : Option Addr) (vc : Nat) (vs : List CkVa) (mk : Int) (w : World) (h : Sco w p va vc vs mk) (gq oq qn qc at_ : Nat) (ty : Int) (q2 : w.cell? ⟨p, 2, none⟩ = some (.slice (some ⟨gq, oq, none⟩) qn qc)) (q3 : w.cell? ⟨p, 3, none⟩ = some (.int .i64 (at_ : Int))) (qt : w.cell? ⟨gq, oq + at_ * 4 + 2, none⟩ = some (.int .i64 ty)) (ql : at_ < qn) (qg : gq < w.heap.size) (n q : List UInt8) (num : Int) (ba : Option Addr) (bn bc : Nat) (la : Option Addr) (ln lc : Nat) (g o ec : Nat) (k1 : Int) (n1 : List UInt8) (m1 : Int) (s1 : Option Addr) (c1 : Nat) (l1 : List Sx.Ex) (hx1 : ExAt w g o k1 n1 m1 s1 l1.length c1) (hs1 : ExS A w (.slice s1 l1.length c1) l1) (ht : ¬ ty = 0) (er : Int) (hq : ckTd (ckTy vs mk (.mk k1 n1 m1 l1)) ty = some er) : Calls Try.prog 88 #[.pointer (some ⟨p, 0, none⟩), smV 7 n q num (some ⟨g, o, none⟩) 1 ec ba bn bc la ln lc] w fun en w' => en = ckPan er ∧ Below w.heap.size w w' := by
  have E1 : Hid (∀ W, Below w.heap.size w W → Calls Try.prog 44 #[.pointer (some ⟨p, 0, none⟩), .agg #[.int .i64 k1, .string ⟨n1.toArray⟩, .int .i64 m1, .slice s1 l1.length c1], .int .i64 ty] W fun e w' => e = ckPan er ∧ Below W.heap.size W w') := ckTyped_is h hs1 hq
  have HX : Hid (ExAt w g o k1 n1 m1 s1 l1.length c1) := hx1
  have hp := h.lt
  clear hx1 hs1 hq h
  have tb : (ty == 0) = false := beq_eq_false_iff_ne.2 ht
  have tc : (ty != 0) = true := bne_iff_ne.2 ht
  clear ht
  have qi : (at_ : Int) < (qn : Int) := by omega
  have qj : (0 : Int) ≤ (at_ : Int) := by omega
  have np : ¬ p = w.heap.size := by omega
  have ng : ¬ gq = w.heap.size := by omega

  unfold smV
  go_enter Try.func88, Try.ntmps88
  go_wp2_with fail
  go_quiet (fail)
  obtain ⟨W, hW⟩ : ∃ W, W = (w.alloc (.cells #[.int .i64 7, .string ⟨n.toArray⟩, .string ⟨q.toArray⟩, .int .i64 num, .slice (some ⟨g, o, none⟩) 1 ec, .slice ba bn bc, .slice la ln lc] 33)).drewN nq := ⟨_, rfl⟩
  rw [← hW]
  have B1 : Hid (Below w.heap.size w W) := by rw [hW]; exact below_drewN (box_below w _) nq
  have d4 : W.cell? ⟨w.heap.size, 4, none⟩ = some (.slice (some ⟨g, o, none⟩) 1 ec) := by rw [hW]; simp [go_sem]
  have z1 : w.heap.size < W.heap.size := by rw [hW]; simp
  clear hW q2 q3 qt ql qg qi qj
  go_wp2_with fail
  refine Calls.mono (ckMust_yes _ _) ?_
  rintro e2 w2 ⟨rfl, rfl⟩
  go_wp2_with fail
  have y := HX.out.later B1.out
  obtain ⟨y0, y1, y2, y3, yz⟩ := y
  refine wp_loop_rounds 2 ?_
  rw [rounds_succ]
  go_wp2_with fail
  go_region_with (first
    | (go_at_call 44; refine shutWay (E1.out _ (Below.trans B1.out (Below.mono (by go_grown) B1.out.size))) ?_ (.tuple #[]) ?_; (rintro e9 w9 ⟨rfl, b9⟩; exact ⟨rfl, rfl, Below.trans (Below.trans B1.out (Below.mono (by go_grown) B1.out.size)) (b9.mono (Nat.le_trans B1.out.size (by go_size)))⟩); intro hF; have hz1 : ∀ (W : World) (q : Addr), W.frozen? q = false := fun _ _ => hF.out _; have hz2 : ∀ (W : World) (q : Addr), W.cell? q = some (.int .i64 0) := fun _ _ => hF.out _))
  all_goals exact hF.out _
end Go.Proofs.Ytobiedmmjiedlaa
