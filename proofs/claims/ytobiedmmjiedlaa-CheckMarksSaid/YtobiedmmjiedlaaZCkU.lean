/- Layer 4: the program's checker of statements, all. -/
/- Layer 4: a procedure's variables, plain: those that are declared, by their blocks. -/
/- Layer 4: the checker in memory, whole; its block. -/
/- Layer 4: the declarer in memory; declared. -/
import Derived.Test.YtobiedmmjiedlaaZCkZa
import Derived.Test.YtobiedmmjiedlaaZCkZb
import Derived.Test.YtobiedmmjiedlaaZCkZc
import Derived.Test.YtobiedmmjiedlaaZCkZe
import Derived.Test.YtobiedmmjiedlaaZCkG
namespace Go.Proofs.Ytobiedmmjiedlaa
open Go.RowKit

set_option maxRecDepth 100000 in
set_option maxHeartbeats 2000000 in
theorem ckStmt_call_ok (p : Nat) (w : World) (ea : Option Addr) (en ec : Nat) (n q : List UInt8) (num : Int) (ba : Option Addr) (bn bc : Nat) (la : Option Addr) (ln lc : Nat) (hf : ckFm 6 num en bn ln = true) (hc : ∀ W, Below w.heap.size w W → Calls Try.prog 87 #[.pointer (some ⟨p, 0, none⟩), .agg #[.int .i64 (6), .string ⟨n.toArray⟩, .string ⟨q.toArray⟩, .int .i64 num, .slice ea en ec, .slice ba bn bc, .slice la ln lc]] W fun e w' => e = .returned (.tuple #[]) ∧ Below W.heap.size W w') : Calls Try.prog 78 #[.pointer (some ⟨p, 0, none⟩), smV 6 n q num ea en ec ba bn bc la ln lc] w fun en w' => en = .returned (.tuple #[]) ∧ Below w.heap.size w w' := by
  have E1 : Hid _ := hc
  clear hc
  have EF : Hid (∀ W, Calls Try.prog 86 #[.agg #[.int .i64 (6), .string ⟨n.toArray⟩, .string ⟨q.toArray⟩, .int .i64 num, .slice ea en ec, .slice ba bn bc, .slice la ln lc]] W fun e w' => e = .returned (.bool true) ∧ Below W.heap.size W w') := fun W => by have := ckFm_any (6) en bn ln n q num ea ec ba bc la lc W; rw [hf] at this; exact this
  clear hf
  unfold smV
  go_enter Try.func78, Try.ntmps78
  go_wp2_with fail
  refine Calls.mono (EF.out _) ?_
  rintro e1 w1 ⟨rfl, b1⟩
  have B1 : Hid (Below w.heap.size w w1) := Below.trans (by go_grown) (b1.mono (by go_size))
  have z1 : w.heap.size < w1.heap.size := Nat.lt_of_lt_of_le (by simp) b1.size
  have d0 : w1.cell? ⟨w.heap.size, 0, none⟩ = some (.int .i64 (6)) := (b1.cell (p := ⟨w.heap.size, 0, none⟩) (by simp)).trans (by simp [go_sem])
  have d1 : w1.cell? ⟨w.heap.size, 1, none⟩ = some (.string ⟨n.toArray⟩) := (b1.cell (p := ⟨w.heap.size, 1, none⟩) (by simp)).trans (by simp [go_sem])
  have d2 : w1.cell? ⟨w.heap.size, 2, none⟩ = some (.string ⟨q.toArray⟩) := (b1.cell (p := ⟨w.heap.size, 2, none⟩) (by simp)).trans (by simp [go_sem])
  have d3 : w1.cell? ⟨w.heap.size, 3, none⟩ = some (.int .i64 num) := (b1.cell (p := ⟨w.heap.size, 3, none⟩) (by simp)).trans (by simp [go_sem])
  have d4 : w1.cell? ⟨w.heap.size, 4, none⟩ = some (.slice ea en ec) := (b1.cell (p := ⟨w.heap.size, 4, none⟩) (by simp)).trans (by simp [go_sem])
  have d5 : w1.cell? ⟨w.heap.size, 5, none⟩ = some (.slice ba bn bc) := (b1.cell (p := ⟨w.heap.size, 5, none⟩) (by simp)).trans (by simp [go_sem])
  have d6 : w1.cell? ⟨w.heap.size, 6, none⟩ = some (.slice la ln lc) := (b1.cell (p := ⟨w.heap.size, 6, none⟩) (by simp)).trans (by simp [go_sem])
  clear b1 EF
  go_wp2_with fail
  refine Calls.mono (ckMust_yes _ _) ?_
  rintro e2 w2 ⟨rfl, rfl⟩
  go_wp2_with fail
  refine Calls.mono (E1.out _ B1.out) ?_
  rintro e3 w3 ⟨rfl, b3⟩
  have B3 : Hid (Below w.heap.size w w3) := B1.out.trans (b3.mono B1.out.size)
  clear b3
  go_wp2_with fail
  go_end0
  exact ⟨rfl, B3.out⟩
set_option maxRecDepth 100000 in
set_option maxHeartbeats 2000000 in
theorem ckStmt_call_no (p : Nat) (w : World) (ea : Option Addr) (en ec : Nat) (n q : List UInt8) (num : Int) (ba : Option Addr) (bn bc : Nat) (la : Option Addr) (ln lc : Nat) (hf : ckFm 6 num en bn ln = true) (er : Int) (hc : ∀ W, Below w.heap.size w W → Calls Try.prog 87 #[.pointer (some ⟨p, 0, none⟩), .agg #[.int .i64 (6), .string ⟨n.toArray⟩, .string ⟨q.toArray⟩, .int .i64 num, .slice ea en ec, .slice ba bn bc, .slice la ln lc]] W fun e w' => e = ckPan er ∧ Below W.heap.size W w') : Calls Try.prog 78 #[.pointer (some ⟨p, 0, none⟩), smV 6 n q num ea en ec ba bn bc la ln lc] w fun en w' => en = ckPan er ∧ Below w.heap.size w w' := by
  have E1 : Hid _ := hc
  clear hc
  have EF : Hid (∀ W, Calls Try.prog 86 #[.agg #[.int .i64 (6), .string ⟨n.toArray⟩, .string ⟨q.toArray⟩, .int .i64 num, .slice ea en ec, .slice ba bn bc, .slice la ln lc]] W fun e w' => e = .returned (.bool true) ∧ Below W.heap.size W w') := fun W => by have := ckFm_any (6) en bn ln n q num ea ec ba bc la lc W; rw [hf] at this; exact this
  clear hf
  unfold smV
  go_enter Try.func78, Try.ntmps78
  go_wp2_with fail
  refine Calls.mono (EF.out _) ?_
  rintro e1 w1 ⟨rfl, b1⟩
  have B1 : Hid (Below w.heap.size w w1) := Below.trans (by go_grown) (b1.mono (by go_size))
  have z1 : w.heap.size < w1.heap.size := Nat.lt_of_lt_of_le (by simp) b1.size
  have d0 : w1.cell? ⟨w.heap.size, 0, none⟩ = some (.int .i64 (6)) := (b1.cell (p := ⟨w.heap.size, 0, none⟩) (by simp)).trans (by simp [go_sem])
  have d1 : w1.cell? ⟨w.heap.size, 1, none⟩ = some (.string ⟨n.toArray⟩) := (b1.cell (p := ⟨w.heap.size, 1, none⟩) (by simp)).trans (by simp [go_sem])
  have d2 : w1.cell? ⟨w.heap.size, 2, none⟩ = some (.string ⟨q.toArray⟩) := (b1.cell (p := ⟨w.heap.size, 2, none⟩) (by simp)).trans (by simp [go_sem])
  have d3 : w1.cell? ⟨w.heap.size, 3, none⟩ = some (.int .i64 num) := (b1.cell (p := ⟨w.heap.size, 3, none⟩) (by simp)).trans (by simp [go_sem])
  have d4 : w1.cell? ⟨w.heap.size, 4, none⟩ = some (.slice ea en ec) := (b1.cell (p := ⟨w.heap.size, 4, none⟩) (by simp)).trans (by simp [go_sem])
  have d5 : w1.cell? ⟨w.heap.size, 5, none⟩ = some (.slice ba bn bc) := (b1.cell (p := ⟨w.heap.size, 5, none⟩) (by simp)).trans (by simp [go_sem])
  have d6 : w1.cell? ⟨w.heap.size, 6, none⟩ = some (.slice la ln lc) := (b1.cell (p := ⟨w.heap.size, 6, none⟩) (by simp)).trans (by simp [go_sem])
  clear b1 EF
  go_wp2_with fail
  refine Calls.mono (ckMust_yes _ _) ?_
  rintro e2 w2 ⟨rfl, rfl⟩
  go_wp2_with fail
  refine Calls.mono (E1.out _ B1.out) ?_
  rintro e3 w3 ⟨rfl, b3⟩
  have B3 : Hid (Below w.heap.size w w3) := B1.out.trans (b3.mono B1.out.size)
  clear b3
  unfold ckPan
  go_wp2_with fail
  exact ⟨rfl, rfl, B3.out⟩
set_option maxRecDepth 100000 in
set_option maxHeartbeats 2000000 in
theorem ckStmt_ret_ok (p : Nat) (w : World) (ea : Option Addr) (en ec : Nat) (n q : List UInt8) (num : Int) (ba : Option Addr) (bn bc : Nat) (la : Option Addr) (ln lc : Nat) (hf : ckFm 7 num en bn ln = true) (hc : ∀ W, Below w.heap.size w W → Calls Try.prog 88 #[.pointer (some ⟨p, 0, none⟩), .agg #[.int .i64 (7), .string ⟨n.toArray⟩, .string ⟨q.toArray⟩, .int .i64 num, .slice ea en ec, .slice ba bn bc, .slice la ln lc]] W fun e w' => e = .returned (.tuple #[]) ∧ Below W.heap.size W w') : Calls Try.prog 78 #[.pointer (some ⟨p, 0, none⟩), smV 7 n q num ea en ec ba bn bc la ln lc] w fun en w' => en = .returned (.tuple #[]) ∧ Below w.heap.size w w' := by
  have E1 : Hid _ := hc
  clear hc
  have EF : Hid (∀ W, Calls Try.prog 86 #[.agg #[.int .i64 (7), .string ⟨n.toArray⟩, .string ⟨q.toArray⟩, .int .i64 num, .slice ea en ec, .slice ba bn bc, .slice la ln lc]] W fun e w' => e = .returned (.bool true) ∧ Below W.heap.size W w') := fun W => by have := ckFm_any (7) en bn ln n q num ea ec ba bc la lc W; rw [hf] at this; exact this
  clear hf
  unfold smV
  go_enter Try.func78, Try.ntmps78
  go_wp2_with fail
  refine Calls.mono (EF.out _) ?_
  rintro e1 w1 ⟨rfl, b1⟩
  have B1 : Hid (Below w.heap.size w w1) := Below.trans (by go_grown) (b1.mono (by go_size))
  have z1 : w.heap.size < w1.heap.size := Nat.lt_of_lt_of_le (by simp) b1.size
  have d0 : w1.cell? ⟨w.heap.size, 0, none⟩ = some (.int .i64 (7)) := (b1.cell (p := ⟨w.heap.size, 0, none⟩) (by simp)).trans (by simp [go_sem])
  have d1 : w1.cell? ⟨w.heap.size, 1, none⟩ = some (.string ⟨n.toArray⟩) := (b1.cell (p := ⟨w.heap.size, 1, none⟩) (by simp)).trans (by simp [go_sem])
  have d2 : w1.cell? ⟨w.heap.size, 2, none⟩ = some (.string ⟨q.toArray⟩) := (b1.cell (p := ⟨w.heap.size, 2, none⟩) (by simp)).trans (by simp [go_sem])
  have d3 : w1.cell? ⟨w.heap.size, 3, none⟩ = some (.int .i64 num) := (b1.cell (p := ⟨w.heap.size, 3, none⟩) (by simp)).trans (by simp [go_sem])
  have d4 : w1.cell? ⟨w.heap.size, 4, none⟩ = some (.slice ea en ec) := (b1.cell (p := ⟨w.heap.size, 4, none⟩) (by simp)).trans (by simp [go_sem])
  have d5 : w1.cell? ⟨w.heap.size, 5, none⟩ = some (.slice ba bn bc) := (b1.cell (p := ⟨w.heap.size, 5, none⟩) (by simp)).trans (by simp [go_sem])
  have d6 : w1.cell? ⟨w.heap.size, 6, none⟩ = some (.slice la ln lc) := (b1.cell (p := ⟨w.heap.size, 6, none⟩) (by simp)).trans (by simp [go_sem])
  clear b1 EF
  go_wp2_with fail
  refine Calls.mono (ckMust_yes _ _) ?_
  rintro e2 w2 ⟨rfl, rfl⟩
  go_wp2_with fail
  refine Calls.mono (E1.out _ B1.out) ?_
  rintro e3 w3 ⟨rfl, b3⟩
  have B3 : Hid (Below w.heap.size w w3) := B1.out.trans (b3.mono B1.out.size)
  clear b3
  go_wp2_with fail
  go_end0
  exact ⟨rfl, B3.out⟩
set_option maxRecDepth 100000 in
set_option maxHeartbeats 2000000 in
theorem ckStmt_ret_no (p : Nat) (w : World) (ea : Option Addr) (en ec : Nat) (n q : List UInt8) (num : Int) (ba : Option Addr) (bn bc : Nat) (la : Option Addr) (ln lc : Nat) (hf : ckFm 7 num en bn ln = true) (er : Int) (hc : ∀ W, Below w.heap.size w W → Calls Try.prog 88 #[.pointer (some ⟨p, 0, none⟩), .agg #[.int .i64 (7), .string ⟨n.toArray⟩, .string ⟨q.toArray⟩, .int .i64 num, .slice ea en ec, .slice ba bn bc, .slice la ln lc]] W fun e w' => e = ckPan er ∧ Below W.heap.size W w') : Calls Try.prog 78 #[.pointer (some ⟨p, 0, none⟩), smV 7 n q num ea en ec ba bn bc la ln lc] w fun en w' => en = ckPan er ∧ Below w.heap.size w w' := by
  have E1 : Hid _ := hc
  clear hc
  have EF : Hid (∀ W, Calls Try.prog 86 #[.agg #[.int .i64 (7), .string ⟨n.toArray⟩, .string ⟨q.toArray⟩, .int .i64 num, .slice ea en ec, .slice ba bn bc, .slice la ln lc]] W fun e w' => e = .returned (.bool true) ∧ Below W.heap.size W w') := fun W => by have := ckFm_any (7) en bn ln n q num ea ec ba bc la lc W; rw [hf] at this; exact this
  clear hf
  unfold smV
  go_enter Try.func78, Try.ntmps78
  go_wp2_with fail
  refine Calls.mono (EF.out _) ?_
  rintro e1 w1 ⟨rfl, b1⟩
  have B1 : Hid (Below w.heap.size w w1) := Below.trans (by go_grown) (b1.mono (by go_size))
  have z1 : w.heap.size < w1.heap.size := Nat.lt_of_lt_of_le (by simp) b1.size
  have d0 : w1.cell? ⟨w.heap.size, 0, none⟩ = some (.int .i64 (7)) := (b1.cell (p := ⟨w.heap.size, 0, none⟩) (by simp)).trans (by simp [go_sem])
  have d1 : w1.cell? ⟨w.heap.size, 1, none⟩ = some (.string ⟨n.toArray⟩) := (b1.cell (p := ⟨w.heap.size, 1, none⟩) (by simp)).trans (by simp [go_sem])
  have d2 : w1.cell? ⟨w.heap.size, 2, none⟩ = some (.string ⟨q.toArray⟩) := (b1.cell (p := ⟨w.heap.size, 2, none⟩) (by simp)).trans (by simp [go_sem])
  have d3 : w1.cell? ⟨w.heap.size, 3, none⟩ = some (.int .i64 num) := (b1.cell (p := ⟨w.heap.size, 3, none⟩) (by simp)).trans (by simp [go_sem])
  have d4 : w1.cell? ⟨w.heap.size, 4, none⟩ = some (.slice ea en ec) := (b1.cell (p := ⟨w.heap.size, 4, none⟩) (by simp)).trans (by simp [go_sem])
  have d5 : w1.cell? ⟨w.heap.size, 5, none⟩ = some (.slice ba bn bc) := (b1.cell (p := ⟨w.heap.size, 5, none⟩) (by simp)).trans (by simp [go_sem])
  have d6 : w1.cell? ⟨w.heap.size, 6, none⟩ = some (.slice la ln lc) := (b1.cell (p := ⟨w.heap.size, 6, none⟩) (by simp)).trans (by simp [go_sem])
  clear b1 EF
  go_wp2_with fail
  refine Calls.mono (ckMust_yes _ _) ?_
  rintro e2 w2 ⟨rfl, rfl⟩
  go_wp2_with fail
  refine Calls.mono (E1.out _ B1.out) ?_
  rintro e3 w3 ⟨rfl, b3⟩
  have B3 : Hid (Below w.heap.size w w3) := B1.out.trans (b3.mono B1.out.size)
  clear b3
  unfold ckPan
  go_wp2_with fail
  exact ⟨rfl, rfl, B3.out⟩
theorem ckFm_len {k num : Int} {en bn ln : Nat} (h : ckFm k num en bn ln = true) : (k = 1 ∨ k = 2 ∨ k = 3 ∨ k = 4 ∨ k = 5 ∨ k = 6 ∨ k = 7 ∨ k = 8 ∨ k = 9 ∨ k = 10) ∧ (k = 2 ∨ k = 4 ∨ k = 5 ∨ k = 8 ∨ k = 10 → en = 1) ∧ (k = 3 → en = 2) ∧ (k = 7 → en ≤ 1) := by
  unfold ckFm at h
  by_cases h4 : k = 4
  · subst h4
    simp at h
    omega
  rw [if_neg h4] at h
  by_cases h5 : k = 5
  · subst h5
    simp at h
    omega
  rw [if_neg h5] at h
  simp only [Bool.and_eq_true] at h
  have hp := h.2.2
  clear h
  unfold ckPf at hp
  by_cases h1 : k = 1
  · omega
  rw [if_neg h1] at hp
  by_cases h9 : k = 9
  · omega
  rw [if_neg h9] at hp
  by_cases h2 : k = 2
  · rw [if_pos h2] at hp; have := beq_iff_eq.1 hp; omega
  rw [if_neg h2] at hp
  by_cases h8 : k = 8
  · rw [if_pos h8] at hp; have := beq_iff_eq.1 hp; omega
  rw [if_neg h8] at hp
  by_cases h10 : k = 10
  · rw [if_pos h10] at hp; have := beq_iff_eq.1 hp; omega
  rw [if_neg h10] at hp
  by_cases h3 : k = 3
  · rw [if_pos h3] at hp; have := beq_iff_eq.1 hp; omega
  rw [if_neg h3] at hp
  by_cases h7 : k = 7
  · rw [if_pos h7] at hp; have := of_decide_eq_true hp; omega
  rw [if_neg h7] at hp
  have := beq_iff_eq.1 hp
  omega
theorem one_of {l : List Sx.Ex} (h : l.length = 1) : ∃ x, l = [x] := by
  match l, h with
  | [x], _ => exact ⟨x, rfl⟩
theorem two_of {l : List Sx.Ex} (h : l.length = 2) : ∃ x y, l = [x, y] := by
  match l, h with
  | [x, y], _ => exact ⟨x, y, rfl⟩
theorem ckOne {A : Nat → Prop} {w : World} {sa : Option Addr} {sc : Nat} {x : Sx.Ex} (h : ExS A w (.slice sa [x].length sc) [x]) : ∃ g o k n m s1 c1 ll, sa = some ⟨g, o, none⟩ ∧ x = .mk k n m ll ∧ ExAt w g o k n m s1 ll.length c1 ∧ ExS A w (.slice s1 ll.length c1) ll := by
  obtain ⟨g, o, k, n, m, s1, c1, ll, e, el, h1, h2⟩ := ckPart h 0 (by simp)
  exact ⟨g, o, k, n, m, s1, c1, ll, e, by simpa using el, by simpa using h1, h2⟩
theorem ckTwo {A : Nat → Prop} {w : World} {sa : Option Addr} {sc : Nat} {x y : Sx.Ex} (h : ExS A w (.slice sa [x, y].length sc) [x, y]) : ∃ g o k n m s1 c1 ll k' n' m' s1' c1' ll', sa = some ⟨g, o, none⟩ ∧ x = .mk k n m ll ∧ ExAt w g o k n m s1 ll.length c1 ∧ ExS A w (.slice s1 ll.length c1) ll ∧ y = .mk k' n' m' ll' ∧ ExAt w g (o + 4) k' n' m' s1' ll'.length c1' ∧ ExS A w (.slice s1' ll'.length c1') ll' := by
  obtain ⟨g, o, k, n, m, s1, c1, ll, e, el, h1, h2⟩ := ckPart h 0 (by simp)
  obtain ⟨g', o', k', n', m', s1', c1', ll', e', el', h1', h2'⟩ := ckPart h 1 (by simp)
  rw [e] at e'
  cases e'
  exact ⟨g, o, k, n, m, s1, c1, ll, k', n', m', s1', c1', ll', e, by simpa using el, by simpa using h1, h2, by simpa using el', by simpa using h1', h2'⟩
/-- Where a procedure's type lies. -/
theorem Ckr.ty {A : Nat → Prop} {w : World} {p : Nat} {va : Option Addr} {vc : Nat} {vs : List CkVa} {m : Int} {qa : Option Addr} {qc : Nat} {ps : List Sy.Pc} {at_ : Nat} (h : Ckr A w p va vc vs m qa qc ps at_) {y : Sy.Pc} (hy : ps[at_]? = some y) : ∃ gq oq, qa = some ⟨gq, oq, none⟩ ∧ w.cell? ⟨gq, oq + at_ * 4 + 2, none⟩ = some (.int .i64 y.type) ∧ at_ < ps.length ∧ gq < w.heap.size := by
  have hl := (List.getElem?_eq_some_iff.1 hy).1
  obtain ⟨g, o, x, pa, pc, ba, bc, e, ha, hg, el, a4⟩ := h.pr.part at_ hl
  rw [hy] at el
  cases el
  exact ⟨g, o, e, a4.c2, hl, hg⟩
theorem ckCong {P : Program} {n : FuncId} {args : Array Value} {w : World} {a b : Ending} (h : Calls P n args w fun e w' => e = a ∧ Below w.heap.size w w') (e : b = a) : Calls P n args w fun e w' => e = b ∧ Below w.heap.size w w' := by rw [e]; exact h
set_option maxRecDepth 100000 in
set_option maxHeartbeats 2000000 in
/-- stmt of every statement. -/
theorem ckStmt_any (A : Nat → Prop) (p : Nat) (va : Option Addr) (vc : Nat) (vs : List CkVa) (mk : Int) (qa : Option Addr) (qc : Nat) (ps : List Sy.Pc) (at_ : Nat) (w : World) (h : Ckr A w p va vc vs mk qa qc ps at_) (y : Sy.Pc) (hy : ps[at_]? = some y) (k : Int) (n q : List UInt8) (num : Int) (e : List Sx.Ex) (b l : List Sy.St) (hl : e.length ≤ 1000000000000000) (ea : Option Addr) (ec : Nat) (hs : ExS A w (.slice ea e.length ec) e) (ba : Option Addr) (bc : Nat) (la : Option Addr) (lc : Nat) :
    Calls Try.prog 78 #[.pointer (some ⟨p, 0, none⟩), smV k n q num ea e.length ec ba b.length bc la l.length lc] w fun en w' => en = ckEndU (ckStm vs mk ps y.type (.mk k n q num e b l)) ∧ Below w.heap.size w w' := by
  cases hf : ckFm k num e.length b.length l.length with
  | false => exact ckCong (ckStmt_form p w ea e.length ec n q num ba b.length bc la l.length lc k hf) (by rw [ckStm, if_pos hf]; rfl)
  | true =>
    have hf' : ¬ ckFm k num e.length b.length l.length = false := by rw [hf]; simp
    obtain ⟨hk, h1, h3, h7⟩ := ckFm_len hf
    rcases hk with rfl | rfl | rfl | rfl | rfl | rfl | rfl | rfl | rfl | rfl
    · by_cases hn : num ≤ 64
      · exact ckCong (ckStmt_var_ok p w ea e.length ec n q num ba b.length bc la l.length lc hf hn) (by rw [ckStm, if_neg hf', if_pos rfl, if_pos hn]; rfl)
      · exact ckCong (ckStmt_var_no p w ea e.length ec n q num ba b.length bc la l.length lc hf hn) (by rw [ckStm, if_neg hf', if_pos rfl, if_neg hn]; rfl)
    · obtain ⟨x, rfl⟩ := one_of (h1 (by simp))
      obtain ⟨g, o, k1, n1, m1, s1, c1, l1, rfl, rfl, hx, hs1⟩ := ckOne hs
      have E : ckStm vs mk ps y.type (.mk 2 n q num [.mk k1 n1 m1 l1] b l) = (match ckSi vs n mk with | .error er => some er | .ok t => ckTd (ckTy vs mk (.mk k1 n1 m1 l1)) t) := by rw [ckStm, if_neg hf']; rfl
      cases hr : ckSi vs n mk with
      | error er => exact ckCong (ckStmt_set_err A p va vc vs mk w h.s n q num ba b.length bc la l.length lc g o ec k1 n1 m1 s1 c1 l1 hx hs1 hf er hr) (by rw [E, hr]; rfl)
      | ok t =>
        cases hq : ckTd (ckTy vs mk (.mk k1 n1 m1 l1)) t with
        | none => exact ckCong (ckStmt_set_ok A p va vc vs mk w h.s n q num ba b.length bc la l.length lc g o ec k1 n1 m1 s1 c1 l1 hx hs1 hf t hr hq) (by rw [E, hr]; simp only [hq]; rfl)
        | some er => exact ckCong (ckStmt_set_no A p va vc vs mk w h.s n q num ba b.length bc la l.length lc g o ec k1 n1 m1 s1 c1 l1 hx hs1 hf t hr er hq) (by rw [E, hr]; simp only [hq]; rfl)
    · obtain ⟨x, z, rfl⟩ := two_of (h3 rfl)
      obtain ⟨g, o, k1, n1, m1, s1, c1, l1, k2, n2, m2, s2, c2, l2, rfl, rfl, hx, hs1, rfl, hx2, hs2⟩ := ckTwo hs
      have E : ckStm vs mk ps y.type (.mk 3 n q num [.mk k1 n1 m1 l1, .mk k2 n2 m2 l2] b l) = (match ckAr vs n mk with | some er => some er | none => match ckTd (ckTy vs mk (.mk k1 n1 m1 l1)) 1 with | some er => some er | none => ckTd (ckTy vs mk (.mk k2 n2 m2 l2)) 1) := by rw [ckStm, if_neg hf']; rfl
      cases hr : ckAr vs n mk with
      | some er => exact ckCong (ckStmt_put_err A p va vc vs mk w h.s n q num ba b.length bc la l.length lc g o ec k1 n1 m1 s1 c1 l1 hx hs1 k2 n2 m2 s2 c2 l2 hx2 hs2 hf er hr) (by rw [E, hr]; rfl)
      | none =>
        cases hq : ckTd (ckTy vs mk (.mk k1 n1 m1 l1)) 1 with
        | some er => exact ckCong (ckStmt_put_no0 A p va vc vs mk w h.s n q num ba b.length bc la l.length lc g o ec k1 n1 m1 s1 c1 l1 hx hs1 k2 n2 m2 s2 c2 l2 hx2 hs2 hf hr er hq) (by rw [E, hr]; simp only [hq]; rfl)
        | none =>
          cases hz : ckTd (ckTy vs mk (.mk k2 n2 m2 l2)) 1 with
          | none => exact ckCong (ckStmt_put_ok A p va vc vs mk w h.s n q num ba b.length bc la l.length lc g o ec k1 n1 m1 s1 c1 l1 hx hs1 k2 n2 m2 s2 c2 l2 hx2 hs2 hf hr hq hz) (by rw [E, hr]; simp only [hq, hz]; rfl)
          | some er => exact ckCong (ckStmt_put_no1 A p va vc vs mk w h.s n q num ba b.length bc la l.length lc g o ec k1 n1 m1 s1 c1 l1 hx hs1 k2 n2 m2 s2 c2 l2 hx2 hs2 hf hr hq er hz) (by rw [E, hr]; simp only [hq, hz]; rfl)
    · obtain ⟨x, rfl⟩ := one_of (h1 (by simp))
      obtain ⟨g, o, k1, n1, m1, s1, c1, l1, rfl, rfl, hx, hs1⟩ := ckOne hs
      have E : ckStm vs mk ps y.type (.mk 4 n q num [.mk k1 n1 m1 l1] b l) = ckTd (ckTy vs mk (.mk k1 n1 m1 l1)) 2 := by rw [ckStm, if_neg hf']; rfl
      cases hr : ckTd (ckTy vs mk (.mk k1 n1 m1 l1)) 2 with
      | none => exact ckCong (ckStmt_t4_ok A p va vc vs mk w h.s n q num ba b.length bc la l.length lc g o ec k1 n1 m1 s1 c1 l1 hx hs1 hf hr) (by rw [E, hr]; rfl)
      | some er => exact ckCong (ckStmt_t4_no A p va vc vs mk w h.s n q num ba b.length bc la l.length lc g o ec k1 n1 m1 s1 c1 l1 hx hs1 hf er hr) (by rw [E, hr]; rfl)
    · obtain ⟨x, rfl⟩ := one_of (h1 (by simp))
      obtain ⟨g, o, k1, n1, m1, s1, c1, l1, rfl, rfl, hx, hs1⟩ := ckOne hs
      have E : ckStm vs mk ps y.type (.mk 5 n q num [.mk k1 n1 m1 l1] b l) = ckTd (ckTy vs mk (.mk k1 n1 m1 l1)) 2 := by rw [ckStm, if_neg hf']; rfl
      cases hr : ckTd (ckTy vs mk (.mk k1 n1 m1 l1)) 2 with
      | none => exact ckCong (ckStmt_t5_ok A p va vc vs mk w h.s n q num ba b.length bc la l.length lc g o ec k1 n1 m1 s1 c1 l1 hx hs1 hf hr) (by rw [E, hr]; rfl)
      | some er => exact ckCong (ckStmt_t5_no A p va vc vs mk w h.s n q num ba b.length bc la l.length lc g o ec k1 n1 m1 s1 c1 l1 hx hs1 hf er hr) (by rw [E, hr]; rfl)
    · cases hr : ckCal vs mk ps n q e with
      | none => exact ckCong (ckStmt_call_ok p w ea e.length ec n q num ba b.length bc la l.length lc hf fun W hW => ckCall_any A p va vc vs mk qa qc ps at_ W (h.later hW) e hl ea ec (hs.later hW (Nat.le_refl _)) n q num ba b.length bc la l.length lc _ (by rw [hr]; rfl)) (by rw [ckStm, if_neg hf']; simp only [hr]; rfl)
      | some er => exact ckCong (ckStmt_call_no p w ea e.length ec n q num ba b.length bc la l.length lc hf er fun W hW => ckCall_any A p va vc vs mk qa qc ps at_ W (h.later hW) e hl ea ec (hs.later hW (Nat.le_refl _)) n q num ba b.length bc la l.length lc _ (by rw [hr]; rfl)) (by rw [ckStm, if_neg hf']; simp only [hr]; rfl)
    · obtain ⟨gq, oq, rfl, ct, hat, hgq⟩ := h.ty hy
      have E : ckStm vs mk ps y.type (.mk 7 n q num e b l) = ckAns vs mk y.type e := by rw [ckStm, if_neg hf']; rfl
      match e, h7 rfl, hf, hs, E with
      | [], _, hf, hs, E =>
        by_cases ht : y.type = 0
        · exact ckCong (ckStmt_ret_ok p w ea 0 ec n q num ba b.length bc la l.length lc hf fun W hW => ckAns_e_ok p W (h.later hW).s.lt gq oq ps.length qc at_ y.type (h.later hW).c2 (h.later hW).c3 ((hW.cell (p := ⟨gq, oq + at_ * 4 + 2, none⟩) hgq).trans ct) hat (Nat.lt_of_lt_of_le hgq hW.size) n q num ba b.length bc la l.length lc ea ec ht) (by rw [E, ckAns, if_pos ht]; rfl)
        · exact ckCong (ckStmt_ret_no p w ea 0 ec n q num ba b.length bc la l.length lc hf 41 fun W hW => ckAns_e_no p W (h.later hW).s.lt gq oq ps.length qc at_ y.type (h.later hW).c2 (h.later hW).c3 ((hW.cell (p := ⟨gq, oq + at_ * 4 + 2, none⟩) hgq).trans ct) hat (Nat.lt_of_lt_of_le hgq hW.size) n q num ba b.length bc la l.length lc ea ec ht) (by rw [E, ckAns, if_neg ht]; rfl)
      | [x], _, hf, hs, E =>
        obtain ⟨g, o, k1, n1, m1, s1, c1, l1, rfl, rfl, hx, hs1⟩ := ckOne hs
        by_cases ht : y.type = 0
        · exact ckCong (ckStmt_ret_no p w (some ⟨g, o, none⟩) 1 ec n q num ba b.length bc la l.length lc hf 41 fun W hW => ckAns_x_none p W (h.later hW).s.lt gq oq ps.length qc at_ y.type (h.later hW).c2 (h.later hW).c3 ((hW.cell (p := ⟨gq, oq + at_ * 4 + 2, none⟩) hgq).trans ct) hat (Nat.lt_of_lt_of_le hgq hW.size) n q num ba b.length bc la l.length lc g o ec ht) (by rw [E, ckAns, if_pos ht]; rfl)
        · cases hq : ckTd (ckTy vs mk (.mk k1 n1 m1 l1)) y.type with
          | none => exact ckCong (ckStmt_ret_ok p w (some ⟨g, o, none⟩) 1 ec n q num ba b.length bc la l.length lc hf fun W hW => ckAns_x_ok A p va vc vs mk W (h.later hW).s gq oq ps.length qc at_ y.type (h.later hW).c2 (h.later hW).c3 ((hW.cell (p := ⟨gq, oq + at_ * 4 + 2, none⟩) hgq).trans ct) hat (Nat.lt_of_lt_of_le hgq hW.size) n q num ba b.length bc la l.length lc g o ec k1 n1 m1 s1 c1 l1 (hx.later hW) (hs1.later hW (Nat.le_refl _)) ht hq) (by rw [E, ckAns, if_neg ht, hq]; rfl)
          | some er => exact ckCong (ckStmt_ret_no p w (some ⟨g, o, none⟩) 1 ec n q num ba b.length bc la l.length lc hf er fun W hW => ckAns_x_no A p va vc vs mk W (h.later hW).s gq oq ps.length qc at_ y.type (h.later hW).c2 (h.later hW).c3 ((hW.cell (p := ⟨gq, oq + at_ * 4 + 2, none⟩) hgq).trans ct) hat (Nat.lt_of_lt_of_le hgq hW.size) n q num ba b.length bc la l.length lc g o ec k1 n1 m1 s1 c1 l1 (hx.later hW) (hs1.later hW (Nat.le_refl _)) ht er hq) (by rw [E, ckAns, if_neg ht, hq]; rfl)
    · obtain ⟨x, rfl⟩ := one_of (h1 (by simp))
      obtain ⟨g, o, k1, n1, m1, s1, c1, l1, rfl, rfl, hx, hs1⟩ := ckOne hs
      have E : ckStm vs mk ps y.type (.mk 8 n q num [.mk k1 n1 m1 l1] b l) = (match ckTy vs mk (.mk k1 n1 m1 l1) with | .error er => some er | .ok _ => none) := by rw [ckStm, if_neg hf']; rfl
      cases hr : ckTy vs mk (.mk k1 n1 m1 l1) with
      | error er => exact ckCong (ckStmt_print_no A p va vc vs mk w h.s n q num ba b.length bc la l.length lc g o ec k1 n1 m1 s1 c1 l1 hx hs1 hf er hr) (by rw [E, hr]; rfl)
      | ok t => exact ckCong (ckStmt_print_ok A p va vc vs mk w h.s n q num ba b.length bc la l.length lc g o ec k1 n1 m1 s1 c1 l1 hx hs1 hf t hr) (by rw [E, hr]; rfl)
    · have E : ckStm vs mk ps y.type (.mk 9 n q num e b l) = ckTake vs mk n 1 := by rw [ckStm, if_neg hf']; rfl
      cases hr : ckSi vs n mk with
      | error er => exact ckCong (ckStmt_read_err p va vc vs mk w h.s ea e.length ec n q num ba b.length bc la l.length lc hf er hr) (by rw [E, ckTake, hr]; rfl)
      | ok t =>
        by_cases ht : t = 1
        · subst ht
          exact ckCong (ckStmt_read_ok p va vc vs mk w h.s ea e.length ec n q num ba b.length bc la l.length lc hf hr) (by rw [E, ckTake, hr]; rfl)
        · exact ckCong (ckStmt_read_no p va vc vs mk w h.s ea e.length ec n q num ba b.length bc la l.length lc hf t ht hr) (by rw [E, ckTake, hr]; simp only [ht, if_false]; rfl)
    · obtain ⟨x, rfl⟩ := one_of (h1 (by simp))
      obtain ⟨g, o, k1, n1, m1, s1, c1, l1, rfl, rfl, hx, hs1⟩ := ckOne hs
      have E : ckStm vs mk ps y.type (.mk 10 n q num [.mk k1 n1 m1 l1] b l) = ckTd (ckTy vs mk (.mk k1 n1 m1 l1)) 2 := by rw [ckStm, if_neg hf']; rfl
      cases hr : ckTd (ckTy vs mk (.mk k1 n1 m1 l1)) 2 with
      | none => exact ckCong (ckStmt_t10_ok A p va vc vs mk w h.s n q num ba b.length bc la l.length lc g o ec k1 n1 m1 s1 c1 l1 hx hs1 hf hr) (by rw [E, hr]; rfl)
      | some er => exact ckCong (ckStmt_t10_no A p va vc vs mk w h.s n q num ba b.length bc la l.length lc g o ec k1 n1 m1 s1 c1 l1 hx hs1 hf er hr) (by rw [E, hr]; rfl)
end Go.Proofs.Ytobiedmmjiedlaa

namespace Go.Proofs.Ytobiedmmjiedlaa
open Go.RowKit

/-- What a statement itself declares. -/
def ckDv (k : Int) (n : List UInt8) (num mk tl : Int) : List CkVa := if k = 1 then [⟨n, if num < 0 then 2 else 1, if 0 < num then num else 0, mk + 1, tl⟩] else []
mutual
/-- What is declared by a statement ahead of which m have gone; its block's last mark is tl. -/
def ckD1 : Sy.St → Int → Int → List CkVa
  | .mk k n _ num _ b l, m, tl => ckDv k n num (m + 1) tl ++ (ckDs b (m + 1) (m + 1 + Sy.cts b) ++ ckDs l (m + 1 + Sy.cts b) (m + 1 + Sy.cts b + Sy.cts l))
def ckDs : List Sy.St → Int → Int → List CkVa
  | [], _, _ => []
  | s :: r, m, tl => ckD1 s m tl ++ ckDs r (m + Sy.ct s) tl
end
theorem ckDs_app (tl : Int) : ∀ (a b : List Sy.St) (m : Int), ckDs (a ++ b) m tl = ckDs a m tl ++ ckDs b (m + Sy.cts a) tl
  | [], b, m => by simp [ckDs, Sy.cts]
  | s :: r, b, m => by
    rw [List.cons_append, ckDs, ckDs, ckDs_app tl r b, Sy.cts, List.append_assoc]
    have : m + (Sy.ct s : Int) + (Sy.cts r : Int) = m + ((Sy.ct s + Sy.cts r : Nat) : Int) := by omega
    rw [this]
theorem ckDs_take {l : List Sy.St} {j : Nat} {x : Sy.St} (h : l[j]? = some x) (m tl : Int) : ckDs (l.take (j + 1)) m tl = ckDs (l.take j) m tl ++ ckD1 x (m + Sy.cts (l.take j)) tl := by
  rw [List.take_add_one, h, ckDs_app]
  simp [ckDs]
/-- Where the variables of a block itself stand among all. -/
def ckOw : List Sy.St → Int → Nat → List Nat
  | [], _, _ => []
  | .mk k n p num e b l :: r, m, base => (if k = 1 then [base] else []) ++ ckOw r (m + Sy.ct (.mk k n p num e b l)) (base + (ckD1 (.mk k n p num e b l) m 0).length)
theorem ckOw_app : ∀ (a b : List Sy.St) (m : Int) (base : Nat), ckOw (a ++ b) m base = ckOw a m base ++ ckOw b (m + Sy.cts a) (base + (ckDs a m 0).length)
  | [], b, m, base => by simp [ckOw, ckDs, Sy.cts]
  | .mk k n p num e bb l :: r, b, m, base => by
    rw [List.cons_append, ckOw, ckOw, ckOw_app r b, Sy.cts, ckDs, List.length_append, List.append_assoc]
    have : m + (Sy.ct (.mk k n p num e bb l) : Int) + (Sy.cts r : Int) = m + ((Sy.ct (.mk k n p num e bb l) + Sy.cts r : Nat) : Int) := by omega
    rw [this, Nat.add_assoc]
theorem ckOw_take {l : List Sy.St} {j : Nat} {k num : Int} {n p : List UInt8} {e : List Sx.Ex} {b ll : List Sy.St} (h : l[j]? = some (.mk k n p num e b ll)) (m : Int) (base : Nat) : ckOw (l.take (j + 1)) m base = ckOw (l.take j) m base ++ (if k = 1 then [base + (ckDs (l.take j) m 0).length] else []) := by
  rw [List.take_add_one, h, ckOw_app]
  simp [ckOw]
/-- A variable's scope is closed. -/
def ckTl (tl : Int) (vs : List CkVa) (i : Nat) : List CkVa := vs.set i { vs.getD i ckV0 with tl := tl }
theorem ckTl_len (tl : Int) (vs : List CkVa) (i : Nat) : (ckTl tl vs i).length = vs.length := by simp [ckTl]
theorem ckTls_len (tl : Int) : ∀ (is : List Nat) (vs : List CkVa), (is.foldl (ckTl tl) vs).length = vs.length
  | [], vs => rfl
  | i :: r, vs => by rw [List.foldl_cons, ckTls_len tl r, ckTl_len]
theorem ckD1_len (s : Sy.St) (m tl tl' : Int) : (ckD1 s m tl).length = (ckD1 s m tl').length := by
  cases s with
  | mk k n p num e b l =>
    rw [ckD1, ckD1]
    simp only [List.length_append]
    unfold ckDv
    split <;> rfl
theorem ckTl_mid (tl : Int) (pre post : List CkVa) (x : CkVa) : ckTl tl (pre ++ x :: post) pre.length = pre ++ { x with tl := tl } :: post := by
  unfold ckTl
  rw [List.set_append_right _ _ (Nat.le_refl _), Nat.sub_self, List.set_cons_zero]
  have : (pre ++ x :: post).getD pre.length ckV0 = x := by simp [List.getD]
  rw [this]
theorem ckOw_set (tl : Int) : ∀ (l : List Sy.St) (m : Int) (pre post : List CkVa), (ckOw l m pre.length).foldl (ckTl tl) (pre ++ (ckDs l m 0 ++ post)) = pre ++ (ckDs l m tl ++ post)
  | [], m, pre, post => by simp [ckOw, ckDs]
  | .mk k n p num e b l :: r, m, pre, post => by
    rw [ckOw, ckDs, ckDs, List.foldl_append]
    have key : List.foldl (ckTl tl) (pre ++ (ckD1 (.mk k n p num e b l) m 0 ++ ckDs r (m + Sy.ct (.mk k n p num e b l)) 0 ++ post)) (if k = 1 then [pre.length] else []) = (pre ++ ckD1 (.mk k n p num e b l) m tl) ++ (ckDs r (m + Sy.ct (.mk k n p num e b l)) 0 ++ post) := by
      by_cases hk : k = 1
      · rw [if_pos hk, List.foldl_cons, List.foldl_nil, ckD1, ckD1]
        unfold ckDv
        rw [if_pos hk, if_pos hk]
        simp only [List.cons_append, List.nil_append, List.append_assoc]
        rw [ckTl_mid]
      · rw [if_neg hk, List.foldl_nil, ckD1, ckD1]
        unfold ckDv
        rw [if_neg hk, if_neg hk]
        simp only [List.nil_append, List.append_assoc]
    rw [key]
    have hl : pre.length + (ckD1 (.mk k n p num e b l) m 0).length = (pre ++ ckD1 (.mk k n p num e b l) m tl).length := by rw [List.length_append, ckD1_len _ m 0 tl]
    rw [hl, ckOw_set tl r]
    simp only [List.append_assoc]
theorem ckOw_lt : ∀ (l : List Sy.St) (m : Int) (base : Nat) (i : Nat), i ∈ ckOw l m base → i < base + (ckDs l m 0).length
  | [], m, base, i, h => by simp [ckOw] at h
  | .mk k n p num e b l :: r, m, base, i, h => by
    rw [ckOw, List.mem_append] at h
    rw [ckDs, List.length_append]
    rcases h with h | h
    · by_cases hk : k = 1
      · rw [if_pos hk, List.mem_singleton] at h
        rw [ckD1, List.length_append]
        unfold ckDv
        rw [if_pos hk]
        simp only [List.length_cons, List.length_nil]
        omega
      · rw [if_neg hk] at h
        cases h
    · have := ckOw_lt r _ _ i h
      omega
theorem ckOw_len : ∀ (l : List Sy.St) (m : Int) (base : Nat), (ckOw l m base).length ≤ l.length
  | [], m, base => by simp [ckOw]
  | .mk k n p num e b l :: r, m, base => by
    have := ckOw_len r (m + Sy.ct (.mk k n p num e b l)) (base + (ckD1 (.mk k n p num e b l) m 0).length)
    rw [ckOw, List.length_append, List.length_cons]
    split <;> simp <;> omega
theorem ckDs_bound_aux (P : Sy.St → Prop) (hP : ∀ s m tl, P s → (ckD1 s m tl).length ≤ Sy.ct s) : ∀ (l : List Sy.St) (m tl : Int), (∀ s, s ∈ l → P s) → (ckDs l m tl).length ≤ Sy.cts l
  | [], m, tl, _ => by simp [ckDs]
  | s :: r, m, tl, h => by
    have := ckDs_bound_aux P hP r (m + Sy.ct s) tl (fun x hx => h x (List.mem_cons_of_mem _ hx))
    have := hP s m tl (h s List.mem_cons_self)
    rw [ckDs, List.length_append, Sy.cts]
    omega
theorem ckD1_bound (s : Sy.St) : ∀ m tl, (ckD1 s m tl).length ≤ Sy.ct s := by
  induction s using Sy.ind with
  | h k n p num e b l hb hl =>
    intro m tl
    have h1 := ckDs_bound_aux (fun s => ∀ m tl, (ckD1 s m tl).length ≤ Sy.ct s) (fun s m tl h => h m tl) b (m + 1) (m + 1 + Sy.cts b) hb
    have h2 := ckDs_bound_aux (fun s => ∀ m tl, (ckD1 s m tl).length ≤ Sy.ct s) (fun s m tl h => h m tl) l (m + 1 + Sy.cts b) (m + 1 + Sy.cts b + Sy.cts l) hl
    rw [ckD1, List.length_append, List.length_append, Sy.ct]
    have : (ckDv k n num (m + 1) tl).length ≤ 1 := by unfold ckDv; split <;> simp
    omega
/-- There are no more variables than statements. -/
theorem ckDs_bound (l : List Sy.St) (m tl : Int) : (ckDs l m tl).length ≤ Sy.cts l := ckDs_bound_aux (fun _ => True) (fun s m tl _ => ckD1_bound s m tl) l m tl fun _ _ => trivial
/-- Variables, cell by cell. -/
def vaC : List CkVa → List Value
  | [] => []
  | x :: r => .string ⟨x.name.toArray⟩ :: .int .i64 x.ty :: .int .i64 x.sz :: .int .i64 x.fr :: .int .i64 x.tl :: vaC r
theorem vaC_len : ∀ (l : List CkVa), (vaC l).length = l.length * 5
  | [] => rfl
  | x :: r => by simp only [vaC, List.length_cons, vaC_len r]; omega
theorem vaC_app : ∀ (a b : List CkVa), vaC (a ++ b) = vaC a ++ vaC b
  | [], b => rfl
  | x :: r, b => by simp [vaC, vaC_app r b]
theorem vaC_at : ∀ (l : List CkVa) (j : Nat), j < l.length → (vaC l)[j * 5]? = some (.string ⟨(l.getD j ckV0).name.toArray⟩) ∧ (vaC l)[j * 5 + 1]? = some (.int .i64 (l.getD j ckV0).ty) ∧ (vaC l)[j * 5 + 2]? = some (.int .i64 (l.getD j ckV0).sz) ∧ (vaC l)[j * 5 + 3]? = some (.int .i64 (l.getD j ckV0).fr) ∧ (vaC l)[j * 5 + 4]? = some (.int .i64 (l.getD j ckV0).tl)
  | [], j, h => absurd h (Nat.not_lt_zero j)
  | x :: r, 0, _ => by simp [vaC, List.getD]
  | x :: r, j + 1, h => by
    have := vaC_at r j (by simpa using h)
    have e : (j + 1) * 5 = j * 5 + 5 := by omega
    rw [e]
    simpa [vaC, List.getD] using this
theorem vaC_tl : ∀ (l : List CkVa) (i : Nat) (tl : Int), i < l.length → (vaC l).set (i * 5 + 4) (.int .i64 tl) = vaC (ckTl tl l i)
  | [], i, tl, h => absurd h (Nat.not_lt_zero i)
  | x :: r, 0, tl, _ => by simp [vaC, ckTl, List.getD]
  | x :: r, i + 1, tl, h => by
    have := vaC_tl r i tl (by simpa using h)
    have e : (i + 1) * 5 + 4 = i * 5 + 4 + 5 := by omega
    rw [e]
    unfold ckTl at this ⊢
    simp only [List.set_cons_succ, vaC, List.getD_cons_succ] at this ⊢
    rw [this]
end Go.Proofs.Ytobiedmmjiedlaa

namespace Go.Proofs.Ytobiedmmjiedlaa
open Go.RowKit

mutual
/-- What comes of a statement, with its blocks: what is wrong, and the mark that was come to. -/
def ckB1 (vs : List CkVa) (ps : List Sy.Pc) (ty : Int) : Sy.St → Int → Option Int × Int
  | .mk k n q num e b l, m => match ckStm vs (m + 1) ps ty (.mk k n q num e b l) with
    | some er => (some er, m + 1)
    | none => match ckBs vs ps ty b (m + 1) with
      | (some er, m2) => (some er, m2)
      | (none, m2) => ckBs vs ps ty l m2
def ckBs (vs : List CkVa) (ps : List Sy.Pc) (ty : Int) : List Sy.St → Int → Option Int × Int
  | [], m => (none, m)
  | s :: r, m => match ckB1 vs ps ty s m with
    | (some er, m2) => (some er, m2)
    | (none, m2) => ckBs vs ps ty r m2
end
theorem ckBs_at (vs : List CkVa) (ps : List Sy.Pc) (ty : Int) {l : List Sy.St} {j : Nat} {x : Sy.St} (h : l[j]? = some x) (m : Int) : ckBs vs ps ty (l.drop j) m = match ckB1 vs ps ty x m with | (some er, m2) => (some er, m2) | (none, m2) => ckBs vs ps ty (l.drop (j + 1)) m2 := by
  obtain ⟨hj, e⟩ := List.getElem?_eq_some_iff.1 h
  rw [List.drop_eq_getElem_cons hj, e, ckBs]
theorem ckBs_ok_aux (vs : List CkVa) (ps : List Sy.Pc) (ty : Int) : ∀ (l : List Sy.St), (∀ x, x ∈ l → ∀ m m', ckB1 vs ps ty x m = (none, m') → m' = m + Sy.ct x) → ∀ m m', ckBs vs ps ty l m = (none, m') → m' = m + Sy.cts l
  | [], _, m, m', h => by rw [ckBs] at h; cases h; simp [Sy.cts]
  | s :: r, hP, m, m', h => by
    rw [ckBs] at h
    match e : ckB1 vs ps ty s m with
    | (some er, m2) => rw [e] at h; cases h
    | (none, m2) =>
      rw [e] at h
      have h1 := hP s List.mem_cons_self m m2 e
      have h2 := ckBs_ok_aux vs ps ty r (fun x hx => hP x (List.mem_cons_of_mem _ hx)) m2 m' h
      rw [Sy.cts]
      omega
theorem ckB1_ok (vs : List CkVa) (ps : List Sy.Pc) (ty : Int) (x : Sy.St) : ∀ m m', ckB1 vs ps ty x m = (none, m') → m' = m + Sy.ct x := by
  induction x using Sy.ind with
  | h k n q num e b l hb hl =>
    intro m m' h
    rw [ckB1] at h
    match e1 : ckStm vs (m + 1) ps ty (.mk k n q num e b l) with
    | some er => rw [e1] at h; cases h
    | none =>
      rw [e1] at h
      dsimp only at h
      match e2 : ckBs vs ps ty b (m + 1) with
      | (some er, m2) => rw [e2] at h; cases h
      | (none, m2) =>
        rw [e2] at h
        have h1 := ckBs_ok_aux vs ps ty b hb _ _ e2
        have h2 := ckBs_ok_aux vs ps ty l hl _ _ h
        rw [Sy.ct]
        omega
theorem ckBs_ok {vs : List CkVa} {ps : List Sy.Pc} {ty : Int} {l : List Sy.St} {m m' : Int} (h : ckBs vs ps ty l m = (none, m')) : m' = m + Sy.cts l := ckBs_ok_aux vs ps ty l (fun x _ => ckB1_ok vs ps ty x) m m' h
/-- The checker, whole. -/
structure Cks (A : Nat → Prop) (w : World) (p : Nat) (va : Option Addr) (vc : Nat) (vs : List CkVa) (m : Int) (qa : Option Addr) (qc : Nat) (ps : List Sy.Pc) (at_ : Nat) (iv im : Value) : Prop where
  hb : w.heap[p]? = some (.cells #[.slice va vs.length vc, .int .i64 m, .slice qa ps.length qc, .int .i64 (at_ : Int), iv, im] 78 (0, 0))
  vr : VaS w va vs
  vp : ∀ g o, va = some ⟨g, o, none⟩ → g ≠ p
  pr : PcS A w (.slice qa ps.length qc) ps
  ln : ps.length ≤ 1000000
theorem Cks.lt {A : Nat → Prop} {w : World} {p : Nat} {va : Option Addr} {vc : Nat} {vs : List CkVa} {m : Int} {qa : Option Addr} {qc : Nat} {ps : List Sy.Pc} {at_ : Nat} {iv im : Value} (h : Cks A w p va vc vs m qa qc ps at_ iv im) : p < w.heap.size := by
  have := h.hb
  exact (Array.getElem?_eq_some_iff.1 this).1
theorem Cks.cell {A : Nat → Prop} {w : World} {p : Nat} {va : Option Addr} {vc : Nat} {vs : List CkVa} {m : Int} {qa : Option Addr} {qc : Nat} {ps : List Sy.Pc} {at_ : Nat} {iv im : Value} (h : Cks A w p va vc vs m qa qc ps at_ iv im) : w.cell? ⟨p, 0, none⟩ = some (.slice va vs.length vc) ∧ w.cell? ⟨p, 1, none⟩ = some (.int .i64 m) ∧ w.cell? ⟨p, 2, none⟩ = some (.slice qa ps.length qc) ∧ w.cell? ⟨p, 3, none⟩ = some (.int .i64 (at_ : Int)) ∧ w.cell? ⟨p, 4, none⟩ = some iv ∧ w.cell? ⟨p, 5, none⟩ = some im := by
  refine ⟨?_, ?_, ?_, ?_, ?_, ?_⟩ <;> simp [World.cell?, h.hb]
theorem Cks.frozen {A : Nat → Prop} {w : World} {p : Nat} {va : Option Addr} {vc : Nat} {vs : List CkVa} {m : Int} {qa : Option Addr} {qc : Nat} {ps : List Sy.Pc} {at_ : Nat} {iv im : Value} (h : Cks A w p va vc vs m qa qc ps at_ iv im) (c : Nat) : w.frozen? ⟨p, c, none⟩ = false := by
  simp [World.frozen?, h.hb]
theorem Cks.ckr {A : Nat → Prop} {w : World} {p : Nat} {va : Option Addr} {vc : Nat} {vs : List CkVa} {m : Int} {qa : Option Addr} {qc : Nat} {ps : List Sy.Pc} {at_ : Nat} {iv im : Value} (h : Cks A w p va vc vs m qa qc ps at_ iv im) : Ckr A w p va vc vs m qa qc ps at_ :=
  ⟨⟨h.cell.1, h.cell.2.1, h.lt, h.vr⟩, h.cell.2.2.1, h.cell.2.2.2.1, h.pr, h.ln⟩
theorem VaS.keep {w w' : World} {p : Nat} {sa : Option Addr} {l : List CkVa} (h : VaS w sa l) (hp : ∀ g o, sa = some ⟨g, o, none⟩ → g ≠ p) (k : Keep (fun g => g = p) w w') : VaS w' sa l :=
  ⟨h.1, fun h0 => by
    obtain ⟨g, o, e, hg, hc⟩ := h.2 h0
    have hn := hp g o e
    exact ⟨g, o, e, Nat.lt_of_lt_of_le hg k.size, fun j hj => ⟨(k.cell hg hn).trans (hc j hj).c0, (k.cell hg hn).trans (hc j hj).c1, (k.cell hg hn).trans (hc j hj).c2, (k.cell hg hn).trans (hc j hj).c3, (k.cell hg hn).trans (hc j hj).c4⟩⟩⟩
/-- Behind what turns the checker's own block alone. -/
theorem Cks.keep {A : Nat → Prop} {w w' : World} {p : Nat} {va : Option Addr} {vc : Nat} {vs : List CkVa} {m m' : Int} {qa : Option Addr} {qc : Nat} {ps : List Sy.Pc} {at_ at' : Nat} {iv im iv' im' : Value} (h : Cks A w p va vc vs m qa qc ps at_ iv im) (hA : ∀ g, A g → g < p) (k : Keep (fun g => g = p) w w') (hb : w'.heap[p]? = some (.cells #[.slice va vs.length vc, .int .i64 m', .slice qa ps.length qc, .int .i64 (at' : Int), iv', im'] 78 (0, 0))) : Cks A w' p va vc vs m' qa qc ps at' iv' im' :=
  ⟨hb, h.vr.keep h.vp k, h.vp, h.pr.keep (fun _ _ a => a) (fun q ha hq => k.cell hq (by have := hA _ ha; omega)) k.size, h.ln⟩
theorem Cks.later {A : Nat → Prop} {w w' : World} {p : Nat} {va : Option Addr} {vc : Nat} {vs : List CkVa} {m : Int} {qa : Option Addr} {qc : Nat} {ps : List Sy.Pc} {at_ : Nat} {iv im : Value} (h : Cks A w p va vc vs m qa qc ps at_ iv im) (b : Below w.heap.size w w') : Cks A w' p va vc vs m qa qc ps at_ iv im :=
  ⟨(b.block p h.lt).trans h.hb, h.vr.later b, h.vp, h.pr.later b (Nat.le_refl _), h.ln⟩
theorem Cks.mark {A : Nat → Prop} {w : World} {p : Nat} {va : Option Addr} {vc : Nat} {vs : List CkVa} {m : Int} {qa : Option Addr} {qc : Nat} {ps : List Sy.Pc} {at_ : Nat} {iv im : Value} (h : Cks A w p va vc vs m qa qc ps at_ iv im) (hA : ∀ g, A g → g < p) (m' : Int) : Cks A (w.setCell ⟨p, 1, none⟩ (.int .i64 m')) p va vc vs m' qa qc ps at_ iv im ∧ Keep (fun g => g = p) w (w.setCell ⟨p, 1, none⟩ (.int .i64 m')) := by
  have k : Keep (fun g => g = p) w (w.setCell ⟨p, 1, none⟩ (.int .i64 m')) := Keep.set (D := fun g => g = p) (Keep.refl (fun g => g = p) w) (a := ⟨p, 1, none⟩) (.inr rfl) _
  exact ⟨h.keep hA k (heap_setCell_same _ _ _ _ _ _ h.hb), k⟩
theorem SmS.kpp {A : Nat → Prop} {p : Nat} {w w' : World} {sl : Value} {l : List Sy.St} (h : SmS A w sl l) (hA : ∀ g, A g → g < p) (k : Keep (fun g => g = p) w w') : SmS A w' sl l :=
  h.keep (fun _ _ a => a) (fun q ha hq => k.cell hq (by have := hA _ ha; omega)) k.size
theorem ExS.kpp {A : Nat → Prop} {p : Nat} {w w' : World} {sl : Value} {l : List Sx.Ex} (h : ExS A w sl l) (hA : ∀ g, A g → g < p) (k : Keep (fun g => g = p) w w') : ExS A w' sl l :=
  h.keep (fun _ _ a => a) (fun q ha hq => k.cell hq (by have := hA _ ha; omega)) k.size
/-- What comes of a block. -/
def CbR (A : Nat → Prop) (w : World) (p : Nat) (va : Option Addr) (vc : Nat) (vs : List CkVa) (qa : Option Addr) (qc : Nat) (ps : List Sy.Pc) (at_ : Nat) (iv im : Value) (r : Option Int × Int) (e : Ending) (w' : World) : Prop :=
  e = ckEndU r.1 ∧ Cks A w' p va vc vs r.2 qa qc ps at_ iv im ∧ Keep (fun g => g = p) w w'
def cbC (l : List Sy.St) : Prop := ∀ (A : Nat → Prop) (sa : Option Addr) (sc : Nat) (p : Nat) (va : Option Addr) (vc : Nat) (vs : List CkVa) (m : Int) (qa : Option Addr) (qc : Nat) (ps : List Sy.Pc) (at_ : Nat) (iv im : Value) (y : Sy.Pc) (w : World), Cks A w p va vc vs m qa qc ps at_ iv im → (∀ g, A g → g < p) → ps[at_]? = some y → SmS A w (.slice sa l.length sc) l → 0 ≤ m → m + Sy.cts l ≤ 1000000000000000 → ∀ r, r = ckBs vs ps y.type l m →
  Calls Try.prog 65 #[.pointer (some ⟨p, 0, none⟩), .slice sa l.length sc] w (CbR A w p va vc vs qa qc ps at_ iv im r)
def cbP (x : Sy.St) : Prop := ∃ k n p m e b l, x = .mk k n p m e b l ∧ e.length ≤ 1000000000000000 ∧ cbC b ∧ cbC l
set_option maxRecDepth 100000 in
set_option maxHeartbeats 4000000 in
theorem ckBlk_loop (l : List Sy.St) (hP : ∀ x, x ∈ l → cbP x) : cbC l := by
  intro A sa sc p va vc vs m qa qc ps at_ iv im y w hk hA hy hs hm0 hm r hr
  have HS : Hid (SmS A w (.slice sa l.length sc) l) := hs
  have HP : Hid (∀ x, x ∈ l → cbP x) := hP
  have HA : Hid (∀ g, A g → g < p) := hA
  have HK : Hid (Cks A w p va vc vs m qa qc ps at_ iv im) := hk
  have HY : Hid (ps[at_]? = some y) := hy
  have HM : Hid (0 ≤ m ∧ m + Sy.cts l ≤ 1000000000000000) := ⟨hm0, hm⟩
  have HL : Hid (l.length ≤ 1000000000000000) := by have := Sy.len_cts l; exact (by omega : l.length ≤ 1000000000000000)
  have HR : Hid (r = ckBs vs ps y.type l m) := hr
  clear hs hP hA hk hm0 hm hy hr
  go_enter Try.func65, Try.ntmps65
  go_wp2_with fail
  go_loopw [8] (fun i wr => ∃ (j : Nat) (mm : Int), j ≤ l.length ∧ i = .int .i64 j ∧ Hid (Cks A wr p va vc vs mm qa qc ps at_ iv im) ∧ Hid (Keep (fun g => g = p) w wr) ∧ Hid (mm = m + Sy.cts (l.take j)) ∧ Hid (ckBs vs ps y.type (l.drop j) mm = ckBs vs ps y.type l m)) (fun i _ => l.length - (intOf i).toNat)
  case atStart => exact ⟨0, m, by omega, rfl, HK, Keep.refl _ _, (by simp [Sy.cts] : m = m + Sy.cts (l.take 0)), (by simp : ckBs vs ps y.type (l.drop 0) m = ckBs vs ps y.type l m)⟩
  case round =>
    obtain ⟨j, mm, hj, rfl, C, K, M, N⟩ := hrel
    by_cases hlt : j < l.length
    · obtain ⟨g, o, k, n, q, num, ea, ec, ba, bc, la, lc, e, b, ll, rfl, ha, hg, el, sat⟩ := HS.out.part j hlt
      obtain ⟨k', n', p', m', e', b', l', ex, le', zb, zl⟩ := HP.out _ (List.mem_of_getElem? el)
      injection ex with x1 x2 x3 x4 x5 x6 x7
      subst x1 x2 x3 x4 x5 x6 x7
      have ZB : Hid (cbC b) := zb
      have ZL : Hid (cbC ll) := zl
      have T1 := Sy.cts_take el
      have T2 := Sy.cts_at el
      rw [Sy.ct] at T1 T2
      have hmm := HM.out
      have hM := M.out
      have hgp : ¬ g = p := by have := HA.out g ha; omega
      have kc : ∀ c : Nat, wr.cell? ⟨g, c, none⟩ = w.cell? ⟨g, c, none⟩ := fun c => K.out.cell (q := ⟨g, c, none⟩) hg hgp
      have NA := ckBs_at vs ps y.type el mm
      rw [ckB1] at NA
      have HN : Hid (r = match (match ckStm vs (mm + 1) ps y.type (.mk k n q num e b ll) with | some er => (some er, mm + 1) | none => match ckBs vs ps y.type b (mm + 1) with | (some er, m2) => (some er, m2) | (none, m2) => ckBs vs ps y.type ll m2) with | (some er, m2) => (some er, m2) | (none, m2) => ckBs vs ps y.type (l.drop (j + 1)) m2) := by rw [HR.out, ← N.out]; exact NA
      have BN : Hid (0 ≤ mm ∧ mm + 1 + Sy.cts b + Sy.cts ll ≤ 1000000000000000) := ⟨by omega, by omega⟩
      have MN : Hid (mm + 1 + Sy.cts b + Sy.cts ll = m + Sy.cts (l.take (j + 1))) := (by omega : mm + 1 + (Sy.cts b : Int) + Sy.cts ll = m + Sy.cts (l.take (j + 1)))
      have wm : wrap64 (mm + 1) = mm + 1 := by unfold wrap64; omega
      have SB : Hid (SmS A w (.slice ba b.length bc) b ∧ SmS A w (.slice la ll.length lc) ll) := ⟨sat.hb, sat.hl⟩
      have SE : Hid (ExS A w (.slice ea e.length ec) e) := sat.he
      have LE : Hid (e.length ≤ 1000000000000000) := le'
      obtain ⟨c0', c1', c2', c3', c4', c5', c6', -, -, -⟩ := sat
      have c0 := (kc _).trans c0'
      have c1 := (kc _).trans c1'
      have c2 := (kc _).trans c2'
      have c3 := (kc _).trans c3'
      have c4 := (kc _).trans c4'
      have c5 := (kc _).trans c5'
      have c6 := (kc _).trans c6'
      have p1 := C.out.cell.2.1
      have fp1 := C.out.frozen 1
      have hpr := C.out.lt
      have hpz : ¬ p = wr.heap.size := by omega
      have hji : (j : Int) < (l.length : Int) := by omega
      have hj0 : (0 : Int) ≤ (j : Int) := by omega
      obtain ⟨bx, hbx⟩ : ∃ bx, bx = wr.heap.size := ⟨_, rfl⟩
      obtain ⟨W4, hW4⟩ : ∃ W4, W4 = (wr.setCell ⟨p, 1, none⟩ (.int .i64 (mm + 1))).alloc (smB k n q num ea e.length ec ba b.length bc la ll.length lc) := ⟨_, rfl⟩
      have mk4 := C.out.mark HA.out (mm + 1)
      have bx4 := box_below (wr.setCell ⟨p, 1, none⟩ (.int .i64 (mm + 1))) (smB k n q num ea e.length ec ba b.length bc la ll.length lc)
      have C4 : Hid (Cks A W4 p va vc vs (mm + 1) qa qc ps at_ iv im) := by rw [hW4]; exact mk4.1.later bx4
      have K4 : Hid (Keep (fun g => g = p) w W4) := by rw [hW4]; exact K.out.trans (mk4.2.trans (Keep.of_below bx4 (Nat.le_refl _)))
      have t0 : W4.cell? ⟨bx, 0, none⟩ = some (.int .i64 k) := by rw [hW4, hbx]; simp [go_sem]
      have t1 : W4.cell? ⟨bx, 1, none⟩ = some (.string ⟨n.toArray⟩) := by rw [hW4, hbx]; simp [go_sem]
      have t2 : W4.cell? ⟨bx, 2, none⟩ = some (.string ⟨q.toArray⟩) := by rw [hW4, hbx]; simp [go_sem]
      have t3 : W4.cell? ⟨bx, 3, none⟩ = some (.int .i64 num) := by rw [hW4, hbx]; simp [go_sem]
      have t4 : W4.cell? ⟨bx, 4, none⟩ = some (.slice ea e.length ec) := by rw [hW4, hbx]; simp [go_sem]
      have t5 : W4.cell? ⟨bx, 5, none⟩ = some (.slice ba b.length bc) := by rw [hW4, hbx]; simp [go_sem]
      have t6 : W4.cell? ⟨bx, 6, none⟩ = some (.slice la ll.length lc) := by rw [hW4, hbx]; simp [go_sem]
      have zb4 : bx < W4.heap.size := by rw [hW4, hbx]; simp
      have hbp : ¬ bx = p := by omega
      have ES : Hid (Calls Try.prog 78 #[.pointer (some ⟨p, 0, none⟩), .agg #[.int .i64 k, .string ⟨n.toArray⟩, .string ⟨q.toArray⟩, .int .i64 num, .slice ea e.length ec, .slice ba b.length bc, .slice la ll.length lc]] W4 fun en w' => en = ckEndU (ckStm vs (mm + 1) ps y.type (.mk k n q num e b ll)) ∧ Below W4.heap.size W4 w') := ckStmt_any A p va vc vs (mm + 1) qa qc ps at_ W4 C4.out.ckr y HY.out k n q num e b ll LE.out ea ec (SE.out.kpp HA.out K4.out) ba bc la lc
      clear zb zl el T1 T2 hmm hM kc NA le' c0' c1' c2' c3' c4' c5' c6' mk4 bx4 N M
      go_upto_region 4 with fail
      rw [← hW4, ← hbx]
      clear hW4 hbx c0 c1 c2 c3 c4 c5 c6 p1 fp1
      go_wp2_with fail
      refine Calls.mono ES.out ?_
      rintro e5 w5 ⟨rfl, b5⟩
      have C5 : Hid (Cks A w5 p va vc vs (mm + 1) qa qc ps at_ iv im) := C4.out.later b5
      have K5 : Hid (Keep (fun g => g = p) w w5) := K4.out.trans (Keep.of_below b5 (Nat.le_refl _))
      have s5 := (b5.cell (p := ⟨bx, 5, none⟩) zb4).trans t5
      have s6 := (b5.cell (p := ⟨bx, 6, none⟩) zb4).trans t6
      have z5 : bx < w5.heap.size := Nat.lt_of_lt_of_le zb4 b5.size
      clear b5 t0 t1 t2 t3 t4 t5 t6 ES
      cases h1 : ckStm vs (mm + 1) ps y.type (.mk k n q num e b ll) with
      | some er =>
        have hr : r = (some er, mm + 1) := by rw [HN.out, h1]
        subst hr
        clear HN h1
        show _
        unfold ckEndU ckPan
        go_wp2_with fail
        exact ⟨rfl, rfl, C5.out, K5.out⟩
      | none =>
        have HN2 : Hid (r = match (match ckBs vs ps y.type b (mm + 1) with | (some er, m2) => (some er, m2) | (none, m2) => ckBs vs ps y.type ll m2) with | (some er, m2) => (some er, m2) | (none, m2) => ckBs vs ps y.type (l.drop (j + 1)) m2) := by rw [HN.out, h1]; rfl
        clear HN h1
        show _
        unfold ckEndU
        go_wp2_with fail
        refine Calls.mono (ZB.out A ba bc p va vc vs (mm + 1) qa qc ps at_ iv im y w5 C5.out HA.out HY.out (SB.out.1.kpp HA.out K5.out) (by have := BN.out; omega) (by have := BN.out; omega) _ rfl) ?_
        rintro e6 w6 ⟨rfl, C6', K6'⟩
        have u6 := (K6'.cell (q := ⟨bx, 6, none⟩) z5 hbp).trans s6
        have z6 : bx < w6.heap.size := Nat.lt_of_lt_of_le z5 K6'.size
        have K6 : Hid (Keep (fun g => g = p) w w6) := K5.out.trans K6'
        match h2 : ckBs vs ps y.type b (mm + 1) with
        | (some er, m6) =>
          rw [h2] at C6'
          have C6 : Hid (Cks A w6 p va vc vs m6 qa qc ps at_ iv im) := C6'
          have hr : r = (some er, m6) := by rw [HN2.out, h2]
          subst hr
          clear HN2 h2 C6' K6' s5 s6
          show _
          unfold ckEndU ckPan
          go_wp2_with fail
          exact ⟨rfl, rfl, C6.out, K6.out⟩
        | (none, m6) =>
          rw [h2] at C6'
          have C6 : Hid (Cks A w6 p va vc vs m6 qa qc ps at_ iv im) := C6'
          have E6 : Hid (m6 = mm + 1 + Sy.cts b) := ckBs_ok h2
          have HN3 : Hid (r = match ckBs vs ps y.type ll m6 with | (some er, m2) => (some er, m2) | (none, m2) => ckBs vs ps y.type (l.drop (j + 1)) m2) := by rw [HN2.out, h2]; rfl
          clear HN2 h2 C6' K6' s5 s6
          show _
          unfold ckEndU
          go_wp2_with fail
          refine Calls.mono (ZL.out A la lc p va vc vs m6 qa qc ps at_ iv im y w6 C6.out HA.out HY.out (SB.out.2.kpp HA.out K6.out) (by have := BN.out; have := E6.out; omega) (by have := BN.out; have := E6.out; omega) _ rfl) ?_
          rintro e7 w7 ⟨rfl, C7', K7'⟩
          have K7 : Hid (Keep (fun g => g = p) w w7) := K6.out.trans K7'
          match h3 : ckBs vs ps y.type ll m6 with
          | (some er, m7) =>
            rw [h3] at C7'
            have C7 : Hid (Cks A w7 p va vc vs m7 qa qc ps at_ iv im) := C7'
            have hr : r = (some er, m7) := by rw [HN3.out, h3]
            subst hr
            clear HN3 h3 C7' K7'
            show _
            unfold ckEndU ckPan
            go_wp2_with fail
            exact ⟨rfl, rfl, C7.out, K7.out⟩
          | (none, m7) =>
            rw [h3] at C7'
            have C7 : Hid (Cks A w7 p va vc vs m7 qa qc ps at_ iv im) := C7'
            have E7 : Hid (m7 = m6 + Sy.cts ll) := ckBs_ok h3
            have HN4 : Hid (ckBs vs ps y.type (l.drop (j + 1)) m7 = ckBs vs ps y.type l m) := by
              have := HN3.out
              rw [h3] at this
              rw [HR.out] at this
              exact this.symm
            clear HN3 h3 C7' K7'
            have hL := HL.out
            show _
            unfold ckEndU
            go_wp2_with fail
            go_roundw
            case rel => exact ⟨j + 1, m7, by omega, by go_num, C7, K7, (by have := E6.out; have := E7.out; have := MN.out; omega : m7 = m + Sy.cts (l.take (j + 1))), HN4⟩
            case measure => simp [intOf]; omega
    · obtain rfl : j = l.length := by omega
      have hr : r = (none, mm) := by rw [HR.out, ← N.out, List.drop_length, ckBs]
      subst hr
      clear N HR
      go_wp2_with fail
      go_end0
      exact ⟨rfl, C.out, K.out⟩
theorem ckBlk_st (x : Sy.St) : Sy.Bd x → cbP x := by
  induction x using Sy.ind with
  | h k n p m e b l hb hl =>
    intro ho
    cases ho with
    | mk _ _ _ _ _ _ _ hn hp le he lb ll ob ol =>
      exact ⟨k, n, p, m, e, b, l, rfl, by omega, ckBlk_loop b fun s hs => hb s hs (ob s hs), ckBlk_loop l fun s hs => hl s hs (ol s hs)⟩
/-- The checker's block, of all statements. -/
theorem ckBlk_any (l : List Sy.St) (h : ∀ s, s ∈ l → Sy.Bd s) : cbC l := ckBlk_loop l fun x hx => ckBlk_st x (h x hx)
end Go.Proofs.Ytobiedmmjiedlaa

namespace Go.Proofs.Ytobiedmmjiedlaa
open Go.RowKit

set_option maxRecDepth 100000 in
set_option maxHeartbeats 2000000 in
theorem ckDecl_any (k : Int) (n q : List UInt8) (m : Int) (ea : Option Addr) (en ec : Nat) (ba : Option Addr) (bn bc : Nat) (la : Option Addr) (ln lc : Nat) (mk : Int) (h0 : -1000000000000000 ≤ mk) (h1 : mk ≤ 1000000000000000) (w : World) : Calls Try.prog 85 #[.agg #[.int .i64 k, .string ⟨n.toArray⟩, .string ⟨q.toArray⟩, .int .i64 m, .slice ea en ec, .slice ba bn bc, .slice la ln lc], .int .i64 mk] w fun e w' => e = .returned (vaV ⟨n, if m < 0 then 2 else 1, if 0 < m then m else 0, mk + 1, 0⟩) ∧ Below w.heap.size w w' := by
  have w1 : wrap64 (mk + 1) = mk + 1 := by unfold wrap64; omega
  clear h0 h1
  by_cases c1 : m < 0
  · have c2 : ¬ 0 < m := by omega
    rw [if_pos c1, if_neg c2]
    go_enter Try.func85, Try.ntmps85
    go_wp2_with fail
    refine bodyPost_ret (v := vaV ⟨n, 2, 0, mk + 1, 0⟩) (by simp [results, Try.results85, go_sem, vaV]) rfl ?_
    exact ⟨rfl, by go_grown⟩
  · by_cases c2 : 0 < m
    · rw [if_neg c1, if_pos c2]
      go_enter Try.func85, Try.ntmps85
      go_wp2_with fail
      refine bodyPost_ret (v := vaV ⟨n, 1, m, mk + 1, 0⟩) (by simp [results, Try.results85, go_sem, vaV]) rfl ?_
      exact ⟨rfl, by go_grown⟩
    · rw [if_neg c1, if_neg c2]
      go_enter Try.func85, Try.ntmps85
      go_wp2_with fail
      refine bodyPost_ret (v := vaV ⟨n, 1, 0, mk + 1, 0⟩) (by simp [results, Try.results85, go_sem, vaV]) rfl ?_
      exact ⟨rfl, by go_grown⟩
theorem infoVa : (Try.prog.info? 57).map (fun i => (i.zero, i.size, i.bytes)) = some (some (.agg #[.string ⟨#[]⟩, .int .i64 0, .int .i64 0, .int .i64 0, .int .i64 0]), 5, 48) := by kernel_rfl
theorem five_cells (w : World) (c0 c1 c2 c3 c4 : Value) (t : TypeId) : ∀ (j : Nat) u, [c0, c1, c2, c3, c4][j]? = some u → (w.alloc (.cells #[c0, c1, c2, c3, c4] t)).cell? ((⟨w.heap.size, 0, none⟩ : Addr).add j) = some u := by
  intro j u hj
  match j, hj with
  | 0, hj => simp at hj; subst hj; simp [Addr.add]
  | 1, hj => simp at hj; subst hj; simp [Addr.add]
  | 2, hj => simp at hj; subst hj; simp [Addr.add]
  | 3, hj => simp at hj; subst hj; simp [Addr.add]
  | 4, hj => simp at hj; subst hj; simp [Addr.add]
theorem own_set {w : World} {base : Nat} {e : TypeId} {size g n cap c : Nat} {xs : List Value} (h : w.ownsRow base e size (.slice (some ⟨g, 0, none⟩) n cap) n xs) (u : Value) :
    (w.setCell ⟨g, c, none⟩ u).ownsRow base e size (.slice (some ⟨g, 0, none⟩) n cap) n (xs.set c u) := by
  rcases h.2 with ⟨h0, _⟩ | ⟨g', cap', cur, hv, hb, hh, hnc, hcm, hcs, ht⟩
  · cases h0
  · cases hv
    refine ⟨by simpa using h.1, .inr ⟨g, cap, cur.setIfInBounds c u, rfl, hb, heap_setCell_same _ _ _ _ _ _ hh, hnc, hcm, by simpa using hcs, ?_⟩⟩
    rw [Array.toList_setIfInBounds, List.take_set, ht]
/-- The declarer: its variables lie in a row of its own. -/
structure Dc (w : World) (p : Nat) (v : Value) (vs : List CkVa) (m : Int) : Prop where
  c0 : w.cell? ⟨p, 0, none⟩ = some v
  c1 : w.cell? ⟨p, 1, none⟩ = some (.int .i64 m)
  f0 : w.frozen? ⟨p, 0, none⟩ = false
  f1 : w.frozen? ⟨p, 1, none⟩ = false
  lt : p < w.heap.size
  row : w.ownsRow (p + 1) 57 5 v vs.length (vaC vs)
/-- What the declarer turns: its own block, and its row. -/
structure DM (p : Nat) (w : World) (v : Value) (w' : World) (v' : Value) : Prop where
  os : w'.os = w.os
  tape : w'.tape = w.tape
  output : w'.output = w.output
  size : w.heap.size ≤ w'.heap.size
  far : ∀ g, g < w.heap.size → g ≠ p → ¬ v.ownBlock = some g → w'.heap[g]? = w.heap[g]? ∧ ¬ v'.ownBlock = some g
theorem DM.refl (p : Nat) (w : World) (v : Value) : DM p w v w v := ⟨rfl, rfl, rfl, Nat.le_refl _, fun _ _ _ h => ⟨rfl, h⟩⟩
theorem DM.trans {p : Nat} {w w' w'' : World} {v v' v'' : Value} (h : DM p w v w' v') (k : DM p w' v' w'' v'') : DM p w v w'' v'' :=
  ⟨k.os.trans h.os, k.tape.trans h.tape, k.output.trans h.output, Nat.le_trans h.size k.size, fun g hg h0 h1 => by
    obtain ⟨a, b⟩ := h.far g hg h0 h1
    obtain ⟨a', b'⟩ := k.far g (Nat.lt_of_lt_of_le hg h.size) h0 b
    exact ⟨a'.trans a, b'⟩⟩
theorem DM.of_below {p : Nat} {w w' : World} (v : Value) (m : Below w.heap.size w w') : DM p w v w' v := ⟨m.os, m.tape, m.output, m.size, fun g hg _ h1 => ⟨m.block g hg, h1⟩⟩
theorem DM.set {p : Nat} (w : World) (v : Value) (c : Nat) (u : Value) : DM p w v (w.setCell ⟨p, c, none⟩ u) v :=
  ⟨rfl, rfl, rfl, by simp, fun g _ h0 h1 => ⟨heap_setCell_other w _ g _ (by simpa using h0), h1⟩⟩
theorem Dc.later {w w' : World} {p : Nat} {v : Value} {vs : List CkVa} {m : Int} (h : Dc w p v vs m) (b : Below w.heap.size w w') : Dc w' p v vs m :=
  ⟨(b.cell h.lt).trans h.c0, (b.cell h.lt).trans h.c1, (b.frozen h.lt).trans h.f0, (b.frozen h.lt).trans h.f1, Nat.lt_of_lt_of_le h.lt b.size, own_later h.row b⟩
theorem Dc.np {w : World} {p : Nat} {v : Value} {vs : List CkVa} {m : Int} (h : Dc w p v vs m) : ¬ v.ownBlock = some p := fun e => by have := (World.ownsRow.lt h.row _ e).1; omega
theorem Dc.mark {w : World} {p : Nat} {v : Value} {vs : List CkVa} {m : Int} (h : Dc w p v vs m) (m' : Int) : Dc (w.setCell ⟨p, 1, none⟩ (.int .i64 m')) p v vs m' :=
  ⟨by rw [World.cell?_setCell_other _ _ _ _ (by simp)]; exact h.c0, World.cell?_setCell_same _ _ _ h.c1, by rw [World.frozen?_setCell]; exact h.f0, by rw [World.frozen?_setCell]; exact h.f1, by simpa using h.lt, ownsRow_setCell_other h.row h.np _⟩
theorem SmS.dm {A : Nat → Prop} {p : Nat} {w w' : World} {v v' : Value} {vs : List CkVa} {m : Int} {sl : Value} {l : List Sy.St} (h : SmS A w sl l) (hA : ∀ g, A g → g < p) (d : Dc w p v vs m) (k : DM p w v w' v') : SmS A w' sl l :=
  h.keep (fun _ _ a => a) (fun q ha hq => World.cell?_of_block (w := w) (k.far _ hq (by have := hA _ ha; omega) (fun e => by have := (World.ownsRow.lt d.row _ e).1; have := hA _ ha; omega)).1) k.size
/-- A variable more: behind the append and the store of the row. -/
theorem Dc.more {w w2 : World} {p : Nat} {v v2 : Value} {vs : List CkVa} {m : Int} {x : CkVa} (h : Dc w p v vs m) (h2 : w2.ownsRow (p + 1) 57 5 v2 (vs.length + 1) (vaC vs ++ [.string ⟨x.name.toArray⟩, .int .i64 x.ty, .int .i64 x.sz, .int .i64 x.fr, .int .i64 x.tl])) (g2 : w.grownBy w2 v.ownBlock) (o2 : v2.ownBlock = v.ownBlock ∨ ∃ g, v2.ownBlock = some g ∧ w.heap.size ≤ g) :
    Dc (w2.setCell ⟨p, 0, none⟩ v2) p v2 (vs ++ [x]) m ∧ DM p w v (w2.setCell ⟨p, 0, none⟩ v2) v2 := by
  have kp : w2.heap[p]? = w.heap[p]? := g2.block p h.lt (fun e => h.np e.symm)
  have np2 : ¬ v2.ownBlock = some p := fun e => by have := (World.ownsRow.lt h2 _ e).1; omega
  refine ⟨⟨World.cell?_setCell_same _ _ _ ((World.cell?_of_block (w := w) (a := ⟨p, 0, none⟩) kp).trans h.c0), ?_, ?_, ?_, by have := h.lt; have := g2.size; simp; omega, ?_⟩, ⟨g2.os, g2.tape, g2.output, by simpa using g2.size, fun g hg h0 h1 => ⟨?_, ?_⟩⟩⟩
  · rw [World.cell?_setCell_other _ _ _ _ (by simp)]
    exact (World.cell?_of_block (w := w) (a := ⟨p, 1, none⟩) kp).trans h.c1
  · rw [World.frozen?_setCell]
    exact (World.frozen?_of_block (w := w) (a := ⟨p, 0, none⟩) kp).trans h.f0
  · rw [World.frozen?_setCell]
    exact (World.frozen?_of_block (w := w) (a := ⟨p, 1, none⟩) kp).trans h.f1
  · have : vaC (vs ++ [x]) = vaC vs ++ [.string ⟨x.name.toArray⟩, .int .i64 x.ty, .int .i64 x.sz, .int .i64 x.fr, .int .i64 x.tl] := by rw [vaC_app]; rfl
    rw [this, List.length_append]
    exact ownsRow_setCell_other h2 np2 _
  · exact (heap_setCell_other w2 _ g _ (by simpa using h0)).trans (g2.block g hg (fun e => h1 e.symm))
  · rcases o2 with e | ⟨g', e, hg'⟩
    · rw [e]; exact h1
    · rw [e]; intro e2; cases e2; omega
/-- A variable's scope closed, in memory. -/
theorem Dc.close {w : World} {p g cap i : Nat} {vs : List CkVa} {m tl : Int} (h : Dc w p (.slice (some ⟨g, 0, none⟩) vs.length cap) vs m) (hi : i < vs.length) :
    Dc (w.setCell ⟨g, i * 5 + 4, none⟩ (.int .i64 tl)) p (.slice (some ⟨g, 0, none⟩) vs.length cap) (ckTl tl vs i) m ∧ DM p w (.slice (some ⟨g, 0, none⟩) vs.length cap) (w.setCell ⟨g, i * 5 + 4, none⟩ (.int .i64 tl)) (.slice (some ⟨g, 0, none⟩) vs.length cap) := by
  refine ⟨⟨?_, ?_, by rw [World.frozen?_setCell]; exact h.f0, by rw [World.frozen?_setCell]; exact h.f1, by simpa using h.lt, ?_⟩, ⟨rfl, rfl, rfl, by simp, fun k hk h0 h1 => ⟨heap_setCell_other w _ k _ (fun e => h1 (by rw [e]; rfl)), h1⟩⟩⟩
  · rw [World.cell?_setCell_other _ _ _ _ (by simp)]; exact h.c0
  · rw [World.cell?_setCell_other _ _ _ _ (by simp)]; exact h.c1
  · rw [ckTl_len, ← vaC_tl vs i tl hi]
    exact own_set h.row _
/-- Where a variable lies. -/
theorem Dc.at {w : World} {p : Nat} {v : Value} {vs : List CkVa} {m : Int} (h : Dc w p v vs m) (h0 : 0 < vs.length) : ∃ g cap, v = .slice (some ⟨g, 0, none⟩) vs.length cap ∧ p < g ∧ g < w.heap.size ∧ ∀ i, i < vs.length → VaAt w g (i * 5) (vs.getD i ckV0) ∧ w.frozen? ⟨g, i * 5 + 4, none⟩ = false := by
  have hc := @World.ownsRow.cells _ _ _ _ _ _ _ h.row
  have hl := World.ownsRow.lt h.row
  rcases h.row.2 with ⟨_, e⟩ | ⟨g, cap, cur, rfl, hb, hh, hnc, _⟩
  · omega
  · refine ⟨g, cap, rfl, by omega, (hl g rfl).2, fun i hi => ?_⟩
    have key : ∀ (c : Nat) (u : Value), (vaC vs)[c]? = some u → w.cell? ⟨g, c, none⟩ = some u := by
      intro c u hu
      have := @hc g rfl c u hu
      have e : (⟨g, 0, none⟩ : Addr).add c = ⟨g, c, none⟩ := by unfold Addr.add; split <;> simp_all
      rw [e] at this
      exact this
    obtain ⟨a0, a1, a2, a3, a4⟩ := vaC_at vs i hi
    exact ⟨⟨key _ _ a0, key _ _ a1, key _ _ a2, key _ _ a3, key _ _ a4⟩, by simp [World.frozen?, hh]⟩
end Go.Proofs.Ytobiedmmjiedlaa
