/- Layer 4: how many statements there are (the program's count, Count). -/
/- Layer 4: statements in order of marks, plain; how many there are (the document's total). -/
/- Layer 4: the statement of a mark, looked for (the program's finder). -/
/- Layer 4: isArray, single, array. -/
/- Layer 4: typeOf, for every expression. -/
import Derived.Test.YtobiedmmjiedlaaZCkE
import Derived.Test.YtobiedmmjiedlaaZStC
import Derived.Deep.RegionHeld3
import Derived.Test.YtobiedmmjiedlaaZCmA
namespace Go.Proofs.Ytobiedmmjiedlaa
open Go.RowKit

namespace Sy
theorem ct_pos (s : St) : 1 ≤ ct s := by
  cases s with
  | mk k n p m e b l => rw [ct]; omega
theorem len_cts : ∀ (l : List St), l.length ≤ cts l
  | [] => by simp [cts]
  | s :: r => by
    have := len_cts r
    have := ct_pos s
    rw [cts, List.length_cons]
    omega
theorem cts_take_le (l : List St) (j : Nat) : cts (l.take j) ≤ cts l := by
  have := cts_app (l.take j) (l.drop j)
  rw [List.take_append_drop] at this
  omega
theorem cts_at {l : List St} {j : Nat} {x : St} (h : l[j]? = some x) : cts (l.take j) + ct x ≤ cts l := by
  have := cts_take_le l (j + 1)
  rw [cts_take h] at this
  exact this
end Sy
/-- What is asked of a counter. -/
def ctC (F : FuncId) (l : List Sy.St) : Prop := ∀ (A : Nat → Prop) (sa : Option Addr) (sc : Nat) (w : World), Sy.cts l ≤ 1000000000000000 → SmS A w (.slice sa l.length sc) l → Calls Try.prog F #[.slice sa l.length sc] w fun e w' => e = .returned (.int .i64 (Sy.cts l : Int)) ∧ Below w.heap.size w w'
def ctP (F : FuncId) (x : Sy.St) : Prop := ∃ k n p m e b l, x = .mk k n p m e b l ∧ ctC F b ∧ ctC F l
/-- A box with a statement. -/
abbrev smB (k : Int) (n p : List UInt8) (m : Int) (ea : Option Addr) (en ec : Nat) (ba : Option Addr) (bn bc : Nat) (la : Option Addr) (ln lc : Nat) : Obj := .cells #[.int .i64 k, .string ⟨n.toArray⟩, .string ⟨p.toArray⟩, .int .i64 m, .slice ea en ec, .slice ba bn bc, .slice la ln lc] 33
set_option maxRecDepth 100000 in
set_option maxHeartbeats 1000000 in
theorem ckCount_loop (l : List Sy.St) (hP : ∀ x, x ∈ l → ctP 19 x) : ctC 19 l := by
  intro A sa sc w hb hs
  have HS : Hid (SmS A w (.slice sa l.length sc) l) := hs
  have HP : Hid (∀ x, x ∈ l → ctP 19 x) := hP
  have HB : Hid (Sy.cts l ≤ 1000000000000000) := hb
  have HL : Hid (l.length ≤ 1000000000000000) := Nat.le_trans (Sy.len_cts l) hb
  clear hs hP hb
  go_enter Try.func19, Try.ntmps19
  go_wp2_with fail
  go_loopw [3, 10] (fun v i wr => ∃ (j : Nat) (s : Int), j ≤ l.length ∧ i = .int .i64 j ∧ v = .int .i64 s ∧ Hid (s + j = l.length + Sy.cts (l.take j)) ∧ Hid (Below w.heap.size w wr)) (fun _ i _ => l.length - (intOf i).toNat)
  case atStart => exact ⟨0, l.length, by omega, rfl, rfl, (by simp [Sy.cts] : (l.length : Int) + (0 : Nat) = l.length + Sy.cts (l.take 0)), Below.refl _ _⟩
  case round =>
    obtain ⟨j, s, hj, rfl, rfl, N, B⟩ := hrel
    by_cases hlt : j < l.length
    · obtain ⟨g, o, k, n, p, m, ea, ec, ba, bc, la, lc, e, b, ll, rfl, ha, hg, el, sat⟩ := (HS.out.later B.out (Nat.le_refl _)).part j hlt
      obtain ⟨k', n', p', m', e', b', l', ex, zb, zl⟩ := HP.out _ (List.mem_of_getElem? el)
      injection ex with x1 x2 x3 x4 x5 x6 x7
      subst x1 x2 x3 x4 x5 x6 x7
      obtain ⟨c0, c1, c2, c3, c4, c5, c6, -, hb, hl⟩ := sat
      have T1 := Sy.cts_take el
      have T2 := Sy.cts_at el
      rw [Sy.ct] at T1 T2
      have hbl := HB.out
      have E1 : Hid (∀ W, Below wr.heap.size wr W → Calls Try.prog 19 #[.slice ba b.length bc] W fun e w' => e = .returned (.int .i64 (Sy.cts b : Int)) ∧ Below W.heap.size W w') := fun W hW => zb A ba bc W (by omega) (hb.later hW (Nat.le_refl _))
      have E2 : Hid (∀ W, Below wr.heap.size wr W → Calls Try.prog 19 #[.slice la ll.length lc] W fun e w' => e = .returned (.int .i64 (Sy.cts ll : Int)) ∧ Below W.heap.size W w') := fun W hW => zl A la lc W (by omega) (hl.later hW (Nat.le_refl _))
      have TT : Hid (Sy.cts (l.take (j + 1)) = Sy.cts (l.take j) + (1 + Sy.cts b + Sy.cts ll) ∧ Sy.cts (l.take j) + (1 + Sy.cts b + Sy.cts ll) ≤ Sy.cts l) := ⟨T1, T2⟩
      have hji : (j : Int) < (l.length : Int) := by omega
      have hj0 : (0 : Int) ≤ (j : Int) := by omega
      clear zb zl hb hl T1 T2 hbl el
      go_wp2_with fail
      go_region_held3 (fun w' => w'.cell? ⟨wr.heap.size, 5, none⟩ = some (.slice ba b.length bc) ∧ w'.cell? ⟨wr.heap.size, 6, none⟩ = some (.slice la ll.length lc)) (first | (exact ⟨q5, q6⟩) | (exact ⟨r5, r6⟩) | go_keep) (first
        | (have qq := B6.out; go_at_call 19; refine Calls.mono (E2.out _ (Below.trans B6.out (Below.mono (by go_grown) B6.out.size))) ?_; rintro e7 w7 ⟨rfl, b7⟩; have r5 : w7.cell? ⟨wr.heap.size, 5, none⟩ = some (.slice ba b.length bc) := (b7.cell (p := ⟨wr.heap.size, 5, none⟩) (by simpa using z6)).trans (by simpa [go_sem] using q5); have r6 : w7.cell? ⟨wr.heap.size, 6, none⟩ = some (.slice la ll.length lc) := (b7.cell (p := ⟨wr.heap.size, 6, none⟩) (by simpa using z6)).trans (by simpa [go_sem] using q6); have B7 : Hid (Below w.heap.size w w7) := B.out.trans ((Below.trans (Below.trans B6.out (Below.mono (by go_grown) B6.out.size)) (b7.mono (Nat.le_trans B6.out.size (by go_size)))).mono B.out.size); clear b7)
        | (go_at_call 19; refine Calls.mono (E1.out _ (by go_grown)) ?_; rintro e5 w5 ⟨rfl, b5⟩; have b6 : Below (wr.alloc (smB k n p m ea e.length ec ba b.length bc la ll.length lc)).heap.size (wr.alloc (smB k n p m ea e.length ec ba b.length bc la ll.length lc)) w5 := Below.trans (by go_grown) (b5.mono (by go_size)); have q5 : w5.cell? ⟨wr.heap.size, 5, none⟩ = some (.slice ba b.length bc) := (b6.cell (p := ⟨wr.heap.size, 5, none⟩) (by simp)).trans (by simp [go_sem]); have q6 : w5.cell? ⟨wr.heap.size, 6, none⟩ = some (.slice la ll.length lc) := (b6.cell (p := ⟨wr.heap.size, 6, none⟩) (by simp)).trans (by simp [go_sem]); have z6 : wr.heap.size < w5.heap.size := Nat.lt_of_lt_of_le (by simp) b6.size; have B6 : Hid (Below wr.heap.size wr w5) := (box_below wr _).trans (b6.mono (by simp)); clear b5 b6))
      all_goals
        have l1 := HL.out
        go_wp2_with fail
        go_roundw
        case rel =>
          have n1 := N.out
          have t1 := TT.out
          have b1 := HB.out
          have e1 : IntKind.i64.wrap ((Sy.cts b : Int) + Sy.cts ll) = (Sy.cts b : Int) + Sy.cts ll := by rw [IntKind.wrap_i64]; omega
          have e2 : IntKind.i64.wrap (s + ((Sy.cts b : Int) + Sy.cts ll)) = s + ((Sy.cts b : Int) + Sy.cts ll) := by rw [IntKind.wrap_i64]; omega
          exact ⟨j + 1, s + ((Sy.cts b : Int) + Sy.cts ll), by omega, by go_num, by rw [e1, e2], (by omega : s + ((Sy.cts b : Int) + Sy.cts ll) + (j + 1 : Nat) = l.length + Sy.cts (l.take (j + 1))), B7.out⟩
        case measure => simp [intOf]; omega
    · obtain rfl : j = l.length := by omega
      have G : Hid (s = (Sy.cts l : Int)) := by have := N.out; rw [List.take_length] at this; exact (by omega : s = (Sy.cts l : Int))
      clear N
      go_wp2_with fail
      go_ret
      exact ⟨ret_num G.out, B.out⟩
theorem ckCount_st (x : Sy.St) : ctP 19 x := by
  induction x using Sy.ind with
  | h k n p m e b l hb hl => exact ⟨k, n, p, m, e, b, l, rfl, ckCount_loop b hb, ckCount_loop l hl⟩
/-- count of all statements. -/
theorem ckCount_any (l : List Sy.St) : ctC 19 l := ckCount_loop l fun x _ => ckCount_st x
end Go.Proofs.Ytobiedmmjiedlaa

namespace Go.Proofs.Ytobiedmmjiedlaa
open Go.RowKit
set_option linter.unusedVariables false
set_option linter.unusedSimpArgs false
namespace Sy
mutual
/-- A statement, and those in its blocks, in order of marks. -/
def rw : St → List St
  | .mk k n p m e b l => .mk k n p m e b l :: (rws b ++ rws l)
def rws : List St → List St
  | [] => []
  | s :: r => rw s ++ rws r
end
mutual
theorem rw_len : ∀ s : St, (rw s).length = ct s
  | .mk k n p m e b l => by
    rw [rw, ct, List.length_cons, List.length_append, rws_len b, rws_len l]
    omega
theorem rws_len : ∀ l : List St, (rws l).length = cts l
  | [] => by simp [rws, cts]
  | s :: r => by rw [rws, cts, List.length_append, rw_len s, rws_len r]
end
theorem rws_app : ∀ (a b : List St), rws (a ++ b) = rws a ++ rws b
  | [], b => by simp [rws]
  | s :: r, b => by rw [List.cons_append, rws, rws, rws_app r b, List.append_assoc]
theorem rws_at {l : List St} {j : Nat} {x : St} (h : l[j]? = some x) (i : Nat) (hi : i < ct x) : (rws l)[cts (l.take j) + i]? = (rw x)[i]? := by
  obtain ⟨hj, hx⟩ := List.getElem?_eq_some_iff.1 h
  have e : l = l.take j ++ (x :: l.drop (j + 1)) := by rw [← hx, ← List.drop_eq_getElem_cons hj, List.take_append_drop]
  have e2 : rws l = rws (l.take j) ++ (rw x ++ rws (l.drop (j + 1))) := by
    conv => lhs; rw [e]
    rw [rws_app, rws]
  rw [e2, List.getElem?_append_right (by rw [rws_len]; omega), rws_len, Nat.add_sub_cancel_left, List.getElem?_append_left (by rw [rw_len]; exact hi)]
theorem rw_zero (k : Int) (n p : List UInt8) (m : Int) (e : List Sx.Ex) (b l : List St) : (rw (.mk k n p m e b l))[0]? = some (.mk k n p m e b l) := by rw [rw]; rfl
theorem rw_body (k : Int) (n p : List UInt8) (m : Int) (e : List Sx.Ex) (b l : List St) (i : Nat) (hi : i < cts b) : (rw (.mk k n p m e b l))[1 + i]? = (rws b)[i]? := by
  rw [rw, Nat.add_comm, List.getElem?_cons_succ, List.getElem?_append_left (by rw [rws_len]; exact hi)]
theorem rw_els (k : Int) (n p : List UInt8) (m : Int) (e : List Sx.Ex) (b l : List St) (i : Nat) : (rw (.mk k n p m e b l))[1 + cts b + i]? = (rws l)[i]? := by
  rw [rw, show 1 + cts b + i = (cts b + i) + 1 by omega, List.getElem?_cons_succ, List.getElem?_append_right (by rw [rws_len]; omega), rws_len, Nat.add_sub_cancel_left]
end Sy
theorem wrF {x : Int} (h0 : 0 ≤ x) (h1 : x ≤ 2000000000000000) : wrap64 x = x := by unfold wrap64; omega
theorem wrF3 {s tb tl : Nat} (h : s + 1 + tb + tl ≤ 1000000000000000) : wrap64 ((s : Int) + 1) = (s : Int) + 1 ∧ wrap64 ((s : Int) + 1 + tb) = (s : Int) + 1 + tb ∧ wrap64 ((s : Int) + 1 + tb + tl) = (s : Int) + 1 + tb + tl := ⟨wrF (by omega) (by omega), wrF (by omega) (by omega), wrF (by omega) (by omega)⟩
set_option maxRecDepth 100000 in
set_option maxHeartbeats 2000000 in
theorem total_loop (l : List Sy.St) (hP : ∀ x, x ∈ l → ctP 20 x) : ctC 20 l := by
  intro A sa sc w hb hs
  have HS := hidC hs
  have HP := hidC hP
  have HB := hidC hb
  have hl := Nat.le_trans (Sy.len_cts l) hb
  obtain ⟨N, hN⟩ : ∃ N, N = l.length := ⟨_, rfl⟩
  have HN := hidC hN
  rw [← hN] at HS hl ⊢
  obtain ⟨T, hT⟩ : ∃ T, T = Sy.cts l := ⟨_, rfl⟩
  have HT := hidC hT
  rw [← hT]
  clear hP hs hb hN hT
  go_enter Try.func20, Try.ntmps20
  go_wp2_with fail
  go_loopg [3, 4] N (fun gk v i wr => ∃ (j s : Nat), j + gk = N ∧ i = .int .i64 j ∧ v = .int .i64 s ∧ Hid (s = Sy.cts (l.take j)) ∧ Hid (Below w.heap.size w wr))
  case atStart => exact ⟨0, 0, by omega, rfl, rfl, hidC (by simp [Sy.cts]), Below.refl _ _⟩
  case round =>
    obtain ⟨j, s, hj, rfl, rfl, HSu, KR⟩ := hrel
    rcases gk with _ | gk
    · obtain rfl : j = N := by omega
      have d1 : decide ((j : Int) < (j : Int)) = false := decide_eq_false (by omega)
      have hsT : s = T := by rw [HSu.out, HT.out, HN.out, List.take_length]
      subst hsT
      go_wp2_with fail
      go_ret
      exact ⟨rfl, KR.out⟩
    · have d1 : decide ((j : Int) < (N : Int)) = true := decide_eq_true (by omega)
      have d1n : decide (j < N) = true := decide_eq_true (by omega)
      have hjN : j < N := by omega
      obtain ⟨g, o, k, n, p, m, ea, ec, ba, bc, la, lc, e, b, ll, rfl, ha, hg, el, h1⟩ := (HS.out.later KR.out (Nat.le_refl _)).part j (by rw [← HN.out]; exact hjN)
      obtain ⟨k', n', p', m', e', b', l', ex, zb, zl⟩ := HP.out _ (List.mem_of_getElem? el)
      injection ex with x1 x2 x3 x4 x5 x6 x7
      subst x1 x2 x3 x4 x5 x6 x7
      have T1 := Sy.cts_take el
      have T2 := Sy.cts_at el
      rw [Sy.ct] at T1 T2
      have hbl := HB.out
      have EB := hidC (fun (W : World) (q : Below wr.heap.size wr W) => zb A ba bc W (by omega) (h1.hb.later q (Nat.le_refl _)))
      have ELs := hidC (fun (W : World) (q : Below wr.heap.size wr W) => zl A la lc W (by omega) (h1.hl.later q (Nat.le_refl _)))
      obtain ⟨-, -, -, -, -, c5, c6, -, -, -⟩ := h1
      have HGL : Hid (g < wr.heap.size) := hg
      obtain ⟨bn, hbn⟩ : ∃ n, n = b.length := ⟨_, rfl⟩
      obtain ⟨ln, hln⟩ : ∃ n, n = ll.length := ⟨_, rfl⟩
      obtain ⟨tb, htb⟩ : ∃ n, n = Sy.cts b := ⟨_, rfl⟩
      obtain ⟨tl, htl⟩ : ∃ n, n = Sy.cts ll := ⟨_, rfl⟩
      rw [← hbn] at EB c5
      rw [← hln] at ELs c6
      rw [← htb] at EB
      rw [← htl] at ELs
      rw [← htb, ← htl] at T1 T2
      have HS1 : Hid (s + 1 + tb + tl = Sy.cts (l.take (j + 1)) ∧ s + 1 + tb + tl ≤ 1000000000000000) := by have := HSu.out; unfold Hid; omega
      obtain ⟨w1', w2', w3'⟩ := wrF3 HS1.out.2
      clear hbn hln htb htl T1 T2 hbl el zb zl ha hg HSu
      go_wp2_with fail
      refine (EB.out _ (Below.refl _ _)).mono ?_
      rintro e1 w1 ⟨rfl, k1⟩
      have K1 := hidC k1
      have c6' := (K1.out.cell (p := ⟨g, o + j * 7 + 6, none⟩) HGL.out).trans c6
      clear k1 c5 c6
      go_wp2_with fail
      refine (ELs.out _ K1.out).mono ?_
      rintro e2 w2 ⟨rfl, k2⟩
      have K2 := hidC (KR.out.trans ((K1.out.trans (k2.mono K1.out.size)).mono KR.out.size))
      clear k2 c6'
      go_wp2_with fail
      go_roundg gk
      case measure => omega
      case rel => exact ⟨j + 1, s + 1 + tb + tl, by omega, by go_num, by first | go_num | (exact congrArg _ (by omega)), HS1.out.1, K2⟩
theorem total_st (x : Sy.St) : ctP 20 x := by
  induction x using Sy.ind with
  | h k n p m e b l hb hl => exact ⟨k, n, p, m, e, b, l, rfl, total_loop b hb, total_loop l hl⟩
theorem total_any (l : List Sy.St) : ctC 20 l := total_loop l fun x _ => total_st x
end Go.Proofs.Ytobiedmmjiedlaa

namespace Go.Proofs.Ytobiedmmjiedlaa
open Go.RowKit
set_option linter.unusedVariables false
set_option linter.unusedSimpArgs false
def Fb (w : World) (M : Nat) (lv : Int) (c0 c1 c2 c3 c4 c5 c6 : Value) : Prop := w.heap[M]? = some (.cells #[.int .i64 lv, c0, c1, c2, c3, c4, c5, c6] 59 (0, 0))
theorem gbF {a b c : World} {o : Option Nat} (h : a.grownBy b o) (k : b.grownBy c o) : a.grownBy c o :=
  ⟨k.os.trans h.os, k.tape.trans h.tape, k.output.trans h.output, Nat.le_trans h.size k.size, fun i hi hn => (k.block i (Nat.lt_of_lt_of_le hi h.size) hn).trans (h.block i hi hn)⟩
theorem gbF0 {a b : World} (h : Below a.heap.size a b) (o : Option Nat) : a.grownBy b o := ⟨h.os, h.tape, h.output, h.size, fun i hi _ => h.block i hi⟩
theorem gbSet (w : World) (M i : Nat) (x : Value) : w.grownBy (w.setCell ⟨M, i, none⟩ x) (some M) := ⟨rfl, rfl, rfl, by simp, fun j _ hn => heap_setCell_other _ _ j _ (by intro e; exact hn (by rw [e]))⟩
section
variable {w w' : World} {M : Nat} {lv : Int} {c0 c1 c2 c3 c4 c5 c6 : Value}
theorem Fb.lt (h : Fb w M lv c0 c1 c2 c3 c4 c5 c6) : M < w.heap.size := (Array.getElem?_eq_some_iff.1 h).1
theorem Fb.later (h : Fb w M lv c0 c1 c2 c3 c4 c5 c6) (b : Below w.heap.size w w') : Fb w' M lv c0 c1 c2 c3 c4 c5 c6 := (b.block M h.lt).trans h
theorem Fb.lf (h : Fb w M lv c0 c1 c2 c3 c4 c5 c6) : w.cell? ⟨M, 0, none⟩ = some (.int .i64 lv) := by unfold Fb at h; simp [World.cell?, h]
theorem Fb.fz (h : Fb w M lv c0 c1 c2 c3 c4 c5 c6) (i : Nat) : w.frozen? ⟨M, i, none⟩ = false := by unfold Fb at h; simp [World.frozen?, h]
theorem Fb.cells (h : Fb w M lv c0 c1 c2 c3 c4 c5 c6) : w.cell? ⟨M, 1, none⟩ = some c0 ∧ w.cell? ⟨M, 2, none⟩ = some c1 ∧ w.cell? ⟨M, 3, none⟩ = some c2 ∧ w.cell? ⟨M, 4, none⟩ = some c3 ∧ w.cell? ⟨M, 5, none⟩ = some c4 ∧ w.cell? ⟨M, 6, none⟩ = some c5 ∧ w.cell? ⟨M, 7, none⟩ = some c6 := by
  unfold Fb at h
  refine ⟨?_, ?_, ?_, ?_, ?_, ?_, ?_⟩ <;> simp [World.cell?, h]
theorem Fb.set (h : Fb w M lv c0 c1 c2 c3 c4 c5 c6) (x : Int) : Fb (w.setCell ⟨M, 0, none⟩ (.int .i64 x)) M x c0 c1 c2 c3 c4 c5 c6 := by
  have h1 := heap_setCell_same _ M 0 _ _ (.int .i64 x) h
  unfold Fb
  rw [h1]
  simp
theorem Fb.fill (h : Fb w M lv c0 c1 c2 c3 c4 c5 c6) (d0 d1 d2 d3 d4 d5 d6 : Value) : Fb (((((((w.setCell ⟨M, 1, none⟩ d0).setCell ⟨M, 2, none⟩ d1).setCell ⟨M, 3, none⟩ d2).setCell ⟨M, 4, none⟩ d3).setCell ⟨M, 5, none⟩ d4).setCell ⟨M, 6, none⟩ d5).setCell ⟨M, 7, none⟩ d6) M lv d0 d1 d2 d3 d4 d5 d6 ∧
    w.grownBy (((((((w.setCell ⟨M, 1, none⟩ d0).setCell ⟨M, 2, none⟩ d1).setCell ⟨M, 3, none⟩ d2).setCell ⟨M, 4, none⟩ d3).setCell ⟨M, 5, none⟩ d4).setCell ⟨M, 6, none⟩ d5).setCell ⟨M, 7, none⟩ d6) (some M) := by
  have h0 := heap_setCell_same _ M 1 _ _ d0 h
  have h1 := heap_setCell_same _ M 2 _ _ d1 h0
  have h2 := heap_setCell_same _ M 3 _ _ d2 h1
  have h3 := heap_setCell_same _ M 4 _ _ d3 h2
  have h4 := heap_setCell_same _ M 5 _ _ d4 h3
  have h5 := heap_setCell_same _ M 6 _ _ d5 h4
  have h6 := heap_setCell_same _ M 7 _ _ d6 h5
  refine ⟨?_, gbF (gbF (gbF (gbF (gbF (gbF (gbSet _ _ _ _) (gbSet _ _ _ _)) (gbSet _ _ _ _)) (gbSet _ _ _ _)) (gbSet _ _ _ _)) (gbSet _ _ _ _)) (gbSet _ _ _ _)⟩
  unfold Fb
  rw [h6]
  simp
end
theorem SmS.gb {w w' : World} {M : Nat} {sl : Value} {l : List Sy.St} (h : SmS (fun g => g < M) w sl l) (q : w.grownBy w' (Option.some M)) : SmS (fun g => g < M) w' sl l :=
  h.keep (fun _ _ a => a) (fun a hA hq => World.cell?_of_block (w := w) (q.block _ hq (by have h : a.block < M := hA; simp; omega))) q.size
theorem ExS.gb {w w' : World} {M : Nat} {sl : Value} {l : List Sx.Ex} (h : ExS (fun g => g < M) w sl l) (q : w.grownBy w' (Option.some M)) : ExS (fun g => g < M) w' sl l :=
  h.keep (fun _ _ a => a) (fun a hA hq => World.cell?_of_block (w := w) (q.block _ hq (by have h : a.block < M := hA; simp; omega))) q.size
/-- What was found. -/
def Fnd (M : Nat) (x : Option Sy.St) (w : World) : Prop := ∃ k n p m e b l sa sc ba bc la lc, x = some (.mk k n p m e b l) ∧ Fb w M 0 (.int .i64 k) (.string ⟨(n : List UInt8).toArray⟩) (.string ⟨(p : List UInt8).toArray⟩) (.int .i64 m) (.slice sa (e : List Sx.Ex).length sc) (.slice ba (b : List Sy.St).length bc) (.slice la (l : List Sy.St).length lc) ∧
  ExS (fun g => g < M) w (.slice sa e.length sc) e ∧ SmS (fun g => g < M) w (.slice ba b.length bc) b ∧ SmS (fun g => g < M) w (.slice la l.length lc) l
def FnC (l : List Sy.St) : Prop := ∀ (M : Nat) (sa : Option Addr) (sc : Nat) (w : World) (q : Nat) (c0 c1 c2 c3 c4 c5 c6 : Value), 1 ≤ q → q ≤ 9223372036854775807 → SmS (fun g => g < M) w (.slice sa l.length sc) l → Fb w M q c0 c1 c2 c3 c4 c5 c6 →
  (q ≤ Sy.cts l → Calls Try.prog 15 #[.pointer (some ⟨M, 0, none⟩), .slice sa l.length sc] w fun e w' => e = .returned (.bool true) ∧ w.grownBy w' (some M) ∧ Fnd M ((Sy.rws l)[q - 1]?) w') ∧
  (Sy.cts l < q → Calls Try.prog 15 #[.pointer (some ⟨M, 0, none⟩), .slice sa l.length sc] w fun e w' => e = .returned (.bool false) ∧ w.grownBy w' (some M) ∧ Fb w' M ((q - Sy.cts l : Nat) : Int) c0 c1 c2 c3 c4 c5 c6)
def FnP (x : Sy.St) : Prop := ∃ k n p m e b l, x = .mk k n p m e b l ∧ FnC b ∧ FnC l
def FnQ (M q : Nat) (l : List Sy.St) (c0 c1 c2 c3 c4 c5 c6 : Value) (w : World) (e : Ending) (w' : World) : Prop :=
  (q ≤ Sy.cts l ∧ e = .returned (.bool true) ∧ w.grownBy w' (some M) ∧ Fnd M ((Sy.rws l)[q - 1]?) w') ∨ (Sy.cts l < q ∧ e = .returned (.bool false) ∧ w.grownBy w' (some M) ∧ Fb w' M ((q - Sy.cts l : Nat) : Int) c0 c1 c2 c3 c4 c5 c6)
theorem Sy.ct_mem {x : Sy.St} {l : List Sy.St} (h : x ∈ l) : Sy.ct x ≤ Sy.cts l := by
  obtain ⟨j, hj⟩ := List.getElem?_of_mem h
  have := Sy.cts_at hj
  omega
theorem Bs.lt1 {w : World} {g : Nat} {c0 c1 c2 c3 c4 c5 c6 : Value} (h : Bs w g c0 c1 c2 c3 c4 c5 c6) : g < w.heap.size := (Array.getElem?_eq_some_iff.1 h).1
set_option maxRecDepth 100000 in
set_option maxHeartbeats 4000000 in
theorem finder_loop (l : List Sy.St) (hl : Sy.cts l ≤ 1000000000000000) (hP : ∀ x, x ∈ l → FnP x) (M : Nat) (sa : Option Addr) (sc : Nat) (w : World) (q : Nat) (o0 o1 o2 o3 o4 o5 o6 : Value) (hq1 : 1 ≤ q) (hq2 : q ≤ 9223372036854775807) (hs : SmS (fun g => g < M) w (.slice sa l.length sc) l) (hf : Fb w M q o0 o1 o2 o3 o4 o5 o6) :
    Calls Try.prog 15 #[.pointer (some ⟨M, 0, none⟩), .slice sa l.length sc] w (FnQ M q l o0 o1 o2 o3 o4 o5 o6 w) := by
  have HS := hidC hs
  have HP := hidC hP
  have HF := hidC hf
  have HB := hidC hl
  have HQ : Hid (1 ≤ q ∧ q ≤ 9223372036854775807) := ⟨hq1, hq2⟩
  have hll := Nat.le_trans (Sy.len_cts l) hl
  obtain ⟨N, hN⟩ : ∃ N, N = l.length := ⟨_, rfl⟩
  have HN := hidC hN
  rw [← hN] at HS hll ⊢
  clear hs hP hf hN hl hq1 hq2
  go_enter Try.func15, Try.ntmps15
  go_wp2_with fail
  go_loopg [9] N (fun gk i wr => ∃ j : Nat, j + gk = N ∧ i = .int .i64 j ∧ Hid (Sy.cts (l.take j) < q) ∧ Hid (Fb wr M ((q - Sy.cts (l.take j) : Nat) : Int) o0 o1 o2 o3 o4 o5 o6) ∧ Hid (w.grownBy wr (some M)))
  case atStart => exact ⟨0, by omega, rfl, by have := HQ.out; simp [Sy.cts, Hid]; omega, by rw [show q - Sy.cts (l.take 0) = q by simp [Sy.cts]]; exact HF.out, gbF0 (Below.refl _ _) _⟩
  case round =>
    obtain ⟨j, hj, rfl, HC, HFb, KR⟩ := hrel
    rcases gk with _ | gk
    · obtain rfl : j = N := by omega
      have d1 : decide ((j : Int) < (j : Int)) = false := decide_eq_false (by omega)
      have FIN : Hid (FnQ M q l o0 o1 o2 o3 o4 o5 o6 w (.returned (.bool false)) wr) := by
        have e : l.take j = l := by rw [HN.out, List.take_length]
        have h1 := HC.out
        have h2 := HFb.out
        rw [e] at h1 h2
        exact .inr ⟨h1, rfl, KR.out, h2⟩
      go_wp2_with fail
      go_ret
      exact FIN.out
    · have d1 : decide ((j : Int) < (N : Int)) = true := decide_eq_true (by omega)
      have d1n : decide (j < N) = true := decide_eq_true (by omega)
      have hjN : j < N := by omega
      obtain ⟨g, o, k, n, p, m, ea, ec, ba, bc, la, lc, e, b, ll, rfl, ha, hg, el, h1⟩ := (HS.out.gb KR.out).part j (by rw [← HN.out]; exact hjN)
      obtain ⟨k', n', p', m', e', b', l', ex, zb, zl⟩ := HP.out _ (List.mem_of_getElem? el)
      injection ex with x1 x2 x3 x4 x5 x6 x7
      subst x1 x2 x3 x4 x5 x6 x7
      have T1 := Sy.cts_take el
      have T2 := Sy.cts_at el
      have TA := hidC (fun i (hi : i < Sy.ct (.mk k n p m e b ll)) => Sy.rws_at el i hi)
      rw [Sy.ct] at T1 T2
      have hbl := HB.out
      have hcq := HC.out
      obtain ⟨L, hL⟩ : ∃ L, L = q - Sy.cts (l.take j) := ⟨_, rfl⟩
      have HLq : Hid (L + Sy.cts (l.take j) = q ∧ 1 ≤ L ∧ L ≤ 9223372036854775807) := by have := HQ.out; unfold Hid; omega
      rw [← hL] at HFb
      have HE := hidC h1.he
      have HBb := hidC h1.hb
      have HLl := hidC h1.hl
      obtain ⟨c0, c1, c2, c3, c4, c5, c6, -, -, -⟩ := h1
      have hMl := HFb.out.lt
      obtain ⟨W1, hW1⟩ : ∃ W, W = wr.alloc (.cells #[.int .i64 k, .string ⟨n.toArray⟩, .string ⟨p.toArray⟩, .int .i64 m, .slice ea e.length ec, .slice ba b.length bc, .slice la ll.length lc] 33) := ⟨_, rfl⟩
      have B1 : Hid (Below wr.heap.size wr W1) := by rw [hW1]; exact box_below wr _
      obtain ⟨X, hX⟩ : ∃ X, X = wr.heap.size := ⟨_, rfl⟩
      have BX1 : Hid (Bs W1 X (.int .i64 k) (.string ⟨n.toArray⟩) (.string ⟨p.toArray⟩) (.int .i64 m) (.slice ea e.length ec) (.slice ba b.length bc) (.slice la ll.length lc)) := by rw [hW1, hX]; exact heap_alloc_new wr _
      have hXM : X ≠ M := by omega
      have F1 := hidC (HFb.out.later B1.out)
      obtain ⟨z, hz⟩ : ∃ z, z = (L : Int) - 1 := ⟨_, rfl⟩
      obtain ⟨W2, hW2⟩ : ∃ W, W = W1.setCell ⟨M, 0, none⟩ (.int .i64 z) := ⟨_, rfl⟩
      have F2 : Hid (Fb W2 M z o0 o1 o2 o3 o4 o5 o6) := by rw [hW2]; exact F1.out.set _
      have BX2 : Hid (Bs W2 X (.int .i64 k) (.string ⟨n.toArray⟩) (.string ⟨p.toArray⟩) (.int .i64 m) (.slice ea e.length ec) (.slice ba b.length bc) (.slice la ll.length lc)) := by
        have h := BX1.out
        unfold Bs at h
        show Bs _ _ _ _ _ _ _ _ _
        unfold Bs
        rw [hW2, heap_setCell_other _ _ _ _ (by simpa using hXM)]
        exact h
      have K2 : Hid (wr.grownBy W2 (some M)) := by rw [hW2]; exact gbF (gbF0 B1.out _) (gbSet _ _ _ _)
      have a0 := F1.out.lf
      have af := F1.out.fz 0
      have wL : wrap64 ((L : Int) - 1) = z := by rw [hz]; have := HLq.out; unfold wrap64; omega
      have HZ := hidC hz
      have EB := hidC (fun (W : World) (L1 : Nat) (i1 : 1 ≤ L1) (i2 : L1 ≤ 9223372036854775807) (gr : wr.grownBy W (some M)) (f : Fb W M L1 o0 o1 o2 o3 o4 o5 o6) => zb M ba bc W L1 o0 o1 o2 o3 o4 o5 o6 i1 i2 (HBb.out.gb gr) f)
      have EL := hidC (fun (W : World) (L1 : Nat) (i1 : 1 ≤ L1) (i2 : L1 ≤ 9223372036854775807) (gr : wr.grownBy W (some M)) (f : Fb W M L1 o0 o1 o2 o3 o4 o5 o6) => zl M la lc W L1 o0 o1 o2 o3 o4 o5 o6 i1 i2 (HLl.out.gb gr) f)
      obtain ⟨en, hen⟩ : ∃ n, n = e.length := ⟨_, rfl⟩
      obtain ⟨bn, hbn⟩ : ∃ n, n = b.length := ⟨_, rfl⟩
      obtain ⟨ln, hln⟩ : ∃ n, n = ll.length := ⟨_, rfl⟩
      have HEN := hidC hen
      have HBN := hidC hbn
      have HLN := hidC hln
      rw [← hen] at hW1 BX2 c4
      rw [← hbn] at hW1 BX2 c5 EB
      rw [← hln] at hW1 BX2 c6 EL
      have HT1 := hidC T1
      have HT2 := hidC T2
      have HXM := hidC hXM
      clear hen hbn hln el zb zl ha hg T1 T2 hbl hcq hL HFb F1 BX1 hMl hXM hz
      go_upto_region 4 with fail
      rw [← hW1, ← hX]
      clear hW1 hX
      go_upto_region 5 with fail
      rw [← hW2]
      clear hW2 a0 af c0 c1 c2 c3 c4 c5 c6
      have a0 := F2.out.lf
      obtain ⟨c0, c1, c2, c3, c4, c5, c6⟩ := BX2.out.cells
      by_cases h1L : L = 1
      · have q0 : (z == 0) = true := by rw [HZ.out, h1L]; rfl
        obtain ⟨v0, v1, v2, v3, v4, v5, v6⟩ := F2.out.cells
        have y1 := F2.out.fz 1
        have y2 := F2.out.fz 2
        have y3 := F2.out.fz 3
        have y4 := F2.out.fz 4
        have y5 := F2.out.fz 5
        have y6 := F2.out.fz 6
        have y7 := F2.out.fz 7
        have FIN : Hid (FnQ M q l o0 o1 o2 o3 o4 o5 o6 w (.returned (.bool true)) (((((((W2.setCell ⟨M, 1, none⟩ (.int .i64 k)).setCell ⟨M, 2, none⟩ (.string ⟨n.toArray⟩)).setCell ⟨M, 3, none⟩ (.string ⟨p.toArray⟩)).setCell ⟨M, 4, none⟩ (.int .i64 m)).setCell ⟨M, 5, none⟩ (.slice ea en ec)).setCell ⟨M, 6, none⟩ (.slice ba bn bc)).setCell ⟨M, 7, none⟩ (.slice la ln lc))) := by
          obtain ⟨f1, f2⟩ := F2.out.fill (.int .i64 k) (.string ⟨n.toArray⟩) (.string ⟨p.toArray⟩) (.int .i64 m) (.slice ea en ec) (.slice ba bn bc) (.slice la ln lc)
          have h1 := HLq.out
          have h2 := HT2.out
          have gw := gbF K2.out f2
          have z0 : z = 0 := by rw [HZ.out, h1L]; rfl
          rw [z0] at f1
          refine .inl ⟨by omega, rfl, gbF KR.out gw, k, n, p, m, e, b, ll, ea, ec, ba, bc, la, lc, ?_, by rw [← HEN.out, ← HBN.out, ← HLN.out]; exact f1, HE.out.gb gw, HBb.out.gb gw, HLl.out.gb gw⟩
          rw [show q - 1 = Sy.cts (l.take j) + 0 by omega, TA.out 0 (by rw [Sy.ct]; omega)]
          exact Sy.rw_zero k n p m e b ll
        go_wp2_with fail
        go_ret
        exact FIN.out
      · have q0 : (z == 0) = false := by have := HLq.out; have := HZ.out; simp; omega
        obtain ⟨L1, hL1⟩ : ∃ L1, L1 = L - 1 := ⟨_, rfl⟩
        have HL1 : Hid (L1 + 1 + Sy.cts (l.take j) = q ∧ 1 ≤ L1 ∧ L1 ≤ 9223372036854775807) := by have := HLq.out; unfold Hid; omega
        have F3 : Hid (Fb W2 M (L1 : Nat) o0 o1 o2 o3 o4 o5 o6) := by
          have e : ((L1 : Nat) : Int) = z := by rw [HZ.out]; have := HLq.out; omega
          rw [e]
          exact F2.out
        have EB2 := hidC (EB.out W2 L1 HL1.out.2.1 HL1.out.2.2 K2.out F3.out)
        clear hL1 EB F2 F3
        by_cases hb : L1 ≤ Sy.cts b
        · have FIN : Hid (∀ w3, W2.grownBy w3 (some M) → Fnd M ((Sy.rws b)[L1 - 1]?) w3 → FnQ M q l o0 o1 o2 o3 o4 o5 o6 w (.returned (.bool true)) w3) := fun w3 g3 f3 => by
            have h1 := HL1.out
            have h2 := HT2.out
            refine .inl ⟨by omega, rfl, gbF KR.out (gbF K2.out g3), ?_⟩
            rw [show q - 1 = Sy.cts (l.take j) + (1 + (L1 - 1)) by omega, TA.out _ (by rw [Sy.ct]; omega), Sy.rw_body k n p m e b ll _ (by omega)]
            exact f3
          have EB3 := hidC (EB2.out.1 hb)
          clear EB2
          go_wp2_with fail
          refine EB3.out.mono ?_
          rintro e1 w3 ⟨rfl, g3, f3⟩
          have FF := hidC (FIN.out w3 g3 f3)
          clear g3 f3
          go_wp2_with fail
          go_ret
          exact FF.out
        · have hb' : Sy.cts b < L1 := by omega
          have EB3 := hidC (EB2.out.2 hb')
          obtain ⟨L2, hL2⟩ : ∃ L2, L2 = L1 - Sy.cts b := ⟨_, rfl⟩
          have HL2 : Hid (L2 + Sy.cts b = L1 ∧ 1 ≤ L2 ∧ L2 ≤ 9223372036854775807) := by have := HL1.out; unfold Hid; omega
          rw [← hL2] at EB3
          clear EB2 hL2 hb
          by_cases hl2 : L2 ≤ Sy.cts ll
          · have FIN : Hid (∀ w3 w4, W2.grownBy w3 (some M) → w3.grownBy w4 (some M) → Fnd M ((Sy.rws ll)[L2 - 1]?) w4 → FnQ M q l o0 o1 o2 o3 o4 o5 o6 w (.returned (.bool true)) w4) := fun w3 w4 g3 g4 f4 => by
              have h1 := HL1.out
              have h2 := HT2.out
              have h3 := HL2.out
              refine .inl ⟨by omega, rfl, gbF KR.out (gbF K2.out (gbF g3 g4)), ?_⟩
              rw [show q - 1 = Sy.cts (l.take j) + (1 + Sy.cts b + (L2 - 1)) by omega, TA.out _ (by rw [Sy.ct]; omega), Sy.rw_els k n p m e b ll]
              exact f4
            have EL3 := hidC (fun W gr f => (EL.out W L2 HL2.out.2.1 HL2.out.2.2 gr f).1 hl2)
            clear EL
            go_wp2_with fail
            refine EB3.out.mono ?_
            rintro e1 w3 ⟨rfl, g3, f3⟩
            have G3 := hidC g3
            have F4 := hidC (EL3.out w3 (gbF K2.out g3) f3)
            have BX3 : Hid (Bs w3 X (.int .i64 k) (.string ⟨n.toArray⟩) (.string ⟨p.toArray⟩) (.int .i64 m) (.slice ea en ec) (.slice ba bn bc) (.slice la ln lc)) := (g3.block X BX2.out.lt1 (by have := HXM.out; simp; exact this)).trans BX2.out
            clear g3 f3 c0 c1 c2 c3 c4 c5 c6
            obtain ⟨-, -, -, -, -, -, c6⟩ := BX3.out.cells
            go_wp2_with fail
            refine F4.out.mono ?_
            rintro e2 w4 ⟨rfl, g4, f4⟩
            have FF := hidC (FIN.out w3 w4 G3.out g4 f4)
            clear g4 f4
            go_wp2_with fail
            go_ret
            exact FF.out
          · have hl3 : Sy.cts ll < L2 := by omega
            have EL3 := hidC (fun W gr f => (EL.out W L2 HL2.out.2.1 HL2.out.2.2 gr f).2 hl3)
            have HN2 : Hid (Sy.cts (l.take (j + 1)) < q ∧ L2 - Sy.cts ll = q - Sy.cts (l.take (j + 1))) := by
              have h1 := HL1.out
              have h2 := HT1.out
              have h3 := HL2.out
              unfold Hid
              omega
            clear EL hl2 hl3
            go_wp2_with fail
            refine EB3.out.mono ?_
            rintro e1 w3 ⟨rfl, g3, f3⟩
            have G3 := hidC (gbF K2.out g3)
            have F4 := hidC (EL3.out w3 (gbF K2.out g3) f3)
            have BX3 : Hid (Bs w3 X (.int .i64 k) (.string ⟨n.toArray⟩) (.string ⟨p.toArray⟩) (.int .i64 m) (.slice ea en ec) (.slice ba bn bc) (.slice la ln lc)) := (g3.block X BX2.out.lt1 (by have := HXM.out; simp; exact this)).trans BX2.out
            clear g3 f3 c0 c1 c2 c3 c4 c5 c6
            obtain ⟨-, -, -, -, -, -, c6⟩ := BX3.out.cells
            go_wp2_with fail
            refine F4.out.mono ?_
            rintro e2 w4 ⟨rfl, g4, f4⟩
            rw [HN2.out.2] at f4
            have F5 := hidC f4
            have G5 := hidC (gbF KR.out (gbF G3.out g4))
            clear g4 f4 c6
            go_wp2_with fail
            go_roundg gk
            case measure => omega
            case rel => exact ⟨j + 1, by omega, by go_num, HN2.out.1, F5, G5⟩
theorem finder_any (l : List Sy.St) (hl : Sy.cts l ≤ 1000000000000000) (hP : ∀ x, x ∈ l → FnP x) : FnC l := by
  intro M sa sc w q c0 c1 c2 c3 c4 c5 c6 h1 h2 hs hf
  have h := finder_loop l hl hP M sa sc w q c0 c1 c2 c3 c4 c5 c6 h1 h2 hs hf
  refine ⟨fun hq => h.mono fun e w' hQ => ?_, fun hq => h.mono fun e w' hQ => ?_⟩
  · rcases hQ with ⟨_, a, b, c⟩ | ⟨a, _⟩
    · exact ⟨a, b, c⟩
    · omega
  · rcases hQ with ⟨a, _⟩ | ⟨_, a, b, c⟩
    · omega
    · exact ⟨a, b, c⟩
theorem finder_st (x : Sy.St) : Sy.ct x ≤ 1000000000000000 → FnP x := by
  refine Sy.ind (P := fun x => Sy.ct x ≤ 1000000000000000 → FnP x) (fun k n p m e b l ihb ihl h => ?_) x
  rw [Sy.ct] at h
  exact ⟨k, n, p, m, e, b, l, rfl, finder_any b (by omega) fun x hx => ihb x hx (Nat.le_trans (Sy.ct_mem hx) (by omega)), finder_any l (by omega) fun x hx => ihl x hx (Nat.le_trans (Sy.ct_mem hx) (by omega))⟩
end Go.Proofs.Ytobiedmmjiedlaa

namespace Go.Proofs.Ytobiedmmjiedlaa
open Go.RowKit

set_option maxRecDepth 100000 in
set_option maxHeartbeats 2000000 in
theorem ckIsArray_any (x : CkVa) (w : World) : Calls Try.prog 68 #[vaV x] w fun e w' => e = .returned (.bool (decide (0 < x.sz))) ∧ Below w.heap.size w w' := by
  unfold vaV
  go_enter Try.func68, Try.ntmps68
  go_wp2_with fail
  go_ret
  exact ⟨rfl, by go_grown⟩
def ckSi (l : List CkVa) (n : List UInt8) (m : Int) : Except Int Int :=
  match ckNm l n m with
  | none => .error 40
  | some x => if 0 < x.sz then .error 41 else .ok x.ty
set_option maxRecDepth 100000 in
set_option maxHeartbeats 2000000 in
theorem ckSingle_no (p : Nat) (sa : Option Addr) (c : Nat) (l : List CkVa) (m : Int) (n : List UInt8) (w : World) (h : Sco w p sa c l m) (hn : ckNm l n m = none) : Calls Try.prog 42 #[.pointer (some ⟨p, 0, none⟩), .string ⟨n.toArray⟩] w fun e w' => e = ckPan 40 ∧ Below w.heap.size w w' := by
  have EN : Hid (∀ W, Below w.heap.size w W → Calls Try.prog 67 #[.pointer (some ⟨p, 0, none⟩), .string ⟨n.toArray⟩] W fun e w' => e = ckPan 40 ∧ Below W.heap.size W w') := fun W hW => ckNamed_no p sa c l m n W (h.later hW) hn
  clear h hn
  go_enter Try.func42, Try.ntmps42
  go_wp2_with fail
  refine Calls.mono (EN.out _ (by go_grown)) ?_
  rintro e w1 ⟨rfl, b1⟩
  have B1 : Hid (Below w.heap.size w w1) := Below.trans (by go_grown) (b1.mono (by go_size))
  clear b1
  unfold ckPan
  go_wp2_with fail
  exact ⟨rfl, rfl, B1.out⟩
set_option maxRecDepth 100000 in
set_option maxHeartbeats 2000000 in
theorem ckSingle_yes (p : Nat) (sa : Option Addr) (c : Nat) (l : List CkVa) (m : Int) (n : List UInt8) (w : World) (h : Sco w p sa c l m) (x : CkVa) (hn : ckNm l n m = some x) (hs : ¬ 0 < x.sz) : Calls Try.prog 42 #[.pointer (some ⟨p, 0, none⟩), .string ⟨n.toArray⟩] w fun e w' => e = .returned (.int .i64 x.ty) ∧ Below w.heap.size w w' := by
  have EN : Hid (∀ W, Below w.heap.size w W → Calls Try.prog 67 #[.pointer (some ⟨p, 0, none⟩), .string ⟨n.toArray⟩] W fun e w' => e = .returned (vaV x) ∧ Below W.heap.size W w') := fun W hW => ckNamed_yes p sa c l m n W (h.later hW) x hn
  have EA : Hid (∀ W, Calls Try.prog 68 #[.agg #[.string ⟨x.name.toArray⟩, .int .i64 x.ty, .int .i64 x.sz, .int .i64 x.fr, .int .i64 x.tl]] W fun e w' => e = .returned (.bool false) ∧ Below W.heap.size W w') := fun W => by have := ckIsArray_any x W; rw [decide_eq_false hs] at this; exact this
  clear h hn hs
  go_enter Try.func42, Try.ntmps42
  go_wp2_with fail
  refine Calls.mono (EN.out _ (by go_grown)) ?_
  rintro e w1 ⟨rfl, b1⟩
  have B1 : Hid (Below w.heap.size w w1) := Below.trans (by go_grown) (b1.mono (by go_size))
  clear b1
  unfold vaV
  go_wp2_with fail
  refine Calls.mono (EA.out _) ?_
  rintro e w2 ⟨rfl, b2⟩
  have B2 : Hid (Below w.heap.size w w2) := (B1.out.trans ((box_below w1 _).mono B1.out.size)).trans (b2.mono (by have := B1.out.size; simp; omega))
  have q1 : w2.cell? ⟨w1.heap.size, 1, none⟩ = some (.int .i64 x.ty) := (b2.cell (p := ⟨w1.heap.size, 1, none⟩) (by simp)).trans (by simp [go_sem])
  clear b2
  go_wp2_with fail
  refine Calls.mono (ckMust_yes _ _) ?_
  rintro e w3 ⟨rfl, rfl⟩
  go_wp2_with fail
  go_ret
  exact ⟨rfl, B2.out⟩
set_option maxRecDepth 100000 in
set_option maxHeartbeats 2000000 in
theorem ckSingle_arr (p : Nat) (sa : Option Addr) (c : Nat) (l : List CkVa) (m : Int) (n : List UInt8) (w : World) (h : Sco w p sa c l m) (x : CkVa) (hn : ckNm l n m = some x) (hs : 0 < x.sz) : Calls Try.prog 42 #[.pointer (some ⟨p, 0, none⟩), .string ⟨n.toArray⟩] w fun e w' => e = ckPan 41 ∧ Below w.heap.size w w' := by
  have EN : Hid (∀ W, Below w.heap.size w W → Calls Try.prog 67 #[.pointer (some ⟨p, 0, none⟩), .string ⟨n.toArray⟩] W fun e w' => e = .returned (vaV x) ∧ Below W.heap.size W w') := fun W hW => ckNamed_yes p sa c l m n W (h.later hW) x hn
  have EA : Hid (∀ W, Calls Try.prog 68 #[.agg #[.string ⟨x.name.toArray⟩, .int .i64 x.ty, .int .i64 x.sz, .int .i64 x.fr, .int .i64 x.tl]] W fun e w' => e = .returned (.bool true) ∧ Below W.heap.size W w') := fun W => by have := ckIsArray_any x W; rw [decide_eq_true hs] at this; exact this
  clear h hn hs
  go_enter Try.func42, Try.ntmps42
  go_wp2_with fail
  refine Calls.mono (EN.out _ (by go_grown)) ?_
  rintro e w1 ⟨rfl, b1⟩
  have B1 : Hid (Below w.heap.size w w1) := Below.trans (by go_grown) (b1.mono (by go_size))
  clear b1
  unfold vaV
  go_wp2_with fail
  refine Calls.mono (EA.out _) ?_
  rintro e w2 ⟨rfl, b2⟩
  have B2 : Hid (Below w.heap.size w w2) := (B1.out.trans ((box_below w1 _).mono B1.out.size)).trans (b2.mono (by have := B1.out.size; simp; omega))
  clear b2
  go_wp2_with fail
  refine Calls.mono (ckMust_no _ _) ?_
  rintro e w3 ⟨rfl, b3⟩
  have B3 : Hid (Below w.heap.size w w3) := B2.out.trans (b3.mono B2.out.size)
  clear b3
  unfold ckPan
  go_wp2_with fail
  exact ⟨rfl, rfl, B3.out⟩
theorem ckSingle_any (p : Nat) (sa : Option Addr) (c : Nat) (l : List CkVa) (m : Int) (n : List UInt8) (w : World) (h : Sco w p sa c l m) : Calls Try.prog 42 #[.pointer (some ⟨p, 0, none⟩), .string ⟨n.toArray⟩] w fun e w' => e = ckEnd (ckSi l n m) ∧ Below w.heap.size w w' := by
  cases hn : ckNm l n m with
  | none =>
    have : ckSi l n m = .error 40 := by unfold ckSi; rw [hn]
    rw [this]
    exact ckSingle_no p sa c l m n w h hn
  | some x =>
    by_cases hs : 0 < x.sz
    · have : ckSi l n m = .error 41 := by unfold ckSi; rw [hn]; exact if_pos hs
      rw [this]
      exact ckSingle_arr p sa c l m n w h x hn hs
    · have : ckSi l n m = .ok x.ty := by unfold ckSi; rw [hn]; exact if_neg hs
      rw [this]
      exact ckSingle_yes p sa c l m n w h x hn hs
/-- An array's name, or what is thrown. -/
def ckAr (l : List CkVa) (n : List UInt8) (m : Int) : Option Int :=
  match ckNm l n m with
  | none => some 40
  | some x => if 0 < x.sz then none else some 41
def ckEndU : Option Int → Ending
  | none => .returned (.tuple #[])
  | some e => ckPan e
set_option maxRecDepth 100000 in
set_option maxHeartbeats 2000000 in
theorem ckArray_no (p : Nat) (sa : Option Addr) (c : Nat) (l : List CkVa) (m : Int) (n : List UInt8) (w : World) (h : Sco w p sa c l m) (hn : ckNm l n m = none) : Calls Try.prog 43 #[.pointer (some ⟨p, 0, none⟩), .string ⟨n.toArray⟩] w fun e w' => e = ckPan 40 ∧ Below w.heap.size w w' := by
  have EN : Hid (∀ W, Below w.heap.size w W → Calls Try.prog 67 #[.pointer (some ⟨p, 0, none⟩), .string ⟨n.toArray⟩] W fun e w' => e = ckPan 40 ∧ Below W.heap.size W w') := fun W hW => ckNamed_no p sa c l m n W (h.later hW) hn
  clear h hn
  go_enter Try.func43, Try.ntmps43
  go_wp2_with fail
  refine Calls.mono (EN.out _ (by go_grown)) ?_
  rintro e w1 ⟨rfl, b1⟩
  have B1 : Hid (Below w.heap.size w w1) := Below.trans (by go_grown) (b1.mono (by go_size))
  clear b1
  unfold ckPan
  go_wp2_with fail
  exact ⟨rfl, rfl, B1.out⟩
set_option maxRecDepth 100000 in
set_option maxHeartbeats 2000000 in
theorem ckArray_yes (p : Nat) (sa : Option Addr) (c : Nat) (l : List CkVa) (m : Int) (n : List UInt8) (w : World) (h : Sco w p sa c l m) (x : CkVa) (hn : ckNm l n m = some x) (hs : 0 < x.sz) : Calls Try.prog 43 #[.pointer (some ⟨p, 0, none⟩), .string ⟨n.toArray⟩] w fun e w' => e = .returned (.tuple #[]) ∧ Below w.heap.size w w' := by
  have EN : Hid (∀ W, Below w.heap.size w W → Calls Try.prog 67 #[.pointer (some ⟨p, 0, none⟩), .string ⟨n.toArray⟩] W fun e w' => e = .returned (vaV x) ∧ Below W.heap.size W w') := fun W hW => ckNamed_yes p sa c l m n W (h.later hW) x hn
  have EA : Hid (∀ W, Calls Try.prog 68 #[.agg #[.string ⟨x.name.toArray⟩, .int .i64 x.ty, .int .i64 x.sz, .int .i64 x.fr, .int .i64 x.tl]] W fun e w' => e = .returned (.bool true) ∧ Below W.heap.size W w') := fun W => by have := ckIsArray_any x W; rw [decide_eq_true hs] at this; exact this
  clear h hn hs
  go_enter Try.func43, Try.ntmps43
  go_wp2_with fail
  refine Calls.mono (EN.out _ (by go_grown)) ?_
  rintro e w1 ⟨rfl, b1⟩
  have B1 : Hid (Below w.heap.size w w1) := Below.trans (by go_grown) (b1.mono (by go_size))
  clear b1
  unfold vaV
  go_wp2_with fail
  refine Calls.mono (EA.out _) ?_
  rintro e w2 ⟨rfl, b2⟩
  have B2 : Hid (Below w.heap.size w w2) := B1.out.trans (b2.mono B1.out.size)
  clear b2
  go_wp2_with fail
  refine Calls.mono (ckMust_yes _ _) ?_
  rintro e w3 ⟨rfl, rfl⟩
  go_wp2_with fail
  exact ⟨rfl, .tuple #[], by simp [results, Try.results43, go_sem], rfl, B2.out⟩
set_option maxRecDepth 100000 in
set_option maxHeartbeats 2000000 in
theorem ckArray_one (p : Nat) (sa : Option Addr) (c : Nat) (l : List CkVa) (m : Int) (n : List UInt8) (w : World) (h : Sco w p sa c l m) (x : CkVa) (hn : ckNm l n m = some x) (hs : ¬ 0 < x.sz) : Calls Try.prog 43 #[.pointer (some ⟨p, 0, none⟩), .string ⟨n.toArray⟩] w fun e w' => e = ckPan 41 ∧ Below w.heap.size w w' := by
  have EN : Hid (∀ W, Below w.heap.size w W → Calls Try.prog 67 #[.pointer (some ⟨p, 0, none⟩), .string ⟨n.toArray⟩] W fun e w' => e = .returned (vaV x) ∧ Below W.heap.size W w') := fun W hW => ckNamed_yes p sa c l m n W (h.later hW) x hn
  have EA : Hid (∀ W, Calls Try.prog 68 #[.agg #[.string ⟨x.name.toArray⟩, .int .i64 x.ty, .int .i64 x.sz, .int .i64 x.fr, .int .i64 x.tl]] W fun e w' => e = .returned (.bool false) ∧ Below W.heap.size W w') := fun W => by have := ckIsArray_any x W; rw [decide_eq_false hs] at this; exact this
  clear h hn hs
  go_enter Try.func43, Try.ntmps43
  go_wp2_with fail
  refine Calls.mono (EN.out _ (by go_grown)) ?_
  rintro e w1 ⟨rfl, b1⟩
  have B1 : Hid (Below w.heap.size w w1) := Below.trans (by go_grown) (b1.mono (by go_size))
  clear b1
  unfold vaV
  go_wp2_with fail
  refine Calls.mono (EA.out _) ?_
  rintro e w2 ⟨rfl, b2⟩
  have B2 : Hid (Below w.heap.size w w2) := B1.out.trans (b2.mono B1.out.size)
  clear b2
  go_wp2_with fail
  refine Calls.mono (ckMust_no _ _) ?_
  rintro e w3 ⟨rfl, b3⟩
  have B3 : Hid (Below w.heap.size w w3) := B2.out.trans (b3.mono B2.out.size)
  clear b3
  unfold ckPan
  go_wp2_with fail
  exact ⟨rfl, rfl, B3.out⟩
theorem ckArray_any (p : Nat) (sa : Option Addr) (c : Nat) (l : List CkVa) (m : Int) (n : List UInt8) (w : World) (h : Sco w p sa c l m) : Calls Try.prog 43 #[.pointer (some ⟨p, 0, none⟩), .string ⟨n.toArray⟩] w fun e w' => e = ckEndU (ckAr l n m) ∧ Below w.heap.size w w' := by
  cases hn : ckNm l n m with
  | none =>
    have : ckAr l n m = some 40 := by unfold ckAr; rw [hn]
    rw [this]
    exact ckArray_no p sa c l m n w h hn
  | some x =>
    by_cases hs : 0 < x.sz
    · have : ckAr l n m = none := by unfold ckAr; rw [hn]; exact if_pos hs
      rw [this]
      exact ckArray_yes p sa c l m n w h x hn hs
    · have : ckAr l n m = some 41 := by unfold ckAr; rw [hn]; exact if_neg hs
      rw [this]
      exact ckArray_one p sa c l m n w h x hn hs
end Go.Proofs.Ytobiedmmjiedlaa

namespace Go.Proofs.Ytobiedmmjiedlaa
open Go.RowKit

def exV (k : Int) (n : List UInt8) (m : Int) (sa : Option Addr) (sn sc : Nat) : Value := .agg #[.int .i64 k, .string ⟨n.toArray⟩, .int .i64 m, .slice sa sn sc]
set_option maxRecDepth 100000 in
set_option maxHeartbeats 2000000 in
theorem ckTy_form (q : Value) (k : Int) (n : List UInt8) (m : Int) (sa : Option Addr) (sn sc : Nat) (w : World) (hb : ckBu k m sn = false) : Calls Try.prog 27 #[q, exV k n m sa sn sc] w fun e w' => e = ckEnd (.error 32) ∧ Below w.heap.size w w' := by
  have EB : Hid (∀ W, Calls Try.prog 41 #[.agg #[.int .i64 k, .string ⟨n.toArray⟩, .int .i64 m, .slice sa sn sc]] W fun e w' => e = .returned (.bool false) ∧ Below W.heap.size W w') := fun W => by have := ckBuilt_any k n m sa sn sc W; rw [hb] at this; exact this
  clear hb
  unfold exV
  go_enter Try.func27, Try.ntmps27
  go_wp2_with fail
  refine Calls.mono (EB.out _) ?_
  rintro e w1 ⟨rfl, b1⟩
  have B1 : Hid (Below w.heap.size w w1) := Below.trans (by go_grown) (b1.mono (by go_size))
  clear b1
  go_wp2_with fail
  refine Calls.mono (ckMust_no _ _) ?_
  rintro e w2 ⟨rfl, b2⟩
  have B2 : Hid (Below w.heap.size w w2) := B1.out.trans (b2.mono B1.out.size)
  clear b2
  unfold ckPan
  go_wp2_with fail
  exact ⟨rfl, rfl, B2.out⟩
set_option maxRecDepth 100000 in
set_option maxHeartbeats 2000000 in
theorem ckTy_int (q : Value) (n : List UInt8) (m : Int) (sa : Option Addr) (sn sc : Nat) (w : World) (hb : ckBu 1 m sn = true) : Calls Try.prog 27 #[q, exV 1 n m sa sn sc] w fun e w' => e = ckEnd (.ok 1) ∧ Below w.heap.size w w' := by
  have EB : Hid (∀ W, Calls Try.prog 41 #[.agg #[.int .i64 1, .string ⟨n.toArray⟩, .int .i64 m, .slice sa sn sc]] W fun e w' => e = .returned (.bool true) ∧ Below W.heap.size W w') := fun W => by have := ckBuilt_any 1 n m sa sn sc W; rw [hb] at this; exact this
  clear hb
  unfold exV
  go_enter Try.func27, Try.ntmps27
  go_wp2_with fail
  refine Calls.mono (EB.out _) ?_
  rintro e w1 ⟨rfl, b1⟩
  have B1 : Hid (Below w.heap.size w w1) := Below.trans (by go_grown) (b1.mono (by go_size))
  have z1 : w.heap.size < w1.heap.size := Nat.lt_of_lt_of_le (by simp) b1.size
  have d0 : w1.cell? ⟨w.heap.size, 0, none⟩ = some (.int .i64 1) := (b1.cell (p := ⟨w.heap.size, 0, none⟩) (by simp)).trans (by simp [go_sem])
  have d1 : w1.cell? ⟨w.heap.size, 1, none⟩ = some (.string ⟨n.toArray⟩) := (b1.cell (p := ⟨w.heap.size, 1, none⟩) (by simp)).trans (by simp [go_sem])
  have d3 : w1.cell? ⟨w.heap.size, 3, none⟩ = some (.slice sa sn sc) := (b1.cell (p := ⟨w.heap.size, 3, none⟩) (by simp)).trans (by simp [go_sem])
  clear b1
  go_wp2_with fail
  refine Calls.mono (ckMust_yes _ _) ?_
  rintro e w2 ⟨rfl, rfl⟩
  go_wp2_with fail
  go_ret
  exact ⟨rfl, B1.out⟩
set_option maxRecDepth 100000 in
set_option maxHeartbeats 2000000 in
theorem ckTy_bool (q : Value) (n : List UInt8) (m : Int) (sa : Option Addr) (sn sc : Nat) (w : World) (hb : ckBu 2 m sn = true) : Calls Try.prog 27 #[q, exV 2 n m sa sn sc] w fun e w' => e = ckEnd (.ok 2) ∧ Below w.heap.size w w' := by
  have EB : Hid (∀ W, Calls Try.prog 41 #[.agg #[.int .i64 2, .string ⟨n.toArray⟩, .int .i64 m, .slice sa sn sc]] W fun e w' => e = .returned (.bool true) ∧ Below W.heap.size W w') := fun W => by have := ckBuilt_any 2 n m sa sn sc W; rw [hb] at this; exact this
  clear hb
  unfold exV
  go_enter Try.func27, Try.ntmps27
  go_wp2_with fail
  refine Calls.mono (EB.out _) ?_
  rintro e w1 ⟨rfl, b1⟩
  have B1 : Hid (Below w.heap.size w w1) := Below.trans (by go_grown) (b1.mono (by go_size))
  have z1 : w.heap.size < w1.heap.size := Nat.lt_of_lt_of_le (by simp) b1.size
  have d0 : w1.cell? ⟨w.heap.size, 0, none⟩ = some (.int .i64 2) := (b1.cell (p := ⟨w.heap.size, 0, none⟩) (by simp)).trans (by simp [go_sem])
  have d1 : w1.cell? ⟨w.heap.size, 1, none⟩ = some (.string ⟨n.toArray⟩) := (b1.cell (p := ⟨w.heap.size, 1, none⟩) (by simp)).trans (by simp [go_sem])
  have d3 : w1.cell? ⟨w.heap.size, 3, none⟩ = some (.slice sa sn sc) := (b1.cell (p := ⟨w.heap.size, 3, none⟩) (by simp)).trans (by simp [go_sem])
  clear b1
  go_wp2_with fail
  refine Calls.mono (ckMust_yes _ _) ?_
  rintro e w2 ⟨rfl, rfl⟩
  go_wp2_with fail
  go_ret
  exact ⟨rfl, B1.out⟩
set_option maxRecDepth 100000 in
set_option maxHeartbeats 2000000 in
theorem ckTy_var (p : Nat) (va : Option Addr) (vc : Nat) (l : List CkVa) (mk : Int) (n : List UInt8) (m : Int) (sa : Option Addr) (sn sc : Nat) (w : World) (h : Sco w p va vc l mk) (hb : ckBu 3 m sn = true) (r : Except Int Int) (hr : ckSi l n mk = r) : Calls Try.prog 27 #[.pointer (some ⟨p, 0, none⟩), exV 3 n m sa sn sc] w fun e w' => e = ckEnd r ∧ Below w.heap.size w w' := by
  have ES : Hid (∀ W, Below w.heap.size w W → Calls Try.prog 42 #[.pointer (some ⟨p, 0, none⟩), .string ⟨n.toArray⟩] W fun e w' => e = ckEnd r ∧ Below W.heap.size W w') := fun W hW => by have := ckSingle_any p va vc l mk n W (h.later hW); rw [hr] at this; exact this
  have EB : Hid (∀ W, Calls Try.prog 41 #[.agg #[.int .i64 3, .string ⟨n.toArray⟩, .int .i64 m, .slice sa sn sc]] W fun e w' => e = .returned (.bool true) ∧ Below W.heap.size W w') := fun W => by have := ckBuilt_any 3 n m sa sn sc W; rw [hb] at this; exact this
  clear hb hr h
  unfold exV
  go_enter Try.func27, Try.ntmps27
  go_wp2_with fail
  refine Calls.mono (EB.out _) ?_
  rintro e w1 ⟨rfl, b1⟩
  have B1 : Hid (Below w.heap.size w w1) := Below.trans (by go_grown) (b1.mono (by go_size))
  have z1 : w.heap.size < w1.heap.size := Nat.lt_of_lt_of_le (by simp) b1.size
  have d0 : w1.cell? ⟨w.heap.size, 0, none⟩ = some (.int .i64 3) := (b1.cell (p := ⟨w.heap.size, 0, none⟩) (by simp)).trans (by simp [go_sem])
  have d1 : w1.cell? ⟨w.heap.size, 1, none⟩ = some (.string ⟨n.toArray⟩) := (b1.cell (p := ⟨w.heap.size, 1, none⟩) (by simp)).trans (by simp [go_sem])
  have d3 : w1.cell? ⟨w.heap.size, 3, none⟩ = some (.slice sa sn sc) := (b1.cell (p := ⟨w.heap.size, 3, none⟩) (by simp)).trans (by simp [go_sem])
  clear b1
  go_wp2_with fail
  refine Calls.mono (ckMust_yes _ _) ?_
  rintro e w2 ⟨rfl, rfl⟩
  go_wp2_with fail
  refine Calls.mono (ES.out _ B1.out) ?_
  rintro e w3 ⟨rfl, b3⟩
  have B3 : Hid (Below w.heap.size w w3) := B1.out.trans (b3.mono B1.out.size)
  clear b3
  cases r with
  | ok t =>
    dsimp only [ckEnd]
    go_wp2_with fail
    go_ret
    exact ⟨rfl, B3.out⟩
  | error er =>
    dsimp only [ckEnd, ckPan]
    go_wp2_with fail
    exact ⟨rfl, rfl, B3.out⟩
end Go.Proofs.Ytobiedmmjiedlaa
