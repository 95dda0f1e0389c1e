/- Layer 5: what expressions are worth, which may trap, what folding makes of them: plain functions, as the program reckons. -/
/- Layer 5: which expressions are built as they must be; signs; numbers of two (the program's). -/
/- Layer 5: what a sign makes of two numbers; a list's places (the program's). -/
/- Layer 5: what an expression is worth, for every expression and all values (the program's). -/
/- Layer 5: worth and Eval, whole (the program's). -/
/- Layer 5: worth, whole (the program's). -/
/- Layer 5: which expressions may trap (the program's Traps). -/
/- Layer 5: Eval (the program's), where the values' calls are known; without values. -/
/- Layer 5: values in memory, and what they tell of a name. -/
/- Layer 4: variables in memory; Find, for every variables. -/
import Derived.Test.YtfpabjdhibmefaaZSynB
import Derived.Test.YtfpabjdhibmefaaZGrG
import Derived.Test.YtfpabjdhibmefaaZSynH
import Derived.Test.YtfpabjdhibmefaaZSypG
import Derived.Test.YtfpabjdhibmefaaZSynP
import Derived.Test.YtfpabjdhibmefaaZCkC
import Derived.BigQuiet
namespace Go.Proofs.Ytfpabjdhibmefaa.Fo
open Go.RowKit Sx

/-- An induction over expressions. -/
theorem ind {P : Ex → Prop} (h : ∀ k n m l, (∀ x, x ∈ l → P x) → P (.mk k n m l)) (x : Ex) : P x :=
  Ex.rec (motive_1 := P) (motive_2 := fun l => ∀ x, x ∈ l → P x) (fun k n m l ih => h k n m l ih) (fun _ hx => by cases hx) (fun a l ha hl x hx => by
    rcases List.mem_cons.1 hx with rfl | hx
    · exact ha
    · exact hl x hx) x
def isRe (s : List UInt8) : Bool := decide (s = [43]) || decide (s = [45]) || decide (s = [42]) || decide (s = [47]) || decide (s = [37])
def isTe (s : List UInt8) : Bool := decide (s = [61, 61]) || decide (s = [33, 61]) || decide (s = [60]) || decide (s = [60, 61]) || decide (s = [38, 38]) || decide (s = [124, 124])
def built (k : Int) (n : List UInt8) (c : Nat) : Bool :=
  if k = 1 then decide (c = 0) else if k = 2 then decide (c = 0) else if k = 3 then decide (c = 0)
  else if k = 4 then decide (c = 1)
  else if k = 5 then decide (c = 1) && isUn n
  else if k = 6 then decide (c = 2) && (isRe n || isTe n)
  else false
def bI (b : Bool) : Int := if b then 1 else 0
/-- Two numbers with a sign between. -/
def re (a : Int) (s : List UInt8) (b : Int) : Int × Int :=
  if s = [43] then (wrap64 (a + b), 0) else if s = [45] then (wrap64 (a - b), 0) else if s = [42] then (wrap64 (a * b), 0)
  else if s = [47] then (if b = 0 then (0, 1) else (Pl.quot a b, 0))
  else if s = [37] then (if b = 0 then (0, 1) else (Pl.rest a b, 0))
  else if s = [60] then (bI (decide (a < b)), 0) else if s = [60, 61] then (bI (decide (a ≤ b)), 0)
  else if s = [61, 61] then (bI (decide (a = b)), 0) else if s = [33, 61] then (bI (decide (¬ a = b)), 0)
  else (bI (decide (¬ b = 0)), 0)
/-- What an expression is worth, and its trap; T: names' numbers and lists. -/
def wo (T : List UInt8 → Int × List Int) : Ex → Int × Int
  | .mk k n m l =>
    if built k n l.length = false then (0, 0)
    else if k = 1 then (m, 0)
    else if k = 2 then (bI (decide (m = 1)), 0)
    else if k = 3 then ((T n).1, 0)
    else match l with
      | [] => (0, 0)
      | [a] => if ¬ (wo T a).2 = 0 then (0, (wo T a).2)
        else if k = 4 then (if 0 ≤ (wo T a).1 ∧ (wo T a).1 < ((T n).2.length : Int) then ((T n).2.getD (wo T a).1.toNat 0, 0) else (0, 2))
        else if n = [33] then (bI (decide ((wo T a).1 = 0)), 0) else (wrap64 (-(wo T a).1), 0)
      | a :: b :: _ => if ¬ (wo T a).2 = 0 then (0, (wo T a).2)
        else if (n = [38, 38] ∧ (wo T a).1 = 0) ∨ (n = [124, 124] ∧ ¬ (wo T a).1 = 0) then (bI (decide (¬ (wo T a).1 = 0)), 0)
        else if ¬ (wo T b).2 = 0 then (0, (wo T b).2) else re (wo T a).1 n (wo T b).1
theorem wo_no {T : List UInt8 → Int × List Int} {k : Int} {n : List UInt8} {m : Int} {l : List Ex} (h : built k n l.length = false) : wo T (.mk k n m l) = (0, 0) := by
  match l, h with
  | [], h => rw [wo, if_pos h]
  | [a], h => rw [wo, if_pos h]
  | a :: b :: r, h => rw [wo, if_pos h]
theorem wo_int {T : List UInt8 → Int × List Int} {n : List UInt8} {m : Int} {l : List Ex} (h : ¬ built 1 n l.length = false) : wo T (.mk 1 n m l) = (m, 0) := by
  match l, h with
  | [], h => rw [wo, if_neg h, if_pos rfl]
  | [a], h => rw [wo, if_neg h, if_pos rfl]
  | a :: b :: r, h => rw [wo, if_neg h, if_pos rfl]
theorem wo_bool {T : List UInt8 → Int × List Int} {n : List UInt8} {m : Int} {l : List Ex} (h : ¬ built 2 n l.length = false) : wo T (.mk 2 n m l) = (bI (decide (m = 1)), 0) := by
  match l, h with
  | [], h => rw [wo, if_neg h, if_neg (by decide), if_pos rfl]
  | [a], h => rw [wo, if_neg h, if_neg (by decide), if_pos rfl]
  | a :: b :: r, h => rw [wo, if_neg h, if_neg (by decide), if_pos rfl]
theorem wo_var {T : List UInt8 → Int × List Int} {n : List UInt8} {m : Int} {l : List Ex} (h : ¬ built 3 n l.length = false) : wo T (.mk 3 n m l) = ((T n).1, 0) := by
  match l, h with
  | [], h => rw [wo, if_neg h, if_neg (by decide), if_neg (by decide), if_pos rfl]
  | [a], h => rw [wo, if_neg h, if_neg (by decide), if_neg (by decide), if_pos rfl]
  | a :: b :: r, h => rw [wo, if_neg h, if_neg (by decide), if_neg (by decide), if_pos rfl]
theorem len_two {α : Type} {l : List α} (h : l.length = 2) : ∃ a b, l = [a, b] := by
  match l, h with
  | [a, b], _ => exact ⟨a, b, rfl⟩
end Go.Proofs.Ytfpabjdhibmefaa.Fo

namespace Go.Proofs.Ytfpabjdhibmefaa
open Go.RowKit

end Go.Proofs.Ytfpabjdhibmefaa

namespace Go.Proofs.Ytfpabjdhibmefaa
open Go.RowKit

theorem ret_two {a b a' b' : Int} (h1 : a = a') (h2 : b = b') : Ending.returned (.tuple #[.int .i64 a, .int .i64 b]) = .returned (.tuple #[.int .i64 a', .int .i64 b']) := by rw [h1, h2]
end Go.Proofs.Ytfpabjdhibmefaa

namespace Go.Proofs.Ytfpabjdhibmefaa
open Go.RowKit

/-- A slice of numbers. -/
def Li (w : World) (sa : Option Addr) (sn : Nat) (l : List Int) : Prop := sn = l.length ∧ (0 < l.length → ∃ b o, sa = some ⟨b, o, none⟩ ∧ b < w.heap.size ∧ ∀ j, j < l.length → w.cell? ⟨b, o + j, none⟩ = some (.int .i64 (l.getD j 0)))
/-- The parts of an expression, as they lie. -/
theorem ExS.part {A : Nat → Prop} {w : World} {sa : Option Addr} {sn sc : Nat} {l : List Sx.Ex} (h : ExS A w (.slice sa sn sc) l) (j : Nat) (hj : j < l.length) : ∃ g o k n m sa' sn' sc' ll, sa = Option.some ⟨g, o, Option.none⟩ ∧ g < w.heap.size ∧ l[j]? = Option.some (.mk k n m ll) ∧
    w.cell? ⟨g, o + j * 4, Option.none⟩ = Option.some (.int .i64 k) ∧ w.cell? ⟨g, o + j * 4 + 1, Option.none⟩ = Option.some (.string ⟨(n : List UInt8).toArray⟩) ∧ w.cell? ⟨g, o + j * 4 + 2, Option.none⟩ = Option.some (.int .i64 m) ∧ w.cell? ⟨g, o + j * 4 + 3, Option.none⟩ = Option.some (.slice sa' sn' sc') ∧ ExS A w (.slice sa' sn' sc') ll := by
  obtain ⟨g, o, cap, e, hc, ha, hg, hx⟩ := h.inv (by omega)
  cases e
  obtain ⟨k, n, m, sa', sn', sc', ll, e, c0, c1, c2, c3, hs⟩ := hx.get j hj
  exact ⟨g, o, k, n, m, sa', sn', sc', ll, rfl, hg, e, c0, c1, c2, c3, hs⟩
end Go.Proofs.Ytfpabjdhibmefaa

namespace Go.Proofs.Ytfpabjdhibmefaa
open Go.RowKit

end Go.Proofs.Ytfpabjdhibmefaa

namespace Go.Proofs.Ytfpabjdhibmefaa
open Go.RowKit

end Go.Proofs.Ytfpabjdhibmefaa

namespace Go.Proofs.Ytfpabjdhibmefaa
open Go.RowKit

namespace Fo
open Sx
/-- No list of parts is very long. -/
inductive Bnd : Ex → Prop
  | mk (k : Int) (n : List UInt8) (m : Int) (l : List Ex) (hl : l.length ≤ 1000000) (h : ∀ x, x ∈ l → Bnd x) : Bnd (.mk k n m l)
def dv (k : Int) (n : List UInt8) : Bool := decide (k = 6) && (decide (n = [47]) || decide (n = [37]))
def above : Ex → Bool
  | .mk k n m l => built k n l.length && decide (k = 1) && decide (0 < m)
mutual
def tr : Ex → Bool
  | .mk k n _ l => decide (k = 4) || (dv k n && !(built k n l.length && above (l.getD 1 (.mk 0 [] 0 [])))) || trs l
def trs : List Ex → Bool
  | [] => false
  | a :: r => tr a || trs r
end
theorem trs_mem : ∀ {l : List Ex} {j : Nat} {x : Ex}, l[j]? = some x → tr x = true → trs l = true
  | [], j, x, h, _ => by simp at h
  | a :: r, 0, x, h, hx => by
    have e : a = x := by simpa using h
    rw [trs, e, hx]; rfl
  | a :: r, j + 1, x, h, hx => by
    have e := trs_mem (l := r) (j := j) (by simpa using h) hx
    rw [trs, e, Bool.or_true]
theorem trs_none : ∀ {l : List Ex}, (∀ (j : Nat) (x : Ex), l[j]? = some x → tr x = false) → trs l = false
  | [], _ => by rw [trs]
  | a :: r, h => by
    rw [trs, h 0 a rfl, trs_none (l := r) (fun j x hx => h (j + 1) x (by simpa using hx))]
    rfl
end Fo
/-- The loop over the parts. -/
def TrLoop (l : List Sx.Ex) (w : World) (i : Value) (wr : World) : Prop := ∃ j : Nat, j ≤ l.length ∧ i = .int .i64 j ∧ Below w.heap.size w wr ∧ Hid (∀ (q : Nat) (x : Sx.Ex), q < j → l[q]? = some x → Fo.tr x = false)
end Go.Proofs.Ytfpabjdhibmefaa

namespace Go.Proofs.Ytfpabjdhibmefaa
open Go.RowKit

/-- No values. -/
def T0 : List UInt8 → Int × List Int := fun _ => (0, [])
set_option maxRecDepth 100000 in
set_option maxHeartbeats 1000000 in
theorem index_none (a : Option Addr) (c : Nat) (n : List UInt8) (w : World) : Calls Try.prog 54 #[.slice a 0 c, .string ⟨n.toArray⟩] w fun e w' => e = .returned (.int .i64 (-1)) ∧ w' = w := by
  go_enter Try.func54, Try.ntmps54
  go_wp2_with fail
  refine wp_loop_rounds 1 ?_
  rw [rounds_succ]
  go_wp2_with fail
  go_ret
  exact ⟨rfl, rfl⟩
end Go.Proofs.Ytfpabjdhibmefaa

namespace Go.Proofs.Ytfpabjdhibmefaa
open Go.RowKit

/-- A slice of texts. -/
def Tx (w : World) (sa : Option Addr) (l : List (List UInt8)) : Prop := l.length ≤ 1000000000000000 ∧ (0 < l.length → ∃ b o, sa = some ⟨b, o, none⟩ ∧ b < w.heap.size ∧ ∀ j, j < l.length → w.cell? ⟨b, o + j, none⟩ = some (.string ⟨(l.getD j []).toArray⟩))
theorem Tx.later {w w' : World} {sa : Option Addr} {l : List (List UInt8)} (h : Tx w sa l) (b : Below w.heap.size w w') : Tx w' sa l :=
  ⟨h.1, fun h0 => by
    obtain ⟨g, o, e, hg, hc⟩ := h.2 h0
    exact ⟨g, o, e, Nat.lt_of_lt_of_le hg b.size, fun j hj => (b.cell (p := ⟨g, o + j, none⟩) hg).trans (hc j hj)⟩⟩
/-- Where a name stands first. -/
def ixn : List (List UInt8) → List UInt8 → Nat → Int
  | [], _, _ => -1
  | a :: r, n, k => if a = n then k else ixn r n (k + 1)
theorem ixn_is : ∀ (l : List (List UInt8)) (n : List UInt8) (k : Nat), ixn l n k = -1 ∨ ∃ j : Nat, ixn l n k = ((k + j : Nat) : Int) ∧ j < l.length
  | [], n, k => .inl rfl
  | a :: r, n, k => by
    unfold ixn
    split
    · exact .inr ⟨0, by simp, by simp⟩
    · rcases ixn_is r n (k + 1) with h | ⟨j, h, hj⟩
      · exact .inl h
      · exact .inr ⟨j + 1, by rw [h]; congr 1; omega, by simp; omega⟩
theorem drop_getD {α : Type} {l : List α} {k : Nat} {d : α} (h : k < l.length) : l.drop k = l.getD k d :: l.drop (k + 1) := by
  rw [List.drop_eq_getElem_cons h, List.getD_eq_getElem?_getD, List.getElem?_eq_getElem h]
  rfl
theorem ixn_hit {l : List (List UInt8)} {n : List UInt8} {k : Nat} (h : k < l.length) (e : l.getD k [] = n) : ixn (l.drop k) n k = k := by
  rw [drop_getD (d := []) h, ixn, if_pos e]
theorem ixn_miss {l : List (List UInt8)} {n : List UInt8} {k : Nat} (h : k < l.length) (e : ¬ l.getD k [] = n) : ixn (l.drop k) n k = ixn (l.drop (k + 1)) n (k + 1) := by
  rw [drop_getD (d := []) h, ixn, if_neg e]
theorem ixn_end (l : List (List UInt8)) (n : List UInt8) : ixn (l.drop l.length) n l.length = -1 := by
  rw [List.drop_length, ixn]

set_option maxRecDepth 100000 in
set_option maxHeartbeats 1000000 in
theorem index_any (sa : Option Addr) (c : Nat) (l : List (List UInt8)) (n : List UInt8) (w : World) (h : Tx w sa l) : Calls Try.prog 54 #[.slice sa l.length c, .string ⟨n.toArray⟩] w fun e w' => e = .returned (.int .i64 (ixn l n 0)) ∧ w' = w := by
  by_cases h0 : 0 < l.length
  · obtain ⟨g, o, rfl, hg, hc⟩ := h.2 h0
    have HC : Hid _ := hc
    have HL : Hid _ := h.1
    clear hc h h0
    go_enter Try.func54, Try.ntmps54
    go_wp2
    go_loop [8] (fun i => ∃ k : Nat, k ≤ l.length ∧ i = .int .i64 k ∧ Hid (ixn (l.drop k) n k = ixn l n 0)) (fun i => l.length - (intOf i).toNat)
    case atStart => exact ⟨0, by omega, rfl, rfl⟩
    case round =>
      obtain ⟨k, hk, rfl, N⟩ := hrel
      by_cases hlt : k < l.length
      · have hc := HC.out k hlt
        have E1 : Hid (l.getD k [] = n → ixn (l.drop k) n k = k) := ixn_hit hlt
        have E2 : Hid (¬ l.getD k [] = n → ixn (l.drop k) n k = ixn (l.drop (k + 1)) n (k + 1)) := ixn_miss hlt
        generalize l.getD k [] = x at hc E1 E2
        have hkl : Hid (l.length ≤ 1000000000000000) := HL
        by_cases he : x = n
        · have heb : (n == x) = true := by rw [he]; exact beq_self_eq_true _
          have H : Hid (ixn l n 0 = k) := N.out.symm.trans (E1.out he)
          clear he
          go_wp2
          go_ret
          rw [H.out]
          exact ⟨rfl, rfl⟩
        · have heb : (n == x) = false := by simpa using fun e : n = x => he e.symm
          have N' : Hid (ixn (l.drop (k + 1)) n (k + 1) = ixn l n 0) := (E2.out he).symm.trans N.out
          clear he
          have hl2 := hkl.out
          go_wp2
          exact ⟨⟨k + 1, by omega, by go_num, N'⟩, by simp [intOf]; omega⟩
      · obtain rfl : k = l.length := by omega
        have H : Hid (ixn l n 0 = -1) := N.out.symm.trans (ixn_end l n)
        go_wp2
        go_ret
        rw [H.out]
        exact ⟨rfl, rfl⟩
  · have : l = [] := List.length_eq_zero_iff.1 (by omega)
    subst this
    exact index_none sa c n w
end Go.Proofs.Ytfpabjdhibmefaa

namespace Go.Proofs.Ytfpabjdhibmefaa
open Go.RowKit

structure CkVa where
  name : List UInt8
  ty : Int
  sz : Int
  fr : Int
  tl : Int
def ckV0 : CkVa := ⟨[], 0, 0, 0, 0⟩
/-- A variable's fields, as they lie from a place on. -/
structure VaAt (w : World) (g o : Nat) (x : CkVa) : Prop where
  c0 : w.cell? ⟨g, o, none⟩ = some (.string ⟨x.name.toArray⟩)
  c1 : w.cell? ⟨g, o + 1, none⟩ = some (.int .i64 x.ty)
  c2 : w.cell? ⟨g, o + 2, none⟩ = some (.int .i64 x.sz)
  c3 : w.cell? ⟨g, o + 3, none⟩ = some (.int .i64 x.fr)
  c4 : w.cell? ⟨g, o + 4, none⟩ = some (.int .i64 x.tl)
/-- A slice of variables. -/
def VaS (w : World) (sa : Option Addr) (l : List CkVa) : Prop := l.length ≤ 1000000000000000 ∧ (0 < l.length → ∃ g o, sa = some ⟨g, o, none⟩ ∧ g < w.heap.size ∧ ∀ j, j < l.length → VaAt w g (o + j * 5) (l.getD j ckV0))
theorem VaS.later {w w' : World} {sa : Option Addr} {l : List CkVa} (h : VaS w sa l) (b : Below w.heap.size w w') : VaS w' sa l :=
  ⟨h.1, fun h0 => by
    obtain ⟨g, o, e, hg, hc⟩ := h.2 h0
    exact ⟨g, o, e, Nat.lt_of_lt_of_le hg b.size, fun j hj => ⟨(b.cell hg).trans (hc j hj).c0, (b.cell hg).trans (hc j hj).c1, (b.cell hg).trans (hc j hj).c2, (b.cell hg).trans (hc j hj).c3, (b.cell hg).trans (hc j hj).c4⟩⟩⟩
/-- The first variable of a name that is in scope. -/
def ckFi : List CkVa → List UInt8 → Int → Nat → Int
  | [], _, _, _ => -1
  | v :: r, n, m, k => if v.name = n ∧ v.fr ≤ m ∧ m ≤ v.tl then k else ckFi r n m (k + 1)
theorem ckFi_hit {l : List CkVa} {n : List UInt8} {m : Int} {k : Nat} (h : k < l.length) (e : (l.getD k ckV0).name = n ∧ (l.getD k ckV0).fr ≤ m ∧ m ≤ (l.getD k ckV0).tl) : ckFi (l.drop k) n m k = k := by
  rw [drop_getD (d := ckV0) h, ckFi, if_pos e]
theorem ckFi_miss {l : List CkVa} {n : List UInt8} {m : Int} {k : Nat} (h : k < l.length) (e : ¬ ((l.getD k ckV0).name = n ∧ (l.getD k ckV0).fr ≤ m ∧ m ≤ (l.getD k ckV0).tl)) : ckFi (l.drop k) n m k = ckFi (l.drop (k + 1)) n m (k + 1) := by
  rw [drop_getD (d := ckV0) h, ckFi, if_neg e]
theorem ckFi_end (l : List CkVa) (n : List UInt8) (m : Int) : ckFi (l.drop l.length) n m l.length = -1 := by
  rw [List.drop_length, ckFi]
theorem ret_num {a b : Int} (h : a = b) : Ending.returned (.int .i64 a) = .returned (.int .i64 b) := by rw [h]
set_option maxRecDepth 100000 in
set_option maxHeartbeats 2000000 in
theorem ckFind_any (sa : Option Addr) (c : Nat) (l : List CkVa) (n : List UInt8) (m : Int) (w : World) (h : VaS w sa l) : Calls Try.prog 17 #[.slice sa l.length c, .string ⟨n.toArray⟩, .int .i64 m] w fun e w' => e = .returned (.int .i64 (ckFi l n m 0)) ∧ Below w.heap.size w w' := by
  have HL : Hid _ := h.1
  have HC : Hid (VaS w sa l) := h
  clear h
  go_enter Try.func17, Try.ntmps17
  go_wp2_with fail
  go_loopw [11] (fun i wr => ∃ k : Nat, k ≤ l.length ∧ i = .int .i64 k ∧ Hid (ckFi (l.drop k) n m k = ckFi l n m 0) ∧ Hid (Below w.heap.size w wr)) (fun i _ => l.length - (intOf i).toNat)
  case atStart => exact ⟨0, by omega, rfl, rfl, Below.refl _ _⟩
  case round =>
    obtain ⟨k, hk, rfl, N, B⟩ := hrel
    by_cases hlt : k < l.length
    · obtain ⟨g, o, rfl, hg, hc⟩ := (HC.out.later B.out).2 (by omega)
      obtain ⟨c0, c1, c2, c3, c4⟩ := hc k hlt
      have E1 : Hid _ := ckFi_hit (l := l) (n := n) (m := m) hlt
      have E2 : Hid _ := ckFi_miss (l := l) (n := n) (m := m) hlt
      clear hc
      generalize l.getD k ckV0 = x at *
      obtain ⟨xn, xt, xs, xf, xl⟩ := x
      have hji : (k : Int) < (l.length : Int) := by omega
      have hj0 : (0 : Int) ≤ (k : Int) := by omega
      have F1 : Hid ((xn = n ∧ xf ≤ m ∧ m ≤ xl) → ckFi (l.drop k) n m k = k) := E1.out
      have F2 : Hid (¬ (xn = n ∧ xf ≤ m ∧ m ≤ xl) → ckFi (l.drop k) n m k = ckFi (l.drop (k + 1)) n m (k + 1)) := E2.out
      have BB : Hid (∀ b, Below w.heap.size w (wr.alloc b)) := fun b => B.out.trans ((box_below wr b).mono B.out.size)
      clear E1 E2
      dsimp only at c0 c1 c2 c3 c4
      by_cases hn : xn = n
      · have en := text_t hn
        by_cases hf : xf ≤ m
        · by_cases ht : m ≤ xl
          · have G : Hid _ := F1.out ⟨hn, hf, ht⟩
            clear F1 F2 hn
            go_wp2_with fail
            go_ret
            exact ⟨ret_num (by rw [← N.out, G.out]), BB.out _⟩
          · have G : Hid _ := F2.out fun q => ht q.2.2
            clear F1 F2 hn
            have hL := HL.out
            go_wp2_with fail
            go_roundw
            case rel => exact ⟨k + 1, by omega, by go_num, by rw [← N.out, G.out]; rfl, BB.out _⟩
            case measure => simp [intOf]; omega
        · have G : Hid _ := F2.out fun q => hf q.2.1
          clear F1 F2 hn
          have hL := HL.out
          go_wp2_with fail
          go_roundw
          case rel => exact ⟨k + 1, by omega, by go_num, by rw [← N.out, G.out]; rfl, BB.out _⟩
          case measure => simp [intOf]; omega
      · have en := text_f hn
        have G : Hid _ := F2.out fun q => hn q.1
        clear F1 F2 hn
        have hL := HL.out
        go_wp2_with fail
        go_roundw
        case rel => exact ⟨k + 1, by omega, by go_num, by rw [← N.out, G.out]; rfl, BB.out _⟩
        case measure => simp [intOf]; omega
    · obtain rfl : k = l.length := by omega
      have G : Hid (-1 = ckFi l n m 0) := by rw [← N.out, ckFi_end]; rfl
      clear N
      go_wp2_with fail
      go_ret
      exact ⟨ret_num G.out, B.out⟩
end Go.Proofs.Ytfpabjdhibmefaa
