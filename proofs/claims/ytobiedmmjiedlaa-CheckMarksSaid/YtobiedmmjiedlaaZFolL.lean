/- Layer 5: which expressions are built as they must be; signs; numbers of two (the program's). -/
/- Layer 5: what a sign makes of two numbers; a list's places (the program's). -/
/- Layer 3: readExpr. -/
/- Layer 3: readExpr, and Expr. -/
/- Layer 3: Expr. -/
/- Layer 3: right expressions, and what they are written as: plain functions (with fuel). -/
/- Layer 3: rightExpr, where it tells true. -/
/- Layer 5: what an expression is worth, for every expression and all values (the program's). -/
/- Layer 5: worth and Eval, whole (the program's). -/
/- Layer 5: worth, whole (the program's). -/
/- Layer 5: which expressions may trap (the program's Traps). -/
/- Layer 5: Eval (the program's), where the values' calls are known; without values. -/
/- Layer 5: the forms that the rules ask for (the program's). -/
/- Layer 5: constants (the program's Const). -/
/- Layer 5: numbers' expressions (the program's Lit), and what is true or false by its form. -/
/- Layer 3: the writer's small calls. -/
/- Layer 3: the writer of expressions. -/
/- Layer 3: the writer of expressions: expr. -/
/- Layer 3: PrintExpr. -/
/- An append to a row of one's own: where the row lies behind it is told: where it lay, or in a new block. -/
/- Layer 3: the reader of programs: where marks stand. -/
/- Layer 3: the reader of programs: statements that hold one expression. -/
/- Layer 3: the reader of programs: closed; names; types; which tokens begin a statement. -/
/- Layer 3: the reader of programs: types and parameters. -/
/- Layer 5: a list of what is made of another one's elements (the program's each). -/
/- Layer 5: the size of an expression (the document's ExprSize). -/
/- Layer 5: copies; what is true or false by its form; the constant that a sign makes of constants (the program's). -/
import Derived.Test.YtobiedmmjiedlaaZLexK
import Derived.Test.YtobiedmmjiedlaaZGrG
import Derived.Test.YtobiedmmjiedlaaZSynH
import Derived.Test.YtobiedmmjiedlaaZSypG
import Derived.OneCell
import Derived.Deep.RegionLaw
namespace Go.Proofs.Ytobiedmmjiedlaa
open Go.RowKit

end Go.Proofs.Ytobiedmmjiedlaa

namespace Go.Proofs.Ytobiedmmjiedlaa
open Go.RowKit

theorem ret_two {a b a' b' : Int} (h1 : a = a') (h2 : b = b') : Ending.returned (.tuple #[.int .i64 a, .int .i64 b]) = .returned (.tuple #[.int .i64 a', .int .i64 b']) := by rw [h1, h2]
end Go.Proofs.Ytobiedmmjiedlaa

namespace Go.Proofs.Ytobiedmmjiedlaa
open Go.RowKit

/-- Block n is the box of the expression y, and the next token's number k lies in block m. -/
def XRel (V : World) (xb nb : Nat) (y : Sx.Ex) (k : Nat) (w' : World) : Prop :=
  ∃ kk nn mm sa sn sc ll, y = .mk kk nn mm ll ∧ Bx w' xb (.int .i64 kk) (.string ⟨(nn : List UInt8).toArray⟩) (.int .i64 mm) (.slice sa sn sc) ∧ ExS (fun g => V.heap.size ≤ g) w' (.slice sa sn sc) ll ∧
    w'.cell? ⟨nb, 0, none⟩ = some (.int .i64 (k : Int)) ∧ w'.frozen? ⟨nb, 0, none⟩ = false
theorem Keep.fill {D : Nat → Prop} {w w' : World} (h : Keep D w w') {g : Nat} (hg : w.heap.size ≤ g ∨ D g) (b0 b1 b2 b3 : Value) : Keep D w (Go.Proofs.Ytobiedmmjiedlaa.fill w' g b0 b1 b2 b3) := (((h.set (a := ⟨g, 0, none⟩) hg _).set (a := ⟨g, 1, none⟩) hg _).set (a := ⟨g, 2, none⟩) hg _).set (a := ⟨g, 3, none⟩) hg _
end Go.Proofs.Ytobiedmmjiedlaa

namespace Go.Proofs.Ytobiedmmjiedlaa
open Go.RowKit

theorem w2box_below (w : World) : Below w.heap.size w (w2box w) := by unfold w2box; go_grown
theorem w2box_size (w : World) : (w2box w).heap.size = w.heap.size + 2 := by simp [w2box]
theorem Keep.below' {D : Nat → Prop} {n : Nat} {w w' : World} (h : Keep D w w') (hn : n ≤ w.heap.size) (hD : ∀ g, D g → n ≤ g) : Below n w w' := ⟨h.os, h.tape, h.output, h.size, fun k hk => h.block k (Nat.lt_of_lt_of_le hk hn) fun e => absurd (hD k e) (by omega)⟩

theorem ExS.drew {A : Nat → Prop} {w : World} {sl : Value} {l : List Sx.Ex} (h : ExS A w sl l) : ExS A w.drew sl l := ExS.keep (w := w) (w' := w.drew) (fun _ _ a => a) (fun _ _ _ => rfl) (Nat.le_refl _) h
/-- What readExpr answers where an expression was read. -/
def RXok (w : World) (y : Sx.Ex) (k' : Nat) (e : Ending) (w' : World) : Prop :=
  ∃ kk nn mm sa sn sc ll, y = .mk kk nn mm ll ∧ e = .returned (.tuple #[.agg #[.int .i64 kk, .string ⟨(nn : List UInt8).toArray⟩, .int .i64 mm, .slice sa sn sc], .int .i64 (k' : Int), .int .i64 0, .int .i64 0]) ∧
    ExS (fun g => w.heap.size ≤ g) w' (.slice sa sn sc) ll ∧ Below w.heap.size w w'
/-- What readExpr answers where none was. -/
def RXbad (w : World) (a er : Int) (e : Ending) (w' : World) : Prop :=
  e = .returned (.tuple #[.agg #[.int .i64 0, .string ⟨#[]⟩, .int .i64 0, .slice none 0 0], .int .i64 0, .int .i64 a, .int .i64 er]) ∧ Below w.heap.size w w'
end Go.Proofs.Ytobiedmmjiedlaa

namespace Go.Proofs.Ytobiedmmjiedlaa
open Go.RowKit

theorem scanF_good (l : List UInt8) : ∀ (f at' : Nat) (ts R : List (Lx.Tk × Nat)) (a : Nat), ts.length ≤ 4000 → Lx.scanF l f at' ts = (R, a, 0) → R ≠ [] → ∃ ts' x, R = ts' ++ [x] ∧ x.1 = ⟨0, [], 0⟩ ∧ ts'.length ≤ 4000
  | 0, _, _, _, _, _, h, hn => by rw [Lx.scanF] at h; cases h; exact absurd rfl hn
  | f + 1, at', ts, R, a, hl, h, hn => by
    rw [Lx.scanF] at h
    split at h
    · cases h
    · rename_i t n hf
      split at h
      · cases h
      · split at h
        · rename_i hk
          rcases Lx.first_len hf with ⟨_, ht, _⟩ | ⟨ht, _⟩
          · have e := congrArg Prod.fst h
            exact ⟨ts, (t, Lx.skip l at'), e.symm, ht, hl⟩
          · exact absurd hk ht
        · exact scanF_good l f _ _ R a (by rw [List.length_append]; simp; omega) h hn
theorem scan_good {l : List UInt8} {R : List (Lx.Tk × Nat)} {a : Nat} (h : Lx.scan l = (R, a, 0)) (hn : R ≠ []) : Good (R.map tkI) := by
  unfold Lx.scan at h
  split at h
  · cases h
  · obtain ⟨ts', x, rfl, hx, hl⟩ := scanF_good l _ _ [] R a (by simp) h hn
    refine ⟨by simp, by simp; omega, ?_⟩
    simp [tkI, hx]
/-- What Expr answers where an expression was read. -/
def EXok (w : World) (y : Sx.Ex) (e : Ending) (w' : World) : Prop :=
  ∃ kk nn mm sa sn sc ll, y = .mk kk nn mm ll ∧ e = .returned (.tuple #[.agg #[.int .i64 kk, .string ⟨(nn : List UInt8).toArray⟩, .int .i64 mm, .slice sa sn sc], .int .i64 0, .int .i64 0]) ∧
    ExS (fun g => w.heap.size ≤ g) w' (.slice sa sn sc) ll ∧ Below w.heap.size w w'
def EXbad (w : World) (a er : Int) (e : Ending) (w' : World) : Prop :=
  e = .returned (.tuple #[.agg #[.int .i64 0, .string ⟨#[]⟩, .int .i64 0, .slice none 0 0], .int .i64 a, .int .i64 er]) ∧ Below w.heap.size w w'
end Go.Proofs.Ytobiedmmjiedlaa

namespace Go.Proofs.Ytobiedmmjiedlaa.Sx
open Go.RowKit

def exK : Ex → Int | .mk k _ _ _ => k
def rx : Nat → Ex → Bool
  | 0, _ => false
  | f + 1, .mk k n m l => l.all (rx f) &&
    (if k = 1 then decide (n = []) && decide (0 ≤ m) && decide (l.length = 0)
    else if k = 2 then decide (n = []) && (decide (m = 0) || decide (m = 1)) && decide (l.length = 0)
    else if k = 3 then Lx.isName n && decide (m = 0) && decide (l.length = 0)
    else if k = 4 then Lx.isName n && decide (m = 0) && decide (l.length = 1)
    else if k = 5 then isUn n && decide (m = 0) && decide (l.length = 1)
    else if k = 6 then decide (¬ bindsB n = 0) && decide (m = 0) && decide (l.length = 2)
    else false)
/-- The words of an expression, and how deep its deepest part is. -/
def wx : Nat → Ex → Nat → Option (List (List UInt8) × Nat)
  | 0, _, _ => none
  | f + 1, .mk k n m l, d =>
    if k = 1 then (if 0 ≤ m ∧ m ≤ 9223372036854775807 then some ([Lib.itoa m], d) else none)
    else if k = 2 then some ([if m = 1 then [116, 114, 117, 101] else [102, 97, 108, 115, 101]], d)
    else if k = 3 then some ([n], d)
    else if k = 4 then
      match l with
      | [a] => (match wx f a (d + 1) with
        | some (t, e) => some ([n, [91]] ++ t ++ [[93]], max d e)
        | none => none)
      | _ => none
    else if k = 5 then
      match l with
      | [a] => (match (if exK a = 6 then (match wx f a (d + 2) with
          | some (t, e) => some ([[40]] ++ t ++ [[41]], e)
          | none => none) else wx f a (d + 1)) with
        | some (t, e) => some ([n] ++ t, max d e)
        | none => none)
      | _ => none
    else if k = 6 then
      match l with
      | [a, b] => (match (if exK a = 6 then (match wx f a (d + 1) with
          | some (t, e) => some ([[40]] ++ t ++ [[41]], e)
          | none => none) else wx f a d) with
        | some (t, e) => (match (if exK b = 6 then (match wx f b (d + 1) with
            | some (u, e') => some ([[40]] ++ u ++ [[41]], e')
            | none => none) else wx f b d) with
          | some (u, e') => some (t ++ [n] ++ u, max (max d e) e')
          | none => none)
        | none => none)
      | _ => none
    else none
end Go.Proofs.Ytobiedmmjiedlaa.Sx

namespace Go.Proofs.Ytobiedmmjiedlaa
open Go.RowKit

theorem ExC.get {A : Nat → Prop} {w : World} {g : Nat} : ∀ {l : List Sx.Ex} {o : Nat} (_ : ExC A w g o l) (j : Nat), j < l.length → ∃ k n m sa sn sc ll, l[j]? = Option.some (.mk k n m ll) ∧
    w.cell? ⟨g, o + j * 4, Option.none⟩ = Option.some (.int .i64 k) ∧ w.cell? ⟨g, o + j * 4 + 1, Option.none⟩ = Option.some (.string ⟨(n : List UInt8).toArray⟩) ∧ w.cell? ⟨g, o + j * 4 + 2, Option.none⟩ = Option.some (.int .i64 m) ∧ w.cell? ⟨g, o + j * 4 + 3, Option.none⟩ = Option.some (.slice sa sn sc) ∧ ExS A w (.slice sa sn sc) ll := by
  intro l
  induction l with
  | nil => intro o _ j hj; simp at hj
  | cons x r ih =>
    intro o h j hj
    cases h with
    | cons _ _ k n m sl l _ c0 c1 c2 c3 hs hr =>
      obtain ⟨sa, sn, sc, rfl⟩ := hs.form
      cases j with
      | zero => exact ⟨k, n, m, sa, sn, sc, l, rfl, by simpa using c0, by simpa using c1, by simpa using c2, by simpa using c3, hs⟩
      | succ j =>
        obtain ⟨k, n, m, sa, sn, sc, ll, e, c0, c1, c2, c3, hs⟩ := ih hr j (by simpa using hj)
        have q : o + 4 + j * 4 = o + (j + 1) * 4 := by omega
        rw [q] at c0 c1 c2 c3
        exact ⟨k, n, m, sa, sn, sc, ll, by simpa using e, c0, c1, c2, c3, hs⟩
theorem ExS.inv {A : Nat → Prop} {w : World} {sl : Value} {l : List Sx.Ex} (h : ExS A w sl l) (hl : 0 < l.length) : ∃ g o cap, sl = .slice (Option.some ⟨g, o, Option.none⟩) l.length cap ∧ l.length ≤ cap ∧ A g ∧ g < w.heap.size ∧ ExC A w g o l := by
  cases h with
  | nil a cap => exact absurd hl (by simp)
  | some g o cap len _ hl' h0 hc ha hg h => exact ⟨g, o, cap, by rw [hl'], hc, ha, hg, h⟩
theorem ExS.len {A : Nat → Prop} {w : World} {sa : Option Addr} {sn sc : Nat} {l : List Sx.Ex} (h : ExS A w (.slice sa sn sc) l) : sn = l.length := by
  cases h with
  | nil a cap => rfl
  | some g o cap len l hl h0 hc ha hg h => exact hl
theorem Bx.box (w : World) (t : TypeId) (a0 a1 a2 a3 : Value) {w' : World} (b : Below (w.alloc (.cells #[a0, a1, a2, a3] t)).heap.size (w.alloc (.cells #[a0, a1, a2, a3] t)) w') : Bx w' w.heap.size a0 a1 a2 a3 := (Bx.new w t a0 a1 a2 a3).later b (by simp)
end Go.Proofs.Ytobiedmmjiedlaa

namespace Go.Proofs.Ytobiedmmjiedlaa
open Go.RowKit

/-- A slice of numbers. -/
def Li (w : World) (sa : Option Addr) (sn : Nat) (l : List Int) : Prop := sn = l.length ∧ (0 < l.length → ∃ b o, sa = some ⟨b, o, none⟩ ∧ b < w.heap.size ∧ ∀ j, j < l.length → w.cell? ⟨b, o + j, none⟩ = some (.int .i64 (l.getD j 0)))
/-- The parts of an expression, as they lie. -/
theorem ExS.part {A : Nat → Prop} {w : World} {sa : Option Addr} {sn sc : Nat} {l : List Sx.Ex} (h : ExS A w (.slice sa sn sc) l) (j : Nat) (hj : j < l.length) : ∃ g o k n m sa' sn' sc' ll, sa = Option.some ⟨g, o, Option.none⟩ ∧ g < w.heap.size ∧ l[j]? = Option.some (.mk k n m ll) ∧
    w.cell? ⟨g, o + j * 4, Option.none⟩ = Option.some (.int .i64 k) ∧ w.cell? ⟨g, o + j * 4 + 1, Option.none⟩ = Option.some (.string ⟨(n : List UInt8).toArray⟩) ∧ w.cell? ⟨g, o + j * 4 + 2, Option.none⟩ = Option.some (.int .i64 m) ∧ w.cell? ⟨g, o + j * 4 + 3, Option.none⟩ = Option.some (.slice sa' sn' sc') ∧ ExS A w (.slice sa' sn' sc') ll := by
  obtain ⟨g, o, cap, e, hc, ha, hg, hx⟩ := h.inv (by omega)
  cases e
  obtain ⟨k, n, m, sa', sn', sc', ll, e, c0, c1, c2, c3, hs⟩ := hx.get j hj
  exact ⟨g, o, k, n, m, sa', sn', sc', ll, rfl, hg, e, c0, c1, c2, c3, hs⟩
end Go.Proofs.Ytobiedmmjiedlaa

namespace Go.Proofs.Ytobiedmmjiedlaa
open Go.RowKit

end Go.Proofs.Ytobiedmmjiedlaa

namespace Go.Proofs.Ytobiedmmjiedlaa
open Go.RowKit

end Go.Proofs.Ytobiedmmjiedlaa

namespace Go.Proofs.Ytobiedmmjiedlaa
open Go.RowKit

namespace Fo
open Sx
/-- No list of parts is very long. -/
inductive Bnd : Ex → Prop
  | mk (k : Int) (n : List UInt8) (m : Int) (l : List Ex) (hl : l.length ≤ 1000000) (h : ∀ x, x ∈ l → Bnd x) : Bnd (.mk k n m l)
def dv (k : Int) (n : List UInt8) : Bool := decide (k = 6) && (decide (n = [47]) || decide (n = [37]))
def above : Ex → Bool
  | .mk k n m l => built k n l.length && decide (k = 1) && decide (0 < m)
mutual
def tr : Ex → Bool
  | .mk k n _ l => decide (k = 4) || (dv k n && !(built k n l.length && above (l.getD 1 (.mk 0 [] 0 [])))) || trs l
def trs : List Ex → Bool
  | [] => false
  | a :: r => tr a || trs r
end
theorem trs_mem : ∀ {l : List Ex} {j : Nat} {x : Ex}, l[j]? = some x → tr x = true → trs l = true
  | [], j, x, h, _ => by simp at h
  | a :: r, 0, x, h, hx => by
    have e : a = x := by simpa using h
    rw [trs, e, hx]; rfl
  | a :: r, j + 1, x, h, hx => by
    have e := trs_mem (l := r) (j := j) (by simpa using h) hx
    rw [trs, e, Bool.or_true]
theorem trs_none : ∀ {l : List Ex}, (∀ (j : Nat) (x : Ex), l[j]? = some x → tr x = false) → trs l = false
  | [], _ => by rw [trs]
  | a :: r, h => by
    rw [trs, h 0 a rfl, trs_none (l := r) (fun j x hx => h (j + 1) x (by simpa using hx))]
    rfl
end Fo
/-- The loop over the parts. -/
def TrLoop (l : List Sx.Ex) (w : World) (i : Value) (wr : World) : Prop := ∃ j : Nat, j ≤ l.length ∧ i = .int .i64 j ∧ Below w.heap.size w wr ∧ Hid (∀ (q : Nat) (x : Sx.Ex), q < j → l[q]? = some x → Fo.tr x = false)
end Go.Proofs.Ytobiedmmjiedlaa

namespace Go.Proofs.Ytobiedmmjiedlaa
open Go.RowKit

/-- No values. -/
def T0 : List UInt8 → Int × List Int := fun _ => (0, [])
set_option maxRecDepth 100000 in
set_option maxHeartbeats 1000000 in
theorem index_none (a : Option Addr) (c : Nat) (n : List UInt8) (w : World) : Calls Try.prog 62 #[.slice a 0 c, .string ⟨n.toArray⟩] w fun e w' => e = .returned (.int .i64 (-1)) ∧ w' = w := by
  go_enter Try.func62, Try.ntmps62
  go_wp2_with fail
  refine wp_loop_rounds 1 ?_
  rw [rounds_succ]
  go_wp2_with fail
  go_ret
  exact ⟨rfl, rfl⟩
end Go.Proofs.Ytobiedmmjiedlaa

namespace Go.Proofs.Ytobiedmmjiedlaa
open Go.RowKit

namespace Fo
open Sx
def bu : Ex → Bool | .mk k n _ l => built k n l.length
def kd : Ex → Int | .mk k _ _ _ => k
def nm : Ex → List UInt8 | .mk _ n _ _ => n
def nu : Ex → Int | .mk _ _ m _ => m
def pa : Ex → List Ex | .mk _ _ _ l => l
def e0 : Ex := .mk 0 [] 0 []
def isU (s : List UInt8) (x : Ex) : Bool := bu x && (kd x == 5) && (nm x == s)
def isT (s : List UInt8) (x : Ex) : Bool := bu x && (kd x == 6) && (nm x == s)
def isW (v : Int) (x : Ex) : Bool := bu x && (kd x == 1) && (nu x == v)
def isB (v : Int) (x : Ex) : Bool := bu x && (kd x == 2) && (nu x == v)
def isP (x : Ex) : Bool := bu x && ((kd x == 1) || (kd x == 2))
def isBel (x : Ex) : Bool := isU [45] x && above ((pa x).getD 0 e0)
def isLe (x : Ex) : Bool := isT [45] x && (isBel ((pa x).getD 0 e0) && isW 9223372036854775807 ((pa ((pa x).getD 0 e0)).getD 0 e0) && isW 1 ((pa x).getD 1 e0))
def tof (x : Ex) : Bool := bu x && ((kd x == 2) || isU [33] x || ((kd x == 6) && isTe (nm x)))
def cn (x : Ex) : Bool := isP x || isBel x || isLe x
end Fo
end Go.Proofs.Ytobiedmmjiedlaa

namespace Go.Proofs.Ytobiedmmjiedlaa
open Go.RowKit

theorem Fo.isU_parts {s : List UInt8} {k : Int} {n : List UInt8} {m : Int} {l : List Sx.Ex} (h : Fo.isU s (.mk k n m l) = true) : k = 5 ∧ n = s ∧ ∃ a, l = [a] := by
  unfold Fo.isU Fo.bu Fo.kd Fo.nm at h
  simp only [Bool.and_eq_true, beq_iff_eq] at h
  obtain ⟨⟨h1, rfl⟩, rfl⟩ := h
  have h2 : l.length = 1 ∧ Sx.isUn n = true := by simpa [Fo.built] using h1
  exact ⟨rfl, rfl, List.length_eq_one_iff.1 h2.1⟩
theorem Fo.isT_parts {s : List UInt8} {k : Int} {n : List UInt8} {m : Int} {l : List Sx.Ex} (h : Fo.isT s (.mk k n m l) = true) : k = 6 ∧ n = s ∧ ∃ a b, l = [a, b] := by
  unfold Fo.isT Fo.bu Fo.kd Fo.nm at h
  simp only [Bool.and_eq_true, beq_iff_eq] at h
  obtain ⟨⟨h1, rfl⟩, rfl⟩ := h
  have h2 : l.length = 2 ∧ (Fo.isRe n || Fo.isTe n) = true := by simpa [Fo.built] using h1
  exact ⟨rfl, rfl, Fo.len_two h2.1⟩
/-- Two expressions in boxes of their own. -/
def ABx (w1 : World) (a0 a1 a2 a3 b0 b1 b2 b3 : Value) (s3 s4 : Value) (wc : World) : Prop := ∃ g3 g4, s3 = .pointer (some ⟨g3, 0, none⟩) ∧ s4 = .pointer (some ⟨g4, 0, none⟩) ∧ Bx wc g3 a0 a1 a2 a3 ∧ Bx wc g4 b0 b1 b2 b3 ∧ Below w1.heap.size w1 wc
theorem ABx.of1 (w1 : World) (a0 a1 a2 a3 b0 b1 b2 b3 : Value) (t u : TypeId) : ABx w1 a0 a1 a2 a3 b0 b1 b2 b3 (.pointer (some ⟨w1.heap.size, 0, none⟩)) (.pointer (some ⟨w1.heap.size + 1, 0, none⟩)) ((w1.alloc (.cells #[a0, a1, a2, a3] t)).alloc (.cells #[b0, b1, b2, b3] u)).drew := by
  have e : (w1.alloc (.cells #[a0, a1, a2, a3] t)).heap.size = w1.heap.size + 1 := by simp
  have B := Bx.new (w1.alloc (.cells #[a0, a1, a2, a3] t)) u b0 b1 b2 b3
  rw [e] at B
  have A := (Bx.new w1 t a0 a1 a2 a3).later (box_below _ (.cells #[b0, b1, b2, b3] u)) (by simp)
  exact ⟨_, _, rfl, rfl, A.later (Below.refl _ _).drew A.lt, B.later (Below.refl _ _).drew B.lt, by go_grown⟩
theorem ABx.of2 (w1 : World) (a0 a1 a2 a3 b0 b1 b2 b3 : Value) (t u : TypeId) : ABx w1 a0 a1 a2 a3 b0 b1 b2 b3 (.pointer (some ⟨w1.heap.size + 1, 0, none⟩)) (.pointer (some ⟨w1.heap.size, 0, none⟩)) ((w1.alloc (.cells #[b0, b1, b2, b3] u)).alloc (.cells #[a0, a1, a2, a3] t)).drew := by
  have e : (w1.alloc (.cells #[b0, b1, b2, b3] u)).heap.size = w1.heap.size + 1 := by simp
  have B := Bx.new (w1.alloc (.cells #[b0, b1, b2, b3] u)) t a0 a1 a2 a3
  rw [e] at B
  have A := (Bx.new w1 u b0 b1 b2 b3).later (box_below _ (.cells #[a0, a1, a2, a3] t)) (by simp)
  exact ⟨_, _, rfl, rfl, B.later (Below.refl _ _).drew B.lt, A.later (Below.refl _ _).drew A.lt, by go_grown⟩
/-- What Const answers. -/
def Fo.cst (x : Sx.Ex) : Int := if Fo.cn x then (Fo.wo T0 x).1 else 0
end Go.Proofs.Ytobiedmmjiedlaa

namespace Go.Proofs.Ytobiedmmjiedlaa
open Go.RowKit

/-- An expression is answered. -/
def RE (B : Nat → Prop) (w : World) (x : Sx.Ex) (e : Ending) (w' : World) : Prop := ∃ kk nn mm sa sc ll, x = .mk kk nn mm ll ∧ e = .returned (.agg #[.int .i64 kk, .string ⟨(nn : List UInt8).toArray⟩, .int .i64 mm, .slice sa ll.length sc]) ∧ ExS B w' (.slice sa ll.length sc) ll ∧ Below w.heap.size w w'
def Fo.lit (n : Int) : Sx.Ex := if n = -9223372036854775808 then .mk 6 [45] 0 [.mk 5 [45] 0 [.mk 1 [] 9223372036854775807 []], .mk 1 [] 1 []] else if n < 0 then .mk 5 [45] 0 [.mk 1 [] (-n) []] else .mk 1 [] n []
end Go.Proofs.Ytobiedmmjiedlaa

namespace Go.Proofs.Ytobiedmmjiedlaa
open Go.RowKit

/-- The writer in block q: its words are xs, in the slice v of its own; the deepest part so far is dp. -/
structure Wr (w : World) (q : Nat) (v : Value) (xs : List ByteArray) (dp : Nat) : Prop where
  c0 : w.cell? ⟨q, 0, none⟩ = some v
  c1 : w.cell? ⟨q, 1, none⟩ = some (.int .i64 (dp : Int))
  f0 : w.frozen? ⟨q, 0, none⟩ = false
  f1 : w.frozen? ⟨q, 1, none⟩ = false
  own : OwnS w (q + 1) v xs
  lt : q < w.heap.size
/-- Block g is none of the writer's. -/
def Frn (q : Nat) (w : World) (v : Value) (g : Nat) : Prop := g ≠ q ∧ ¬ v.ownBlock = some g ∧ ∃ cur t z, ¬ t = 9 ∧ w.heap[g]? = some (.cells cur t z)
/-- What writing turns. -/
structure WS (q : Nat) (w : World) (v : Value) (w' : World) (v' : Value) : Prop where
  os : w'.os = w.os
  tape : w'.tape = w.tape
  output : w'.output = w.output
  size : w.heap.size ≤ w'.heap.size
  low : ∀ k, k < q → w'.heap[k]? = w.heap[k]?
  far : ∀ g, Frn q w v g → w'.heap[g]? = w.heap[g]? ∧ ¬ v'.ownBlock = some g
theorem WS.refl (q : Nat) (w : World) (v : Value) : WS q w v w v := ⟨rfl, rfl, rfl, Nat.le_refl _, fun _ _ => rfl, fun _ h => ⟨rfl, h.2.1⟩⟩
theorem WS.frn {q : Nat} {w w' : World} {v v' : Value} (h : WS q w v w' v') {g : Nat} (hg : Frn q w v g) : Frn q w' v' g := by
  obtain ⟨a, b⟩ := h.far g hg
  obtain ⟨c, _, cur, t, z, ht, hh⟩ := hg
  exact ⟨c, b, cur, t, z, ht, a.trans hh⟩
theorem WS.trans {q : Nat} {w w' w'' : World} {v v' v'' : Value} (h : WS q w v w' v') (k : WS q w' v' w'' v'') : WS q w v w'' v'' :=
  ⟨k.os.trans h.os, k.tape.trans h.tape, k.output.trans h.output, Nat.le_trans h.size k.size, fun i hi => (k.low i hi).trans (h.low i hi), fun g hg => ⟨(k.far g (h.frn hg)).1.trans (h.far g hg).1, (k.far g (h.frn hg)).2⟩⟩
theorem WS.of_below {q : Nat} {w w' : World} {v : Value} (hq : q ≤ w.heap.size) (b : Below w.heap.size w w') : WS q w v w' v :=
  ⟨b.os, b.tape, b.output, b.size, fun k hk => b.block k (by omega), fun g hg => ⟨by
    obtain ⟨_, _, cur, t, z, _, hh⟩ := hg
    have hl : g < w.heap.size := by
      by_cases e : g < w.heap.size
      · exact e
      · rw [Array.getElem?_eq_none (by omega)] at hh; cases hh
    exact b.block g hl, hg.2.1⟩⟩
theorem WS.below {q : Nat} {w w' : World} {v v' : Value} (h : WS q w v w' v') : Below q w w' := ⟨h.os, h.tape, h.output, h.size, h.low⟩
theorem Frn.lt {q : Nat} {w : World} {v : Value} {g : Nat} (h : Frn q w v g) : g < w.heap.size := by
  obtain ⟨_, _, cur, t, z, _, hh⟩ := h
  by_cases e : g < w.heap.size
  · exact e
  · rw [Array.getElem?_eq_none (by omega)] at hh; cases hh
theorem Wr.later {w w' : World} {q : Nat} {v : Value} {xs : List ByteArray} {dp : Nat} (h : Wr w q v xs dp) (b : Below w.heap.size w w') : Wr w' q v xs dp :=
  ⟨(b.cell (p := ⟨q, 0, none⟩) h.lt).trans h.c0, (b.cell (p := ⟨q, 1, none⟩) h.lt).trans h.c1, (b.frozen (p := ⟨q, 0, none⟩) h.lt).trans h.f0, (b.frozen (p := ⟨q, 1, none⟩) h.lt).trans h.f1, h.own.later b, Nat.lt_of_lt_of_le h.lt b.size⟩
/-- A new box is none of the writer's. -/
theorem Wr.frn {w : World} {q : Nat} {v : Value} {xs : List ByteArray} {dp : Nat} (h : Wr w q v xs dp) (cur : Array Value) (t : TypeId) (ht : ¬ t = 9) : Frn q (w.alloc (.cells cur t)) v w.heap.size :=
  ⟨by have := h.lt; omega, fun e => by have := (World.ownsRow.lt h.own _ e).2; omega, cur, t, (0, 0), ht, by show (w.heap.push _)[w.heap.size]? = _; simp⟩
theorem Bx.far {q : Nat} {w w' : World} {v v' : Value} {g : Nat} {a0 a1 a2 a3 : Value} (h : Bx w g a0 a1 a2 a3) (s : WS q w v w' v') (hg : Frn q w v g) : Bx w' g a0 a1 a2 a3 := by
  have e := (s.far g hg).1
  exact ⟨(World.cell?_of_block (w := w) e).trans h.c0, (World.cell?_of_block (w := w) e).trans h.c1, (World.cell?_of_block (w := w) e).trans h.c2, (World.cell?_of_block (w := w) e).trans h.c3, (World.frozen?_of_block (w := w) e).trans h.f0, (World.frozen?_of_block (w := w) e).trans h.f1, (World.frozen?_of_block (w := w) e).trans h.f2, (World.frozen?_of_block (w := w) e).trans h.f3, Nat.lt_of_lt_of_le h.lt s.size⟩
end Go.Proofs.Ytobiedmmjiedlaa

namespace Go.Proofs.Ytobiedmmjiedlaa
open Go.RowKit

def tb (l : List UInt8) : ByteArray := ⟨l.toArray⟩
theorem two_cell_s (w : World) (x y : ByteArray) (t : TypeId) : ∀ (j : Nat) u, [Value.string x, Value.string y][j]? = some u → (w.alloc (.cells #[.string x, .string y] t)).cell? ((⟨w.heap.size, 0, none⟩ : Addr).add j) = some u := by
  intro j u hj
  match j, hj with
  | 0, hj => simp at hj; subst hj; simp [Addr.add]
  | 1, hj => simp at hj; subst hj; simp [Addr.add]
theorem ExS.ws {q : Nat} {w w' : World} {v v' : Value} {sl : Value} {l : List Sx.Ex} (h : ExS (fun g => g < q) w sl l) (s : WS q w v w' v') : ExS (fun g => g < q) w' sl l :=
  h.keep (fun _ _ a => a) (fun _ ha _ => World.cell?_of_block (w := w) (s.low _ ha)) s.size
end Go.Proofs.Ytobiedmmjiedlaa

namespace Go.Proofs.Ytobiedmmjiedlaa
open Go.RowKit

theorem ExS.kid0 {A : Nat → Prop} {w : World} {g o sn sc : Nat} {k m : Int} {n : List UInt8} {l r : List Sx.Ex} (h : ExS A w (.slice (Option.some ⟨g, o, Option.none⟩) sn sc) (.mk k n m l :: r)) :
    ∃ sa' sn' sc', w.cell? ⟨g, o, Option.none⟩ = Option.some (.int .i64 k) ∧ w.cell? ⟨g, o + 1, Option.none⟩ = Option.some (.string ⟨n.toArray⟩) ∧ w.cell? ⟨g, o + 2, Option.none⟩ = Option.some (.int .i64 m) ∧ w.cell? ⟨g, o + 3, Option.none⟩ = Option.some (.slice sa' sn' sc') ∧ ExS A w (.slice sa' sn' sc') l := by
  obtain ⟨g', o', cap, e, _, _, _, hc⟩ := h.inv (by simp)
  cases e
  cases hc with
  | cons _ _ _ _ _ sl _ _ c0 c1 c2 c3 hs hr =>
    obtain ⟨sa, sn', sc', rfl⟩ := hs.form
    exact ⟨sa, sn', sc', c0, c1, c2, c3, hs⟩
theorem ExS.kid1 {A : Nat → Prop} {w : World} {g o sn sc : Nat} {k m : Int} {n : List UInt8} {l r : List Sx.Ex} {x : Sx.Ex} (h : ExS A w (.slice (Option.some ⟨g, o, Option.none⟩) sn sc) (x :: .mk k n m l :: r)) :
    ∃ sa' sn' sc', w.cell? ⟨g, o + 4, Option.none⟩ = Option.some (.int .i64 k) ∧ w.cell? ⟨g, o + 4 + 1, Option.none⟩ = Option.some (.string ⟨n.toArray⟩) ∧ w.cell? ⟨g, o + 4 + 2, Option.none⟩ = Option.some (.int .i64 m) ∧ w.cell? ⟨g, o + 4 + 3, Option.none⟩ = Option.some (.slice sa' sn' sc') ∧ ExS A w (.slice sa' sn' sc') l := by
  obtain ⟨g', o', cap, e, _, _, _, hc⟩ := h.inv (by simp)
  cases e
  cases hc with
  | cons _ _ _ _ _ sl _ _ c0 c1 c2 c3 hs hr =>
    cases hr with
    | cons _ _ _ _ _ sl _ _ c0 c1 c2 c3 hs hr =>
      obtain ⟨sa, sn', sc', rfl⟩ := hs.form
      exact ⟨sa, sn', sc', c0, c1, c2, c3, hs⟩
end Go.Proofs.Ytobiedmmjiedlaa

namespace Go.Proofs.Ytobiedmmjiedlaa
open Go.RowKit

theorem tb_lists (ws : List (List UInt8)) : (ws.map tb).map (fun x : ByteArray => x.data.toList) = ws := by
  rw [List.map_map]
  conv => rhs; rw [← List.map_id ws]
  apply List.map_congr_left
  intro a _
  simp [tb]
theorem Wr.new (w : World) (t : TypeId) : Wr (w.alloc (.cells #[.slice none 0 0, .int .i64 0] t)) w.heap.size (.slice none 0 0) [] 0 :=
  ⟨by simp [go_sem], by simp [go_sem], World.frozen?_alloc_at _ _ _ _ rfl, World.frozen?_alloc_at _ _ _ _ rfl, OwnS.nil _ _, by simp⟩
end Go.Proofs.Ytobiedmmjiedlaa

namespace Go.Proofs.Ytobiedmmjiedlaa
open Go.RowKit

theorem own_tell {P : Program} {w : World} {base : Nat} {t ty e : TypeId} {i : TypeInfo} {z : Value} {size bytes : Nat} (ht : P.underlying t = some (.slice e)) (hi : P.info? e = some i) (hz : i.zero = some z)
    (hsize : i.size = size) (hby : i.bytes = bytes) {v : Value} {n : Nat} {xs : List Value} (hown : w.ownsRow base e size v n xs)
    {a : Addr} {m c : Nat} {news : List Value} (hl : news.length = m * size) (hnews : ∀ j u, news[j]? = some u → w.cell? (a.add j) = some u) (h1 : ∀ u ∈ news, u.oneCell' = true)
    (h63 : n + m ≤ maxLen) (hbytes : (n + m) * bytes ≤ 140737488355328) (hm : 0 < m) {v' : Value} {w' : World} (hr : (Builtin.append_ #[t, t] ty #[v, .slice (some a) m c]).run P w = .ok v' w') :
    v'.ownBlock = v.ownBlock ∨ ∃ g, v'.ownBlock = some g ∧ w.heap.size ≤ g := by
  subst hsize
  subst hby
  have hsmall : n + m ≤ 9223372036854775807 := by simp only [maxLen] at h63; omega
  rcases hown.2 with ⟨rfl, rfl⟩ | ⟨g, cap, cur, rfl, hbg, hg, hnc, hcm, hcs, htake⟩
  · have hx := run_append_nil (P := P) w t ty e i z ht hi hz a m c news hl hnews (by omega) (by omega) (by have hb := hbytes; simp only [Nat.zero_add] at hb; omega)
    rw [hr] at hx
    cases hx
    exact .inr ⟨_, rfl, Nat.le_refl _⟩
  · by_cases hroom : n + m ≤ cap
    · have hfit : n * i.size + news.length ≤ cur.size := by rw [hl, hcs, ← Nat.add_mul]; exact Nat.mul_le_mul_right _ hroom
      have hx := run_append_room (P := P) w t ty e i ht hi g n cap cur hg a m c news hl hnews h1 hroom hfit
      rw [hr] at hx
      cases hx
      exact .inl rfl
    · have holds : ∀ j u, xs[j]? = some u → w.cell? ((⟨g, 0, none⟩ : Addr).add j) = some u := hown.cells (g := g) rfl
      have hx := run_append_grow (P := P) w t ty e i z ht hi hz ⟨g, 0, none⟩ n cap xs hown.1 holds a m c news hl hnews (by omega) (by omega) (growslice_fits (by omega) hbytes)
      rw [hr] at hx
      cases hx
      exact .inr ⟨_, rfl, Nat.le_refl _⟩
theorem wp_append_told {P : Program} {w : World} {o : Oper} {a : Act} {K : Act → World → Prop} {Q : Exit → Act → World → Prop} (s x : Operand) (t : TypeId)
    (ho : o.op = .call { callee := .builtin .append, args := #[s, x], argTypes := #[t, t] })
    (base : Nat) (e : TypeId) (i : TypeInfo) (z : Value) (size bytes : Nat) (ht : P.underlying t = some (.slice e)) (hi : P.info? e = some i) (hz : i.zero = some z)
    (hsize : i.size = size) (hby : i.bytes = bytes) (hzs : z.cells.size = size) (hsz : 0 < size)
    (v : Value) (n : Nat) (xs : List Value) (hs : a.eval s = v) (hown : w.ownsRow base e size v n xs)
    (ad : Addr) (m c : Nat) (news : List Value) (hx : a.eval x = .slice (some ad) m c) (hl : news.length = m * size) (hnews : ∀ j u, news[j]? = some u → w.cell? (ad.add j) = some u) (h1 : ∀ u ∈ news, u.oneCell' = true)
    (h63 : n + m ≤ maxLen) (hbytes : (n + m) * bytes ≤ 140737488355328) (hbase : base ≤ w.heap.size) (hm : 0 < m)
    (h : ∀ v' w', w'.ownsRow base e size v' (n + m) (xs ++ news) → w.grownBy w' v.ownBlock → (v'.ownBlock = v.ownBlock ∨ ∃ g, v'.ownBlock = some g ∧ w.heap.size ≤ g) → K (a.put o.dst v') w') : o.wp P a w K Q := by
  obtain ⟨v', w', hr, h2, h3, _⟩ := run_append_own (P := P) w base t o.type e i z size bytes ht hi hz hsize hby hzs hsz v n xs hown ad m c news hl hnews h1 h63 hbytes hbase
  have h5 := own_tell ht hi hz hsize hby hown hl hnews h1 h63 hbytes hm hr
  unfold Oper.wp execOp
  simp only [ho, resolve, invoke, builtin, Sem.run_bind, Sem.run_pure, Result.andThen_ok, List.map_toArray, List.map_cons, List.map_nil, hs, hx, hr]
  exact h v' w' h2 h3 h5
theorem wpList_append_told {P : Program} {w : World} {ops : Array Oper} {rest : List Oper} {o : Oper} {a : Act} {Q : Exit → Act → World → Prop} (hgd : o.guard = none) (s x : Operand) (t : TypeId)
    (ho : o.op = .call { callee := .builtin .append, args := #[s, x], argTypes := #[t, t] })
    (base : Nat) (e : TypeId) (i : TypeInfo) (z : Value) (size bytes : Nat) (ht : P.underlying t = some (.slice e)) (hi : P.info? e = some i) (hz : i.zero = some z)
    (hsize : i.size = size) (hby : i.bytes = bytes) (hzs : z.cells.size = size) (hsz : 0 < size)
    (v : Value) (n : Nat) (xs : List Value) (hs : a.eval s = v) (hown : w.ownsRow base e size v n xs)
    (ad : Addr) (m c : Nat) (news : List Value) (hx : a.eval x = .slice (some ad) m c) (hl : news.length = m * size) (hnews : ∀ j u, news[j]? = some u → w.cell? (ad.add j) = some u) (h1 : ∀ u ∈ news, u.oneCell' = true)
    (h63 : n + m ≤ maxLen) (hbytes : (n + m) * bytes ≤ 140737488355328) (hbase : base ≤ w.heap.size) (hm : 0 < m)
    (h : ∀ v' w', w'.ownsRow base e size v' (n + m) (xs ++ news) → w.grownBy w' v.ownBlock → (v'.ownBlock = v.ownBlock ∨ ∃ g, v'.ownBlock = some g ∧ w.heap.size ≤ g) → wpList P ops Q rest (a.put o.dst v') w') : wpList P ops Q (o :: rest) a w :=
  wpList_plain hgd fun _ hK => wp_append_told s x t ho base e i z size bytes ht hi hz hsize hby hzs hsz v n xs hs hown ad m c news hx hl hnews h1 h63 hbytes hbase hm fun v' w' h2 h3 h4 => hK _ _ (h v' w' h2 h3 h4)
end Go.Proofs.Ytobiedmmjiedlaa

namespace Go.Proofs.Ytobiedmmjiedlaa
open Go.RowKit

theorem infoInts : (Try.prog.info? 44).map (fun i => (i.zero, i.size, i.bytes)) = some (some (.slice none 0 0), 1, 24) := by kernel_rfl
theorem infoI : (Try.prog.info? 3).map (fun i => (i.zero, i.size, i.bytes)) = some (some (.int .i64 0), 1, 8) := by kernel_rfl
theorem own_later {w w' : World} {base size n : Nat} {e : TypeId} {v : Value} {xs : List Value} (h : w.ownsRow base e size v n xs) (hb : Below w.heap.size w w') : w'.ownsRow base e size v n xs :=
  World.ownsRow.kept h (row := none) ⟨hb.os, hb.tape, hb.output, hb.size, fun k hk _ => hb.block k hk⟩ (by
    rcases h.2 with ⟨rfl, _⟩ | ⟨g, cap, cur, rfl, _⟩
    · exact .inl rfl
    · exact .inr (by simp [Value.ownBlock]))
theorem own_shape {w : World} {base size n : Nat} {e : TypeId} {v : Value} {xs : List Value} (h : w.ownsRow base e size v n xs) : ∃ ao c, v = .slice ao n c := by
  rcases h.2 with ⟨rfl, h0⟩ | ⟨g, c, cur, rfl, _⟩
  · exact ⟨none, 0, by rw [h0]⟩
  · exact ⟨_, c, rfl⟩
theorem own_put {w : World} {base : Nat} {e : TypeId} {g cap : Nat} {us : List Value} {u : Value} (h : w.ownsRow base e 1 (.slice (some ⟨g, 0, none⟩) (us.length + 1) cap) (us.length + 1) (us ++ [u])) (u' : Value) :
    (w.setCell ⟨g, us.length, none⟩ u').ownsRow base e 1 (.slice (some ⟨g, 0, none⟩) (us.length + 1) cap) (us.length + 1) (us ++ [u']) := by
  rcases h.2 with ⟨h0, _⟩ | ⟨g', cap', cur, hv, hb, hh, hnc, hcm, hcs, ht⟩
  · cases h0
  · cases hv
    refine ⟨by simp, .inr ⟨g, cap, cur.setIfInBounds us.length u', rfl, hb, heap_setCell_same _ _ _ _ _ _ hh, hnc, hcm, by simpa using hcs, ?_⟩⟩
    rw [Array.toList_setIfInBounds, List.take_set, ht]
    simp
/-- Marks are told into the slice v of slices, the last of which is u. -/
structure Mk (w : World) (p : Nat) (v u : Value) (us is : List Value) : Prop where
  c2 : w.cell? ⟨p, 2, none⟩ = some v
  f2 : w.frozen? ⟨p, 2, none⟩ = false
  ov : w.ownsRow (p + 1) 44 1 v (us.length + 1) (us ++ [u])
  ou : w.ownsRow (p + 1) 3 1 u is.length is
  ne : ∀ g, v.ownBlock = some g → ¬ u.ownBlock = some g
  lt : p < w.heap.size
  bd : us.length ≤ 1000000 ∧ is.length ≤ 1000000
/-- What reading programs turns: the reader's own block, and the rows of marks. -/
structure PS (p : Nat) (w : World) (v u : Value) (w' : World) (v' u' : Value) : Prop where
  os : w'.os = w.os
  tape : w'.tape = w.tape
  output : w'.output = w.output
  size : w.heap.size ≤ w'.heap.size
  far : ∀ g, g < w.heap.size → g ≠ p → ¬ v.ownBlock = some g → ¬ u.ownBlock = some g → w'.heap[g]? = w.heap[g]? ∧ ¬ v'.ownBlock = some g ∧ ¬ u'.ownBlock = some g
theorem PS.refl (p : Nat) (w : World) (v u : Value) : PS p w v u w v u := ⟨rfl, rfl, rfl, Nat.le_refl _, fun _ _ _ h1 h2 => ⟨rfl, h1, h2⟩⟩
theorem PS.trans {p : Nat} {w w' w'' : World} {v v' v'' u u' u'' : Value} (h : PS p w v u w' v' u') (k : PS p w' v' u' w'' v'' u'') : PS p w v u w'' v'' u'' :=
  ⟨k.os.trans h.os, k.tape.trans h.tape, k.output.trans h.output, Nat.le_trans h.size k.size, fun g hg h0 h1 h2 => by
    obtain ⟨a, b, c⟩ := h.far g hg h0 h1 h2
    obtain ⟨a', b', c'⟩ := k.far g (Nat.lt_of_lt_of_le hg h.size) h0 b c
    exact ⟨a'.trans a, b', c'⟩⟩
theorem PS.of_mov {p : Nat} {w w' : World} (v u : Value) (m : Mov p w w') : PS p w v u w' v u := ⟨m.os, m.tape, m.output, m.size, fun g hg h0 h1 h2 => ⟨m.block g hg h0, h1, h2⟩⟩
theorem PS.of_below {p : Nat} {w w' : World} (v u : Value) (m : Below w.heap.size w w') : PS p w v u w' v u := .of_mov v u (.of_below m)
theorem one_cell_i (w : World) (x : Value) (t : TypeId) : ∀ (j : Nat) u, [x][j]? = some u → (w.alloc (.cells #[x] t)).cell? ((⟨w.heap.size, 0, none⟩ : Addr).add j) = some u := by
  intro j u hj
  match j, hj with
  | 0, hj => simp at hj; subst hj; simp [Addr.add]
theorem Mk.at_last {w : World} {p : Nat} {v u : Value} {us is : List Value} (h : Mk w p v u us is) : ∃ g cap, v = .slice (some ⟨g, 0, none⟩) (us.length + 1) cap ∧ us.length + 1 ≤ cap ∧ w.cell? ⟨g, us.length, none⟩ = some u ∧ w.frozen? ⟨g, us.length, none⟩ = false ∧ p + 1 ≤ g ∧ g < w.heap.size := by
  have hc := @World.ownsRow.cells _ _ _ _ _ _ _ h.ov
  have hl := World.ownsRow.lt h.ov
  rcases h.ov.2 with ⟨_, h0⟩ | ⟨g, cap, cur, rfl, hb, hh, hnc, _⟩
  · omega
  · have := @hc g rfl us.length u (by simp)
    refine ⟨g, cap, rfl, hnc, ?_, ?_, (hl g rfl).1, (hl g rfl).2⟩
    · cases e : us.length with
      | zero => rw [e] at this; simpa [Addr.add] using this
      | succ j => rw [e] at this; simpa [Addr.add] using this
    · simp [World.frozen?, hh]
theorem mark_post {w W w1 : World} {p gv cap : Nat} {u u1 : Value} {us is : List Value} {a : Value} (H : Mk w p (.slice (some ⟨gv, 0, none⟩) (us.length + 1) cap) u us is) (hb : is.length + 1 ≤ 1000000) (bW : Below w.heap.size w W) (g1 : W.grownBy w1 u.ownBlock)
    (h1 : w1.ownsRow (p + 1) 3 1 u1 (is.length + 1) (is ++ [a])) (o1 : u1.ownBlock = u.ownBlock ∨ ∃ g, u1.ownBlock = some g ∧ W.heap.size ≤ g) :
    Mk (w1.setCell ⟨gv, us.length, none⟩ u1) p (.slice (some ⟨gv, 0, none⟩) (us.length + 1) cap) u1 us (is ++ [a]) ∧ PS p w (.slice (some ⟨gv, 0, none⟩) (us.length + 1) cap) u (w1.setCell ⟨gv, us.length, none⟩ u1) (.slice (some ⟨gv, 0, none⟩) (us.length + 1) cap) u1 ∧ (w1.setCell ⟨gv, us.length, none⟩ u1).heap[p]? = w.heap[p]? := by
  have hgv := World.ownsRow.lt H.ov gv rfl
  have hp := H.lt
  have hz := bW.size
  have hne : ¬ u.ownBlock = some gv := H.ne gv rfl
  have hne1 : ¬ u1.ownBlock = some gv := by
    rcases o1 with e | ⟨g, e, hg⟩
    · rw [e]; exact hne
    · rw [e]; intro e2; cases e2; omega
  have hpu : some p ≠ u.ownBlock := fun e => by have := (World.ownsRow.lt H.ou _ e.symm).1; omega
  have kp : (w1.setCell ⟨gv, us.length, none⟩ u1).heap[p]? = w.heap[p]? := (heap_setCell_other w1 _ p _ (by simp only; omega)).trans ((g1.block p (by omega) hpu).trans (bW.block p hp))
  refine ⟨⟨(World.cell?_of_block (w := w) (a := ⟨p, 2, none⟩) kp).trans H.c2, (World.frozen?_of_block (w := w) (a := ⟨p, 2, none⟩) kp).trans H.f2, own_put (World.ownsRow.kept (own_later H.ov bW) g1 (.inr fun e => hne e.symm)) _, ?_, fun g hg => ?_, ?_, H.bd.1, ?_⟩, ⟨g1.os.trans bW.os, g1.tape.trans bW.tape, g1.output.trans bW.output, ?_, fun g hg h0 h2 h3 => ⟨?_, h2, ?_⟩⟩, kp⟩
  · rw [List.length_append]
    exact ownsRow_setCell_other h1 hne1 _
  · cases hg; exact hne1
  · have := g1.size; simp; omega
  · simp; omega
  · have := g1.size; simp; omega
  · exact (heap_setCell_other w1 _ g _ (fun e => h2 (by rw [e]; rfl))).trans ((g1.block g (by omega) (fun e => h3 e.symm)).trans (bW.block g hg))
  · rcases o1 with e | ⟨g', e, hg'⟩
    · rw [e]; exact h3
    · rw [e]; intro e2; cases e2; omega
end Go.Proofs.Ytobiedmmjiedlaa

namespace Go.Proofs.Ytobiedmmjiedlaa
open Go.RowKit

/-- A box of seven cells. -/
structure B7 (w : World) (g : Nat) (a0 a1 a2 a3 a4 a5 a6 : Value) : Prop where
  c0 : w.cell? ⟨g, 0, none⟩ = some a0
  c1 : w.cell? ⟨g, 1, none⟩ = some a1
  c2 : w.cell? ⟨g, 2, none⟩ = some a2
  c3 : w.cell? ⟨g, 3, none⟩ = some a3
  c4 : w.cell? ⟨g, 4, none⟩ = some a4
  c5 : w.cell? ⟨g, 5, none⟩ = some a5
  c6 : w.cell? ⟨g, 6, none⟩ = some a6
  f0 : w.frozen? ⟨g, 0, none⟩ = false
  f1 : w.frozen? ⟨g, 1, none⟩ = false
  f2 : w.frozen? ⟨g, 2, none⟩ = false
  f3 : w.frozen? ⟨g, 3, none⟩ = false
  f4 : w.frozen? ⟨g, 4, none⟩ = false
  f5 : w.frozen? ⟨g, 5, none⟩ = false
  f6 : w.frozen? ⟨g, 6, none⟩ = false
  lt : g < w.heap.size
theorem B7.kept {w w' : World} {g : Nat} {a0 a1 a2 a3 a4 a5 a6 : Value} (h : B7 w g a0 a1 a2 a3 a4 a5 a6) (e : w'.heap[g]? = w.heap[g]?) (hz : w.heap.size ≤ w'.heap.size) : B7 w' g a0 a1 a2 a3 a4 a5 a6 :=
  ⟨(World.cell?_of_block (w := w) e).trans h.c0, (World.cell?_of_block (w := w) e).trans h.c1, (World.cell?_of_block (w := w) e).trans h.c2, (World.cell?_of_block (w := w) e).trans h.c3, (World.cell?_of_block (w := w) e).trans h.c4, (World.cell?_of_block (w := w) e).trans h.c5, (World.cell?_of_block (w := w) e).trans h.c6,
   (World.frozen?_of_block (w := w) e).trans h.f0, (World.frozen?_of_block (w := w) e).trans h.f1, (World.frozen?_of_block (w := w) e).trans h.f2, (World.frozen?_of_block (w := w) e).trans h.f3, (World.frozen?_of_block (w := w) e).trans h.f4, (World.frozen?_of_block (w := w) e).trans h.f5, (World.frozen?_of_block (w := w) e).trans h.f6, Nat.lt_of_lt_of_le h.lt hz⟩
theorem B7.new (w : World) (t : TypeId) (a0 a1 a2 a3 a4 a5 a6 : Value) : B7 (w.alloc (.cells #[a0, a1, a2, a3, a4, a5, a6] t)) w.heap.size a0 a1 a2 a3 a4 a5 a6 := by
  constructor <;> first | (simp [go_sem]; done) | exact World.frozen?_alloc_at _ _ _ _ rfl
def fill7 (w : World) (g : Nat) (a0 a1 a2 a3 a4 a5 a6 : Value) : World := ((((((w.setCell ⟨g, 0, none⟩ a0).setCell ⟨g, 1, none⟩ a1).setCell ⟨g, 2, none⟩ a2).setCell ⟨g, 3, none⟩ a3).setCell ⟨g, 4, none⟩ a4).setCell ⟨g, 5, none⟩ a5).setCell ⟨g, 6, none⟩ a6
theorem fill7_size (w : World) (g : Nat) (a0 a1 a2 a3 a4 a5 a6 : Value) : (fill7 w g a0 a1 a2 a3 a4 a5 a6).heap.size = w.heap.size := by simp [fill7]
theorem Mov.fill7 {p : Nat} {w w' : World} (h : Mov p w w') {g : Nat} (hg : w.heap.size ≤ g) (a0 a1 a2 a3 a4 a5 a6 : Value) : Mov p w (fill7 w' g a0 a1 a2 a3 a4 a5 a6) :=
  ((((((h.set (a := ⟨g, 0, none⟩) hg _).set (a := ⟨g, 1, none⟩) hg _).set (a := ⟨g, 2, none⟩) hg _).set (a := ⟨g, 3, none⟩) hg _).set (a := ⟨g, 4, none⟩) hg _).set (a := ⟨g, 5, none⟩) hg _).set (a := ⟨g, 6, none⟩) hg _
theorem Rd.fill7 {w : World} {p b o cap : Nat} {ts : List Tok} {k : Nat} (h : Rd w p b o cap ts k) {g : Nat} (hp : g ≠ p) (hb : g ≠ b) (a0 a1 a2 a3 a4 a5 a6 : Value) : Rd (fill7 w g a0 a1 a2 a3 a4 a5 a6) p b o cap ts k :=
  ((((((h.set (a := ⟨g, 0, none⟩) hp hb _).set (a := ⟨g, 1, none⟩) hp hb _).set (a := ⟨g, 2, none⟩) hp hb _).set (a := ⟨g, 3, none⟩) hp hb _).set (a := ⟨g, 4, none⟩) hp hb _).set (a := ⟨g, 5, none⟩) hp hb _).set (a := ⟨g, 6, none⟩) hp hb _
theorem ExS.fill7 {A : Nat → Prop} {w : World} {sl : Value} {l : List Sx.Ex} (h : ExS A w sl l) {g : Nat} (ha : ¬ A g) (a0 a1 a2 a3 a4 a5 a6 : Value) : ExS A (Go.Proofs.Ytobiedmmjiedlaa.fill7 w g a0 a1 a2 a3 a4 a5 a6) sl l :=
  ((((((h.set (a := ⟨g, 0, Option.none⟩) ha _).set (a := ⟨g, 1, Option.none⟩) ha _).set (a := ⟨g, 2, Option.none⟩) ha _).set (a := ⟨g, 3, Option.none⟩) ha _).set (a := ⟨g, 4, Option.none⟩) ha _).set (a := ⟨g, 5, Option.none⟩) ha _).set (a := ⟨g, 6, Option.none⟩) ha _
theorem B7.fill {w : World} {g : Nat} {a0 a1 a2 a3 a4 a5 a6 : Value} (h : B7 w g a0 a1 a2 a3 a4 a5 a6) (b0 b1 b2 b3 b4 b5 b6 : Value) : B7 (fill7 w g b0 b1 b2 b3 b4 b5 b6) g b0 b1 b2 b3 b4 b5 b6 := by
  unfold fill7
  constructor
  all_goals simp [h.c0, h.c1, h.c2, h.c3, h.c4, h.c5, h.c6, h.f0, h.f1, h.f2, h.f3, h.f4, h.f5, h.f6, h.lt, go_sem]
def stV (kind : Int) (sl : Value) : Value := .agg #[.int .i64 kind, .string ⟨#[]⟩, .string ⟨#[]⟩, .int .i64 0, sl, .slice none 0 0, .slice none 0 0]
abbrev zS : Obj := .cells #[.int .i64 0, .string ⟨#[]⟩, .string ⟨#[]⟩, .int .i64 0, .slice none 0 0, .slice none 0 0, .slice none 0 0] 33
/-- A statement with one expression was read. -/
def TOk (p b o cap : Nat) (ts : List Tok) (kind : Int) (w : World) (y : Sx.Ex) (k' : Nat) (e : Ending) (w' : World) : Prop :=
  ∃ sa, e = .returned (stV kind (.slice sa 1 1)) ∧ ExS (fun g => w.heap.size ≤ g) w' (.slice sa 1 1) [y] ∧ Rd w' p b o cap ts k' ∧ k' < ts.length ∧ Mov p w w'
end Go.Proofs.Ytobiedmmjiedlaa

namespace Go.Proofs.Ytobiedmmjiedlaa
open Go.RowKit

end Go.Proofs.Ytobiedmmjiedlaa

namespace Go.Proofs.Ytobiedmmjiedlaa
open Go.RowKit

/-- A box of two cells. -/
structure B2 (w : World) (g : Nat) (a0 a1 : Value) : Prop where
  c0 : w.cell? ⟨g, 0, none⟩ = some a0
  c1 : w.cell? ⟨g, 1, none⟩ = some a1
  f0 : w.frozen? ⟨g, 0, none⟩ = false
  f1 : w.frozen? ⟨g, 1, none⟩ = false
  lt : g < w.heap.size
theorem B2.kept {w w' : World} {g : Nat} {a0 a1 : Value} (h : B2 w g a0 a1) (e : w'.heap[g]? = w.heap[g]?) (hz : w.heap.size ≤ w'.heap.size) : B2 w' g a0 a1 :=
  ⟨(World.cell?_of_block (w := w) e).trans h.c0, (World.cell?_of_block (w := w) e).trans h.c1, (World.frozen?_of_block (w := w) e).trans h.f0, (World.frozen?_of_block (w := w) e).trans h.f1, Nat.lt_of_lt_of_le h.lt hz⟩
theorem B2.new (w : World) (t : TypeId) (a0 a1 : Value) : B2 (w.alloc (.cells #[a0, a1] t)) w.heap.size a0 a1 := by
  constructor <;> first | (simp [go_sem]; done) | exact World.frozen?_alloc_at _ _ _ _ rfl
end Go.Proofs.Ytobiedmmjiedlaa

namespace Go.Proofs.Ytobiedmmjiedlaa
open Go.RowKit

theorem infoEx : (Try.prog.info? 54).map (fun i => (i.zero, i.size, i.bytes)) = some (some (.agg #[.int .i64 0, .string ⟨#[]⟩, .int .i64 0, .slice none 0 0]), 4, 56) := by kernel_rfl
/-- Cells that lie as expressions do. -/
theorem ExC.of_cells {A : Nat → Prop} {w : World} {g : Nat} : ∀ (ys : List Sx.Ex) (o : Nat), (∀ q, q < ys.length → ∃ k n m sl ll, ys[q]? = Option.some (.mk k n m ll) ∧ w.cell? ⟨g, o + q * 4, Option.none⟩ = Option.some (.int .i64 k) ∧ w.cell? ⟨g, o + q * 4 + 1, Option.none⟩ = Option.some (.string ⟨(n : List UInt8).toArray⟩) ∧ w.cell? ⟨g, o + q * 4 + 2, Option.none⟩ = Option.some (.int .i64 m) ∧ w.cell? ⟨g, o + q * 4 + 3, Option.none⟩ = Option.some sl ∧ ExS A w sl ll) → ExC A w g o ys
  | [], o, _ => .nil g o
  | y :: r, o, h => by
    obtain ⟨k, n, m, sl, ll, e, c0, c1, c2, c3, hs⟩ := h 0 (by simp)
    have ey : y = .mk k n m ll := by simpa using e
    subst ey
    refine .cons g o k n m sl ll r (by simpa using c0) (by simpa using c1) (by simpa using c2) (by simpa using c3) hs (ExC.of_cells r (o + 4) fun q hq => ?_)
    obtain ⟨k, n, m, sl, ll, e, c0, c1, c2, c3, hs⟩ := h (q + 1) (by simp; omega)
    have q4 : o + (q + 1) * 4 = o + 4 + q * 4 := by omega
    rw [q4] at c0 c1 c2 c3
    exact ⟨k, n, m, sl, ll, by simpa using e, c0, c1, c2, c3, hs⟩
/-- One made element, in the row's cells. -/
def Made (w wr : World) (v : Value) (cells : List Value) (q : Nat) (y : Sx.Ex) : Prop := ∃ k n m sa sc ll, y = .mk k n m ll ∧ cells[q * 4]? = some (.int .i64 k) ∧ cells[q * 4 + 1]? = some (.string ⟨(n : List UInt8).toArray⟩) ∧ cells[q * 4 + 2]? = some (.int .i64 m) ∧ cells[q * 4 + 3]? = some (.slice sa ll.length sc) ∧ ExS (fun g => w.heap.size ≤ g ∧ ¬ v.ownBlock = some g) wr (.slice sa ll.length sc) ll
/-- The first j elements are made, in the row v. -/
def Ea (w : World) (f : Sx.Ex → Sx.Ex) (l : List Sx.Ex) (j : Nat) (v : Value) (wr : World) : Prop :=
  ∃ cells, wr.ownsRow w.heap.size 54 4 v j cells ∧ cells.length = j * 4 ∧ (∀ q x, q < j → l[q]? = some x → Made w wr v cells q (f x)) ∧ Below w.heap.size w wr
theorem Ea.step {w wr W w4 : World} {f : Sx.Ex → Sx.Ex} {l : List Sx.Ex} {j : Nat} {v v' : Value} {cells : List Value} {x : Sx.Ex} {k m : Int} {n : List UInt8} {sa : Option Addr} {sc : Nat} {ll : List Sx.Ex}
    (hrow : wr.ownsRow w.heap.size 54 4 v j cells) (hlen : cells.length = j * 4) (hmade : ∀ q x, q < j → l[q]? = some x → Made w wr v cells q (f x)) (hbel : Below w.heap.size w wr) (bW : Below wr.heap.size wr W) (hx : l[j]? = some x) (hy : f x = .mk k n m ll)
    (X : ExS (fun g => wr.heap.size ≤ g) W (.slice sa ll.length sc) ll) (h4 : w4.ownsRow w.heap.size 54 4 v' (j + 1) (cells ++ [.int .i64 k, .string ⟨n.toArray⟩, .int .i64 m, .slice sa ll.length sc])) (g4 : W.grownBy w4 v.ownBlock) (o4 : v'.ownBlock = v.ownBlock ∨ ∃ g, v'.ownBlock = some g ∧ W.heap.size ≤ g) :
    Ea w f l (j + 1) v' w4 := by
  have hv : ∀ g, v.ownBlock = some g → g < wr.heap.size ∧ w.heap.size ≤ g := fun g e => ⟨(World.ownsRow.lt hrow g e).2, (World.ownsRow.lt hrow g e).1⟩
  have hz := bW.size
  have hz0 := hbel.size
  have keep : ∀ {sl : Value} {l' : List Sx.Ex}, ExS (fun g => w.heap.size ≤ g ∧ ¬ v.ownBlock = some g) W sl l' → ExS (fun g => w.heap.size ≤ g ∧ ¬ v'.ownBlock = some g) w4 sl l' := by
    intro sl l' h
    refine h.keep (fun g hg hA => ⟨hA.1, fun e => ?_⟩) (fun q hA hq => World.cell?_of_block (w := W) (g4.block _ hq fun e => hA.2 e.symm)) g4.size
    rcases o4 with e1 | ⟨g', e1, hg'⟩
    · exact hA.2 (e1.symm.trans e)
    · rw [e1] at e; cases e; omega
  refine ⟨_, h4, by simp [hlen]; omega, fun q y hq hy' => ?_, ?_⟩
  · by_cases c : q < j
    · obtain ⟨k', n', m', sa', sc', ll', e, c0, c1, c2, c3, hs⟩ := hmade q y c hy'
      have ap : ∀ i, i < j * 4 → (cells ++ [.int .i64 k, .string ⟨n.toArray⟩, .int .i64 m, .slice sa ll.length sc])[i]? = cells[i]? := fun i hi => List.getElem?_append_left (by omega)
      exact ⟨k', n', m', sa', sc', ll', e, (ap _ (by omega)).trans c0, (ap _ (by omega)).trans c1, (ap _ (by omega)).trans c2, (ap _ (by omega)).trans c3, keep (hs.later bW (Nat.le_refl _))⟩
    · obtain rfl : q = j := by omega
      rw [hx] at hy'
      cases hy'
      refine ⟨k, n, m, sa, sc, ll, hy, ?_, ?_, ?_, ?_, keep (X.mono fun g _ hg => ⟨by omega, fun e => by have := (hv g e).1; omega⟩)⟩
      all_goals (rw [List.getElem?_append_right (by omega)]; simp [hlen])
  · exact hbel.trans ((⟨(g4.os).trans bW.os, (g4.tape).trans bW.tape, (g4.output).trans bW.output, Nat.le_trans bW.size g4.size, fun i hi => (g4.block i (by omega) (fun e => by have := (hv i e.symm).2; omega)).trans (bW.block i (by omega))⟩ : Below w.heap.size wr w4))
theorem Ea.done {w wr : World} {f : Sx.Ex → Sx.Ex} {l : List Sx.Ex} {v : Value} (h : Ea w f l l.length v wr) : ∃ sb sd, v = .slice sb l.length sd ∧ ExS (fun g => w.heap.size ≤ g) wr v (l.map f) ∧ Below w.heap.size w wr := by
  obtain ⟨cells, hrow, hlen, hmade, hbel⟩ := h
  have hc := @World.ownsRow.cells _ _ _ _ _ _ _ hrow
  have hlt := World.ownsRow.lt hrow
  rcases hrow.2 with ⟨rfl, h0⟩ | ⟨g, cap, cur, rfl, hb, _, hnc, _⟩
  · have : l = [] := List.length_eq_zero_iff.1 h0
    subst this
    exact ⟨none, 0, rfl, .nil none 0, hbel⟩
  · refine ⟨some ⟨g, 0, none⟩, cap, rfl, ?_, hbel⟩
    by_cases h0 : l.length = 0
    · have : l = [] := List.length_eq_zero_iff.1 h0
      subst this
      exact .nil _ _
    · have key : ∀ (i : Nat) (u : Value), cells[i]? = some u → wr.cell? ⟨g, 0 + i, none⟩ = some u := by
        intro i u hu
        have := @hc g rfl i u hu
        have e : (⟨g, 0, none⟩ : Addr).add i = ⟨g, 0 + i, none⟩ := by unfold Addr.add; split <;> simp_all
        rw [e] at this
        exact this
      refine .some g 0 cap l.length (l.map f) (by simp) (by simp; omega) (by simp; exact hnc) (hlt g rfl).1 (hlt g rfl).2 (ExC.of_cells _ 0 fun q hq => ?_)
      have hq' : q < l.length := by simpa using hq
      obtain ⟨k, n, m, sa, sc, ll, e, c0, c1, c2, c3, hs⟩ := hmade q l[q] hq' (List.getElem?_eq_getElem hq')
      exact ⟨k, n, m, _, ll, by rw [List.getElem?_map, List.getElem?_eq_getElem hq']; exact congrArg some e, key _ _ c0, key _ _ c1, key _ _ c2, key _ _ c3, hs.mono fun g _ hA => hA.1⟩
/-- What is asked of the function that makes. -/
def MC (F : FuncId) (f : Sx.Ex → Sx.Ex) (A : Nat → Prop) (w : World) (x : Sx.Ex) : Prop := ∀ (k : Int) (n : List UInt8) (m : Int) (ll : List Sx.Ex) (sa : Option Addr) (sc : Nat) (W : World), x = .mk k n m ll → Below w.heap.size w W → ExS A W (.slice sa ll.length sc) ll → Calls Try.prog F #[.agg #[.int .i64 k, .string ⟨n.toArray⟩, .int .i64 m, .slice sa ll.length sc]] W (RE (fun g => W.heap.size ≤ g) W (f x))
end Go.Proofs.Ytobiedmmjiedlaa

namespace Go.Proofs.Ytobiedmmjiedlaa
open Go.RowKit

/-- Names that are not longer than a text can be. -/
inductive Fo.Nl : Sx.Ex → Prop
  | mk (k : Int) (n : List UInt8) (m : Int) (l : List Sx.Ex) (h : n.length ≤ 9223372036854775807) (hp : ∀ x, x ∈ l → Fo.Nl x) : Fo.Nl (.mk k n m l)
/-- What ExprSize answers. -/
def ZA (most : Int) (x : Sx.Ex) (r : Int) : Prop := 1 ≤ r ∧ r ≤ most + 1152921504606846977 ∧ (r ≤ most → Fo.Bnd x)
def ZC (x : Sx.Ex) : Prop := ∀ (A : Nat → Prop) (k : Int) (n : List UInt8) (m : Int) (l : List Sx.Ex) (sa : Option Addr) (sc : Nat) (most : Int) (w : World), x = .mk k n m l → 0 ≤ most → most ≤ 1500 → ExS A w (.slice sa l.length sc) l → Calls Try.prog 31 #[.agg #[.int .i64 k, .string ⟨n.toArray⟩, .int .i64 m, .slice sa l.length sc], .int .i64 most] w fun e w' => ∃ r : Int, e = .returned (.int .i64 r) ∧ ZA most x r ∧ Below w.heap.size w w'
def ZLoop (most : Int) (l : List Sx.Ex) (W : World) (v i : Value) (wr : World) : Prop := ∃ (j : Nat) (s : Int), j ≤ l.length ∧ v = .int .i64 s ∧ i = .int .i64 j ∧ 1 + (j : Int) ≤ s ∧ s ≤ most + 1152921504606846977 ∧ Hid (s ≤ most → ∀ (q : Nat) (x : Sx.Ex), q < j → l[q]? = some x → Fo.Bnd x) ∧ Below W.heap.size W wr
set_option maxRecDepth 100000 in
set_option maxHeartbeats 2000000 in
theorem exprSize_any {x : Sx.Ex} (h : Fo.Nl x) : ZC x := by
  induction h with
  | mk k n m l hn _ ih =>
    intro A k0 n0 m0 l0 sa sc most w hx h0 h1 hs
    injection hx with q1 q2 q3 q4
    subst q1 q2 q3 q4
    obtain ⟨W0, hW0⟩ : ∃ W0, W0 = w.alloc (.cells #[.int .i64 k, .string ⟨n.toArray⟩, .int .i64 m, .slice sa l.length sc] 54) := ⟨_, rfl⟩
    have bW : Hid (Below w.heap.size w W0) := by unfold Hid; rw [hW0]; exact box_below _ _
    have BX0 : Bx W0 w.heap.size (.int .i64 k) (.string ⟨n.toArray⟩) (.int .i64 m) (.slice sa l.length sc) := by rw [hW0]; exact Bx.new _ _ _ _ _ _
    have BX : Hid _ := BX0
    have HS : Hid _ := hs
    have HI : Hid _ := ih
    obtain ⟨d0, d1, d2, d3, f0, f1, f2, f3, zt⟩ := BX0
    have hw1 : wrap64 ((n.length : Int) / 8) = (n.length : Int) / 8 := by unfold wrap64; omega
    have hw2 : wrap64 (1 + (n.length : Int) / 8) = 1 + (n.length : Int) / 8 := by unfold wrap64; omega
    have hS0 : Hid (1 ≤ 1 + (n.length : Int) / 8 ∧ 1 + (n.length : Int) / 8 ≤ most + 1152921504606846977) := ⟨by omega, by omega⟩
    clear hs ih
    go_enter Try.func31, Try.ntmps31
    go_upto_region 1 with fail
    rw [← hW0]
    clear hW0
    go_wp2_with fail
    generalize 1 + (n.length : Int) / 8 = S0 at hS0 ⊢
    clear hw1 hw2 d0 d1 d2 d3 f0 f1 f2 f3 zt
    go_loopw [5, 6] (fun v i wr => ZLoop most l W0 v i wr) (fun _ i _ => l.length - (intOf i).toNat)
    case atStart => exact ⟨0, _, by omega, rfl, rfl, by simpa using hS0.out.1, hS0.out.2, fun _ q x hq _ => absurd hq (Nat.not_lt_zero q), Below.refl _ _⟩
    case round =>
      obtain ⟨j, s, hj, rfl, rfl, hs1, hs2, HB, hnx⟩ := hrel
      have bwr : Below w.heap.size w wr := bW.out.trans (hnx.mono bW.out.size)
      have BX1 : Hid _ := BX.out.later hnx BX.out.lt
      obtain ⟨d0, d1, d2, d3, f0, f1, f2, f3, zt⟩ := BX1.out
      by_cases hlt : j < l.length
      · have hji : (j : Int) < (l.length : Int) := by omega
        have hj0 : (0 : Int) ≤ (j : Int) := by omega
        by_cases hm : s ≤ most
        · obtain ⟨g, o, k', n', m', sa', sn', sc', ll, rfl, hg, el, c0, c1, c2, c3, hs'⟩ := (HS.out.later bwr (Nat.le_refl _)).part j hlt
          have hln := hs'.len
          subst hln
          have hwm : wrap64 (most - s) = most - s := by unfold wrap64; omega
          have E1 : Hid (∀ W, Below wr.heap.size wr W → _) := fun W hW => HI.out _ (List.mem_of_getElem? el) A k' n' m' ll sa' sc' (most - s) W rfl (by omega) (by omega) (hs'.later hW (Nat.le_refl _))
          have EL : Hid _ := el
          have NX : Hid _ := hnx
          clear hs' el hnx bwr
          go_wp2_with fail
          refine Calls.mono (E1.out _ (Below.refl _ _)) ?_
          rintro e w1 ⟨r, rfl, ⟨z1, z2, z3⟩, b1⟩
          have Z3 : Hid _ := z3
          have hwr : wrap64 (s + r) = s + r := by unfold wrap64; omega
          have B1 : Hid (Below W0.heap.size W0 w1) := NX.out.trans (b1.mono NX.out.size)
          clear b1 z3 d0 d1 d2 d3 f0 f1 f2 f3 zt c0 c1 c2 c3
          go_wp2_with fail
          go_roundw
          case rel =>
            refine ⟨j + 1, s + r, by omega, rfl, by go_num, by omega, by omega, fun hle q x hq hx => ?_, B1.out⟩
            by_cases c : q < j
            · exact HB.out (by omega) q x c hx
            · obtain rfl : q = j := by omega
              rw [EL.out] at hx
              cases hx
              exact Z3.out (by omega)
          case measure => simp [intOf]; omega
        · have hm3 : most < s := by omega
          have BW : Hid _ := bwr
          clear hnx bwr
          go_wp2_with fail
          go_ret
          exact ⟨s, rfl, ⟨by omega, hs2, fun h => absurd h (Int.not_le.2 hm3)⟩, BW.out⟩
      · obtain rfl : j = l.length := by omega
        have BW : Hid _ := bwr
        have R : Hid (ZA most (.mk k n m l) s) := ⟨by omega, hs2, fun hle => .mk _ _ _ _ (by omega) fun x hx => by
          obtain ⟨q, hq, e⟩ := List.getElem_of_mem hx
          exact HB.out hle q x hq (by rw [List.getElem?_eq_getElem hq, e])⟩
        clear hnx bwr
        go_wp2_with fail
        go_ret
        exact ⟨s, rfl, R.out, BW.out⟩
end Go.Proofs.Ytobiedmmjiedlaa

namespace Go.Proofs.Ytobiedmmjiedlaa
open Go.RowKit

/-- What is asked of a function that makes an expression of one, for that one alone. -/
def FC (F : FuncId) (f : Sx.Ex → Sx.Ex) (x : Sx.Ex) : Prop := ∀ (A : Nat → Prop) (k : Int) (n : List UInt8) (m : Int) (l : List Sx.Ex) (sa : Option Addr) (sc : Nat) (w : World), x = .mk k n m l → ExS A w (.slice sa l.length sc) l → Calls Try.prog F #[.agg #[.int .i64 k, .string ⟨n.toArray⟩, .int .i64 m, .slice sa l.length sc]] w (RE (fun g => w.heap.size ≤ g) w (f x))
theorem FC.mc {F : FuncId} {f : Sx.Ex → Sx.Ex} {x : Sx.Ex} (h : FC F f x) (A : Nat → Prop) (w : World) : MC F f A w x := fun k n m ll sa sc W e _ hs => h A k n m ll sa sc W e hs
end Go.Proofs.Ytobiedmmjiedlaa
