/- Layer 3: unary, where it gives up at once. -/
/- Layer 3: unary, where a token is taken. -/
/- Layer 3: variable, and expr. -/
/- Layer 3: bound: what signs between two hold together. -/
/- Layer 3: attempt. -/
import Derived.Test.YtobiedmmjiedlaaZLexK
import Derived.Deep.LoopGhost
import Derived.Defers
import Derived.Recover
namespace Go.Proofs.Ytobiedmmjiedlaa
open Go.RowKit

end Go.Proofs.Ytobiedmmjiedlaa

namespace Go.Proofs.Ytobiedmmjiedlaa
open Go.RowKit

abbrev zE : Obj := .cells #[.int .i64 0, .string ⟨#[]⟩, .int .i64 0, .slice none 0 0] 54
theorem sz1 {n : Nat} {w w' : World} {o : Obj} (h : Below n (w.alloc o) w') : w.heap.size + 1 ≤ w'.heap.size := by simpa using h.size
/-- The first token x was taken, and lies in a box of its own; the box for the answer is empty. -/
def URel (w : World) (p b o cap : Nat) (ts : List Tok) (k : Nat) (x : Tok) (s : Value) (wc : World) : Prop :=
  ∃ g, s = .pointer (some ⟨g, 0, none⟩) ∧ Bx wc g (.int .i64 x.1.kind) (.string ⟨x.1.text.toArray⟩) (.int .i64 x.1.num) (.int .i64 x.2) ∧ w.heap.size < g ∧
    Bx wc w.heap.size (.int .i64 0) (.string ⟨#[]⟩) (.int .i64 0) (.slice none 0 0) ∧ Mov p w wc ∧ Rd wc p b o cap ts (k + 1)
theorem URel.of {w w3 : World} {p b o cap : Nat} {ts : List Tok} {k g : Nat} {x : Tok} {a0 a1 a2 a3 : Value} (t : Bx w3 g a0 a1 a2 a3) (hg : w.heap.size < g) (hp : p < w.heap.size) (hb : b < w.heap.size) (r : Bx w3 w.heap.size (.int .i64 0) (.string ⟨#[]⟩) (.int .i64 0) (.slice none 0 0)) (m : Mov p w w3) (rd : Rd w3 p b o cap ts (k + 1)) :
    URel w p b o cap ts k x (.pointer (some ⟨g, 0, none⟩)) (fill w3 g (.int .i64 x.1.kind) (.string ⟨x.1.text.toArray⟩) (.int .i64 x.1.num) (.int .i64 x.2)) :=
  ⟨g, rfl, t.fill _ _ _ _, hg, r.filled (by omega) _ _ _ _, m.fill (by omega) _ _ _ _, rd.fill (by omega) (by omega) _ _ _ _⟩
theorem URel.of_new {w w3 : World} {p b o cap : Nat} {ts : List Tok} {k : Nat} {x : Tok} (t : TypeId) (r : Bx w3 w.heap.size (.int .i64 0) (.string ⟨#[]⟩) (.int .i64 0) (.slice none 0 0)) (m : Mov p w w3) (rd : Rd w3 p b o cap ts (k + 1)) :
    URel w p b o cap ts k x (.pointer (some ⟨w3.heap.size, 0, none⟩)) (w3.alloc (.cells #[.int .i64 x.1.kind, .string ⟨x.1.text.toArray⟩, .int .i64 x.1.num, .int .i64 x.2] t)) :=
  ⟨w3.heap.size, rfl, Bx.new _ _ _ _ _ _, r.lt, r.later (box_below _ _) r.lt, m.alloc _, rd.later (box_below _ _)⟩
end Go.Proofs.Ytobiedmmjiedlaa

namespace Go.Proofs.Ytobiedmmjiedlaa
open Go.RowKit

end Go.Proofs.Ytobiedmmjiedlaa

namespace Go.Proofs.Ytobiedmmjiedlaa
open Go.RowKit

/-- The expression y, read so far, lies in block h; the token behind it is number k'. -/
def NRel (w : World) (p b o cap : Nat) (ts : List Tok) (h : Nat) (y : Sx.Ex) (k' : Nat) (wr : World) : Prop :=
  ∃ kk nn mm sa sn sc ll, y = .mk kk nn mm ll ∧ Bx wr h (.int .i64 kk) (.string ⟨(nn : List UInt8).toArray⟩) (.int .i64 mm) (.slice sa sn sc) ∧ ExS (fun g => w.heap.size < g ∧ g ≠ h) wr (.slice sa sn sc) ll ∧
    Bx wr w.heap.size (.int .i64 0) (.string ⟨#[]⟩) (.int .i64 0) (.slice none 0 0) ∧ Rd wr p b o cap ts k' ∧ k' < ts.length ∧ Mov p w wr
/-- Where the loop of bound stands. -/
def LRel (w : World) (p b o cap : Nat) (ts : List Tok) (q d h f : Nat) (r : Sx.Rs) (gk : Nat) (wr : World) : Prop :=
  ∃ y k', NRel w p b o cap ts h y k' wr ∧ Sx.lp ts gk q d y k' = some r ∧ gk ≤ f
/-- Two are put together in block h. -/
theorem NRel.two {w W w4 : World} {p b o cap : Nat} {ts : List Tok} {h : Nat} {k4 : Nat} {kk mm kk' mm' : Int} {nn nn' sg : List UInt8} {sa sa' : Option Addr} {sn sc sn' sc' : Nat} {ll ll' : List Sx.Ex} (t : TypeId)
    (B : Bx W h (.int .i64 kk) (.string ⟨nn.toArray⟩) (.int .i64 mm) (.slice sa sn sc)) (X : ExS (fun g => w.heap.size < g ∧ g ≠ h) W (.slice sa sn sc) ll) (R : Bx W w.heap.size (.int .i64 0) (.string ⟨#[]⟩) (.int .i64 0) (.slice none 0 0)) (M : Mov p w W)
    (X4 : ExS (fun g => W.heap.size ≤ g) w4 (.slice sa' sn' sc') ll') (rd4 : Rd w4 p b o cap ts k4) (hk4 : k4 < ts.length) (m4 : Mov p W w4) (hp : p < w.heap.size) (hb : b < w.heap.size) (hh : w.heap.size < h) :
    NRel w p b o cap ts h (.mk 6 sg 0 [.mk kk nn mm ll, .mk kk' nn' mm' ll']) k4 ((fill w4 h (.int .i64 6) (.string ⟨sg.toArray⟩) (.int .i64 0) (.slice (some ⟨w4.heap.size, 0, none⟩) 2 2)).alloc (.cells #[.int .i64 kk, .string ⟨nn.toArray⟩, .int .i64 mm, .slice sa sn sc, .int .i64 kk', .string ⟨nn'.toArray⟩, .int .i64 mm', .slice sa' sn' sc'] t)) := by
  have B4 := B.mov m4 (by omega)
  have z4 : h < w4.heap.size := B4.lt
  refine ⟨_, _, _, _, _, _, _, rfl, (B4.fill _ _ _ _).later (box_below _ _) (by rw [fill_size]; exact z4), ?_, ((R.mov m4 (by omega)).filled (by omega) _ _ _ _).later (box_below _ _) (by rw [fill_size]; omega), (rd4.fill (by omega) (by omega) _ _ _ _).later (box_below _ _), hk4, ((M.trans m4).fill (by omega) _ _ _ _).alloc _⟩
  exact (X.mov m4 (fun e => by omega)).two' (X4.mono fun g _ hg => ⟨Nat.lt_of_lt_of_le R.lt hg, fun e => by have := B.lt; omega⟩) ⟨by omega, by omega⟩ (fun e => e.2 rfl) _ _ _ _ _ _ _ _ _ _ _
end Go.Proofs.Ytobiedmmjiedlaa

namespace Go.Proofs.Ytobiedmmjiedlaa
open Go.RowKit

/-- But for blocks of D nothing that was there has changed. -/
structure Keep (D : Nat → Prop) (w w' : World) : Prop where
  os : w'.os = w.os
  tape : w'.tape = w.tape
  output : w'.output = w.output
  size : w.heap.size ≤ w'.heap.size
  block : ∀ k, k < w.heap.size → ¬ D k → w'.heap[k]? = w.heap[k]?
theorem Keep.refl (D : Nat → Prop) (w : World) : Keep D w w := ⟨rfl, rfl, rfl, Nat.le_refl _, fun _ _ _ => rfl⟩
theorem Keep.trans {D : Nat → Prop} {a b c : World} (h : Keep D a b) (k : Keep D b c) : Keep D a c :=
  ⟨k.os.trans h.os, k.tape.trans h.tape, k.output.trans h.output, Nat.le_trans h.size k.size, fun i hi hp => (k.block i (Nat.lt_of_lt_of_le hi h.size) hp).trans (h.block i hi hp)⟩
theorem Keep.mono {D D' : Nat → Prop} {w w' : World} (h : Keep D w w') (hD : ∀ g, g < w.heap.size → D g → D' g) : Keep D' w w' := ⟨h.os, h.tape, h.output, h.size, fun k hk hn => h.block k hk fun e => hn (hD k hk e)⟩
theorem Keep.cell {D : Nat → Prop} {w w' : World} (h : Keep D w w') {q : Addr} (hq : q.block < w.heap.size) (hD : ¬ D q.block) : w'.cell? q = w.cell? q := World.cell?_of_block (w := w) (h.block _ hq hD)
theorem Keep.frozen {D : Nat → Prop} {w w' : World} (h : Keep D w w') {q : Addr} (hq : q.block < w.heap.size) (hD : ¬ D q.block) : w'.frozen? q = w.frozen? q := World.frozen?_of_block (w := w) (h.block _ hq hD)
theorem Keep.of_mov {p : Nat} {w w' : World} (h : Mov p w w') : Keep (fun g => g = p) w w' := ⟨h.os, h.tape, h.output, h.size, fun k hk hn => h.block k hk hn⟩
theorem Keep.of_below {D : Nat → Prop} {n : Nat} {w w' : World} (h : Below n w w') (hn : w.heap.size ≤ n) : Keep D w w' := ⟨h.os, h.tape, h.output, h.size, fun k hk _ => h.block k (Nat.lt_of_lt_of_le hk hn)⟩
theorem Keep.set {D : Nat → Prop} {w w' : World} (h : Keep D w w') {a : Addr} (ha : w.heap.size ≤ a.block ∨ D a.block) (v : Value) : Keep D w (w'.setCell a v) :=
  ⟨h.os, h.tape, h.output, by simpa using h.size, fun k hk hn => (heap_setCell_other w' _ k _ (fun e => by subst e; rcases ha with ha | ha; omega; exact hn ha)).trans (h.block k hk hn)⟩
theorem Keep.alloc {D : Nat → Prop} {w w' : World} (h : Keep D w w') (o : Obj) : Keep D w (w'.alloc o) := h.trans (.of_below (box_below w' o) (Nat.le_refl _))
theorem Keep.drew {D : Nat → Prop} {w w' : World} (h : Keep D w w') : Keep D w w'.drew := ⟨h.os, h.tape, h.output, h.size, h.block⟩
theorem Keep.below {D : Nat → Prop} {w w' : World} (h : Keep D w w') (hD : ∀ g, g < w.heap.size → ¬ D g) : Below w.heap.size w w' := ⟨h.os, h.tape, h.output, h.size, fun k hk => h.block k hk (hD k hk)⟩

/-- Whatever is attempted: what the closure F over c comes to in the world behind two boxes. -/
def w2box (w : World) : World := (w.alloc (.cells #[.int .i64 0] 3)).alloc (.cells #[.int .i64 0] 40)
end Go.Proofs.Ytobiedmmjiedlaa
