/- Layer 13: a tick's record is taken. -/
import Derived.Test.YtgonadilbjfpkaaTtH
namespace Go.Proofs.Ytgonadilbjfpkaa
open Go.RowKit
set_option linter.unusedVariables false
set_option linter.unusedSimpArgs false
/-- A tick's number taken. -/
theorem countT (w : World) (g : Nat) (T : TypeId) (a : Option Addr) (c : Nat) (b : List Int) (k : Nat) (r : List Value) (h : PlB w g T a c b k r) (lo : Nat) :
    (∀ z j, Tp.tnum b lo k = .good z j → Calls Try.prog 59 #[.pointer (some ⟨g, 0, none⟩), .int .u64 lo, .int .u64 2147483647, .int .i64 110] w fun e w' => e = .returned (.int .i64 z) ∧ PlQ g T a c b r w j w') ∧ (∀ j x, Tp.tnum b lo k = .bad j x → Calls Try.prog 59 #[.pointer (some ⟨g, 0, none⟩), .int .u64 lo, .int .u64 2147483647, .int .i64 110] w fun e w' => e = tpPan x ∧ PlQ g T a c b r w j w') := by
  have hc := count_any w g T a c b k r h lo 2147483647 110 (by decide)
  unfold Tp.tnum
  cases hr : Tp.rdF 0 0 (b.drop k) with
  | inr e =>
    rw [hr] at hc
    exact ⟨fun z j h => (by cases h), fun j x h => (by cases h; exact hc)⟩
  | inl p =>
    obtain ⟨z, u⟩ := p
    rw [hr] at hc
    dsimp only [ctQ] at hc
    by_cases hz : lo ≤ z ∧ z ≤ 2147483647
    · simp only [if_pos hz] at hc ⊢
      exact ⟨fun z' j h => (by cases h; exact hc), fun j x h => (by cases h)⟩
    · simp only [if_neg hz] at hc ⊢
      exact ⟨fun z' j h => (by cases h), fun j x h => (by cases h; exact hc)⟩
/-- A tick's box, empty. -/
def tkZ : Obj := .cells #[.int .i64 0, .int .i64 0, .int .i64 0, .int .i64 0] 80 (0, 0)
def BxF (w : World) (X : Nat) : Prop := w.heap[X]? = some tkZ
theorem bxA {W w' : World} {g : Nat} (q : (W.alloc (.cells #[.int .i64 0, .int .i64 0, .int .i64 0, .int .i64 0] 80)).grownBy w' (some g)) (hg : g < W.heap.size) : BxF w' W.heap.size :=
  (q.block W.heap.size (by simp) (by simp; omega)).trans (heap_alloc_new W _)
theorem bxK {W w' : World} {g X : Nat} (q : W.grownBy w' (some g)) (h : BxF W X) (hg : g < X) : BxF w' X :=
  (q.block X (Array.getElem?_eq_some_iff.1 h).1 (by simp; omega)).trans h
theorem BxF.c {w : World} {X : Nat} (h : BxF w X) : w.cell? ⟨X, 0, none⟩ = some (.int .i64 0) ∧ w.cell? ⟨X, 1, none⟩ = some (.int .i64 0) ∧ w.cell? ⟨X, 2, none⟩ = some (.int .i64 0) ∧ w.cell? ⟨X, 3, none⟩ = some (.int .i64 0) := by
  unfold BxF tkZ at h
  refine ⟨?_, ?_, ?_, ?_⟩ <;> simp [World.cell?, h]
theorem BxF.lt {w : World} {X : Nat} (h : BxF w X) : X < w.heap.size := (Array.getElem?_eq_some_iff.1 h).1
theorem BxF.f {w : World} {X : Nat} (h : BxF w X) (i : Nat) : w.frozen? ⟨X, i, none⟩ = false := by
  unfold BxF tkZ at h
  simp [World.frozen?, h]
theorem BxF.fill {w : World} {X : Nat} (h : BxF w X) (a b c d : Value) : ((((w.setCell ⟨X, 0, none⟩ a).setCell ⟨X, 1, none⟩ b).setCell ⟨X, 2, none⟩ c).setCell ⟨X, 3, none⟩ d).heap[X]? = some (.cells #[a, b, c, d] 80 (0, 0)) := by
  unfold BxF tkZ at h
  have h1 := heap_setCell_same w X 0 _ _ a h
  have h2 := heap_setCell_same _ X 1 _ _ b h1
  have h3 := heap_setCell_same _ X 2 _ _ c h2
  have h4 := heap_setCell_same _ X 3 _ _ d h3
  rw [h4]
  simp
theorem set4_gb (w : World) (X : Nat) (a b c d : Value) : w.grownBy ((((w.setCell ⟨X, 0, none⟩ a).setCell ⟨X, 1, none⟩ b).setCell ⟨X, 2, none⟩ c).setCell ⟨X, 3, none⟩ d) (some X) :=
  ⟨rfl, rfl, rfl, by simp, fun i hi hn => by
    have hne : ∀ o, (⟨X, o, none⟩ : Addr).block ≠ i := fun o e => hn (by rw [← e])
    rw [heap_setCell_other _ _ i _ (by intro e; exact hn (by rw [e])), heap_setCell_other _ _ i _ (by intro e; exact hn (by rw [e])), heap_setCell_other _ _ i _ (by intro e; exact hn (by rw [e])), heap_setCell_other _ _ i _ (by intro e; exact hn (by rw [e]))]⟩
theorem Gw.stepA {wr w8 : World} {u v8 : Value} {o : Obj} (g8 : (wr.alloc o).grownBy w8 u.ownBlock) (o8 : v8.ownBlock = u.ownBlock ∨ ∃ g, v8.ownBlock = some g ∧ (wr.alloc o).heap.size ≤ g) : Gw wr u v8 w8 := Gw.step g8 (o8.imp id fun ⟨g, h, k⟩ => ⟨g, h, by simpa using k⟩)
/-- A block beside the reader's own has changed. -/
theorem TrR.off {w wr wq : World} {g X : Nat} {a : Option Addr} {c : Nat} {b : List Int} {k : Nat} {tv cv ev : Value} {s : Int} {t : Tp.Tr} (h : TrR w g a c b k tv cv ev s t wr) (q : wr.grownBy wq (some X)) (hX : w.heap.size ≤ X) (h1 : tv.ownBlock ≠ some X) (h2 : cv.ownBlock ≠ some X) (h3 : ev.ownBlock ≠ some X) : TrR w g a c b k tv cv ev s t wq := by
  have hlo := h.lo
  have bl : Below w.heap.size wr wq := ⟨q.os, q.tape, q.output, q.size, fun i hi => q.block i (Nat.lt_of_lt_of_le hi h.bl.size) (by simp; omega)⟩
  exact ⟨h.p.later (bl.mono hlo), World.ownsRow.kept h.ot q (.inr h1), World.ownsRow.kept h.oc q (.inr h2), World.ownsRow.kept h.oe q (.inr h3), h.dtc, h.dte, h.dce, ⟨q.os.trans h.bl.os, q.tape.trans h.bl.tape, q.output.trans h.bl.output, Nat.le_trans h.bl.size q.size, fun i hi hn => (bl.block i hi).trans (h.bl.block i hi hn)⟩, hlo⟩
end Go.Proofs.Ytgonadilbjfpkaa
