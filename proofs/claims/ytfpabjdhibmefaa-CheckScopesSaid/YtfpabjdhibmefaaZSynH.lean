/- Layer 3: expressions in memory; what reading one comes to. -/
/- Statements, procedures and programs: plain, and as they lie in memory. -/
/- Layer 3: unary, where it gives up at once. -/
/- Layer 3: unary, where a token is taken. -/
/- Layer 3: variable, and expr. -/
/- Layer 3: bound: what signs between two hold together. -/
/- Layer 3: attempt. -/
import Derived.Test.YtfpabjdhibmefaaZSynB
import Derived.Deep.RegionHeld3
import Derived.Deep.RegionWith
import Derived.Deep.DeepCutAuto
import Derived.Handy
import Derived.Deep.LoopGhost
import Derived.Defers
import Derived.Recover
namespace Go.Proofs.Ytfpabjdhibmefaa
open Go.RowKit

mutual
/-- The expressions of a list lie from place o of block g on. -/
inductive ExC (A : Nat → Prop) (w : World) : Nat → Nat → List Sx.Ex → Prop
  | nil (g o : Nat) : ExC A w g o []
  | cons (g o : Nat) (k : Int) (n : List UInt8) (m : Int) (sl : Value) (l r : List Sx.Ex) (c0 : w.cell? ⟨g, o, none⟩ = some (.int .i64 k)) (c1 : w.cell? ⟨g, o + 1, none⟩ = some (.string ⟨n.toArray⟩)) (c2 : w.cell? ⟨g, o + 2, none⟩ = some (.int .i64 m)) (c3 : w.cell? ⟨g, o + 3, none⟩ = some sl)
      (hs : ExS A w sl l) (hr : ExC A w g (o + 4) r) : ExC A w g o (.mk k n m l :: r)
/-- A slice of expressions, in blocks of A. -/
inductive ExS (A : Nat → Prop) (w : World) : Value → List Sx.Ex → Prop
  | nil (a : Option Addr) (cap : Nat) : ExS A w (.slice a 0 cap) []
  | some (g o cap len : Nat) (l : List Sx.Ex) (hl : len = l.length) (h0 : 0 < l.length) (hc : l.length ≤ cap) (ha : A g) (hg : g < w.heap.size) (h : ExC A w g o l) : ExS A w (.slice (some ⟨g, o, none⟩) len cap) l
end
theorem ExS.keep {A A' : Nat → Prop} {w w' : World} (hA : ∀ g, g < w.heap.size → A g → A' g) (hc : ∀ q : Addr, A q.block → q.block < w.heap.size → w'.cell? q = w.cell? q) (hz : w.heap.size ≤ w'.heap.size) {sl : Value} {l : List Sx.Ex} (h : ExS A w sl l) : ExS A' w' sl l := by
  refine ExS.rec (motive_1 := fun g o l _ => A g → g < w.heap.size → ExC A' w' g o l) (motive_2 := fun sl l _ => ExS A' w' sl l) ?_ ?_ ?_ ?_ h
  · exact fun g o _ _ => .nil g o
  · intro g o k n m' sl l r c0 c1 c2 c3 _ _ ih1 ih2 ha hg
    exact .cons g o k n m' sl l r ((hc _ ha hg).trans c0) ((hc _ ha hg).trans c1) ((hc _ ha hg).trans c2) ((hc _ ha hg).trans c3) ih1 (ih2 ha hg)
  · exact fun a cap => .nil a cap
  · intro g o cap len l hl h0 hc' ha hg _ ih
    exact .some g o cap len l hl h0 hc' (hA g hg ha) (Nat.lt_of_lt_of_le hg hz) (ih ha hg)
theorem ExS.mov {A : Nat → Prop} {p : Nat} {w w' : World} {sl : Value} {l : List Sx.Ex} (h : ExS A w sl l) (m : Mov p w w') (hp : ¬ A p) : ExS A w' sl l :=
  h.keep (fun _ _ a => a) (fun q ha hq => m.cell q hq (fun e => hp (by rw [e] at ha; exact ha))) m.size
theorem ExS.later {A : Nat → Prop} {n : Nat} {w w' : World} {sl : Value} {l : List Sx.Ex} (h : ExS A w sl l) (m : Below n w w') (hn : w.heap.size ≤ n) : ExS A w' sl l :=
  h.keep (fun _ _ a => a) (fun _ _ hq => m.cell (Nat.lt_of_lt_of_le hq hn)) m.size
theorem ExS.set {A : Nat → Prop} {w : World} {sl : Value} {l : List Sx.Ex} (h : ExS A w sl l) {a : Addr} (ha : ¬ A a.block) (v : Value) : ExS A (w.setCell a v) sl l :=
  h.keep (fun _ _ x => x) (fun _ hA _ => World.cell?_setCell_other _ _ _ _ (fun e => ha (by rw [e]; exact hA))) (by simp)
theorem ExS.mono {A A' : Nat → Prop} {w : World} {sl : Value} {l : List Sx.Ex} (h : ExS A w sl l) (hA : ∀ g, g < w.heap.size → A g → A' g) : ExS A' w sl l :=
  h.keep hA (fun _ _ _ => rfl) (Nat.le_refl _)
theorem ExS.form {A : Nat → Prop} {w : World} {sl : Value} {l : List Sx.Ex} (h : ExS A w sl l) : ∃ a n c, sl = .slice a n c := by
  cases h with
  | nil a cap => exact ⟨_, _, _, rfl⟩
  | some g o cap len l hl h0 hc ha hg h => exact ⟨_, _, _, rfl⟩
theorem ExS.one {A : Nat → Prop} {w : World} {sl : Value} {l : List Sx.Ex} (h : ExS A w sl l) (hA : A w.heap.size) (k : Int) (n : List UInt8) (m : Int) (t : TypeId) :
    ExS A (w.alloc (.cells #[.int .i64 k, .string ⟨n.toArray⟩, .int .i64 m, sl] t)) (.slice (Option.some ⟨w.heap.size, 0, Option.none⟩) 1 1) [.mk k n m l] :=
  .some _ _ _ _ _ rfl (by simp) (by simp) hA (by simp) (.cons _ _ _ _ _ _ _ _ (by simp [go_sem]) (by simp [go_sem]) (by simp [go_sem]) (by simp [go_sem]) (h.later (box_below _ _) (Nat.le_refl _)) (.nil _ _))
theorem ExS.two {A : Nat → Prop} {w : World} {sl sl' : Value} {l l' : List Sx.Ex} (h : ExS A w sl l) (h' : ExS A w sl' l') (hA : A w.heap.size) (k k' : Int) (n n' : List UInt8) (m m' : Int) (t : TypeId) :
    ExS A (w.alloc (.cells #[.int .i64 k, .string ⟨n.toArray⟩, .int .i64 m, sl, .int .i64 k', .string ⟨n'.toArray⟩, .int .i64 m', sl'] t)) (.slice (Option.some ⟨w.heap.size, 0, Option.none⟩) 2 2) [.mk k n m l, .mk k' n' m' l'] :=
  .some _ _ _ _ _ rfl (by simp) (by simp) hA (by simp) (.cons _ _ _ _ _ _ _ _ (by simp [go_sem]) (by simp [go_sem]) (by simp [go_sem]) (by simp [go_sem]) (h.later (box_below _ _) (Nat.le_refl _)) (.cons _ _ _ _ _ _ _ _ (by simp [go_sem]) (by simp [go_sem]) (by simp [go_sem]) (by simp [go_sem]) (h'.later (box_below _ _) (Nat.le_refl _)) (.nil _ _)))
/-- The value v is the expression x. -/
def IsEx (A : Nat → Prop) (w : World) (v : Value) : Sx.Ex → Prop
  | .mk k n m l => ∃ sl, v = .agg #[.int .i64 k, .string ⟨n.toArray⟩, .int .i64 m, sl] ∧ ExS A w sl l
/-- A box of four cells. -/
structure Bx (w : World) (g : Nat) (a0 a1 a2 a3 : Value) : Prop where
  c0 : w.cell? ⟨g, 0, none⟩ = some a0
  c1 : w.cell? ⟨g, 1, none⟩ = some a1
  c2 : w.cell? ⟨g, 2, none⟩ = some a2
  c3 : w.cell? ⟨g, 3, none⟩ = some a3
  f0 : w.frozen? ⟨g, 0, none⟩ = false
  f1 : w.frozen? ⟨g, 1, none⟩ = false
  f2 : w.frozen? ⟨g, 2, none⟩ = false
  f3 : w.frozen? ⟨g, 3, none⟩ = false
  lt : g < w.heap.size
theorem Bx.later {w w' : World} {g n : Nat} {a0 a1 a2 a3 : Value} (h : Bx w g a0 a1 a2 a3) (b : Below n w w') (hn : g < n) : Bx w' g a0 a1 a2 a3 :=
  ⟨(b.cell (p := ⟨g, 0, none⟩) hn).trans h.c0, (b.cell (p := ⟨g, 1, none⟩) hn).trans h.c1, (b.cell (p := ⟨g, 2, none⟩) hn).trans h.c2, (b.cell (p := ⟨g, 3, none⟩) hn).trans h.c3,
   (b.frozen (p := ⟨g, 0, none⟩) hn).trans h.f0, (b.frozen (p := ⟨g, 1, none⟩) hn).trans h.f1, (b.frozen (p := ⟨g, 2, none⟩) hn).trans h.f2, (b.frozen (p := ⟨g, 3, none⟩) hn).trans h.f3, Nat.lt_of_lt_of_le h.lt b.size⟩
theorem Bx.mov {w w' : World} {p g : Nat} {a0 a1 a2 a3 : Value} (h : Bx w g a0 a1 a2 a3) (m : Mov p w w') (hp : g ≠ p) : Bx w' g a0 a1 a2 a3 := by
  have key : ∀ n, (⟨g, n, none⟩ : Addr) ≠ ⟨p, 1, none⟩ := fun n e => hp (congrArg Addr.block e)
  exact ⟨(m.cell _ h.lt (key 0)).trans h.c0, (m.cell _ h.lt (key 1)).trans h.c1, (m.cell _ h.lt (key 2)).trans h.c2, (m.cell _ h.lt (key 3)).trans h.c3,
   (m.frozen _ h.lt).trans h.f0, (m.frozen _ h.lt).trans h.f1, (m.frozen _ h.lt).trans h.f2, (m.frozen _ h.lt).trans h.f3, Nat.lt_of_lt_of_le h.lt m.size⟩
theorem Bx.new (w : World) (t : TypeId) (a0 a1 a2 a3 : Value) : Bx (w.alloc (.cells #[a0, a1, a2, a3] t)) w.heap.size a0 a1 a2 a3 :=
  ⟨by simp [go_sem], by simp [go_sem], by simp [go_sem], by simp [go_sem], World.frozen?_alloc_at _ _ _ _ rfl, World.frozen?_alloc_at _ _ _ _ rfl, World.frozen?_alloc_at _ _ _ _ rfl, World.frozen?_alloc_at _ _ _ _ rfl, by simp⟩
/-- A box is filled anew. -/
def fill (w : World) (g : Nat) (a0 a1 a2 a3 : Value) : World := (((w.setCell ⟨g, 0, none⟩ a0).setCell ⟨g, 1, none⟩ a1).setCell ⟨g, 2, none⟩ a2).setCell ⟨g, 3, none⟩ a3
theorem Bx.fill {w : World} {g : Nat} {a0 a1 a2 a3 : Value} (h : Bx w g a0 a1 a2 a3) (b0 b1 b2 b3 : Value) : Bx (fill w g b0 b1 b2 b3) g b0 b1 b2 b3 := by
  unfold Go.Proofs.Ytfpabjdhibmefaa.fill
  refine ⟨?_, ?_, ?_, ?_, ?_, ?_, ?_, ?_, ?_⟩
  all_goals simp [h.c0, h.c1, h.c2, h.c3, h.f0, h.f1, h.f2, h.f3, h.lt, go_sem]
theorem Bx.set {w : World} {g : Nat} {a0 a1 a2 a3 : Value} (h : Bx w g a0 a1 a2 a3) {a : Addr} (ha : a.block ≠ g) (v : Value) : Bx (w.setCell a v) g a0 a1 a2 a3 := by
  have key : ∀ n, a ≠ (⟨g, n, none⟩ : Addr) := fun n e => ha (congrArg Addr.block e)
  exact ⟨(World.cell?_setCell_other _ _ _ _ (key 0)).trans h.c0, (World.cell?_setCell_other _ _ _ _ (key 1)).trans h.c1, (World.cell?_setCell_other _ _ _ _ (key 2)).trans h.c2, (World.cell?_setCell_other _ _ _ _ (key 3)).trans h.c3,
   by rw [World.frozen?_setCell]; exact h.f0, by rw [World.frozen?_setCell]; exact h.f1, by rw [World.frozen?_setCell]; exact h.f2, by rw [World.frozen?_setCell]; exact h.f3, by simpa using h.lt⟩
theorem Mov.fill {p : Nat} {w w' : World} (h : Mov p w w') {g : Nat} (hg : w.heap.size ≤ g) (b0 b1 b2 b3 : Value) : Mov p w (fill w' g b0 b1 b2 b3) := (((h.set (a := ⟨g, 0, none⟩) hg _).set (a := ⟨g, 1, none⟩) hg _).set (a := ⟨g, 2, none⟩) hg _).set (a := ⟨g, 3, none⟩) hg _
theorem Rd.fill {w : World} {p b o cap : Nat} {ts : List Tok} {k : Nat} (h : Rd w p b o cap ts k) {g : Nat} (hp : g ≠ p) (hb : g ≠ b) (b0 b1 b2 b3 : Value) : Rd (fill w g b0 b1 b2 b3) p b o cap ts k := (((h.set (a := ⟨g, 0, none⟩) hp hb _).set (a := ⟨g, 1, none⟩) hp hb _).set (a := ⟨g, 2, none⟩) hp hb _).set (a := ⟨g, 3, none⟩) hp hb _
theorem Bx.filled {w : World} {g g' : Nat} {a0 a1 a2 a3 : Value} (h : Bx w g a0 a1 a2 a3) (hg : g' ≠ g) (b0 b1 b2 b3 : Value) : Bx (Go.Proofs.Ytfpabjdhibmefaa.fill w g' b0 b1 b2 b3) g a0 a1 a2 a3 := (((h.set (a := ⟨g', 0, none⟩) hg _).set (a := ⟨g', 1, none⟩) hg _).set (a := ⟨g', 2, none⟩) hg _).set (a := ⟨g', 3, none⟩) hg _
theorem ExS.fill {A : Nat → Prop} {w : World} {sl : Value} {l : List Sx.Ex} (h : ExS A w sl l) {g : Nat} (ha : ¬ A g) (b0 b1 b2 b3 : Value) : ExS A (fill w g b0 b1 b2 b3) sl l := (((h.set (a := ⟨g, 0, none⟩) ha _).set (a := ⟨g, 1, none⟩) ha _).set (a := ⟨g, 2, none⟩) ha _).set (a := ⟨g, 3, none⟩) ha _
theorem fill_size (w : World) (g : Nat) (b0 b1 b2 b3 : Value) : (fill w g b0 b1 b2 b3).heap.size = w.heap.size := by simp [fill]
theorem ExS.one' {A : Nat → Prop} {w : World} {sl : Value} {l : List Sx.Ex} (h : ExS A w sl l) (hA : A w.heap.size) {g : Nat} (hg : ¬ A g) (b0 b1 b2 b3 : Value) (k : Int) (n : List UInt8) (m : Int) (t : TypeId) :
    ExS A ((Go.Proofs.Ytfpabjdhibmefaa.fill w g b0 b1 b2 b3).alloc (.cells #[.int .i64 k, .string ⟨n.toArray⟩, .int .i64 m, sl] t)) (.slice (Option.some ⟨w.heap.size, 0, Option.none⟩) 1 1) [.mk k n m l] := by
  have e := (h.fill hg b0 b1 b2 b3).one (by rw [fill_size]; exact hA) k n m t
  rw [fill_size] at e
  exact e
theorem ExS.two' {A : Nat → Prop} {w : World} {sl sl' : Value} {l l' : List Sx.Ex} (h : ExS A w sl l) (h' : ExS A w sl' l') (hA : A w.heap.size) {g : Nat} (hg : ¬ A g) (b0 b1 b2 b3 : Value) (k k' : Int) (n n' : List UInt8) (m m' : Int) (t : TypeId) :
    ExS A ((Go.Proofs.Ytfpabjdhibmefaa.fill w g b0 b1 b2 b3).alloc (.cells #[.int .i64 k, .string ⟨n.toArray⟩, .int .i64 m, sl, .int .i64 k', .string ⟨n'.toArray⟩, .int .i64 m', sl'] t)) (.slice (Option.some ⟨w.heap.size, 0, Option.none⟩) 2 2) [.mk k n m l, .mk k' n' m' l'] := by
  have e := (h.fill hg b0 b1 b2 b3).two (h'.fill hg b0 b1 b2 b3) (by rw [fill_size]; exact hA) k k' n n' m m' t
  rw [fill_size] at e
  exact e
/-- Tokens that may be read: the last one is the end, and no other. -/
structure Good (ts : List Tok) : Prop where
  pos : 0 < ts.length
  len : ts.length ≤ 1000000
  last : (ts.getD (ts.length - 1) tok0).1 = ⟨0, [], 0⟩
theorem Good.next {ts : List Tok} (h : Good ts) {k : Nat} (hk : k < ts.length) (hn : ¬ (ts.getD k tok0).1 = ⟨0, [], 0⟩) : k + 1 < ts.length := by
  by_cases e : k = ts.length - 1
  · exact absurd (by rw [e]; exact h.last) hn
  · have := h.pos; omega
/-- A call that panics, where the tactic for regions wants a way on: the way on is shut (False). -/
theorem shutWay {P : Program} {n : FuncId} {args : Array Value} {w : World} {R C : Ending → World → Prop} (hc : Calls P n args w C) (hp : ∀ e w', C e w' → R e w') (v : Value) (_hf : Hid (∀ q : Prop, q) → R (.returned v) w) : Calls P n args w R := hc.mono hp
theorem Mov.below {p : Nat} {w W w' : World} (m : Mov p w W) (b : Below W.heap.size W w') : Mov p w w' := m.trans (.of_below b)
end Go.Proofs.Ytfpabjdhibmefaa

namespace Go.Proofs.Ytfpabjdhibmefaa
open Go.RowKit

namespace Sy
/-- A statement. -/
inductive St
  | mk (kind : Int) (name proc : List UInt8) (num : Int) (e : List Sx.Ex) (body els : List St)
/-- A parameter. -/
structure Pa where
  name : List UInt8
  type : Int
/-- A procedure. -/
structure Pc where
  name : List UInt8
  params : List Pa
  type : Int
  body : List St
/-- An induction over statements. -/
theorem ind {P : St → Prop} (h : ∀ k n p m e b l, (∀ x, x ∈ b → P x) → (∀ x, x ∈ l → P x) → P (.mk k n p m e b l)) (x : St) : P x :=
  St.rec (motive_1 := P) (motive_2 := fun l => ∀ x, x ∈ l → P x) (fun k n p m e b l hb hl => h k n p m e b l hb hl) (fun _ hx => by cases hx) (fun a l ha hl x hx => by
    rcases List.mem_cons.1 hx with rfl | hx
    · exact ha
    · exact hl x hx) x
end Sy
mutual
/-- The statements of a list lie from place o of block g on. -/
inductive SmC (A : Nat → Prop) (w : World) : Nat → Nat → List Sy.St → Prop
  | nil (g o : Nat) : SmC A w g o []
  | cons (g o : Nat) (k : Int) (n p : List UInt8) (m : Int) (se sb sl : Value) (e : List Sx.Ex) (b l r : List Sy.St) (c0 : w.cell? ⟨g, o, none⟩ = some (.int .i64 k)) (c1 : w.cell? ⟨g, o + 1, none⟩ = some (.string ⟨n.toArray⟩)) (c2 : w.cell? ⟨g, o + 2, none⟩ = some (.string ⟨p.toArray⟩)) (c3 : w.cell? ⟨g, o + 3, none⟩ = some (.int .i64 m)) (c4 : w.cell? ⟨g, o + 4, none⟩ = some se) (c5 : w.cell? ⟨g, o + 5, none⟩ = some sb) (c6 : w.cell? ⟨g, o + 6, none⟩ = some sl)
      (he : ExS A w se e) (hb : SmS A w sb b) (hl : SmS A w sl l) (hr : SmC A w g (o + 7) r) : SmC A w g o (.mk k n p m e b l :: r)
/-- A slice of statements, in blocks of A. -/
inductive SmS (A : Nat → Prop) (w : World) : Value → List Sy.St → Prop
  | nil (a : Option Addr) (cap : Nat) : SmS A w (.slice a 0 cap) []
  | some (g o cap len : Nat) (l : List Sy.St) (hl : len = l.length) (h0 : 0 < l.length) (hc : l.length ≤ cap) (ha : A g) (hg : g < w.heap.size) (h : SmC A w g o l) : SmS A w (.slice (some ⟨g, o, none⟩) len cap) l
end
theorem SmS.keep {A A' : Nat → Prop} {w w' : World} (hA : ∀ g, g < w.heap.size → A g → A' g) (hc : ∀ q : Addr, A q.block → q.block < w.heap.size → w'.cell? q = w.cell? q) (hz : w.heap.size ≤ w'.heap.size) {sl : Value} {l : List Sy.St} (h : SmS A w sl l) : SmS A' w' sl l := by
  refine SmS.rec (motive_1 := fun g o l _ => A g → g < w.heap.size → SmC A' w' g o l) (motive_2 := fun sl l _ => SmS A' w' sl l) ?_ ?_ ?_ ?_ h
  · exact fun g o _ _ => .nil g o
  · intro g o k n p m' se sb sl e b l r c0 c1 c2 c3 c4 c5 c6 he _ _ _ ihb ihl ihr ha hg
    exact .cons g o k n p m' se sb sl e b l r ((hc _ ha hg).trans c0) ((hc _ ha hg).trans c1) ((hc _ ha hg).trans c2) ((hc _ ha hg).trans c3) ((hc _ ha hg).trans c4) ((hc _ ha hg).trans c5) ((hc _ ha hg).trans c6) (he.keep hA hc hz) ihb ihl (ihr ha hg)
  · exact fun a cap => .nil a cap
  · intro g o cap len l hl h0 hc' ha hg _ ih
    exact .some g o cap len l hl h0 hc' (hA g hg ha) (Nat.lt_of_lt_of_le hg hz) (ih ha hg)
theorem SmS.later {A : Nat → Prop} {n : Nat} {w w' : World} {sl : Value} {l : List Sy.St} (h : SmS A w sl l) (m : Below n w w') (hn : w.heap.size ≤ n) : SmS A w' sl l :=
  h.keep (fun _ _ a => a) (fun _ _ hq => m.cell (Nat.lt_of_lt_of_le hq hn)) m.size
theorem SmS.mono {A A' : Nat → Prop} {w : World} {sl : Value} {l : List Sy.St} (h : SmS A w sl l) (hA : ∀ g, g < w.heap.size → A g → A' g) : SmS A' w sl l :=
  h.keep hA (fun _ _ _ => rfl) (Nat.le_refl _)
theorem SmS.len {A : Nat → Prop} {w : World} {a : Option Addr} {n c : Nat} {l : List Sy.St} (h : SmS A w (.slice a n c) l) : n = l.length := by
  cases h with
  | nil a cap => rfl
  | some g o cap len l hl h0 hc ha hg h => exact hl
theorem SmS.form {A : Nat → Prop} {w : World} {sl : Value} {l : List Sy.St} (h : SmS A w sl l) : ∃ a c, sl = .slice a l.length c := by
  cases h with
  | nil a cap => exact ⟨_, _, rfl⟩
  | some g o cap len l hl h0 hc ha hg h => exact ⟨_, _, by rw [hl]⟩
/-- The fields of a statement, as they lie from a place on. -/
structure SmAt (A : Nat → Prop) (w : World) (g o : Nat) (k : Int) (n p : List UInt8) (m : Int) (sa : Option Addr) (sc : Nat) (ba : Option Addr) (bc : Nat) (la : Option Addr) (lc : Nat) (e : List Sx.Ex) (b l : List Sy.St) : Prop where
  c0 : w.cell? ⟨g, o, none⟩ = some (.int .i64 k)
  c1 : w.cell? ⟨g, o + 1, none⟩ = some (.string ⟨n.toArray⟩)
  c2 : w.cell? ⟨g, o + 2, none⟩ = some (.string ⟨p.toArray⟩)
  c3 : w.cell? ⟨g, o + 3, none⟩ = some (.int .i64 m)
  c4 : w.cell? ⟨g, o + 4, none⟩ = some (.slice sa e.length sc)
  c5 : w.cell? ⟨g, o + 5, none⟩ = some (.slice ba b.length bc)
  c6 : w.cell? ⟨g, o + 6, none⟩ = some (.slice la l.length lc)
  he : ExS A w (.slice sa e.length sc) e
  hb : SmS A w (.slice ba b.length bc) b
  hl : SmS A w (.slice la l.length lc) l
theorem ExS.form2 {A : Nat → Prop} {w : World} {sl : Value} {l : List Sx.Ex} (h : ExS A w sl l) : ∃ a c, sl = .slice a l.length c := by
  cases h with
  | nil a cap => exact ⟨_, _, rfl⟩
  | some g o cap len l hl h0 hc ha hg h => exact ⟨_, _, by rw [hl]⟩
theorem SmC.get {A : Nat → Prop} {w : World} {g : Nat} : ∀ {l : List Sy.St} {o : Nat}, SmC A w g o l → ∀ j, j < l.length → ∃ k n p m sa sc ba bc la lc e b ll, l[j]? = Option.some (.mk k n p m e b ll) ∧ SmAt A w g (o + j * 7) k n p m sa sc ba bc la lc e b ll
  | [], o, _, j, hj => absurd hj (Nat.not_lt_zero j)
  | s :: r, o, h, j, hj => by
    cases h with
    | cons _ _ k n p m se sb sl e b l _ c0 c1 c2 c3 c4 c5 c6 he hb hl hr =>
      cases j with
      | zero =>
        obtain ⟨sa, sc, rfl⟩ := he.form2
        obtain ⟨ba, bc, rfl⟩ := hb.form
        obtain ⟨la, lc, rfl⟩ := hl.form
        refine ⟨k, n, p, m, sa, sc, ba, bc, la, lc, e, b, l, rfl, ?_⟩
        rw [Nat.zero_mul, Nat.add_zero]
        exact ⟨c0, c1, c2, c3, c4, c5, c6, he, hb, hl⟩
      | succ j =>
        obtain ⟨k, n, p, m, sa, sc, ba, bc, la, lc, e, b, ll, e1, h1⟩ := SmC.get hr j (by simpa using hj)
        refine ⟨k, n, p, m, sa, sc, ba, bc, la, lc, e, b, ll, by simpa using e1, ?_⟩
        have q : o + (j + 1) * 7 = o + 7 + j * 7 := by omega
        rw [q]
        exact h1
theorem SmC.of_cells {A : Nat → Prop} {w : World} {g : Nat} : ∀ (ys : List Sy.St) (o : Nat), (∀ q, q < ys.length → ∃ k n p m sa sc ba bc la lc e b ll, ys[q]? = Option.some (.mk k n p m e b ll) ∧ SmAt A w g (o + q * 7) k n p m sa sc ba bc la lc e b ll) → SmC A w g o ys
  | [], o, _ => .nil g o
  | y :: r, o, h => by
    obtain ⟨k, n, p, m, sa, sc, ba, bc, la, lc, e, b, ll, e1, h1⟩ := h 0 (by simp)
    have ey : y = .mk k n p m e b ll := by simpa using e1
    subst ey
    rw [Nat.zero_mul, Nat.add_zero] at h1
    refine .cons g o k n p m _ _ _ e b ll r h1.c0 h1.c1 h1.c2 h1.c3 h1.c4 h1.c5 h1.c6 h1.he h1.hb h1.hl (SmC.of_cells r (o + 7) fun q hq => ?_)
    obtain ⟨k, n, p, m, sa, sc, ba, bc, la, lc, e, b, ll, e2, h2⟩ := h (q + 1) (by simp; omega)
    have q7 : o + (q + 1) * 7 = o + 7 + q * 7 := by omega
    rw [q7] at h2
    exact ⟨k, n, p, m, sa, sc, ba, bc, la, lc, e, b, ll, by simpa using e2, h2⟩
/-- The parts of a block, as they lie. -/
theorem SmS.part {A : Nat → Prop} {w : World} {sa : Option Addr} {sn sc : Nat} {l : List Sy.St} (h : SmS A w (.slice sa sn sc) l) (j : Nat) (hj : j < l.length) : ∃ g o k n p m ea ec ba bc la lc e b ll, sa = Option.some ⟨g, o, Option.none⟩ ∧ A g ∧ g < w.heap.size ∧ l[j]? = Option.some (.mk k n p m e b ll) ∧ SmAt A w g (o + j * 7) k n p m ea ec ba bc la lc e b ll := by
  cases h with
  | nil a cap => exact absurd hj (Nat.not_lt_zero j)
  | some g o cap len l hl h0 hc ha hg h =>
    obtain ⟨k, n, p, m, sa, sc, ba, bc, la, lc, e, b, ll, e1, h1⟩ := h.get j hj
    exact ⟨g, o, k, n, p, m, sa, sc, ba, bc, la, lc, e, b, ll, rfl, ha, hg, e1, h1⟩
/-- A slice of parameters. -/
def PaS (A : Nat → Prop) (w : World) (v : Value) (l : List Sy.Pa) : Prop := ∃ a c, v = .slice a l.length c ∧ (0 < l.length → ∃ g o, a = some ⟨g, o, none⟩ ∧ A g ∧ g < w.heap.size ∧ ∀ j, j < l.length → ∃ x, l[j]? = some x ∧ w.cell? ⟨g, o + j * 2, none⟩ = some (.string ⟨(Sy.Pa.name x).toArray⟩) ∧ w.cell? ⟨g, o + j * 2 + 1, none⟩ = some (.int .i64 x.type))
theorem PaS.keep {A A' : Nat → Prop} {w w' : World} (hA : ∀ g, g < w.heap.size → A g → A' g) (hc : ∀ q : Addr, A q.block → q.block < w.heap.size → w'.cell? q = w.cell? q) (hz : w.heap.size ≤ w'.heap.size) {v : Value} {l : List Sy.Pa} (h : PaS A w v l) : PaS A' w' v l := by
  obtain ⟨a, c, e, h⟩ := h
  refine ⟨a, c, e, fun h0 => ?_⟩
  obtain ⟨g, o, ea, ha, hg, h⟩ := h h0
  refine ⟨g, o, ea, hA g hg ha, Nat.lt_of_lt_of_le hg hz, fun j hj => ?_⟩
  obtain ⟨x, e1, e2, e3⟩ := h j hj
  exact ⟨x, e1, (hc _ ha hg).trans e2, (hc _ ha hg).trans e3⟩
/-- A procedure's fields, as they lie from a place on. -/
structure PcAt (A : Nat → Prop) (w : World) (g o : Nat) (x : Sy.Pc) (pa : Option Addr) (pc : Nat) (ba : Option Addr) (bc : Nat) : Prop where
  c0 : w.cell? ⟨g, o, none⟩ = some (.string ⟨x.name.toArray⟩)
  c1 : w.cell? ⟨g, o + 1, none⟩ = some (.slice pa x.params.length pc)
  c2 : w.cell? ⟨g, o + 2, none⟩ = some (.int .i64 x.type)
  c3 : w.cell? ⟨g, o + 3, none⟩ = some (.slice ba x.body.length bc)
  hp : PaS A w (.slice pa x.params.length pc) x.params
  hb : SmS A w (.slice ba x.body.length bc) x.body
theorem PcAt.keep {A A' : Nat → Prop} {w w' : World} (hA : ∀ g, g < w.heap.size → A g → A' g) (hc : ∀ q : Addr, A q.block → q.block < w.heap.size → w'.cell? q = w.cell? q) (hz : w.heap.size ≤ w'.heap.size) {g o : Nat} {x : Sy.Pc} {pa : Option Addr} {pc : Nat} {ba : Option Addr} {bc : Nat} (ha : A g) (hg : g < w.heap.size) (h : PcAt A w g o x pa pc ba bc) : PcAt A' w' g o x pa pc ba bc :=
  ⟨(hc _ ha hg).trans h.c0, (hc _ ha hg).trans h.c1, (hc _ ha hg).trans h.c2, (hc _ ha hg).trans h.c3, h.hp.keep hA hc hz, h.hb.keep hA hc hz⟩
/-- A slice of procedures. -/
def PcS (A : Nat → Prop) (w : World) (v : Value) (l : List Sy.Pc) : Prop := ∃ a c, v = .slice a l.length c ∧ (0 < l.length → ∃ g o, a = some ⟨g, o, none⟩ ∧ A g ∧ g < w.heap.size ∧ ∀ j, j < l.length → ∃ x pa pc ba bc, l[j]? = some x ∧ PcAt A w g (o + j * 4) x pa pc ba bc)
theorem PcS.keep {A A' : Nat → Prop} {w w' : World} (hA : ∀ g, g < w.heap.size → A g → A' g) (hc : ∀ q : Addr, A q.block → q.block < w.heap.size → w'.cell? q = w.cell? q) (hz : w.heap.size ≤ w'.heap.size) {v : Value} {l : List Sy.Pc} (h : PcS A w v l) : PcS A' w' v l := by
  obtain ⟨a, c, e, h⟩ := h
  refine ⟨a, c, e, fun h0 => ?_⟩
  obtain ⟨g, o, ea, ha, hg, h⟩ := h h0
  refine ⟨g, o, ea, hA g hg ha, Nat.lt_of_lt_of_le hg hz, fun j hj => ?_⟩
  obtain ⟨x, pa, pc, ba, bc, e1, e2⟩ := h j hj
  exact ⟨x, pa, pc, ba, bc, e1, e2.keep hA hc hz ha hg⟩
theorem PcS.later {A : Nat → Prop} {n : Nat} {w w' : World} {v : Value} {l : List Sy.Pc} (h : PcS A w v l) (m : Below n w w') (hn : w.heap.size ≤ n) : PcS A w' v l :=
  h.keep (fun _ _ a => a) (fun _ _ hq => m.cell (Nat.lt_of_lt_of_le hq hn)) m.size
theorem PaS.later {A : Nat → Prop} {n : Nat} {w w' : World} {v : Value} {l : List Sy.Pa} (h : PaS A w v l) (m : Below n w w') (hn : w.heap.size ≤ n) : PaS A w' v l :=
  h.keep (fun _ _ a => a) (fun _ _ hq => m.cell (Nat.lt_of_lt_of_le hq hn)) m.size
end Go.Proofs.Ytfpabjdhibmefaa

namespace Go.Proofs.Ytfpabjdhibmefaa
open Go.RowKit

end Go.Proofs.Ytfpabjdhibmefaa

namespace Go.Proofs.Ytfpabjdhibmefaa
open Go.RowKit

abbrev zE : Obj := .cells #[.int .i64 0, .string ⟨#[]⟩, .int .i64 0, .slice none 0 0] 64
theorem sz1 {n : Nat} {w w' : World} {o : Obj} (h : Below n (w.alloc o) w') : w.heap.size + 1 ≤ w'.heap.size := by simpa using h.size
/-- The first token x was taken, and lies in a box of its own; the box for the answer is empty. -/
def URel (w : World) (p b o cap : Nat) (ts : List Tok) (k : Nat) (x : Tok) (s : Value) (wc : World) : Prop :=
  ∃ g, s = .pointer (some ⟨g, 0, none⟩) ∧ Bx wc g (.int .i64 x.1.kind) (.string ⟨x.1.text.toArray⟩) (.int .i64 x.1.num) (.int .i64 x.2) ∧ w.heap.size < g ∧
    Bx wc w.heap.size (.int .i64 0) (.string ⟨#[]⟩) (.int .i64 0) (.slice none 0 0) ∧ Mov p w wc ∧ Rd wc p b o cap ts (k + 1)
theorem URel.of {w w3 : World} {p b o cap : Nat} {ts : List Tok} {k g : Nat} {x : Tok} {a0 a1 a2 a3 : Value} (t : Bx w3 g a0 a1 a2 a3) (hg : w.heap.size < g) (hp : p < w.heap.size) (hb : b < w.heap.size) (r : Bx w3 w.heap.size (.int .i64 0) (.string ⟨#[]⟩) (.int .i64 0) (.slice none 0 0)) (m : Mov p w w3) (rd : Rd w3 p b o cap ts (k + 1)) :
    URel w p b o cap ts k x (.pointer (some ⟨g, 0, none⟩)) (fill w3 g (.int .i64 x.1.kind) (.string ⟨x.1.text.toArray⟩) (.int .i64 x.1.num) (.int .i64 x.2)) :=
  ⟨g, rfl, t.fill _ _ _ _, hg, r.filled (by omega) _ _ _ _, m.fill (by omega) _ _ _ _, rd.fill (by omega) (by omega) _ _ _ _⟩
theorem URel.of_new {w w3 : World} {p b o cap : Nat} {ts : List Tok} {k : Nat} {x : Tok} (t : TypeId) (r : Bx w3 w.heap.size (.int .i64 0) (.string ⟨#[]⟩) (.int .i64 0) (.slice none 0 0)) (m : Mov p w w3) (rd : Rd w3 p b o cap ts (k + 1)) :
    URel w p b o cap ts k x (.pointer (some ⟨w3.heap.size, 0, none⟩)) (w3.alloc (.cells #[.int .i64 x.1.kind, .string ⟨x.1.text.toArray⟩, .int .i64 x.1.num, .int .i64 x.2] t)) :=
  ⟨w3.heap.size, rfl, Bx.new _ _ _ _ _ _, r.lt, r.later (box_below _ _) r.lt, m.alloc _, rd.later (box_below _ _)⟩
end Go.Proofs.Ytfpabjdhibmefaa

namespace Go.Proofs.Ytfpabjdhibmefaa
open Go.RowKit

end Go.Proofs.Ytfpabjdhibmefaa

namespace Go.Proofs.Ytfpabjdhibmefaa
open Go.RowKit

/-- The expression y, read so far, lies in block h; the token behind it is number k'. -/
def NRel (w : World) (p b o cap : Nat) (ts : List Tok) (h : Nat) (y : Sx.Ex) (k' : Nat) (wr : World) : Prop :=
  ∃ kk nn mm sa sn sc ll, y = .mk kk nn mm ll ∧ Bx wr h (.int .i64 kk) (.string ⟨(nn : List UInt8).toArray⟩) (.int .i64 mm) (.slice sa sn sc) ∧ ExS (fun g => w.heap.size < g ∧ g ≠ h) wr (.slice sa sn sc) ll ∧
    Bx wr w.heap.size (.int .i64 0) (.string ⟨#[]⟩) (.int .i64 0) (.slice none 0 0) ∧ Rd wr p b o cap ts k' ∧ k' < ts.length ∧ Mov p w wr
/-- Where the loop of bound stands. -/
def LRel (w : World) (p b o cap : Nat) (ts : List Tok) (q d h f : Nat) (r : Sx.Rs) (gk : Nat) (wr : World) : Prop :=
  ∃ y k', NRel w p b o cap ts h y k' wr ∧ Sx.lp ts gk q d y k' = some r ∧ gk ≤ f
/-- Two are put together in block h. -/
theorem NRel.two {w W w4 : World} {p b o cap : Nat} {ts : List Tok} {h : Nat} {k4 : Nat} {kk mm kk' mm' : Int} {nn nn' sg : List UInt8} {sa sa' : Option Addr} {sn sc sn' sc' : Nat} {ll ll' : List Sx.Ex} (t : TypeId)
    (B : Bx W h (.int .i64 kk) (.string ⟨nn.toArray⟩) (.int .i64 mm) (.slice sa sn sc)) (X : ExS (fun g => w.heap.size < g ∧ g ≠ h) W (.slice sa sn sc) ll) (R : Bx W w.heap.size (.int .i64 0) (.string ⟨#[]⟩) (.int .i64 0) (.slice none 0 0)) (M : Mov p w W)
    (X4 : ExS (fun g => W.heap.size ≤ g) w4 (.slice sa' sn' sc') ll') (rd4 : Rd w4 p b o cap ts k4) (hk4 : k4 < ts.length) (m4 : Mov p W w4) (hp : p < w.heap.size) (hb : b < w.heap.size) (hh : w.heap.size < h) :
    NRel w p b o cap ts h (.mk 6 sg 0 [.mk kk nn mm ll, .mk kk' nn' mm' ll']) k4 ((fill w4 h (.int .i64 6) (.string ⟨sg.toArray⟩) (.int .i64 0) (.slice (some ⟨w4.heap.size, 0, none⟩) 2 2)).alloc (.cells #[.int .i64 kk, .string ⟨nn.toArray⟩, .int .i64 mm, .slice sa sn sc, .int .i64 kk', .string ⟨nn'.toArray⟩, .int .i64 mm', .slice sa' sn' sc'] t)) := by
  have B4 := B.mov m4 (by omega)
  have z4 : h < w4.heap.size := B4.lt
  refine ⟨_, _, _, _, _, _, _, rfl, (B4.fill _ _ _ _).later (box_below _ _) (by rw [fill_size]; exact z4), ?_, ((R.mov m4 (by omega)).filled (by omega) _ _ _ _).later (box_below _ _) (by rw [fill_size]; omega), (rd4.fill (by omega) (by omega) _ _ _ _).later (box_below _ _), hk4, ((M.trans m4).fill (by omega) _ _ _ _).alloc _⟩
  exact (X.mov m4 (fun e => by omega)).two' (X4.mono fun g _ hg => ⟨Nat.lt_of_lt_of_le R.lt hg, fun e => by have := B.lt; omega⟩) ⟨by omega, by omega⟩ (fun e => e.2 rfl) _ _ _ _ _ _ _ _ _ _ _
end Go.Proofs.Ytfpabjdhibmefaa

namespace Go.Proofs.Ytfpabjdhibmefaa
open Go.RowKit

/-- But for blocks of D nothing that was there has changed. -/
structure Keep (D : Nat → Prop) (w w' : World) : Prop where
  os : w'.os = w.os
  tape : w'.tape = w.tape
  output : w'.output = w.output
  size : w.heap.size ≤ w'.heap.size
  block : ∀ k, k < w.heap.size → ¬ D k → w'.heap[k]? = w.heap[k]?
theorem Keep.refl (D : Nat → Prop) (w : World) : Keep D w w := ⟨rfl, rfl, rfl, Nat.le_refl _, fun _ _ _ => rfl⟩
theorem Keep.trans {D : Nat → Prop} {a b c : World} (h : Keep D a b) (k : Keep D b c) : Keep D a c :=
  ⟨k.os.trans h.os, k.tape.trans h.tape, k.output.trans h.output, Nat.le_trans h.size k.size, fun i hi hp => (k.block i (Nat.lt_of_lt_of_le hi h.size) hp).trans (h.block i hi hp)⟩
theorem Keep.mono {D D' : Nat → Prop} {w w' : World} (h : Keep D w w') (hD : ∀ g, g < w.heap.size → D g → D' g) : Keep D' w w' := ⟨h.os, h.tape, h.output, h.size, fun k hk hn => h.block k hk fun e => hn (hD k hk e)⟩
theorem Keep.cell {D : Nat → Prop} {w w' : World} (h : Keep D w w') {q : Addr} (hq : q.block < w.heap.size) (hD : ¬ D q.block) : w'.cell? q = w.cell? q := World.cell?_of_block (w := w) (h.block _ hq hD)
theorem Keep.frozen {D : Nat → Prop} {w w' : World} (h : Keep D w w') {q : Addr} (hq : q.block < w.heap.size) (hD : ¬ D q.block) : w'.frozen? q = w.frozen? q := World.frozen?_of_block (w := w) (h.block _ hq hD)
theorem Keep.of_mov {p : Nat} {w w' : World} (h : Mov p w w') : Keep (fun g => g = p) w w' := ⟨h.os, h.tape, h.output, h.size, fun k hk hn => h.block k hk hn⟩
theorem Keep.of_below {D : Nat → Prop} {n : Nat} {w w' : World} (h : Below n w w') (hn : w.heap.size ≤ n) : Keep D w w' := ⟨h.os, h.tape, h.output, h.size, fun k hk _ => h.block k (Nat.lt_of_lt_of_le hk hn)⟩
theorem Keep.set {D : Nat → Prop} {w w' : World} (h : Keep D w w') {a : Addr} (ha : w.heap.size ≤ a.block ∨ D a.block) (v : Value) : Keep D w (w'.setCell a v) :=
  ⟨h.os, h.tape, h.output, by simpa using h.size, fun k hk hn => (heap_setCell_other w' _ k _ (fun e => by subst e; rcases ha with ha | ha; omega; exact hn ha)).trans (h.block k hk hn)⟩
theorem Keep.alloc {D : Nat → Prop} {w w' : World} (h : Keep D w w') (o : Obj) : Keep D w (w'.alloc o) := h.trans (.of_below (box_below w' o) (Nat.le_refl _))
theorem Keep.drew {D : Nat → Prop} {w w' : World} (h : Keep D w w') : Keep D w w'.drew := ⟨h.os, h.tape, h.output, h.size, h.block⟩
theorem Keep.below {D : Nat → Prop} {w w' : World} (h : Keep D w w') (hD : ∀ g, g < w.heap.size → ¬ D g) : Below w.heap.size w w' := ⟨h.os, h.tape, h.output, h.size, fun k hk => h.block k hk (hD k hk)⟩

/-- Whatever is attempted: what the closure F over c comes to in the world behind two boxes. -/
def w2box (w : World) : World := (w.alloc (.cells #[.int .i64 0] 3)).alloc (.cells #[.int .i64 0] 45)
end Go.Proofs.Ytfpabjdhibmefaa
