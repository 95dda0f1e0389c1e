/- Layer 3: expressions in memory; what reading one comes to. -/
import Derived.Test.YtlhklpnkelcnbaaGreatDoorSynB
import Derived.Deep.RegionHeld3
import Derived.Deep.RegionWith
import Derived.Deep.DeepCutAuto
import Derived.Handy
namespace Go.Proofs.YtlhklpnkelcnbaaGreatDoor
open Go.RowKit

mutual
/-- The expressions of a list lie from place o of block g on. -/
inductive ExC (A : Nat → Prop) (w : World) : Nat → Nat → List Sx.Ex → Prop
  | nil (g o : Nat) : ExC A w g o []
  | cons (g o : Nat) (k : Int) (n : List UInt8) (m : Int) (sl : Value) (l r : List Sx.Ex) (c0 : w.cell? ⟨g, o, none⟩ = some (.int .i64 k)) (c1 : w.cell? ⟨g, o + 1, none⟩ = some (.string ⟨n.toArray⟩)) (c2 : w.cell? ⟨g, o + 2, none⟩ = some (.int .i64 m)) (c3 : w.cell? ⟨g, o + 3, none⟩ = some sl)
      (hs : ExS A w sl l) (hr : ExC A w g (o + 4) r) : ExC A w g o (.mk k n m l :: r)
/-- A slice of expressions, in blocks of A. -/
inductive ExS (A : Nat → Prop) (w : World) : Value → List Sx.Ex → Prop
  | nil (a : Option Addr) (cap : Nat) : ExS A w (.slice a 0 cap) []
  | some (g o cap len : Nat) (l : List Sx.Ex) (hl : len = l.length) (h0 : 0 < l.length) (hc : l.length ≤ cap) (ha : A g) (hg : g < w.heap.size) (h : ExC A w g o l) : ExS A w (.slice (some ⟨g, o, none⟩) len cap) l
end
theorem ExS.keep {A A' : Nat → Prop} {w w' : World} (hA : ∀ g, g < w.heap.size → A g → A' g) (hc : ∀ q : Addr, A q.block → q.block < w.heap.size → w'.cell? q = w.cell? q) (hz : w.heap.size ≤ w'.heap.size) {sl : Value} {l : List Sx.Ex} (h : ExS A w sl l) : ExS A' w' sl l := by
  refine ExS.rec (motive_1 := fun g o l _ => A g → g < w.heap.size → ExC A' w' g o l) (motive_2 := fun sl l _ => ExS A' w' sl l) ?_ ?_ ?_ ?_ h
  · exact fun g o _ _ => .nil g o
  · intro g o k n m' sl l r c0 c1 c2 c3 _ _ ih1 ih2 ha hg
    exact .cons g o k n m' sl l r ((hc _ ha hg).trans c0) ((hc _ ha hg).trans c1) ((hc _ ha hg).trans c2) ((hc _ ha hg).trans c3) ih1 (ih2 ha hg)
  · exact fun a cap => .nil a cap
  · intro g o cap len l hl h0 hc' ha hg _ ih
    exact .some g o cap len l hl h0 hc' (hA g hg ha) (Nat.lt_of_lt_of_le hg hz) (ih ha hg)
theorem ExS.mov {A : Nat → Prop} {p : Nat} {w w' : World} {sl : Value} {l : List Sx.Ex} (h : ExS A w sl l) (m : Mov p w w') (hp : ¬ A p) : ExS A w' sl l :=
  h.keep (fun _ _ a => a) (fun q ha hq => m.cell q hq (fun e => hp (by rw [e] at ha; exact ha))) m.size
theorem ExS.later {A : Nat → Prop} {n : Nat} {w w' : World} {sl : Value} {l : List Sx.Ex} (h : ExS A w sl l) (m : Below n w w') (hn : w.heap.size ≤ n) : ExS A w' sl l :=
  h.keep (fun _ _ a => a) (fun _ _ hq => m.cell (Nat.lt_of_lt_of_le hq hn)) m.size
theorem ExS.set {A : Nat → Prop} {w : World} {sl : Value} {l : List Sx.Ex} (h : ExS A w sl l) {a : Addr} (ha : ¬ A a.block) (v : Value) : ExS A (w.setCell a v) sl l :=
  h.keep (fun _ _ x => x) (fun _ hA _ => World.cell?_setCell_other _ _ _ _ (fun e => ha (by rw [e]; exact hA))) (by simp)
theorem ExS.mono {A A' : Nat → Prop} {w : World} {sl : Value} {l : List Sx.Ex} (h : ExS A w sl l) (hA : ∀ g, g < w.heap.size → A g → A' g) : ExS A' w sl l :=
  h.keep hA (fun _ _ _ => rfl) (Nat.le_refl _)
theorem ExS.form {A : Nat → Prop} {w : World} {sl : Value} {l : List Sx.Ex} (h : ExS A w sl l) : ∃ a n c, sl = .slice a n c := by
  cases h with
  | nil a cap => exact ⟨_, _, _, rfl⟩
  | some g o cap len l hl h0 hc ha hg h => exact ⟨_, _, _, rfl⟩
theorem ExS.one {A : Nat → Prop} {w : World} {sl : Value} {l : List Sx.Ex} (h : ExS A w sl l) (hA : A w.heap.size) (k : Int) (n : List UInt8) (m : Int) (t : TypeId) :
    ExS A (w.alloc (.cells #[.int .i64 k, .string ⟨n.toArray⟩, .int .i64 m, sl] t)) (.slice (Option.some ⟨w.heap.size, 0, Option.none⟩) 1 1) [.mk k n m l] :=
  .some _ _ _ _ _ rfl (by simp) (by simp) hA (by simp) (.cons _ _ _ _ _ _ _ _ (by simp [go_sem]) (by simp [go_sem]) (by simp [go_sem]) (by simp [go_sem]) (h.later (box_below _ _) (Nat.le_refl _)) (.nil _ _))
theorem ExS.two {A : Nat → Prop} {w : World} {sl sl' : Value} {l l' : List Sx.Ex} (h : ExS A w sl l) (h' : ExS A w sl' l') (hA : A w.heap.size) (k k' : Int) (n n' : List UInt8) (m m' : Int) (t : TypeId) :
    ExS A (w.alloc (.cells #[.int .i64 k, .string ⟨n.toArray⟩, .int .i64 m, sl, .int .i64 k', .string ⟨n'.toArray⟩, .int .i64 m', sl'] t)) (.slice (Option.some ⟨w.heap.size, 0, Option.none⟩) 2 2) [.mk k n m l, .mk k' n' m' l'] :=
  .some _ _ _ _ _ rfl (by simp) (by simp) hA (by simp) (.cons _ _ _ _ _ _ _ _ (by simp [go_sem]) (by simp [go_sem]) (by simp [go_sem]) (by simp [go_sem]) (h.later (box_below _ _) (Nat.le_refl _)) (.cons _ _ _ _ _ _ _ _ (by simp [go_sem]) (by simp [go_sem]) (by simp [go_sem]) (by simp [go_sem]) (h'.later (box_below _ _) (Nat.le_refl _)) (.nil _ _)))
/-- The value v is the expression x. -/
def IsEx (A : Nat → Prop) (w : World) (v : Value) : Sx.Ex → Prop
  | .mk k n m l => ∃ sl, v = .agg #[.int .i64 k, .string ⟨n.toArray⟩, .int .i64 m, sl] ∧ ExS A w sl l
/-- A box of four cells. -/
structure Bx (w : World) (g : Nat) (a0 a1 a2 a3 : Value) : Prop where
  c0 : w.cell? ⟨g, 0, none⟩ = some a0
  c1 : w.cell? ⟨g, 1, none⟩ = some a1
  c2 : w.cell? ⟨g, 2, none⟩ = some a2
  c3 : w.cell? ⟨g, 3, none⟩ = some a3
  f0 : w.frozen? ⟨g, 0, none⟩ = false
  f1 : w.frozen? ⟨g, 1, none⟩ = false
  f2 : w.frozen? ⟨g, 2, none⟩ = false
  f3 : w.frozen? ⟨g, 3, none⟩ = false
  lt : g < w.heap.size
theorem Bx.later {w w' : World} {g n : Nat} {a0 a1 a2 a3 : Value} (h : Bx w g a0 a1 a2 a3) (b : Below n w w') (hn : g < n) : Bx w' g a0 a1 a2 a3 :=
  ⟨(b.cell (p := ⟨g, 0, none⟩) hn).trans h.c0, (b.cell (p := ⟨g, 1, none⟩) hn).trans h.c1, (b.cell (p := ⟨g, 2, none⟩) hn).trans h.c2, (b.cell (p := ⟨g, 3, none⟩) hn).trans h.c3,
   (b.frozen (p := ⟨g, 0, none⟩) hn).trans h.f0, (b.frozen (p := ⟨g, 1, none⟩) hn).trans h.f1, (b.frozen (p := ⟨g, 2, none⟩) hn).trans h.f2, (b.frozen (p := ⟨g, 3, none⟩) hn).trans h.f3, Nat.lt_of_lt_of_le h.lt b.size⟩
theorem Bx.mov {w w' : World} {p g : Nat} {a0 a1 a2 a3 : Value} (h : Bx w g a0 a1 a2 a3) (m : Mov p w w') (hp : g ≠ p) : Bx w' g a0 a1 a2 a3 := by
  have key : ∀ n, (⟨g, n, none⟩ : Addr) ≠ ⟨p, 1, none⟩ := fun n e => hp (congrArg Addr.block e)
  exact ⟨(m.cell _ h.lt (key 0)).trans h.c0, (m.cell _ h.lt (key 1)).trans h.c1, (m.cell _ h.lt (key 2)).trans h.c2, (m.cell _ h.lt (key 3)).trans h.c3,
   (m.frozen _ h.lt).trans h.f0, (m.frozen _ h.lt).trans h.f1, (m.frozen _ h.lt).trans h.f2, (m.frozen _ h.lt).trans h.f3, Nat.lt_of_lt_of_le h.lt m.size⟩
theorem Bx.new (w : World) (t : TypeId) (a0 a1 a2 a3 : Value) : Bx (w.alloc (.cells #[a0, a1, a2, a3] t)) w.heap.size a0 a1 a2 a3 :=
  ⟨by simp [go_sem], by simp [go_sem], by simp [go_sem], by simp [go_sem], World.frozen?_alloc_at _ _ _ _ rfl, World.frozen?_alloc_at _ _ _ _ rfl, World.frozen?_alloc_at _ _ _ _ rfl, World.frozen?_alloc_at _ _ _ _ rfl, by simp⟩
/-- A box is filled anew. -/
def fill (w : World) (g : Nat) (a0 a1 a2 a3 : Value) : World := (((w.setCell ⟨g, 0, none⟩ a0).setCell ⟨g, 1, none⟩ a1).setCell ⟨g, 2, none⟩ a2).setCell ⟨g, 3, none⟩ a3
theorem Bx.fill {w : World} {g : Nat} {a0 a1 a2 a3 : Value} (h : Bx w g a0 a1 a2 a3) (b0 b1 b2 b3 : Value) : Bx (fill w g b0 b1 b2 b3) g b0 b1 b2 b3 := by
  unfold Go.Proofs.YtlhklpnkelcnbaaGreatDoor.fill
  refine ⟨?_, ?_, ?_, ?_, ?_, ?_, ?_, ?_, ?_⟩
  all_goals simp [h.c0, h.c1, h.c2, h.c3, h.f0, h.f1, h.f2, h.f3, h.lt, go_sem]
theorem Bx.set {w : World} {g : Nat} {a0 a1 a2 a3 : Value} (h : Bx w g a0 a1 a2 a3) {a : Addr} (ha : a.block ≠ g) (v : Value) : Bx (w.setCell a v) g a0 a1 a2 a3 := by
  have key : ∀ n, a ≠ (⟨g, n, none⟩ : Addr) := fun n e => ha (congrArg Addr.block e)
  exact ⟨(World.cell?_setCell_other _ _ _ _ (key 0)).trans h.c0, (World.cell?_setCell_other _ _ _ _ (key 1)).trans h.c1, (World.cell?_setCell_other _ _ _ _ (key 2)).trans h.c2, (World.cell?_setCell_other _ _ _ _ (key 3)).trans h.c3,
   by rw [World.frozen?_setCell]; exact h.f0, by rw [World.frozen?_setCell]; exact h.f1, by rw [World.frozen?_setCell]; exact h.f2, by rw [World.frozen?_setCell]; exact h.f3, by simpa using h.lt⟩
theorem Mov.fill {p : Nat} {w w' : World} (h : Mov p w w') {g : Nat} (hg : w.heap.size ≤ g) (b0 b1 b2 b3 : Value) : Mov p w (fill w' g b0 b1 b2 b3) := (((h.set (a := ⟨g, 0, none⟩) hg _).set (a := ⟨g, 1, none⟩) hg _).set (a := ⟨g, 2, none⟩) hg _).set (a := ⟨g, 3, none⟩) hg _
theorem Rd.fill {w : World} {p b o cap : Nat} {ts : List Tok} {k : Nat} (h : Rd w p b o cap ts k) {g : Nat} (hp : g ≠ p) (hb : g ≠ b) (b0 b1 b2 b3 : Value) : Rd (fill w g b0 b1 b2 b3) p b o cap ts k := (((h.set (a := ⟨g, 0, none⟩) hp hb _).set (a := ⟨g, 1, none⟩) hp hb _).set (a := ⟨g, 2, none⟩) hp hb _).set (a := ⟨g, 3, none⟩) hp hb _
theorem Bx.filled {w : World} {g g' : Nat} {a0 a1 a2 a3 : Value} (h : Bx w g a0 a1 a2 a3) (hg : g' ≠ g) (b0 b1 b2 b3 : Value) : Bx (Go.Proofs.YtlhklpnkelcnbaaGreatDoor.fill w g' b0 b1 b2 b3) g a0 a1 a2 a3 := (((h.set (a := ⟨g', 0, none⟩) hg _).set (a := ⟨g', 1, none⟩) hg _).set (a := ⟨g', 2, none⟩) hg _).set (a := ⟨g', 3, none⟩) hg _
theorem ExS.fill {A : Nat → Prop} {w : World} {sl : Value} {l : List Sx.Ex} (h : ExS A w sl l) {g : Nat} (ha : ¬ A g) (b0 b1 b2 b3 : Value) : ExS A (fill w g b0 b1 b2 b3) sl l := (((h.set (a := ⟨g, 0, none⟩) ha _).set (a := ⟨g, 1, none⟩) ha _).set (a := ⟨g, 2, none⟩) ha _).set (a := ⟨g, 3, none⟩) ha _
theorem fill_size (w : World) (g : Nat) (b0 b1 b2 b3 : Value) : (fill w g b0 b1 b2 b3).heap.size = w.heap.size := by simp [fill]
theorem ExS.one' {A : Nat → Prop} {w : World} {sl : Value} {l : List Sx.Ex} (h : ExS A w sl l) (hA : A w.heap.size) {g : Nat} (hg : ¬ A g) (b0 b1 b2 b3 : Value) (k : Int) (n : List UInt8) (m : Int) (t : TypeId) :
    ExS A ((Go.Proofs.YtlhklpnkelcnbaaGreatDoor.fill w g b0 b1 b2 b3).alloc (.cells #[.int .i64 k, .string ⟨n.toArray⟩, .int .i64 m, sl] t)) (.slice (Option.some ⟨w.heap.size, 0, Option.none⟩) 1 1) [.mk k n m l] := by
  have e := (h.fill hg b0 b1 b2 b3).one (by rw [fill_size]; exact hA) k n m t
  rw [fill_size] at e
  exact e
theorem ExS.two' {A : Nat → Prop} {w : World} {sl sl' : Value} {l l' : List Sx.Ex} (h : ExS A w sl l) (h' : ExS A w sl' l') (hA : A w.heap.size) {g : Nat} (hg : ¬ A g) (b0 b1 b2 b3 : Value) (k k' : Int) (n n' : List UInt8) (m m' : Int) (t : TypeId) :
    ExS A ((Go.Proofs.YtlhklpnkelcnbaaGreatDoor.fill w g b0 b1 b2 b3).alloc (.cells #[.int .i64 k, .string ⟨n.toArray⟩, .int .i64 m, sl, .int .i64 k', .string ⟨n'.toArray⟩, .int .i64 m', sl'] t)) (.slice (Option.some ⟨w.heap.size, 0, Option.none⟩) 2 2) [.mk k n m l, .mk k' n' m' l'] := by
  have e := (h.fill hg b0 b1 b2 b3).two (h'.fill hg b0 b1 b2 b3) (by rw [fill_size]; exact hA) k k' n n' m m' t
  rw [fill_size] at e
  exact e
/-- Tokens that may be read: the last one is the end, and no other. -/
structure Good (ts : List Tok) : Prop where
  pos : 0 < ts.length
  len : ts.length ≤ 1000000
  last : (ts.getD (ts.length - 1) tok0).1 = ⟨0, [], 0⟩
theorem Good.next {ts : List Tok} (h : Good ts) {k : Nat} (hk : k < ts.length) (hn : ¬ (ts.getD k tok0).1 = ⟨0, [], 0⟩) : k + 1 < ts.length := by
  by_cases e : k = ts.length - 1
  · exact absurd (by rw [e]; exact h.last) hn
  · have := h.pos; omega
/-- What reading has come to: in what it leaves behind. -/
def Post (p b o cap : Nat) (ts : List Tok) (w : World) : Sx.Rs → Ending → World → Prop
  | .ok x k', e, w' => (∃ v, e = .returned v ∧ IsEx (fun g => w.heap.size ≤ g) w' v x) ∧ Rd w' p b o cap ts k' ∧ k' < ts.length ∧ Mov p w w'
  | .bad a er, e, w' => e = pan a er ∧ Mov p w w'

/-- A call that panics, where the tactic for regions wants a way on: the way on is shut (False). -/
theorem shutWay {P : Program} {n : FuncId} {args : Array Value} {w : World} {R C : Ending → World → Prop} (hc : Calls P n args w C) (hp : ∀ e w', C e w' → R e w') (v : Value) (_hf : Hid (∀ q : Prop, q) → R (.returned v) w) : Calls P n args w R := hc.mono hp
theorem Mov.below {p : Nat} {w W w' : World} (m : Mov p w W) (b : Below W.heap.size W w') : Mov p w w' := m.trans (.of_below b)
end Go.Proofs.YtlhklpnkelcnbaaGreatDoor
