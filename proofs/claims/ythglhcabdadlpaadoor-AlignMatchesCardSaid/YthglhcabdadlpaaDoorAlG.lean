/- Layer 15: rows of two numbers each (events, pairs) that are owned; what of the table of sizes stands so far. -/
import Derived.Test.YthglhcabdadlpaaDoorAlE
import Derived.Laws.MakeOwn
namespace Go.Proofs.YthglhcabdadlpaaDoor
open Go.RowKit
set_option linter.unusedVariables false
set_option linter.unusedSimpArgs false
/-- The cells of a row of two numbers each. -/
def prC (l : List Al.Ev) : List Value := l.flatMap fun e => [.int .i64 e.1, .int .i64 e.2]
theorem prC_nil : prC [] = [] := rfl
theorem prC_cons (e : Al.Ev) (l : List Al.Ev) : prC (e :: l) = .int .i64 e.1 :: .int .i64 e.2 :: prC l := rfl
theorem prC_len : ∀ l : List Al.Ev, (prC l).length = l.length * 2
  | [] => rfl
  | e :: l => by rw [prC_cons, List.length_cons, List.length_cons, prC_len l, List.length_cons]; omega
theorem prC_app (l m : List Al.Ev) : prC (l ++ m) = prC l ++ prC m := by simp [prC]
theorem prC_get : ∀ {l : List Al.Ev} {j : Nat} {e : Al.Ev}, l[j]? = some e → (prC l)[j * 2]? = some (.int .i64 e.1) ∧ (prC l)[j * 2 + 1]? = some (.int .i64 e.2)
  | [], j, e, h => by simp at h
  | x :: l, 0, e, h => by simp at h; subst h; exact ⟨rfl, rfl⟩
  | x :: l, j + 1, e, h => by
    have := prC_get (l := l) (j := j) (e := e) (by simpa using h)
    rw [prC_cons, show (j + 1) * 2 = j * 2 + 1 + 1 from by omega]
    simpa using this
theorem prC_one (e : Al.Ev) : ∀ u ∈ prC [e], u.oneCell' = true := fun u h => by
  simp [prC] at h
  rcases h with rfl | rfl <;> rfl
theorem two2 (w : World) (a b : Value) (t : TypeId) : ∀ (j : Nat) (u : Value), [a, b][j]? = some u → (w.alloc (.cells #[a, b] t)).cell? ((⟨w.heap.size, 0, none⟩ : Addr).add j) = some u
  | 0, u, h => by simp at h; subst h; simp [Addr.add]
  | 1, u, h => by simp at h; subst h; simp [Addr.add]
  | j + 2, u, h => by simp at h
/-- A row of two numbers each that is owned. -/
def OwP (w : World) (base : Nat) (ty : TypeId) (v : Value) (l : List Al.Ev) : Prop := w.ownsRow base ty 2 v l.length (prC l)
theorem ownA {w w' : World} {base size n : Nat} {e : TypeId} {v : Value} {xs : List Value} (h : w.ownsRow base e size v n xs) (hb : Below w.heap.size w w') : w'.ownsRow base e size v n xs :=
  World.ownsRow.kept h (row := none) ⟨hb.os, hb.tape, hb.output, hb.size, fun k hk _ => hb.block k hk⟩ (by
    rcases h.2 with ⟨rfl, _⟩ | ⟨g, cap, cur, rfl, _⟩
    · exact .inl rfl
    · exact .inr (by simp [Value.ownBlock]))
theorem ownShA {w : World} {base size n : Nat} {e : TypeId} {v : Value} {xs : List Value} (h : w.ownsRow base e size v n xs) : ∃ ao c, v = .slice ao n c := by
  rcases h.2 with ⟨rfl, rfl⟩ | ⟨g, cap, cur, rfl, _⟩
  · exact ⟨_, _, rfl⟩
  · exact ⟨_, _, rfl⟩
theorem OwP.nil (w : World) (base : Nat) (ty : TypeId) : OwP w base ty (.slice none 0 0) [] := World.ownsRow_nil _ _ _ _
theorem OwP.later {w w' : World} {base : Nat} {ty : TypeId} {v : Value} {l : List Al.Ev} (h : OwP w base ty v l) (b : Below w.heap.size w w') : OwP w' base ty v l := ownA h b
theorem add0A (g j : Nat) : (⟨g, 0, none⟩ : Addr).add j = ⟨g, j, none⟩ := by
  by_cases h : j = 0
  · subst h; simp [Addr.add]
  · simp [Addr.add, h]
/-- Such a row is one that can be read. -/
theorem OwP.ev {w : World} {base : Nat} {ty : TypeId} {v : Value} {l : List Al.Ev} (h : OwP w base ty v l) : ∃ a c, v = .slice a l.length c ∧ EvR w.heap.size w a l ∧ l.length ≤ c := by
  have h0 : w.ownsRow base ty 2 v l.length (prC l) := h
  rcases h0.2 with ⟨rfl, hn⟩ | ⟨g, cap, cur, rfl, hbg, hg, hnc, hcm, hcs, htake⟩
  · exact ⟨none, 0, by rw [hn], fun h1 => by omega, by omega⟩
  · have hc := h0.cells (g := g) rfl
    refine ⟨_, cap, rfl, fun h1 => ⟨g, 0, rfl, ?_, fun j e hj => ?_⟩, hnc⟩
    · exact (Array.getElem?_eq_some_iff.1 hg).1
    · have := prC_get hj
      refine ⟨?_, ?_⟩
      · have h2 := hc _ _ this.1
        rw [add0A] at h2
        simpa using h2
      · have h2 := hc _ _ this.2
        rw [add0A] at h2
        simpa using h2
/-- One more behind a row, its two numbers being in a new block. -/
theorem OwP.grown {wr w8 : World} {base : Nat} {ty : TypeId} {v v8 : Value} {l : List Al.Ev} {o : Obj} {e : Al.Ev} (ho : OwP wr base ty v l) (hb : base ≤ wr.heap.size) (h8 : w8.ownsRow base ty 2 v8 (l.length + 1) (prC l ++ [.int .i64 e.1, .int .i64 e.2])) (g8 : (wr.alloc o).grownBy w8 v.ownBlock) : OwP w8 base ty v8 (l ++ [e]) ∧ Below base wr w8 := by
  refine ⟨?_, ((Below.refl base wr).alloc hb o).trans ⟨g8.os, g8.tape, g8.output, g8.size, fun k hk => g8.block k (by simp; omega) (fun e => by have := (World.ownsRow.lt ho _ e.symm).1; omega)⟩⟩
  unfold OwP
  rw [prC_app, List.length_append]
  exact h8
theorem infoP (t : TypeId) (P : Program) (z : Value) (s b : Nat) (h : (P.info? t).map (fun i => (i.zero, i.size, i.bytes)) = some (some z, s, b)) : ∃ i, P.info? t = some i ∧ i.zero = some z ∧ i.size = s ∧ i.bytes = b := by
  cases hx : P.info? t with
  | none => rw [hx] at h; cases h
  | some i => rw [hx] at h; simp at h; exact ⟨i, rfl, h.1, h.2.1, h.2.2⟩
theorem infoPair : ∃ i, Tryd.prog.info? 64 = some i ∧ i.zero = some (.agg #[.int .i64 0, .int .i64 0]) ∧ i.size = 2 ∧ i.bytes = 16 := infoP _ _ _ _ _ (by kernel_rfl)
theorem infoI32 : ∃ i, Tryd.prog.info? 21 = some i ∧ i.zero = some (.int .i32 0) ∧ i.size = 1 ∧ i.bytes = 4 := infoP _ _ _ _ _ (by kernel_rfl)
/-- The table when k rows, from the last one on, have been filled. -/
def tbF (l m : List Al.Ev) (k : Nat) : Nat → Nat → Nat := fun i j => if l.length - k ≤ i then Al.lcs (l.drop i) (m.drop j) else 0
theorem tbF_start {l m : List Al.Ev} {i j : Nat} (hi : i ≤ l.length) : tbF l m 0 i j = 0 := by
  unfold tbF
  split
  · rw [List.drop_eq_nil_of_le (by omega), Al.lcs_nil]
  · rfl
theorem tbF_next {l m : List Al.Ev} {i j k : Nat} (hi : i + 1 + k = l.length) : tbF l m k (i + 1) j = Al.lcs (l.drop (i + 1)) (m.drop j) := by
  unfold tbF
  rw [if_pos (by omega)]
theorem tbF_zero {l m : List Al.Ev} {i j k : Nat} (hi : i + 1 + k = l.length) : tbF l m k i j = 0 := by
  unfold tbF
  rw [if_neg (by omega)]
theorem tbF_step {l m : List Al.Ev} {i k : Nat} {x : Al.Ev} (hi : i + 1 + k = l.length) (hx : l[i]? = some x) (i' j : Nat) : flF x (l.drop (i + 1)) m (tbF l m k) i m.length i' j = tbF l m (k + 1) i' j := by
  unfold flF tbF
  by_cases c : i' = i
  · subst c
    obtain ⟨h1, h2⟩ := List.getElem?_eq_some_iff.1 hx
    rw [if_pos ⟨rfl, by omega⟩, if_pos (by omega), List.drop_eq_getElem_cons h1, h2]
  · rw [if_neg (fun h => c h.1)]
    by_cases c2 : l.length - k ≤ i'
    · rw [if_pos c2, if_pos (by omega)]
    · rw [if_neg c2, if_neg (by omega)]
theorem tbF_all {l m : List Al.Ev} {i j : Nat} : tbF l m l.length i j = Al.lcs (l.drop i) (m.drop j) := by
  unfold tbF
  rw [if_pos (by omega)]
theorem made32 (N j : Nat) (h : j < N) : (madeCells (Value.int .i32 0).cells (N * 1))[j]? = some (.int .i32 0) := by
  simp [madeCells, Value.cells, h, Nat.mod_one]
/-- The table when it is made. -/
theorem TB.made (w : World) (l m : List Al.Ev) {N : Nat} (hN : N = (l.length + 1) * (m.length + 1)) : TB (w.alloc (.cells (madeCells (Value.int .i32 0).cells (N * 1)) 21)) w.heap.size (m.length + 1) l.length (tbF l m 0) := by
  have hb : (w.alloc (.cells (madeCells (Value.int .i32 0).cells (N * 1)) 21)).heap[w.heap.size]? = some (.cells (madeCells (Value.int .i32 0).cells (N * 1)) 21 (0, 0)) := Array.getElem?_push_size
  refine ⟨by simp, fun i j hi hj => ?_⟩
  have h1 : i * (m.length + 1) + j < N := by
    have : (i + 1) * (m.length + 1) ≤ N := by rw [hN]; exact Nat.mul_le_mul_right _ (by omega)
    rw [Nat.add_mul, Nat.one_mul] at this
    omega
  rw [tbF_start hi]
  refine ⟨?_, ?_⟩
  · simp only [World.cell?, hb]
    have := made32 N _ h1
    simpa using this
  · simp only [World.frozen?, hb]
    simp
end Go.Proofs.YthglhcabdadlpaaDoor
