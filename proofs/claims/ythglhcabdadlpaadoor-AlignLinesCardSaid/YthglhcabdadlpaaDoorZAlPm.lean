/- Layer 15: rows of two numbers each (events, pairs) that are owned; what of the table of sizes stands so far. -/
/- Layer 15: the table of sizes: sizesOf. -/
/- Layer 15: slices.Index of events. -/
/- Layer 15, plain: which pairs are a matching; the least one is one, and no other has more pairs; regions. -/
import Derived.Test.YthglhcabdadlpaaDoorZAlE
import Derived.Laws.MakeOwn
import Derived.Test.YthglhcabdadlpaaDoorZAlD
namespace Go.Proofs.YthglhcabdadlpaaDoor
open Go.RowKit
set_option linter.unusedVariables false
set_option linter.unusedSimpArgs false
/-- The cells of a row of two numbers each. -/
def prC (l : List Al.Ev) : List Value := l.flatMap fun e => [.int .i64 e.1, .int .i64 e.2]
theorem prC_nil : prC [] = [] := rfl
theorem prC_cons (e : Al.Ev) (l : List Al.Ev) : prC (e :: l) = .int .i64 e.1 :: .int .i64 e.2 :: prC l := rfl
theorem prC_len : ∀ l : List Al.Ev, (prC l).length = l.length * 2
  | [] => rfl
  | e :: l => by rw [prC_cons, List.length_cons, List.length_cons, prC_len l, List.length_cons]; omega
theorem prC_app (l m : List Al.Ev) : prC (l ++ m) = prC l ++ prC m := by simp [prC]
theorem prC_get : ∀ {l : List Al.Ev} {j : Nat} {e : Al.Ev}, l[j]? = some e → (prC l)[j * 2]? = some (.int .i64 e.1) ∧ (prC l)[j * 2 + 1]? = some (.int .i64 e.2)
  | [], j, e, h => by simp at h
  | x :: l, 0, e, h => by simp at h; subst h; exact ⟨rfl, rfl⟩
  | x :: l, j + 1, e, h => by
    have := prC_get (l := l) (j := j) (e := e) (by simpa using h)
    rw [prC_cons, show (j + 1) * 2 = j * 2 + 1 + 1 from by omega]
    simpa using this
theorem prC_one (e : Al.Ev) : ∀ u ∈ prC [e], u.oneCell' = true := fun u h => by
  simp [prC] at h
  rcases h with rfl | rfl <;> rfl
theorem two2 (w : World) (a b : Value) (t : TypeId) : ∀ (j : Nat) (u : Value), [a, b][j]? = some u → (w.alloc (.cells #[a, b] t)).cell? ((⟨w.heap.size, 0, none⟩ : Addr).add j) = some u
  | 0, u, h => by simp at h; subst h; simp [Addr.add]
  | 1, u, h => by simp at h; subst h; simp [Addr.add]
  | j + 2, u, h => by simp at h
/-- A row of two numbers each that is owned. -/
def OwP (w : World) (base : Nat) (ty : TypeId) (v : Value) (l : List Al.Ev) : Prop := w.ownsRow base ty 2 v l.length (prC l)
theorem ownA {w w' : World} {base size n : Nat} {e : TypeId} {v : Value} {xs : List Value} (h : w.ownsRow base e size v n xs) (hb : Below w.heap.size w w') : w'.ownsRow base e size v n xs :=
  World.ownsRow.kept h (row := none) ⟨hb.os, hb.tape, hb.output, hb.size, fun k hk _ => hb.block k hk⟩ (by
    rcases h.2 with ⟨rfl, _⟩ | ⟨g, cap, cur, rfl, _⟩
    · exact .inl rfl
    · exact .inr (by simp [Value.ownBlock]))
theorem ownShA {w : World} {base size n : Nat} {e : TypeId} {v : Value} {xs : List Value} (h : w.ownsRow base e size v n xs) : ∃ ao c, v = .slice ao n c := by
  rcases h.2 with ⟨rfl, rfl⟩ | ⟨g, cap, cur, rfl, _⟩
  · exact ⟨_, _, rfl⟩
  · exact ⟨_, _, rfl⟩
theorem OwP.nil (w : World) (base : Nat) (ty : TypeId) : OwP w base ty (.slice none 0 0) [] := World.ownsRow_nil _ _ _ _
theorem OwP.later {w w' : World} {base : Nat} {ty : TypeId} {v : Value} {l : List Al.Ev} (h : OwP w base ty v l) (b : Below w.heap.size w w') : OwP w' base ty v l := ownA h b
theorem add0A (g j : Nat) : (⟨g, 0, none⟩ : Addr).add j = ⟨g, j, none⟩ := by
  by_cases h : j = 0
  · subst h; simp [Addr.add]
  · simp [Addr.add, h]
/-- Such a row is one that can be read. -/
theorem OwP.ev {w : World} {base : Nat} {ty : TypeId} {v : Value} {l : List Al.Ev} (h : OwP w base ty v l) : ∃ a c, v = .slice a l.length c ∧ EvR w.heap.size w a l ∧ l.length ≤ c := by
  have h0 : w.ownsRow base ty 2 v l.length (prC l) := h
  rcases h0.2 with ⟨rfl, hn⟩ | ⟨g, cap, cur, rfl, hbg, hg, hnc, hcm, hcs, htake⟩
  · exact ⟨none, 0, by rw [hn], fun h1 => by omega, by omega⟩
  · have hc := h0.cells (g := g) rfl
    refine ⟨_, cap, rfl, fun h1 => ⟨g, 0, rfl, ?_, fun j e hj => ?_⟩, hnc⟩
    · exact (Array.getElem?_eq_some_iff.1 hg).1
    · have := prC_get hj
      refine ⟨?_, ?_⟩
      · have h2 := hc _ _ this.1
        rw [add0A] at h2
        simpa using h2
      · have h2 := hc _ _ this.2
        rw [add0A] at h2
        simpa using h2
/-- One more behind a row, its two numbers being in a new block. -/
theorem OwP.grown {wr w8 : World} {base : Nat} {ty : TypeId} {v v8 : Value} {l : List Al.Ev} {o : Obj} {e : Al.Ev} (ho : OwP wr base ty v l) (hb : base ≤ wr.heap.size) (h8 : w8.ownsRow base ty 2 v8 (l.length + 1) (prC l ++ [.int .i64 e.1, .int .i64 e.2])) (g8 : (wr.alloc o).grownBy w8 v.ownBlock) : OwP w8 base ty v8 (l ++ [e]) ∧ Below base wr w8 := by
  refine ⟨?_, ((Below.refl base wr).alloc hb o).trans ⟨g8.os, g8.tape, g8.output, g8.size, fun k hk => g8.block k (by simp; omega) (fun e => by have := (World.ownsRow.lt ho _ e.symm).1; omega)⟩⟩
  unfold OwP
  rw [prC_app, List.length_append]
  exact h8
theorem infoP (t : TypeId) (P : Program) (z : Value) (s b : Nat) (h : (P.info? t).map (fun i => (i.zero, i.size, i.bytes)) = some (some z, s, b)) : ∃ i, P.info? t = some i ∧ i.zero = some z ∧ i.size = s ∧ i.bytes = b := by
  cases hx : P.info? t with
  | none => rw [hx] at h; cases h
  | some i => rw [hx] at h; simp at h; exact ⟨i, rfl, h.1, h.2.1, h.2.2⟩
theorem infoPair : ∃ i, Tryd.prog.info? 64 = some i ∧ i.zero = some (.agg #[.int .i64 0, .int .i64 0]) ∧ i.size = 2 ∧ i.bytes = 16 := infoP _ _ _ _ _ (by kernel_rfl)
theorem infoI32 : ∃ i, Tryd.prog.info? 21 = some i ∧ i.zero = some (.int .i32 0) ∧ i.size = 1 ∧ i.bytes = 4 := infoP _ _ _ _ _ (by kernel_rfl)
/-- The table when k rows, from the last one on, have been filled. -/
def tbF (l m : List Al.Ev) (k : Nat) : Nat → Nat → Nat := fun i j => if l.length - k ≤ i then Al.lcs (l.drop i) (m.drop j) else 0
theorem tbF_start {l m : List Al.Ev} {i j : Nat} (hi : i ≤ l.length) : tbF l m 0 i j = 0 := by
  unfold tbF
  split
  · rw [List.drop_eq_nil_of_le (by omega), Al.lcs_nil]
  · rfl
theorem tbF_next {l m : List Al.Ev} {i j k : Nat} (hi : i + 1 + k = l.length) : tbF l m k (i + 1) j = Al.lcs (l.drop (i + 1)) (m.drop j) := by
  unfold tbF
  rw [if_pos (by omega)]
theorem tbF_zero {l m : List Al.Ev} {i j k : Nat} (hi : i + 1 + k = l.length) : tbF l m k i j = 0 := by
  unfold tbF
  rw [if_neg (by omega)]
theorem tbF_step {l m : List Al.Ev} {i k : Nat} {x : Al.Ev} (hi : i + 1 + k = l.length) (hx : l[i]? = some x) (i' j : Nat) : flF x (l.drop (i + 1)) m (tbF l m k) i m.length i' j = tbF l m (k + 1) i' j := by
  unfold flF tbF
  by_cases c : i' = i
  · subst c
    obtain ⟨h1, h2⟩ := List.getElem?_eq_some_iff.1 hx
    rw [if_pos ⟨rfl, by omega⟩, if_pos (by omega), List.drop_eq_getElem_cons h1, h2]
  · rw [if_neg (fun h => c h.1)]
    by_cases c2 : l.length - k ≤ i'
    · rw [if_pos c2, if_pos (by omega)]
    · rw [if_neg c2, if_neg (by omega)]
theorem tbF_all {l m : List Al.Ev} {i j : Nat} : tbF l m l.length i j = Al.lcs (l.drop i) (m.drop j) := by
  unfold tbF
  rw [if_pos (by omega)]
theorem made32 (N j : Nat) (h : j < N) : (madeCells (Value.int .i32 0).cells (N * 1))[j]? = some (.int .i32 0) := by
  simp [madeCells, Value.cells, h, Nat.mod_one]
/-- The table when it is made. -/
theorem TB.made (w : World) (l m : List Al.Ev) {N : Nat} (hN : N = (l.length + 1) * (m.length + 1)) : TB (w.alloc (.cells (madeCells (Value.int .i32 0).cells (N * 1)) 21)) w.heap.size (m.length + 1) l.length (tbF l m 0) := by
  have hb : (w.alloc (.cells (madeCells (Value.int .i32 0).cells (N * 1)) 21)).heap[w.heap.size]? = some (.cells (madeCells (Value.int .i32 0).cells (N * 1)) 21 (0, 0)) := Array.getElem?_push_size
  refine ⟨by simp, fun i j hi hj => ?_⟩
  have h1 : i * (m.length + 1) + j < N := by
    have : (i + 1) * (m.length + 1) ≤ N := by rw [hN]; exact Nat.mul_le_mul_right _ (by omega)
    rw [Nat.add_mul, Nat.one_mul] at this
    omega
  rw [tbF_start hi]
  refine ⟨?_, ?_⟩
  · simp only [World.cell?, hb]
    have := made32 N _ h1
    simpa using this
  · simp only [World.frozen?, hb]
    simp
end Go.Proofs.YthglhcabdadlpaaDoor

namespace Go.Proofs.YthglhcabdadlpaaDoor
open Go.RowKit
set_option linter.unusedVariables false
set_option linter.unusedSimpArgs false
set_option maxRecDepth 100000
/-- The table of two rows, in a new block. -/
def SzQ (w : World) (l m : List Al.Ev) (e : Ending) (w' : World) : Prop := ∃ g, e = .returned (szV g (m.length + 1) ((l.length + 1) * (m.length + 1))) ∧ w.heap.size ≤ g ∧ TB w' g (m.length + 1) l.length (fun i j => Al.lcs (l.drop i) (m.drop j)) ∧ Below w.heap.size w w'
theorem gb_block {w w' : World} {g k : Nat} (h : w.grownBy w' (some g)) (hk : k < w.heap.size) (hn : k ≠ g) : w'.heap[k]? = w.heap[k]? := h.block k hk (by intro e; cases e; exact hn rfl)
theorem sz_nums (n m : Nat) (hn : n ≤ 100) (hm : m ≤ 100) : wrap64 ((m : Int) + 1) = ((m + 1 : Nat) : Int) ∧ wrap64 ((n : Int) + 1) = ((n + 1 : Nat) : Int) ∧ wrap64 (((n + 1 : Nat) : Int) * ((m + 1 : Nat) : Int)) = (((n + 1) * (m + 1) : Nat) : Int) ∧ (n + 1) * (m + 1) ≤ 1000000 := by
  have h : (n + 1) * (m + 1) ≤ 101 * 101 := Nat.mul_le_mul (by omega) (by omega)
  refine ⟨by unfold wrap64; omega, by unfold wrap64; omega, ?_, by omega⟩
  have e : (((n + 1) * (m + 1) : Nat) : Int) = ((n + 1 : Nat) : Int) * ((m + 1 : Nat) : Int) := Int.natCast_mul _ _
  rw [← e]
  unfold wrap64
  omega
theorem mk32 (wz : World) (N : Nat) (h : N ≤ 1000000) : (Instr.makeSlice 84 (.int .i64 (N : Int)) (.int .i64 (N : Int))).run Tryd.prog wz = .ok (.slice (some ⟨wz.heap.size, 0, none⟩) N N) (wz.alloc (.cells (madeCells (Value.int .i32 0).cells (N * 1)) 21)) := by
  obtain ⟨i0, hi, hz0, hz1, hz2⟩ := infoI32
  have := run_make (P := Tryd.prog) wz 84 21 i0 (.int .i32 0) Tryd.underlying84 hi hz0 .i64 .i64 (N : Int) (N : Int) (by omega) (Int.le_refl _) (by rw [hz2]; omega) (by omega)
  rw [hz1] at this
  simpa using this
theorem TB.other {w : World} {g d n p : Nat} {f : Nat → Nat → Nat} (h : TB w g d n f) (hp : p ≠ g) (c : Nat) (v : Value) : TB (w.setCell ⟨p, c, none⟩ v) g d n f := by
  refine ⟨by have := h.1; simpa using this, fun i j hi hj => ⟨?_, ?_⟩⟩
  · rw [World.cell?_setCell_other]
    · exact (h.2 i j hi hj).1
    · intro e; exact hp (congrArg Addr.block e)
  · rw [World.frozen?_setCell]
    exact (h.2 i j hi hj).2
set_option maxHeartbeats 8000000 in
theorem szOf (w : World) (a b : Option Addr) (ca cb : Nat) (l m : List Al.Ev) {B : Nat} (ha : EvR B w a l) (hb : EvR B w b m) (hB : B ≤ w.heap.size) (hl : l.length ≤ 100) (hm : m.length ≤ 100) :
    Calls Tryd.prog 49 #[.slice a l.length ca, .slice b m.length cb] w (SzQ w l m) := by
  obtain ⟨e1, e2, e3, hN⟩ := sz_nums l.length m.length hl hm
  obtain ⟨N, hNe⟩ : ∃ N, N = (l.length + 1) * (m.length + 1) := ⟨_, rfl⟩
  have HNE := hidA hNe
  rw [← hNe] at e3 hN
  have HMK : ∀ wz : World, (Instr.makeSlice 84 (.int .i64 (N : Int)) (.int .i64 (N : Int))).run Tryd.prog wz = .ok (.slice (some ⟨wz.heap.size, 0, none⟩) N N) (wz.alloc (.cells (madeCells (Value.int .i32 0).cells (N * 1)) 21)) := fun wz => mk32 wz N hN
  have HTM : Hid (∀ wz : World, TB (wz.alloc (.cells (madeCells (Value.int .i32 0).cells (N * 1)) 21)) wz.heap.size (m.length + 1) l.length (tbF l m 0)) := fun wz => TB.made wz l m hNe
  obtain ⟨MC, hMC⟩ : ∃ MC, MC = madeCells (Value.int .i32 0).cells (N * 1) := ⟨_, rfl⟩
  rw [← hMC] at HMK HTM
  clear hMC
  have HA := hidA ha
  have HB := hidA hb
  have HQ : Hid (∀ g w', w.heap.size ≤ g → TB w' g (m.length + 1) l.length (tbF l m l.length) → Below w.heap.size w w' → SzQ w l m (.returned (szV g (m.length + 1) N)) w') := fun g w' h1 h2 h3 => ⟨g, by rw [HNE.out], h1, h2.congr fun i j _ _ => tbF_all, h3⟩
  have HF : Hid (∀ (wz : World) (g J k : Nat) (x : Al.Ev), J + 1 + k = l.length → l[J]? = some x → B ≤ g → EvR B wz b m → TB wz g (m.length + 1) l.length (tbF l m k) → Calls Tryd.prog 60 #[.agg #[.int .i64 ((m.length + 1 : Nat) : Int), .slice (some ⟨g, 0, none⟩) N N], .int .i64 (J : Int), .agg #[.int .i64 x.1, .int .i64 x.2], .slice b m.length cb] wz fun e w' => e = .returned (.tuple #[]) ∧ TB w' g (m.length + 1) l.length (tbF l m (k + 1)) ∧ wz.grownBy w' (some g)) := fun wz g J k x h1 h2 h3 h4 h5 =>
    Calls.mono (szFill wz g l.length J N x (l.drop (J + 1)) m (tbF l m k) b cb B hN hNe (by omega) hm (by simp; omega) h5 h3 h4 (fun j _ => tbF_next h1) (tbF_zero h1)) fun e w' h => ⟨h.1, h.2.1.congr fun i j _ _ => tbF_step h1 h2 i j, h.2.2⟩
  obtain ⟨Q, hQ⟩ : ∃ Q, Q = SzQ w l m := ⟨_, rfl⟩
  rw [← hQ] at HQ ⊢
  clear hQ
  obtain ⟨n, hn⟩ : ∃ n, n = l.length := ⟨_, rfl⟩
  have HN := hidA hn
  obtain ⟨k2, hk2⟩ : ∃ k2, k2 = m.length := ⟨_, rfl⟩
  obtain ⟨d, hd⟩ : ∃ d, d = m.length + 1 := ⟨_, rfl⟩
  obtain ⟨n1, hn1⟩ : ∃ n1, n1 = l.length + 1 := ⟨_, rfl⟩
  rw [← hd] at e1 e3 HTM HQ HF
  rw [← hn1] at e2 e3
  rw [← hn] at e2 hl HTM HQ HF ⊢
  rw [← hk2] at e1 hm HF ⊢
  obtain ⟨p, hp⟩ : ∃ p, p = w.heap.size := ⟨_, rfl⟩
  obtain ⟨W0, hW0⟩ : ∃ W0, W0 = w.alloc (.cells #[.int .i64 0, .slice none 0 0] 86) := ⟨_, rfl⟩
  obtain ⟨W1, hW1⟩ : ∃ W1, W1 = W0.alloc (.cells MC 21) := ⟨_, rfl⟩
  have S0 : W0.heap.size = p + 1 := by rw [hW0, hp]; simp
  have S1 : W1.heap.size = p + 2 := by rw [hW1]; simp [S0]
  obtain ⟨W2, hW2⟩ : ∃ W2, W2 = W1.alloc (.cells #[.int .i64 (d : Int), .slice (some ⟨p + 1, 0, none⟩) N N] 86) := ⟨_, rfl⟩
  have HL := hidA hl
  have HM := hidA hm
  have HP := hidA hp
  have g1 : Hid (W1.heap.size = p + 2) := S1
  have B2 : Hid (Below p w W2 ∧ W2.heap.size = p + 3 ∧ W2.heap[p]? = some (.cells #[.int .i64 0, .slice none 0 0] 86 (0, 0)) ∧ W2.heap[p + 2]? = some (.cells #[.int .i64 (d : Int), .slice (some ⟨p + 1, 0, none⟩) N N] 86 (0, 0)) ∧ TB W2 (p + 1) d n (tbF l m 0)) := by
    have b0 : Below p w W0 := by rw [hW0, hp]; exact (Below.refl _ _).alloc (Nat.le_refl _) _
    have b1 : Below (p + 1) W0 W1 := by rw [hW1]; exact (Below.refl _ _).alloc (by omega) _
    have b2 : Below (p + 2) W1 W2 := by rw [hW2]; exact (Below.refl _ _).alloc (by omega) _
    have z0 : W0.heap[p]? = some (.cells #[.int .i64 0, .slice none 0 0] 86 (0, 0)) := by rw [hW0, hp]; exact Array.getElem?_push_size
    have t1 : TB W1 (p + 1) d n (tbF l m 0) := by rw [hW1, ← S0]; exact HTM.out W0
    refine ⟨b0.trans ((b1.mono (by omega)).trans (b2.mono (by omega))), by rw [hW2]; simp [S1], ((b2.block p (by omega)).trans (b1.block p (by omega))).trans z0, ?_, t1.later b2 (by omega)⟩
    rw [hW2, ← S1]
    exact Array.getElem?_push_size
  clear hd hn1 hk2 hn hNe hl hm S0 S1
  go_enter Tryd.func49, Tryd.ntmps49
  go_upto_region 2 with fail
  rw [← hp, ← hW0, ← hW1, ← hW2]
  obtain ⟨g, hg⟩ : ∃ g, g = p + 1 := ⟨_, rfl⟩
  obtain ⟨q, hq⟩ : ∃ q, q = g + 1 := ⟨_, rfl⟩
  rw [← hg, ← hq]
  have B3 : Hid (Below p w W2 ∧ W2.heap.size = p + 3 ∧ W2.heap[p]? = some (.cells #[.int .i64 0, .slice none 0 0] 86 (0, 0)) ∧ W2.heap[q]? = some (.cells #[.int .i64 (d : Int), .slice (some ⟨g, 0, none⟩) N N] 86 (0, 0)) ∧ TB W2 g d n (tbF l m 0)) := by unfold Hid; rw [hq, hg]; exact B2.out
  have GQ : Hid (g = p + 1 ∧ q = p + 2) := ⟨hg, by omega⟩
  have HBB := hidA hB
  clear hp hW0 hW1 hW2 hg hq B2 g1 ha hb hB HTM HMK e1 e2 e3 hN
  obtain ⟨M1, hM1⟩ : ∃ M1 : Int, M1 = (n : Int) - 1 := ⟨_, rfl⟩
  have hm1 : IntKind.i64.wrap ((n : Int) - 1) = M1 := by rw [hM1]; exact wrC n (Nat.le_trans HL.out (by decide))
  have hm2 : wrap64 ((n : Int) - 1) = M1 := by rw [hM1]; exact wrD n (Nat.le_trans HL.out (by decide))
  have HM1 := hidA hM1
  clear hM1
  have EX : Hid (∀ wr, W2.grownBy wr (some g) → Below p w wr ∧ EvR B wr a l ∧ EvR B wr b m) := fun wr h => by
    have h1 : Below p w wr := B3.out.1.trans ((gb_below h (by have := B3.out.2.1; have := GQ.out; omega)).mono (by have := GQ.out; omega))
    exact ⟨h1, HA.out.later h1 (by rw [HP.out]; exact HBB.out), HB.out.later h1 (by rw [HP.out]; exact HBB.out)⟩
  go_wp2_with fail
  go_loopg [22] n (fun gk y wr => ∃ k : Nat, k + gk = n ∧ y = .int .i64 k ∧ Hid (W2.grownBy wr (some g) ∧ TB wr g d n (tbF l m k)))
  case atStart => exact ⟨0, by omega, rfl, gb_refl _ _, B3.out.2.2.2.2⟩
  case round =>
    obtain ⟨k, hk, rfl, RR⟩ := hrel
    have hbp : wr.heap[p]? = some (.cells #[.int .i64 0, .slice none 0 0] 86 (0, 0)) := (gb_block RR.out.1 (by have := B3.out.2.1; omega) (by have := GQ.out; omega)).trans B3.out.2.2.1
    have hbq : wr.heap[q]? = some (.cells #[.int .i64 (d : Int), .slice (some ⟨g, 0, none⟩) N N] 86 (0, 0)) := (gb_block RR.out.1 (by have := B3.out.2.1; have := GQ.out; omega) (by have := GQ.out; omega)).trans B3.out.2.2.2.1
    have q0 : wr.cell? ⟨q, 0, none⟩ = some (.int .i64 (d : Int)) := by simp [World.cell?, hbq]
    have q1 : wr.cell? ⟨q, 1, none⟩ = some (.slice (some ⟨g, 0, none⟩) N N) := by simp [World.cell?, hbq]
    have HBP := hidA hbp
    clear hbp hbq
    have hkb : k ≤ 100 := Nat.le_trans (by omega) HL.out
    rcases gk with _ | gk
    · obtain rfl : k = n := by omega
      have dk : decide ((k : Int) < (k : Int)) = false := decide_eq_false (by omega)
      have p0 : wr.cell? ⟨p, 0, none⟩ = some (.int .i64 0) := by have := HBP.out; simp [World.cell?, this]
      have p1 : wr.cell? ⟨p, 1, none⟩ = some (.slice none 0 0) := by have := HBP.out; simp [World.cell?, this]
      have y0 : wr.frozen? ⟨p, 0, none⟩ = false := by have := HBP.out; simp [World.frozen?, this]
      have y1 : wr.frozen? ⟨p, 1, none⟩ = false := by have := HBP.out; simp [World.frozen?, this]
      have GD : Hid (∀ u v, Q (.returned (szV g d N)) ((wr.setCell ⟨p, 0, none⟩ u).setCell ⟨p, 1, none⟩ v)) := fun u v => HQ.out g _ (by have h1 := GQ.out.1; have h2 := HP.out; rw [h1, ← h2]; exact Nat.le_succ p) ((RR.out.2.other (by have := GQ.out; omega) _ _).other (by have := GQ.out; omega) _ _) (by rw [← HP.out]; exact below_set (below_set (EX.out wr RR.out.1).1 (Nat.le_refl _) _) (Nat.le_refl _) _)
      have HBP2 := HBP.out
      clear hm1 hm2 HBP
      go_wp2_with fail
      have z0 := World.cell?_setCell_same wr ⟨p, 0, none⟩ (.int .i64 (d : Int)) p0
      have z1 : ((wr.setCell ⟨p, 0, none⟩ (.int .i64 (d : Int))).setCell ⟨p, 1, none⟩ (.slice (some ⟨g, 0, none⟩) N N)).cell? ⟨p, 0, none⟩ = some (.int .i64 (d : Int)) := by
        rw [World.cell?_setCell_other]
        · exact z0
        · intro e; cases e
      have z2 : ((wr.setCell ⟨p, 0, none⟩ (.int .i64 (d : Int))).setCell ⟨p, 1, none⟩ (.slice (some ⟨g, 0, none⟩) N N)).cell? ⟨p, 1, none⟩ = some (.slice (some ⟨g, 0, none⟩) N N) := by
        refine World.cell?_setCell_same _ _ _ (u := .slice none 0 0) ?_
        rw [World.cell?_setCell_other]
        · exact p1
        · intro e; cases e
      refine ⟨rfl, .agg #[.int .i64 (d : Int), .slice (some ⟨g, 0, none⟩) N N], by simp [results, Tryd.results49, go_sem, z1, z2], GD.out _ _⟩
    · obtain ⟨J, J1, hJ, hJ1, ⟨hJm, hJi⟩, -, -, ⟨j1, j2⟩, -, dk⟩ := fl_nums HM1.out hk rfl HL.out
      obtain ⟨x, hx⟩ : ∃ x, l[J]? = some x := ⟨_, List.getElem?_eq_getElem (by rw [← HN.out]; exact hJm)⟩
      obtain ⟨bw, ea, eb⟩ := EX.out wr RR.out.1
      obtain ⟨ga, oa, rfl, hga, cs⟩ := ea (by rw [← HN.out]; exact Nat.lt_of_le_of_lt (Nat.zero_le J) hJm)
      have a0 := (cs J x hx).1
      have a1 := (cs J x hx).2
      have FC : Hid (∀ wz : World, Below wr.heap.size wr wz → Calls Tryd.prog 60 #[.agg #[.int .i64 (d : Int), .slice (some ⟨g, 0, none⟩) N N], .int .i64 (J : Int), .agg #[.int .i64 x.1, .int .i64 x.2], .slice b k2 cb] wz fun e w' => e = .returned (.tuple #[]) ∧ W2.grownBy w' (some g) ∧ TB w' g d n (tbF l m (k + 1))) := fun wz hz =>
        Calls.mono (HF.out wz g J k x hJ hx (by have h1 := GQ.out.1; have h2 := HBB.out; have h3 := HP.out; rw [h1, h3]; exact Nat.le_succ_of_le h2) (eb.later hz (Nat.le_trans HBB.out bw.size)) (RR.out.2.later hz RR.out.2.1)) fun e w' h => ⟨h.1, ⟨h.2.2.os.trans (hz.os.trans RR.out.1.os), h.2.2.tape.trans (hz.tape.trans RR.out.1.tape), h.2.2.output.trans (hz.output.trans RR.out.1.output), Nat.le_trans RR.out.1.size (Nat.le_trans hz.size h.2.2.size), fun i hi hn => (h.2.2.block i (Nat.lt_of_lt_of_le hi (Nat.le_trans RR.out.1.size hz.size)) hn).trans ((hz.block i (Nat.lt_of_lt_of_le hi RR.out.1.size)).trans (RR.out.1.block i hi hn))⟩, h.2.1⟩
      generalize x.1 = x1 at a0 FC
      generalize x.2 = x2 at a1 FC
      clear cs hx ea eb bw HBP hJ1
      go_upto_region 6 with fail
      go_region_with (first
        | (go_at_call 60; refine Calls.mono (FC.out _ (by go_grown)) ?_; rintro e1 w1 ⟨rfl, hh⟩; have H1 := hidA hh; clear hh))
      all_goals
        go_wp2_with fail
        go_roundg gk
        case measure => omega
        case rel => exact ⟨k + 1, by omega, by go_num, ⟨H1.out.1.os, H1.out.1.tape, H1.out.1.output, H1.out.1.size, H1.out.1.block⟩, H1.out.2⟩
end Go.Proofs.YthglhcabdadlpaaDoor

namespace Go.Proofs.YthglhcabdadlpaaDoor
open Go.RowKit
set_option linter.unusedVariables false
set_option linter.unusedSimpArgs false
set_option maxRecDepth 100000
namespace Al
def ix (e : Ev) (l : List Ev) : Int := match idx e l with
  | some k => (k : Int)
  | none => -1
theorem ix_at {e : Ev} {l : List Ev} {k : Nat} (h : l[k]? = some e) (hn : ∀ i, i < k → l[i]? ≠ some e) : ix e l = k := by
  unfold ix
  cases hx : idx e l with
  | none => exact absurd h (idx_none hx k)
  | some j =>
    have h1 := idx_lt hx
    have h2 := idx_least hx
    rcases Nat.lt_trichotomy j k with c | c | c
    · exact absurd h1.2 (hn j c)
    · simp [c]
    · exact absurd h (h2 k c)
theorem ix_no {e : Ev} {l : List Ev} (hn : ∀ i, i < l.length → l[i]? ≠ some e) : ix e l = -1 := by
  unfold ix
  cases hx : idx e l with
  | none => rfl
  | some j => exact absurd (idx_lt hx).2 (hn j (idx_lt hx).1)
end Al
def IxI (x : Al.Ev) (l : List Al.Ev) (k : Nat) : Prop := ∀ i, i < k → l[i]? ≠ some x
theorem IxI.step {x y : Al.Ev} {l : List Al.Ev} {k : Nat} (h : IxI x l k) (hy : l[k]? = some y) (hn : x ≠ y) : IxI x l (k + 1) := fun i hi => by
  rcases Nat.lt_or_ge i k with c | c
  · exact h i c
  · obtain rfl : i = k := by omega
    rw [hy]
    exact fun e => hn (Option.some.inj e).symm
set_option maxHeartbeats 8000000 in
theorem index_ev (w : World) (a : Option Addr) (ca : Nat) (l : List Al.Ev) (x : Al.Ev) {B : Nat} (ha : EvR B w a l) (hB : B ≤ w.heap.size) (hl : l.length ≤ 1000000000000000) : Calls Tryd.prog 51 #[.slice a l.length ca, .agg #[.int .i64 x.1, .int .i64 x.2]] w fun e w' => e = .returned (.int .i64 (Al.ix x l)) ∧ Below w.heap.size w w' := by
  have HA : Hid (EvR B w a l) := ha
  have HBB : Hid (B ≤ w.heap.size) := hB
  obtain ⟨W0, hW0⟩ : ∃ W0, W0 = w.alloc (.cells #[.int .i64 x.1, .int .i64 x.2] 24) := ⟨_, rfl⟩
  have B0 : Hid (Below w.heap.size w W0) := by rw [hW0]; exact (Below.refl _ _).alloc (Nat.le_refl _) _
  obtain ⟨bx, hbx⟩ : ∃ bx, bx = w.heap.size := ⟨_, rfl⟩
  have S0 : Hid (W0.heap.size = bx + 1) := by unfold Hid; rw [hW0, hbx]; simp
  have C0 : Hid (W0.cell? ⟨bx, 0, none⟩ = some (.int .i64 x.1) ∧ W0.cell? ⟨bx, 1, none⟩ = some (.int .i64 x.2)) := by unfold Hid; rw [hW0, hbx]; constructor <;> simp
  have HT1 : Hid (∀ k, IxI x l k → l[k]? = some x → Al.ix x l = k) := fun k h1 h2 => Al.ix_at h2 h1
  have HT2 : Hid (IxI x l l.length → Al.ix x l = -1) := fun h => Al.ix_no h
  obtain ⟨T, hT⟩ : ∃ T, T = Al.ix x l := ⟨_, rfl⟩
  rw [← hT] at HT1 HT2 ⊢
  obtain ⟨N1, h1⟩ : ∃ N1, N1 = l.length := ⟨_, rfl⟩
  have H1 : Hid (N1 = l.length) := h1
  rw [← h1] at hl HT2 ⊢
  have HX : Hid (∀ y : Al.Ev, x ≠ y → (x.1 == y.1) = false ∨ (x.1 == y.1) = true ∧ (x.2 == y.2) = false) := fun y h => ev_ne h
  obtain ⟨x1, hx1⟩ : ∃ x1, x1 = x.1 := ⟨_, rfl⟩
  obtain ⟨x2, hx2⟩ : ∃ x2, x2 = x.2 := ⟨_, rfl⟩
  have HX1 := hidA hx1
  have HX2 := hidA hx2
  rw [← hx1, ← hx2] at C0 hW0 ⊢
  have HX' : Hid (∀ y : Al.Ev, x ≠ y → (x1 == y.1) = false ∨ (x1 == y.1) = true ∧ (x2 == y.2) = false) := by unfold Hid; rw [hx1, hx2]; exact HX.out
  clear ha hB hT h1 HX hx1 hx2
  go_enter Tryd.func51, Tryd.ntmps51
  go_upto_region 1 with fail
  rw [← hW0, ← hbx]
  have HB2 := hidA hbx
  clear hW0 hbx
  go_wp2_with fail
  go_loopg [8] N1 (fun gk i wr => ∃ k : Nat, k + gk = N1 ∧ i = .int .i64 k ∧ Hid (Below (bx + 1) W0 wr ∧ IxI x l k))
  case atStart => exact ⟨0, by omega, rfl, Below.refl _ _, fun i hi => absurd hi (Nat.not_lt_zero i)⟩
  case round =>
    obtain ⟨k, hk, rfl, BR⟩ := hrel
    have BW : Hid (Below w.heap.size w wr) := B0.out.trans (BR.out.1.mono (by rw [← HB2.out]; omega))
    rcases gk with _ | gk
    · obtain rfl : k = N1 := by omega
      have hki : ¬ (k : Int) < (k : Int) := by omega
      have dk : decide ((k : Int) < (k : Int)) = false := decide_eq_false hki
      have TT : T = -1 := HT2.out BR.out.2
      subst TT
      go_wp2_with fail
      go_ret
      exact ⟨rfl, BW.out⟩
    · have hk1 : k < N1 := by omega
      have hk3 : (k : Int) < (N1 : Int) := by omega
      have dk : decide ((k : Int) < (N1 : Int)) = true := decide_eq_true hk3
      have dk1 : decide (k < N1) = true := decide_eq_true (by omega)
      obtain ⟨y, hy⟩ : ∃ y, l[k]? = some y := ⟨_, List.getElem?_eq_getElem (by rw [← H1.out]; exact hk1)⟩
      obtain ⟨ga, oa, rfl, hga, ca'⟩ := (HA.out.later BW.out HBB.out) (by rw [← H1.out]; omega)
      have a0 := (ca' k y hy).1
      have a1 := (ca' k y hy).2
      have b0 := (BR.out.1.cell (p := ⟨bx, 0, none⟩) (Nat.lt_succ_self bx)).trans C0.out.1
      have b1 := (BR.out.1.cell (p := ⟨bx, 1, none⟩) (Nat.lt_succ_self bx)).trans C0.out.2
      clear ca'
      have HY : Hid (l[k]? = some y) := hy
      clear hy
      by_cases hxy : x = y
      · subst hxy
        have TT : T = (k : Int) := HT1.out k BR.out.2 HY.out
        subst TT
        rw [← HX1.out] at a0
        rw [← HX2.out] at a1
        clear HY HT1 HT2 HX' HX1 HX2
        have q1 : (x1 == x1) = true := beq_self_eq_true x1
        have q2 : (x2 == x2) = true := beq_self_eq_true x2
        go_upto_region 4 with fail
        go_quiet (fail)
        have BQ := below_drA BW.out nq
        generalize wr.drewN nq = W5 at BQ ⊢
        have BH : Hid (Below w.heap.size w W5) := BQ
        clear BQ a0 a1 b0 b1
        go_wp2_with fail
        go_ret
        exact ⟨rfl, BH.out⟩
      · have STEP : Hid (IxI x l (k + 1)) := BR.out.2.step HY.out hxy
        have q := HX'.out y hxy
        clear HY HT1 HT2 HX' HX1 HX2 hxy
        generalize y.1 = y1 at a0 q
        generalize y.2 = y2 at a1 q
        rcases q with q1 | ⟨q1, q2⟩
        · go_upto_region 4 with fail
          go_quiet (fail)
          have BQ := below_drA BR.out.1 nq
          generalize wr.drewN nq = W5 at BQ ⊢
          have BH : Hid (Below (bx + 1) W0 W5) := BQ
          clear BQ a0 a1 b0 b1
          go_wp2_with fail
          go_roundg gk
          case measure => omega
          case rel => exact ⟨k + 1, by omega, by go_num, BH.out, STEP.out⟩
        · go_upto_region 4 with fail
          go_quiet (fail)
          have BQ := below_drA BR.out.1 nq
          generalize wr.drewN nq = W5 at BQ ⊢
          have BH : Hid (Below (bx + 1) W0 W5) := BQ
          clear BQ a0 a1 b0 b1
          go_wp2_with fail
          go_roundg gk
          case measure => omega
          case rel => exact ⟨k + 1, by omega, by go_num, BH.out, STEP.out⟩
end Go.Proofs.YthglhcabdadlpaaDoor

namespace Go.Proofs.YthglhcabdadlpaaDoor.Al
set_option linter.unusedVariables false
set_option linter.unusedSimpArgs false
/-- Pairs as numbers. -/
def prs (l : List (Nat × Nat)) : List Ev := l.map fun p => ((p.1 : Int), (p.2 : Int))
theorem prs_len (l : List (Nat × Nat)) : (prs l).length = l.length := by simp [prs]
theorem prs_app (l k : List (Nat × Nat)) : prs (l ++ k) = prs l ++ prs k := by simp [prs]
theorem prs_cons (p : Nat × Nat) (l : List (Nat × Nat)) : prs (p :: l) = ((p.1 : Int), (p.2 : Int)) :: prs l := rfl
/-- Whether pairs rise behind the last one, below n and m. -/
def rise (n m : Int) : Ev → List Ev → Bool
  | _, [] => true
  | q, p :: l => if p.1 ≤ q.1 ∨ n ≤ p.1 ∨ p.2 ≤ q.2 ∨ m ≤ p.2 then false else rise n m p l
theorem rise_cons {n m : Int} {q p : Ev} {l : List Ev} (h : rise n m q (p :: l) = true) : q.1 < p.1 ∧ p.1 < n ∧ q.2 < p.2 ∧ p.2 < m ∧ rise n m p l = true := by
  simp only [rise] at h
  split at h
  · cases h
  · rename_i c
    exact ⟨by omega, by omega, by omega, by omega, h⟩
theorem rise_mk {n m : Int} {q p : Ev} {l : List Ev} (h1 : q.1 < p.1) (h2 : p.1 < n) (h3 : q.2 < p.2) (h4 : p.2 < m) (h : rise n m p l = true) : rise n m q (p :: l) = true := by
  simp only [rise]
  rw [if_neg (by omega)]
  exact h
theorem rise_low {n m : Int} : ∀ {q q' : Ev} {l : List Ev}, rise n m q l = true → q'.1 ≤ q.1 → q'.2 ≤ q.2 → rise n m q' l = true
  | _, _, [], _, _, _ => rfl
  | q, q', p :: l, h, h1, h2 => by
    obtain ⟨a, b, c, d, e⟩ := rise_cons h
    exact rise_mk (by omega) b (by omega) d e
theorem rise_app {n m : Int} : ∀ {q : Ev} {l k : List Ev} {e : Ev}, rise n m q (l ++ [e]) = true → rise n m e k = true → rise n m q (l ++ [e] ++ k) = true
  | q, [], k, e, h, h2 => by
    obtain ⟨a, b, c, d, _⟩ := rise_cons h
    exact rise_mk a b c d h2
  | q, p :: l, k, e, h, h2 => by
    obtain ⟨a, b, c, d, e'⟩ := rise_cons (l := l ++ [e]) h
    exact rise_mk (l := l ++ [e] ++ k) a b c d (rise_app e' h2)
/-- What rises lies within. -/
theorem rise_mem {n m : Int} : ∀ {q : Ev} {l : List Ev}, rise n m q l = true → ∀ p ∈ l, q.1 < p.1 ∧ p.1 < n ∧ q.2 < p.2 ∧ p.2 < m
  | _, [], _, p, hp => by cases hp
  | q, x :: l, h, p, hp => by
    obtain ⟨a, b, c, d, e⟩ := rise_cons h
    cases hp with
    | head => exact ⟨a, b, c, d⟩
    | tail _ hp =>
      obtain ⟨h1, h2, h3, h4⟩ := rise_mem e p hp
      exact ⟨by omega, h2, by omega, h4⟩
/-- Whether the events of pairs are the same. -/
def alike (a b : List Ev) (l : List Ev) : Bool := l.all fun p => a[p.1.toNat]? == b[p.2.toNat]?
def fits (a b : List Ev) (l : List Ev) : Bool := rise a.length b.length (-1, -1) l && alike a b l
theorem alike_app (a b l k : List Ev) : alike a b (l ++ k) = (alike a b l && alike a b k) := by simp [alike]
/-- No matching has more pairs than the greatest. -/
theorem fit_bd (a b : List Ev) : ∀ (l : List Ev) (q : Ev), -1 ≤ q.1 → -1 ≤ q.2 → rise a.length b.length q l = true → alike a b l = true → l.length ≤ lcs (a.drop (q.1 + 1).toNat) (b.drop (q.2 + 1).toNat)
  | [], q, _, _, _, _ => Nat.zero_le _
  | p :: l, q, h1, h2, h, k => by
    obtain ⟨e1, e2, e3, e4, e5⟩ := rise_cons h
    have k1 : a[p.1.toNat]? = b[p.2.toNat]? := by
      have := (List.all_eq_true.1 k) p (List.mem_cons_self ..)
      simpa using this
    have k2 : alike a b l = true := List.all_eq_true.2 fun x hx => (List.all_eq_true.1 k) x (List.mem_cons_of_mem _ hx)
    have ih := fit_bd a b l p (by omega) (by omega) e5 k2
    have ha : p.1.toNat < a.length := by omega
    have hb : p.2.toNat < b.length := by omega
    have hx : a[p.1.toNat] = b[p.2.toNat] := by
      rw [List.getElem?_eq_getElem ha, List.getElem?_eq_getElem hb] at k1
      exact Option.some.inj k1
    have s : lcs (a.drop p.1.toNat) (b.drop p.2.toNat) = lcs (a.drop (p.1.toNat + 1)) (b.drop (p.2.toNat + 1)) + 1 := by
      rw [List.drop_eq_getElem_cons ha, List.drop_eq_getElem_cons hb, lcs_cons, if_pos hx]
    have d1 : lcs (a.drop p.1.toNat) (b.drop p.2.toNat) ≤ lcs (a.drop (q.1 + 1).toNat) (b.drop (q.2 + 1).toNat) := by
      have z1 : a.drop p.1.toNat = (a.drop (q.1 + 1).toNat).drop (p.1.toNat - (q.1 + 1).toNat) := by rw [List.drop_drop]; congr 1; omega
      have z2 : b.drop p.2.toNat = (b.drop (q.2 + 1).toNat).drop (p.2.toNat - (q.2 + 1).toNat) := by rw [List.drop_drop]; congr 1; omega
      rw [z1, z2]
      refine Nat.le_trans (lcs_drop _ _ _) ?_
      rw [lcs_comm, lcs_comm _ (b.drop (q.2 + 1).toNat)]
      exact lcs_drop _ _ _
    have t1 : (p.1 + 1).toNat = p.1.toNat + 1 := by omega
    have t2 : (p.2 + 1).toNat = p.2.toNat + 1 := by omega
    rw [t1, t2] at ih
    rw [List.length_cons]
    omega
theorem fits_bd {a b l : List Ev} (h : fits a b l = true) : l.length ≤ lcs a b := by
  unfold fits at h
  rw [Bool.and_eq_true] at h
  simpa using fit_bd a b l (-1, -1) (by simp) (by simp) h.1 h.2
/-- The least one rises. -/
theorem mt_rise {n m : Int} : ∀ (i j : Nat) (a b : List Ev), (i + a.length : Int) ≤ n → (j + b.length : Int) ≤ m → rise n m ((i : Int) - 1, (j : Int) - 1) (prs (mt i j a b)) = true
  | _, _, [], b, _, _ => rfl
  | i, j, e :: a, b, h1, h2 => by
    simp only [mt]
    split
    · rfl
    · rename_i h0
      simp only [List.length_cons] at h1
      split
      · rename_i k hk
        have hl := (idx_lt hk).1
        split
        · rename_i hh
          rw [prs_cons]
          have ih := mt_rise (n := n) (m := m) (i + 1) (j + k + 1) a (b.drop (k + 1)) (by omega) (by simp; omega)
          refine rise_mk (by show (i : Int) - 1 < (i : Int); omega) (by show (i : Int) < n; omega) (by show (j : Int) - 1 < ((j + k : Nat) : Int); omega) (by show ((j + k : Nat) : Int) < m; omega) ?_
          refine rise_low ih (by simp) (by simp)
        · exact rise_low (mt_rise (i + 1) j a b (by omega) h2) (by simp; omega) (by simp)
      · exact rise_low (mt_rise (i + 1) j a b (by omega) h2) (by simp; omega) (by simp)
theorem mt_alike (A B : List Ev) : ∀ (i j : Nat) (a b : List Ev), a = A.drop i → b = B.drop j → alike A B (prs (mt i j a b)) = true
  | _, _, [], b, _, _ => rfl
  | i, j, e :: a, b, h1, h2 => by
    have ha : A[i]? = some e := by
      have : (A.drop i)[0]? = some e := by rw [← h1]; rfl
      simpa using this
    have hd : a = A.drop (i + 1) := by
      have := congrArg (List.drop 1) h1
      rw [List.drop_drop] at this
      simpa using this
    simp only [mt]
    split
    · rfl
    · split
      · rename_i k hk
        split
        · rw [prs_cons]
          have hb : B[j + k]? = some e := by
            have := (idx_lt hk).2
            rw [h2, List.getElem?_drop] at this
            exact this
          have ih := mt_alike A B (i + 1) (j + k + 1) a (b.drop (k + 1)) hd (by rw [h2, List.drop_drop]; rfl)
          unfold alike at ih ⊢
          rw [List.all_cons, ih]
          rw [Bool.and_true, beq_iff_eq]
          show A[((i : Nat) : Int).toNat]? = B[((j + k : Nat) : Int).toNat]?
          rw [Int.toNat_natCast, Int.toNat_natCast, ha, hb]
        · exact mt_alike A B (i + 1) j a b hd h2
      · exact mt_alike A B (i + 1) j a b hd h2
theorem same_get (k i : Nat) : (same k)[i]? = if i < k then some (i, i) else none := by
  unfold same
  rw [List.getElem?_map]
  by_cases h : i < k
  · simp [h]
  · simp [h]
theorem same_succ (k : Nat) : same (k + 1) = same k ++ [(k, k)] := by simp [same, List.range_succ]
theorem same_rise {n m : Int} : ∀ (k : Nat) (K : List Ev), (k : Int) ≤ n → (k : Int) ≤ m → rise n m ((k : Int) - 1, (k : Int) - 1) K = true → rise n m (-1, -1) (prs (same k) ++ K) = true
  | 0, K, _, _, h => by simpa [same, prs] using h
  | k + 1, K, h1, h2, h => by
    rw [same_succ, prs_app, List.append_assoc]
    refine same_rise k _ (by omega) (by omega) ?_
    show rise n m _ (((k : Int), (k : Int)) :: K) = true
    refine rise_mk (by show (k : Int) - 1 < (k : Int); omega) (by show (k : Int) < n; omega) (by show (k : Int) - 1 < (k : Int); omega) (by show (k : Int) < m; omega) ?_
    refine rise_low h (by show (k : Int) ≤ ((k + 1 : Nat) : Int) - 1; omega) (by show (k : Int) ≤ ((k + 1 : Nat) : Int) - 1; omega)
theorem same_alike (a b : List Ev) : ∀ k : Nat, k ≤ tog a b → alike a b (prs (same k)) = true
  | 0, _ => rfl
  | k + 1, h => by
    rw [same_succ, prs_app, alike_app, same_alike a b k (by omega)]
    simp [alike, prs, tog_get a b k (by omega)]
theorem mat_rise (a b : List Ev) (limit : Int) : rise a.length b.length (-1, -1) (prs (mat a b limit)) = true := by
  have h := tog_le a b
  unfold mat
  rw [prs_app]
  refine same_rise _ _ (by omega) (by omega) ?_
  split
  · rfl
  · exact mt_rise _ _ _ _ (by simp; omega) (by simp; omega)
theorem mat_fits (a b : List Ev) (limit : Int) : fits a b (prs (mat a b limit)) = true := by
  unfold fits
  rw [mat_rise, Bool.true_and]
  unfold mat
  rw [prs_app, alike_app, same_alike a b _ (Nat.le_refl _), Bool.true_and]
  split
  · rfl
  · exact mt_alike a b _ _ _ _ rfl rfl
theorem mat_get (a b : List Ev) (limit : Int) (i : Nat) (h : i < tog a b) : (mat a b limit)[i]? = some (i, i) := by
  unfold mat
  rw [List.getElem?_append_left (by rw [same_len]; exact h), same_get, if_pos h]
/-- The least one, said from other indices on. -/
theorem mt_shift (c d : Nat) : ∀ (i j : Nat) (a b : List Ev), mt (c + i) (d + j) a b = (mt i j a b).map fun p => (c + p.1, d + p.2)
  | _, _, [], b => rfl
  | i, j, e :: a, b => by
    simp only [mt]
    split
    · rfl
    · split
      · rename_i k hk
        split
        · rw [List.map_cons, ← mt_shift c d (i + 1) (j + k + 1) a (b.drop (k + 1)), show d + j + k = d + (j + k) from Nat.add_assoc _ _ _]
          rfl
        · exact mt_shift c d (i + 1) j a b
      · exact mt_shift c d (i + 1) j a b
/-- Regions. -/
structure Rg where
  fa : Int
  ta : Int
  fb : Int
  tb : Int
deriving DecidableEq
def one (fa ta fb tb : Int) : List Rg := if fa < ta ∨ fb < tb then [⟨fa, ta, fb, tb⟩] else []
def gaps (n m : Int) : Int → Int → List Ev → List Rg
  | fa, fb, [] => one fa n fb m
  | fa, fb, p :: l => one fa p.1 fb p.2 ++ gaps n m (p.1 + 1) (p.2 + 1) l
/-- How often an index is met. -/
def cntP (l : List Ev) (k : Int) : Nat := l.countP fun p => decide (p.1 = k)
def cntQ (l : List Ev) (k : Int) : Nat := l.countP fun p => decide (p.2 = k)
def cntA (l : List Rg) (k : Int) : Nat := l.countP fun r => decide (r.fa ≤ k ∧ k < r.ta)
def cntB (l : List Rg) (k : Int) : Nat := l.countP fun r => decide (r.fb ≤ k ∧ k < r.tb)
theorem cntA_one (fa ta fb tb k : Int) : cntA (one fa ta fb tb) k = if fa ≤ k ∧ k < ta then 1 else 0 := by
  unfold one cntA
  by_cases c : fa ≤ k ∧ k < ta
  · rw [if_pos (by omega), if_pos c]; simp [c]
  · rw [if_neg c]
    split
    · simp; omega
    · simp
theorem cntB_one (fa ta fb tb k : Int) : cntB (one fa ta fb tb) k = if fb ≤ k ∧ k < tb then 1 else 0 := by
  unfold one cntB
  by_cases c : fb ≤ k ∧ k < tb
  · rw [if_pos (by omega), if_pos c]; simp [c]
  · rw [if_neg c]
    split
    · simp; omega
    · simp
theorem cnt_A {n m : Int} : ∀ (q : Ev) (l : List Ev) (k : Int), rise n m q l = true → k < n → cntP l k + cntA (gaps n m (q.1 + 1) (q.2 + 1) l) k = if q.1 < k then 1 else 0
  | q, [], k, _, hk => by
    simp only [gaps, cntA_one, cntP, List.countP_nil]
    by_cases c : q.1 < k
    · rw [if_pos c, if_pos (by omega)]
    · rw [if_neg c, if_neg (by omega)]
  | q, p :: l, k, h, hk => by
    obtain ⟨h1, h2, h3, h4, h5⟩ := rise_cons h
    have ih := cnt_A p l k h5 hk
    simp only [gaps, cntP, List.countP_cons] at ih ⊢
    rw [show cntA (one (q.1 + 1) p.1 (q.2 + 1) p.2 ++ gaps n m (p.1 + 1) (p.2 + 1) l) k = cntA (one (q.1 + 1) p.1 (q.2 + 1) p.2) k + cntA (gaps n m (p.1 + 1) (p.2 + 1) l) k from List.countP_append, cntA_one]
    simp only [decide_eq_true_eq]
    generalize List.countP (fun p => decide (p.1 = k)) l = X at ih ⊢
    generalize cntA (gaps n m (p.1 + 1) (p.2 + 1) l) k = Y at ih ⊢
    split at ih <;> (repeat' split) <;> omega
theorem cnt_B {n m : Int} : ∀ (q : Ev) (l : List Ev) (k : Int), rise n m q l = true → k < m → cntQ l k + cntB (gaps n m (q.1 + 1) (q.2 + 1) l) k = if q.2 < k then 1 else 0
  | q, [], k, _, hk => by
    simp only [gaps, cntB_one, cntQ, List.countP_nil]
    by_cases c : q.2 < k
    · rw [if_pos c, if_pos (by omega)]
    · rw [if_neg c, if_neg (by omega)]
  | q, p :: l, k, h, hk => by
    obtain ⟨h1, h2, h3, h4, h5⟩ := rise_cons h
    have ih := cnt_B p l k h5 hk
    simp only [gaps, cntQ, List.countP_cons] at ih ⊢
    rw [show cntB (one (q.1 + 1) p.1 (q.2 + 1) p.2 ++ gaps n m (p.1 + 1) (p.2 + 1) l) k = cntB (one (q.1 + 1) p.1 (q.2 + 1) p.2) k + cntB (gaps n m (p.1 + 1) (p.2 + 1) l) k from List.countP_append, cntB_one]
    simp only [decide_eq_true_eq]
    generalize List.countP (fun p => decide (p.2 = k)) l = X at ih ⊢
    generalize cntB (gaps n m (p.1 + 1) (p.2 + 1) l) k = Y at ih ⊢
    split at ih <;> (repeat' split) <;> omega
/-- Where regions lie. -/
theorem gaps_in {n m : Int} : ∀ (q : Ev) (l : List Ev), rise n m q l = true → -1 ≤ q.1 → -1 ≤ q.2 → q.1 < n ∨ q.1 = -1 ∧ 0 ≤ n → q.2 < m ∨ q.2 = -1 ∧ 0 ≤ m → ∀ r ∈ gaps n m (q.1 + 1) (q.2 + 1) l, 0 ≤ r.fa ∧ r.fa ≤ r.ta ∧ r.ta ≤ n ∧ 0 ≤ r.fb ∧ r.fb ≤ r.tb ∧ r.tb ≤ m
  | q, [], _, h1, h2, h3, h4, r, hr => by
    simp only [gaps, one] at hr
    split at hr
    · simp at hr; subst hr; simp only; omega
    · cases hr
  | q, p :: l, h, h1, h2, h3, h4, r, hr => by
    obtain ⟨e1, e2, e3, e4, e5⟩ := rise_cons h
    simp only [gaps, List.mem_append] at hr
    rcases hr with hr | hr
    · simp only [one] at hr
      split at hr
      · simp at hr; subst hr; simp only; omega
      · cases hr
    · exact gaps_in p l e5 (by omega) (by omega) (.inl e2) (.inl e4) r hr
end Go.Proofs.YthglhcabdadlpaaDoor.Al
