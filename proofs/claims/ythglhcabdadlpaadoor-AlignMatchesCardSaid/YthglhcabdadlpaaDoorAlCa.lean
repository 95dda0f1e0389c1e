/- AlignAll. -/
import Derived.Test.YthglhcabdadlpaaDoorAlBa
import Derived.Test.YthglhcabdadlpaaDoorAlU0
import Derived.Test.YthglhcabdadlpaaDoorAlW
namespace Go.Proofs.YthglhcabdadlpaaDoor
open Go.RowKit
set_option linter.unusedVariables false
set_option linter.unusedSimpArgs false
set_option maxRecDepth 100000
/-- Numbers in a block. -/
def NB (w : World) (g n : Nat) (f : Nat → Nat) : Prop := g < w.heap.size ∧ ∀ j, j < n → w.cell? ⟨g, j, none⟩ = some (.int .i64 (f j : Nat)) ∧ w.frozen? ⟨g, j, none⟩ = false
theorem NB.congr {w : World} {g n : Nat} {f f' : Nat → Nat} (h : NB w g n f) (e : ∀ j, j < n → f j = f' j) : NB w g n f' := ⟨h.1, fun j hj => by rw [← e j hj]; exact h.2 j hj⟩
theorem NB.set {w : World} {g n j0 v : Nat} {f : Nat → Nat} (h : NB w g n f) (hj0 : j0 < n) : NB (w.setCell ⟨g, j0, none⟩ (.int .i64 (v : Nat))) g n (fun j => if j = j0 then v else f j) := by
  refine ⟨by have := h.1; simpa using this, fun j hj => ⟨?_, ?_⟩⟩
  · by_cases c : j = j0
    · subst c
      show _ = some (Value.int .i64 ((if j = j then v else f j : Nat) : Int))
      rw [if_pos rfl]
      exact World.cell?_setCell_same _ _ _ (h.2 j hj).1
    · show _ = some (Value.int .i64 ((if j = j0 then v else f j : Nat) : Int))
      rw [if_neg c, World.cell?_setCell_other]
      · exact (h.2 j hj).1
      · intro e; exact c (congrArg Addr.off e).symm
  · rw [World.frozen?_setCell]
    exact (h.2 j hj).2
theorem NB.other {w : World} {g n p : Nat} {f : Nat → Nat} (h : NB w g n f) (hp : p ≠ g) (c : Nat) (v : Value) : NB (w.setCell ⟨p, c, none⟩ v) g n f := by
  refine ⟨by have := h.1; simpa using this, fun j hj => ⟨?_, ?_⟩⟩
  · rw [World.cell?_setCell_other]
    · exact (h.2 j hj).1
    · intro e; exact hp (congrArg Addr.block e)
  · rw [World.frozen?_setCell]
    exact (h.2 j hj).2
theorem NB.made (w : World) (N : Nat) : NB (w.alloc (.cells (madeCells (Value.int .i64 0).cells (N * 1)) 3)) w.heap.size N (fun _ => 0) := by
  have hb : (w.alloc (.cells (madeCells (Value.int .i64 0).cells (N * 1)) 3)).heap[w.heap.size]? = some (.cells (madeCells (Value.int .i64 0).cells (N * 1)) 3 (0, 0)) := Array.getElem?_push_size
  refine ⟨by simp, fun j hj => ⟨?_, ?_⟩⟩
  · simp only [World.cell?, hb]
    simp [madeCells, Value.cells, hj, Nat.mod_one]
  · simp only [World.frozen?, hb]
    simp
theorem NB.later {B g n : Nat} {w w' : World} {f : Nat → Nat} (h : NB w g n f) (b : Below B w w') (hg : g < B) : NB w' g n f :=
  ⟨Nat.lt_of_lt_of_le h.1 b.size, fun j hj => ⟨(b.cell (p := ⟨g, _, none⟩) hg).trans (h.2 j hj).1, (b.frozen (p := ⟨g, _, none⟩) hg).trans (h.2 j hj).2⟩⟩
/-- Where the cells of regions lie. -/
def RgAt (w : World) (a : Option Addr) (l : List Al.Rg) : Prop := 0 < l.length → ∃ g, a = some ⟨g, 0, none⟩ ∧ g < w.heap.size ∧ ∀ k r, l[k]? = some r → w.cell? ⟨g, k * 4, none⟩ = some (.int .i64 r.fa) ∧ w.cell? ⟨g, k * 4 + 1, none⟩ = some (.int .i64 r.ta) ∧ w.cell? ⟨g, k * 4 + 2, none⟩ = some (.int .i64 r.fb) ∧ w.cell? ⟨g, k * 4 + 3, none⟩ = some (.int .i64 r.tb)
theorem rgC_get : ∀ {l : List Al.Rg} {k : Nat} {r : Al.Rg}, l[k]? = some r → (rgC l)[k * 4]? = some (.int .i64 r.fa) ∧ (rgC l)[k * 4 + 1]? = some (.int .i64 r.ta) ∧ (rgC l)[k * 4 + 2]? = some (.int .i64 r.fb) ∧ (rgC l)[k * 4 + 3]? = some (.int .i64 r.tb)
  | [], k, r, h => by simp at h
  | x :: l, 0, r, h => by simp at h; subst h; exact ⟨rfl, rfl, rfl, rfl⟩
  | x :: l, k + 1, r, h => by
    have ih := rgC_get (l := l) (k := k) (r := r) (by simpa using h)
    have e : rgC (x :: l) = .int .i64 x.fa :: .int .i64 x.ta :: .int .i64 x.fb :: .int .i64 x.tb :: rgC l := rfl
    rw [e, show (k + 1) * 4 = k * 4 + 1 + 1 + 1 + 1 from by omega]
    exact ⟨by simpa using ih.1, by simpa using ih.2.1, by simpa using ih.2.2.1, by simpa using ih.2.2.2⟩
theorem OwG.at {w : World} {base : Nat} {ty : TypeId} {v : Value} {l : List Al.Rg} (h : OwG w base ty v l) : ∃ a c, v = .slice a l.length c ∧ RgAt w a l := by
  have h0 : w.ownsRow base ty 4 v l.length (rgC l) := h
  rcases h0.2 with ⟨rfl, hn⟩ | ⟨g, cap, cur, rfl, hbg, hg, _⟩
  · exact ⟨none, 0, by rw [hn], fun h => by omega⟩
  · have hc := h0.cells (g := g) rfl
    refine ⟨_, cap, rfl, fun _ => ⟨g, rfl, (Array.getElem?_eq_some_iff.1 hg).1, fun k r hk => ?_⟩⟩
    obtain ⟨c0, c1, c2, c3⟩ := rgC_get hk
    refine ⟨?_, ?_, ?_, ?_⟩
    · have := hc _ _ c0; rwa [add0A] at this
    · have := hc _ _ c1; rwa [add0A] at this
    · have := hc _ _ c2; rwa [add0A] at this
    · have := hc _ _ c3; rwa [add0A] at this
namespace Al
theorem cntP_take {l : List Ev} {k A B : Nat} (h : l[k]? = some ((A : Int), (B : Int))) (j : Nat) : cntP (l.take (k + 1)) (j : Int) = if j = A then cntP (l.take k) (A : Int) + 1 else cntP (l.take k) (j : Int) := by
  have e : l.take (k + 1) = l.take k ++ [((A : Int), (B : Int))] := by rw [List.take_add_one, h]; rfl
  rw [e]
  unfold cntP
  rw [List.countP_append]
  by_cases c : j = A
  · subst c; simp
  · rw [if_neg c]
    have : ¬ (A : Int) = (j : Int) := by omega
    simp [this]
theorem cntQ_take {l : List Ev} {k A B : Nat} (h : l[k]? = some ((A : Int), (B : Int))) (j : Nat) : cntQ (l.take (k + 1)) (j : Int) = if j = B then cntQ (l.take k) (B : Int) + 1 else cntQ (l.take k) (j : Int) := by
  have e : l.take (k + 1) = l.take k ++ [((A : Int), (B : Int))] := by rw [List.take_add_one, h]; rfl
  rw [e]
  unfold cntQ
  rw [List.countP_append]
  by_cases c : j = B
  · subst c; simp
  · rw [if_neg c]
    have : ¬ (B : Int) = (j : Int) := by omega
    simp [this]
/-- Counts of the pairs and of the first regions, and of a part of the next. -/
def upA (Z : List Ev) (R : List Rg) (k : Nat) (fa cur : Nat) (j : Nat) : Nat := cntP Z (j : Int) + cntA (R.take k) (j : Int) + if fa ≤ j ∧ j < cur then 1 else 0
def upB (Z : List Ev) (R : List Rg) (k : Nat) (fa cur : Nat) (j : Nat) : Nat := cntQ Z (j : Int) + cntB (R.take k) (j : Int) + if fa ≤ j ∧ j < cur then 1 else 0
theorem upA_step {Z : List Ev} {R : List Rg} {k fa cur : Nat} (h : fa ≤ cur) (j : Nat) : upA Z R k fa (cur + 1) j = if j = cur then upA Z R k fa cur cur + 1 else upA Z R k fa cur j := by
  unfold upA
  by_cases c : j = cur
  · subst c
    rw [if_pos rfl, if_pos ⟨h, Nat.lt_succ_self _⟩, if_neg (fun h => absurd h.2 (Nat.lt_irrefl _))]
  · rw [if_neg c]
    by_cases d : fa ≤ j ∧ j < cur
    · rw [if_pos d, if_pos ⟨d.1, Nat.lt_succ_of_lt d.2⟩]
    · rw [if_neg d, if_neg (fun h => d ⟨h.1, by omega⟩)]
theorem upB_step {Z : List Ev} {R : List Rg} {k fa cur : Nat} (h : fa ≤ cur) (j : Nat) : upB Z R k fa (cur + 1) j = if j = cur then upB Z R k fa cur cur + 1 else upB Z R k fa cur j := by
  unfold upB
  by_cases c : j = cur
  · subst c
    rw [if_pos rfl, if_pos ⟨h, Nat.lt_succ_self _⟩, if_neg (fun h => absurd h.2 (Nat.lt_irrefl _))]
  · rw [if_neg c]
    by_cases d : fa ≤ j ∧ j < cur
    · rw [if_pos d, if_pos ⟨d.1, Nat.lt_succ_of_lt d.2⟩]
    · rw [if_neg d, if_neg (fun h => d ⟨h.1, by omega⟩)]
theorem upA_zero (Z : List Ev) (R : List Rg) (k f j : Nat) : upA Z R k f f j = cntP Z (j : Int) + cntA (R.take k) (j : Int) := by
  unfold upA
  rw [if_neg (fun h => by omega)]
  rfl
theorem upB_zero (Z : List Ev) (R : List Rg) (k f j : Nat) : upB Z R k f f j = cntQ Z (j : Int) + cntB (R.take k) (j : Int) := by
  unfold upB
  rw [if_neg (fun h => by omega)]
  rfl
theorem upA_end {Z : List Ev} {R : List Rg} {k fa ta : Nat} {r : Rg} (h : R[k]? = some r) (h1 : r.fa = fa) (h2 : r.ta = ta) (j : Nat) : upA Z R k fa ta j = cntP Z (j : Int) + cntA (R.take (k + 1)) (j : Int) := by
  have e : R.take (k + 1) = R.take k ++ [r] := by rw [List.take_add_one, h]; rfl
  rw [e]
  unfold upA cntA
  rw [List.countP_append]
  by_cases c : fa ≤ j ∧ j < ta
  · rw [if_pos c]
    have : r.fa ≤ (j : Int) ∧ (j : Int) < r.ta := by omega
    simp [this]
    omega
  · rw [if_neg c]
    have : ¬ (r.fa ≤ (j : Int) ∧ (j : Int) < r.ta) := by omega
    have d : decide (r.fa ≤ (j : Int) ∧ (j : Int) < r.ta) = false := decide_eq_false this
    simp only [List.countP_cons, List.countP_nil, d]
    rfl
theorem upB_end {Z : List Ev} {R : List Rg} {k fb tb : Nat} {r : Rg} (h : R[k]? = some r) (h1 : r.fb = fb) (h2 : r.tb = tb) (j : Nat) : upB Z R k fb tb j = cntQ Z (j : Int) + cntB (R.take (k + 1)) (j : Int) := by
  have e : R.take (k + 1) = R.take k ++ [r] := by rw [List.take_add_one, h]; rfl
  rw [e]
  unfold upB cntB
  rw [List.countP_append]
  by_cases c : fb ≤ j ∧ j < tb
  · rw [if_pos c]
    have : r.fb ≤ (j : Int) ∧ (j : Int) < r.tb := by omega
    simp [this]
    omega
  · rw [if_neg c]
    have : ¬ (r.fb ≤ (j : Int) ∧ (j : Int) < r.tb) := by omega
    have d : decide (r.fb ≤ (j : Int) ∧ (j : Int) < r.tb) = false := decide_eq_false this
    simp only [List.countP_cons, List.countP_nil, d]
    rfl
/-- A region's numbers. -/
theorem gaps_at {l m : List Ev} {L : Int} {k : Nat} (hk : k < (gaps l.length m.length 0 0 (prs (mat l m L))).length) : ∃ (r : Rg) (fa ta fb tb : Nat), (gaps l.length m.length 0 0 (prs (mat l m L)))[k]? = some r ∧ r.fa = fa ∧ r.ta = ta ∧ r.fb = fb ∧ r.tb = tb ∧ fa ≤ ta ∧ ta ≤ l.length ∧ fb ≤ tb ∧ tb ≤ m.length := by
  obtain ⟨r, hr⟩ : ∃ r, (gaps l.length m.length 0 0 (prs (mat l m L)))[k]? = some r := ⟨_, List.getElem?_eq_getElem hk⟩
  have h := gaps_in (n := l.length) (m := m.length) (-1, -1) (prs (mat l m L)) (mat_rise l m L) (by decide) (by decide) (.inr ⟨rfl, by omega⟩) (.inr ⟨rfl, by omega⟩) r (List.mem_of_getElem? hr)
  exact ⟨r, r.fa.toNat, r.ta.toNat, r.fb.toNat, r.tb.toNat, hr, by omega, by omega, by omega, by omega, by omega, by omega, by omega, by omega⟩
theorem all_A {l m : List Ev} {L : Int} {j : Nat} (hj : j < l.length) : cntP (prs (mat l m L)) (j : Int) + cntA (gaps l.length m.length 0 0 (prs (mat l m L))) (j : Int) = 1 := by
  have h := cnt_A (n := l.length) (m := m.length) (-1, -1) (prs (mat l m L)) (j : Int) (mat_rise l m L) (by omega)
  rw [if_pos (by simp only; omega)] at h
  exact h
theorem all_B {l m : List Ev} {L : Int} {j : Nat} (hj : j < m.length) : cntQ (prs (mat l m L)) (j : Int) + cntB (gaps l.length m.length 0 0 (prs (mat l m L))) (j : Int) = 1 := by
  have h := cnt_B (n := l.length) (m := m.length) (-1, -1) (prs (mat l m L)) (j : Int) (mat_rise l m L) (by omega)
  rw [if_pos (by simp only; omega)] at h
  exact h
theorem cnt_le (Z : List Ev) (R : List Rg) (k f c j : Nat) : upA Z R k f c j ≤ Z.length + R.length + 1 ∧ upB Z R k f c j ≤ Z.length + R.length + 1 ∧ cntP Z j ≤ Z.length ∧ cntQ Z j ≤ Z.length := by
  have h1 : cntP Z (j : Int) ≤ Z.length := List.countP_le_length
  have h2 : cntQ Z (j : Int) ≤ Z.length := List.countP_le_length
  have h3 : cntA (R.take k) (j : Int) ≤ R.length := Nat.le_trans List.countP_le_length (List.length_take_le' _ _)
  have h4 : cntB (R.take k) (j : Int) ≤ R.length := Nat.le_trans List.countP_le_length (List.length_take_le' _ _)
  unfold upA upB
  refine ⟨?_, ?_, h1, h2⟩ <;> split <;> omega
theorem gaps_len (n m : Int) : ∀ (fa fb : Int) (l : List Ev), (gaps n m fa fb l).length ≤ l.length + 1
  | fa, fb, [] => by simp only [gaps, one]; split <;> simp
  | fa, fb, p :: l => by
    simp only [gaps, one, List.length_append, List.length_cons]
    have := gaps_len n m (p.1 + 1) (p.2 + 1) l
    split <;> simp <;> omega
end Al
end Go.Proofs.YthglhcabdadlpaaDoor
