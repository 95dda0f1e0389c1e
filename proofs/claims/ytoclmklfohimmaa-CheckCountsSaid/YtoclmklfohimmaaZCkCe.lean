/- Layer 4: CheckCounts: parameters. -/
import Derived.Test.YtoclmklfohimmaaZCkCd
namespace Go.Proofs.Ytoclmklfohimmaa
open Go.RowKit

theorem infoPrm : (Try.prog.info? 60).map (fun i => (i.zero, i.size, i.bytes)) = some (some (.agg #[.string ⟨#[]⟩, .int .i64 0]), 2, 24) := by kernel_rfl
theorem cells_2 (w : World) (c0 c1 : Value) (t : TypeId) : ∀ (j : Nat) u, [c0, c1][j]? = some u → (w.alloc (.cells #[c0, c1] t)).cell? ((⟨w.heap.size, 0, none⟩ : Addr).add j) = some u := by
  intro j u hj
  match j, hj with
  | 0, hj => simp at hj; subst hj; simp [Addr.add]
  | 1, hj => simp at hj; subst hj; simp [Addr.add]
def prC : List Sy.Pa → List Value
  | [] => []
  | x :: r => .string ⟨x.name.toArray⟩ :: .int .i64 x.type :: prC r
theorem prC_app : ∀ (a b : List Sy.Pa), prC (a ++ b) = prC a ++ prC b
  | [], b => rfl
  | x :: r, b => by simp [prC, prC_app r b]
theorem prC_at : ∀ (l : List Sy.Pa) (j : Nat) (x : Sy.Pa), l[j]? = some x → (prC l)[j * 2]? = some (.string ⟨x.name.toArray⟩) ∧ (prC l)[j * 2 + 1]? = some (.int .i64 x.type)
  | [], j, x, h => by simp at h
  | y :: r, 0, x, h => by simp at h; subst h; simp [prC]
  | y :: r, j + 1, x, h => by
    have := prC_at r j x (by simpa using h)
    have e : (j + 1) * 2 = j * 2 + 2 := by omega
    rw [e]
    simpa [prC] using this
/-- Parameters in a row, and the box of their procedure. -/
structure QL (W : World) (bq : Nat) (l : List Sy.Pa) (v : Value) (wr : World) : Prop where
  c0 : wr.cell? ⟨bq, 0, none⟩ = some (.string ⟨#[102]⟩)
  c1 : wr.cell? ⟨bq, 1, none⟩ = some v
  c2 : wr.cell? ⟨bq, 2, none⟩ = some (.int .i64 0)
  c3 : wr.cell? ⟨bq, 3, none⟩ = some (.slice none 0 0)
  f : wr.frozen? ⟨bq, 1, none⟩ = false
  row : wr.ownsRow W.heap.size 60 2 v l.length (prC l)
  k : Keep (fun g => g = bq) W wr
  lt : bq < W.heap.size
theorem QL.later {W wr wq : World} {bq : Nat} {l : List Sy.Pa} {v : Value} (h : QL W bq l v wr) (b : Below wr.heap.size wr wq) : QL W bq l v wq := by
  have hl := Nat.lt_of_lt_of_le h.lt h.k.size
  exact ⟨(b.cell hl).trans h.c0, (b.cell hl).trans h.c1, (b.cell hl).trans h.c2, (b.cell hl).trans h.c3, (b.frozen hl).trans h.f, own_later h.row b, h.k.trans (Keep.of_below b (Nat.le_refl _)), h.lt⟩
theorem QL.step {W wr w2 : World} {bq : Nat} {l : List Sy.Pa} {v v2 : Value} {nm : List UInt8} (h : QL W bq l v wr) (h2 : w2.ownsRow W.heap.size 60 2 v2 (l.length + 1) (prC l ++ [.string ⟨nm.toArray⟩, .int .i64 1])) (g2 : wr.grownBy w2 v.ownBlock) : QL W bq (l ++ [⟨nm, 1⟩]) v2 (w2.setCell ⟨bq, 1, none⟩ v2) := by
  have hl := Nat.lt_of_lt_of_le h.lt h.k.size
  have ne : ¬ v.ownBlock = some bq := fun e => by have := (World.ownsRow.lt h.row _ e).1; have := h.lt; omega
  have ne2 : ¬ v2.ownBlock = some bq := fun e => by have := (World.ownsRow.lt h2 _ e).1; have := h.lt; omega
  have kp : w2.heap[bq]? = wr.heap[bq]? := g2.block bq hl (fun e => ne e.symm)
  have hz := h.k.size
  have K2 : Keep (fun g => g = bq) W w2 := ⟨g2.os.trans h.k.os, g2.tape.trans h.k.tape, g2.output.trans h.k.output, Nat.le_trans h.k.size g2.size, fun g hg hn => (g2.block g (by omega) (fun e => by have := (World.ownsRow.lt h.row _ e.symm).1; omega)).trans (h.k.block g hg hn)⟩
  refine ⟨?_, World.cell?_setCell_same _ _ _ ((World.cell?_of_block (w := wr) (a := ⟨bq, 1, none⟩) kp).trans h.c1), ?_, ?_, by rw [World.frozen?_setCell]; exact (World.frozen?_of_block (w := wr) (a := ⟨bq, 1, none⟩) kp).trans h.f, ?_, K2.set (a := ⟨bq, 1, none⟩) (.inr rfl) _, h.lt⟩
  · rw [World.cell?_setCell_other _ _ _ _ (by simp)]; exact (World.cell?_of_block (w := wr) (a := ⟨bq, 0, none⟩) kp).trans h.c0
  · rw [World.cell?_setCell_other _ _ _ _ (by simp)]; exact (World.cell?_of_block (w := wr) (a := ⟨bq, 2, none⟩) kp).trans h.c2
  · rw [World.cell?_setCell_other _ _ _ _ (by simp)]; exact (World.cell?_of_block (w := wr) (a := ⟨bq, 3, none⟩) kp).trans h.c3
  · rw [List.length_append, prC_app]
    exact ownsRow_setCell_other h2 ne2 _
theorem cnPs_step (j : Nat) : ((List.range (j + 1)).map fun i => (⟨cnNm i, 1⟩ : Sy.Pa)) = ((List.range j).map fun i => (⟨cnNm i, 1⟩ : Sy.Pa)) ++ [⟨cnNm j, 1⟩] := by simp [List.range_succ]
/-- The program of two procedures, behind the append. -/
theorem QL.pcs {w W wr w8 : World} {bq g0 bp : Nat} {l : List Sy.Pa} {v v8 : Value} (h : QL W bq l v wr) (hgW : g0 < W.heap.size) (hbW : bp < W.heap.size) (nbg : ¬ bp = g0) {WA : World} (bA : Below wr.heap.size wr WA)
    (h8 : w8.ownsRow w.heap.size 25 4 v8 2 [.string ⟨#[109, 97, 105, 110]⟩, .slice none 0 0, .int .i64 0, .slice none 0 0, .string ⟨#[102]⟩, v, .int .i64 0, .slice none 0 0]) (g8 : WA.grownBy w8 (some g0)) (o8 : v8.ownBlock = some g0 ∨ ∃ g, v8.ownBlock = some g ∧ WA.heap.size ≤ g) : ∃ a c, v8 = .slice a 2 c ∧ PcS (fun _ => True) (w8.setCell ⟨bp, 0, none⟩ v8) (.slice a 2 c) [cnMain, ⟨[102], l, 0, []⟩] := by
  have hz := h.k.size
  have hzA := bA.size
  have ne8 : ¬ v8.ownBlock = some bp := by
    rcases o8 with e | ⟨g, e, hg⟩
    · rw [e]; intro e2; cases e2; exact nbg rfl
    · rw [e]; intro e2; cases e2; omega
  have h9 := ownsRow_setCell_other (a := ⟨bp, 0, none⟩) h8 ne8 v8
  have hc := @World.ownsRow.cells _ _ _ _ _ _ _ h9
  have hlt := World.ownsRow.lt h9
  obtain ⟨va, vc, hv⟩ := own_shape h.row
  rcases h8.2 with ⟨_, e0⟩ | ⟨g, cap, cur, rfl, _, _, _⟩
  · omega
  have key : ∀ (c : Nat) (u : Value), ([.string ⟨#[109, 97, 105, 110]⟩, .slice none 0 0, .int .i64 0, .slice none 0 0, .string ⟨#[102]⟩, v, .int .i64 0, .slice none 0 0] : List Value)[c]? = some u → (w8.setCell ⟨bp, 0, none⟩ (.slice (some ⟨g, 0, none⟩) 2 cap)).cell? ⟨g, c, none⟩ = some u := by
    intro c u hu
    have := @hc g rfl c u hu
    have e : (⟨g, 0, none⟩ : Addr).add c = ⟨g, c, none⟩ := by unfold Addr.add; split <;> simp_all
    rw [e] at this
    exact this
  have hpa : PaS (fun _ => True) (w8.setCell ⟨bp, 0, none⟩ (.slice (some ⟨g, 0, none⟩) 2 cap)) (.slice va l.length vc) l := by
    refine ⟨va, vc, rfl, fun h0 => ?_⟩
    have hcr := @World.ownsRow.cells _ _ _ _ _ _ _ h.row
    have hlr := World.ownsRow.lt h.row
    rcases h.row.2 with ⟨_, e0⟩ | ⟨gp, cp, curp, hvp, hbp', _, _⟩
    · omega
    rw [hv] at hvp
    cases hvp
    have l2 := (hlr gp (by rw [hv]; rfl)).2
    have kk : (w8.setCell ⟨bp, 0, none⟩ (.slice (some ⟨g, 0, none⟩) 2 cap)).heap[gp]? = wr.heap[gp]? := (heap_setCell_other w8 _ gp _ (by simp only; omega)).trans ((g8.block gp (by omega) (fun e => by cases e; omega)).trans (bA.block gp l2))
    refine ⟨gp, 0, rfl, trivial, by have := g8.size; simp; omega, fun j hj => ?_⟩
    obtain ⟨x, hx⟩ : ∃ x, l[j]? = some x := ⟨_, List.getElem?_eq_getElem hj⟩
    obtain ⟨a0, a1⟩ := prC_at l j x hx
    have ky : ∀ (c : Nat) (u : Value), (prC l)[c]? = some u → (w8.setCell ⟨bp, 0, none⟩ (.slice (some ⟨g, 0, none⟩) 2 cap)).cell? ⟨gp, 0 + c, none⟩ = some u := by
      intro c u hu
      have := @hcr gp (by rw [hv]; rfl) c u hu
      have e : (⟨gp, 0, none⟩ : Addr).add c = ⟨gp, 0 + c, none⟩ := by unfold Addr.add; split <;> simp_all
      rw [e] at this
      exact (World.cell?_of_block (w := wr) (a := ⟨gp, 0 + c, none⟩) kk).trans this
    exact ⟨x, hx, ky _ _ a0, ky _ _ a1⟩
  refine ⟨some ⟨g, 0, none⟩, cap, rfl, _, _, rfl, fun _ => ⟨g, 0, rfl, trivial, (hlt g rfl).2, fun j hj => ?_⟩⟩
  subst hv
  match j, hj with
  | 0, _ => exact ⟨cnMain, none, 0, none, 0, rfl, ⟨key 0 _ rfl, key 1 _ rfl, key 2 _ rfl, key 3 _ rfl, ⟨none, 0, rfl, fun h => by simp [cnMain] at h⟩, .nil _ _⟩⟩
  | 1, _ => exact ⟨⟨[102], l, 0, []⟩, va, vc, none, 0, rfl, ⟨key 4 _ rfl, key 5 _ rfl, key 6 _ rfl, key 7 _ rfl, hpa, .nil _ _⟩⟩
  | j + 2, hj => exact absurd hj (by simp)
set_option maxRecDepth 100000 in
set_option maxHeartbeats 4000000 in
theorem cnCase1 (n what : Int) (r : Nat) (hr : r < 70) (ea : ∀ w, Calls Try.prog 17 #[.int .i64 n, .int .i64 70] w fun e w' => e = .returned (.int .i64 (r : Int)) ∧ w' = w) (eb : ∀ w, Calls Try.prog 17 #[.int .i64 what, .int .i64 4] w fun e w' => e = .returned (.int .i64 1) ∧ w' = w) (w : World) :
    Calls Try.prog 6 #[.int .i64 n, .int .i64 what] w fun e w' => e = .returned (.bool true) ∧ Below w.heap.size w w' := by
  have EA : Hid (∀ w, Calls Try.prog 17 #[.int .i64 n, .int .i64 70] w fun e w' => e = .returned (.int .i64 (r : Int)) ∧ w' = w) := ea
  have EB : Hid (∀ w, Calls Try.prog 17 #[.int .i64 what, .int .i64 4] w fun e w' => e = .returned (.int .i64 1) ∧ w' = w) := eb
  clear ea eb
  go_enter Try.func6, Try.ntmps6
  go_wp2_with fail
  refine Calls.mono (EA.out _) ?_
  rintro e1 w1 ⟨rfl, hw1⟩
  rw [hw1]
  clear hw1 w1
  go_wp2_with fail
  refine Calls.mono (EB.out _) ?_
  rintro e2 w2 ⟨rfl, hw2⟩
  obtain ⟨g0, hg0⟩ : ∃ g0, g0 = w.heap.size := ⟨_, rfl⟩
  obtain ⟨bp, hbp⟩ : ∃ bp, bp = w.heap.size + 1 := ⟨_, rfl⟩
  rw [← hbp, ← hg0]
  have zg : w2.heap.size = g0 + 1 + 1 := by rw [hw2, hg0]; simp
  have BW : Hid (Below w.heap.size w w2) := by rw [hw2]; exact (box_below w _).trans ((box_below _ _).mono (by simp))
  have cb : w2.cell? ⟨bp, 0, none⟩ = some (.slice (some ⟨g0, 0, none⟩) 1 1) := by rw [hw2, hbp, hg0]; simp [go_sem]
  have fb : w2.frozen? ⟨bp, 0, none⟩ = false := by rw [hw2, hbp]; simp [go_sem]
  have hG : w2.heap[g0]? = some (.cells #[.string ⟨#[109, 97, 105, 110]⟩, .slice none 0 0, .int .i64 0, .slice none 0 0] 25 (0, 0)) := by
    rw [hw2, hg0]
    exact ((box_below (w.alloc (.cells #[.string ⟨#[109, 97, 105, 110]⟩, .slice none 0 0, .int .i64 0, .slice none 0 0] 25)) _).block w.heap.size (by simp)).trans (alloc_last w _)
  have m0 : w2.cell? ⟨g0, 0, none⟩ = some (.string ⟨#[109, 97, 105, 110]⟩) := by simp [World.cell?, hG]
  have m1 : w2.cell? ⟨g0, 1, none⟩ = some (.slice none 0 0) := by simp [World.cell?, hG]
  have m2 : w2.cell? ⟨g0, 2, none⟩ = some (.int .i64 0) := by simp [World.cell?, hG]
  have m3 : w2.cell? ⟨g0, 3, none⟩ = some (.slice none 0 0) := by simp [World.cell?, hG]
  have fg : w2.frozen? ⟨g0, 3, none⟩ = false := by simp [World.frozen?, hG]
  have hbg : bp = g0 + 1 := by rw [hbp, hg0]
  have HBG : Hid (bp = g0 + 1 ∧ w2.heap.size = g0 + 2 ∧ g0 = w.heap.size) := ⟨hbg, by omega, hg0⟩
  have HG : Hid (w2.heap[g0]? = some (.cells #[.string ⟨#[109, 97, 105, 110]⟩, .slice none 0 0, .int .i64 0, .slice none 0 0] 25 (0, 0))) := hG
  have nbg : ¬ bp = g0 := by omega
  have nbz : ¬ bp = w2.heap.size := by omega
  have ngz : ¬ g0 = w2.heap.size := by omega
  have lbz : bp < w2.heap.size := by omega
  have lgz : g0 < w2.heap.size := by omega
  clear hw2 hg0 hbp zg hG hbg
  obtain ⟨i0, hi, hz0, hz1, hz2⟩ := info_parts infoPrm
  obtain ⟨j0, hj, hy0, hy1, hy2⟩ := info_parts infoPc
  have R0 : Hid (w2.ownsRow w.heap.size 25 4 (.slice (some ⟨g0, 0, none⟩) 1 1) 1 [.string ⟨#[109, 97, 105, 110]⟩, .slice none 0 0, .int .i64 0, .slice none 0 0]) := by
    have h1 := HBG.out
    exact ⟨rfl, .inr ⟨g0, 1, _, rfl, by omega, HG.out, Nat.le_refl _, by unfold maxLen; omega, rfl, rfl⟩⟩
  obtain ⟨bq, hbq⟩ : ∃ bq, bq = w2.heap.size := ⟨_, rfl⟩
  obtain ⟨W3, hW3⟩ : ∃ W3, W3 = w2.alloc (.cells #[.string ⟨#[102]⟩, .slice none 0 0, .int .i64 0, .slice none 0 0] 25) := ⟨_, rfl⟩
  have b3 : Below w2.heap.size w2 W3 := by rw [hW3]; exact box_below w2 _
  have zq : bq < W3.heap.size := by rw [hW3, hbq]; simp
  have Q0 : Hid (QL W3 bq [] (.slice none 0 0) W3) := by
    rw [hW3, hbq]
    exact ⟨by simp [go_sem], by simp [go_sem], by simp [go_sem], by simp [go_sem], by simp [go_sem], World.ownsRow_nil _ _ _ _, Keep.refl _ _, by simp⟩
  have cb3 := (b3.cell (p := ⟨bp, 0, none⟩) lbz).trans cb
  have fb3 := (b3.frozen (p := ⟨bp, 0, none⟩) lbz).trans fb
  have R3 : Hid (W3.ownsRow w.heap.size 25 4 (.slice (some ⟨g0, 0, none⟩) 1 1) 1 [.string ⟨#[109, 97, 105, 110]⟩, .slice none 0 0, .int .i64 0, .slice none 0 0]) := own_later R0.out b3
  have B3 : Hid (Below w.heap.size w W3) := BW.out.trans (b3.mono BW.out.size)
  have LT : Hid (g0 < W3.heap.size ∧ bp < W3.heap.size ∧ ¬ bp = bq ∧ ¬ g0 = bq ∧ ¬ bp = g0 ∧ w.heap.size ≤ g0 ∧ w.heap.size ≤ bp ∧ w.heap.size ≤ bq) := by
    have h1 := HBG.out
    have h2 := b3.size
    exact ⟨by omega, by omega, by omega, by omega, by omega, by omega, by omega, by omega⟩
  go_upto_region 16 with fail
  rw [← hW3, ← hbq]
  clear hW3 hbq b3 R0 cb fb m0 m1 m2 m3 fg HG nbz ngz
  go_wp2_with fail
  go_loopw [9] (fun i wr => ∃ (j : Nat) (v : Value), j ≤ r ∧ i = .int .i64 j ∧ Hid (QL W3 bq ((List.range j).map fun i => (⟨cnNm i, 1⟩ : Sy.Pa)) v wr)) (fun i _ => r - (intOf i).toNat)
  case atStart => exact ⟨0, _, by omega, rfl, Q0⟩
  case round =>
    obtain ⟨j, v, hj1, rfl, P⟩ := hrel
    by_cases hlt : j < r
    · have hji : (j : Int) < (r : Int) := by omega
      have EN : Hid (∀ W, Calls Try.prog 19 #[.int .i64 (j : Int)] W fun e w' => e = .returned (.string ⟨(cnNm j).toArray⟩) ∧ Below W.heap.size W w') := fun W => cnName_any j (by omega) W
      have ES : Hid (((List.range (j + 1)).map fun i => (⟨cnNm i, 1⟩ : Sy.Pa)) = ((List.range j).map fun i => (⟨cnNm i, 1⟩ : Sy.Pa)) ++ [⟨cnNm j, 1⟩]) := cnPs_step j
      have LL0 : ((List.range j).map fun i => (⟨cnNm i, 1⟩ : Sy.Pa)).length ≤ 71 := by simp; omega
      obtain ⟨l, hl⟩ : ∃ l, l = (List.range j).map fun i => (⟨cnNm i, 1⟩ : Sy.Pa) := ⟨_, rfl⟩
      rw [← hl] at P ES LL0
      have LL : Hid (l.length ≤ 71) := LL0
      obtain ⟨a, c, hv⟩ := own_shape P.out.row
      subst hv
      have c0 := P.out.c1
      have hbz : bq < wr.heap.size := Nat.lt_of_lt_of_le zq P.out.k.size
      clear hl LL0
      go_upto_region 19 with fail
      go_region_law (first
          | (go_simp; go_at_call 19; refine Calls.mono (EN.out _) ?_; rintro e7 w7 ⟨rfl, b7⟩; have b8 : Below wr.heap.size wr w7 := Below.trans (by go_grown) (b7.mono (by go_size)); have P7 : Hid (QL W3 bq l (.slice a l.length c) w7) := P.out.later b8; have a0 := P7.out.c1; have af := P7.out.f; have hp7 : bq < w7.heap.size := Nat.lt_of_lt_of_le hbz b8.size; have np7 : ¬ bq = w7.heap.size := Nat.ne_of_lt hp7; clear b7 b8; dsimp only)
          | (rw [if_pos (by rfl)]; refine wp_append_told _ _ 22 rfl W3.heap.size 60 i0 (.agg #[.string ⟨#[]⟩, .int .i64 0]) 2 24 Try.underlying22 hi hz0 hz1 hz2 rfl (by decide) _ _ _ rfl (own_later P7.out.row (by go_grown)) ⟨w7.heap.size, 0, none⟩ 1 1 [.string ⟨(cnNm j).toArray⟩, .int .i64 1] rfl rfl (cells_2 _ _ _ _) (by intro y hy; simp only [List.mem_cons, List.not_mem_nil, or_false] at hy; rcases hy with rfl | rfl <;> rfl) (by have := LL.out; unfold maxLen; omega) (by have := LL.out; omega) (by have := P7.out.k.size; simp; omega) (by decide) ?_; intro v8 w8 h8 g8 o8; have kp := g8.block bq (by simp; omega) (fun e => by have := (World.ownsRow.lt P7.out.row _ e.symm).1; omega); have q8 : w8.cell? ⟨bq, 1, none⟩ = some (.slice a l.length c) := (World.cell?_of_block kp).trans (by simp [go_sem, a0, hp7]); have r8 : w8.frozen? ⟨bq, 1, none⟩ = false := (World.frozen?_of_block kp).trans (by simp [go_sem, af, hp7]); obtain ⟨va8, cap8, hv8⟩ := own_shape h8; subst hv8))
      all_goals
        have M8 := QL.step (P7.out.later (by go_grown)) h8 g8
        rw [← ES.out] at M8
        have MM : Hid (QL W3 bq ((List.range (j + 1)).map fun i => (⟨cnNm i, 1⟩ : Sy.Pa)) (.slice va8 (l.length + 1) cap8) (w8.setCell ⟨bq, 1, none⟩ (.slice va8 (l.length + 1) cap8))) := M8
        clear M8 h8 g8 o8 kp q8 r8 ES EN P P7
        go_wp2_with fail
        go_roundw
        case rel => exact ⟨j + 1, _, by omega, by go_num, MM⟩
        case measure => simp [intOf]; omega
    · obtain rfl : j = r := by omega
      obtain ⟨l, hl⟩ : ∃ l, l = (List.range j).map fun i => (⟨cnNm i, 1⟩ : Sy.Pa) := ⟨_, rfl⟩
      rw [← hl] at P
      have EF : Hid (cnF1 j = [cnMain, ⟨[102], l, 0, []⟩]) := by unfold cnF1; rw [hl]; rfl
      obtain ⟨a, c, hv⟩ := own_shape P.out.row
      subst hv
      have q0 := P.out.c0
      have q1 := P.out.c1
      have q2 := P.out.c2
      have q3 := P.out.c3
      have cb4 := (P.out.k.cell (q := ⟨bp, 0, none⟩) LT.out.2.1 LT.out.2.2.1).trans cb3
      have fb4 := (P.out.k.frozen (q := ⟨bp, 0, none⟩) LT.out.2.1 LT.out.2.2.1).trans fb3
      have hbz : bp < wr.heap.size := Nat.lt_of_lt_of_le LT.out.2.1 P.out.k.size
      have hbn : ¬ bp = wr.heap.size := Nat.ne_of_lt hbz
      have R4 : Hid (wr.ownsRow w.heap.size 25 4 (.slice (some ⟨g0, 0, none⟩) 1 1) 1 [.string ⟨#[109, 97, 105, 110]⟩, .slice none 0 0, .int .i64 0, .slice none 0 0]) := by
        rcases R3.out.2 with ⟨e0, _⟩ | ⟨g, cap, cur, e1, hb, hh, hrest⟩
        · cases e0
        · cases e1
          refine ⟨rfl, .inr ⟨g0, 1, cur, rfl, hb, ?_, hrest⟩⟩
          rw [P.out.k.block g0 LT.out.1 LT.out.2.2.2.1]
          exact hh
      have B4 : Hid (Below w.heap.size w wr) := B3.out.trans ⟨P.out.k.os, P.out.k.tape, P.out.k.output, P.out.k.size, fun g hg => P.out.k.block g (by have := B3.out.size; omega) (fun e => by have h1 := HBG.out; have h2 := LT.out; have h3 := BW.out.size; omega)⟩
      have hzz : w.heap.size ≤ wr.heap.size := B4.out.size
      clear hl cb3 fb3
      go_upto_region 20 with fail
      go_wp2_with (at_builtin; refine wpList_append_told rfl _ _ 27 rfl w.heap.size 25 j0 (.agg #[.string ⟨#[]⟩, .slice none 0 0, .int .i64 0, .slice none 0 0]) 4 72 Try.underlying27 hj hy0 hy1 hy2 rfl (by decide) _ _ _ rfl (own_later R4.out (box_below wr _)) ⟨wr.heap.size, 0, none⟩ 1 1 [.string ⟨#[102]⟩, .slice a l.length c, .int .i64 0, .slice none 0 0] rfl rfl (four_cells _ _ _ _ _ _) (by intro y hy; simp only [List.mem_cons, List.not_mem_nil, or_false] at hy; rcases hy with rfl | rfl | rfl | rfl <;> rfl) (by decide) (by decide) (by simp; omega) (by decide) ?_)
      intro v8 w8 h8 g8 o8
      obtain ⟨a8, c8, hv8, hps⟩ := QL.pcs (w := w) (bp := bp) (g0 := g0) P.out LT.out.1 LT.out.2.1 LT.out.2.2.2.2.1 (box_below wr _) h8 g8 (o8.imp id fun ⟨g, h, h3⟩ => ⟨g, h, by simpa using h3⟩)
      have kp := g8.block bp (by simp; omega) (fun e => LT.out.2.2.2.2.1 (by simpa [Value.ownBlock] using e))
      have u8 : w8.cell? ⟨bp, 0, none⟩ = some (.slice (some ⟨g0, 0, none⟩) 1 1) := (World.cell?_of_block kp).trans (by simp [go_sem, cb4, hbz])
      have r8 : w8.frozen? ⟨bp, 0, none⟩ = false := (World.frozen?_of_block kp).trans (by simp [go_sem, fb4, hbz])
      have BB : Hid (Below w.heap.size w (w8.setCell ⟨bp, 0, none⟩ v8)) := by
        refine Below.setCell ?_ (by simp only; exact LT.out.2.2.2.2.2.2.1) _
        exact B4.out.trans ⟨g8.os, g8.tape, g8.output, by have := g8.size; simp at this; omega, fun k hk => (g8.block k (by simp; omega) (fun e => absurd (by simpa [Value.ownBlock] using e : k = g0) (by have h1 := LT.out; omega))).trans ((box_below wr _).block k (by omega))⟩
      subst hv8
      have PP : Hid (PcS (fun _ => True) (w8.setCell ⟨bp, 0, none⟩ (.slice a8 2 c8)) (.slice a8 (cnF1 j).length c8) (cnF1 j)) := by rw [EF.out]; exact hps
      clear h8 g8 o8 kp hps P R4 R3 B4 q0 q1 q2 q3 cb4 fb4
      go_upto_region 29 with fail
      obtain ⟨W9, hW9⟩ : ∃ W9, W9 = w8.setCell ⟨bp, 0, none⟩ (.slice a8 2 c8) := ⟨_, rfl⟩
      have c9 : W9.cell? ⟨bp, 0, none⟩ = some (.slice a8 2 c8) := by rw [hW9]; exact World.cell?_setCell_same _ _ _ u8
      rw [← hW9] at PP BB ⊢
      clear hW9 u8 r8
      have hck := cn_of1 j hr
      have h0 : ¬ (ckPg (cnF1 j)).1 = some 0 := by rw [hck]; unfold cnOk; split <;> simp
      have ECk : Hid _ := ckCheck_any (fun _ => True) a8 c8 (cnF1 j) W9 PP.out (cn_ln1 j hr) (cn_bd1 j hr) _ rfl h0
      have HCK : Hid ((ckPg (cnF1 j)).1 = cnOk j 8) := hck
      clear hck h0 PP
      go_wp2_with fail
      refine Calls.mono ECk.out ?_
      rintro e8 w8 (⟨er, h8, rfl, b8⟩ | ⟨h8, p8, iv, im, vvs, hp8, rfl, I8, b8⟩)
      · rw [HCK.out] at h8
        unfold cnOk at h8
        by_cases hk : j ≤ 8
        · rw [if_pos hk] at h8; cases h8
        rw [if_neg hk] at h8
        cases h8
        have dk : decide ((j : Int) ≤ 8) = false := decide_eq_false (by omega)
        have B8 : Hid (Below w.heap.size w w8) := BB.out.trans (b8.mono BB.out.size)
        clear b8 ECk HCK hk
        go_wp2_with fail
        refine Calls.mono (known4 _) ?_
        rintro e9 w9 ⟨rfl, b9⟩
        have B9 : Hid (Below w.heap.size w w9) := B8.out.trans ((((box_below w8 _).trans ((box_below _ _).mono (by simp))).trans (b9.mono (by simp; omega))).mono B8.out.size)
        clear b9
        go_wp2_with fail
        go_ret
        exact ⟨rfl, B9.out⟩
      · rw [HCK.out] at h8
        unfold cnOk at h8
        by_cases hk : j ≤ 8
        case neg => rw [if_neg hk] at h8; cases h8
        obtain ⟨va1, vc1, hiv⟩ := own_shape I8.rv
        obtain ⟨va2, vc2, him⟩ := own_shape I8.rm
        subst hiv him
        have dk : decide ((j : Int) ≤ 8) = true := decide_eq_true (by omega)
        have B8 : Hid (Below w.heap.size w w8) := BB.out.trans (b8.mono BB.out.size)
        clear b8 ECk HCK hk h8 I8 hp8
        go_wp2_with fail
        refine Calls.mono (known4 _) ?_
        rintro e9 w9 ⟨rfl, b9⟩
        have B9 : Hid (Below w.heap.size w w9) := B8.out.trans ((((box_below w8 _).trans ((box_below _ _).mono (by simp))).trans (b9.mono (by simp; omega))).mono B8.out.size)
        clear b9
        go_wp2_with fail
        go_ret
        exact ⟨rfl, B9.out⟩
end Go.Proofs.Ytoclmklfohimmaa
