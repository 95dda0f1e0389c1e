/- Layer 4: CheckCounts: procedures. -/
import Derived.Test.YtoclmklfohimmaaZCkCb
namespace Go.Proofs.Ytoclmklfohimmaa
open Go.RowKit

def zpC : List Sy.Pc → List Value
  | [] => []
  | x :: r => .string ⟨x.name.toArray⟩ :: .slice none 0 0 :: .int .i64 0 :: .slice none 0 0 :: zpC r
theorem zpC_len : ∀ (l : List Sy.Pc), (zpC l).length = l.length * 4
  | [] => rfl
  | x :: r => by simp only [zpC, List.length_cons, zpC_len r]; omega
theorem zpC_app : ∀ (a b : List Sy.Pc), zpC (a ++ b) = zpC a ++ zpC b
  | [], b => rfl
  | x :: r, b => by simp [zpC, zpC_app r b]
theorem zpC_at : ∀ (l : List Sy.Pc) (j : Nat) (x : Sy.Pc), l[j]? = some x → (zpC l)[j * 4]? = some (.string ⟨x.name.toArray⟩) ∧ (zpC l)[j * 4 + 1]? = some (.slice none 0 0) ∧ (zpC l)[j * 4 + 2]? = some (.int .i64 0) ∧ (zpC l)[j * 4 + 3]? = some (.slice none 0 0)
  | [], j, x, h => by simp at h
  | y :: r, 0, x, h => by simp at h; subst h; simp [zpC]
  | y :: r, j + 1, x, h => by
    have := zpC_at r j x (by simpa using h)
    have e : (j + 1) * 4 = j * 4 + 4 := by omega
    rw [e]
    simpa [zpC] using this
/-- Procedures without parts, in a row, and the program's box. -/
structure PL (w : World) (bp : Nat) (l : List Sy.Pc) (v : Value) (wr : World) : Prop where
  c : wr.cell? ⟨bp, 0, none⟩ = some v
  f : wr.frozen? ⟨bp, 0, none⟩ = false
  row : wr.ownsRow w.heap.size 25 4 v l.length (zpC l)
  b : Below w.heap.size w wr
  lt : bp < wr.heap.size
  ge : w.heap.size ≤ bp
  ne : ¬ v.ownBlock = some bp
theorem PL.later {w wr wq : World} {bp : Nat} {l : List Sy.Pc} {v : Value} (h : PL w bp l v wr) (b : Below wr.heap.size wr wq) : PL w bp l v wq :=
  ⟨(b.cell h.lt).trans h.c, (b.frozen h.lt).trans h.f, own_later h.row b, h.b.trans (b.mono h.b.size), Nat.lt_of_lt_of_le h.lt b.size, h.ge, h.ne⟩
theorem PL.step {w wr w2 : World} {bp : Nat} {l : List Sy.Pc} {v v2 : Value} {nm : List UInt8} (h : PL w bp l v wr) (h2 : w2.ownsRow w.heap.size 25 4 v2 (l.length + 1) (zpC l ++ [.string ⟨nm.toArray⟩, .slice none 0 0, .int .i64 0, .slice none 0 0])) (g2 : wr.grownBy w2 v.ownBlock) (o2 : v2.ownBlock = v.ownBlock ∨ ∃ g, v2.ownBlock = some g ∧ wr.heap.size ≤ g) : PL w bp (l ++ [⟨nm, [], 0, []⟩]) v2 (w2.setCell ⟨bp, 0, none⟩ v2) := by
  have kp : w2.heap[bp]? = wr.heap[bp]? := g2.block bp h.lt (fun e => h.ne e.symm)
  have ne2 : ¬ v2.ownBlock = some bp := by
    rcases o2 with e | ⟨g, e, hg⟩
    · rw [e]; exact h.ne
    · rw [e]; intro e2; cases e2; have := h.lt; omega
  have hz := h.b.size
  refine ⟨World.cell?_setCell_same _ _ _ ((World.cell?_of_block (w := wr) (a := ⟨bp, 0, none⟩) kp).trans h.c), by rw [World.frozen?_setCell]; exact (World.frozen?_of_block (w := wr) (a := ⟨bp, 0, none⟩) kp).trans h.f, ?_, ?_, by have := h.lt; have := g2.size; simp; omega, h.ge, ne2⟩
  · rw [List.length_append, zpC_app]
    exact ownsRow_setCell_other h2 ne2 _
  · refine Below.setCell ?_ h.ge _
    exact h.b.trans ⟨g2.os, g2.tape, g2.output, g2.size, fun k hk => g2.block k (by omega) (fun e => by have := (World.ownsRow.lt h.row _ e.symm).1; omega)⟩
theorem PL.pcs {w wr : World} {bp : Nat} {l : List Sy.Pc} {v : Value} (h : PL w bp l v wr) (hl : ∀ x, x ∈ l → x = ⟨x.name, [], 0, []⟩) : ∃ a c, v = .slice a l.length c ∧ PcS (fun _ => True) wr (.slice a l.length c) l := by
  have hc := @World.ownsRow.cells _ _ _ _ _ _ _ h.row
  have hlt := World.ownsRow.lt h.row
  rcases h.row.2 with ⟨rfl, h0⟩ | ⟨g, cap, cur, rfl, hb, hh, hnc, _⟩
  · exact ⟨none, 0, by rw [h0], none, 0, rfl, fun h1 => absurd h1 (by omega)⟩
  · refine ⟨some ⟨g, 0, none⟩, cap, rfl, _, _, rfl, fun _ => ⟨g, 0, rfl, trivial, (hlt g rfl).2, fun j hj => ?_⟩⟩
    have key : ∀ (c : Nat) (u : Value), (zpC l)[c]? = some u → wr.cell? ⟨g, 0 + c, none⟩ = some u := by
      intro c u hu
      have := @hc g rfl c u hu
      have e : (⟨g, 0, none⟩ : Addr).add c = ⟨g, 0 + c, none⟩ := by unfold Addr.add; split <;> simp_all
      rw [e] at this
      exact this
    obtain ⟨x, hx⟩ : ∃ x, l[j]? = some x := ⟨_, List.getElem?_eq_getElem hj⟩
    have ex := hl x (List.mem_of_getElem? hx)
    obtain ⟨a0, a1, a2, a3⟩ := zpC_at l j x hx
    refine ⟨x, none, 0, none, 0, hx, ?_⟩
    rw [ex]
    exact ⟨key _ _ a0, key _ _ a1, key _ _ a2, key _ _ a3, ⟨none, 0, rfl, fun h => by simp at h⟩, .nil _ _⟩
theorem cnF0_step (j : Nat) (h : 1 ≤ j) : cnF0 (j + 1) = cnF0 j ++ [⟨cnNm j, [], 0, []⟩] := by
  obtain ⟨i, rfl⟩ : ∃ i, j = i + 1 := ⟨j - 1, by omega⟩
  simp [cnF0, List.range_succ]
theorem cnF0_all (n : Nat) : ∀ x, x ∈ cnF0 n → x = ⟨x.name, [], 0, []⟩ := by
  intro x hx
  rcases List.mem_cons.1 hx with rfl | hx
  · rfl
  · obtain ⟨i, _, rfl⟩ := List.mem_map.1 hx
    rfl
theorem cnF0_len (n : Nat) (h : n < 71) : (cnF0 n).length ≤ 71 := by simp [cnF0]; omega
set_option maxRecDepth 100000 in
set_option maxHeartbeats 4000000 in
theorem cnCase0 (n what : Int) (r : Nat) (hr : r < 70) (ea : ∀ w, Calls Try.prog 17 #[.int .i64 n, .int .i64 70] w fun e w' => e = .returned (.int .i64 (r : Int)) ∧ w' = w) (eb : ∀ w, Calls Try.prog 17 #[.int .i64 what, .int .i64 4] w fun e w' => e = .returned (.int .i64 0) ∧ w' = w) (w : World) :
    Calls Try.prog 6 #[.int .i64 n, .int .i64 what] w fun e w' => e = .returned (.bool true) ∧ Below w.heap.size w w' := by
  have EA : Hid (∀ w, Calls Try.prog 17 #[.int .i64 n, .int .i64 70] w fun e w' => e = .returned (.int .i64 (r : Int)) ∧ w' = w) := ea
  have EB : Hid (∀ w, Calls Try.prog 17 #[.int .i64 what, .int .i64 4] w fun e w' => e = .returned (.int .i64 0) ∧ w' = w) := eb
  clear ea eb
  go_enter Try.func6, Try.ntmps6
  go_wp2_with fail
  refine Calls.mono (EA.out _) ?_
  rintro e1 w1 ⟨rfl, hw1⟩
  rw [hw1]
  clear hw1 w1
  go_wp2_with fail
  refine Calls.mono (EB.out _) ?_
  rintro e2 w2 ⟨rfl, hw2⟩
  obtain ⟨g0, hg0⟩ : ∃ g0, g0 = w.heap.size := ⟨_, rfl⟩
  obtain ⟨bp, hbp⟩ : ∃ bp, bp = w.heap.size + 1 := ⟨_, rfl⟩
  rw [← hbp, ← hg0]
  have zg : w2.heap.size = g0 + 1 + 1 := by rw [hw2, hg0]; simp
  have BW : Hid (Below w.heap.size w w2) := by rw [hw2]; exact (box_below w _).trans ((box_below _ _).mono (by simp))
  have cb : w2.cell? ⟨bp, 0, none⟩ = some (.slice (some ⟨g0, 0, none⟩) 1 1) := by rw [hw2, hbp, hg0]; simp [go_sem]
  have fb : w2.frozen? ⟨bp, 0, none⟩ = false := by rw [hw2, hbp]; simp [go_sem]
  have hG : w2.heap[g0]? = some (.cells #[.string ⟨#[109, 97, 105, 110]⟩, .slice none 0 0, .int .i64 0, .slice none 0 0] 25 (0, 0)) := by
    rw [hw2, hg0]
    exact ((box_below (w.alloc (.cells #[.string ⟨#[109, 97, 105, 110]⟩, .slice none 0 0, .int .i64 0, .slice none 0 0] 25)) _).block w.heap.size (by simp)).trans (alloc_last w _)
  have m0 : w2.cell? ⟨g0, 0, none⟩ = some (.string ⟨#[109, 97, 105, 110]⟩) := by simp [World.cell?, hG]
  have m1 : w2.cell? ⟨g0, 1, none⟩ = some (.slice none 0 0) := by simp [World.cell?, hG]
  have m2 : w2.cell? ⟨g0, 2, none⟩ = some (.int .i64 0) := by simp [World.cell?, hG]
  have m3 : w2.cell? ⟨g0, 3, none⟩ = some (.slice none 0 0) := by simp [World.cell?, hG]
  have fg : w2.frozen? ⟨g0, 3, none⟩ = false := by simp [World.frozen?, hG]
  have hbg : bp = g0 + 1 := by rw [hbp, hg0]
  have HBG : Hid (bp = g0 + 1 ∧ w2.heap.size = g0 + 2 ∧ g0 = w.heap.size) := ⟨hbg, by omega, hg0⟩
  have HG : Hid (w2.heap[g0]? = some (.cells #[.string ⟨#[109, 97, 105, 110]⟩, .slice none 0 0, .int .i64 0, .slice none 0 0] 25 (0, 0))) := hG
  have nbg : ¬ bp = g0 := by omega
  have nbz : ¬ bp = w2.heap.size := by omega
  have ngz : ¬ g0 = w2.heap.size := by omega
  have lbz : bp < w2.heap.size := by omega
  have lgz : g0 < w2.heap.size := by omega
  clear hw2 hg0 hbp zg hG hbg
  obtain ⟨i0, hi, hz0, hz1, hz2⟩ := info_parts infoPc
  have P0 : Hid (PL w bp (cnF0 1) (.slice (some ⟨g0, 0, none⟩) 1 1) w2) := by
    have h1 := HBG.out
    refine ⟨cb, fb, ⟨rfl, .inr ⟨g0, 1, _, rfl, by omega, HG.out, Nat.le_refl _, by unfold maxLen; omega, rfl, rfl⟩⟩, BW.out, lbz, by omega, fun e => nbg (by simpa [Value.ownBlock] using e.symm)⟩
  clear cb fb m0 m1 m2 m3 fg HG nbz ngz
  go_upto_region 9 with fail
  go_wp2_with fail
  go_loopw [7] (fun i wr => ∃ (j : Nat) (v : Value), 1 ≤ j ∧ (j ≤ r ∨ j = 1) ∧ i = .int .i64 j ∧ Hid (PL w bp (cnF0 j) v wr)) (fun i _ => r - (intOf i).toNat)
  case atStart => exact ⟨1, _, by omega, .inr rfl, rfl, P0⟩
  case round =>
    obtain ⟨j, v, hj1, hj2, rfl, P⟩ := hrel
    by_cases hlt : j < r
    · have hji : (j : Int) < (r : Int) := by omega
      have EN : Hid (∀ W, Calls Try.prog 19 #[.int .i64 (j : Int)] W fun e w' => e = .returned (.string ⟨(cnNm j).toArray⟩) ∧ Below W.heap.size W w') := fun W => cnName_any j (by omega) W
      have ES : Hid (cnF0 (j + 1) = cnF0 j ++ [⟨cnNm j, [], 0, []⟩]) := cnF0_step j hj1
      obtain ⟨l, hl⟩ : ∃ l, l = cnF0 j := ⟨_, rfl⟩
      have LL : Hid (l.length ≤ 71) := by rw [hl]; exact cnF0_len j (by omega)
      rw [← hl] at P ES
      obtain ⟨a, c, hv⟩ := own_shape P.out.row
      subst hv
      have c0 := P.out.c
      have hbz := P.out.lt
      clear hl
      go_upto_region 12 with fail
      go_region_law (first
          | (go_simp; go_at_call 19; refine Calls.mono (EN.out _) ?_; rintro e7 w7 ⟨rfl, b7⟩; have b8 : Below wr.heap.size wr w7 := Below.trans (by go_grown) (b7.mono (by go_size)); have P7 : Hid (PL w bp l (.slice a l.length c) w7) := P.out.later b8; have a0 := P7.out.c; have af := P7.out.f; have hp7 := P7.out.lt; have np7 : ¬ bp = w7.heap.size := Nat.ne_of_lt hp7; clear b7 b8; dsimp only)
          | (rw [if_pos (by rfl)]; refine wp_append_told _ _ 27 rfl w.heap.size 25 i0 (.agg #[.string ⟨#[]⟩, .slice none 0 0, .int .i64 0, .slice none 0 0]) 4 72 Try.underlying27 hi hz0 hz1 hz2 rfl (by decide) _ _ _ rfl (own_later P7.out.row (by go_grown)) ⟨w7.heap.size, 0, none⟩ 1 1 [.string ⟨(cnNm j).toArray⟩, .slice none 0 0, .int .i64 0, .slice none 0 0] rfl rfl (four_cells _ _ _ _ _ _) (by intro y hy; simp only [List.mem_cons, List.not_mem_nil, or_false] at hy; rcases hy with rfl | rfl | rfl | rfl <;> rfl) (by have := LL.out; unfold maxLen; omega) (by have := LL.out; omega) (by have := P7.out.b.size; simp; omega) (by decide) ?_; intro v8 w8 h8 g8 o8; have kp := g8.block bp (by simp; omega) (fun e => P7.out.ne e.symm); have q8 : w8.cell? ⟨bp, 0, none⟩ = some (.slice a l.length c) := (World.cell?_of_block kp).trans (by simp [go_sem, a0, hp7]); have r8 : w8.frozen? ⟨bp, 0, none⟩ = false := (World.frozen?_of_block kp).trans (by simp [go_sem, af, hp7]); obtain ⟨va8, cap8, hv8⟩ := own_shape h8; subst hv8))
      all_goals
        have M8 := PL.step (P7.out.later (by go_grown)) h8 g8 (o8.imp id fun ⟨g, h, h3⟩ => ⟨g, h, by simpa using h3⟩)
        rw [← ES.out] at M8
        have MM : Hid (PL w bp (cnF0 (j + 1)) (.slice va8 (l.length + 1) cap8) (w8.setCell ⟨bp, 0, none⟩ (.slice va8 (l.length + 1) cap8))) := M8
        clear M8 h8 g8 o8 kp q8 r8 ES EN P P7
        go_wp2_with fail
        go_roundw
        case rel => exact ⟨j + 1, _, by omega, .inl (by omega), by go_num, MM⟩
        case measure => simp [intOf]; omega
    · have ej : cnF0 j = cnF0 r := by
        rcases hj2 with h | h
        · have : j = r := by omega
          rw [this]
        · subst h
          have : r = 0 ∨ r = 1 := by omega
          rcases this with rfl | rfl <;> rfl
      have hji : (r : Int) ≤ (j : Int) := by omega
      obtain ⟨a, c, hv, hps⟩ := P.out.pcs (cnF0_all j)
      rw [ej] at hv hps
      subst hv
      have PP : Hid (PcS (fun _ => True) wr (.slice a (cnF0 r).length c) (cnF0 r)) := hps
      have BB : Hid (Below w.heap.size w wr) := P.out.b
      have c0 := P.out.c
      clear P hps ej hj2 hj1 hlt
      go_upto_region 29 with fail
      have hck := cn_of0 r hr
      have h0 : ¬ (ckPg (cnF0 r)).1 = some 0 := by rw [hck]; unfold cnOk; split <;> simp
      have ECk : Hid _ := ckCheck_any (fun _ => True) a c (cnF0 r) wr PP.out (cn_ln0 r hr) (cn_bd0 r hr) _ rfl h0
      have HCK : Hid ((ckPg (cnF0 r)).1 = cnOk r 40) := hck
      clear hck h0 PP
      go_wp2_with fail
      refine Calls.mono ECk.out ?_
      rintro e8 w8 (⟨er, h8, rfl, b8⟩ | ⟨h8, p8, iv, im, vvs, hp8, rfl, I8, b8⟩)
      · rw [HCK.out] at h8
        unfold cnOk at h8
        by_cases hk : r ≤ 40
        · rw [if_pos hk] at h8; cases h8
        rw [if_neg hk] at h8
        cases h8
        have dk : decide ((r : Int) ≤ 40) = false := decide_eq_false (by omega)
        have B8 : Hid (Below w.heap.size w w8) := BB.out.trans (b8.mono BB.out.size)
        clear b8 ECk HCK hk
        go_wp2_with fail
        refine Calls.mono (known4 _) ?_
        rintro e9 w9 ⟨rfl, b9⟩
        have B9 : Hid (Below w.heap.size w w9) := B8.out.trans ((((box_below w8 _).trans ((box_below _ _).mono (by simp))).trans (b9.mono (by simp; omega))).mono B8.out.size)
        clear b9
        go_wp2_with fail
        go_ret
        exact ⟨rfl, B9.out⟩
      · rw [HCK.out] at h8
        unfold cnOk at h8
        by_cases hk : r ≤ 40
        case neg => rw [if_neg hk] at h8; cases h8
        obtain ⟨va1, vc1, hiv⟩ := own_shape I8.rv
        obtain ⟨va2, vc2, him⟩ := own_shape I8.rm
        subst hiv him
        have dk : decide ((r : Int) ≤ 40) = true := decide_eq_true (by omega)
        have B8 : Hid (Below w.heap.size w w8) := BB.out.trans (b8.mono BB.out.size)
        clear b8 ECk HCK hk h8 I8 hp8
        go_wp2_with fail
        refine Calls.mono (known4 _) ?_
        rintro e9 w9 ⟨rfl, b9⟩
        have B9 : Hid (Below w.heap.size w w9) := B8.out.trans ((((box_below w8 _).trans ((box_below _ _).mono (by simp))).trans (b9.mono (by simp; omega))).mono B8.out.size)
        clear b9
        go_wp2_with fail
        go_ret
        exact ⟨rfl, B9.out⟩
end Go.Proofs.Ytoclmklfohimmaa
