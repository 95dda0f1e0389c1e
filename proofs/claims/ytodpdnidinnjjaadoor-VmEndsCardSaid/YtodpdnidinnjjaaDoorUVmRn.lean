/- Layer 9: the document's New: it answers as the program's. -/
import Derived.Test.YtodpdnidinnjjaaDoorUVmSl
import Derived.Test.YtodpdnidinnjjaaDoorUCdNf
namespace Go.Proofs.YtodpdnidinnjjaaDoor
open Go.RowKit
set_option linter.unusedVariables false
set_option linter.unusedSimpArgs false

theorem infoFm : (Tryd.prog.info? 64).map (fun i => (i.zero, i.size, i.bytes)) = some (some (.agg #[.int .i64 0, .int .i64 0, .int .i64 0, .slice none 0 0, .slice none 0 0]), 5, 72) := by kernel_rfl
theorem cells5 {W : World} {b : Nat} {v0 v1 v2 v3 v4 : Value} (h0 : W.cell? ⟨b, 0, none⟩ = some v0) (h1 : W.cell? ⟨b, 1, none⟩ = some v1) (h2 : W.cell? ⟨b, 2, none⟩ = some v2) (h3 : W.cell? ⟨b, 3, none⟩ = some v3) (h4 : W.cell? ⟨b, 4, none⟩ = some v4) : ∀ (j : Nat) u, [v0, v1, v2, v3, v4][j]? = some u → W.cell? ((⟨b, 0, none⟩ : Addr).add j) = some u := fun j u hj => by
  rw [adM, Nat.zero_add]
  match j, hj with
  | 0, hj => simp at hj; subst hj; exact h0
  | 1, hj => simp at hj; subst hj; exact h1
  | 2, hj => simp at hj; subst hj; exact h2
  | 3, hj => simp at hj; subst hj; exact h3
  | 4, hj => simp at hj; subst hj; exact h4
  | n + 5, hj => simp at hj
theorem grn_none {w w' : World} (g : w.grownBy w' none) : Below w.heap.size w w' := ⟨g.os, g.tape, g.output, g.size, fun k hk => g.block k hk (fun e => by cases e)⟩
set_option maxRecDepth 100000 in
set_option maxHeartbeats 8000000 in
theorem rOwn (w : World) (a : Option Addr) (c : Nat) (l : List Int) (h : NuS w.heap.size w a l) (hb : l.length ≤ 1000000) (hn : a = none → c = 0) : Calls Tryd.prog 52 #[.slice a l.length c] w fun e w' => ∃ a' c', e = .returned (.slice a' l.length c') ∧ NuW w.heap.size w'.heap.size w' a' l ∧ Below w.heap.size w w' := by
  obtain ⟨i0, hi, hz0, hz1, hz2⟩ := info_parts info64
  cases a with
  | none =>
    obtain rfl := hn rfl
    have hl0 : l = [] := by
      rcases Nat.eq_zero_or_pos l.length with h0 | h0
      · exact List.length_eq_zero_iff.1 h0
      · obtain ⟨g, o, e2, _⟩ := h h0
        cases e2
    subst hl0
    have hr : ∀ ty, (Builtin.append_ #[23, 23] ty #[.slice none 0 0, .slice none 0 0]).run Tryd.prog w = .ok (.slice none 0 0) w := fun ty => run_append_owned_none (P := Tryd.prog) w w.heap.size 23 ty 2 i0 1 Tryd.underlying23 hi (.slice none 0 0) 0 [] (World.ownsRow_nil _ _ _ _)
    have FIN : Hid (∃ a' c', Ending.returned (.slice none 0 0) = .returned (.slice a' ([] : List Int).length c') ∧ NuW w.heap.size w.heap.size w a' [] ∧ Below w.heap.size w w) := ⟨none, 0, rfl, fun h => by simp at h, Below.refl _ _⟩
    clear h hb hn
    go_enter Tryd.func52, Tryd.ntmps52
    go_wp2_with (at_builtin; refine Lib.wpList_append_run _ rfl _ _ _ _ rfl _ _ rfl rfl _ _ (hr _) ?_)
    go_ret
    first
      | exact FIN.out
      | simpa using FIN.out
  | some ad =>
    have HX : Hid (∀ j u, (nC l)[j]? = some u → w.cell? (ad.add j) = some u) := by
      rcases Nat.eq_zero_or_pos l.length with h0 | h0
      · have : l = [] := List.length_eq_zero_iff.1 h0
        subst this
        intro j u hu
        simp [nC] at hu
      · obtain ⟨g, o, e2, _, hc⟩ := h h0
        cases e2
        intro j u hu
        rw [adM]
        simp only [nC, List.getElem?_map, Option.map_eq_some_iff] at hu
        obtain ⟨x, hx, rfl⟩ := hu
        exact hc j x hx
    obtain ⟨n, hnn⟩ : ∃ n, n = l.length := ⟨_, rfl⟩
    have HL : Hid ((nC l).length = n * 1) := by unfold Hid; rw [hnn]; simp [nC]
    have HNN : Hid (n = l.length) := hnn
    rw [← hnn] at hb ⊢
    have H63 : Hid (0 + n ≤ maxLen ∧ ((0 + n) + (0 + n) / 4 + 192) * 8 ≤ 281474976710656) := by unfold Hid maxLen; omega
    clear h hn hnn
    obtain ⟨ab, ao, asp⟩ := ad
    go_enter Tryd.func52, Tryd.ntmps52
    go_wp2_with (at_builtin; refine wpList_append_own_wide _ rfl _ _ 23 rfl w.heap.size 2 i0 (.int .i64 0) 1 8 Tryd.underlying23 hi hz0 hz1 hz2 rfl (by decide) (.slice none 0 0) 0 [] rfl (World.ownsRow_nil _ _ _ _) ⟨ab, ao, asp⟩ n c (nC l) rfl HL.out HX.out (nC_one l) H63.out.1 H63.out.2 (Nat.le_refl _) ?_)
    intro v8 w8 h8 g8 o8
    have h8' : w8.ownsRow w.heap.size 2 1 v8 n (nC l) := by simpa using h8
    obtain ⟨a8, c8, hv8, _, nu8⟩ := own_nuW h8' HNN.out
    subst hv8
    have FIN : Hid (∃ a' c', Ending.returned (.slice a8 n c8) = .returned (.slice a' n c') ∧ NuW w.heap.size w8.heap.size w8 a' l ∧ Below w.heap.size w w8) := ⟨_, _, rfl, nu8, grn_none g8⟩
    clear h8 h8' g8 o8 nu8
    go_wp2_with fail
    go_ret
    first
      | exact FIN.out
      | simpa using FIN.out
set_option maxRecDepth 100000 in
set_option maxHeartbeats 8000000 in
/-- The document's machine begins its first procedure. -/
theorem rBegin0 (r p : Nat) (w : World) (la : Option Addr) (lc : Nat) (l : List Cd.Co) (c : Cd.Co) (k : Nat) (c0 : w.cell? ⟨r, 0, none⟩ = some (.slice la l.length lc)) (c1 : w.cell? ⟨r, 1, none⟩ = some (.slice none 0 0)) (f1 : w.frozen? ⟨r, 1, none⟩ = false) (hr : r < w.heap.size) (hco : CoS r w la l) (hc : l[p]? = some c) (hk : c.cells = k) (hk2 : k ≤ 65536) :
    Calls Tryd.prog 53 #[.pointer (some ⟨r, 0, none⟩), .int .i64 p, .slice none 0 0] w fun e w' => e = .returned (.tuple #[]) ∧ Below r w w' := by
  obtain ⟨i0, hi, hz0, hz1, hz2⟩ := info_parts info64
  obtain ⟨j0, ji, jz0, jz1, jz2⟩ := info_parts infoFm
  obtain ⟨g, o, ia, ic, rfl, hg, ca⟩ := hco.at hc
  have cc := ca.c1
  rw [hk] at cc
  have hpl : p < l.length := (List.getElem?_eq_some_iff.1 hc).1
  obtain ⟨L, hL⟩ : ∃ L, L = l.length := ⟨_, rfl⟩
  rw [← hL] at c0 hpl
  have hpi : (p : Int) < (L : Int) := by omega
  have hp0 : (0 : Int) ≤ (p : Int) := by omega
  clear ca hco hc hk hL
  go_enter Tryd.func53, Tryd.ntmps53
  go_wp2_with (at_make; refine wpList_make_full _ rfl _ _ 23 rfl w.heap.size 2 i0 (.int .i64 0) 1 Tryd.underlying23 hi hz0 hz1 .i64 .i64 _ _ k rfl rfl rfl rfl ?c1 ?c2 (Nat.le_refl _) ?_)
  case c1 => rw [hz2]; omega
  case c2 => unfold maxLen; omega
  intro w1 hown1 hgrow1
  have b1 : Below w.heap.size w w1 := grn_none hgrow1
  have B1 : Hid (Below w.heap.size w w1) := b1
  have d1 := (b1.cell (p := ⟨r, 1, none⟩) hr).trans c1
  have fd1 := (b1.frozen (p := ⟨r, 1, none⟩) hr).trans f1
  have hr1 : r < w1.heap.size := Nat.lt_of_lt_of_le hr b1.size
  clear b1 hown1 hgrow1 c0 c1 f1 cc
  obtain ⟨W2, hW2⟩ : ∃ W2, W2 = w1.alloc (.cells #[.int .i64 p, .int .i64 0, .int .i64 (-1), .slice (some ⟨w.heap.size, 0, none⟩) k k, .slice none 0 0] 64) := ⟨_, rfl⟩
  obtain ⟨fb, hfb⟩ : ∃ fb, fb = w1.heap.size := ⟨_, rfl⟩
  have x2 : W2.heap[fb]? = some (.cells #[.int .i64 p, .int .i64 0, .int .i64 (-1), .slice (some ⟨w.heap.size, 0, none⟩) k k, .slice none 0 0] 64 (0, 0)) := by rw [hW2, hfb]; exact alloc_at w1 _
  have hl2 : fb < W2.heap.size := (Array.getElem?_eq_some_iff.1 x2).1
  have y2 : Below w1.heap.size w1 W2 := by rw [hW2]; exact (Below.refl _ _).alloc (Nat.le_refl _) _
  have t0 : W2.cell? ⟨fb, 0, none⟩ = some (.int .i64 p) := by simp [World.cell?, x2]
  have t1 : W2.cell? ⟨fb, 1, none⟩ = some (.int .i64 0) := by simp [World.cell?, x2]
  have t2 : W2.cell? ⟨fb, 2, none⟩ = some (.int .i64 (-1)) := by simp [World.cell?, x2]
  have t3 : W2.cell? ⟨fb, 3, none⟩ = some (.slice (some ⟨w.heap.size, 0, none⟩) k k) := by simp [World.cell?, x2]
  have t4 : W2.cell? ⟨fb, 4, none⟩ = some (.slice none 0 0) := by simp [World.cell?, x2]
  have e1 := (y2.cell (p := ⟨r, 1, none⟩) hr1).trans d1
  have fe1 := (y2.frozen (p := ⟨r, 1, none⟩) hr1).trans fd1
  have hr2 : r < W2.heap.size := Nat.lt_of_lt_of_le hr1 y2.size
  have BW : Hid (Below w.heap.size w W2) := B1.out.trans (y2.mono B1.out.size)
  have HR : Hid (r < w.heap.size) := hr
  clear x2 y2 d1 fd1 hr1
  go_upto_region 1 with fail
  rw [← hW2, ← hfb]
  clear hW2 hfb
  go_wp2_with fail
  go_loopg [7] 0 (fun gk i wr => i = .int .i64 0 ∧ W2 = wr)
  case atStart => exact ⟨rfl, rfl⟩
  case round =>
    obtain ⟨rfl, rfl⟩ := hrel
    have h63 : Hid (0 + 1 ≤ maxLen ∧ ((0 + 1) + (0 + 1) / 4 + 192) * 72 ≤ 281474976710656) := by unfold Hid maxLen; omega
    have ONE5 : Hid (∀ u ∈ [Value.int .i64 p, .int .i64 0, .int .i64 (-1), .slice (some ⟨w.heap.size, 0, none⟩) k k, .slice none 0 0], u.oneCell' = true) := fun y hy => by
      simp only [List.mem_cons, List.not_mem_nil, or_false] at hy
      rcases hy with rfl | rfl | rfl | rfl | rfl <;> rfl
    have hrn : ¬ r = W2.heap.size := Nat.ne_of_lt hr2
    have hfn : ¬ fb = W2.heap.size := Nat.ne_of_lt hl2
    go_upto_region 5 with fail
    go_region_law (first
      | (rw [if_pos (by rfl)]; refine wp_append_own_wide _ _ _ 30 rfl W2.heap.size 64 j0 (.agg #[.int .i64 0, .int .i64 0, .int .i64 0, .slice none 0 0, .slice none 0 0]) 5 72 Tryd.underlying30 ji jz0 jz1 jz2 rfl (by decide) (.slice none 0 0) 0 [] rfl (World.ownsRow_nil _ _ _ _) ⟨W2.heap.size, 0, none⟩ 1 1 [.int .i64 p, .int .i64 0, .int .i64 (-1), .slice (some ⟨w.heap.size, 0, none⟩) k k, .slice none 0 0] rfl rfl (cells5 (by first | (simp; done) | (simp [go_sem]; done) | fail) (by first | (simp; done) | (simp [go_sem]; done) | fail) (by first | (simp; done) | (simp [go_sem]; done) | fail) (by first | (simp; done) | (simp [go_sem]; done) | fail) (by first | (simp; done) | (simp [go_sem]; done) | fail)) ONE5.out h63.out.1 h63.out.2 (by simp) ?_; intro v9 w9 h9 g9 o9; have b9 := grn_none g9; have B9 : Hid (Below W2.heap.size W2 w9) := (Below.trans (by go_grown : Below W2.heap.size W2 _) (b9.mono (by go_size))); obtain ⟨va9, cap9, hv9⟩ := own_shp h9; subst hv9; have z1 := (B9.out.cell (p := ⟨r, 1, none⟩) hr2).trans e1; have zf := (B9.out.frozen (p := ⟨r, 1, none⟩) hr2).trans fe1; clear g9 o9 h9 b9))
    all_goals
      go_wp2_with fail
      first
        | (go_end0; exact ⟨rfl, ((BW.out.trans (B9.out.mono BW.out.size)).mono (Nat.le_of_lt HR.out)).trans ⟨rfl, rfl, rfl, by simp, fun j hj => heap_setCell_other _ _ j _ (by simp; omega)⟩⟩)
        | (go_ret; exact ⟨rfl, ((BW.out.trans (B9.out.mono BW.out.size)).mono (Nat.le_of_lt HR.out)).trans ⟨rfl, rfl, rfl, by simp, fun j hj => heap_setCell_other _ _ j _ (by simp; omega)⟩⟩)
end Go.Proofs.YtodpdnidinnjjaaDoor
