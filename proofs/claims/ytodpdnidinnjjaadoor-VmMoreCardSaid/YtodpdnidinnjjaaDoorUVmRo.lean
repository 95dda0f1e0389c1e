/- Layer 9: the document's New: it answers as the program's. -/
/- Layer 9: the document's New; both machines begin, or neither. -/
import Derived.Test.YtodpdnidinnjjaaDoorUVmSl
import Derived.Test.YtodpdnidinnjjaaDoorUCdNf
namespace Go.Proofs.YtodpdnidinnjjaaDoor
open Go.RowKit
set_option linter.unusedVariables false
set_option linter.unusedSimpArgs false

theorem infoFm : (Tryd.prog.info? 64).map (fun i => (i.zero, i.size, i.bytes)) = some (some (.agg #[.int .i64 0, .int .i64 0, .int .i64 0, .slice none 0 0, .slice none 0 0]), 5, 72) := by kernel_rfl
theorem cells5 {W : World} {b : Nat} {v0 v1 v2 v3 v4 : Value} (h0 : W.cell? ⟨b, 0, none⟩ = some v0) (h1 : W.cell? ⟨b, 1, none⟩ = some v1) (h2 : W.cell? ⟨b, 2, none⟩ = some v2) (h3 : W.cell? ⟨b, 3, none⟩ = some v3) (h4 : W.cell? ⟨b, 4, none⟩ = some v4) : ∀ (j : Nat) u, [v0, v1, v2, v3, v4][j]? = some u → W.cell? ((⟨b, 0, none⟩ : Addr).add j) = some u := fun j u hj => by
  rw [adM, Nat.zero_add]
  match j, hj with
  | 0, hj => simp at hj; subst hj; exact h0
  | 1, hj => simp at hj; subst hj; exact h1
  | 2, hj => simp at hj; subst hj; exact h2
  | 3, hj => simp at hj; subst hj; exact h3
  | 4, hj => simp at hj; subst hj; exact h4
  | n + 5, hj => simp at hj
theorem grn_none {w w' : World} (g : w.grownBy w' none) : Below w.heap.size w w' := ⟨g.os, g.tape, g.output, g.size, fun k hk => g.block k hk (fun e => by cases e)⟩
set_option maxRecDepth 100000 in
set_option maxHeartbeats 8000000 in
theorem rOwn (w : World) (a : Option Addr) (c : Nat) (l : List Int) (h : NuS w.heap.size w a l) (hb : l.length ≤ 1000000) (hn : a = none → c = 0) : Calls Tryd.prog 52 #[.slice a l.length c] w fun e w' => ∃ a' c', e = .returned (.slice a' l.length c') ∧ NuW w.heap.size w'.heap.size w' a' l ∧ Below w.heap.size w w' := by
  obtain ⟨i0, hi, hz0, hz1, hz2⟩ := info_parts info64
  cases a with
  | none =>
    obtain rfl := hn rfl
    have hl0 : l = [] := by
      rcases Nat.eq_zero_or_pos l.length with h0 | h0
      · exact List.length_eq_zero_iff.1 h0
      · obtain ⟨g, o, e2, _⟩ := h h0
        cases e2
    subst hl0
    have hr : ∀ ty, (Builtin.append_ #[23, 23] ty #[.slice none 0 0, .slice none 0 0]).run Tryd.prog w = .ok (.slice none 0 0) w := fun ty => run_append_owned_none (P := Tryd.prog) w w.heap.size 23 ty 2 i0 1 Tryd.underlying23 hi (.slice none 0 0) 0 [] (World.ownsRow_nil _ _ _ _)
    have FIN : Hid (∃ a' c', Ending.returned (.slice none 0 0) = .returned (.slice a' ([] : List Int).length c') ∧ NuW w.heap.size w.heap.size w a' [] ∧ Below w.heap.size w w) := ⟨none, 0, rfl, fun h => by simp at h, Below.refl _ _⟩
    clear h hb hn
    go_enter Tryd.func52, Tryd.ntmps52
    go_wp2_with (at_builtin; refine Lib.wpList_append_run _ rfl _ _ _ _ rfl _ _ rfl rfl _ _ (hr _) ?_)
    go_ret
    first
      | exact FIN.out
      | simpa using FIN.out
  | some ad =>
    have HX : Hid (∀ j u, (nC l)[j]? = some u → w.cell? (ad.add j) = some u) := by
      rcases Nat.eq_zero_or_pos l.length with h0 | h0
      · have : l = [] := List.length_eq_zero_iff.1 h0
        subst this
        intro j u hu
        simp [nC] at hu
      · obtain ⟨g, o, e2, _, hc⟩ := h h0
        cases e2
        intro j u hu
        rw [adM]
        simp only [nC, List.getElem?_map, Option.map_eq_some_iff] at hu
        obtain ⟨x, hx, rfl⟩ := hu
        exact hc j x hx
    obtain ⟨n, hnn⟩ : ∃ n, n = l.length := ⟨_, rfl⟩
    have HL : Hid ((nC l).length = n * 1) := by unfold Hid; rw [hnn]; simp [nC]
    have HNN : Hid (n = l.length) := hnn
    rw [← hnn] at hb ⊢
    have H63 : Hid (0 + n ≤ maxLen ∧ ((0 + n) + (0 + n) / 4 + 192) * 8 ≤ 281474976710656) := by unfold Hid maxLen; omega
    clear h hn hnn
    obtain ⟨ab, ao, asp⟩ := ad
    go_enter Tryd.func52, Tryd.ntmps52
    go_wp2_with (at_builtin; refine wpList_append_own_wide _ rfl _ _ 23 rfl w.heap.size 2 i0 (.int .i64 0) 1 8 Tryd.underlying23 hi hz0 hz1 hz2 rfl (by decide) (.slice none 0 0) 0 [] rfl (World.ownsRow_nil _ _ _ _) ⟨ab, ao, asp⟩ n c (nC l) rfl HL.out HX.out (nC_one l) H63.out.1 H63.out.2 (Nat.le_refl _) ?_)
    intro v8 w8 h8 g8 o8
    have h8' : w8.ownsRow w.heap.size 2 1 v8 n (nC l) := by simpa using h8
    obtain ⟨a8, c8, hv8, _, nu8⟩ := own_nuW h8' HNN.out
    subst hv8
    have FIN : Hid (∃ a' c', Ending.returned (.slice a8 n c8) = .returned (.slice a' n c') ∧ NuW w.heap.size w8.heap.size w8 a' l ∧ Below w.heap.size w w8) := ⟨_, _, rfl, nu8, grn_none g8⟩
    clear h8 h8' g8 o8 nu8
    go_wp2_with fail
    go_ret
    first
      | exact FIN.out
      | simpa using FIN.out
set_option maxRecDepth 100000 in
set_option maxHeartbeats 8000000 in
/-- The document's machine begins its first procedure. -/
theorem rBegin0 (r p : Nat) (w : World) (la : Option Addr) (lc : Nat) (l : List Cd.Co) (c : Cd.Co) (k : Nat) (c0 : w.cell? ⟨r, 0, none⟩ = some (.slice la l.length lc)) (c1 : w.cell? ⟨r, 1, none⟩ = some (.slice none 0 0)) (f1 : w.frozen? ⟨r, 1, none⟩ = false) (hr : r < w.heap.size) (hco : CoS r w la l) (hc : l[p]? = some c) (hk : c.cells = k) (hk2 : k ≤ 65536) :
    Calls Tryd.prog 53 #[.pointer (some ⟨r, 0, none⟩), .int .i64 p, .slice none 0 0] w fun e w' => e = .returned (.tuple #[]) ∧ Below r w w' := by
  obtain ⟨i0, hi, hz0, hz1, hz2⟩ := info_parts info64
  obtain ⟨j0, ji, jz0, jz1, jz2⟩ := info_parts infoFm
  obtain ⟨g, o, ia, ic, rfl, hg, ca⟩ := hco.at hc
  have cc := ca.c1
  rw [hk] at cc
  have hpl : p < l.length := (List.getElem?_eq_some_iff.1 hc).1
  obtain ⟨L, hL⟩ : ∃ L, L = l.length := ⟨_, rfl⟩
  rw [← hL] at c0 hpl
  have hpi : (p : Int) < (L : Int) := by omega
  have hp0 : (0 : Int) ≤ (p : Int) := by omega
  clear ca hco hc hk hL
  go_enter Tryd.func53, Tryd.ntmps53
  go_wp2_with (at_make; refine wpList_make_full _ rfl _ _ 23 rfl w.heap.size 2 i0 (.int .i64 0) 1 Tryd.underlying23 hi hz0 hz1 .i64 .i64 _ _ k rfl rfl rfl rfl ?c1 ?c2 (Nat.le_refl _) ?_)
  case c1 => rw [hz2]; omega
  case c2 => unfold maxLen; omega
  intro w1 hown1 hgrow1
  have b1 : Below w.heap.size w w1 := grn_none hgrow1
  have B1 : Hid (Below w.heap.size w w1) := b1
  have d1 := (b1.cell (p := ⟨r, 1, none⟩) hr).trans c1
  have fd1 := (b1.frozen (p := ⟨r, 1, none⟩) hr).trans f1
  have hr1 : r < w1.heap.size := Nat.lt_of_lt_of_le hr b1.size
  clear b1 hown1 hgrow1 c0 c1 f1 cc
  obtain ⟨W2, hW2⟩ : ∃ W2, W2 = w1.alloc (.cells #[.int .i64 p, .int .i64 0, .int .i64 (-1), .slice (some ⟨w.heap.size, 0, none⟩) k k, .slice none 0 0] 64) := ⟨_, rfl⟩
  obtain ⟨fb, hfb⟩ : ∃ fb, fb = w1.heap.size := ⟨_, rfl⟩
  have x2 : W2.heap[fb]? = some (.cells #[.int .i64 p, .int .i64 0, .int .i64 (-1), .slice (some ⟨w.heap.size, 0, none⟩) k k, .slice none 0 0] 64 (0, 0)) := by rw [hW2, hfb]; exact alloc_at w1 _
  have hl2 : fb < W2.heap.size := (Array.getElem?_eq_some_iff.1 x2).1
  have y2 : Below w1.heap.size w1 W2 := by rw [hW2]; exact (Below.refl _ _).alloc (Nat.le_refl _) _
  have t0 : W2.cell? ⟨fb, 0, none⟩ = some (.int .i64 p) := by simp [World.cell?, x2]
  have t1 : W2.cell? ⟨fb, 1, none⟩ = some (.int .i64 0) := by simp [World.cell?, x2]
  have t2 : W2.cell? ⟨fb, 2, none⟩ = some (.int .i64 (-1)) := by simp [World.cell?, x2]
  have t3 : W2.cell? ⟨fb, 3, none⟩ = some (.slice (some ⟨w.heap.size, 0, none⟩) k k) := by simp [World.cell?, x2]
  have t4 : W2.cell? ⟨fb, 4, none⟩ = some (.slice none 0 0) := by simp [World.cell?, x2]
  have e1 := (y2.cell (p := ⟨r, 1, none⟩) hr1).trans d1
  have fe1 := (y2.frozen (p := ⟨r, 1, none⟩) hr1).trans fd1
  have hr2 : r < W2.heap.size := Nat.lt_of_lt_of_le hr1 y2.size
  have BW : Hid (Below w.heap.size w W2) := B1.out.trans (y2.mono B1.out.size)
  have HR : Hid (r < w.heap.size) := hr
  clear x2 y2 d1 fd1 hr1
  go_upto_region 1 with fail
  rw [← hW2, ← hfb]
  clear hW2 hfb
  go_wp2_with fail
  go_loopg [7] 0 (fun gk i wr => i = .int .i64 0 ∧ W2 = wr)
  case atStart => exact ⟨rfl, rfl⟩
  case round =>
    obtain ⟨rfl, rfl⟩ := hrel
    have h63 : Hid (0 + 1 ≤ maxLen ∧ ((0 + 1) + (0 + 1) / 4 + 192) * 72 ≤ 281474976710656) := by unfold Hid maxLen; omega
    have ONE5 : Hid (∀ u ∈ [Value.int .i64 p, .int .i64 0, .int .i64 (-1), .slice (some ⟨w.heap.size, 0, none⟩) k k, .slice none 0 0], u.oneCell' = true) := fun y hy => by
      simp only [List.mem_cons, List.not_mem_nil, or_false] at hy
      rcases hy with rfl | rfl | rfl | rfl | rfl <;> rfl
    have hrn : ¬ r = W2.heap.size := Nat.ne_of_lt hr2
    have hfn : ¬ fb = W2.heap.size := Nat.ne_of_lt hl2
    go_upto_region 5 with fail
    go_region_law (first
      | (rw [if_pos (by rfl)]; refine wp_append_own_wide _ _ _ 30 rfl W2.heap.size 64 j0 (.agg #[.int .i64 0, .int .i64 0, .int .i64 0, .slice none 0 0, .slice none 0 0]) 5 72 Tryd.underlying30 ji jz0 jz1 jz2 rfl (by decide) (.slice none 0 0) 0 [] rfl (World.ownsRow_nil _ _ _ _) ⟨W2.heap.size, 0, none⟩ 1 1 [.int .i64 p, .int .i64 0, .int .i64 (-1), .slice (some ⟨w.heap.size, 0, none⟩) k k, .slice none 0 0] rfl rfl (cells5 (by first | (simp; done) | (simp [go_sem]; done) | fail) (by first | (simp; done) | (simp [go_sem]; done) | fail) (by first | (simp; done) | (simp [go_sem]; done) | fail) (by first | (simp; done) | (simp [go_sem]; done) | fail) (by first | (simp; done) | (simp [go_sem]; done) | fail)) ONE5.out h63.out.1 h63.out.2 (by simp) ?_; intro v9 w9 h9 g9 o9; have b9 := grn_none g9; have B9 : Hid (Below W2.heap.size W2 w9) := (Below.trans (by go_grown : Below W2.heap.size W2 _) (b9.mono (by go_size))); obtain ⟨va9, cap9, hv9⟩ := own_shp h9; subst hv9; have z1 := (B9.out.cell (p := ⟨r, 1, none⟩) hr2).trans e1; have zf := (B9.out.frozen (p := ⟨r, 1, none⟩) hr2).trans fe1; clear g9 o9 h9 b9))
    all_goals
      go_wp2_with fail
      first
        | (go_end0; exact ⟨rfl, ((BW.out.trans (B9.out.mono BW.out.size)).mono (Nat.le_of_lt HR.out)).trans ⟨rfl, rfl, rfl, by simp, fun j hj => heap_setCell_other _ _ j _ (by simp; omega)⟩⟩)
        | (go_ret; exact ⟨rfl, ((BW.out.trans (B9.out.mono BW.out.size)).mono (Nat.le_of_lt HR.out)).trans ⟨rfl, rfl, rfl, by simp, fun j hj => heap_setCell_other _ _ j _ (by simp; omega)⟩⟩)
end Go.Proofs.YtodpdnidinnjjaaDoor

namespace Go.Proofs.YtodpdnidinnjjaaDoor
open Go.RowKit
set_option linter.unusedVariables false
set_option linter.unusedSimpArgs false

set_option maxRecDepth 100000 in
set_option maxHeartbeats 8000000 in
theorem rNewC (B : Nat) (w : World) (la ia : Option Addr) (lc ic : Nat) (l : List Cd.Co) (inp : List Int) (main fuel : Int) (h : CdH B w la l) (hs : ¬ Cd.Snd Cd.top l main) :
    Calls Tryd.prog 25 #[.slice la l.length lc, .int .i64 main, .slice ia inp.length ic, .int .i64 fuel] w fun e w' => e = .returned (.tuple #[.pointer none, .int .i64 60]) ∧ Below w.heap.size w w' := by
  have ES : Hid (Calls Tryd.prog 51 #[.slice la l.length lc, .int .i64 main] w fun e w' => e = .returned (.bool false) ∧ Below w.heap.size w w') := (rSnd_any main B la lc l w h.hB h.co h.ok).mono fun e w' ⟨b, h1, h2, h3⟩ => ⟨by
    cases b with
    | false => exact h1
    | true => exact absurd (snd_both.2 (h2.1 rfl)) hs, h3⟩
  generalize inp.length = nI
  generalize l.length = L at ES ⊢
  clear h hs
  go_enter Tryd.func25, Tryd.ntmps25
  go_wp2_with fail
  refine Calls.mono ES.out ?_
  rintro e1 w1 ⟨rfl, b1⟩
  have FIN : Hid (Below w.heap.size w w1) := b1
  clear b1 ES
  go_wp2_with fail
  refine bodyPost_ret (v := .tuple #[.pointer none, .int .i64 60]) (by simp [results, Tryd.results25, go_sem]) rfl ?_
  exact ⟨rfl, FIN.out⟩
set_option maxRecDepth 100000 in
set_option maxHeartbeats 8000000 in
theorem rNewA (B : Nat) (w : World) (la ia : Option Addr) (lc ic : Nat) (l : List Cd.Co) (inp : List Int) (main fuel : Int) (h : CdH B w la l) (hs : Cd.Snd Cd.top l main) (ha : ¬ VmArg fuel inp.length) :
    Calls Tryd.prog 25 #[.slice la l.length lc, .int .i64 main, .slice ia inp.length ic, .int .i64 fuel] w fun e w' => e = .returned (.tuple #[.pointer none, .int .i64 1]) ∧ Below w.heap.size w w' := by
  have ES : Hid (Calls Tryd.prog 51 #[.slice la l.length lc, .int .i64 main] w fun e w' => e = .returned (.bool true) ∧ Below w.heap.size w w') := (rSnd_any main B la lc l w h.hB h.co h.ok).mono fun e w' ⟨b, h1, h2, h3⟩ => ⟨by rw [h1, h2.2 (snd_both.1 hs)], h3⟩
  unfold VmArg at ha
  generalize inp.length = nI at ha ⊢
  generalize l.length = L at ES ⊢
  clear h hs
  go_enter Tryd.func25, Tryd.ntmps25
  go_wp2_with fail
  refine Calls.mono ES.out ?_
  rintro e1 w1 ⟨rfl, b1⟩
  have FIN : Hid (Below w.heap.size w w1) := b1
  clear b1 ES
  by_cases h1 : fuel < 0
  · have d1 : decide (fuel < 0) = true := decide_eq_true h1
    go_wp2_with fail
    refine bodyPost_ret (v := .tuple #[.pointer none, .int .i64 1]) (by simp [results, Tryd.results25, go_sem]) rfl ?_
    exact ⟨rfl, FIN.out⟩
  · have d1 : decide (fuel < 0) = false := decide_eq_false h1
    by_cases h2 : fuel > 1048576
    · have d2 : decide (fuel > 1048576) = true := decide_eq_true h2
      go_wp2_with fail
      refine bodyPost_ret (v := .tuple #[.pointer none, .int .i64 1]) (by simp [results, Tryd.results25, go_sem]) rfl ?_
      exact ⟨rfl, FIN.out⟩
    · have d2 : decide (fuel > 1048576) = false := decide_eq_false h2
      have h3 : (nI : Int) > 1000 := by omega
      have h4 : nI > 1000 := by omega
      go_wp2_with fail
      refine bodyPost_ret (v := .tuple #[.pointer none, .int .i64 1]) (by simp [results, Tryd.results25, go_sem]) rfl ?_
      exact ⟨rfl, FIN.out⟩
set_option maxRecDepth 100000 in
set_option maxHeartbeats 8000000 in
theorem rNewO (B : Nat) (w : World) (la ia : Option Addr) (lc ic : Nat) (l : List Cd.Co) (inp : List Int) (p : Nat) (fuel : Int) (h : CdH B w la l) (hi : NuS w.heap.size w ia inp) (hin : ia = none → ic = 0) (hs : Cd.Snd Cd.top l p) (ha : VmArg fuel inp.length) :
    Calls Tryd.prog 25 #[.slice la l.length lc, .int .i64 p, .slice ia inp.length ic, .int .i64 fuel] w fun e w' => ∃ r, e = .returned (.tuple #[.pointer (some ⟨r, 0, none⟩), .int .i64 0]) ∧ Below w.heap.size w w' := by
  have ES : Hid (Calls Tryd.prog 51 #[.slice la l.length lc, .int .i64 p] w fun e w' => e = .returned (.bool true) ∧ Below w.heap.size w w') := (rSnd_any p B la lc l w h.hB h.co h.ok).mono fun e w' ⟨b, h1, h2, h3⟩ => ⟨by rw [h1, h2.2 (snd_both.1 hs)], h3⟩
  obtain ⟨c, hc⟩ : ∃ c, l[p]? = some c := by
    obtain ⟨_, _, ⟨c, hc, _⟩, _⟩ := hs
    exact ⟨c, by rw [Int.toNat_natCast] at hc; exact hc⟩
  have fc : 0 ≤ c.cells ∧ c.cells ≤ 65536 := by
    have := (hs.2.2.2 c (List.mem_of_getElem? hc)).sz
    unfold Cd.sz at this
    simp at this
    omega
  obtain ⟨k, hk⟩ : ∃ k : Nat, c.cells = k := ⟨c.cells.toNat, by omega⟩
  obtain ⟨ha1, ha2, ha3⟩ := ha
  have EO : Hid (∀ X, Below w.heap.size w X → Calls Tryd.prog 52 #[.slice ia inp.length ic] X fun e w' => ∃ a' c', e = .returned (.slice a' inp.length c') ∧ Below X.heap.size X w') := fun X hX => (rOwn X ia ic inp ((fun h0 => by
    obtain ⟨g, o, e, hg, hc⟩ := (hi.later hX) h0
    exact ⟨g, o, e, Nat.lt_of_lt_of_le hg hX.size, hc⟩) : NuS X.heap.size X ia inp) (by omega) hin).mono fun e w' ⟨a, c, h1, _, h2⟩ => ⟨a, c, h1, h2⟩
  have HC : Hid (CdH B w la l ∧ l[p]? = some c ∧ c.cells = k ∧ k ≤ 65536) := ⟨h, hc, hk, by omega⟩
  obtain ⟨nI, hn⟩ : ∃ nI, nI = inp.length := ⟨_, rfl⟩
  obtain ⟨L, hL⟩ : ∃ L, L = l.length := ⟨_, rfl⟩
  have HN : Hid (L = l.length) := hL
  rw [← hn] at EO ha3 ⊢
  rw [← hL] at ES ⊢
  have d1 : ¬ fuel < 0 := by omega
  have d2 : ¬ fuel > 1048576 := by omega
  have d3 : ¬ (nI : Int) > 1000 := by omega
  have d4 : ¬ nI > 1000 := by omega
  clear h hi hs hc fc hk hn hL ha3 hin
  go_enter Tryd.func25, Tryd.ntmps25
  go_wp2_with fail
  refine Calls.mono ES.out ?_
  rintro e1 w1 ⟨rfl, b1⟩
  have B1 : Hid (Below w.heap.size w w1) := b1
  clear b1 ES
  go_wp2_with fail
  refine Calls.mono (EO.out _ B1.out) ?_
  rintro e2 w2 ⟨a2, c2, rfl, b2⟩
  have B2 : Hid (Below w.heap.size w w2) := B1.out.trans (b2.mono B1.out.size)
  clear b2 EO B1
  obtain ⟨W3, hW3⟩ : ∃ W3, W3 = w2.alloc (.cells #[.slice la L lc, .slice none 0 0, .slice a2 nI c2, .int .i64 0, .int .i64 fuel, .int .i64 0, .int .i64 0, .int .i64 0, .int .i64 0, .int .i64 0, .slice none 0 0, .bool false, .int .i64 0] 35) := ⟨_, rfl⟩
  obtain ⟨r, hr⟩ : ∃ r, r = w2.heap.size := ⟨_, rfl⟩
  have x3 : W3.heap[r]? = some (.cells #[.slice la L lc, .slice none 0 0, .slice a2 nI c2, .int .i64 0, .int .i64 fuel, .int .i64 0, .int .i64 0, .int .i64 0, .int .i64 0, .int .i64 0, .slice none 0 0, .bool false, .int .i64 0] 35 (0, 0)) := by rw [hW3, hr]; exact alloc_at w2 _
  have B3 : Hid (Below w.heap.size w W3) := B2.out.trans (by rw [hW3]; exact ((Below.refl w2.heap.size w2).alloc (Nat.le_refl _) _).mono B2.out.size)
  have HR : Hid (w.heap.size ≤ r) := by unfold Hid; rw [hr]; exact B2.out.size
  have EB : Hid (Calls Tryd.prog 53 #[.pointer (some ⟨r, 0, none⟩), .int .i64 p, .slice none 0 0] W3 fun e w' => e = .returned (.tuple #[]) ∧ Below r W3 w') := by
    obtain ⟨hC, hc, hk, hk2⟩ := HC.out
    have co : CoS r W3 la l := (hC.co.later (B3.out.mono hC.hB)).mono (Nat.le_trans hC.hB HR.out)
    have c0 : W3.cell? ⟨r, 0, none⟩ = some (.slice la l.length lc) := by rw [← HN.out]; simp [World.cell?, x3]
    exact rBegin0 r p W3 la lc l c k c0 (by simp [World.cell?, x3]) (by simp [World.frozen?, x3]) (Array.getElem?_eq_some_iff.1 x3).1 co hc hk hk2
  clear x3 B2
  go_upto_region 6 with fail
  rw [← hr, ← hW3]
  clear hr hW3
  go_wp2_with fail
  refine Calls.mono EB.out ?_
  rintro e4 w4 ⟨rfl, b4⟩
  have FIN : Hid (Below w.heap.size w w4) := B3.out.trans (b4.mono HR.out)
  clear b4 EB B3
  go_wp2_with fail
  refine bodyPost_ret (v := .tuple #[.pointer (some ⟨r, 0, none⟩), .int .i64 0]) (by simp [results, Tryd.results25, go_sem]) rfl ?_
  exact ⟨r, rfl, FIN.out⟩
theorem VmO.lower {lo lo' m : Nat} {w : World} {V : VmV} {M : Vm.Mc} (h : VmO lo m w V M) (hl : lo' ≤ lo) : VmO lo' m w V M := by
  have s := h.re
  exact ⟨⟨⟨w, VOwn V, lo'⟩, ⟨s.box, ⟨s.rows.oa, s.rows.ob, s.rows.oc, s.rows.od, s.rows.ab, s.rows.ac, s.rows.ad, s.rows.bc, s.rows.bd, s.rows.cd, ⟨Nat.le_refl _, fun _ _ _ _ => rfl⟩, fun k e => .inl (.inl e), fun k e => .inl (.inr (.inl e)), fun k e => .inl (.inr (.inr (.inl e))), fun k e => .inl (.inr (.inr (.inr e)))⟩, s.co.mono hl (Nat.le_refl _), s.inp.mono hl (Nat.le_refl _)⟩, rfl⟩, Nat.le_trans hl h.lm⟩
/-- What both leave. -/
def BtQ (w : World) (l : List Cd.Co) (main : Int) (inp : List Int) (fuel : Int) (e : Ending) (w' : World) : Prop :=
  (e = .returned (.tuple #[.pointer none, .pointer none, .bool false, .bool true]) ∧ Below w.heap.size w w') ∨
  ∃ (m r : Nat) (V : VmV) (on : Bool) (p : Nat) (c : Cd.Co) (G : Gh), e = .returned (.tuple #[.pointer (some ⟨m, 0, none⟩), .pointer (some ⟨r, 0, none⟩), .bool on, .bool true]) ∧ main = p ∧ Cd.Snd Cd.top l p ∧ l[p]? = some c ∧ VmArg (Vm.fw fuel) inp.length ∧ inp.length ≤ 200 ∧ VmO w.heap.size m w' V (Vm.beg l p c.cells.toNat inp (Vm.fw fuel) G) ∧ Below w.heap.size w w'
set_option maxRecDepth 100000 in
set_option maxHeartbeats 16000000 in
theorem both9 (B : Nat) (w : World) (la ia : Option Addr) (lc ic : Nat) (l : List Cd.Co) (inp : List Int) (main fuel : Int) (h : CdH B w la l) (hi : NuS w.heap.size w ia inp) (hin : ia = none → ic = 0) :
    Calls Tryd.prog 9 #[.slice la l.length lc, .int .i64 main, .slice ia inp.length ic, .int .i64 fuel] w (BtQ w l main inp fuel) := by
  have EG : Hid _ := great9_any B la lc l w h
  have EF : Hid (∀ X, Calls Tryd.prog 15 #[.int .i64 fuel] X fun e w' => e = .returned (.int .i64 (Vm.fw fuel)) ∧ w' = X) := fun X => vmFew fuel X
  have BA : Hid (∀ W, Below w.heap.size w W → BtQ w l main inp fuel (.returned (.tuple #[.pointer none, .pointer none, .bool false, .bool true])) W) := fun W hW => .inl ⟨rfl, hW⟩
  have HH : Hid (∀ X, Below w.heap.size w X → CdH B X la l ∧ NuS X.heap.size X ia inp) := fun X hX => ⟨h.later (hX.mono h.hB), fun h0 => by
    obtain ⟨g, o, e, hg, hc⟩ := (hi.later hX) h0
    exact ⟨g, o, e, Nat.lt_of_lt_of_le hg hX.size, hc⟩⟩
  have HIN : Hid (ia = none → ic = 0) := hin
  obtain ⟨nI, hn⟩ : ∃ nI, nI = inp.length := ⟨_, rfl⟩
  obtain ⟨L, hL⟩ : ∃ L, L = l.length := ⟨_, rfl⟩
  have HN : Hid (nI = inp.length ∧ L = l.length) := ⟨hn, hL⟩
  rw [← hL] at EG ⊢
  rw [← hn]
  clear h hi hn hL hin
  go_enter Tryd.func9, Tryd.ntmps9
  go_wp2_with fail
  refine Calls.mono EG.out ?_
  rintro e1 w1 ⟨gb, rfl, b1⟩
  have B1 : Hid (Below w.heap.size w w1) := b1
  clear b1 EG
  cases gb with
  | true =>
    go_wp2_with fail
    refine bodyPost_ret (v := .tuple #[.pointer none, .pointer none, .bool false, .bool true]) (by simp [results, Tryd.results9, go_sem]) rfl ?_
    exact BA.out _ B1.out
  | false =>
    by_cases h200 : nI > 200 ∧ nI ≤ 1000
    · have g1 : (nI : Int) > 200 := by omega
      have g2 : (nI : Int) ≤ 1000 := by omega
      have g3 : nI > 200 := h200.1
      have g4 : nI ≤ 1000 := h200.2
      have dg1 : decide ((200 : Int) < (nI : Int)) = true := decide_eq_true g1
      have dg2 : decide ((nI : Int) ≤ 1000) = true := decide_eq_true g2
      go_wp2_with fail
      refine bodyPost_ret (v := .tuple #[.pointer none, .pointer none, .bool false, .bool true]) (by simp [results, Tryd.results9, go_sem]) rfl ?_
      exact BA.out _ B1.out
    · by_cases hle : nI ≤ 200
      · have g1 : ¬ (nI : Int) > 200 := by omega
        have dg1 : decide ((200 : Int) < (nI : Int)) = false := decide_eq_false g1
        have dg3 : decide (200 < nI) = false := decide_eq_false (by omega)
        by_cases hs : Cd.Snd Cd.top l main
        · by_cases ha : VmArg (Vm.fw fuel) inp.length
          · -- ok
            obtain ⟨p, hp⟩ : ∃ p : Nat, main = p := ⟨main.toNat, by have := hs.2.1; omega⟩
            subst hp
            obtain ⟨c, hc⟩ : ∃ c, l[p]? = some c := by
              obtain ⟨_, _, ⟨c, hc, _⟩, _⟩ := hs
              exact ⟨c, by rw [Int.toNat_natCast] at hc; exact hc⟩
            have EN1 : Hid (∀ X, Below w.heap.size w X → Calls Tryd.prog 20 #[.slice la L lc, .int .i64 p, .slice ia nI ic, .int .i64 (Vm.fw fuel)] X fun e w' => ∃ m V, e = .returned (.tuple #[.pointer (some ⟨m, 0, none⟩), .int .i64 0]) ∧ VmO X.heap.size m w' V (Vm.beg l p c.cells.toNat inp (Vm.fw fuel) ⟨X, fun _ => False, X.heap.size⟩) ∧ Below X.heap.size X w') := fun X hX => by
              have := vmNewO B X la ia lc ic l inp p c (Vm.fw fuel) (HH.out X hX).1 (HH.out X hX).2 hs hc ha
              rw [← HN.out.1, ← HN.out.2] at this
              exact this
            have EN2 : Hid (∀ X, Below w.heap.size w X → Calls Tryd.prog 25 #[.slice la L lc, .int .i64 p, .slice ia nI ic, .int .i64 (Vm.fw fuel)] X fun e w' => ∃ r, e = .returned (.tuple #[.pointer (some ⟨r, 0, none⟩), .int .i64 0]) ∧ Below X.heap.size X w') := fun X hX => by
              have := rNewO B X la ia lc ic l inp p (Vm.fw fuel) (HH.out X hX).1 (HH.out X hX).2 HIN.out hs ha
              rw [← HN.out.1, ← HN.out.2] at this
              exact this
            have ESL : Hid (∀ X, Below w.heap.size w X → Calls Tryd.prog 30 #[.slice la L lc] X (BoQ X)) := fun X hX => by
              have hC := (HH.out X hX).1
              have := slow9_any la lc l X (hC.co.mono hC.hB) hs.2.2.2 hs.1
              rw [← HN.out.2] at this
              exact this
            have HP : Hid (Cd.Snd Cd.top l p ∧ l[p]? = some c ∧ VmArg (Vm.fw fuel) inp.length ∧ inp.length ≤ 200) := ⟨hs, hc, ha, by rw [← HN.out.1]; omega⟩
            clear hs hc ha
            go_wp2_with fail
            refine Calls.mono (EF.out _) ?_
            rintro e2 w2 ⟨rfl, hw2⟩
            subst hw2
            go_wp2_with fail
            refine Calls.mono (EN1.out _ B1.out) ?_
            rintro e3 w3 ⟨m, V, rfl, h3, b3⟩
            have B3 : Hid (Below w.heap.size w w3) := B1.out.trans (b3.mono B1.out.size)
            have H3 : Hid (VmO w2.heap.size m w3 V (Vm.beg l p c.cells.toNat inp (Vm.fw fuel) ⟨w2, fun _ => False, w2.heap.size⟩)) := h3
            clear b3 h3 EN1
            go_wp2_with fail
            refine Calls.mono (EF.out _) ?_
            rintro e4 w4 ⟨rfl, hw4⟩
            subst hw4
            go_wp2_with fail
            refine Calls.mono (EN2.out _ B3.out) ?_
            rintro e5 w5 ⟨r, rfl, b5⟩
            have B5 : Hid (Below w.heap.size w w5) := B3.out.trans (b5.mono B3.out.size)
            have H5 : Hid (VmO _ m w5 V _) := H3.out.later b5
            clear b5 EN2 B3 H3
            go_wp2_with fail
            refine Calls.mono (ESL.out _ B5.out) ?_
            rintro e6 w6 ⟨sb, rfl, b6⟩
            have B6 : Hid (Below w.heap.size w w6) := B5.out.trans (b6.mono B5.out.size)
            have FIN : Hid (BtQ w l p inp fuel (.returned (.tuple #[.pointer (some ⟨m, 0, none⟩), .pointer (some ⟨r, 0, none⟩), .bool (!sb), .bool true])) w6) := .inr ⟨m, r, V, !sb, p, c, _, rfl, rfl, HP.out.1, HP.out.2.1, HP.out.2.2.1, HP.out.2.2.2, (H5.out.later b6).lower B1.out.size, B6.out⟩
            clear b6 ESL H5 B5
            go_wp2_with fail
            refine bodyPost_ret (v := .tuple #[.pointer (some ⟨m, 0, none⟩), .pointer (some ⟨r, 0, none⟩), .bool (!sb), .bool true]) (by simp [results, Tryd.results9, go_sem]) rfl ?_
            exact FIN.out
          · -- no
            have EN1 : Hid (∀ X, Below w.heap.size w X → Calls Tryd.prog 20 #[.slice la L lc, .int .i64 main, .slice ia nI ic, .int .i64 (Vm.fw fuel)] X fun e w' => e = .returned (.tuple #[.pointer none, .int .i64 1]) ∧ Below X.heap.size X w') := fun X hX => by
              have := vmNewA B X la ia lc ic l inp main (Vm.fw fuel) (HH.out X hX).1 hs ha
              rw [← HN.out.1, ← HN.out.2] at this
              exact this
            have EN2 : Hid (∀ X, Below w.heap.size w X → Calls Tryd.prog 25 #[.slice la L lc, .int .i64 main, .slice ia nI ic, .int .i64 (Vm.fw fuel)] X fun e w' => e = .returned (.tuple #[.pointer none, .int .i64 1]) ∧ Below X.heap.size X w') := fun X hX => by
              have := rNewA B X la ia lc ic l inp main (Vm.fw fuel) (HH.out X hX).1 hs ha
              rw [← HN.out.1, ← HN.out.2] at this
              exact this
            go_wp2_with fail
            refine Calls.mono (EF.out _) ?_
            rintro e2 w2 ⟨rfl, hw2⟩
            subst hw2
            go_wp2_with fail
            refine Calls.mono (EN1.out _ B1.out) ?_
            rintro e3 w3 ⟨rfl, b3⟩
            have B3 : Hid (Below w.heap.size w w3) := B1.out.trans (b3.mono B1.out.size)
            clear b3 EN1
            go_wp2_with fail
            refine Calls.mono (EF.out _) ?_
            rintro e4 w4 ⟨rfl, hw4⟩
            subst hw4
            go_wp2_with fail
            refine Calls.mono (EN2.out _ B3.out) ?_
            rintro e5 w5 ⟨rfl, b5⟩
            have B5 : Hid (Below w.heap.size w w5) := B3.out.trans (b5.mono B3.out.size)
            clear b5 EN2 B3
            go_wp2_with fail
            refine bodyPost_ret (v := .tuple #[.pointer none, .pointer none, .bool false, .bool true]) (by simp [results, Tryd.results9, go_sem]) rfl ?_
            exact BA.out _ B5.out
        · -- unsound
          have EN1 : Hid (∀ X, Below w.heap.size w X → Calls Tryd.prog 20 #[.slice la L lc, .int .i64 main, .slice ia nI ic, .int .i64 (Vm.fw fuel)] X fun e w' => e = .returned (.tuple #[.pointer none, .int .i64 60]) ∧ Below X.heap.size X w') := fun X hX => by
            have := vmNewC B X la ia lc ic l inp main (Vm.fw fuel) (HH.out X hX).1 hs
            rw [← HN.out.1, ← HN.out.2] at this
            exact this
          have EN2 : Hid (∀ X, Below w.heap.size w X → Calls Tryd.prog 25 #[.slice la L lc, .int .i64 main, .slice ia nI ic, .int .i64 (Vm.fw fuel)] X fun e w' => e = .returned (.tuple #[.pointer none, .int .i64 60]) ∧ Below X.heap.size X w') := fun X hX => by
            have := rNewC B X la ia lc ic l inp main (Vm.fw fuel) (HH.out X hX).1 hs
            rw [← HN.out.1, ← HN.out.2] at this
            exact this
          go_wp2_with fail
          refine Calls.mono (EF.out _) ?_
          rintro e2 w2 ⟨rfl, hw2⟩
          subst hw2
          go_wp2_with fail
          refine Calls.mono (EN1.out _ B1.out) ?_
          rintro e3 w3 ⟨rfl, b3⟩
          have B3 : Hid (Below w.heap.size w w3) := B1.out.trans (b3.mono B1.out.size)
          clear b3 EN1
          go_wp2_with fail
          refine Calls.mono (EF.out _) ?_
          rintro e4 w4 ⟨rfl, hw4⟩
          subst hw4
          go_wp2_with fail
          refine Calls.mono (EN2.out _ B3.out) ?_
          rintro e5 w5 ⟨rfl, b5⟩
          have B5 : Hid (Below w.heap.size w w5) := B3.out.trans (b5.mono B3.out.size)
          clear b5 EN2 B3
          go_wp2_with fail
          refine bodyPost_ret (v := .tuple #[.pointer none, .pointer none, .bool false, .bool true]) (by simp [results, Tryd.results9, go_sem]) rfl ?_
          exact BA.out _ B5.out
      · have g1 : (nI : Int) > 200 := by omega
        have g2 : ¬ (nI : Int) ≤ 1000 := by omega
        have dg1 : decide ((200 : Int) < (nI : Int)) = true := decide_eq_true g1
        have dg3 : decide (200 < nI) = true := decide_eq_true (by omega)
        have dg2 : decide ((nI : Int) ≤ 1000) = false := decide_eq_false g2
        have dg4 : decide (nI ≤ 1000) = false := decide_eq_false (by omega)
        by_cases hs : Cd.Snd Cd.top l main
        · have ha : ¬ VmArg (Vm.fw fuel) inp.length := fun h => by have := h.2.2; rw [← HN.out.1] at this; omega
          have EN1 : Hid (∀ X, Below w.heap.size w X → Calls Tryd.prog 20 #[.slice la L lc, .int .i64 main, .slice ia nI ic, .int .i64 (Vm.fw fuel)] X fun e w' => e = .returned (.tuple #[.pointer none, .int .i64 1]) ∧ Below X.heap.size X w') := fun X hX => by
            have := vmNewA B X la ia lc ic l inp main (Vm.fw fuel) (HH.out X hX).1 hs ha
            rw [← HN.out.1, ← HN.out.2] at this
            exact this
          have EN2 : Hid (∀ X, Below w.heap.size w X → Calls Tryd.prog 25 #[.slice la L lc, .int .i64 main, .slice ia nI ic, .int .i64 (Vm.fw fuel)] X fun e w' => e = .returned (.tuple #[.pointer none, .int .i64 1]) ∧ Below X.heap.size X w') := fun X hX => by
            have := rNewA B X la ia lc ic l inp main (Vm.fw fuel) (HH.out X hX).1 hs ha
            rw [← HN.out.1, ← HN.out.2] at this
            exact this
          go_wp2_with fail
          refine Calls.mono (EF.out _) ?_
          rintro e2 w2 ⟨rfl, hw2⟩
          subst hw2
          go_wp2_with fail
          refine Calls.mono (EN1.out _ B1.out) ?_
          rintro e3 w3 ⟨rfl, b3⟩
          have B3 : Hid (Below w.heap.size w w3) := B1.out.trans (b3.mono B1.out.size)
          clear b3 EN1
          go_wp2_with fail
          refine Calls.mono (EF.out _) ?_
          rintro e4 w4 ⟨rfl, hw4⟩
          subst hw4
          go_wp2_with fail
          refine Calls.mono (EN2.out _ B3.out) ?_
          rintro e5 w5 ⟨rfl, b5⟩
          have B5 : Hid (Below w.heap.size w w5) := B3.out.trans (b5.mono B3.out.size)
          clear b5 EN2 B3
          go_wp2_with fail
          refine bodyPost_ret (v := .tuple #[.pointer none, .pointer none, .bool false, .bool true]) (by simp [results, Tryd.results9, go_sem]) rfl ?_
          exact BA.out _ B5.out
        · -- unsound
          have EN1 : Hid (∀ X, Below w.heap.size w X → Calls Tryd.prog 20 #[.slice la L lc, .int .i64 main, .slice ia nI ic, .int .i64 (Vm.fw fuel)] X fun e w' => e = .returned (.tuple #[.pointer none, .int .i64 60]) ∧ Below X.heap.size X w') := fun X hX => by
            have := vmNewC B X la ia lc ic l inp main (Vm.fw fuel) (HH.out X hX).1 hs
            rw [← HN.out.1, ← HN.out.2] at this
            exact this
          have EN2 : Hid (∀ X, Below w.heap.size w X → Calls Tryd.prog 25 #[.slice la L lc, .int .i64 main, .slice ia nI ic, .int .i64 (Vm.fw fuel)] X fun e w' => e = .returned (.tuple #[.pointer none, .int .i64 60]) ∧ Below X.heap.size X w') := fun X hX => by
            have := rNewC B X la ia lc ic l inp main (Vm.fw fuel) (HH.out X hX).1 hs
            rw [← HN.out.1, ← HN.out.2] at this
            exact this
          go_wp2_with fail
          refine Calls.mono (EF.out _) ?_
          rintro e2 w2 ⟨rfl, hw2⟩
          subst hw2
          go_wp2_with fail
          refine Calls.mono (EN1.out _ B1.out) ?_
          rintro e3 w3 ⟨rfl, b3⟩
          have B3 : Hid (Below w.heap.size w w3) := B1.out.trans (b3.mono B1.out.size)
          clear b3 EN1
          go_wp2_with fail
          refine Calls.mono (EF.out _) ?_
          rintro e4 w4 ⟨rfl, hw4⟩
          subst hw4
          go_wp2_with fail
          refine Calls.mono (EN2.out _ B3.out) ?_
          rintro e5 w5 ⟨rfl, b5⟩
          have B5 : Hid (Below w.heap.size w w5) := B3.out.trans (b5.mono B3.out.size)
          clear b5 EN2 B3
          go_wp2_with fail
          refine bodyPost_ret (v := .tuple #[.pointer none, .pointer none, .bool false, .bool true]) (by simp [results, Tryd.results9, go_sem]) rfl ?_
          exact BA.out _ B5.out
end Go.Proofs.YtodpdnidinnjjaaDoor
