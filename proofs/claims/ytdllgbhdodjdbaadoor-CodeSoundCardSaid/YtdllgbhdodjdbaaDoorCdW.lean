/- Layer 8: the statements' own fixed calls (known) come out true wherever the tables lie as they are laid. -/
import Derived.Test.YtdllgbhdodjdbaaDoorCdU
import Derived.Test.YtdllgbhdodjdbaaDoorCdV
import Derived.Test.YtdllgbhdodjdbaaDoorCdL
namespace Go.Proofs.YtdllgbhdodjdbaaDoor
open Go.RowKit
set_option linter.unusedVariables false
set_option linter.unusedSimpArgs false

namespace Cd
def kC : Co := ⟨[⟨24, 0, 1⟩, ⟨20, 0, 0⟩], 0, 0, false⟩
def kD : Co := ⟨[⟨7, 0, 0⟩, ⟨20, 0, 0⟩], 0, 0, false⟩
theorem kC_ok : kC.Ok := ⟨fun i hi => by simp [kC] at hi; rcases hi with rfl | rfl <;> exact ⟨⟨by decide, by decide⟩, ⟨by decide, by decide⟩, by decide, by decide⟩, ⟨by decide, by decide⟩, by decide, by decide⟩
theorem kD_ok : kD.Ok := ⟨fun i hi => by simp [kD] at hi; rcases hi with rfl | rfl <;> exact ⟨⟨by decide, by decide⟩, ⟨by decide, by decide⟩, by decide, by decide⟩, ⟨by decide, by decide⟩, by decide, by decide⟩
theorem kC_cl : Cl [kC] kC [0, 0] := by
  have r1 : Rc [kC] kC 1 0 := Rc.one (l := [kC]) (c := kC) 0 0 ⟨24, 0, 1⟩ .zero (by omega) rfl (by decide)
  refine ⟨rfl, rfl, fun p h e => ?_, fun p h i e n ei => ?_⟩
  · match p, e with
    | 0, e => simp at e; subst e; exact .inr .zero
    | 1, e => simp at e; subst e; exact .inr r1
    | p + 2, e => simp at e
  · match p, e, ei with
    | 0, e, ei =>
      simp at e; subst e
      simp [kC] at ei; subst ei
      exact ⟨by decide, by omega, fun _ => by decide, fun _ => ⟨by decide, by decide, by decide, by decide, by decide⟩⟩
    | 1, e, ei =>
      simp at e; subst e
      simp [kC] at ei; subst ei
      exact ⟨by decide, by omega, fun _ => by decide, fun h => absurd rfl h⟩
    | p + 2, e, ei => simp at e
theorem kC_fit : Fit top [kC] kC := kC_cl.fit (by decide) (fun i hi => by simp [kC] at hi; rcases hi with rfl | rfl <;> exact ⟨by decide, by decide⟩)
theorem kC_hk : HK top [kC] 0 (some [0, 0]) := .inl ⟨by omega, kC, rfl, kC_cl, kC_fit⟩
theorem kC_snd : Snd top [kC] 0 := ⟨by decide, by omega, ⟨kC, rfl, rfl, rfl⟩, fun c hc => by simp at hc; subst hc; exact kC_fit⟩
theorem kD_snd : ¬ Snd top [kD] 0 := fun ⟨_, _, _, h⟩ => by
  have f := h kD (List.mem_cons_self ..)
  obtain ⟨_, i, e, a, _⟩ := f.lo 0 0 .zero
  simp [kD] at e
  subst e
  exact absurd a (by decide)
theorem k_tx : tx ⟨4, 2, 5⟩ = [105, 110, 100, 101, 120, 32, 50, 32, 53] := by decide +kernel
theorem k_mk : tx ⟨24, 0, 1⟩ = [109, 97, 114, 107, 32, 48, 32, 49] := by decide +kernel
theorem k_pz : pz [109, 97, 114, 107, 32, 48, 32, 49] = some ⟨24, 0, 1⟩ := by
  rw [← k_mk]
  exact pz_tx (by decide) ⟨by decide, by decide⟩ ⟨by decide, by decide⟩
theorem k_ws : Pl.ws [97, 100, 100, 32, 49] = [[97, 100, 100], [49]] := by decide +kernel
theorem k_no : pz [97, 100, 100, 32, 49] = none := by
  unfold pz
  rw [if_neg (by decide), k_ws]
  exact if_neg (by decide +kernel)
theorem k_pr : pr 0 kC.ins = [48, 32, 109, 97, 114, 107, 32, 48, 32, 49, 10, 49, 32, 108, 101, 97, 118, 101, 32, 48, 10] := by decide +kernel
end Cd
/-- A code of two instructions, laid in two new blocks. -/
abbrev i2B (x y : Cd.In) : Obj := .cells #[.int .i64 x.op, .int .i64 x.n, .int .i64 x.m, .int .i64 y.op, .int .i64 y.n, .int .i64 y.m] 59
abbrev c1B (g : Nat) (c : Cd.Co) : Obj := .cells #[.slice (some ⟨g, 0, none⟩) 2 2, .int .i64 c.cells, .int .i64 c.params, .bool c.ans] 55
theorem cos_two {w : World} {g h : Nat} {x y : Cd.In} {c : Cd.Co} (hc : c.ins = [x, y]) (hg : g < w.heap.size) (hh : h < w.heap.size) (e1 : w.heap[g]? = some (i2B x y)) (e2 : w.heap[h]? = some (c1B g c)) : CoS w.heap.size w (some ⟨h, 0, none⟩) [c] ∧ CoAt w.heap.size w h 0 c (some ⟨g, 0, none⟩) 2 := by
  have at_ : CoAt w.heap.size w h 0 c (some ⟨g, 0, none⟩) 2 := by
    refine ⟨?_, ?_, ?_, ?_, ⟨by rw [hc]; simp, fun _ => ⟨g, 0, rfl, hg, fun j i hj => ?_⟩⟩, by rw [hc]; simp⟩
    · rw [hc]; simp [World.cell?, e2]
    · simp [World.cell?, e2]
    · simp [World.cell?, e2]
    · simp [World.cell?, e2]
    · rw [hc] at hj
      match j, hj with
      | 0, hj => simp at hj; subst hj; exact ⟨by simp [World.cell?, e1], by simp [World.cell?, e1], by simp [World.cell?, e1]⟩
      | 1, hj => simp at hj; subst hj; exact ⟨by simp [World.cell?, e1], by simp [World.cell?, e1], by simp [World.cell?, e1]⟩
      | j + 2, hj => simp at hj
  refine ⟨⟨by simp, fun _ => ⟨h, 0, rfl, hh, fun j d hj => ?_⟩⟩, at_⟩
  match j, hj with
  | 0, hj => simp at hj; subst hj; exact ⟨_, _, at_⟩
  | j + 1, hj => simp at hj
theorem alloc_kp (w : World) (o : Obj) {k : Nat} (h : k < w.heap.size) : (w.alloc o).heap[k]? = w.heap[k]? := ((Below.refl w.heap.size w).alloc (Nat.le_refl _) o).block k h
theorem alloc_new (w : World) (o : Obj) {k : Nat} (h : k = w.heap.size) : (w.alloc o).heap[k]? = some o := by subst h; exact alloc_at w o
/-- Five new blocks. -/
theorem five_at (w : World) (o0 o1 o2 o3 o4 : Obj) (W : World) (h : W = ((((w.alloc o0).alloc o1).alloc o2).alloc o3).alloc o4) : W.heap[w.heap.size + 1]? = some o1 ∧ W.heap[w.heap.size + 1 + 1]? = some o2 ∧ W.heap[w.heap.size + 1 + 1 + 1]? = some o3 ∧ W.heap[w.heap.size + 1 + 1 + 1 + 1]? = some o4 ∧ W.heap.size = w.heap.size + 5 ∧ Below w.heap.size w W := by
  subst h
  refine ⟨?_, ?_, ?_, ?_, by simp, (((((Below.refl _ _).alloc (Nat.le_refl _) _).alloc (by simp) _).alloc (by simp; omega) _).alloc (by simp; omega) _).alloc (by simp; omega) _⟩
  · rw [alloc_kp _ _ (by simp), alloc_kp _ _ (by simp), alloc_kp _ _ (by simp), alloc_new _ _ (by simp)]
  · rw [alloc_kp _ _ (by simp), alloc_kp _ _ (by simp), alloc_new _ _ (by simp)]
  · rw [alloc_kp _ _ (by simp), alloc_new _ _ (by simp)]
  · rw [alloc_new _ _ (by simp)]
set_option maxRecDepth 100000 in
set_option maxHeartbeats 8000000 in
theorem known8 (B : Nat) (w : World) (ht : Tt B w) (hm : Tm B w) : Calls Tryd.prog 10 #[] w fun e w' => e = .returned (.bool true) ∧ Below w.heap.size w w' := by
  have HT : Hid (Tt B w) := ht
  have HM : Hid (Tm B w) := hm
  have E1 : Hid (Calls Tryd.prog 31 #[.agg #[.int .i64 4, .int .i64 2, .int .i64 5]] w fun e w' => e = .returned (.tuple #[.string ⟨#[105, 110, 100, 101, 120, 32, 50, 32, 53]⟩, .int .i64 0]) ∧ Below w.heap.size w w') := by
    have := cdText_any ⟨4, 2, 5⟩ B w ht ⟨⟨by decide, by decide⟩, ⟨by decide, by decide⟩, by decide, by decide⟩
    unfold txE at this
    rw [if_pos (by decide), Cd.k_tx] at this
    exact this
  have E2 : Hid (∀ W, Below w.heap.size w W → Calls Tryd.prog 32 #[.string ⟨#[109, 97, 114, 107, 32, 48, 32, 49]⟩] W fun e w' => e = .returned (.tuple #[.agg #[.int .i64 24, .int .i64 0, .int .i64 1], .int .i64 0]) ∧ Below W.heap.size W w') := fun W hW => by
    have := cdParse_any ⟨#[109, 97, 114, 107, 32, 48, 32, 49]⟩ B W (HT.out.later hW) (by decide)
    rw [pzE_yes Cd.k_pz] at this
    exact this
  have E3 : Hid (∀ W, Below w.heap.size w W → Calls Tryd.prog 32 #[.string ⟨#[97, 100, 100, 32, 49]⟩] W fun e w' => e = .returned (.tuple #[.agg #[.int .i64 0, .int .i64 0, .int .i64 0], .int .i64 61]) ∧ Below W.heap.size W w') := fun W hW => by
    have := cdParse_any ⟨#[97, 100, 100, 32, 49]⟩ B W (HT.out.later hW) (by decide)
    rw [pzE_no Cd.k_no] at this
    exact this
  clear ht hm
  go_enter Tryd.func10, Tryd.ntmps10
  go_wp2_with fail
  refine Calls.mono E1.out ?_
  rintro e1 w1 ⟨rfl, b1⟩
  have B1 : Hid (Below w.heap.size w w1) := b1
  clear b1 E1
  go_wp2_with fail
  refine Calls.mono (E2.out _ B1.out) ?_
  rintro e2 w2 ⟨rfl, b2⟩
  have B2 : Hid (Below w.heap.size w w2) := B1.out.trans (b2.mono B1.out.size)
  clear b2 E2 B1
  obtain ⟨W2, hW2⟩ : ∃ W2, W2 = w2.alloc (inB ⟨24, 0, 1⟩) := ⟨_, rfl⟩
  obtain ⟨bi, hbi⟩ : ∃ bi, bi = w2.heap.size := ⟨_, rfl⟩
  obtain ⟨t0, t1, t2, b2⟩ := in_box w2 ⟨24, 0, 1⟩ bi W2 hbi hW2
  have bil : bi < W2.heap.size := by rw [hbi, hW2]; simp
  have BW2 : Hid (Below w.heap.size w W2) := B2.out.trans (b2.mono B2.out.size)
  clear b2 B2
  go_upto_region 3 with fail
  rw [← hW2, ← hbi]
  clear hW2 hbi
  go_wp2_with fail
  refine Calls.mono (E3.out _ BW2.out) ?_
  rintro e3 w3 ⟨rfl, b3⟩
  have s0 := (b3.cell (p := ⟨bi, 0, none⟩) bil).trans t0
  have s1 := (b3.cell (p := ⟨bi, 1, none⟩) bil).trans t1
  have s2 := (b3.cell (p := ⟨bi, 2, none⟩) bil).trans t2
  have bil3 : bi < w3.heap.size := Nat.lt_of_lt_of_le bil b3.size
  have B3 : Hid (Below w.heap.size w w3) := BW2.out.trans (b3.mono BW2.out.size)
  clear b3 E3 BW2 t0 t1 t2 bil
  obtain ⟨z, hz⟩ : ∃ z, z = w3.heap.size := ⟨_, rfl⟩
  obtain ⟨W5, hW5⟩ : ∃ W5, W5 = ((((w3.alloc (.cells #[.int .i64 0, .int .i64 0, .int .i64 0] 59)).alloc (.cells #[.int .i64 24, .int .i64 0, .int .i64 1, .int .i64 20, .int .i64 0, .int .i64 0] 59)).alloc (.cells #[.slice (some ⟨w3.heap.size + 1, 0, none⟩) 2 2, .int .i64 0, .int .i64 0, .bool false] 55)).alloc (.cells #[.int .i64 7, .int .i64 0, .int .i64 0, .int .i64 20, .int .i64 0, .int .i64 0] 59)).alloc (.cells #[.slice (some ⟨w3.heap.size + 1 + 1 + 1, 0, none⟩) 2 2, .int .i64 0, .int .i64 0, .bool false] 55) := ⟨_, rfl⟩
  obtain ⟨h1, h2, h3, h4, hs5, b5⟩ := five_at w3 (.cells #[.int .i64 0, .int .i64 0, .int .i64 0] 59) (i2B ⟨24, 0, 1⟩ ⟨20, 0, 0⟩) (c1B (w3.heap.size + 1) Cd.kC) (i2B ⟨7, 0, 0⟩ ⟨20, 0, 0⟩) (c1B (w3.heap.size + 1 + 1 + 1) Cd.kD) W5 hW5
  have B5 : Hid (Below w.heap.size w W5) := B3.out.trans (b5.mono B3.out.size)
  have T5 := HT.out.later B5.out
  have M5 := HM.out.later (B5.out.mono HT.out.hB)
  obtain ⟨co1, at1⟩ := cos_two (w := W5) (g := w3.heap.size + 1) (h := w3.heap.size + 1 + 1) (x := ⟨24, 0, 1⟩) (y := ⟨20, 0, 0⟩) (c := Cd.kC) rfl (by omega) (by omega) h1 h2
  obtain ⟨co2, at2⟩ := cos_two (w := W5) (g := w3.heap.size + 1 + 1 + 1) (h := w3.heap.size + 1 + 1 + 1 + 1) (x := ⟨7, 0, 0⟩) (y := ⟨20, 0, 0⟩) (c := Cd.kD) rfl (by omega) (by omega) h3 h4
  have KC : Hid (CdH W5.heap.size W5 (some ⟨w3.heap.size + 1 + 1, 0, none⟩) [Cd.kC]) := ⟨Nat.le_refl _, co1, fun d hd => by simp at hd; subst hd; exact Cd.kC_ok, T5.tn.mono T5.hB, M5.mono T5.hB⟩
  have KD : Hid (CdH W5.heap.size W5 (some ⟨w3.heap.size + 1 + 1 + 1 + 1, 0, none⟩) [Cd.kD]) := ⟨Nat.le_refl _, co2, fun d hd => by simp at hd; subst hd; exact Cd.kD_ok, T5.tn.mono T5.hB, M5.mono T5.hB⟩
  have EH : Hid (Calls Tryd.prog 33 #[.slice (some ⟨w3.heap.size + 1 + 1, 0, none⟩) 1 1, .int .i64 0] W5 fun e w' => Below W5.heap.size W5 w' ∧ ∃ gh, e = .returned (.tuple #[.slice (some ⟨gh, 0, none⟩) 2 2, .bool true])) := by
    refine (cdHts_any 0 W5.heap.size _ 1 [Cd.kC] W5 KC.out).mono fun e w' ⟨r, hr, hb, he⟩ => ⟨hb, ?_⟩
    have := hr.uniq Cd.kC_hk
    subst this
    obtain ⟨gh, he, _⟩ := he
    exact ⟨gh, he⟩
  have ES : Hid (∀ W, Below W5.heap.size W5 W → Calls Tryd.prog 11 #[.slice (some ⟨w3.heap.size + 1 + 1, 0, none⟩) 1 1, .int .i64 0] W fun e w' => e = .returned (.bool true) ∧ Below W.heap.size W w') := fun W hW => by
    refine (cdSnd_any 0 W5.heap.size _ 1 [Cd.kC] W (KC.out.later hW)).mono fun e w' ⟨b, he, hb, hl⟩ => ⟨?_, hl⟩
    rw [he, hb.2 Cd.kC_snd]
  have ED : Hid (∀ W, Below W5.heap.size W5 W → Calls Tryd.prog 11 #[.slice (some ⟨w3.heap.size + 1 + 1 + 1 + 1, 0, none⟩) 1 1, .int .i64 0] W fun e w' => e = .returned (.bool false) ∧ Below W.heap.size W w') := fun W hW => by
    refine (cdSnd_any 0 W5.heap.size _ 1 [Cd.kD] W (KD.out.later hW)).mono fun e w' ⟨b, he, hb, hl⟩ => ⟨?_, hl⟩
    cases b with
    | false => exact he
    | true => exact absurd (hb.1 rfl) Cd.kD_snd
  have EP : Hid (∀ W, Below W5.heap.size W5 W → Calls Tryd.prog 34 #[.agg #[.slice (some ⟨w3.heap.size + 1, 0, none⟩) 2 2, .int .i64 0, .int .i64 0, .bool false]] W fun e w' => e = .returned (.string ⟨#[48, 32, 109, 97, 114, 107, 32, 48, 32, 49, 10, 49, 32, 108, 101, 97, 118, 101, 32, 48, 10]⟩) ∧ Below W.heap.size W w') := fun W hW => by
    have t := T5.later hW
    have := cdPrint_any W5.heap.size (some ⟨w3.heap.size + 1, 0, none⟩) 2 Cd.kC W ⟨hW.size, t.tn.mono (Nat.le_trans T5.hB (Nat.le_refl _)), ⟨Nat.lt_of_lt_of_le t.tw.lt T5.hB, t.tw.get⟩, t.tb, t.mx⟩ (at1.hi.later hW) Cd.kC_ok (by decide)
    rw [Cd.k_pr] at this
    exact this
  have c10 : W5.cell? ⟨w3.heap.size + 1 + 1, 0, none⟩ = some (.slice (some ⟨w3.heap.size + 1, 0, none⟩) 2 2) := at1.c0
  have c11 : W5.cell? ⟨w3.heap.size + 1 + 1, 1, none⟩ = some (.int .i64 0) := at1.c1
  have c12 : W5.cell? ⟨w3.heap.size + 1 + 1, 2, none⟩ = some (.int .i64 0) := at1.c2
  have c13 : W5.cell? ⟨w3.heap.size + 1 + 1, 3, none⟩ = some (.bool false) := at1.c3
  have u0 := (b5.cell (p := ⟨bi, 0, none⟩) bil3).trans s0
  have u1 := (b5.cell (p := ⟨bi, 1, none⟩) bil3).trans s1
  have u2 := (b5.cell (p := ⟨bi, 2, none⟩) bil3).trans s2
  have bil5 : bi < W5.heap.size := Nat.lt_of_lt_of_le bil3 b5.size
  have q2l : w3.heap.size + 1 + 1 < W5.heap.size := by omega
  clear h1 h2 h3 h4 hs5 b5 T5 M5 co1 co2 at1 at2 KC KD s0 s1 s2 bil3 B3
  go_upto_region 6 with fail
  rw [← hW5]
  clear hW5
  obtain ⟨q1, hq1⟩ : ∃ q1, q1 = w3.heap.size + 1 := ⟨_, rfl⟩
  rw [← hq1] at EH ES ED EP c10 c11 c12 c13 q2l ⊢
  clear hq1 hz
  go_wp2_with fail
  refine Calls.mono EH.out ?_
  rintro e6 w6 ⟨b6, gh, rfl⟩
  have v0 := (b6.cell (p := ⟨bi, 0, none⟩) bil5).trans u0
  have v1 := (b6.cell (p := ⟨bi, 1, none⟩) bil5).trans u1
  have v2 := (b6.cell (p := ⟨bi, 2, none⟩) bil5).trans u2
  have B6 : Hid (Below W5.heap.size W5 w6) := b6
  clear b6 EH u0 u1 u2
  go_wp2_with fail
  refine Calls.mono (ES.out _ B6.out) ?_
  rintro e7 w7 ⟨rfl, b7⟩
  have B7 : Hid (Below W5.heap.size W5 w7) := B6.out.trans (b7.mono B6.out.size)
  clear b7 ES B6 v0 v1 v2
  go_wp2_with fail
  refine Calls.mono (ED.out _ B7.out) ?_
  rintro e8 w8 ⟨rfl, b8⟩
  have b8' := B7.out.trans (b8.mono B7.out.size)
  have d0 := (b8'.cell (p := ⟨q1 + 1, 0, none⟩) q2l).trans c10
  have d1 := (b8'.cell (p := ⟨q1 + 1, 1, none⟩) q2l).trans c11
  have d2 := (b8'.cell (p := ⟨q1 + 1, 2, none⟩) q2l).trans c12
  have d3 := (b8'.cell (p := ⟨q1 + 1, 3, none⟩) q2l).trans c13
  have B8 : Hid (Below W5.heap.size W5 w8) := b8'
  clear b8 b8' ED B7 c10 c11 c12 c13
  go_wp2_with fail
  refine Calls.mono (EP.out _ B8.out) ?_
  rintro e9 w9 ⟨rfl, b9⟩
  have B9 : Hid (Below w.heap.size w w9) := (B5.out.trans (B8.out.mono B5.out.size)).trans (b9.mono (Nat.le_trans B5.out.size B8.out.size))
  clear b9 EP B8 d0 d1 d2 d3
  go_wp2_with fail
  go_ret
  exact ⟨rfl, B9.out⟩
end Go.Proofs.YtdllgbhdodjdbaaDoor
