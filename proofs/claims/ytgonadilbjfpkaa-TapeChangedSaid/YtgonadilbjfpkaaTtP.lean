/- Layer 13: TapeChanged. -/
import Derived.Test.YtgonadilbjfpkaaTtO
namespace Go.Proofs.Ytgonadilbjfpkaa
open Go.RowKit
set_option linter.unusedVariables false
set_option linter.unusedSimpArgs false
/-- What of a tape with one byte changed is read: nothing. -/
theorem rdIn_ch (a : List Int) (k : Nat) (x y : Int) (g c : Nat) (w : World) (ha : Tp.Byt (a ++ Tp.sl4 (Tp.sum a))) (hk : (a ++ Tp.sl4 (Tp.sum a))[k]? = some x) (hy : 0 ≤ y ∧ y ≤ 255) (hxy : x ≠ y) (hb : ByB w g ((a ++ Tp.sl4 (Tp.sum a)).set k y)) (hc : (a ++ Tp.sl4 (Tp.sum a)).length ≤ c) (hl : (a ++ Tp.sl4 (Tp.sum a)).length ≤ 1000000) :
    ∃ (i : Nat) (e : Int), e ≠ 0 ∧ Calls Try.prog 19 #[.slice (some ⟨g, 0, none⟩) (a ++ Tp.sl4 (Tp.sum a)).length c] w fun e' w' => e' = .returned (.tuple #[.slice none 0 0, .int .i64 (i : Int), .int .i64 e]) ∧ Below w.heap.size w w' := by
  have hx := ha x (List.mem_of_getElem? hk)
  obtain ⟨i, e, hr⟩ := Tp.ri_changed a k x y hk hx hy hxy
  have hyt : Tp.Byt ((a ++ Tp.sl4 (Tp.sum a)).set k y) := fun z hz => by
    rcases List.mem_or_eq_of_mem_set hz with h | h
    · exact ha z h
    · rw [h]; exact hy
  have r := readIn_any _ (some ⟨g, 0, none⟩) c w hyt hb.bys (Nat.le_refl _) (by rw [List.length_set]; exact hc) (by rw [List.length_set]; omega)
  rw [hr, List.length_set] at r
  exact ⟨i, e, Tp.riB_err _ _ _ hr, r⟩
theorem rdTr_ch (a : List Int) (k : Nat) (x y : Int) (g c : Nat) (w : World) (ha : Tp.Byt (a ++ Tp.sl4 (Tp.sum a))) (hk : (a ++ Tp.sl4 (Tp.sum a))[k]? = some x) (hy : 0 ≤ y ∧ y ≤ 255) (hxy : x ≠ y) (hb : ByB w g ((a ++ Tp.sl4 (Tp.sum a)).set k y)) (hc : (a ++ Tp.sl4 (Tp.sum a)).length ≤ c) (hl : (a ++ Tp.sl4 (Tp.sum a)).length ≤ 1000000) :
    ∃ (i : Nat) (e : Int), e ≠ 0 ∧ Calls Try.prog 25 #[.slice (some ⟨g, 0, none⟩) (a ++ Tp.sl4 (Tp.sum a)).length c] w fun e' w' => e' = .returned (.tuple #[.agg #[.slice none 0 0, .slice none 0 0, .slice none 0 0], .int .i64 (i : Int), .int .i64 e]) ∧ Below w.heap.size w w' := by
  have hx := ha x (List.mem_of_getElem? hk)
  obtain ⟨t, s, i, e, hr⟩ := Tp.rt_changed a k x y hk hx hy hxy
  have hyt : Tp.Byt ((a ++ Tp.sl4 (Tp.sum a)).set k y) := fun z hz => by
    rcases List.mem_or_eq_of_mem_set hz with h | h
    · exact ha z h
    · rw [h]; exact hy
  have r := readTr_any _ (some ⟨g, 0, none⟩) c w hyt hb.bys (Nat.le_refl _) (by rw [List.length_set]; exact hc) (by rw [List.length_set]; omega)
  rw [hr, List.length_set] at r
  exact ⟨i, e, Tp.rtB_err _ hyt _ _ _ _ hr, r⟩
theorem Tp.wi_len (l : List Int) (hl : l.length ≤ 1000) : 0 < (Tp.wi l).length ∧ (Tp.wi l).length ≤ 1000000 := by
  have h := bodyL l l.length
  rw [List.take_length] at h
  have e : (Tp.body l).length ≤ 15 + l.length * 10 := h
  have e4 : ∀ s, (Tp.sl4 s).length = 4 := fun s => rfl
  simp only [Tp.wi, List.length_append, e4]
  omega
theorem Tp.wt_pos (t : Tp.Tr) : 0 < (Tp.wt t).length := by
  have e4 : ∀ s, (Tp.sl4 s).length = 4 := fun s => rfl
  simp only [Tp.wt, List.length_append, e4]
  omega
set_option maxRecDepth 100000 in
set_option maxHeartbeats 8000000 in
theorem changed_walk (w : World) (a0 : Option Addr) (l : List Int) (c0 : Nat) (hm0 : NmS w.heap.size w a0 l) (hr : ∀ x ∈ l, -9223372036854775808 ≤ x ∧ x ≤ 9223372036854775807) (_hc0 : l.length ≤ c0) (hl0 : l.length ≤ 1000000000000000) (ta ca ea : Option Addr) (tc cc ec : Nat) (t : Tp.Tr) (ht : TrS w.heap.size w ta ca ea tc cc ec t) (at' : Int) (hat : -9223372036854775808 ≤ at' ∧ at' ≤ 9223372036854775807) (b : Int) (hb : 0 ≤ b ∧ b ≤ 255) :
    Calls Try.prog 8 #[.slice a0 l.length c0, trV ta ca ea tc cc ec t, .int .i64 at', .int .u8 b] w fun e w' => e = .returned (.bool true) ∧ Below w.heap.size w w' := by
  unfold trV
  have EM := hidT (many_any ta ca ea tc cc ec t.ticks.length t.counts.length t.events.length)
  by_cases hmany : 500 < t.ticks.length ∨ 500 < t.counts.length ∨ 500 < t.events.length
  · rw [decide_eq_true hmany] at EM
    clear hmany ht hm0 hr _hc0 hl0
    generalize t.ticks.length = n1 at *
    generalize t.counts.length = n2 at *
    generalize t.events.length = n3 at *
    generalize l.length = n0 at *
    go_enter Try.func8, Try.ntmps8
    go_wp2_with fail
    refine (EM.out _).mono ?_
    rintro e w3 ⟨rfl, k3'⟩
    have k3 : Below w.heap.size w w3 := ((Below.refl _ _).alloc (Nat.le_refl _) _).trans (k3'.mono (by simp))
    have bx3 : w3.heap[w.heap.size]? = some (.cells #[.slice ta n1 tc, .slice ca n2 cc, .slice ea n3 ec] 43 (0, 0)) := (k3'.block _ (by simp)).trans (heap_alloc_new w _)
    have hw3 : w.heap.size < w3.heap.size := Nat.lt_of_lt_of_le (by simp) k3'.size
    clear k3'
    go_wp2_with fail
    refine (known13 _).mono ?_
    rintro e w4 ⟨rfl, k4⟩
    have K4 := hidT (k3.trans (k4.mono k3.size))
    clear k4
    go_wp2_with fail
    go_ret
    exact ⟨rfl, K4.out⟩
  · rw [decide_eq_false hmany] at EM
    by_cases h10 : 1000 < l.length
    · have d : decide ((1000 : Int) < (l.length : Int)) = true := decide_eq_true (by omega)
      clear hmany ht hm0 hr _hc0
      generalize t.ticks.length = n1 at *
      generalize t.counts.length = n2 at *
      generalize t.events.length = n3 at *
      generalize l.length = n0 at *
      go_enter Try.func8, Try.ntmps8
      go_wp2_with fail
      refine (EM.out _).mono ?_
      rintro e w3 ⟨rfl, k3'⟩
      have k3 : Below w.heap.size w w3 := ((Below.refl _ _).alloc (Nat.le_refl _) _).trans (k3'.mono (by simp))
      have bx3 : w3.heap[w.heap.size]? = some (.cells #[.slice ta n1 tc, .slice ca n2 cc, .slice ea n3 ec] 43 (0, 0)) := (k3'.block _ (by simp)).trans (heap_alloc_new w _)
      have hw3 : w.heap.size < w3.heap.size := Nat.lt_of_lt_of_le (by simp) k3'.size
      clear k3'
      go_wp2_with fail
      refine (known13 _).mono ?_
      rintro e w4 ⟨rfl, k4⟩
      have K4 := hidT (k3.trans (k4.mono k3.size))
      clear k4
      go_wp2_with fail
      go_ret
      exact ⟨rfl, K4.out⟩
    · have d : decide ((1000 : Int) < (l.length : Int)) = false := decide_eq_false (by omega)
      by_cases hb0 : b = 0
      · have qb : (b == 0) = true := by simpa using hb0
        clear hmany ht hm0 hr _hc0
        generalize t.ticks.length = n1 at *
        generalize t.counts.length = n2 at *
        generalize t.events.length = n3 at *
        generalize l.length = n0 at *
        go_enter Try.func8, Try.ntmps8
        go_wp2_with fail
        refine (EM.out _).mono ?_
        rintro e w3 ⟨rfl, k3'⟩
        have k3 : Below w.heap.size w w3 := ((Below.refl _ _).alloc (Nat.le_refl _) _).trans (k3'.mono (by simp))
        have bx3 : w3.heap[w.heap.size]? = some (.cells #[.slice ta n1 tc, .slice ca n2 cc, .slice ea n3 ec] 43 (0, 0)) := (k3'.block _ (by simp)).trans (heap_alloc_new w _)
        have hw3 : w.heap.size < w3.heap.size := Nat.lt_of_lt_of_le (by simp) k3'.size
        clear k3'
        go_wp2_with fail
        refine (known13 _).mono ?_
        rintro e w4 ⟨rfl, k4⟩
        have K4 := hidT (k3.trans (k4.mono k3.size))
        clear k4
        go_wp2_with fail
        go_ret
        exact ⟨rfl, K4.out⟩
      · have qb : (b == 0) = false := by simpa using hb0
        have EW := hidT (fun W (q : Below w.heap.size w W) => writeIn_any l a0 c0 W ((hm0.later q (Nat.le_refl _)).mono q.size) (Nat.le_refl _) (by omega) hr)
        have ET := hidT (fun W (q : Below w.heap.size w W) => writeTr_any t ta ca ea tc cc ec W ((ht.later q (Nat.le_refl _)).mono q.size) (by omega) (by omega) (by omega))
        unfold trV at ET
        have hYi : Hid (Tp.Byt (Tp.wi l)) := Tp.Byt.app (bodyB l (by omega) hr) (Tp.sl4_byt _)
        have hYt : Hid (Tp.rightT t = true → Tp.Byt (Tp.wt t)) := fun h => Tp.Byt.app (bodyT_byt t (right_rg h) (fun x hx => (ht.re x hx).2)) (Tp.sl4_byt _)
        have hLi := hidT (Tp.wi_len l (by omega))
        have hLt : Hid (Tp.rightT t = true → (Tp.wt t).length ≤ 1000000) := fun h => Nat.le_trans (Tp.wt_len2 t h (by omega) (by omega)) (by decide)
        have hPt := hidT (Tp.wt_pos t)
        have HX := hidT (fun x hx => xor_u8 x b hx hb hb0)
        clear hmany ht hm0 hr _hc0 hb0
        generalize t.ticks.length = n1 at *
        generalize t.counts.length = n2 at *
        generalize t.events.length = n3 at *
        generalize l.length = n0 at *
        obtain ⟨r, hrl, EA⟩ := amongT at' ((Tp.wi l).length : Int) (by have := hLi.out.1; omega) (by have := hLi.out.2; omega)
        have hrN : r < (Tp.wi l).length := by omega
        obtain ⟨x, hx⟩ : ∃ x, (Tp.wi l)[r]? = some x := ⟨_, List.getElem?_eq_getElem hrN⟩
        obtain ⟨y, hye⟩ : ∃ y, y = bits .xor .u8 x b := ⟨_, rfl⟩
        have hxr := hYi.out x (List.mem_of_getElem? hx)
        have hyr := HX.out x hxr
        rw [← hye] at hyr
        have hye' := hye.symm
        have HEA := hidT EA
        have HHX := hidT hx
        have HYR := hidT hyr
        obtain ⟨N, hN⟩ : ∃ n, n = (Tp.wi l).length := ⟨_, rfl⟩
        have HN := hidT hN
        rw [← hN] at HEA hrN
        have hr0 : (r : Int) < (N : Int) := by omega
        have q0 : ((N : Int) == 0) = false := by simp; omega
        have RI : Hid (∀ W g c, ByB W g ((Tp.wi l).set r y) → N ≤ c → ∃ (i : Nat) (e : Int), e ≠ 0 ∧ Calls Try.prog 19 #[.slice (some ⟨g, 0, none⟩) N c] W fun e' w' => e' = .returned (.tuple #[.slice none 0 0, .int .i64 (i : Int), .int .i64 e]) ∧ Below W.heap.size W w') := fun W g c h1 h2 => by
          rw [hN] at h2 ⊢
          exact rdIn_ch (Tp.body l) r x y g c W hYi.out hx ⟨hyr.1, hyr.2.1⟩ hyr.2.2 h1 h2 hLi.out.2
        have hNle : N ≤ 1000000 := by rw [hN]; exact hLi.out.2
        clear EA hx hyr hye hrl hN
        go_enter Try.func8, Try.ntmps8
        go_wp2_with fail
        refine (EM.out _).mono ?_
        rintro e w3 ⟨rfl, k3'⟩
        have k3 : Below w.heap.size w w3 := ((Below.refl _ _).alloc (Nat.le_refl _) _).trans (k3'.mono (by simp))
        have bx3 : w3.heap[w.heap.size]? = some (.cells #[.slice ta n1 tc, .slice ca n2 cc, .slice ea n3 ec] 43 (0, 0)) := (k3'.block _ (by simp)).trans (heap_alloc_new w _)
        have hw3 : w.heap.size < w3.heap.size := Nat.lt_of_lt_of_le (by simp) k3'.size
        clear k3'
        go_wp2_with fail
        have K3 := hidT k3
        clear k3
        refine (EW.out _ K3.out).mono ?_
        rintro e w4 ⟨v4, rfl, o4, k4⟩
        obtain ⟨g4, c4, hv4, hb4, hc4, B4⟩ := o4.open' hLi.out.1
        subst hv4
        rw [← HN.out] at hc4 ⊢
        have K4 : Hid (Below w.heap.size w w4) := K3.out.trans (k4.mono K3.out.size)
        have bx4 := (k4.block _ hw3).trans bx3
        have t0 : w4.cell? ⟨w.heap.size, 0, none⟩ = some (.slice ta n1 tc) := by simp [World.cell?, bx4]
        have t1 : w4.cell? ⟨w.heap.size, 1, none⟩ = some (.slice ca n2 cc) := by simp [World.cell?, bx4]
        have t2 : w4.cell? ⟨w.heap.size, 2, none⟩ = some (.slice ea n3 ec) := by simp [World.cell?, bx4]
        clear bx4 bx3 hw3
        have hg4 := B4.lt
        have HB4 := hidT B4
        have Hb4 : Hid (w.heap.size ≤ g4) := Nat.le_trans K3.out.size hb4
        clear o4 k4 B4 hb4
        go_wp2_with fail
        refine (ET.out _ K4.out).mono ?_
        by_cases hR : Tp.rightT t = true
        · simp only [wtQ, if_pos hR]
          rintro e w5 ⟨v5, rfl, o5, k5⟩
          obtain ⟨g5, c5, hv5, hb5, hc5, B5⟩ := o5.open' hPt.out
          subst hv5
          have K5 : Hid (Below w.heap.size w w5) := K4.out.trans (k5.mono K4.out.size)
          have HB45 : Hid (ByB w5 g4 (Tp.wi l)) := HB4.out.kept (k5.block g4 hg4)
          have HB5 := hidT B5
          have Hb5 : Hid (g4 < g5) := Nat.lt_of_lt_of_le hg4 hb5
          have cx : w5.cell? ⟨g4, r, none⟩ = some (.int .u8 x) := HB45.out.c r x HHX.out
          have cf : w5.frozen? ⟨g4, r, none⟩ = false := HB45.out.f r
          obtain ⟨r2, hrl2, EA2⟩ := amongT at' ((Tp.wt t).length : Int) (by have := hPt.out; omega) (by have := hLt.out hR; omega)
          have hrN2 : r2 < (Tp.wt t).length := by omega
          obtain ⟨x2, hx2⟩ : ∃ x, (Tp.wt t)[r2]? = some x := ⟨_, List.getElem?_eq_getElem hrN2⟩
          obtain ⟨y2, hye2⟩ : ∃ y, y = bits .xor .u8 x2 b := ⟨_, rfl⟩
          have hxr2 := hYt.out hR x2 (List.mem_of_getElem? hx2)
          have hyr2 := HX.out x2 hxr2
          rw [← hye2] at hyr2
          have hye2' := hye2.symm
          have HEA2 := hidT EA2
          have HHX2 := hidT hx2
          obtain ⟨N2, hN2⟩ : ∃ n, n = (Tp.wt t).length := ⟨_, rfl⟩
          have HN2 := hidT hN2
          rw [← hN2] at HEA2 hrN2 hc5 ⊢
          have hr02 : (r2 : Int) < (N2 : Int) := by omega
          have q02 : ((N2 : Int) == 0) = false := by simp; omega
          have RT : Hid (∀ W g c, ByB W g ((Tp.wt t).set r2 y2) → N2 ≤ c → ∃ (i : Nat) (e : Int), e ≠ 0 ∧ Calls Try.prog 25 #[.slice (some ⟨g, 0, none⟩) N2 c] W fun e' w' => e' = .returned (.tuple #[.agg #[.slice none 0 0, .slice none 0 0, .slice none 0 0], .int .i64 (i : Int), .int .i64 e]) ∧ Below W.heap.size W w') := fun W g c h1 h2 => by
            rw [hN2] at h2 ⊢
            exact rdTr_ch (Tp.bodyT t) r2 x2 y2 g c W (hYt.out hR) hx2 ⟨hyr2.1, hyr2.2.1⟩ hyr2.2.2 h1 h2 (hLt.out hR)
          have hNle2 : N2 ≤ 1000000 := by rw [hN2]; exact hLt.out hR
          clear o5 k5 B5 hb5 EA2 hx2 hyr2 hye2 hrl2 hN2 HB4 EW ET
          go_wp2_with fail
          refine (HEA.out _).mono ?_
          rintro e w6 ⟨rfl, rfl⟩
          go_wp2_with fail
          have B6 := HB45.out.set r y (by rw [← HN.out]; exact hrN)
          obtain ⟨i7, e7, he7, RC⟩ := RI.out _ g4 c4 B6 hc4
          have qe : (e7 == 0) = false := by simpa using he7
          have HRC := hidT RC
          have K6 : Hid (Below w.heap.size w (w6.setCell ⟨g4, r, none⟩ (.int .u8 y))) := K5.out.trans ⟨rfl, rfl, rfl, by simp, fun i hi => heap_setCell_other _ _ i _ (by have := Hb4.out; simp; omega)⟩
          have HB6 : Hid (ByB (w6.setCell ⟨g4, r, none⟩ (.int .u8 y)) g5 (Tp.wt t)) := HB5.out.kept (heap_setCell_other _ _ g5 _ (by have := Hb5.out; simp; omega))
          clear RC B6 cx cf HB45 HB5 he7
          refine HRC.out.mono ?_
          rintro e w7 ⟨rfl, k7⟩
          have K7 : Hid (Below w.heap.size w w7) := K6.out.trans (k7.mono K6.out.size)
          have HB7 : Hid (ByB w7 g5 (Tp.wt t)) := HB6.out.kept (k7.block g5 HB6.out.lt)
          have cx : w7.cell? ⟨g5, r2, none⟩ = some (.int .u8 x2) := HB7.out.c r2 x2 HHX2.out
          have cf : w7.frozen? ⟨g5, r2, none⟩ = false := HB7.out.f r2
          have Hb5' : Hid (w.heap.size ≤ g5) := by have := Hb4.out; have := Hb5.out; unfold Hid; omega
          clear k7 K6 HB6 HRC K5 K4 K3
          go_wp2_with fail
          refine (HEA2.out _).mono ?_
          rintro e w8 ⟨rfl, rfl⟩
          go_wp2_with fail
          have B8 := HB7.out.set r2 y2 (by rw [← HN2.out]; exact hrN2)
          obtain ⟨i9, e9, he9, RC⟩ := RT.out _ g5 c5 B8 hc5
          have qe9 : (e9 == 0) = false := by simpa using he9
          have qe8 : (e9 != 0) = true := by simpa using he9
          have HRC := hidT RC
          have K8 : Hid (Below w.heap.size w (w8.setCell ⟨g5, r2, none⟩ (.int .u8 y2))) := K7.out.trans ⟨rfl, rfl, rfl, by simp, fun i hi => heap_setCell_other _ _ i _ (by have := Hb5'.out; simp; omega)⟩
          clear RC B8 cx cf HB7
          refine HRC.out.mono ?_
          rintro e w9 ⟨rfl, k9⟩
          have K9 : Hid (Below w.heap.size w w9) := K8.out.trans (k9.mono K8.out.size)
          clear k9 K8 K7 HRC
          go_wp2_with fail
          refine (known13 _).mono ?_
          rintro e w10 ⟨rfl, k10⟩
          have K9a := K9.out.alloc (K9.out.size) (.cells #[.slice none 0 0, .slice none 0 0, .slice none 0 0] 43)
          have K10 := hidT (K9a.trans (k10.mono K9a.size))
          clear k10
          go_wp2_with fail
          go_ret
          exact ⟨rfl, K10.out⟩
        · simp only [wtQ, if_neg hR]
          rintro e w5 ⟨rfl, k5⟩
          have K5 : Hid (Below w.heap.size w w5) := K4.out.trans (k5.mono K4.out.size)
          have HB45 : Hid (ByB w5 g4 (Tp.wi l)) := HB4.out.kept (k5.block g4 hg4)
          have cx : w5.cell? ⟨g4, r, none⟩ = some (.int .u8 x) := HB45.out.c r x HHX.out
          have cf : w5.frozen? ⟨g4, r, none⟩ = false := HB45.out.f r
          clear k5 HB4 EW ET
          go_wp2_with fail
          refine (HEA.out _).mono ?_
          rintro e w6 ⟨rfl, rfl⟩
          go_wp2_with fail
          have B6 := HB45.out.set r y (by rw [← HN.out]; exact hrN)
          obtain ⟨i7, e7, he7, RC⟩ := RI.out _ g4 c4 B6 hc4
          have qe : (e7 == 0) = false := by simpa using he7
          have HRC := hidT RC
          have K6 : Hid (Below w.heap.size w (w6.setCell ⟨g4, r, none⟩ (.int .u8 y))) := K5.out.trans ⟨rfl, rfl, rfl, by simp, fun i hi => heap_setCell_other _ _ i _ (by have := Hb4.out; simp; omega)⟩
          clear RC B6 cx cf HB45 he7
          refine HRC.out.mono ?_
          rintro e w7 ⟨rfl, k7⟩
          have K7 : Hid (Below w.heap.size w w7) := K6.out.trans (k7.mono K6.out.size)
          clear k7 K6 HRC K5 K4 K3
          go_wp2_with fail
          refine (known13 _).mono ?_
          rintro e w10 ⟨rfl, k10⟩
          have K10 := hidT (K7.out.trans (k10.mono K7.out.size))
          clear k10
          go_wp2_with fail
          go_ret
          exact ⟨rfl, K10.out⟩
end Go.Proofs.Ytgonadilbjfpkaa
