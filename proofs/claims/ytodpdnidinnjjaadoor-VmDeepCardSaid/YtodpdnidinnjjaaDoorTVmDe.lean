/- VmDeep, walked: so many procedures may be begun in one another; one more is a trap. -/
import Derived.Test.YtodpdnidinnjjaaDoorTVmDx
namespace Go.Proofs.YtodpdnidinnjjaaDoor
open Go.RowKit
set_option linter.unusedVariables false
set_option linter.unusedSimpArgs false

theorem vmAmong (a n : Int) (hn : 0 < n) (hn2 : n ≤ 1000000) : ∃ r : Nat, (r : Int) < n ∧ ∀ w, Calls Tryd.prog 21 #[.int .i64 a, .int .i64 n] w fun e w' => e = .returned (.int .i64 (r : Int)) ∧ w' = w := by
  have hb1 := Int.tmod_lt_of_pos a hn
  have hb2 := Int.lt_tmod_of_pos a hn
  generalize hq : a.tmod n = q at hb1 hb2
  by_cases h0 : 0 ≤ q
  · refine ⟨q.toNat, by omega, fun w => ?_⟩
    go_enter Tryd.func21, Tryd.ntmps21
    go_wp2
    go_ret
    exact ⟨by rw [Int.toNat_of_nonneg h0]; rfl, rfl⟩
  · obtain ⟨r, hr⟩ : ∃ r : Nat, q + n = (r : Int) := ⟨(q + n).toNat, by omega⟩
    refine ⟨r, by omega, fun w => ?_⟩
    have HR : Hid (q + n = (r : Int)) := hr
    clear hr
    go_enter Tryd.func21, Tryd.ntmps21
    go_wp2
    go_ret
    exact ⟨by rw [← HR.out]; rfl, rfl⟩
set_option maxRecDepth 100000 in
set_option maxHeartbeats 16000000 in
theorem deep9_walk (a : Int) (B : Nat) (w : World) (hB : B ≤ w.heap.size) (tn : Tn B w) (tm : Tm B w) : Calls Tryd.prog 7 #[.int .i64 a] w fun e w' => e = .returned (.bool true) ∧ Below w.heap.size w w' := by
  obtain ⟨n, hn, ea⟩ := vmAmong a 70 (by decide) (by decide)
  have EA : Hid _ := ea w
  have hn70 : n < 70 := by omega
  have EK : Hid (∀ X, Below w.heap.size w X → Calls Tryd.prog 10 #[] X fun e w' => e = .returned (.bool true) ∧ Below X.heap.size X w') := fun X hX => known9 B X (Nat.le_trans hB hX.size) (tn.later (hX.mono hB)) (tm.later (hX.mono hB))
  clear ea hn
  go_enter Tryd.func7, Tryd.ntmps7
  go_wp2_with fail
  refine Calls.mono EA.out ?_
  rintro e1 w1 ⟨rfl, rfl⟩
  clear EA
  obtain ⟨q, hq⟩ : ∃ q, q = w1.heap.size := ⟨_, rfl⟩
  obtain ⟨W, hW⟩ : ∃ W, W = (((w1.alloc (.cells (InX (Vm.dm n).ins).toArray 57)).alloc (.cells #[.slice (some ⟨q, 0, none⟩) 4 4, .int .i64 0, .int .i64 0, .bool false] 53)).alloc (.cells (InX Vm.df.ins).toArray 57)).alloc (.cells #[.slice (some ⟨q + 1 + 1, 0, none⟩) 8 8, .int .i64 1, .int .i64 1, .bool false] 53) := ⟨_, rfl⟩
  have b0 : Below w1.heap.size w1 W := by rw [hW]; exact (((((Below.refl _ _).alloc (Nat.le_refl _) _).alloc (by simp) _).alloc (by simp; omega) _).alloc (by simp; omega) _)
  have sW : W.heap.size = q + 1 + 1 + 1 + 1 := by rw [hW, hq]; simp
  have x0 : W.heap[q]? = some (.cells (InX (Vm.dm n).ins).toArray 57 (0, 0)) := by rw [hW, akp _ _ (by simp; omega), akp _ _ (by simp; omega), akp _ _ (by simp; omega), anw _ _ hq]
  have x1 : W.heap[q + 1]? = some (.cells #[.slice (some ⟨q, 0, none⟩) 4 4, .int .i64 0, .int .i64 0, .bool false] 53 (0, 0)) := by rw [hW, akp _ _ (by simp; omega), akp _ _ (by simp; omega), anw _ _ (by simp; omega)]
  have x2 : W.heap[q + 1 + 1]? = some (.cells (InX Vm.df.ins).toArray 57 (0, 0)) := by rw [hW, akp _ _ (by simp; omega), anw _ _ (by simp; omega)]
  have x3 : W.heap[q + 1 + 1 + 1]? = some (.cells #[.slice (some ⟨q + 1 + 1, 0, none⟩) 8 8, .int .i64 1, .int .i64 1, .bool false] 53 (0, 0)) := by rw [hW, anw _ _ (by simp; omega)]
  obtain ⟨X, hX⟩ : ∃ X, X = W.alloc (.cells (LcS [⟨some ⟨q, 0, none⟩, 4, Vm.dm n⟩, ⟨some ⟨q + 1 + 1, 0, none⟩, 8, Vm.df⟩]).toArray 53) := ⟨_, rfl⟩
  have bX : Below W.heap.size W X := by rw [hX]; exact (Below.refl _ _).alloc (Nat.le_refl _) _
  have sX : X.heap.size = W.heap.size + 1 := by rw [hX]; simp
  have y0 := (bX.block q (by omega)).trans x0
  have y2 := (bX.block (q + 1 + 1) (by omega)).trans x2
  have y4 : X.heap[W.heap.size]? = some (.cells (LcS [⟨some ⟨q, 0, none⟩, 4, Vm.dm n⟩, ⟨some ⟨q + 1 + 1, 0, none⟩, 8, Vm.df⟩]).toArray 53 (0, 0)) := by rw [hX, anw _ _ rfl]
  have co := cos_lit (w := X) (h := W.heap.size) (ps := [⟨some ⟨q, 0, none⟩, 4, Vm.dm n⟩, ⟨some ⟨q + 1 + 1, 0, none⟩, 8, Vm.df⟩]) (by omega) y4 (by simp) (fun p hp => by
    simp at hp
    rcases hp with rfl | rfl
    · exact ⟨⟨(by decide : (4 : Nat) ≤ 1000000000000000), fun _ => ⟨q, 0, rfl, by omega, ins_lit y0⟩⟩, (by decide : (4 : Nat) ≤ 4)⟩
    · exact ⟨⟨(by decide : (8 : Nat) ≤ 1000000000000000), fun _ => ⟨q + 1 + 1, 0, rfl, by omega, ins_lit y2⟩⟩, (by decide : (8 : Nat) ≤ 8)⟩)
  have BX : Hid (Below w1.heap.size w1 X) := b0.trans (bX.mono b0.size)
  have hz : Below B w1 X := BX.out.mono hB
  have hz2 : B ≤ X.heap.size := Nat.le_trans hB BX.out.size
  have CH : CdH X.heap.size X (some ⟨W.heap.size, 0, none⟩) [Vm.dm n, Vm.df] := ⟨Nat.le_refl _, co, fun d hd => by
    simp at hd
    rcases hd with rfl | rfl
    · exact Vm.dm_ok n hn70
    · exact Vm.df_ok, (tn.later hz).mono hz2, (tm.later hz).mono hz2⟩
  have EN : Hid (Calls Tryd.prog 20 #[.slice (some ⟨W.heap.size, 0, none⟩) 2 2, .int .i64 0, .slice none 0 0, .int .i64 1000] X fun e w' => ∃ m V, e = .returned (.tuple #[.pointer (some ⟨m, 0, none⟩), .int .i64 0]) ∧ VmO X.heap.size m w' V (Vm.dk n ⟨X, fun _ => False, X.heap.size⟩) ∧ Below X.heap.size X w') := vmNewO X.heap.size X _ none 2 0 [Vm.dm n, Vm.df] [] 0 (Vm.dm n) 1000 CH (fun h => by simp at h) (Vm.d_snd n) rfl ⟨by decide, by decide, by simp⟩
  have c10 : W.cell? ⟨q + 1, 0, none⟩ = some (.slice (some ⟨q, 0, none⟩) 4 4) := by simp [World.cell?, x1]
  have c11 : W.cell? ⟨q + 1, 1, none⟩ = some (.int .i64 0) := by simp [World.cell?, x1]
  have c12 : W.cell? ⟨q + 1, 2, none⟩ = some (.int .i64 0) := by simp [World.cell?, x1]
  have c13 : W.cell? ⟨q + 1, 3, none⟩ = some (.bool false) := by simp [World.cell?, x1]
  have c30 : W.cell? ⟨q + 1 + 1 + 1, 0, none⟩ = some (.slice (some ⟨q + 1 + 1, 0, none⟩) 8 8) := by simp [World.cell?, x3]
  have c31 : W.cell? ⟨q + 1 + 1 + 1, 1, none⟩ = some (.int .i64 1) := by simp [World.cell?, x3]
  have c32 : W.cell? ⟨q + 1 + 1 + 1, 2, none⟩ = some (.int .i64 1) := by simp [World.cell?, x3]
  have c33 : W.cell? ⟨q + 1 + 1 + 1, 3, none⟩ = some (.bool false) := by simp [World.cell?, x3]
  have hX2 : X = W.alloc (.cells #[.slice (some ⟨q, 0, none⟩) 4 4, .int .i64 0, .int .i64 0, .bool false, .slice (some ⟨q + 1 + 1, 0, none⟩) 8 8, .int .i64 1, .int .i64 1, .bool false] 53) := hX
  have hW2 : W = (((w1.alloc (.cells #[.int .i64 1, .int .i64 n, .int .i64 0, .int .i64 19, .int .i64 1, .int .i64 1, .int .i64 24, .int .i64 1, .int .i64 3, .int .i64 20, .int .i64 0, .int .i64 0] 57)).alloc (.cells #[.slice (some ⟨q, 0, none⟩) 4 4, .int .i64 0, .int .i64 0, .bool false] 53)).alloc (.cells #[.int .i64 24, .int .i64 0, .int .i64 1, .int .i64 2, .int .i64 0, .int .i64 0, .int .i64 18, .int .i64 7, .int .i64 0, .int .i64 2, .int .i64 0, .int .i64 0, .int .i64 1, .int .i64 1, .int .i64 0, .int .i64 8, .int .i64 0, .int .i64 0, .int .i64 19, .int .i64 1, .int .i64 1, .int .i64 20, .int .i64 0, .int .i64 0] 57)).alloc (.cells #[.slice (some ⟨q + 1 + 1, 0, none⟩) 8 8, .int .i64 1, .int .i64 1, .bool false] 53) := hW
  rw [hX2] at EN
  have HX : Hid (X = W.alloc (.cells #[.slice (some ⟨q, 0, none⟩) 4 4, .int .i64 0, .int .i64 0, .bool false, .slice (some ⟨q + 1 + 1, 0, none⟩) 8 8, .int .i64 1, .int .i64 1, .bool false] 53)) := hX2
  clear co CH y0 y2 y4 x0 x1 x2 x3 hX hX2 hW b0 bX sX sW hz hz2 tn tm
  go_upto_region 4 with fail
  rw [← hq, ← hW2]
  clear hW2 hq
  go_wp2_with fail
  refine Calls.mono EN.out ?_
  rintro e2 w2 ⟨m, V, rfl, h2, b2⟩
  rw [← HX.out] at h2 b2
  have B2 : Hid (Below w1.heap.size w1 w2) := BX.out.trans (b2.mono BX.out.size)
  obtain ⟨G, hG⟩ : ∃ G : Gh, G = ⟨X, fun _ => False, X.heap.size⟩ := ⟨_, rfl⟩
  rw [← hG] at h2
  have DE := Vm.dk_end n hn70 G
  have hlo : w1.heap.size ≤ X.heap.size := BX.out.size
  have ML : w1.heap.size ≤ m := Nat.le_trans hlo h2.lm
  have EE : Hid (Calls Tryd.prog 14 #[.pointer (some ⟨m, 0, none⟩), .int .i64 1000] w2 fun e w' => e = .returned (.bool true) ∧ ∃ V', VmO X.heap.size m w' V' (Vm.nth (Vm.dt n + 1) (Vm.dk n G)) ∧ Below m w2 w') := by
    refine (oEnd X.heap.size m w2 V (Vm.dk n G) Cd.top 1000 h2 (Vm.dk_wf n G) rfl (show (1000 : Int) ≤ 1000 by decide) (by decide) (fun j hj hle => ?_)).mono fun e w' ⟨h1, k, V', hk, ho, hf⟩ => ⟨h1, V', ?_, hf.b⟩
    · have hjk : j ≤ Vm.dt n := by
        rcases Nat.lt_or_ge (Vm.dt n) j with h | h
        · have := hj _ h
          rw [DE.1.no] at this
          cases this
        · exact h
      have : Vm.dt n ≤ 60 := by unfold Vm.dt; split <;> omega
      exact Vm.ev_le (Vm.on_all (Vm.dk_wf n G) rfl j hj) rfl (by omega)
    · rw [hk.uniq DE.1] at ho
      exact ho
  have DF : Hid (Vm.DkF n (Vm.nth (Vm.dt n + 1) (Vm.dk n G))) := DE.2
  clear h2 b2 EN hG DE HX BX c10 c11 c12 c13 c30 c31 c32 c33
  go_wp2_with fail
  refine Calls.mono EE.out ?_
  rintro e3 w3 ⟨rfl, V3, h3, b3⟩
  have B3 : Hid (Below w1.heap.size w1 w3) := B2.out.trans (b3.mono ML)
  obtain ⟨N, hN⟩ : ∃ N, N = Vm.nth (Vm.dt n + 1) (Vm.dk n G) := ⟨_, rfl⟩
  rw [← hN] at h3 DF
  clear b3 EE B2 hN
  by_cases h50 : n + 2 > 50
  · obtain ⟨ev, fr⟩ := DF.out.hi h50
    have ti : N.ticks = 49 := by rw [DF.out.ti]; unfold Vm.dt; rw [if_pos h50]; rfl
    have EV := oEvents _ _ _ _ _ h3 (by rw [ev]; decide)
    rw [ev] at EV
    have EVH : Hid _ := EV
    have H3 : Hid (VmO X.heap.size m w3 V3 N) := h3
    have d1 : decide ((n : Int) + 2 > 50) = true := decide_eq_true (by omega)
    have d2 : decide ((50 : Int) < (n : Int) + 2) = true := decide_eq_true (by omega)
    have HF : Hid (N.frames.length = 50 ∧ N.ticks = 49) := ⟨fr, ti⟩
    have h50i : (50 : Int) < (n : Int) + 2 := by omega
    clear EV h3 ev fr ti DF
    go_wp2_with fail
    refine Calls.mono EVH.out ?_
    rintro e4 w4 ⟨a4, c4, rfl, v4, b4⟩
    obtain ⟨g4, rfl, hg4, hl4, hc4⟩ := v4 (by decide)
    have s0 : w4.cell? ⟨g4, 0, none⟩ = some (.int .i64 4) := (hc4 0 _ rfl).1
    have s1 : w4.cell? ⟨g4, 1, none⟩ = some (.int .i64 4) := (hc4 0 _ rfl).2
    have B4 : Hid (Below w1.heap.size w1 w4) := B3.out.trans (b4.mono B3.out.size)
    have EF : Hid (Calls Tryd.prog 18 #[.pointer (some ⟨m, 0, none⟩)] w4 fun e w' => e = .returned (.int .i64 50) ∧ Below w4.heap.size w4 w') := by
      have := oFrames _ _ _ _ _ (H3.out.later b4)
      rw [HF.out.1] at this
      exact this
    have H4 : Hid (VmO X.heap.size m w4 V3 N) := H3.out.later b4
    clear v4 b4 hc4 EVH H3 B3
    go_wp2_with fail
    refine Calls.mono EF.out ?_
    rintro e5 w5 ⟨rfl, b5⟩
    have B5 : Hid (Below w1.heap.size w1 w5) := B4.out.trans (b5.mono B4.out.size)
    have ET : Hid (Calls Tryd.prog 16 #[.pointer (some ⟨m, 0, none⟩)] w5 fun e w' => e = .returned (.int .i64 49) ∧ Below w5.heap.size w5 w') := by
      have := oTicks _ _ _ _ _ (H4.out.later b5)
      rw [HF.out.2] at this
      exact this
    clear b5 EF B4 H4 s0 s1
    go_wp2_with fail
    refine Calls.mono ET.out ?_
    rintro e6 w6 ⟨rfl, b6⟩
    have B6 : Hid (Below w1.heap.size w1 w6) := B5.out.trans (b6.mono B5.out.size)
    clear b6 ET B5
    go_wp2_with fail
    refine Calls.mono (EK.out _ B6.out) ?_
    rintro e7 w7 ⟨rfl, b7⟩
    have FIN : Hid (Below w1.heap.size w1 w7) := B6.out.trans (b7.mono B6.out.size)
    clear b7 EK B6
    go_wp2_with fail
    go_ret
    exact ⟨rfl, FIN.out⟩
  · have ev := DF.out.lo h50
    have ti : N.ticks = (n : Int) + 2 := by rw [DF.out.ti]; unfold Vm.dt; rw [if_neg h50]; omega
    have EV := oEvents _ _ _ _ _ h3 (by rw [ev]; decide)
    rw [ev] at EV
    have EVH : Hid _ := EV
    have H3 : Hid (VmO X.heap.size m w3 V3 N) := h3
    have d1 : decide ((n : Int) + 2 > 50) = false := decide_eq_false (by omega)
    have d2 : decide ((50 : Int) < (n : Int) + 2) = false := decide_eq_false (by omega)
    have HF : Hid (N.ticks = (n : Int) + 2) := ti
    have h50i : ¬ (50 : Int) < (n : Int) + 2 := by omega
    clear EV h3 ev ti DF
    go_wp2_with fail
    refine Calls.mono EVH.out ?_
    rintro e4 w4 ⟨a4, c4, rfl, v4, b4⟩
    obtain ⟨g4, rfl, hg4, hl4, hc4⟩ := v4 (by decide)
    have s0 : w4.cell? ⟨g4, 0, none⟩ = some (.int .i64 3) := (hc4 0 _ rfl).1
    have s1 : w4.cell? ⟨g4, 1, none⟩ = some (.int .i64 0) := (hc4 0 _ rfl).2
    have B4 : Hid (Below w1.heap.size w1 w4) := B3.out.trans (b4.mono B3.out.size)
    have ET : Hid (Calls Tryd.prog 16 #[.pointer (some ⟨m, 0, none⟩)] w4 fun e w' => e = .returned (.int .i64 ((n : Int) + 2)) ∧ Below w4.heap.size w4 w') := by
      have := oTicks _ _ _ _ _ (H3.out.later b4)
      rw [HF.out] at this
      exact this
    clear v4 b4 hc4 EVH H3 B3
    go_wp2_with fail
    refine Calls.mono ET.out ?_
    rintro e6 w6 ⟨rfl, b6⟩
    have B6 : Hid (Below w1.heap.size w1 w6) := B4.out.trans (b6.mono B4.out.size)
    clear b6 ET B4 s0 s1
    go_wp2_with fail
    refine Calls.mono (EK.out _ B6.out) ?_
    rintro e7 w7 ⟨rfl, b7⟩
    have FIN : Hid (Below w1.heap.size w1 w7) := B6.out.trans (b7.mono B6.out.size)
    clear b7 EK B6
    go_wp2_with fail
    go_ret
    exact ⟨rfl, FIN.out⟩
end Go.Proofs.YtodpdnidinnjjaaDoor
