/- AlignParts. -/
import Derived.Test.YtpfkoglmfbaadaaDoorAlZa
namespace Go.Proofs.YtpfkoglmfbaadaaDoor
open Go.RowKit
set_option linter.unusedVariables false
set_option linter.unusedSimpArgs false
set_option maxRecDepth 100000
set_option maxHeartbeats 16000000 in
theorem parts_walk (w : World) (ht : Tab w) (a : Option Addr) (l : List Al.Ev) (ca : Nat) (ha : EvR w.heap.size w a l) (hca : l.length ≤ ca) (_ : l.length ≤ 1000000000000000) (_ : ∀ x ∈ l, Al.R64 x.1 ∧ Al.R64 x.2) (b : Option Addr) (m : List Al.Ev) (cb : Nat) (hb : EvR w.heap.size w b m) (hcb : m.length ≤ cb) (_ : m.length ≤ 1000000000000000) (_ : ∀ x ∈ m, Al.R64 x.1 ∧ Al.R64 x.2) (x : Al.Ev) (hx : Al.R64 x.1 ∧ Al.R64 x.2) :
    Calls Tryd.prog 3 #[.slice a l.length ca, .slice b m.length cb, .agg #[.int .i64 x.1, .int .i64 x.2]] w fun e w' => e = .returned (.bool true) ∧ Below w.heap.size w w' := by
  obtain ⟨W0, hW0⟩ : ∃ W0, W0 = w.alloc (.cells #[.int .i64 x.1, .int .i64 x.2] 24) := ⟨_, rfl⟩
  obtain ⟨p, hp⟩ : ∃ p, p = w.heap.size := ⟨_, rfl⟩
  have B0 : Hid (Below p w W0 ∧ p = w.heap.size ∧ W0.heap.size = p + 1) := ⟨by rw [hW0, hp]; exact (Below.refl _ _).alloc (Nat.le_refl _) _, hp, by rw [hW0, hp]; simp⟩
  have CP : Hid (W0.cell? ⟨p, 0, none⟩ = some (.int .i64 x.1) ∧ W0.cell? ⟨p, 1, none⟩ = some (.int .i64 x.2) ∧ p < W0.heap.size) := by
    have h := box2A w (.int .i64 x.1) (.int .i64 x.2) 24
    rw [← hW0, ← hp] at h
    exact ⟨h.1, h.2, by have := B0.out.2.2; omega⟩
  have UP : Hid (∀ wz, Below W0.heap.size W0 wz → Below p w wz) := fun wz hz => B0.out.1.trans (hz.mono (by have := B0.out.2.2; omega))
  have KN : Hid (∀ wz, Below W0.heap.size W0 wz → Calls Tryd.prog 9 #[] wz fun e w' => e = .returned (.bool true) ∧ Below W0.heap.size W0 w') := fun wz hz => (known15 wz (by have h := UP.out wz hz; rw [hp] at h; exact ht.later h (Nat.le_refl _))).mono fun e w' h => ⟨h.1, hz.trans (h.2.mono hz.size)⟩
  have P1 : Hid (l.length ≤ 2000 → m.length ≤ 2000 → ∀ wz, Below W0.heap.size W0 wz → Calls Tryd.prog 10 #[.slice a l.length ca, .slice b m.length cb] wz fun e w' => e = .returned (.int .i64 (Al.part l m)) ∧ Below W0.heap.size W0 w') := fun h1 h2 wz hz => by
    have h := UP.out wz hz
    rw [hp] at h
    exact (part_any wz a b ca cb l m (ha.later h (Nat.le_refl _)) (hb.later h (Nat.le_refl _)) h.size (Nat.le_trans h1 (by decide)) (Nat.le_trans h2 (by decide))).mono fun e w' h => ⟨h.1, hz.trans (h.2.mono hz.size)⟩
  have P2 : Hid (l.length ≤ 2000 → m.length ≤ 2000 → ∀ wz, Below W0.heap.size W0 wz → Calls Tryd.prog 11 #[.slice a l.length ca, .slice b m.length cb] wz fun e w' => e = .returned (.int .i64 (Al.part l m)) ∧ Below W0.heap.size W0 w') := fun h1 h2 wz hz => by
    have h := UP.out wz hz
    rw [hp] at h
    exact (rpart_any wz a b ca cb l m (ha.later h (Nat.le_refl _)) (hb.later h (Nat.le_refl _)) h.size (Nat.le_trans h1 (by decide)) (Nat.le_trans h2 (by decide))).mono fun e w' h => ⟨h.1, hz.trans (h.2.mono hz.size)⟩
  have X1 : Hid (∀ wz, Below W0.heap.size W0 wz → Calls Tryd.prog 12 #[.agg #[.int .i64 x.1, .int .i64 x.2]] wz fun e w' => e = .returned (.string ⟨(Al.tx x).toArray⟩) ∧ Below W0.heap.size W0 w') := fun wz hz => (tex_any wz x (by have h := UP.out wz hz; rw [hp] at h; exact ht.later h (Nat.le_refl _)) hx.1 hx.2).mono fun e w' h => ⟨h.1, hz.trans (h.2.mono hz.size)⟩
  have X2 : Hid (∀ wz, Below W0.heap.size W0 wz → Calls Tryd.prog 13 #[.agg #[.int .i64 x.1, .int .i64 x.2]] wz fun e w' => e = .returned (.string ⟨(Al.tx x).toArray⟩) ∧ Below W0.heap.size W0 w') := fun wz hz => (rtex_any wz x hx.1 hx.2).mono fun e w' h => ⟨h.1, hz.trans (h.2.mono hz.size)⟩
  generalize (⟨(Al.tx x).toArray⟩ : ByteArray) = S at *
  generalize Al.part l m = P at *
  rw [show Below w.heap.size = Below p from by rw [hp]]
  clear ht ha hb hca hcb hx
  generalize x.1 = x1 at *
  generalize x.2 = x2 at *
  generalize l.length = n at *
  generalize m.length = k at *
  have BR : Hid (Below W0.heap.size W0 W0) := Below.refl _ _
  by_cases c1 : 2000 < n
  · have d1 : decide ((2000 : Int) < (n : Int)) = true := decide_eq_true (by omega)
    clear c1 P1 P2 X1 X2
    go_enter Tryd.func3, Tryd.ntmps3
    go_upto_region 1 with fail
    rw [← hp, ← hW0]
    clear hp hW0
    go_wp2_with fail
    refine (KN.out W0 BR.out).mono ?_
    rintro e w4 ⟨rfl, b4⟩
    have B4 := hidA (UP.out w4 b4)
    clear b4
    go_wp2_with fail
    go_ret
    exact ⟨rfl, B4.out⟩
  have d1 : decide ((2000 : Int) < (n : Int)) = false := decide_eq_false (by omega)
  by_cases c2 : 2000 < k
  · have d2 : decide ((2000 : Int) < (k : Int)) = true := decide_eq_true (by omega)
    clear c1 c2 P1 P2 X1 X2
    go_enter Tryd.func3, Tryd.ntmps3
    go_upto_region 1 with fail
    rw [← hp, ← hW0]
    clear hp hW0
    go_wp2_with fail
    refine (KN.out W0 BR.out).mono ?_
    rintro e w4 ⟨rfl, b4⟩
    have B4 := hidA (UP.out w4 b4)
    clear b4
    go_wp2_with fail
    go_ret
    exact ⟨rfl, B4.out⟩
  have d2 : decide ((2000 : Int) < (k : Int)) = false := decide_eq_false (by omega)
  have PA := hidA (P1.out (by omega) (by omega))
  have PB := hidA (P2.out (by omega) (by omega))
  have q1 : (P == P) = true := beq_self_eq_true P
  clear c1 c2 P1 P2
  go_enter Tryd.func3, Tryd.ntmps3
  go_upto_region 1 with fail
  rw [← hp, ← hW0]
  clear hp hW0
  have hpW := CP.out.2.2
  have c0 := CP.out.1
  have c1 := CP.out.2.1
  have BB := BR
  go_upto_region 3 with fail
  go_region_with (first
    | (go_at_call 10; refine Calls.mono (PA.out _ (BB.out.trans (by go_grown))) ?_; rintro e1 w1 ⟨rfl, bb⟩; have BB := hidA bb; have s0 := (bb.cell (p := ⟨p, 0, none⟩) hpW).trans CP.out.1; have s1 := (bb.cell (p := ⟨p, 1, none⟩) hpW).trans CP.out.2.1; clear bb)
    | (go_at_call 11; refine Calls.mono (PB.out _ (BB.out.trans (by go_grown))) ?_; rintro e2 w2 ⟨rfl, bb⟩; have BB := hidA bb; have t0 := (bb.cell (p := ⟨p, 0, none⟩) hpW).trans CP.out.1; have t1 := (bb.cell (p := ⟨p, 1, none⟩) hpW).trans CP.out.2.1; clear bb)
    | (go_at_call 12; refine Calls.mono (X1.out _ (BB.out.trans (by go_grown))) ?_; rintro e3 w3 ⟨rfl, bb⟩; have BB := hidA bb; have r0 := (bb.cell (p := ⟨p, 0, none⟩) hpW).trans CP.out.1; have r1 := (bb.cell (p := ⟨p, 1, none⟩) hpW).trans CP.out.2.1; clear bb)
    | (go_at_call 13; refine Calls.mono (X2.out _ (BB.out.trans (by go_grown))) ?_; rintro e4 w4 ⟨rfl, bb⟩; have BB := hidA bb; have v0 := (bb.cell (p := ⟨p, 0, none⟩) hpW).trans CP.out.1; have v1 := (bb.cell (p := ⟨p, 1, none⟩) hpW).trans CP.out.2.1; clear bb)
    | (go_at_call 9; refine Calls.mono (KN.out _ (BB.out.trans (by go_grown))) ?_; rintro e5 w5 ⟨rfl, bb⟩; have F5 := hidA (UP.out w5 bb); clear bb))
  all_goals
    go_wp2_with fail
    go_ret
    exact ⟨rfl, F5.out.trans ⟨rfl, rfl, rfl, Nat.le_refl _, fun _ _ => rfl⟩⟩
end Go.Proofs.YtpfkoglmfbaadaaDoor
