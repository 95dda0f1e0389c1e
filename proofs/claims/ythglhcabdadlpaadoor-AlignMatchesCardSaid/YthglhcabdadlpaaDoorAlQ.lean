/- Layer 15: the fixed calls of the statements (known). -/
import Derived.Test.YthglhcabdadlpaaDoorAlO
import Derived.Test.YthglhcabdadlpaaDoorAlP
namespace Go.Proofs.YthglhcabdadlpaaDoor
open Go.RowKit
set_option linter.unusedVariables false
set_option linter.unusedSimpArgs false
set_option maxRecDepth 100000
def kA : List Al.Ev := [(1, 1), (1, 2), (3, 0)]
def kB : List Al.Ev := [(1, 2), (3, 0)]
def kL : List Al.Ev := [(1, 0), (2, 1)]
theorem kM6 : Al.prs (Al.mat kA kB 6) = kL := by kernel_rfl
theorem kC6 : Al.cut kA kB 6 = false := by kernel_rfl
theorem kC5 : Al.cut kA kB 5 = true := by kernel_rfl
theorem kR : Al.regs 3 2 kL = ([⟨0, 1, 0, 0⟩], 0) := by kernel_rfl
theorem kP : Al.part kA kB = 0 := by kernel_rfl
theorem kT : Al.tx (1, 1) = [112, 114, 105, 110, 116, 32, 49] := by kernel_rfl
theorem evA3 (w : World) : EvR (w.heap.size + 1) (w.alloc (.cells #[.int .i64 1, .int .i64 1, .int .i64 1, .int .i64 2, .int .i64 3, .int .i64 0] 24)) (some ⟨w.heap.size, 0, none⟩) kA := fun _ => by
  refine ⟨w.heap.size, 0, rfl, Nat.lt_succ_self _, fun j e he => ?_⟩
  rcases j with _ | _ | _ | j
  · simp [kA] at he; subst he; constructor <;> simp
  · simp [kA] at he; subst he; constructor <;> simp
  · simp [kA] at he; subst he; constructor <;> simp
  · simp [kA] at he
theorem evB2 (w : World) : EvR (w.heap.size + 1) (w.alloc (.cells #[.int .i64 1, .int .i64 2, .int .i64 3, .int .i64 0] 24)) (some ⟨w.heap.size, 0, none⟩) kB := fun _ => by
  refine ⟨w.heap.size, 0, rfl, Nat.lt_succ_self _, fun j e he => ?_⟩
  rcases j with _ | _ | j
  · simp [kB] at he; subst he; constructor <;> simp
  · simp [kB] at he; subst he; constructor <;> simp
  · simp [kB] at he
theorem evL2 (w : World) (t : TypeId) : EvR (w.heap.size + 1) (w.alloc (.cells #[.int .i64 1, .int .i64 0, .int .i64 2, .int .i64 1] t)) (some ⟨w.heap.size, 0, none⟩) kL := fun _ => by
  refine ⟨w.heap.size, 0, rfl, Nat.lt_succ_self _, fun j e he => ?_⟩
  rcases j with _ | _ | j
  · simp [kL] at he; subst he; constructor <;> simp
  · simp [kL] at he; subst he; constructor <;> simp
  · simp [kL] at he
/-- One region in its row. -/
theorem oneRg {w : World} {base : Nat} {ty : TypeId} {v : Value} {a b c d : Int} (h : OwG w base ty v [⟨a, b, c, d⟩]) : ∃ g cp, v = .slice (some ⟨g, 0, none⟩) 1 cp ∧ base ≤ g ∧ g < w.heap.size ∧ w.cell? ⟨g, 0, none⟩ = some (.int .i64 a) ∧ w.cell? ⟨g, 1, none⟩ = some (.int .i64 b) ∧ w.cell? ⟨g, 2, none⟩ = some (.int .i64 c) ∧ w.cell? ⟨g, 3, none⟩ = some (.int .i64 d) := by
  have h0 : w.ownsRow base ty 4 v 1 (rgC [⟨a, b, c, d⟩]) := h
  rcases h0.2 with ⟨_, hn⟩ | ⟨g, cap, cur, rfl, hbg, hg, _⟩
  · cases hn
  · have hc := h0.cells (g := g) rfl
    refine ⟨g, cap, rfl, hbg, (Array.getElem?_eq_some_iff.1 hg).1, ?_, ?_, ?_, ?_⟩
    · have := hc 0 _ rfl; rwa [add0A] at this
    · have := hc 1 _ rfl; rwa [add0A] at this
    · have := hc 2 _ rfl; rwa [add0A] at this
    · have := hc 3 _ rfl; rwa [add0A] at this
set_option maxHeartbeats 8000000 in
theorem known15 (w : World) (ht : Tab w) : Calls Tryd.prog 9 #[] w fun e w' => e = .returned (.bool true) ∧ Below w.heap.size w w' := by
  obtain ⟨p, hp⟩ : ∃ p, p = w.heap.size := ⟨_, rfl⟩
  obtain ⟨W1, hW1⟩ : ∃ W1, W1 = w.alloc (.cells #[.int .i64 1, .int .i64 1, .int .i64 1, .int .i64 2, .int .i64 3, .int .i64 0] 24) := ⟨_, rfl⟩
  obtain ⟨q, hq⟩ : ∃ q, q = W1.heap.size := ⟨_, rfl⟩
  obtain ⟨W2, hW2⟩ : ∃ W2, W2 = W1.alloc (.cells #[.int .i64 1, .int .i64 2, .int .i64 3, .int .i64 0] 24) := ⟨_, rfl⟩
  have hqp : q = p + 1 := by rw [hq, hW1, hp]; simp
  have b1 : Below p w W1 := by rw [hW1, hp]; exact (Below.refl _ _).alloc (Nat.le_refl _) _
  have b2 : Below q W1 W2 := by rw [hW2, hq]; exact (Below.refl _ _).alloc (Nat.le_refl _) _
  have s2 : W2.heap.size = q + 1 := by rw [hW2, hq]; simp
  have EA : Hid (EvR (q + 1) W2 (some ⟨p, 0, none⟩) kA) := by
    have h : EvR (p + 1) W1 (some ⟨p, 0, none⟩) kA := by rw [hW1, hp]; exact evA3 w
    exact (h.later b2 (by rw [hqp]; exact Nat.le_refl _)).mono (by omega)
  have EB : Hid (EvR (q + 1) W2 (some ⟨q, 0, none⟩) kB) := by rw [hW2, hq]; exact evB2 W1
  have BW : Hid (Below p w W2) := b1.trans (b2.mono (by omega))
  have HS : Hid (q + 1 ≤ W2.heap.size ∧ q = p + 1 ∧ p = w.heap.size) := ⟨by rw [s2]; exact Nat.le_refl _, hqp, hp⟩
  have HT : Hid (∀ wz, Below p w wz → Tab wz) := fun wz hz => ht.later hz (by rw [hp]; exact Nat.le_refl _)
  have CP : Hid (W2.cell? ⟨p, 0, none⟩ = some (.int .i64 1) ∧ W2.cell? ⟨p, 1, none⟩ = some (.int .i64 1) ∧ p < W2.heap.size) := by
    obtain ⟨g, o, e, _, h⟩ := EA.out (by decide)
    cases e
    exact ⟨(h 0 (1, 1) rfl).1, (h 0 (1, 1) rfl).2, by omega⟩
  rw [show Below w.heap.size = Below p from by rw [hp]]
  clear ht b1 b2 s2 hqp
  go_enter Tryd.func9, Tryd.ntmps9
  go_upto_region 3 with fail
  rw [← hp, ← hW1, ← hW2, ← HS.out.2.1]
  clear hp hW1 hq hW2
  go_wp2_with fail
  have M1 := match_any W2 (some ⟨p, 0, none⟩) (some ⟨q, 0, none⟩) 3 2 kA kB 6 EA.out EB.out HS.out.1 (by decide) (by decide) (by decide) (by decide) (by decide) (by decide)
  rw [kC6, kM6] at M1
  have MM := hidA M1
  clear M1
  refine MM.out.mono ?_
  rintro e w3 ⟨v1, rfl, o1, b3⟩
  obtain ⟨a1, c1, rfl, e1, -⟩ := o1.ev
  have E1 := hidA e1
  have B3 : Hid (Below W2.heap.size W2 w3) := b3
  clear MM o1 e1 b3
  have M2 := match_any w3 (some ⟨p, 0, none⟩) (some ⟨q, 0, none⟩) 3 2 kA kB 5 (EA.out.later B3.out HS.out.1) (EB.out.later B3.out HS.out.1) (Nat.le_trans HS.out.1 B3.out.size) (by decide) (by decide) (by decide) (by decide) (by decide) (by decide)
  rw [kC5] at M2
  have MM := hidA M2
  clear M2
  go_wp2_with fail
  refine MM.out.mono ?_
  rintro e w4 ⟨v2, rfl, o2, b4⟩
  have B4 : Hid (Below w3.heap.size w3 w4) := b4
  clear MM o2 b4
  have R1 := regions_any w4 a1 c1 kL 3 2 (E1.out.later B4.out (Nat.le_refl _)) B4.out.size (by decide) (by decide) (by decide)
  unfold RsQ at R1
  rw [kR] at R1
  have RR := hidA R1
  clear R1
  go_wp2_with fail
  refine RR.out.mono ?_
  rintro e w5 ⟨v3, rfl, o3, b5⟩
  obtain ⟨g, cp, rfl, hg1, hg2, z0, z1, z2, z3⟩ := oneRg o3
  have B5 : Hid (Below w4.heap.size w4 w5 ∧ w4.heap.size ≤ g ∧ g < w5.heap.size) := ⟨b5, hg1, hg2⟩
  have Z1 := hidA z1
  have Z3 := hidA z3
  have B25 : Hid (Below W2.heap.size W2 w5) := B3.out.trans ((B4.out.mono B3.out.size).trans (b5.mono (Nat.le_trans B3.out.size B4.out.size)))
  clear RR o3 b5 hg1 hg2 z0 z1 z2 z3
  have P1 := part_any w5 (some ⟨p, 0, none⟩) (some ⟨q, 0, none⟩) 3 2 kA kB (EA.out.later B25.out HS.out.1) (EB.out.later B25.out HS.out.1) (Nat.le_trans HS.out.1 B25.out.size) (by decide) (by decide)
  rw [kP] at P1
  have PP := hidA P1
  clear P1
  go_wp2_with fail
  refine PP.out.mono ?_
  rintro e w6 ⟨rfl, b6⟩
  have B6 : Hid (Below w5.heap.size w5 w6) := b6
  clear PP b6
  have PR := hidA (pairs_any w6 a1 c1 kL ((E1.out.later B4.out (Nat.le_refl _)).later (B5.out.1.trans (B6.out.mono B5.out.1.size)) B4.out.size) (Nat.le_trans B4.out.size (Nat.le_trans B5.out.1.size B6.out.size)) (by decide))
  go_wp2_with fail
  refine PR.out.mono ?_
  rintro e w7 ⟨v4, rfl, o4, b7⟩
  obtain ⟨a4, c4, rfl, e4, -⟩ := o4.ev
  have E4 := hidA e4
  have B7 : Hid (Below w6.heap.size w6 w7) := b7
  clear PR o4 e4 b7
  have SP0 := sameP_any (w7.alloc (.cells #[.int .i64 1, .int .i64 0, .int .i64 2, .int .i64 1] 66)) a4 (some ⟨w7.heap.size, 0, none⟩) c4 2 kL kL (B := w7.heap.size + 1) ((E4.out.later ((Below.refl w7.heap.size w7).alloc (Nat.le_refl _) _) (Nat.le_refl _)).mono (Nat.le_succ _)) (evL2 w7 _) (by simp) (by decide) (by decide)
  rw [show decide (kL = kL) = true from decide_eq_true rfl] at SP0
  have SP := hidA SP0
  clear SP0
  go_wp2_with fail
  refine SP.out.mono ?_
  rintro e w9 ⟨rfl, b9⟩
  have B79 : Below w7.heap.size w7 w9 := ((Below.refl w7.heap.size w7).alloc (Nat.le_refl _) _).trans (b9.mono (by simp))
  have B59 : Below w5.heap.size w5 w9 := B6.out.trans ((B7.out.trans (B79.mono B7.out.size)).mono B6.out.size)
  have B29 : Hid (Below W2.heap.size W2 w9) := B25.out.trans (B59.mono B25.out.size)
  have z1 := (B59.cell (p := ⟨g, 1, none⟩) B5.out.2.2).trans Z1.out
  have z3 := (B59.cell (p := ⟨g, 3, none⟩) B5.out.2.2).trans Z3.out
  have y0 := (B29.out.cell (p := ⟨p, 0, none⟩) CP.out.2.2).trans CP.out.1
  have y1 := (B29.out.cell (p := ⟨p, 1, none⟩) CP.out.2.2).trans CP.out.2.1
  have BP9 : Hid (Below p w w9) := BW.out.trans (B29.out.mono (by have := HS.out; omega))
  have TT0 := tex_any w9 (1, 1) (HT.out w9 BP9.out) (by constructor <;> decide) (by constructor <;> decide)
  unfold TxQ at TT0
  rw [kT] at TT0
  have TT := hidA TT0
  have PW : Hid (p ≤ w9.heap.size) := by have := BP9.out.size; have := HS.out; unfold Hid; omega
  clear TT0 b9 B79 B59 SP
  go_wp2_with fail
  refine TT.out.mono ?_
  rintro e w10 ⟨rfl, b10⟩
  have FIN : Hid (Below p w w10) := BP9.out.trans (b10.mono PW.out)
  clear b10
  go_wp2_with fail
  go_ret
  exact ⟨rfl, FIN.out⟩
end Go.Proofs.YthglhcabdadlpaaDoor
