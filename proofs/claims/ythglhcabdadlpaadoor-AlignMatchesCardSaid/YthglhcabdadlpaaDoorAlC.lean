/- Layer 15: slices.Index of events. -/
import Derived.Test.YthglhcabdadlpaaDoorAlA
namespace Go.Proofs.YthglhcabdadlpaaDoor
open Go.RowKit
set_option linter.unusedVariables false
set_option linter.unusedSimpArgs false
set_option maxRecDepth 100000
namespace Al
def ix (e : Ev) (l : List Ev) : Int := match idx e l with
  | some k => (k : Int)
  | none => -1
theorem ix_at {e : Ev} {l : List Ev} {k : Nat} (h : l[k]? = some e) (hn : ∀ i, i < k → l[i]? ≠ some e) : ix e l = k := by
  unfold ix
  cases hx : idx e l with
  | none => exact absurd h (idx_none hx k)
  | some j =>
    have h1 := idx_lt hx
    have h2 := idx_least hx
    rcases Nat.lt_trichotomy j k with c | c | c
    · exact absurd h1.2 (hn j c)
    · simp [c]
    · exact absurd h (h2 k c)
theorem ix_no {e : Ev} {l : List Ev} (hn : ∀ i, i < l.length → l[i]? ≠ some e) : ix e l = -1 := by
  unfold ix
  cases hx : idx e l with
  | none => rfl
  | some j => exact absurd (idx_lt hx).2 (hn j (idx_lt hx).1)
end Al
def IxI (x : Al.Ev) (l : List Al.Ev) (k : Nat) : Prop := ∀ i, i < k → l[i]? ≠ some x
theorem IxI.step {x y : Al.Ev} {l : List Al.Ev} {k : Nat} (h : IxI x l k) (hy : l[k]? = some y) (hn : x ≠ y) : IxI x l (k + 1) := fun i hi => by
  rcases Nat.lt_or_ge i k with c | c
  · exact h i c
  · obtain rfl : i = k := by omega
    rw [hy]
    exact fun e => hn (Option.some.inj e).symm
set_option maxHeartbeats 8000000 in
theorem index_ev (w : World) (a : Option Addr) (ca : Nat) (l : List Al.Ev) (x : Al.Ev) {B : Nat} (ha : EvR B w a l) (hB : B ≤ w.heap.size) (hl : l.length ≤ 1000000000000000) : Calls Tryd.prog 51 #[.slice a l.length ca, .agg #[.int .i64 x.1, .int .i64 x.2]] w fun e w' => e = .returned (.int .i64 (Al.ix x l)) ∧ Below w.heap.size w w' := by
  have HA : Hid (EvR B w a l) := ha
  have HBB : Hid (B ≤ w.heap.size) := hB
  obtain ⟨W0, hW0⟩ : ∃ W0, W0 = w.alloc (.cells #[.int .i64 x.1, .int .i64 x.2] 24) := ⟨_, rfl⟩
  have B0 : Hid (Below w.heap.size w W0) := by rw [hW0]; exact (Below.refl _ _).alloc (Nat.le_refl _) _
  obtain ⟨bx, hbx⟩ : ∃ bx, bx = w.heap.size := ⟨_, rfl⟩
  have S0 : Hid (W0.heap.size = bx + 1) := by unfold Hid; rw [hW0, hbx]; simp
  have C0 : Hid (W0.cell? ⟨bx, 0, none⟩ = some (.int .i64 x.1) ∧ W0.cell? ⟨bx, 1, none⟩ = some (.int .i64 x.2)) := by unfold Hid; rw [hW0, hbx]; constructor <;> simp
  have HT1 : Hid (∀ k, IxI x l k → l[k]? = some x → Al.ix x l = k) := fun k h1 h2 => Al.ix_at h2 h1
  have HT2 : Hid (IxI x l l.length → Al.ix x l = -1) := fun h => Al.ix_no h
  obtain ⟨T, hT⟩ : ∃ T, T = Al.ix x l := ⟨_, rfl⟩
  rw [← hT] at HT1 HT2 ⊢
  obtain ⟨N1, h1⟩ : ∃ N1, N1 = l.length := ⟨_, rfl⟩
  have H1 : Hid (N1 = l.length) := h1
  rw [← h1] at hl HT2 ⊢
  have HX : Hid (∀ y : Al.Ev, x ≠ y → (x.1 == y.1) = false ∨ (x.1 == y.1) = true ∧ (x.2 == y.2) = false) := fun y h => ev_ne h
  obtain ⟨x1, hx1⟩ : ∃ x1, x1 = x.1 := ⟨_, rfl⟩
  obtain ⟨x2, hx2⟩ : ∃ x2, x2 = x.2 := ⟨_, rfl⟩
  have HX1 := hidA hx1
  have HX2 := hidA hx2
  rw [← hx1, ← hx2] at C0 hW0 ⊢
  have HX' : Hid (∀ y : Al.Ev, x ≠ y → (x1 == y.1) = false ∨ (x1 == y.1) = true ∧ (x2 == y.2) = false) := by unfold Hid; rw [hx1, hx2]; exact HX.out
  clear ha hB hT h1 HX hx1 hx2
  go_enter Tryd.func51, Tryd.ntmps51
  go_upto_region 1 with fail
  rw [← hW0, ← hbx]
  have HB2 := hidA hbx
  clear hW0 hbx
  go_wp2_with fail
  go_loopg [8] N1 (fun gk i wr => ∃ k : Nat, k + gk = N1 ∧ i = .int .i64 k ∧ Hid (Below (bx + 1) W0 wr ∧ IxI x l k))
  case atStart => exact ⟨0, by omega, rfl, Below.refl _ _, fun i hi => absurd hi (Nat.not_lt_zero i)⟩
  case round =>
    obtain ⟨k, hk, rfl, BR⟩ := hrel
    have BW : Hid (Below w.heap.size w wr) := B0.out.trans (BR.out.1.mono (by rw [← HB2.out]; omega))
    rcases gk with _ | gk
    · obtain rfl : k = N1 := by omega
      have hki : ¬ (k : Int) < (k : Int) := by omega
      have dk : decide ((k : Int) < (k : Int)) = false := decide_eq_false hki
      have TT : T = -1 := HT2.out BR.out.2
      subst TT
      go_wp2_with fail
      go_ret
      exact ⟨rfl, BW.out⟩
    · have hk1 : k < N1 := by omega
      have hk3 : (k : Int) < (N1 : Int) := by omega
      have dk : decide ((k : Int) < (N1 : Int)) = true := decide_eq_true hk3
      have dk1 : decide (k < N1) = true := decide_eq_true (by omega)
      obtain ⟨y, hy⟩ : ∃ y, l[k]? = some y := ⟨_, List.getElem?_eq_getElem (by rw [← H1.out]; exact hk1)⟩
      obtain ⟨ga, oa, rfl, hga, ca'⟩ := (HA.out.later BW.out HBB.out) (by rw [← H1.out]; omega)
      have a0 := (ca' k y hy).1
      have a1 := (ca' k y hy).2
      have b0 := (BR.out.1.cell (p := ⟨bx, 0, none⟩) (Nat.lt_succ_self bx)).trans C0.out.1
      have b1 := (BR.out.1.cell (p := ⟨bx, 1, none⟩) (Nat.lt_succ_self bx)).trans C0.out.2
      clear ca'
      have HY : Hid (l[k]? = some y) := hy
      clear hy
      by_cases hxy : x = y
      · subst hxy
        have TT : T = (k : Int) := HT1.out k BR.out.2 HY.out
        subst TT
        rw [← HX1.out] at a0
        rw [← HX2.out] at a1
        clear HY HT1 HT2 HX' HX1 HX2
        have q1 : (x1 == x1) = true := beq_self_eq_true x1
        have q2 : (x2 == x2) = true := beq_self_eq_true x2
        go_upto_region 4 with fail
        go_quiet (fail)
        have BQ := below_drA BW.out nq
        generalize wr.drewN nq = W5 at BQ ⊢
        have BH : Hid (Below w.heap.size w W5) := BQ
        clear BQ a0 a1 b0 b1
        go_wp2_with fail
        go_ret
        exact ⟨rfl, BH.out⟩
      · have STEP : Hid (IxI x l (k + 1)) := BR.out.2.step HY.out hxy
        have q := HX'.out y hxy
        clear HY HT1 HT2 HX' HX1 HX2 hxy
        generalize y.1 = y1 at a0 q
        generalize y.2 = y2 at a1 q
        rcases q with q1 | ⟨q1, q2⟩
        · go_upto_region 4 with fail
          go_quiet (fail)
          have BQ := below_drA BR.out.1 nq
          generalize wr.drewN nq = W5 at BQ ⊢
          have BH : Hid (Below (bx + 1) W0 W5) := BQ
          clear BQ a0 a1 b0 b1
          go_wp2_with fail
          go_roundg gk
          case measure => omega
          case rel => exact ⟨k + 1, by omega, by go_num, BH.out, STEP.out⟩
        · go_upto_region 4 with fail
          go_quiet (fail)
          have BQ := below_drA BR.out.1 nq
          generalize wr.drewN nq = W5 at BQ ⊢
          have BH : Hid (Below (bx + 1) W0 W5) := BQ
          clear BQ a0 a1 b0 b1
          go_wp2_with fail
          go_roundg gk
          case measure => omega
          case rel => exact ⟨k + 1, by omega, by go_num, BH.out, STEP.out⟩
end Go.Proofs.YthglhcabdadlpaaDoor
