/- Layer 15: rows of events in memory; together, Parting, above, Index. -/
import Derived.Test.YthglhcabdadlpaaDoorAlPl
import Derived.Test.YthglhcabdadlpaaDoorRows
import Derived.WalkKit
import Derived.WalkMore
import Derived.WalkSpells
import Derived.WalkLawsBesides
import Derived.Deep.RegionHeld3
import Derived.BigQuiet
import Derived.Handy
import Derived.Deep.RegionWith
import Derived.Deep.DeepCutAuto
import Derived.Deep.QuietTactic
import Derived.BigRegion
import Derived.RegionTactic
import Derived.WalkSmall
import Derived.Deep.DeepAppendWide
import Derived.Deep.LoopGhost
import Derived.Below
import Derived.OneCell
import Derived.Deep.RegionLaw
import Derived.Deep.Upon
import Derived.Lib.MinMax
namespace Go.Proofs.YthglhcabdadlpaaDoor
open Go.RowKit
set_option linter.unusedVariables false
set_option linter.unusedSimpArgs false

theorem hidA {p : Prop} (h : p) : Hid p := h
/-- An event in memory. -/
def EvC (w : World) (g o : Nat) (e : Al.Ev) : Prop := w.cell? ⟨g, o, none⟩ = some (.int .i64 e.1) ∧ w.cell? ⟨g, o + 1, none⟩ = some (.int .i64 e.2)
/-- Events below the block B. -/
def EvR (B : Nat) (w : World) (a : Option Addr) (l : List Al.Ev) : Prop := 0 < l.length → ∃ g o, a = some ⟨g, o, none⟩ ∧ g < B ∧ ∀ j e, l[j]? = some e → EvC w g (o + j * 2) e
theorem EvR.later {B B' : Nat} {w w' : World} {a : Option Addr} {l : List Al.Ev} (h : EvR B w a l) (b : Below B' w w') (hb : B ≤ B') : EvR B w' a l := fun h0 => by
  obtain ⟨g, o, e, hg, hc⟩ := h h0
  exact ⟨g, o, e, hg, fun j x hx => ⟨(b.cell (p := ⟨g, _, none⟩) (Nat.lt_of_lt_of_le hg hb)).trans (hc j x hx).1, (b.cell (p := ⟨g, _, none⟩) (Nat.lt_of_lt_of_le hg hb)).trans (hc j x hx).2⟩⟩
theorem EvR.mono {B B' : Nat} {w : World} {a : Option Addr} {l : List Al.Ev} (h : EvR B w a l) (hb : B ≤ B') : EvR B' w a l := fun h0 => by
  obtain ⟨g, o, e, hg, hc⟩ := h h0
  exact ⟨g, o, e, Nat.lt_of_lt_of_le hg hb, hc⟩
theorem ev_ne {x y : Al.Ev} (h : x ≠ y) : (x.1 == y.1) = false ∨ (x.1 == y.1) = true ∧ (x.2 == y.2) = false := by
  by_cases c : x.1 = y.1
  · refine .inr ⟨by simp [c], ?_⟩
    have : x.2 ≠ y.2 := fun d => h (Prod.ext c d)
    simp [this]
  · exact .inl (by simp [c])
/-- How far two rows were gone through alike. -/
def TgI (l m : List Al.Ev) (k : Nat) : Prop := ∀ i, i < k → l[i]? = m[i]?
theorem TgI.step {l m : List Al.Ev} {k : Nat} (h : TgI l m k) {x : Al.Ev} (hx : l[k]? = some x) (hy : m[k]? = some x) : TgI l m (k + 1) := fun i hi => by
  rcases Nat.lt_or_ge i k with c | c
  · exact h i c
  · obtain rfl : i = k := by omega
    rw [hx, hy]
theorem below_drA {B : Nat} {w wr : World} (h : Below B w wr) (n : Nat) : Below B w (wr.drewN n) := h.trans ⟨rfl, rfl, rfl, Nat.le_refl _, fun _ _ => rfl⟩
set_option maxRecDepth 100000 in
set_option maxHeartbeats 8000000 in
theorem tog_any (w : World) (a b : Option Addr) (ca cb : Nat) (l m : List Al.Ev) {B : Nat} (ha : EvR B w a l) (hb : EvR B w b m) (hB : B ≤ w.heap.size) (hl : l.length ≤ 1000000000000000) (hm : m.length ≤ 1000000000000000) : Calls Tryd.prog 32 #[.slice a l.length ca, .slice b m.length cb] w fun e w' => e = .returned (.int .i64 (Al.tog l m : Nat)) ∧ Below w.heap.size w w' := by
  have HA : Hid (EvR B w a l) := ha
  have HB : Hid (EvR B w b m) := hb
  have HBB : Hid (B ≤ w.heap.size) := hB
  obtain ⟨n, hn⟩ : ∃ n, n = min l.length m.length := ⟨_, rfl⟩
  have hn1 : n ≤ l.length := by omega
  have hn2 : n ≤ m.length := by omega
  have hn3 : n = l.length ∨ n = m.length := by omega
  have hmin : min (l.length : Int) (m.length : Int) = (n : Int) := by omega
  have HT : ∀ k, TgI l m k → k ≤ n → (k = n ∨ l[k]? ≠ m[k]?) → Al.tog l m = k := fun k h1 h2 h3 => Al.tog_is l m k (by omega) (by omega) h1 (h3.elim (fun h => hn3.elim (fun h4 => .inl (h.trans h4)) (fun h4 => .inr (.inl (h.trans h4)))) (fun h => .inr (.inr h)))
  have HTH : Hid (∀ k, TgI l m k → k ≤ n → (k = n ∨ l[k]? ≠ m[k]?) → Al.tog l m = k) := HT
  obtain ⟨T, hT⟩ : ∃ T, T = Al.tog l m := ⟨_, rfl⟩
  rw [← hT] at HTH HT ⊢
  obtain ⟨N1, h1⟩ : ∃ N1, N1 = l.length := ⟨_, rfl⟩
  obtain ⟨N2, h2⟩ : ∃ N2, N2 = m.length := ⟨_, rfl⟩
  have H1 : Hid (N1 = l.length) := h1
  have H2 : Hid (N2 = m.length) := h2
  rw [← h1] at hl hn1 hmin ⊢
  rw [← h2] at hm hn2 hmin ⊢
  clear ha hb hB hT HT hn hn3 h1 h2
  have HM : (Builtin.min_ #[3, 3] 3 #[.int .i64 (N1 : Int), .int .i64 (N2 : Int)]).run Tryd.prog w = .ok (.int .i64 (n : Int)) w := by rw [← hmin]; exact Lib.run_min_ints w _ _ .i64 .i64 _ _
  clear hmin
  go_enter Tryd.func32, Tryd.ntmps32
  go_wp2_with fail
  go_loopg [13] n (fun gk i wr => ∃ k : Nat, k + gk = n ∧ i = .int .i64 k ∧ Hid (Below w.heap.size w wr ∧ TgI l m k))
  case atStart => exact ⟨0, by omega, rfl, Below.refl _ _, fun i hi => absurd hi (Nat.not_lt_zero i)⟩
  case round =>
    obtain ⟨k, hk, rfl, BR⟩ := hrel
    rcases gk with _ | gk
    · obtain rfl : k = n := by omega
      have hki : ¬ (k : Int) < (k : Int) := by omega
      have dk : decide ((k : Int) < (k : Int)) = false := decide_eq_false hki
      have FIN : Hid (Ending.returned (.int .i64 (k : Nat)) = .returned (.int .i64 (T : Nat)) ∧ Below w.heap.size w wr) := ⟨by rw [HTH.out k BR.out.2 (Nat.le_refl _) (.inl rfl)], BR.out.1⟩
      go_wp2_with fail
      go_ret
      exact FIN.out
    · have hlt : k < n := by omega
      have hki : (k : Int) < (n : Int) := by omega
      have dk : decide ((k : Int) < (n : Int)) = true := decide_eq_true hki
      have dk1 : decide (k < N1) = true := decide_eq_true (by omega)
      have dk2 : decide (k < N2) = true := decide_eq_true (by omega)
      have hk1 : k < N1 := by omega
      have hk2 : k < N2 := by omega
      have hk3 : (k : Int) < (N1 : Int) := by omega
      have hk4 : (k : Int) < (N2 : Int) := by omega
      obtain ⟨x, hx⟩ : ∃ x, l[k]? = some x := ⟨_, List.getElem?_eq_getElem (by rw [← H1.out]; exact hk1)⟩
      obtain ⟨y, hy⟩ : ∃ y, m[k]? = some y := ⟨_, List.getElem?_eq_getElem (by rw [← H2.out]; exact hk2)⟩
      obtain ⟨ga, oa, rfl, hga, ca'⟩ := (HA.out.later BR.out.1 HBB.out) (by rw [← H1.out]; omega)
      obtain ⟨gb, ob, rfl, hgb, cb'⟩ := (HB.out.later BR.out.1 HBB.out) (by rw [← H2.out]; omega)
      have a0 := (ca' k x hx).1
      have a1 := (ca' k x hx).2
      have b0 := (cb' k y hy).1
      have b1 := (cb' k y hy).2
      clear ca' cb'
      have HX : Hid (l[k]? = some x) := hx
      have HY : Hid (m[k]? = some y) := hy
      clear hx hy
      by_cases hxy : x = y
      · subst hxy
        have STEP : Hid (TgI l m (k + 1)) := BR.out.2.step HX.out HY.out
        clear HX HY HTH
        generalize x.1 = x1 at a0 b0
        generalize x.2 = x2 at a1 b1
        have q1 : (x1 == x1) = true := beq_self_eq_true x1
        have q2 : (x2 == x2) = true := beq_self_eq_true x2
        go_upto_region 5 with fail
        go_quiet (fail)
        have BQ := below_drA BR.out.1 nq
        generalize wr.drewN nq = W5 at BQ ⊢
        have BH : Hid (Below w.heap.size w W5) := BQ
        clear BQ a0 a1 b0 b1
        go_wp2_with fail
        go_roundg gk
        case measure => omega
        case rel => exact ⟨k + 1, by omega, by go_num, BH.out, STEP.out⟩
      · have TT : Hid (T = k) := HTH.out k BR.out.2 (by omega) (.inr (by rw [HX.out, HY.out]; intro h; exact hxy (Option.some.inj h)))
        have q := ev_ne hxy
        clear HX HY HTH hxy
        generalize x.1 = x1 at a0 q
        generalize x.2 = x2 at a1 q
        generalize y.1 = y1 at b0 q
        generalize y.2 = y2 at b1 q
        have FIN : ∀ W5, Below w.heap.size w W5 → Hid (Ending.returned (.int .i64 (k : Nat)) = .returned (.int .i64 (T : Nat)) ∧ Below w.heap.size w W5) := fun W5 h => ⟨by rw [TT.out], h⟩
        rcases q with q1 | ⟨q1, q2⟩
        · go_upto_region 5 with fail
          go_quiet (fail)
          have BQ := below_drA BR.out.1 nq
          generalize wr.drewN nq = W5 at BQ ⊢
          have BH := FIN W5 BQ
          clear BQ a0 a1 b0 b1 FIN
          go_wp2_with fail
          go_ret
          exact BH.out
        · go_upto_region 5 with fail
          go_quiet (fail)
          have BQ := below_drA BR.out.1 nq
          generalize wr.drewN nq = W5 at BQ ⊢
          have BH := FIN W5 BQ
          clear BQ a0 a1 b0 b1 FIN
          go_wp2_with fail
          go_ret
          exact BH.out
end Go.Proofs.YthglhcabdadlpaaDoor
