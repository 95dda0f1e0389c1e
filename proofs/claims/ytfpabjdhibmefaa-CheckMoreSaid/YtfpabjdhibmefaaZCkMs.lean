/- Layer 4: the document's Same of what was found out twice; info. -/
import Derived.Test.YtfpabjdhibmefaaZCkSp
import Derived.Test.YtfpabjdhibmefaaZCkZo
import Derived.Deep.LoopGhost
import Derived.BigQuiet
namespace Go.Proofs.Ytfpabjdhibmefaa
open Go.RowKit
set_option linter.unusedVariables false
set_option linter.unusedSimpArgs false

/-- The marks and the variables of procedures, as they lie. -/
def InfR (w : World) (v1 v2 : Option Addr) (ps : List Sy.Pc) : Prop := ∀ k x, ps[k]? = some x → ∃ g1 g2 va vc, v1 = some ⟨g1, 0, none⟩ ∧ v2 = some ⟨g2, 0, none⟩ ∧ g1 < w.heap.size ∧ g2 < w.heap.size ∧ w.cell? ⟨g2, k, none⟩ = some (.int .i64 (Sy.cts x.body : Int)) ∧ w.cell? ⟨g1, k, none⟩ = some (.slice va (ckVs x).length vc) ∧ VaS w va (ckVs x)
theorem InfR.later {w w' : World} {v1 v2 : Option Addr} {ps : List Sy.Pc} (h : InfR w v1 v2 ps) (b : Below w.heap.size w w') : InfR w' v1 v2 ps := fun k x hx => by
  obtain ⟨g1, g2, va, vc, e1, e2, l1, l2, c2, c1, hv⟩ := h k x hx
  exact ⟨g1, g2, va, vc, e1, e2, Nat.lt_of_lt_of_le l1 b.size, Nat.lt_of_lt_of_le l2 b.size, (b.cell (p := ⟨g2, k, none⟩) l2).trans c2, (b.cell (p := ⟨g1, k, none⟩) l1).trans c1, hv.later b⟩
theorem InfR.of {w : World} {p : Nat} {v1 : Option Addr} {n c1 : Nat} {v2 : Option Addr} {c2 : Nat} {ps : List Sy.Pc} {vvs : List Value} (h : Inf w p (.slice v1 n c1) (.slice v2 n c2) ps ps.length ps.length vvs) : InfR w v1 v2 ps := fun k x hx => by
  have kl : k < ps.length := (List.getElem?_eq_some_iff.1 hx).1
  obtain ⟨va, vc, ev, hv⟩ := h.vv k x kl hx
  have hc1 := @World.ownsRow.cells _ _ _ _ _ _ _ h.rv
  have hl1 := World.ownsRow.lt h.rv
  have hc2 := @World.ownsRow.cells _ _ _ _ _ _ _ h.rm
  have hl2 := World.ownsRow.lt h.rm
  have add : ∀ g j : Nat, (⟨g, 0, none⟩ : Addr).add j = ⟨g, j, none⟩ := fun g j => by unfold Addr.add; split <;> simp_all
  rcases h.rv.2 with ⟨_, e⟩ | ⟨g1, cap1, cur1, e1, _⟩
  · omega
  rcases h.rm.2 with ⟨_, e⟩ | ⟨g2, cap2, cur2, e2, _⟩
  · omega
  cases e1
  cases e2
  refine ⟨g1, g2, va, vc, rfl, rfl, (hl1 g1 rfl).2, (hl2 g2 rfl).2, ?_, ?_, hv.1⟩
  · have := @hc2 g2 rfl k (.int .i64 (Sy.cts x.body : Int)) (by simp [mkV, hx])
    rwa [add] at this
  · have := @hc1 g1 rfl k _ ev
    rwa [add] at this
theorem InfR.front {w : World} {v1 v2 : Option Addr} {ps : List Sy.Pc} {z : Sy.Pc} (h : InfR w v1 v2 (ps ++ [z])) : InfR w v1 v2 ps := fun k x hx => h k x (by rw [List.getElem?_append_left (List.getElem?_eq_some_iff.1 hx).1]; exact hx)
/-- The two boxes, and what they point at. -/
structure SmH (w : World) (b L : Nat) (v1 : Option Addr) (c1 : Nat) (v2 : Option Addr) (c2 : Nat) (u1 : Option Addr) (d1 : Nat) (u2 : Option Addr) (d2 : Nat) (ps : List Sy.Pc) (wr : World) : Prop where
  bw : Below w.heap.size w wr
  a0 : wr.cell? ⟨b, 0, none⟩ = some (.slice v1 L c1)
  a1 : wr.cell? ⟨b, 1, none⟩ = some (.slice v2 L c2)
  e0 : wr.cell? ⟨b + 1, 0, none⟩ = some (.slice u1 L d1)
  e1 : wr.cell? ⟨b + 1, 1, none⟩ = some (.slice u2 L d2)
  lt : b + 1 < wr.heap.size
  r1 : InfR wr v1 v2 ps
  r2 : InfR wr u1 u2 ps
theorem SmH.later {w : World} {b L : Nat} {v1 : Option Addr} {c1 : Nat} {v2 : Option Addr} {c2 : Nat} {u1 : Option Addr} {d1 : Nat} {u2 : Option Addr} {d2 : Nat} {ps : List Sy.Pc} {wr wx : World} (h : SmH w b L v1 c1 v2 c2 u1 d1 u2 d2 ps wr) (y : Below wr.heap.size wr wx) : SmH w b L v1 c1 v2 c2 u1 d1 u2 d2 ps wx :=
  have l0 : b < wr.heap.size := by have := h.lt; omega
  ⟨h.bw.trans (y.mono h.bw.size), (y.cell (p := ⟨b, 0, none⟩) l0).trans h.a0, (y.cell (p := ⟨b, 1, none⟩) l0).trans h.a1, (y.cell (p := ⟨b + 1, 0, none⟩) h.lt).trans h.e0, (y.cell (p := ⟨b + 1, 1, none⟩) h.lt).trans h.e1, Nat.lt_of_lt_of_le h.lt y.size, h.r1.later y, h.r2.later y⟩
def SmL (w : World) (b L : Nat) (v1 : Option Addr) (c1 : Nat) (v2 : Option Addr) (c2 : Nat) (u1 : Option Addr) (d1 : Nat) (u2 : Option Addr) (d2 : Nat) (ps : List Sy.Pc) (n : Nat) (gk : Nat) (i : Value) (wr : World) : Prop :=
  ∃ k : Nat, k + gk = n ∧ i = .int .i64 k ∧ Hid (SmH w b L v1 c1 v2 c2 u1 d1 u2 d2 ps wr)
abbrev ifB (v1 : Option Addr) (L c1 : Nat) (v2 : Option Addr) (c2 : Nat) : Obj := .cells #[.slice v1 L c1, .slice v2 L c2] 49
set_option maxRecDepth 100000 in
set_option maxHeartbeats 8000000 in
theorem rSame4_any (v1 : Option Addr) (c1 : Nat) (v2 : Option Addr) (c2 : Nat) (u1 : Option Addr) (d1 : Nat) (u2 : Option Addr) (d2 : Nat) (ps : List Sy.Pc) (w : World) (hl : ps.length ≤ 1000000) (h1 : InfR w v1 v2 ps) (h2 : InfR w u1 u2 ps) :
    Calls Try.prog 14 #[.agg #[.slice v1 ps.length c1, .slice v2 ps.length c2], .agg #[.slice u1 ps.length d1, .slice u2 ps.length d2]] w fun e w' => e = .returned (.bool true) ∧ Below w.heap.size w w' := by
  obtain ⟨L, hL⟩ : ∃ L, L = ps.length := ⟨_, rfl⟩
  have HL : Hid (L = ps.length) := hL
  rw [← hL] at hl ⊢
  obtain ⟨W, hW⟩ : ∃ W, W = (w.alloc (ifB v1 L c1 v2 c2)).alloc (ifB u1 L d1 u2 d2) := ⟨_, rfl⟩
  obtain ⟨b, hb⟩ : ∃ b, b = w.heap.size := ⟨_, rfl⟩
  have bW : Below w.heap.size w W := by rw [hW]; exact (box_below w _).trans ((box_below _ _).mono (by simp))
  have H0 : Hid (SmH w b L v1 c1 v2 c2 u1 d1 u2 d2 ps W) := by
    refine ⟨bW, ?_, ?_, ?_, ?_, ?_, h1.later bW, h2.later bW⟩ <;> (rw [hW, hb]; simp [go_sem])
  have a0 := H0.out.a0
  have a1 := H0.out.a1
  have e0 := H0.out.e0
  have e1 := H0.out.e1
  have eLL : ((L : Int) == (L : Int)) = true := beq_self_eq_true _
  clear h1 h2 hL bW
  go_enter Try.func14, Try.ntmps14
  go_upto_region 1 with fail
  rw [← hW, ← hb]
  clear hW hb
  go_wp2_with fail
  go_loopg [5] L (fun gk i wr => SmL w b L v1 c1 v2 c2 u1 d1 u2 d2 ps L gk i wr)
  case atStart => exact ⟨0, by omega, rfl, H0⟩
  case round =>
    clear H0 a0 a1 e0 e1
    obtain ⟨k, hk, rfl, H⟩ := hrel
    have a0 := H.out.a0
    have a1 := H.out.a1
    have e0 := H.out.e0
    have e1 := H.out.e1
    cases gk with
    | zero =>
      obtain rfl : k = L := by omega
      go_wp2_with fail
      go_ret
      exact ⟨rfl, H.out.bw⟩
    | succ gO =>
      obtain ⟨x, hx⟩ : ∃ x, ps[k]? = some x := ⟨_, List.getElem?_eq_getElem (by rw [← HL.out]; omega)⟩
      have HX : Hid (ps[k]? = some x) := hx
      obtain ⟨g1, g2, va, vc, rfl, rfl, l1, l2, cm, cv, hvs⟩ := H.out.r1 k x hx
      obtain ⟨g3, g4, vb, vd, rfl, rfl, l3, l4, dm, dv, hws⟩ := H.out.r2 k x hx
      obtain ⟨T, hT⟩ : ∃ T : Int, T = (Sy.cts x.body : Int) := ⟨_, rfl⟩
      rw [← hT] at cm dm
      obtain ⟨N, hN⟩ : ∃ N, N = (ckVs x).length := ⟨_, rfl⟩
      rw [← hN] at cv dv
      have HN : Hid (N = (ckVs x).length) := hN
      have hki : (k : Int) < (L : Int) := by omega
      have hk0 : (0 : Int) ≤ (k : Int) := by omega
      have eTT : (T == T) = true := beq_self_eq_true _
      have nTT : (T != T) = false := by simp [bne, eTT]
      have eNN : ((N : Int) == (N : Int)) = true := beq_self_eq_true _
      have nNN : ((N : Int) != (N : Int)) = false := by simp [bne, eNN]
      have nLL : ((L : Int) != (L : Int)) = false := by simp [bne, eLL]
      clear hx hT hN hvs hws
      go_wp2_with fail
      go_quiet (fail)
      have H5 : Hid (SmH w b L (some ⟨g1, 0, none⟩) c1 (some ⟨g2, 0, none⟩) c2 (some ⟨g3, 0, none⟩) d1 (some ⟨g4, 0, none⟩) d2 ps (wr.drewN nq)) := H.out.later (below_drewN (Below.refl _ _) nq)
      clear H a0 a1 e0 e1 cm dm cv dv l1 l2 l3 l4
      generalize wr.drewN nq = W5 at H5 ⊢
      go_wp2_with fail
      go_loopg [6] N (fun gk i wr => SmL w b L (some ⟨g1, 0, none⟩) c1 (some ⟨g2, 0, none⟩) c2 (some ⟨g3, 0, none⟩) d1 (some ⟨g4, 0, none⟩) d2 ps N gk i wr)
      case atStart => exact ⟨0, by omega, rfl, H5⟩
      case round =>
        clear H5
        obtain ⟨j, hj, rfl, H⟩ := hrel
        obtain ⟨g1', g2', va, vc, q1, q2, l1, l2, cm, cv, hvs⟩ := H.out.r1 k x HX.out
        obtain ⟨g3', g4', vb, vd, q3, q4, l3, l4, dm, dv, hws⟩ := H.out.r2 k x HX.out
        cases q1
        cases q2
        cases q3
        cases q4
        have a0 := H.out.a0
        have e0 := H.out.e0
        rw [← HN.out] at cv dv
        have hNb : N ≤ 1000000000000000 := by rw [HN.out]; exact hvs.1
        cases gk with
        | zero =>
          obtain rfl : j = N := by omega
          clear hvs hws cm dm
          go_wp2_with fail
          go_roundg gO
          case measure => omega
          case rel => exact ⟨k + 1, by omega, by go_num, H⟩
        | succ gj =>
          have hjN : j < N := by omega
          obtain ⟨g, o, rfl, hg, hcs⟩ := hvs.2 (by rw [← HN.out]; omega)
          obtain ⟨g', o', rfl, hg', hds⟩ := hws.2 (by rw [← HN.out]; omega)
          obtain ⟨s0, s1, s2, s3, s4⟩ := hcs j (by rw [← HN.out]; exact hjN)
          obtain ⟨t0, t1, t2, t3, t4⟩ := hds j (by rw [← HN.out]; exact hjN)
          generalize (ckVs x).getD j ckV0 = y at s0 s1 s2 s3 s4 t0 t1 t2 t3 t4
          obtain ⟨yn, yt, ys, yf, yl⟩ := y
          dsimp only at s0 s1 s2 s3 s4 t0 t1 t2 t3 t4
          have hji : (j : Int) < (N : Int) := by omega
          have hj0 : (0 : Int) ≤ (j : Int) := by omega
          have f0 := text_t (rfl : yn = yn)
          have f1 : (yt == yt) = true := beq_self_eq_true _
          have f2 : (ys == ys) = true := beq_self_eq_true _
          have f3 : (yf == yf) = true := beq_self_eq_true _
          have f4 : (yl == yl) = true := beq_self_eq_true _
          clear hvs hws hcs hds cm dm
          go_wp2_with fail
          go_quiet (fail)
          have H5 : Hid (SmH w b L (some ⟨g1, 0, none⟩) c1 (some ⟨g2, 0, none⟩) c2 (some ⟨g3, 0, none⟩) d1 (some ⟨g4, 0, none⟩) d2 ps (wr.drewN nq)) := H.out.later (below_drewN (Below.refl _ _) nq)
          clear H a0 e0 cv dv l1 l2 l3 l4 hg hg' s0 s1 s2 s3 s4 t0 t1 t2 t3 t4
          generalize wr.drewN nq = W5 at H5 ⊢
          go_wp2_with fail
          go_roundg gj
          case measure => omega
          case rel => exact ⟨j + 1, by omega, by go_num, H5⟩
set_option maxRecDepth 100000 in
set_option maxHeartbeats 1000000 in
/-- info hands on what it is given. -/
theorem info4_any (a b : Value) (ha : ∃ x n c, a = .slice x n c) (hb : ∃ x n c, b = .slice x n c) (w : World) : Calls Try.prog 15 #[.agg #[a, b]] w fun e w' => e = .returned (.agg #[a, b]) ∧ Below w.heap.size w w' := by
  obtain ⟨x, n, c, rfl⟩ := ha
  obtain ⟨y, m, d, rfl⟩ := hb
  go_enter Try.func15, Try.ntmps15
  go_wp2_with fail
  refine bodyPost_ret (v := .agg #[.slice x n c, .slice y m d]) (by simp [results, Try.results15, go_sem]) rfl ?_
  exact ⟨rfl, by go_grown⟩
end Go.Proofs.Ytfpabjdhibmefaa
