/- Layer 4: CheckScopes walked: for every program in memory and every mark. -/
import Derived.Test.YtfpabjdhibmefaaZCkSp
import Derived.Test.YtfpabjdhibmefaaZCkNz
import Derived.Test.YtfpabjdhibmefaaZCkSy
import Derived.Test.YtfpabjdhibmefaaZCkZo
import Derived.Deep.LoopGhost
import Derived.Deep.RegionHeld3
import Derived.BigQuiet
namespace Go.Proofs.Ytfpabjdhibmefaa
open Go.RowKit
set_option linter.unusedVariables false
set_option linter.unusedSimpArgs false

set_option maxRecDepth 100000 in
set_option maxHeartbeats 1000000 in
theorem csAmong (a n : Int) (hn : 0 < n) (hn2 : n ≤ 1000000000) : ∃ r : Nat, (r : Int) < n ∧ ∀ w, Calls Try.prog 16 #[.int .i64 a, .int .i64 n] w fun e w' => e = .returned (.int .i64 (r : Int)) ∧ w' = w := by
  have hb1 := Int.tmod_lt_of_pos a hn
  have hb2 := Int.lt_tmod_of_pos a hn
  generalize hq : a.tmod n = q at hb1 hb2
  by_cases h0 : 0 ≤ q
  · refine ⟨q.toNat, by omega, fun w => ?_⟩
    go_enter Try.func16, Try.ntmps16
    go_wp2
    go_ret
    exact ⟨by rw [Int.toNat_of_nonneg h0]; rfl, rfl⟩
  · obtain ⟨r, hr⟩ : ∃ r : Nat, q + n = (r : Int) := ⟨(q + n).toNat, by omega⟩
    refine ⟨r, by omega, fun w => ?_⟩
    have HR : Hid (q + n = (r : Int)) := hr
    clear hr
    go_enter Try.func16, Try.ntmps16
    go_wp2
    go_ret
    exact ⟨by rw [← HR.out]; rfl, rfl⟩
/-- What lies while the variables are gone through. -/
structure CsH (w : World) (bp bi : Nat) (qa : Option Addr) (qc : Nat) (ps : List Sy.Pc) (p : Nat) (v1 : Option Addr) (c1 : Nat) (v2 : Option Addr) (c2 : Nat) (vvs : List Value) (wr : World) : Prop where
  bw : Below w.heap.size w wr
  cp : wr.cell? ⟨bp, 0, none⟩ = some (.slice qa ps.length qc)
  ci : wr.cell? ⟨bi, 0, none⟩ = some (.slice v1 ps.length c1)
  cm : wr.cell? ⟨bi, 1, none⟩ = some (.slice v2 ps.length c2)
  pl : bp < wr.heap.size
  il : bi < wr.heap.size
  inf : Inf wr p (.slice v1 ps.length c1) (.slice v2 ps.length c2) ps ps.length ps.length vvs
theorem CsH.later {w : World} {bp bi : Nat} {qa : Option Addr} {qc : Nat} {ps : List Sy.Pc} {p : Nat} {v1 : Option Addr} {c1 : Nat} {v2 : Option Addr} {c2 : Nat} {vvs : List Value} {wr wx : World} (h : CsH w bp bi qa qc ps p v1 c1 v2 c2 vvs wr) (b : Below wr.heap.size wr wx) : CsH w bp bi qa qc ps p v1 c1 v2 c2 vvs wx :=
  ⟨h.bw.trans (b.mono h.bw.size), (b.cell (p := ⟨bp, 0, none⟩) h.pl).trans h.cp, (b.cell (p := ⟨bi, 0, none⟩) h.il).trans h.ci, (b.cell (p := ⟨bi, 1, none⟩) h.il).trans h.cm, Nat.lt_of_lt_of_le h.pl b.size, Nat.lt_of_lt_of_le h.il b.size, h.inf.high (fun g _ hg => b.block g hg) b.size⟩
/-- The marks and the variables of a procedure, as they lie. -/
theorem CsH.at {w : World} {bp bi : Nat} {qa : Option Addr} {qc : Nat} {ps : List Sy.Pc} {p : Nat} {v1 : Option Addr} {c1 : Nat} {v2 : Option Addr} {c2 : Nat} {vvs : List Value} {wr : World} (h : CsH w bp bi qa qc ps p v1 c1 v2 c2 vvs wr) {k : Nat} {x : Sy.Pc} (hx : ps[k]? = some x) :
    ∃ g1 g2 va vc, v1 = some ⟨g1, 0, none⟩ ∧ v2 = some ⟨g2, 0, none⟩ ∧ g1 < wr.heap.size ∧ g2 < wr.heap.size ∧ wr.cell? ⟨g2, k, none⟩ = some (.int .i64 (Sy.cts x.body : Int)) ∧ wr.cell? ⟨g1, k, none⟩ = some (.slice va (ckVs x).length vc) ∧ VaS wr va (ckVs x) := by
  have kl : k < ps.length := (List.getElem?_eq_some_iff.1 hx).1
  obtain ⟨va, vc, ev, hv⟩ := h.inf.vv k x kl hx
  have hc1 := @World.ownsRow.cells _ _ _ _ _ _ _ h.inf.rv
  have hl1 := World.ownsRow.lt h.inf.rv
  have hc2 := @World.ownsRow.cells _ _ _ _ _ _ _ h.inf.rm
  have hl2 := World.ownsRow.lt h.inf.rm
  have add : ∀ g j : Nat, (⟨g, 0, none⟩ : Addr).add j = ⟨g, j, none⟩ := fun g j => by unfold Addr.add; split <;> simp_all
  rcases h.inf.rv.2 with ⟨_, e⟩ | ⟨g1, cap1, cur1, e1, _⟩
  · omega
  rcases h.inf.rm.2 with ⟨_, e⟩ | ⟨g2, cap2, cur2, e2, _⟩
  · omega
  cases e1
  cases e2
  refine ⟨g1, g2, va, vc, rfl, rfl, (hl1 g1 rfl).2, (hl2 g2 rfl).2, ?_, ?_, hv.1⟩
  · have := @hc2 g2 rfl k (.int .i64 (Sy.cts x.body : Int)) (by simp [mkV, hx])
    rwa [add] at this
  · have := @hc1 g1 rfl k _ ev
    rwa [add] at this
/-- While procedures are gone through. -/
def CsL (w : World) (bp bi : Nat) (qa : Option Addr) (qc : Nat) (ps : List Sy.Pc) (p : Nat) (v1 : Option Addr) (c1 : Nat) (v2 : Option Addr) (c2 : Nat) (vvs : List Value) (gk : Nat) (i : Value) (wr : World) : Prop :=
  ∃ k : Nat, k + gk = ps.length ∧ i = .int .i64 k ∧ Hid (CsH w bp bi qa qc ps p v1 c1 v2 c2 vvs wr)
/-- While a procedure's variables are. -/
def CsI (w : World) (bp bi : Nat) (qa : Option Addr) (qc : Nat) (ps : List Sy.Pc) (p : Nat) (v1 : Option Addr) (c1 : Nat) (v2 : Option Addr) (c2 : Nat) (vvs : List Value) (n : Nat) (gj : Nat) (i : Value) (wr : World) : Prop :=
  ∃ j : Nat, j + gj = n ∧ i = .int .i64 j ∧ Hid (CsH w bp bi qa qc ps p v1 c1 v2 c2 vvs wr)
abbrev vaB (x : CkVa) : Obj := .cells #[.string ⟨x.name.toArray⟩, .int .i64 x.ty, .int .i64 x.sz, .int .i64 x.fr, .int .i64 x.tl] 55
abbrev pgB (qa : Option Addr) (L qc : Nat) : Obj := .cells #[.slice qa L qc] 29
set_option maxRecDepth 100000 in
set_option maxHeartbeats 8000000 in
theorem scopes_walk (A : Nat → Prop) (qa : Option Addr) (qc : Nat) (ps : List Sy.Pc) (mark : Int) (w : World) (hp : PcS A w (.slice qa ps.length qc) ps) (hP : ∀ x, x ∈ ps → x.Ok) (hl : ps.length ≤ 1000000000000000) :
    Calls Try.prog 5 #[.agg #[.slice qa ps.length qc], .int .i64 mark] w fun e w' => e = .returned (.bool true) ∧ Below w.heap.size w w' := by
  have EG : Hid (∀ W, Below w.heap.size w W → Calls Try.prog 6 #[.agg #[.slice qa ps.length qc]] W fun e w' => ∃ b : Bool, e = .returned (.bool b) ∧ Hid (b = false → ps.length ≤ 1000000 ∧ ∀ x, x ∈ ps → PcB x) ∧ Hid (Below W.heap.size W w')) := fun W hW => (pgGreat_any A ps hl hP qa qc W (hp.later hW (Nat.le_refl _))).mono fun e w' ⟨b, a, c, d⟩ => ⟨b, a, c, d⟩
  have EK : Hid (∀ W, Below w.heap.size w W → Calls Try.prog 7 #[] W fun e w' => e = .returned (.bool true) ∧ Hid (Below w.heap.size w w')) := fun W hW => (known4 W).mono fun e w' ⟨a, d⟩ => ⟨a, hW.trans (d.mono hW.size)⟩
  have ECk : Hid ((ps.length ≤ 1000000 ∧ ∀ x, x ∈ ps → PcB x) → ∀ W, Below w.heap.size w W → Calls Try.prog 13 #[.agg #[.slice qa ps.length qc]] W (CkA W ps (ckPg ps))) := fun h W hW => ckCheck_any A qa qc ps W (hp.later hW (Nat.le_refl _)) h.1 h.2 (ckPg ps) rfl (nz_pg ps)
  have HPC : Hid (PcS A w (.slice qa ps.length qc) ps) := hp
  obtain ⟨L, hL⟩ : ∃ L, L = ps.length := ⟨_, rfl⟩
  have HLL : Hid (L = ps.length) := hL
  rw [← hL] at EG ECk ⊢
  obtain ⟨W0, hW0⟩ : ∃ W0, W0 = w.alloc (pgB qa L qc) := ⟨_, rfl⟩
  obtain ⟨bp, hbp⟩ : ∃ bp, bp = w.heap.size := ⟨_, rfl⟩
  have B0 : Hid (Below w.heap.size w W0) := by unfold Hid; rw [hW0]; exact box_below w _
  have cp0 : W0.cell? ⟨bp, 0, none⟩ = some (.slice qa L qc) := by rw [hW0, hbp]; simp [go_sem]
  have pl0 : bp < W0.heap.size := by rw [hW0, hbp]; simp
  clear hp hP hl hL
  go_enter Try.func5, Try.ntmps5
  go_upto_region 1 with fail
  rw [← hW0, ← hbp]
  clear hW0 hbp
  go_wp2_with fail
  refine Calls.mono (EG.out _ B0.out) ?_
  rintro e1 w1 ⟨bg, rfl, G1, Y1⟩
  have B1 : Hid (Below w.heap.size w w1) := B0.out.trans (Y1.out.mono B0.out.size)
  have cp1 : w1.cell? ⟨bp, 0, none⟩ = some (.slice qa L qc) := (Y1.out.cell (p := ⟨bp, 0, none⟩) pl0).trans cp0
  have pl1 : bp < w1.heap.size := Nat.lt_of_lt_of_le pl0 Y1.out.size
  clear Y1 cp0 pl0 B0 EG
  cases bg with
  | true =>
    go_wp2_with fail
    refine Calls.mono (EK.out _ B1.out) ?_
    rintro e20 w20 ⟨rfl, B20⟩
    go_wp2_with fail
    go_ret
    exact ⟨rfl, B20.out⟩
  | false =>
    have HG : Hid (L ≤ 1000000 ∧ ∀ x, x ∈ ps → PcB x) := G1.out rfl
    clear G1
    go_wp2_with fail
    refine Calls.mono (ECk.out HG.out _ B1.out) ?_
    rintro e2 w2 CA
    have CAH : Hid _ := CA
    clear CA ECk
    rcases CAH.out with ⟨er, her, rfl, b2⟩ | ⟨hok, p, iv, im, vvs, hpw, rfl, inf, b2⟩
    · have B2 : Hid (Below w.heap.size w w2) := B1.out.trans (b2.mono B1.out.size)
      have hne : (er != 0) = true := bne_iff_ne.2 (fun e => nz_pg ps (by rw [her, e]))
      have hne2 : (er == 0) = false := beq_eq_false_iff_ne.2 (fun e => nz_pg ps (by rw [her, e]))
      clear her b2 CAH
      generalize (ckPg ps).2.1 = z1
      generalize (ckPg ps).2.2 = z2
      go_wp2_with fail
      refine Calls.mono (EK.out _ (B2.out.trans (Below.mono (by go_grown) B2.out.size))) ?_
      rintro e20 w20 ⟨rfl, B20⟩
      go_wp2_with fail
      go_ret
      exact ⟨rfl, B20.out⟩
    · obtain ⟨v1, c1, hiv⟩ := own_shape inf.rv
      obtain ⟨v2, c2, him⟩ := own_shape inf.rm
      subst hiv him
      have UQ : Hid (∀ x, x ∈ ps → ckUq ((ckVs x).map CkVa.name)) := ckPg_ok hok
      have cp2 : w2.cell? ⟨bp, 0, none⟩ = some (.slice qa L qc) := (b2.cell (p := ⟨bp, 0, none⟩) pl1).trans cp1
      have pl2 : bp < w2.heap.size := Nat.lt_of_lt_of_le pl1 b2.size
      obtain ⟨W3, hW3⟩ : ∃ W3, W3 = (w2.alloc (.cells #[.slice v1 L c1, .slice v2 L c2] 42)).alloc (.cells #[.int .i64 0, .int .i64 0] 44) := ⟨_, rfl⟩
      obtain ⟨bi, hbi⟩ : ∃ bi, bi = w2.heap.size := ⟨_, rfl⟩
      have b3 : Below w2.heap.size w2 W3 := by rw [hW3]; exact (box_below w2 _).trans ((box_below _ _).mono (by simp))
      have H3 : Hid (CsH w bp bi qa qc ps p v1 c1 v2 c2 vvs W3) := by
        refine ⟨B1.out.trans ((b2.trans (b3.mono b2.size)).mono B1.out.size), ?_, ?_, ?_, Nat.lt_of_lt_of_le pl2 b3.size, ?_, inf.high (fun g _ hg => b3.block g hg) b3.size⟩
        · rw [← HLL.out]; exact (b3.cell (p := ⟨bp, 0, none⟩) pl2).trans cp2
        · rw [← HLL.out, hW3, hbi]; simp [go_sem]
        · rw [← HLL.out, hW3, hbi]; simp [go_sem]
        · rw [hW3, hbi]; simp; omega
      rw [← HLL.out]
      clear hok inf b2 b3 CAH cp1 pl1 B1 hpw
      go_upto_region 4 with fail
      rw [← hW3, ← hbi]
      have ci3 := H3.out.ci
      have cm3 := H3.out.cm
      have cp3 := H3.out.cp
      rw [← HLL.out] at ci3 cm3 cp3
      clear hW3 hbi cp2 pl2
      have hL6 : L ≤ 1000000 := HG.out.1
      go_wp2_with fail
      go_loopg [8] L (fun gk i wr => CsL w bp bi qa qc ps p v1 c1 v2 c2 vvs gk i wr)
      case atStart => exact ⟨0, by have := HLL.out; omega, rfl, H3⟩
      case round =>
        clear H3 ci3 cm3 cp3
        obtain ⟨k, hk, rfl, H⟩ := hrel
        have hk' : k + gk = L := by rw [HLL.out]; exact hk
        clear hk
        have cp := H.out.cp
        rw [← HLL.out] at cp
        cases gk with
        | zero =>
          obtain rfl : k = L := by omega
          go_wp2_with fail
          refine Calls.mono (EK.out _ H.out.bw) ?_
          rintro e20 w20 ⟨rfl, B20⟩
          go_wp2_with fail
          go_ret
          exact ⟨rfl, B20.out⟩
        | succ gO =>
          obtain ⟨x, hx⟩ : ∃ x, ps[k]? = some x := ⟨_, List.getElem?_eq_getElem (by rw [← HLL.out]; omega)⟩
          have HX : Hid (ps[k]? = some x) := hx
          have hb := (HG.out.2 x (List.mem_of_getElem? hx)).1
          obtain ⟨T, hT⟩ : ∃ T : Nat, T = Sy.cts x.body := ⟨_, rfl⟩
          have hT6 : T ≤ 1000000 := by omega
          have HT : Hid (T = Sy.cts x.body) := hT
          obtain ⟨g1, g2, va, vc, rfl, rfl, hg1, hg2, cm, cv, hvs⟩ := H.out.at hx
          have ci := H.out.ci
          have ci2 := H.out.cm
          rw [← HLL.out] at ci ci2
          rw [← hT] at cm
          obtain ⟨r, hr, EA0⟩ := csAmong mark ((T : Int) + 2) (by omega) (by omega)
          have EA : Hid _ := EA0
          have hki : (k : Int) < (L : Int) := by omega
          have hk0 : (0 : Int) ≤ (k : Int) := by omega
          clear hx hb hT EA0 cv hvs hg1 hg2
          go_wp2_with fail
          refine Calls.mono (EA.out _) ?_
          rintro e4 w4 ⟨rfl, rfl⟩
          clear EA cm ci ci2 cp
          go_wp2_with fail
          go_loopg [10] (ckVs x).length (fun gj i wy => CsI w bp bi qa qc ps p (some ⟨g1, 0, none⟩) c1 (some ⟨g2, 0, none⟩) c2 vvs (ckVs x).length gj i wy)
          case atStart => exact ⟨0, by omega, rfl, H⟩
          case round =>
            clear H
            obtain ⟨j, hj, rfl, H⟩ := hrel
            obtain ⟨g1', g2', va, vc, e1, e2, hg1, hg2, cm, cv, hvs⟩ := H.out.at HX.out
            cases e1
            cases e2
            have ci := H.out.ci
            have cp := H.out.cp
            rw [← HLL.out] at ci cp
            obtain ⟨N, hN⟩ : ∃ N, N = (ckVs x).length := ⟨_, rfl⟩
            rw [← hN] at cv hj
            have HN : Hid (N = (ckVs x).length) := hN
            have hNb : N ≤ 1000000000000000 := by rw [hN]; exact hvs.1
            clear cm hg2 hN
            cases gk with
            | zero =>
              obtain rfl : j = N := by omega
              clear hvs
              go_wp2_with fail
              go_roundg gO
              case measure => omega
              case rel => exact ⟨k + 1, by have := HLL.out; omega, by go_num, H⟩
            | succ gj =>
              have hjN : j < N := by omega
              obtain ⟨g, o, rfl, hg, hcs⟩ := hvs.2 (by rw [← HN.out]; omega)
              obtain ⟨d0, d1, d2, d3, d4⟩ := hcs j (by rw [← HN.out]; exact hjN)
              have FI : Hid (∀ m : Int, ((ckVs x).getD j ckV0).fr ≤ m ∧ m ≤ ((ckVs x).getD j ckV0).tl → ckFi (ckVs x) ((ckVs x).getD j ckV0).name m 0 = j) := fun m hm => ckFi_own (UQ.out x (List.mem_of_getElem? HX.out)) (by rw [← HN.out]; exact hjN) hm
              have PA : Hid (j < x.params.length → ((ckVs x).getD j ckV0).fr = 0 ∧ ((ckVs x).getD j ckV0).tl = T + 1) := fun h => by rw [HT.out]; exact ckVs_par h
              generalize (ckVs x).getD j ckV0 = y at d0 d1 d2 d3 d4 FI PA
              obtain ⟨W4, hW4⟩ : ∃ W4, W4 = wr.alloc (vaB y) := ⟨_, rfl⟩
              obtain ⟨bv, hbv⟩ : ∃ bv, bv = wr.heap.size := ⟨_, rfl⟩
              have b4 : Below wr.heap.size wr W4 := by rw [hW4]; exact box_below wr _
              have H4 : Hid (CsH w bp bi qa qc ps p (some ⟨g1, 0, none⟩) c1 (some ⟨g2, 0, none⟩) c2 vvs W4) := H.out.later b4
              have VS4 : Hid (VaS W4 (some ⟨g, o, none⟩) (ckVs x)) := hvs.later b4
              have t0 : W4.cell? ⟨bv, 0, none⟩ = some (.string ⟨y.name.toArray⟩) := by rw [hW4, hbv]; simp [go_sem]
              have t3 : W4.cell? ⟨bv, 3, none⟩ = some (.int .i64 y.fr) := by rw [hW4, hbv]; simp [go_sem]
              have t4 : W4.cell? ⟨bv, 4, none⟩ = some (.int .i64 y.tl) := by rw [hW4, hbv]; simp [go_sem]
              have vl : bv < W4.heap.size := by rw [hW4, hbv]; simp
              have cv4 := (b4.cell (p := ⟨g1, k, none⟩) hg1).trans cv
              have g14 : g1 < W4.heap.size := Nat.lt_of_lt_of_le hg1 b4.size
              have hji : (j : Int) < (N : Int) := by omega
              have hj0 : (0 : Int) ≤ (j : Int) := by omega
              go_upto_region 16 with fail
              rw [← hW4, ← hbv]
              clear hW4 hbv b4 cv d0 d1 d2 d3 d4 hcs hvs hg1 ci cp H
              have ci := H4.out.ci
              have cp := H4.out.cp
              rw [← HLL.out] at ci cp
              have il := H4.out.il
              have pl := H4.out.pl
              obtain ⟨gq, oq, x', pa, pc, ba, bc, rfl, _, hgq, ex', at_⟩ := (HPC.out.later H4.out.bw (Nat.le_refl _)).part k (by rw [← HLL.out]; omega)
              rw [HX.out] at ex'
              cases ex'
              have cq := at_.c1
              clear at_
              obtain ⟨np, hnp⟩ : ∃ np, np = x.params.length := ⟨_, rfl⟩
              rw [← hnp] at cq PA
              clear hnp
              by_cases hin : y.fr ≤ (r : Int) ∧ (r : Int) ≤ y.tl
              · have df : decide (y.fr ≤ (r : Int)) = true := decide_eq_true hin.1
                have dt : decide ((r : Int) ≤ y.tl) = true := decide_eq_true hin.2
                have h1 := hin.1
                have h2 := hin.2
                have EF : Hid (∀ X, Below W4.heap.size W4 X → Calls Try.prog 17 #[.slice (some ⟨g, o, none⟩) N vc, .string ⟨y.name.toArray⟩, .int .i64 (r : Int)] X fun e w' => e = .returned (.int .i64 (j : Int)) ∧ Below X.heap.size X w') := fun X hX => by
                  have := ckFind_any (some ⟨g, o, none⟩) vc (ckVs x) y.name (r : Int) X (VS4.out.later hX)
                  rw [FI.out _ hin, ← HN.out] at this
                  exact this
                clear hin FI PA VS4
                have ej : ((j : Int) == (j : Int)) = true := beq_self_eq_true _
                by_cases hjn : j < np
                · have dn : decide (j < np) = true := decide_eq_true hjn
                  have dni : decide ((j : Int) < (np : Int)) = true := decide_eq_true (by omega)
                  go_wp2_with fail
                  go_region_held3 (fun w' => w'.cell? ⟨bp, 0, none⟩ = some (.slice (some ⟨gq, oq, none⟩) L qc) ∧ w'.cell? ⟨gq, oq + k * 4 + 1, none⟩ = some (.slice pa np pc) ∧ w'.cell? ⟨bi, 0, none⟩ = some (.slice (some ⟨g1, 0, none⟩) L c1) ∧ w'.cell? ⟨g1, k, none⟩ = some (.slice (some ⟨g, o, none⟩) N vc) ∧ w'.cell? ⟨bv, 0, none⟩ = some (.string ⟨y.name.toArray⟩)) (first | (exact ⟨q0, q1, q2, q3, q4⟩) | go_keep) (first | (go_at_call 17; refine Calls.mono (EF.out _ (by go_grown)) ?_; rintro e5 w5 ⟨rfl, b5⟩; have q0 : w5.cell? ⟨bp, 0, none⟩ = some (.slice (some ⟨gq, oq, none⟩) L qc) := (b5.cell (p := ⟨bp, 0, none⟩) (by simpa using pl)).trans (by simpa [go_sem] using cp); have q1 : w5.cell? ⟨gq, oq + k * 4 + 1, none⟩ = some (.slice pa np pc) := (b5.cell (p := ⟨gq, oq + k * 4 + 1, none⟩) (by simpa using hgq)).trans (by simpa [go_sem] using cq); have q2 : w5.cell? ⟨bi, 0, none⟩ = some (.slice (some ⟨g1, 0, none⟩) L c1) := (b5.cell (p := ⟨bi, 0, none⟩) (by simpa using il)).trans (by simpa [go_sem] using ci); have q3 : w5.cell? ⟨g1, k, none⟩ = some (.slice (some ⟨g, o, none⟩) N vc) := (b5.cell (p := ⟨g1, k, none⟩) (by simpa using g14)).trans (by simpa [go_sem] using cv4); have q4 : w5.cell? ⟨bv, 0, none⟩ = some (.string ⟨y.name.toArray⟩) := (b5.cell (p := ⟨bv, 0, none⟩) (by simpa using vl)).trans (by simpa [go_sem] using t0); have b6 : Below W4.heap.size W4 w5 := Below.trans (by go_grown) b5; have H5 : Hid (CsH w bp bi (some ⟨gq, oq, none⟩) qc ps p (some ⟨g1, 0, none⟩) c1 (some ⟨g2, 0, none⟩) c2 vvs w5) := H4.out.later b6; clear b5 b6))
                  all_goals
                    have H9 : Hid (CsH w bp bi (some ⟨gq, oq, none⟩) qc ps p (some ⟨g1, 0, none⟩) c1 (some ⟨g2, 0, none⟩) c2 vvs _) := H5.out.later ⟨rfl, rfl, rfl, Nat.le_refl _, fun _ _ => rfl⟩
                    clear H5 q0 q1 q2 q3 q4 cp cq ci cv4 t0
                    go_wp2_with fail
                    go_roundg gj
                    case measure => omega
                    case rel => exact ⟨j + 1, by have := HN.out; omega, by go_num, H9⟩
                · have dn : decide (j < np) = false := decide_eq_false hjn
                  have dni : decide ((j : Int) < (np : Int)) = false := decide_eq_false (by omega)
                  have hnl : ¬ (j : Int) < (np : Int) := by omega
                  have hnk : np ≤ j := by omega
                  go_wp2_with fail
                  clear hjn HPC UQ HG HX HT EK t3 t4 h1 h2 df dt hr hT6
                  refine wp_region_held_drew (S := (fun w' => w'.cell? ⟨bp, 0, none⟩ = some (.slice (some ⟨gq, oq, none⟩) L qc) ∧ w'.cell? ⟨gq, oq + k * 4 + 1, none⟩ = some (.slice pa np pc) ∧ w'.cell? ⟨bi, 0, none⟩ = some (.slice (some ⟨g1, 0, none⟩) L c1) ∧ w'.cell? ⟨g1, k, none⟩ = some (.slice (some ⟨g, o, none⟩) N vc) ∧ w'.cell? ⟨bv, 0, none⟩ = some (.string ⟨y.name.toArray⟩))) (by kernel_rfl) ?hS (fun hHeld => ?_)
                  case hS => exact ⟨cp, cq, ci, cv4, t0⟩
                  refine wpAnyH_take (i := 0) (v := ?v0) rfl (by kernel_rfl) (by kernel_rfl) (by kernel_rfl) (fun _ _ _ h => h) (Or.inl ⟨by rfl, ?hy0⟩) (by assumption) ?_
                  case hy0 => (intro w hSw; (try dsimp only at hSw); go_simp) <;> rfl
                  try simp only [List.getElem_toArray, List.getElem_cons_zero, List.getElem_cons_succ, Act.put, List.setIfInBounds_toArray, List.set_cons_zero, List.set_cons_succ]
                  refine wpAnyH_take (i := 1) (v := ?v1) rfl (by kernel_rfl) (by kernel_rfl) (by kernel_rfl) (fun _ _ _ h => h) (Or.inl ⟨by rfl, ?hy1⟩) (by assumption) ?_
                  case hy1 => (intro w hSw; (try dsimp only at hSw); go_simp) <;> rfl
                  try simp only [List.getElem_toArray, List.getElem_cons_zero, List.getElem_cons_succ, Act.put, List.setIfInBounds_toArray, List.set_cons_zero, List.set_cons_succ]
                  refine wpAnyH_take (i := 2) (v := ?v2) rfl (by kernel_rfl) (by kernel_rfl) (by kernel_rfl) (fun _ _ _ h => h) (Or.inl ⟨by rfl, ?hy2⟩) (by assumption) ?_
                  case hy2 => (intro w hSw; (try dsimp only at hSw); go_simp) <;> rfl
                  try simp only [List.getElem_toArray, List.getElem_cons_zero, List.getElem_cons_succ, Act.put, List.setIfInBounds_toArray, List.set_cons_zero, List.set_cons_succ]
                  refine wpAnyH_take (i := 3) (v := ?v3) rfl (by kernel_rfl) (by kernel_rfl) (by kernel_rfl) (fun _ _ _ h => h) (Or.inl ⟨by rfl, ?hy3⟩) (by assumption) ?_
                  case hy3 => (intro w hSw; (try dsimp only at hSw); go_simp) <;> rfl
                  try simp only [List.getElem_toArray, List.getElem_cons_zero, List.getElem_cons_succ, Act.put, List.setIfInBounds_toArray, List.set_cons_zero, List.set_cons_succ]
                  refine wpAnyH_take (i := 4) (v := ?v4) rfl (by kernel_rfl) (by kernel_rfl) (by kernel_rfl) (fun _ _ _ h => h) (Or.inl ⟨by rfl, ?hy4⟩) (by assumption) ?_
                  case hy4 => (intro w hSw; (try dsimp only at hSw); go_simp) <;> rfl
                  try simp only [List.getElem_toArray, List.getElem_cons_zero, List.getElem_cons_succ, Act.put, List.setIfInBounds_toArray, List.set_cons_zero, List.set_cons_succ]
                  refine wpAnyH_take (i := 5) (v := ?v5) rfl (by kernel_rfl) (by kernel_rfl) (by kernel_rfl) (fun _ _ _ h => h) (Or.inl ⟨by rfl, ?hy5⟩) (by assumption) ?_
                  case hy5 => (intro w hSw; (try dsimp only at hSw); go_simp) <;> rfl
                  try simp only [List.getElem_toArray, List.getElem_cons_zero, List.getElem_cons_succ, Act.put, List.setIfInBounds_toArray, List.set_cons_zero, List.set_cons_succ]
                  refine wpAnyH_take (i := 6) (v := ?v6) rfl (by kernel_rfl) (by kernel_rfl) (by kernel_rfl) (fun _ _ _ h => h) (Or.inl ⟨by rfl, ?hy6⟩) (by assumption) ?_
                  case hy6 => (intro w hSw; (try dsimp only at hSw); go_simp) <;> rfl
                  try simp only [List.getElem_toArray, List.getElem_cons_zero, List.getElem_cons_succ, Act.put, List.setIfInBounds_toArray, List.set_cons_zero, List.set_cons_succ]
                  refine wpAnyH_take (i := 7) (v := ?v7) rfl (by kernel_rfl) (by kernel_rfl) (by kernel_rfl) (fun _ _ _ h => h) (Or.inl ⟨by rfl, ?hy7⟩) (by assumption) ?_
                  case hy7 => (intro w hSw; (try dsimp only at hSw); go_simp) <;> rfl
                  try simp only [List.getElem_toArray, List.getElem_cons_zero, List.getElem_cons_succ, Act.put, List.setIfInBounds_toArray, List.set_cons_zero, List.set_cons_succ]
                  refine wpAnyH_take (i := 8) (v := ?v8) rfl (by kernel_rfl) (by kernel_rfl) (by kernel_rfl) (fun _ _ _ h => h) (Or.inl ⟨by rfl, ?hy8⟩) (by assumption) ?_
                  case hy8 => (intro w hSw; (try dsimp only at hSw); go_simp) <;> rfl
                  try simp only [List.getElem_toArray, List.getElem_cons_zero, List.getElem_cons_succ, Act.put, List.setIfInBounds_toArray, List.set_cons_zero, List.set_cons_succ]
                  refine wpAnyH_take (i := 9) (v := ?v9) rfl (by kernel_rfl) (by kernel_rfl) (by kernel_rfl) (fun _ _ _ h => h) (Or.inl ⟨by rfl, ?hy9⟩) (by assumption) ?_
                  case hy9 => (intro w hSw; (try dsimp only at hSw); go_simp) <;> rfl
                  try simp only [List.getElem_toArray, List.getElem_cons_zero, List.getElem_cons_succ, Act.put, List.setIfInBounds_toArray, List.set_cons_zero, List.set_cons_succ]
                  refine wpAnyH_take (i := 10) (v := undef) rfl (by kernel_rfl) (by kernel_rfl) (by kernel_rfl) (fun _ _ _ h => h) (Or.inr ⟨by rfl, rfl⟩) (by assumption) ?_
                  try simp only [List.getElem_toArray, List.getElem_cons_zero, List.getElem_cons_succ, Act.put, List.setIfInBounds_toArray, List.set_cons_zero, List.set_cons_succ]
                  refine wpAnyH_take (i := 11) (v := undef) rfl (by kernel_rfl) (by kernel_rfl) (by kernel_rfl) (fun _ _ _ h => h) (Or.inr ⟨by rfl, rfl⟩) (by assumption) ?_
                  try simp only [List.getElem_toArray, List.getElem_cons_zero, List.getElem_cons_succ, Act.put, List.setIfInBounds_toArray, List.set_cons_zero, List.set_cons_succ]
                  refine wpAnyH_take (i := 12) (v := ?v12) rfl (by kernel_rfl) (by kernel_rfl) (by kernel_rfl) (fun _ _ _ h => h) (Or.inl ⟨by rfl, ?hy12⟩) (by assumption) ?_
                  case hy12 => (intro w hSw; (try dsimp only at hSw); go_simp) <;> rfl
                  try simp only [List.getElem_toArray, List.getElem_cons_zero, List.getElem_cons_succ, Act.put, List.setIfInBounds_toArray, List.set_cons_zero, List.set_cons_succ]
                  refine wpAnyH_take (i := 13) (v := ?v13) rfl (by kernel_rfl) (by kernel_rfl) (by kernel_rfl) (fun _ _ _ h => h) (Or.inl ⟨by rfl, ?hy13⟩) (by assumption) ?_
                  case hy13 => (intro w hSw; (try dsimp only at hSw); go_simp) <;> rfl
                  try simp only [List.getElem_toArray, List.getElem_cons_zero, List.getElem_cons_succ, Act.put, List.setIfInBounds_toArray, List.set_cons_zero, List.set_cons_succ]
                  refine wpAnyH_take (i := 14) (v := ?v14) rfl (by kernel_rfl) (by kernel_rfl) (by kernel_rfl) (fun _ _ _ h => h) (Or.inl ⟨by rfl, ?hy14⟩) (by assumption) ?_
                  case hy14 => (intro w hSw; (try dsimp only at hSw); go_simp) <;> rfl
                  try simp only [List.getElem_toArray, List.getElem_cons_zero, List.getElem_cons_succ, Act.put, List.setIfInBounds_toArray, List.set_cons_zero, List.set_cons_succ]
                  refine wpAnyH_take (i := 15) (v := ?v15) rfl (by kernel_rfl) (by kernel_rfl) (by kernel_rfl) (fun _ _ _ h => h) (Or.inl ⟨by rfl, ?hy15⟩) (by assumption) ?_
                  case hy15 => (intro w hSw; (try dsimp only at hSw); go_simp) <;> rfl
                  try simp only [List.getElem_toArray, List.getElem_cons_zero, List.getElem_cons_succ, Act.put, List.setIfInBounds_toArray, List.set_cons_zero, List.set_cons_succ]
                  refine wpAnyH_take (i := 16) (v := ?v16) rfl (by kernel_rfl) (by kernel_rfl) (by kernel_rfl) (fun _ _ _ h => h) (Or.inl ⟨by rfl, ?hy16⟩) (by assumption) ?_
                  case hy16 => (intro w hSw; (try dsimp only at hSw); go_simp) <;> rfl
                  try simp only [List.getElem_toArray, List.getElem_cons_zero, List.getElem_cons_succ, Act.put, List.setIfInBounds_toArray, List.set_cons_zero, List.set_cons_succ]
                  refine wpAnyH_take (i := 17) (v := ?v17) rfl (by kernel_rfl) (by kernel_rfl) (by kernel_rfl) (fun _ _ _ h => h) (Or.inl ⟨by rfl, ?hy17⟩) (by assumption) ?_
                  case hy17 => (intro w hSw; (try dsimp only at hSw); go_simp) <;> rfl
                  try simp only [List.getElem_toArray, List.getElem_cons_zero, List.getElem_cons_succ, Act.put, List.setIfInBounds_toArray, List.set_cons_zero, List.set_cons_succ]
                  refine wpAnyH_take (i := 18) (v := ?v18) rfl (by kernel_rfl) (by kernel_rfl) (by kernel_rfl) (fun _ _ _ h => h) (Or.inl ⟨by rfl, ?hy18⟩) (by assumption) ?_
                  case hy18 => (intro w hSw; (try dsimp only at hSw); go_simp) <;> rfl
                  try simp only [List.getElem_toArray, List.getElem_cons_zero, List.getElem_cons_succ, Act.put, List.setIfInBounds_toArray, List.set_cons_zero, List.set_cons_succ]
                  refine wpAnyH_take (i := 19) (v := ?v19) rfl (by kernel_rfl) (by kernel_rfl) (by kernel_rfl) (fun _ _ _ h => h) (Or.inl ⟨by rfl, ?hy19⟩) (by assumption) ?_
                  case hy19 => (intro w hSw; (try dsimp only at hSw); go_simp) <;> rfl
                  try simp only [List.getElem_toArray, List.getElem_cons_zero, List.getElem_cons_succ, Act.put, List.setIfInBounds_toArray, List.set_cons_zero, List.set_cons_succ]
                  refine wpAnyH_take (i := 20) (v := ?v20) rfl (by kernel_rfl) (by kernel_rfl) (by kernel_rfl) (fun _ _ _ h => h) (Or.inl ⟨by rfl, ?hy20⟩) (by assumption) ?_
                  case hy20 => (intro w hSw; (try dsimp only at hSw); go_simp) <;> rfl
                  try simp only [List.getElem_toArray, List.getElem_cons_zero, List.getElem_cons_succ, Act.put, List.setIfInBounds_toArray, List.set_cons_zero, List.set_cons_succ]
                  refine wpAnyH_take (i := 21) (v := ?v21) rfl (by kernel_rfl) (by kernel_rfl) (by kernel_rfl) (fun _ _ _ h => h) (Or.inl ⟨by rfl, ?hy21⟩) (by assumption) ?_
                  case hy21 => (intro w hSw; (try dsimp only at hSw); go_simp) <;> rfl
                  try simp only [List.getElem_toArray, List.getElem_cons_zero, List.getElem_cons_succ, Act.put, List.setIfInBounds_toArray, List.set_cons_zero, List.set_cons_succ]
                  refine wpAnyH_take (i := 22) (v := ?v22) rfl (by kernel_rfl) (by kernel_rfl) (by kernel_rfl) (fun _ _ _ h => h) (Or.inl ⟨by rfl, ?hy22⟩) (by assumption) ?_
                  case hy22 => (intro w hSw; (try dsimp only at hSw); go_simp) <;> rfl
                  try simp only [List.getElem_toArray, List.getElem_cons_zero, List.getElem_cons_succ, Act.put, List.setIfInBounds_toArray, List.set_cons_zero, List.set_cons_succ]
                  refine wpAnyH_take (i := 23) (v := ?v23) rfl (by kernel_rfl) (by kernel_rfl) (by kernel_rfl) (fun _ _ _ h => h) (Or.inl ⟨by rfl, ?hy23⟩) (by assumption) ?_
                  case hy23 => (intro w hSw; (try dsimp only at hSw); go_simp) <;> rfl
                  try simp only [List.getElem_toArray, List.getElem_cons_zero, List.getElem_cons_succ, Act.put, List.setIfInBounds_toArray, List.set_cons_zero, List.set_cons_succ]
                  refine wpAnyH_take (i := 25) (v := ?v25) rfl (by kernel_rfl) (by kernel_rfl) (by kernel_rfl) (fun _ _ _ h => h) (Or.inl ⟨by rfl, ?hy25⟩) (by assumption) ?_
                  case hy25 => (intro w hSw; (try dsimp only at hSw); go_simp) <;> rfl
                  try simp only [List.getElem_toArray, List.getElem_cons_zero, List.getElem_cons_succ, Act.put, List.setIfInBounds_toArray, List.set_cons_zero, List.set_cons_succ]
                  refine wpAnyH_ready (rs := [24]) (by kernel_rfl) (by simp) ?_
                  refine AllReadyH.cons (o := _) rfl (fun K hK => ?_) AllReadyH.nil
                  go_simp
                  go_at_call 17
                  refine Calls.mono (EF.out _ (by go_grown)) ?_
                  rintro e5 w5 ⟨rfl, b5⟩
                  have q0 : w5.cell? ⟨bp, 0, none⟩ = some (.slice (some ⟨gq, oq, none⟩) L qc) := (b5.cell (p := ⟨bp, 0, none⟩) (by simpa using pl)).trans (by simpa [go_sem] using cp)
                  have q1 : w5.cell? ⟨gq, oq + k * 4 + 1, none⟩ = some (.slice pa np pc) := (b5.cell (p := ⟨gq, oq + k * 4 + 1, none⟩) (by simpa using hgq)).trans (by simpa [go_sem] using cq)
                  have q2 : w5.cell? ⟨bi, 0, none⟩ = some (.slice (some ⟨g1, 0, none⟩) L c1) := (b5.cell (p := ⟨bi, 0, none⟩) (by simpa using il)).trans (by simpa [go_sem] using ci)
                  have q3 : w5.cell? ⟨g1, k, none⟩ = some (.slice (some ⟨g, o, none⟩) N vc) := (b5.cell (p := ⟨g1, k, none⟩) (by simpa using g14)).trans (by simpa [go_sem] using cv4)
                  have q4 : w5.cell? ⟨bv, 0, none⟩ = some (.string ⟨y.name.toArray⟩) := (b5.cell (p := ⟨bv, 0, none⟩) (by simpa using vl)).trans (by simpa [go_sem] using t0)
                  have b6 : Below W4.heap.size W4 w5 := Below.trans (by go_grown) b5
                  have H5 : Hid (CsH w bp bi (some ⟨gq, oq, none⟩) qc ps p (some ⟨g1, 0, none⟩) c1 (some ⟨g2, 0, none⟩) c2 vvs w5) := H4.out.later b6
                  clear b5 b6
                  go_wp2_with fail
                  refine hK.out _ _ ?hS2 (fun hHeld => ?_)
                  case hS2 => exact ⟨q0, q1, q2, q3, q4⟩
                  clear hK K
                  try simp only [List.getElem_toArray, List.getElem_cons_zero, List.getElem_cons_succ, Act.put, List.setIfInBounds_toArray, List.set_cons_zero, List.set_cons_succ]
                  refine wpAnyH_take (i := 26) (v := ?v26) rfl (by kernel_rfl) (by kernel_rfl) (by kernel_rfl) (fun _ _ _ h => h) (Or.inl ⟨by rfl, ?hy26⟩) (by assumption) ?_
                  case hy26 => (intro w hSw; (try dsimp only at hSw); go_simp) <;> rfl
                  try simp only [List.getElem_toArray, List.getElem_cons_zero, List.getElem_cons_succ, Act.put, List.setIfInBounds_toArray, List.set_cons_zero, List.set_cons_succ]
                  refine wpAnyH_take (i := 27) (v := ?v27) rfl (by kernel_rfl) (by kernel_rfl) (by kernel_rfl) (fun _ _ _ h => h) (Or.inl ⟨by rfl, ?hy27⟩) (by assumption) ?_
                  case hy27 => (intro w hSw; (try dsimp only at hSw); go_simp) <;> rfl
                  try simp only [List.getElem_toArray, List.getElem_cons_zero, List.getElem_cons_succ, Act.put, List.setIfInBounds_toArray, List.set_cons_zero, List.set_cons_succ]
                  refine wpAnyH_take (i := 28) (v := ?v28) rfl (by kernel_rfl) (by kernel_rfl) (by kernel_rfl) (fun _ _ _ h => h) (Or.inl ⟨by rfl, ?hy28⟩) (by assumption) ?_
                  case hy28 => (intro w hSw; (try dsimp only at hSw); go_simp) <;> rfl
                  try simp only [List.getElem_toArray, List.getElem_cons_zero, List.getElem_cons_succ, Act.put, List.setIfInBounds_toArray, List.set_cons_zero, List.set_cons_succ]
                  refine wpAnyH_done (by kernel_rfl) ?_ _
                  have H9 : Hid (CsH w bp bi (some ⟨gq, oq, none⟩) qc ps p (some ⟨g1, 0, none⟩) c1 (some ⟨g2, 0, none⟩) c2 vvs _) := H5.out.later ⟨rfl, rfl, rfl, Nat.le_refl _, fun _ _ => rfl⟩
                  clear H5 q0 q1 q2 q3 q4 cp cq ci cv4 t0
                  go_wp2_with fail
                  go_roundg gj
                  case measure => omega
                  case rel => exact ⟨j + 1, by have := HN.out; omega, by go_num, H9⟩
              · have hp0 : ¬ j < np := fun h => by
                  have := PA.out h
                  omega
                have dn : decide (j < np) = false := decide_eq_false hp0
                have dni : decide ((j : Int) < (np : Int)) = false := decide_eq_false (by omega)
                clear FI PA VS4
                by_cases hf : y.fr ≤ (r : Int)
                · have ht : ¬ (r : Int) ≤ y.tl := fun h => hin ⟨hf, h⟩
                  have df : decide (y.fr ≤ (r : Int)) = true := decide_eq_true hf
                  have dt : decide ((r : Int) ≤ y.tl) = false := decide_eq_false ht
                  clear hin
                  go_wp2_with fail
                  go_quiet (fail)
                  have H9 : Hid (CsH w bp bi (some ⟨gq, oq, none⟩) qc ps p (some ⟨g1, 0, none⟩) c1 (some ⟨g2, 0, none⟩) c2 vvs (W4.drewN nq)) := H4.out.later (below_drewN (Below.refl _ _) nq)
                  clear H4 cp cq ci cv4 t0 t3 t4 vl g14 il pl hgq
                  generalize W4.drewN nq = W9 at H9 ⊢
                  go_wp2_with fail
                  go_roundg gj
                  case measure => omega
                  case rel => exact ⟨j + 1, by have := HN.out; omega, by go_num, H9⟩
                · have df : decide (y.fr ≤ (r : Int)) = false := decide_eq_false hf
                  clear hin
                  go_wp2_with fail
                  go_quiet (fail)
                  have H9 : Hid (CsH w bp bi (some ⟨gq, oq, none⟩) qc ps p (some ⟨g1, 0, none⟩) c1 (some ⟨g2, 0, none⟩) c2 vvs (W4.drewN nq)) := H4.out.later (below_drewN (Below.refl _ _) nq)
                  clear H4 cp cq ci cv4 t0 t3 t4 vl g14 il pl hgq
                  generalize W4.drewN nq = W9 at H9 ⊢
                  go_wp2_with fail
                  go_roundg gj
                  case measure => omega
                  case rel => exact ⟨j + 1, by have := HN.out; omega, by go_num, H9⟩
end Go.Proofs.Ytfpabjdhibmefaa
