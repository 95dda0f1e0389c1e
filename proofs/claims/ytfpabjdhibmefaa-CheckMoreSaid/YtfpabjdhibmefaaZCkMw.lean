/- CheckMore walked: for every program and procedure in memory. -/
import Derived.Test.YtfpabjdhibmefaaZCkMp
import Derived.Test.YtfpabjdhibmefaaZCkMm
import Derived.Test.YtfpabjdhibmefaaZCkNz
import Derived.Test.YtfpabjdhibmefaaZCkZo
namespace Go.Proofs.Ytfpabjdhibmefaa
open Go.RowKit
set_option linter.unusedVariables false
set_option linter.unusedSimpArgs false

/-- The boxes of the two arguments. -/
structure MrB (w : World) (bp bq : Nat) (qa : Option Addr) (L qc : Nat) (x : Sy.Pc) (pa : Option Addr) (pn pc : Nat) (ba : Option Addr) (bn bc : Nat) (wr : World) : Prop where
  bw : Below w.heap.size w wr
  cp : wr.cell? ⟨bp, 0, none⟩ = some (.slice qa L qc)
  q0 : wr.cell? ⟨bq, 0, none⟩ = some (.string ⟨x.name.toArray⟩)
  q1 : wr.cell? ⟨bq, 1, none⟩ = some (.slice pa pn pc)
  q2 : wr.cell? ⟨bq, 2, none⟩ = some (.int .i64 x.type)
  q3 : wr.cell? ⟨bq, 3, none⟩ = some (.slice ba bn bc)
  pl : bp < wr.heap.size
  ql : bq < wr.heap.size
theorem MrB.later {w : World} {bp bq : Nat} {qa : Option Addr} {L qc : Nat} {x : Sy.Pc} {pa : Option Addr} {pn pc : Nat} {ba : Option Addr} {bn bc : Nat} {wr wx : World} (h : MrB w bp bq qa L qc x pa pn pc ba bn bc wr) (y : Below wr.heap.size wr wx) : MrB w bp bq qa L qc x pa pn pc ba bn bc wx :=
  ⟨h.bw.trans (y.mono h.bw.size), (y.cell (p := ⟨bp, 0, none⟩) h.pl).trans h.cp, (y.cell (p := ⟨bq, 0, none⟩) h.ql).trans h.q0, (y.cell (p := ⟨bq, 1, none⟩) h.ql).trans h.q1, (y.cell (p := ⟨bq, 2, none⟩) h.ql).trans h.q2, (y.cell (p := ⟨bq, 3, none⟩) h.ql).trans h.q3, Nat.lt_of_lt_of_le h.pl y.size, Nat.lt_of_lt_of_le h.ql y.size⟩
/-- A box of two slices. -/
structure IbX (bi L : Nat) (v1 : Option Addr) (c1 : Nat) (v2 : Option Addr) (c2 : Nat) (wr : World) : Prop where
  ci : wr.cell? ⟨bi, 0, none⟩ = some (.slice v1 L c1)
  cm : wr.cell? ⟨bi, 1, none⟩ = some (.slice v2 L c2)
  il : bi < wr.heap.size
theorem IbX.later {bi L : Nat} {v1 : Option Addr} {c1 : Nat} {v2 : Option Addr} {c2 : Nat} {wr wx : World} (h : IbX bi L v1 c1 v2 c2 wr) (y : Below wr.heap.size wr wx) : IbX bi L v1 c1 v2 c2 wx :=
  ⟨(y.cell (p := ⟨bi, 0, none⟩) h.il).trans h.ci, (y.cell (p := ⟨bi, 1, none⟩) h.il).trans h.cm, Nat.lt_of_lt_of_le h.il y.size⟩
abbrev mgB (qa : Option Addr) (L qc : Nat) : Obj := .cells #[.slice qa L qc] 29
abbrev mqB (x : Sy.Pc) (pa : Option Addr) (pn pc : Nat) (ba : Option Addr) (bn bc : Nat) : Obj := .cells #[.string ⟨x.name.toArray⟩, .slice pa pn pc, .int .i64 x.type, .slice ba bn bc] 25
theorem one_pcs {w W : World} {x : Sy.Pc} {pa : Option Addr} {pn pc : Nat} {ba : Option Addr} {bn bc : Nat} (hpn : pn = x.params.length) (hbn : bn = x.body.length) (hW : W = w.alloc (mqB x pa pn pc ba bn bc)) (h1 : PaS (fun _ => True) w (.slice pa x.params.length pc) x.params) (h2 : SmS (fun _ => True) w (.slice ba x.body.length bc) x.body) : PcS (fun _ => True) W (.slice (some ⟨w.heap.size, 0, none⟩) 1 1) [x] := by
  have b : Below w.heap.size w W := by rw [hW]; exact box_below w _
  refine ⟨some ⟨w.heap.size, 0, none⟩, 1, rfl, fun _ => ⟨w.heap.size, 0, rfl, trivial, by rw [hW]; simp, fun j hj => ?_⟩⟩
  obtain rfl : j = 0 := by simp at hj; exact hj
  refine ⟨x, pa, pc, ba, bc, rfl, ?_, ?_, ?_, ?_, h1.later b (Nat.le_refl _), h2.later b (Nat.le_refl _)⟩ <;> (rw [hW]; simp [go_sem, hpn, hbn])
/-- While names are held against that one. -/
def MrL (w : World) (bp bq : Nat) (qa : Option Addr) (L qc : Nat) (x : Sy.Pc) (pa : Option Addr) (pn pc : Nat) (ba : Option Addr) (bn bc : Nat) (bi : Nat) (v1 : Option Addr) (c1 : Nat) (v2 : Option Addr) (c2 : Nat) (ps : List Sy.Pc) (gk : Nat) (i : Value) (wr : World) : Prop :=
  ∃ k : Nat, k + gk = L ∧ i = .int .i64 k ∧ Hid (MrB w bp bq qa L qc x pa pn pc ba bn bc wr) ∧ Hid (IbX bi L v1 c1 v2 c2 wr) ∧ Hid (InfR wr v1 v2 ps) ∧ Hid (∀ j y, j < k → ps[j]? = some y → y.name ≠ x.name)
/-- Behind the appends. -/
structure MrC (w : World) (bp bq : Nat) (qa : Option Addr) (L qc : Nat) (x : Sy.Pc) (pa : Option Addr) (pn pc : Nat) (ba : Option Addr) (bn bc : Nat) (bi : Nat) (v1 : Option Addr) (c1 : Nat) (v2 : Option Addr) (c2 : Nat) (ps : List Sy.Pc) (bm : Nat) (ma : Option Addr) (mc : Nat) (wx : World) : Prop where
  mb : MrB w bp bq qa L qc x pa pn pc ba bn bc wx
  ib : IbX bi L v1 c1 v2 c2 wx
  ir : InfR wx v1 v2 ps
  cm : wx.cell? ⟨bm, 0, none⟩ = some (.slice ma (L + 1) mc)
  ml : bm < wx.heap.size
  pcs : PcS (fun _ => True) wx (.slice ma (L + 1) mc) (ps ++ [x])
theorem MrC.later {w : World} {bp bq : Nat} {qa : Option Addr} {L qc : Nat} {x : Sy.Pc} {pa : Option Addr} {pn pc : Nat} {ba : Option Addr} {bn bc : Nat} {bi : Nat} {v1 : Option Addr} {c1 : Nat} {v2 : Option Addr} {c2 : Nat} {ps : List Sy.Pc} {bm : Nat} {ma : Option Addr} {mc : Nat} {wx wy : World} (h : MrC w bp bq qa L qc x pa pn pc ba bn bc bi v1 c1 v2 c2 ps bm ma mc wx) (y : Below wx.heap.size wx wy) : MrC w bp bq qa L qc x pa pn pc ba bn bc bi v1 c1 v2 c2 ps bm ma mc wy :=
  ⟨h.mb.later y, h.ib.later y, h.ir.later y, (y.cell (p := ⟨bm, 0, none⟩) h.ml).trans h.cm, Nat.lt_of_lt_of_le h.ml y.size, h.pcs.later y (Nat.le_refl _)⟩
theorem MrC.mk1 {w : World} {bp bq : Nat} {qa : Option Addr} {L qc : Nat} {x : Sy.Pc} {pa : Option Addr} {pn pc : Nat} {ba : Option Addr} {bn bc : Nat} {bi : Nat} {v1 : Option Addr} {c1 : Nat} {v2 : Option Addr} {c2 : Nat} {ps : List Sy.Pc} {bm : Nat} {ma : Option Addr} {mc : Nat} {wr W6 w9 : World} {lps : List Lp} {a : Addr}
    (M : MrB w bp bq qa L qc x pa pn pc ba bn bc wr) (X : IbX bi L v1 c1 v2 c2 wr) (I : InfR wr v1 v2 ps) (hW6 : W6 = wr.alloc (mgB none 0 0)) (hbm : bm = wr.heap.size) (hL : L = ps.length) (hpn : pn = x.params.length ∧ bn = x.body.length) (hM : LpM w a ps lps) (h1 : PaS (fun _ => True) w (.slice pa x.params.length pc) x.params ∧ SmS (fun _ => True) w (.slice ba x.body.length bc) x.body)
    (R : w9.ownsRow W6.heap.size 25 4 (.slice ma (L + 1) mc) (L + 1) (LpS lps ++ [.string ⟨x.name.toArray⟩, .slice pa pn pc, .int .i64 x.type, .slice ba bn bc])) (B9 : Below W6.heap.size W6 w9) : MrC w bp bq qa L qc x pa pn pc ba bn bc bi v1 c1 v2 c2 ps bm ma mc (w9.setCell ⟨bm, 0, none⟩ (.slice ma (L + 1) mc)) := by
  have s6 : W6.heap.size = wr.heap.size + 1 := by rw [hW6]; simp
  have b6 : Below wr.heap.size wr W6 := by rw [hW6]; exact box_below wr _
  have hb : w9.heap[bm]? = some (mgB none 0 0) := by
    rw [B9.block bm (by omega), hW6, hbm]
    exact alloc_last wr _
  have bx : Below wr.heap.size wr (w9.setCell ⟨bm, 0, none⟩ (.slice ma (L + 1) mc)) := (b6.trans (B9.mono (by omega))).trans ⟨rfl, rfl, rfl, by simp, fun k hk => heap_setCell_other _ _ k _ (by simp; omega)⟩
  have hs := heap_setCell_same w9 bm 0 _ _ (.slice ma (L + 1) mc) hb
  have n9 : ¬ (Value.slice ma (L + 1) mc).ownBlock = some bm := fun e => by have := (World.ownsRow.lt R _ e).1; omega
  refine ⟨M.later bx, X.later bx, I.later bx, ?_, ?_, pcs_more hL hpn.1 hpn.2 hM h1.1 h1.2 (ownsRow_setCell_other R n9 _) (M.bw.trans (bx.mono M.bw.size))⟩
  · simp [World.cell?, hs]
  · have := B9.size
    simp
    omega
theorem text_n {a b : List UInt8} (h : a ≠ b) : (a == b) = false := beq_eq_false_iff_ne.2 h
set_option maxRecDepth 100000 in
set_option maxHeartbeats 16000000 in
theorem more4_walk (qa : Option Addr) (qc : Nat) (ps : List Sy.Pc) (x : Sy.Pc) (pa : Option Addr) (pc : Nat) (ba : Option Addr) (bc : Nat) (w : World) (hp : PcS (fun _ => True) w (.slice qa ps.length qc) ps) (hP : ∀ y, y ∈ ps → y.Ok) (hl : ps.length ≤ 1000000000000000) (hxp : PaS (fun _ => True) w (.slice pa x.params.length pc) x.params) (hxb : SmS (fun _ => True) w (.slice ba x.body.length bc) x.body) (hxo : x.Ok) :
    Calls Try.prog 4 #[.agg #[.slice qa ps.length qc], pcV x pa pc ba bc] w fun e w' => e = .returned (.bool true) ∧ Below w.heap.size w w' := by
  have EG : Hid (∀ W, Below w.heap.size w W → Calls Try.prog 6 #[.agg #[.slice qa ps.length qc]] W fun e w' => ∃ b : Bool, e = .returned (.bool b) ∧ Hid (b = false → ps.length ≤ 1000000 ∧ ∀ y, y ∈ ps → PcB y) ∧ Hid (Below W.heap.size W w')) := fun W hW => (pgGreat_any _ ps hl hP qa qc W (hp.later hW (Nat.le_refl _))).mono fun e w' ⟨b, a, c, d⟩ => ⟨b, a, c, d⟩
  have EG2 : Hid (∀ W g, PcS (fun _ => True) W (.slice (some ⟨g, 0, none⟩) 1 1) [x] → Calls Try.prog 6 #[.agg #[.slice (some ⟨g, 0, none⟩) 1 1]] W fun e w' => ∃ b : Bool, e = .returned (.bool b) ∧ Hid (b = false → PcB x) ∧ Hid (Below W.heap.size W w')) := fun W g hW => (pgGreat_any _ [x] (by simp) (fun y hy => by rw [List.mem_singleton.1 hy]; exact hxo) (some ⟨g, 0, none⟩) 1 W hW).mono fun e w' ⟨b, a, c, d⟩ => ⟨b, a, (fun hb => (c hb).2 x (List.mem_singleton.2 rfl)), d⟩
  have EK : Hid (∀ W, Below w.heap.size w W → Calls Try.prog 7 #[] W fun e w' => e = .returned (.bool true) ∧ Hid (Below w.heap.size w w')) := fun W hW => (known4 W).mono fun e w' ⟨a, d⟩ => ⟨a, hW.trans (d.mono hW.size)⟩
  have ECk : Hid ((ps.length ≤ 1000000 ∧ ∀ y, y ∈ ps → PcB y) → ∀ W, Below w.heap.size w W → Calls Try.prog 13 #[.agg #[.slice qa ps.length qc]] W (CkA W ps (ckPg ps))) := fun h W hW => ckCheck_any _ qa qc ps W (hp.later hW (Nat.le_refl _)) h.1 h.2 (ckPg ps) rfl (nz_pg ps)
  have HPC : Hid (PcS (fun _ => True) w (.slice qa ps.length qc) ps) := hp
  have HXP : Hid (PaS (fun _ => True) w (.slice pa x.params.length pc) x.params ∧ SmS (fun _ => True) w (.slice ba x.body.length bc) x.body) := ⟨hxp, hxb⟩
  obtain ⟨L, hL⟩ : ∃ L, L = ps.length := ⟨_, rfl⟩
  have HLL : Hid (L = ps.length) := hL
  obtain ⟨pn, hpn⟩ : ∃ pn, pn = x.params.length := ⟨_, rfl⟩
  obtain ⟨bn, hbn⟩ : ∃ bn, bn = x.body.length := ⟨_, rfl⟩
  have HPN : Hid (pn = x.params.length ∧ bn = x.body.length) := ⟨hpn, hbn⟩
  unfold pcV
  rw [← hL] at EG ECk ⊢
  rw [← hpn, ← hbn]
  obtain ⟨W0, hW0⟩ : ∃ W0, W0 = (w.alloc (mgB qa L qc)).alloc (mqB x pa pn pc ba bn bc) := ⟨_, rfl⟩
  obtain ⟨bp, hbp⟩ : ∃ bp, bp = w.heap.size := ⟨_, rfl⟩
  have M0 : Hid (MrB w bp (bp + 1) qa L qc x pa pn pc ba bn bc W0) := by
    refine ⟨by rw [hW0]; exact (box_below w _).trans ((box_below _ _).mono (by simp)), ?_, ?_, ?_, ?_, ?_, ?_, ?_⟩ <;> (rw [hW0, hbp]; simp [go_sem]) <;> omega
  have cp0 := M0.out.cp
  have q0 := M0.out.q0
  have q1 := M0.out.q1
  have q2 := M0.out.q2
  have q3 := M0.out.q3
  have ql := M0.out.ql
  clear hp hP hl hL hxp hxb hxo hpn hbn
  go_enter Try.func4, Try.ntmps4
  go_upto_region 1 with fail
  rw [← hW0, ← hbp]
  clear hW0 hbp
  go_wp2_with fail
  refine Calls.mono (EG.out _ M0.out.bw) ?_
  rintro e1 w1 ⟨bg, rfl, G1, Y1⟩
  have M1 : Hid (MrB w bp (bp + 1) qa L qc x pa pn pc ba bn bc w1) := M0.out.later Y1.out
  clear Y1 cp0 q0 q1 q2 q3 ql M0 EG
  cases bg with
  | true =>
    go_wp2_with fail
    refine Calls.mono (EK.out _ M1.out.bw) ?_
    rintro e20 w20 ⟨rfl, B20⟩
    go_wp2_with fail
    go_ret
    exact ⟨rfl, B20.out⟩
  | false =>
    have HG : Hid (L ≤ 1000000 ∧ ∀ y, y ∈ ps → PcB y) := G1.out rfl
    have q0 := M1.out.q0
    have q1 := M1.out.q1
    have q2 := M1.out.q2
    have q3 := M1.out.q3
    obtain ⟨W2, hW2⟩ : ∃ W2, W2 = w1.alloc (mqB x pa pn pc ba bn bc) := ⟨_, rfl⟩
    have b2 : Below w1.heap.size w1 W2 := by rw [hW2]; exact box_below w1 _
    have M2 : Hid (MrB w bp (bp + 1) qa L qc x pa pn pc ba bn bc W2) := M1.out.later b2
    have EG3 : Hid _ := EG2.out W2 w1.heap.size (one_pcs HPN.out.1 HPN.out.2 hW2 (HXP.out.1.later M1.out.bw (Nat.le_refl _)) (HXP.out.2.later M1.out.bw (Nat.le_refl _)))
    rw [hW2] at EG3 M2
    clear G1 b2 hW2 EG2
    go_wp2_with fail
    refine Calls.mono EG3.out ?_
    rintro e2 w2 ⟨bg2, rfl, G2, Y2⟩
    have M3 : Hid (MrB w bp (bp + 1) qa L qc x pa pn pc ba bn bc w2) := M2.out.later Y2.out
    clear Y2 q0 q1 q2 q3 M2 M1 EG3
    cases bg2 with
    | true =>
      go_wp2_with fail
      refine Calls.mono (EK.out _ M3.out.bw) ?_
      rintro e20 w20 ⟨rfl, B20⟩
      go_wp2_with fail
      go_ret
      exact ⟨rfl, B20.out⟩
    | false =>
      have HGX : Hid (PcB x) := G2.out rfl
      have cp := M3.out.cp
      clear G2
      go_wp2_with fail
      refine Calls.mono (ECk.out HG.out _ M3.out.bw) ?_
      rintro e3 w3 CA
      have CAH : Hid _ := CA
      clear CA ECk cp
      rcases CAH.out with ⟨er, her, rfl, b3⟩ | ⟨hok, p, iv, im, vvs, hpw, rfl, inf, b3⟩
      · have B3 : Hid (Below w.heap.size w w3) := M3.out.bw.trans (b3.mono M3.out.bw.size)
        have hne : (er != 0) = true := bne_iff_ne.2 (fun e => nz_pg ps (by rw [her, e]))
        have hne2 : (er == 0) = false := beq_eq_false_iff_ne.2 (fun e => nz_pg ps (by rw [her, e]))
        clear her b3 CAH M3
        generalize (ckPg ps).2.1 = z1
        generalize (ckPg ps).2.2 = z2
        go_wp2_with fail
        refine Calls.mono (EK.out _ (B3.out.trans (Below.mono (by go_grown) B3.out.size))) ?_
        rintro e20 w20 ⟨rfl, B20⟩
        go_wp2_with fail
        go_ret
        exact ⟨rfl, B20.out⟩
      · obtain ⟨v1, c1, hiv⟩ := own_shape inf.rv
        obtain ⟨v2, c2, him⟩ := own_shape inf.rm
        subst hiv him
        have HOK : Hid ((ckPg ps).1 = none) := hok
        have M4 := M3.out.later b3
        have I4 := InfR.of inf
        rw [← HLL.out]
        obtain ⟨W5, hW5⟩ : ∃ W5, W5 = (w3.alloc (.cells #[.slice v1 L c1, .slice v2 L c2] 42)).alloc (.cells #[.int .i64 0, .int .i64 0] 44) := ⟨_, rfl⟩
        obtain ⟨bi, hbi⟩ : ∃ bi, bi = w3.heap.size := ⟨_, rfl⟩
        have b5 : Below w3.heap.size w3 W5 := by rw [hW5]; exact (box_below w3 _).trans ((box_below _ _).mono (by simp))
        have M5 : Hid (MrB w bp (bp + 1) qa L qc x pa pn pc ba bn bc W5) := M4.later b5
        have I5 : Hid (InfR W5 v1 v2 ps) := I4.later b5
        have X5 : Hid (IbX bi L v1 c1 v2 c2 W5) := by
          refine ⟨?_, ?_, ?_⟩ <;> (rw [hW5, hbi]; simp [go_sem]) <;> omega
        clear hok inf b3 b5 CAH M4 I4 hpw M3
        go_upto_region 4 with fail
        rw [← hW5, ← hbi]
        clear hW5 hbi
        have cp := M5.out.cp
        by_cases h40 : 40 ≤ L
        · have d40 : decide (40 ≤ L) = true := decide_eq_true h40
          have d41 : decide ((40 : Int) ≤ (L : Int)) = true := decide_eq_true (by omega)
          have d42 : (40 : Int) ≤ (L : Int) := by omega
          go_wp2_with fail
          refine Calls.mono (EK.out _ M5.out.bw) ?_
          rintro e20 w20 ⟨rfl, B20⟩
          go_wp2_with fail
          go_ret
          exact ⟨rfl, B20.out⟩
        · have d40 : decide (40 ≤ L) = false := decide_eq_false h40
          have d41 : decide ((40 : Int) ≤ (L : Int)) = false := decide_eq_false (by omega)
          have hL40 : L < 40 := by omega
          clear h40
          go_wp2_with fail
          go_loopg [8] L (fun gk i wr => MrL w bp (bp + 1) qa L qc x pa pn pc ba bn bc bi v1 c1 v2 c2 ps gk i wr)
          case atStart => exact ⟨0, by omega, rfl, M5, X5, I5, fun j y hj => absurd hj (Nat.not_lt_zero j)⟩
          case round =>
            clear M5 X5 I5 cp
            obtain ⟨k, hk, rfl, M, X, I, NN⟩ := hrel
            have cp := M.out.cp
            cases gk with
            | succ gO =>
              obtain ⟨y, hy⟩ : ∃ y, ps[k]? = some y := ⟨_, List.getElem?_eq_getElem (by rw [← HLL.out]; omega)⟩
              obtain ⟨gq, oq, y', ya, yc, za, zc, hqa, _, hgq, ey, at_⟩ := (HPC.out.later M.out.bw (Nat.le_refl _)).part k (by rw [← HLL.out]; omega)
              rw [hy] at ey
              cases ey
              have HY : Hid (ps[k]? = some y) := hy
              have n0 := at_.c0
              have q0 := M.out.q0
              rw [hqa] at cp
              have hki : (k : Int) < (L : Int) := by omega
              have hk0 : (0 : Int) ≤ (k : Int) := by omega
              clear at_ hy hqa
              by_cases hn : y.name = x.name
              · have en := text_t hn
                generalize y.name = yn at *
                generalize x.name = xn at *
                clear hn NN HY
                go_wp2_with fail
                go_quiet (fail)
                have BQ : Hid (Below w.heap.size w (wr.drewN nq)) := below_drewN M.out.bw nq
                clear M X I cp n0 q0 hgq
                generalize wr.drewN nq = W9 at BQ ⊢
                go_wp2_with fail
                refine Calls.mono (EK.out _ BQ.out) ?_
                rintro e20 w20 ⟨rfl, B20⟩
                go_wp2_with fail
                go_ret
                exact ⟨rfl, B20.out⟩
              · have en := text_n hn
                have NN2 : Hid (∀ j y, j < k + 1 → ps[j]? = some y → y.name ≠ x.name) := fun j z hj hz => by
                  by_cases hjk : j < k
                  · exact NN.out j z hjk hz
                  · obtain rfl : j = k := by omega
                    rw [HY.out] at hz
                    cases hz
                    exact hn
                clear NN HY
                go_wp2_with fail
                go_quiet (fail)
                have M9 : Hid (MrB w bp (bp + 1) qa L qc x pa pn pc ba bn bc (wr.drewN nq)) := M.out.later (below_drewN (Below.refl _ _) nq)
                have X9 : Hid (IbX bi L v1 c1 v2 c2 (wr.drewN nq)) := X.out.later (below_drewN (Below.refl _ _) nq)
                have I9 : Hid (InfR (wr.drewN nq) v1 v2 ps) := I.out.later (below_drewN (Below.refl _ _) nq)
                clear M X I cp n0 q0 hgq en hn
                generalize wr.drewN nq = W9 at M9 X9 I9 ⊢
                go_wp2_with fail
                go_roundg gO
                case measure => omega
                case rel => exact ⟨k + 1, by omega, by go_num, M9, X9, I9, NN2⟩
            | zero =>
              obtain rfl : k = L := by omega
              have HNM : Hid (x.name ∉ ps.map Sy.Pc.name) := fun hm => by
                obtain ⟨y, hy, e⟩ := List.mem_map.1 hm
                obtain ⟨j, hj⟩ := List.getElem?_of_mem hy
                exact NN.out j y (by rw [HLL.out]; exact (List.getElem?_eq_some_iff.1 hj).1) hj e
              clear NN
              have h0L : 0 < k := by
                rw [HLL.out]
                cases hps : ps with
                | nil =>
                  have e := HOK.out
                  rw [hps] at e
                  exact absurd e (by decide)
                | cons y r => simp
              obtain ⟨g, o, lps, rfl, hg, LM⟩ := (show PcS (fun _ => True) w (.slice qa ps.length qc) ps from HPC.out).lpm (by rw [← HLL.out]; exact h0L)
              obtain ⟨i0, hi, hz0, hz1, hz2⟩ := info_parts infoPc4
              have hpl : lps.length = k := by rw [HLL.out, ← LM.eq, List.length_map]
              have HNX : Hid (∀ X, Below w.heap.size w X → ∀ j u, (LpS lps)[j]? = some u → X.cell? ((⟨g, o, none⟩ : Addr).add j) = some u) := fun X hX j u hu => by
                have := LM.get j u hu
                rw [mAdd] at this ⊢
                exact (hX.cell (p := ⟨g, _, none⟩) hg).trans this
              have HPL : Hid ((LpS lps).length = k * 4) := by unfold Hid; rw [LpS_len, hpl]
              have H63 : Hid (0 + k ≤ maxLen ∧ k + 1 ≤ maxLen) := by unfold Hid maxLen; omega
              have HBY : Hid (((0 + k) + (0 + k) / 4 + 192) * 72 ≤ 281474976710656 ∧ ((k + 1) + (k + 1) / 4 + 192) * 72 ≤ 281474976710656) := by unfold Hid; omega
              have MONE : Hid (∀ u ∈ [Value.string ⟨x.name.toArray⟩, .slice pa pn pc, .int .i64 x.type, .slice ba bn bc], u.oneCell' = true) := mOne _ _ _ _ _ _ _ _
              obtain ⟨W6, hW6⟩ : ∃ W6, W6 = wr.alloc (mgB none 0 0) := ⟨_, rfl⟩
              obtain ⟨bm, hbm⟩ : ∃ bm, bm = wr.heap.size := ⟨_, rfl⟩
              have b6 : Below wr.heap.size wr W6 := by rw [hW6]; exact box_below wr _
              have MK9 : Hid (∀ va9 cap9 w9, w9.ownsRow W6.heap.size 25 4 (.slice va9 (k + 1) cap9) (k + 1) (LpS lps ++ [.string ⟨x.name.toArray⟩, .slice pa pn pc, .int .i64 x.type, .slice ba bn bc]) → Below W6.heap.size W6 w9 → MrC w bp (bp + 1) (some ⟨g, o, none⟩) k qc x pa pn pc ba bn bc bi v1 c1 v2 c2 ps bm va9 cap9 (w9.setCell ⟨bm, 0, none⟩ (.slice va9 (k + 1) cap9))) := fun va9 cap9 w9 h9 B9 => MrC.mk1 M.out X.out I.out hW6 hbm HLL.out HPN.out LM HXP.out h9 B9
              have M6 := M.out.later b6
              have BW6 : Hid (Below w.heap.size w W6) := M6.bw
              have cp := M6.cp
              have q0 := M6.q0
              have q1 := M6.q1
              have q2 := M6.q2
              have q3 := M6.q3
              have ql := M6.ql
              have pl := M6.pl
              have bml : bm < W6.heap.size := by rw [hbm, hW6]; simp
              have tm : W6.cell? ⟨bm, 0, none⟩ = some (.slice none 0 0) := by rw [hbm, hW6]; simp [go_sem]
              have fm : W6.frozen? ⟨bm, 0, none⟩ = false := by rw [hbm, hW6]; simp [go_sem]
              have npz : ¬ bp = W6.heap.size := Nat.ne_of_lt pl
              have nqz : ¬ bp + 1 = W6.heap.size := Nat.ne_of_lt ql
              have nmz : ¬ bm = W6.heap.size := Nat.ne_of_lt bml
              clear M6 b6 LM hpl
              go_upto_region 12 with fail
              rw [← hW6, ← hbm]
              clear hW6 hbm M X I
              go_cut [9] from 54 to 62 (fun s wx => s = .pointer (some ⟨bm, 0, none⟩) ∧ ∃ ma mc, Hid (MrC w bp (bp + 1) (some ⟨g, o, none⟩) k qc x pa pn pc ba bn bc bi v1 c1 v2 c2 ps bm ma mc wx))
              case first =>
                go_region_law (first
                    | (have qq := R8.out; rw [if_pos (by rfl)]; refine wp_append_own_wide _ _ _ 27 rfl W6.heap.size 25 i0 (.agg #[.string ⟨#[]⟩, .slice none 0 0, .int .i64 0, .slice none 0 0]) 4 72 Try.underlying27 hi hz0 hz1 hz2 rfl (by decide) _ _ _ rfl (mLat R8.out (by go_grown)) ⟨w8.heap.size, 0, none⟩ 1 1 [.string ⟨x.name.toArray⟩, .slice pa pn pc, .int .i64 x.type, .slice ba bn bc] rfl rfl (mFour _ _ _ _ _ _) MONE.out H63.out.2 HBY.out.2 (by have := B8.out.size; simp; omega) ?_; intro v9 w9 h9 g9 o9; have B9 : Hid (Below W6.heap.size W6 w9) := mGrO (mLat R8.out (by go_grown)) g9 (B8.out.trans ((by go_grown : Below w8.heap.size w8 _).mono B8.out.size)); obtain ⟨va9, cap9, hv9⟩ := own_shape h9; subst hv9; have m9 := (B9.out.cell (p := ⟨bm, 0, none⟩) bml).trans tm; have f9 := (B9.out.frozen (p := ⟨bm, 0, none⟩) bml).trans fm; have C9 : Hid (MrC w bp (bp + 1) (some ⟨g, o, none⟩) k qc x pa pn pc ba bn bc bi v1 c1 v2 c2 ps bm va9 cap9 (w9.setCell ⟨bm, 0, none⟩ (.slice va9 (k + 1) cap9))) := MK9.out va9 cap9 w9 h9 B9.out; clear g9 o9 h9 B9)
                    | (have qq := R8.out; rw [if_pos (by rfl)]; refine wp_append_own_wide _ _ _ 27 rfl W6.heap.size 25 i0 (.agg #[.string ⟨#[]⟩, .slice none 0 0, .int .i64 0, .slice none 0 0]) 4 72 Try.underlying27 hi hz0 hz1 hz2 rfl (by decide) _ _ _ rfl R8.out ⟨W6.heap.size, 0, none⟩ 1 1 [.string ⟨x.name.toArray⟩, .slice pa pn pc, .int .i64 x.type, .slice ba bn bc] rfl rfl A8.out MONE.out H63.out.2 HBY.out.2 (by have := B8.out.size; simp; omega) ?_; intro v9 w9 h9 g9 o9; have B9 : Hid (Below W6.heap.size W6 w9) := mGrO R8.out g9 B8.out; obtain ⟨va9, cap9, hv9⟩ := own_shape h9; subst hv9; have m9 := (B9.out.cell (p := ⟨bm, 0, none⟩) bml).trans tm; have f9 := (B9.out.frozen (p := ⟨bm, 0, none⟩) bml).trans fm; have C9 : Hid (MrC w bp (bp + 1) (some ⟨g, o, none⟩) k qc x pa pn pc ba bn bc bi v1 c1 v2 c2 ps bm va9 cap9 (w9.setCell ⟨bm, 0, none⟩ (.slice va9 (k + 1) cap9))) := MK9.out va9 cap9 w9 h9 B9.out; clear g9 o9 h9 B9)
                    | (rw [if_pos (by rfl)]; refine wp_append_own_wide _ _ _ 27 rfl W6.heap.size 25 i0 (.agg #[.string ⟨#[]⟩, .slice none 0 0, .int .i64 0, .slice none 0 0]) 4 72 Try.underlying27 hi hz0 hz1 hz2 rfl (by decide) (.slice none 0 0) 0 [] rfl (World.ownsRow_nil _ _ _ _) ⟨g, o, none⟩ k qc (LpS lps) rfl HPL.out (HNX.out _ (BW6.out.trans (Below.mono (by go_grown : Below W6.heap.size W6 _) BW6.out.size))) (LpS_one lps) H63.out.1 HBY.out.1 (by simp) ?_; intro v8 w8 h8 g8 o8; have b8 := mGrN g8 rfl; have B8 : Hid (Below W6.heap.size W6 w8) := (Below.trans (by go_grown : Below W6.heap.size W6 _) (b8.mono (by go_size))); have s0 := (B8.out.cell (p := ⟨bp + 1, 0, none⟩) ql).trans q0; have s1 := (B8.out.cell (p := ⟨bp + 1, 1, none⟩) ql).trans q1; have s2 := (B8.out.cell (p := ⟨bp + 1, 2, none⟩) ql).trans q2; have s3 := (B8.out.cell (p := ⟨bp + 1, 3, none⟩) ql).trans q3; (first | (have A8 : Hid (∀ (j : Nat) u, [Value.string ⟨x.name.toArray⟩, .slice pa pn pc, .int .i64 x.type, .slice ba bn bc][j]? = some u → w8.cell? ((⟨W6.heap.size, 0, none⟩ : Addr).add j) = some u) := mCells ((b8.cell (p := ⟨W6.heap.size, 0, none⟩) (by first | (simp; done) | (simp [go_sem]; done) | fail)).trans (by first | (simp; done) | (simp [go_sem]; done) | fail)) ((b8.cell (p := ⟨W6.heap.size, 1, none⟩) (by first | (simp; done) | (simp [go_sem]; done) | fail)).trans (by first | (simp; done) | (simp [go_sem]; done) | fail)) ((b8.cell (p := ⟨W6.heap.size, 2, none⟩) (by first | (simp; done) | (simp [go_sem]; done) | fail)).trans (by first | (simp; done) | (simp [go_sem]; done) | fail)) ((b8.cell (p := ⟨W6.heap.size, 3, none⟩) (by first | (simp; done) | (simp [go_sem]; done) | fail)).trans (by first | (simp; done) | (simp [go_sem]; done) | fail))) | skip); obtain ⟨va8, cap8, hv8⟩ := own_shape h8; subst hv8; have R8 : Hid (w8.ownsRow W6.heap.size 25 4 (.slice va8 k cap8) k (LpS lps)) := mOwnZ h8; clear g8 o8 h8 b8))
                all_goals
                  go_wp2_with fail
                  go_meet
                  exact ⟨rfl, _, _, C9.out.later ⟨rfl, rfl, rfl, Nat.le_refl _, fun _ _ => rfl⟩⟩
              case rest =>
                obtain ⟨rfl, ma, mc, C⟩ := hcut
                have hlen : (ps ++ [x]).length = k + 1 := by rw [List.length_append, ← HLL.out]; rfl
                have ECm0 := ckCheck_any _ ma mc (ps ++ [x]) wc (by rw [hlen]; exact C.out.pcs) (by omega) (fun y hy => by
                  rcases List.mem_append.1 hy with h | h
                  · exact HG.out.2 y h
                  · rw [List.mem_singleton.1 h]; exact HGX.out) (ckPg (ps ++ [x])) rfl (nz_pg _)
                rw [hlen] at ECm0
                have ECm : Hid _ := ECm0
                have HPM : Hid ((ckPg (ps ++ [x])).2.1 = k) := by
                  have := ckPg_more HOK.out HNM.out (by rw [← HLL.out]; exact hL40)
                  rw [← HLL.out] at this
                  exact this
                have cm := C.out.cm
                clear ECm0 MK9 H63 HBY HNX HPL MONE tm fm cp q0 q1 q2 q3 ql pl bml npz nqz nmz BW6 hi hz0 hz1 hz2
                go_wp2_with fail
                refine Calls.mono ECm.out ?_
                rintro e7 w7 CB
                have CBH : Hid _ := CB
                clear CB ECm cm
                rcases CBH.out with ⟨er, her, rfl, b7⟩ | ⟨hok2, p2, iv2, im2, vv2, hpw2, rfl, inf2, b7⟩
                · have hne : (er != 0) = true := bne_iff_ne.2 (fun e => nz_pg (ps ++ [x]) (by rw [her, e]))
                  have hne2 : (er == 0) = false := beq_eq_false_iff_ne.2 (fun e => nz_pg (ps ++ [x]) (by rw [her, e]))
                  have M7 := C.out.mb.later b7
                  rw [HPM.out]
                  generalize (ckPg (ps ++ [x])).2.2 = z2
                  obtain ⟨W8, hW8⟩ : ∃ W8, W8 = (w7.alloc (.cells #[.slice none 0 0, .slice none 0 0] 42)).alloc (.cells #[.int .i64 (k : Int), .int .i64 z2] 44) := ⟨_, rfl⟩
                  obtain ⟨bk, hbk⟩ : ∃ bk, bk = w7.heap.size := ⟨_, rfl⟩
                  have b8 : Below w7.heap.size w7 W8 := by rw [hW8]; exact (box_below w7 _).trans ((box_below _ _).mono (by simp))
                  have M8 : Hid (MrB w bp (bp + 1) (some ⟨g, o, none⟩) k qc x pa pn pc ba bn bc W8) := M7.later b8
                  have cp := M8.out.cp
                  have ck : W8.cell? ⟨bk + 1, 0, none⟩ = some (.int .i64 (k : Int)) := by rw [hW8, hbk]; simp [go_sem]
                  have ekk : ((k : Int) == (k : Int)) = true := beq_self_eq_true _
                  clear her b7 CBH C M7 b8
                  go_upto_region 14 with fail
                  rw [← hW8, ← hbk]
                  clear hW8 hbk
                  go_wp2_with fail
                  refine Calls.mono (EK.out _ M8.out.bw) ?_
                  rintro e20 w20 ⟨rfl, B20⟩
                  go_wp2_with fail
                  go_ret
                  exact ⟨rfl, B20.out⟩
                · obtain ⟨u1, d1, hiv⟩ := own_shape inf2.rv
                  obtain ⟨u2, d2, him⟩ := own_shape inf2.rm
                  subst hiv him
                  have IR2 := (InfR.of inf2).front
                  have hd1 : k + 1 ≤ d1 := by
                    rcases inf2.rv.2 with ⟨_, e⟩ | ⟨_, _, _, e, _, _, hcap, _⟩
                    · rw [hlen] at e; omega
                    · cases e; rw [hlen] at hcap; exact hcap
                  have hd2 : k + 1 ≤ d2 := by
                    rcases inf2.rm.2 with ⟨_, e⟩ | ⟨_, _, _, e, _, _, hcap, _⟩
                    · rw [hlen] at e; omega
                    · cases e; rw [hlen] at hcap; exact hcap
                  rw [hlen]
                  have M7 := C.out.mb.later b7
                  have I7 := C.out.ir.later b7
                  have X7 := C.out.ib.later b7
                  obtain ⟨W8, hW8⟩ : ∃ W8, W8 = (w7.alloc (.cells #[.slice u1 (k + 1) d1, .slice u2 (k + 1) d2] 42)).alloc (.cells #[.int .i64 0, .int .i64 0] 44) := ⟨_, rfl⟩
                  obtain ⟨bk, hbk⟩ : ∃ bk, bk = w7.heap.size := ⟨_, rfl⟩
                  have b8 : Below w7.heap.size w7 W8 := by rw [hW8]; exact (box_below w7 _).trans ((box_below _ _).mono (by simp))
                  have hb8 : W8.heap[bk]? = some (.cells #[.slice u1 (k + 1) d1, .slice u2 (k + 1) d2] 42 (0, 0)) := by
                    rw [hW8, ((Below.refl _ _).alloc (Nat.le_refl _) _ : Below (w7.alloc (.cells #[.slice u1 (k + 1) d1, .slice u2 (k + 1) d2] 42)).heap.size _ _).block bk (by rw [hbk]; simp), hbk]
                    exact alloc_last w7 _
                  obtain ⟨W9, hW9⟩ : ∃ W9, W9 = (W8.setCell ⟨bk, 1, none⟩ (.slice u2 k d2)).setCell ⟨bk, 0, none⟩ (.slice u1 k d1) := ⟨_, rfl⟩
                  have hb9 : W9.heap[bk]? = some (.cells #[.slice u1 k d1, .slice u2 k d2] 42 (0, 0)) := by
                    rw [hW9]
                    have h1 := heap_setCell_same W8 bk 1 _ _ (.slice u2 k d2) hb8
                    have h2 := heap_setCell_same _ bk 0 _ _ (.slice u1 k d1) h1
                    rw [h2]
                    rfl
                  have b9 : Below w7.heap.size w7 W9 := by
                    rw [hW9]
                    have s1 : Below w7.heap.size W8 (W8.setCell ⟨bk, 1, none⟩ (.slice u2 k d2)) := ⟨rfl, rfl, rfl, by simp, fun j hj => heap_setCell_other _ _ j _ (by simp; omega)⟩
                    have s2 : Below w7.heap.size (W8.setCell ⟨bk, 1, none⟩ (.slice u2 k d2)) ((W8.setCell ⟨bk, 1, none⟩ (.slice u2 k d2)).setCell ⟨bk, 0, none⟩ (.slice u1 k d1)) := ⟨rfl, rfl, rfl, by simp, fun j hj => heap_setCell_other _ _ j _ (by simp; omega)⟩
                    exact (b8.trans s1).trans s2
                  have M9 := M7.later b9
                  have I9 := I7.later b9
                  have J9 := IR2.later b9
                  have X9 := X7.later b9
                  have X8 := X7.later b8
                  have z0 := X9.ci
                  have z1 := X9.cm
                  have zbi := X9.il
                  have zbk : bk < W9.heap.size := (Array.getElem?_eq_some_iff.1 hb9).1
                  have z2 : W9.cell? ⟨bk, 0, none⟩ = some (.slice u1 k d1) := by simp [World.cell?, hb9]
                  have z3 : W9.cell? ⟨bk, 1, none⟩ = some (.slice u2 k d2) := by simp [World.cell?, hb9]
                  have BW9 : Hid (Below w.heap.size w W9) := M9.bw
                  have ESm : Hid (∀ Y, Below W9.heap.size W9 Y → Calls Try.prog 14 #[.agg #[.slice v1 k c1, .slice v2 k c2], .agg #[.slice u1 k d1, .slice u2 k d2]] Y fun e w' => e = .returned (.bool true) ∧ Below Y.heap.size Y w') := fun Y hY => by
                    have := rSame4_any v1 c1 v2 c2 u1 d1 u2 d2 ps Y (by rw [← HLL.out]; omega) (I9.later hY) (J9.later hY)
                    rw [← HLL.out] at this
                    exact this
                  have EK9 : Hid (∀ Y, Below W9.heap.size W9 Y → Calls Try.prog 7 #[] Y fun e w' => e = .returned (.bool true) ∧ Hid (Below w.heap.size w w') ∧ Hid (Below Y.heap.size Y w')) := fun Y hY => (known4 Y).mono fun e w' ⟨a, d⟩ => ⟨a, BW9.out.trans ((hY.trans (d.mono hY.size)).mono BW9.out.size), d⟩
                  have EI : Hid (∀ (a : Option Addr) (n c : Nat) (b : Option Addr) (m d : Nat) (Y : World), Calls Try.prog 15 #[.agg #[.slice a n c, .slice b m d]] Y fun e w' => e = .returned (.agg #[.slice a n c, .slice b m d]) ∧ Below Y.heap.size Y w') := fun a n c b m d Y => info4_any _ _ ⟨_, _, _, rfl⟩ ⟨_, _, _, rfl⟩ Y
                  have k0 : W8.cell? ⟨bk, 0, none⟩ = some (.slice u1 (k + 1) d1) := by simp [World.cell?, hb8]
                  have k1 : W8.cell? ⟨bk, 1, none⟩ = some (.slice u2 (k + 1) d2) := by simp [World.cell?, hb8]
                  have f0 : W8.frozen? ⟨bk, 0, none⟩ = false := by simp [World.frozen?, hb8]
                  have f1 : W8.frozen? ⟨bk, 1, none⟩ = false := by simp [World.frozen?, hb8]
                  have i0 := X8.ci
                  have i1 := X8.cm
                  have nbk : ¬ bi = bk := by have := X7.il; omega
                  have nkb : ¬ bk = bi := fun e => nbk e.symm
                  have hd1i : (k : Int) ≤ (d1 : Int) := by omega
                  have hd2i : (k : Int) ≤ (d2 : Int) := by omega
                  have ekk : (((k : Int) + 1) == ((k : Int) + 1)) = true := beq_self_eq_true _
                  have hk0 : (0 : Int) ≤ (k : Int) := by omega
                  clear hok2 inf2 b7 CBH C M7 I7 X7 b8 b9 M9 I9 J9 X9 X8 hb9 hpw2 IR2 hlen hb8 hd1 hd2
                  go_upto_region 14 with fail
                  rw [← hW8, ← hbk]
                  clear hW8 hbk
                  go_upto_region 20 with fail
                  rw [← hW9]
                  clear hW9 k0 k1 f0 f1 i0 i1
                  go_region_held3 (fun w' => w'.cell? ⟨bi, 0, none⟩ = some (.slice v1 k c1) ∧ w'.cell? ⟨bi, 1, none⟩ = some (.slice v2 k c2) ∧ w'.cell? ⟨bk, 0, none⟩ = some (.slice u1 k d1) ∧ w'.cell? ⟨bk, 1, none⟩ = some (.slice u2 k d2)) (first | (exact ⟨o0, o1, o2, o3⟩) | (exact ⟨s0, s1, s2, s3⟩) | (exact ⟨x0, x1, x2, x3⟩) | (exact ⟨y0, y1, y2, y3⟩) | (exact ⟨z0, z1, z2, z3⟩) | go_keep) (first | (have qq := y4; go_at_call 15; refine Calls.mono (EI.out _ _ _ _ _ _ _) ?_; rintro e6 w6 ⟨rfl, b6⟩; have x0 := (b6.cell (p := ⟨bi, 0, none⟩) (World.block_lt_of_cell? _ _ y0)).trans y0; have x1 := (b6.cell (p := ⟨bi, 1, none⟩) (World.block_lt_of_cell? _ _ y1)).trans y1; have x2 := (b6.cell (p := ⟨bk, 0, none⟩) (World.block_lt_of_cell? _ _ y2)).trans y2; have x3 := (b6.cell (p := ⟨bk, 1, none⟩) (World.block_lt_of_cell? _ _ y3)).trans y3; have x4 : Hid (Below W9.heap.size W9 w6) := y4.out.trans (b6.mono y4.out.size); clear b6) | (go_at_call 15; refine Calls.mono (EI.out _ _ _ _ _ _ _) ?_; rintro e5 w5 ⟨rfl, b5⟩; have y0 : w5.cell? ⟨bi, 0, none⟩ = some (.slice v1 k c1) := (b5.cell (p := ⟨bi, 0, none⟩) (by simpa using zbi)).trans (by simpa [go_sem] using z0); have y1 : w5.cell? ⟨bi, 1, none⟩ = some (.slice v2 k c2) := (b5.cell (p := ⟨bi, 1, none⟩) (by simpa using zbi)).trans (by simpa [go_sem] using z1); have y2 : w5.cell? ⟨bk, 0, none⟩ = some (.slice u1 k d1) := (b5.cell (p := ⟨bk, 0, none⟩) (by simpa using zbk)).trans (by simpa [go_sem] using z2); have y3 : w5.cell? ⟨bk, 1, none⟩ = some (.slice u2 k d2) := (b5.cell (p := ⟨bk, 1, none⟩) (by simpa using zbk)).trans (by simpa [go_sem] using z3); have y4 : Hid (Below W9.heap.size W9 w5) := Below.trans (by go_grown) (b5.mono (by go_size)); clear b5) | (go_at_call 14; refine Calls.mono (ESm.out _ x4.out) ?_; rintro e7 w7' ⟨rfl, b7'⟩; have s0 := (b7'.cell (p := ⟨bi, 0, none⟩) (World.block_lt_of_cell? _ _ x0)).trans x0; have s1 := (b7'.cell (p := ⟨bi, 1, none⟩) (World.block_lt_of_cell? _ _ x1)).trans x1; have s2 := (b7'.cell (p := ⟨bk, 0, none⟩) (World.block_lt_of_cell? _ _ x2)).trans x2; have s3 := (b7'.cell (p := ⟨bk, 1, none⟩) (World.block_lt_of_cell? _ _ x3)).trans x3; have s4 : Hid (Below W9.heap.size W9 w7') := x4.out.trans (b7'.mono x4.out.size); clear b7') | (go_at_call 7; refine Calls.mono (EK9.out _ s4.out) ?_; rintro e8 w8' ⟨rfl, B8', t4'⟩; have o0 := (t4'.out.cell (p := ⟨bi, 0, none⟩) (World.block_lt_of_cell? _ _ s0)).trans s0; have o1 := (t4'.out.cell (p := ⟨bi, 1, none⟩) (World.block_lt_of_cell? _ _ s1)).trans s1; have o2 := (t4'.out.cell (p := ⟨bk, 0, none⟩) (World.block_lt_of_cell? _ _ s2)).trans s2; have o3 := (t4'.out.cell (p := ⟨bk, 1, none⟩) (World.block_lt_of_cell? _ _ s3)).trans s3; skip))
                  all_goals
                    go_wp2_with fail
                    go_ret
                    exact ⟨rfl, B8'.out⟩
end Go.Proofs.Ytfpabjdhibmefaa
