/- Layer 13: the document's reading of a whole tape. -/
/- Layer 13: the document's ReadTrace; what TapeTraces wants of each call. -/
/- Layer 13: TapeTraces. -/
/- Layer 13: Salvage. -/
/- Layer 13, plain: a trace's tape that was cut off: what is read of it. -/
import Derived.Test.YtneefpblfiedbaaZTuJ
import Derived.Test.YtneefpblfiedbaaZTtW
import Derived.Test.YtneefpblfiedbaaZTuD
namespace Go.Proofs.Ytneefpblfiedbaa
open Go.RowKit
set_option linter.unusedVariables false
set_option linter.unusedSimpArgs false
def boQ (w : World) (e : Ending) (w' : World) (n : Nat) : Tp.TRes → Prop
  | .good t _ _ => AlR w e w' t n 0 0
  | .bad t s i x => AlR w e w' t s i x
structure BoS (w : World) (M Q : Nat) (tv cv ev : Value) (t : Tp.Tr) (wr : World) : Prop where
  hr : wr.heap[M]? = some (.cells #[.slice none 0 0, .slice none 0 0, .slice none 0 0] 26 (0, 0))
  hb : wr.heap[Q]? = some (.cells #[tv, cv, ev] 26 (0, 0))
  ot : wr.ownsRow (M + 1) 62 4 tv t.ticks.length (tkC t.ticks)
  oc : wr.ownsRow (M + 1) 3 1 cv t.counts.length (nmC t.counts)
  oe : wr.ownsRow (M + 1) 69 2 ev t.events.length (evC t.events)
  bl : Below w.heap.size w wr
  lo : w.heap.size ≤ M
  lt : M < Q
section
variable {w wr wq : World} {M Q : Nat} {tv cv ev : Value} {t : Tp.Tr}
theorem BoS.sz (h : BoS w M Q tv cv ev t wr) : Q < wr.heap.size := (Array.getElem?_eq_some_iff.1 h.hb).1
theorem BoS.later (h : BoS w M Q tv cv ev t wr) (q : Below wr.heap.size wr wq) : BoS w M Q tv cv ev t wq :=
  ⟨(q.block _ (by have := h.sz; have := h.lt; omega)).trans h.hr, (q.block _ h.sz).trans h.hb, ownLtT h.ot q, ownLtT h.oc q, ownLtT h.oe q, h.bl.trans (q.mono h.bl.size), h.lo, h.lt⟩
theorem BoS.cells (h : BoS w M Q tv cv ev t wr) : wr.cell? ⟨Q, 0, none⟩ = some tv ∧ wr.cell? ⟨Q, 1, none⟩ = some cv ∧ wr.cell? ⟨Q, 2, none⟩ = some ev := by
  refine ⟨?_, ?_, ?_⟩ <;> simp [World.cell?, h.hb]
theorem BoS.resc (h : BoS w M Q tv cv ev t wr) : wr.cell? ⟨M, 0, none⟩ = some (.slice none 0 0) ∧ wr.cell? ⟨M, 1, none⟩ = some (.slice none 0 0) ∧ wr.cell? ⟨M, 2, none⟩ = some (.slice none 0 0) := by
  refine ⟨?_, ?_, ?_⟩ <;> simp [World.cell?, h.hr]
theorem BoS.fz (h : BoS w M Q tv cv ev t wr) (i : Nat) : wr.frozen? ⟨M, i, none⟩ = false := by simp [World.frozen?, h.hr]
end
theorem fin_box {w wr : World} {M : Nat} {tv cv ev : Value} {t : Tp.Tr} (hr : wr.heap[M]? = some (.cells #[.slice none 0 0, .slice none 0 0, .slice none 0 0] 26 (0, 0))) (lo : w.heap.size ≤ M)
    (ot : wr.ownsRow (M + 1) 62 4 tv t.ticks.length (tkC t.ticks)) (oc : wr.ownsRow (M + 1) 3 1 cv t.counts.length (nmC t.counts)) (oe : wr.ownsRow (M + 1) 69 2 ev t.events.length (evC t.events)) (bl : Below w.heap.size w wr) :
    TrE w wr M tv cv ev t (((wr.setCell ⟨M, 0, none⟩ tv).setCell ⟨M, 1, none⟩ cv).setCell ⟨M, 2, none⟩ ev) := by
  have hs : M < wr.heap.size := (Array.getElem?_eq_some_iff.1 hr).1
  have hx1 := heap_setCell_same _ M 0 _ _ tv hr
  have hx2 := heap_setCell_same _ M 1 _ _ cv hx1
  have hx3 := heap_setCell_same _ M 2 _ _ ev hx2
  have sg : ∀ (W : World) (i : Nat) (x : Value), W.grownBy (W.setCell ⟨M, i, none⟩ x) (some M) := fun W i x => ⟨rfl, rfl, rfl, by simp, fun j _ hn => heap_setCell_other _ _ j _ (by intro e; exact hn (by rw [e]))⟩
  have gb := gbT (gbT (sg wr 0 tv) (sg _ 1 cv)) (sg _ 2 ev)
  refine ⟨⟨?_, ?_, ?_⟩, (own_gb ot gb (by omega)).mono (by omega), (own_gb oc gb (by omega)).mono (by omega), (own_gb oe gb (by omega)).mono (by omega), bl.trans ((gbB gb (by omega)).mono lo)⟩ <;> simp [World.cell?, hx3]
theorem BoS.fin {w wr : World} {M Q : Nat} {tv cv ev : Value} {t : Tp.Tr} (h : BoS w M Q tv cv ev t wr) : TrE w wr M tv cv ev t (((wr.setCell ⟨M, 0, none⟩ tv).setCell ⟨M, 1, none⟩ cv).setCell ⟨M, 2, none⟩ ev) := fin_box h.hr h.lo h.ot h.oc h.oe h.bl
theorem bos_of {w w1 w2 : World} {M : Nat} {tv cv ev : Value} {t : Tp.Tr} (hx : w1.heap[M]? = some (.cells #[.slice none 0 0, .slice none 0 0, .slice none 0 0] 26 (0, 0))) (hM : w.heap.size = M) (hs : M + 1 ≤ w1.heap.size) (k1 : Below w.heap.size w w1)
    (o1 : w2.ownsRow w1.heap.size 62 4 tv t.ticks.length (tkC t.ticks)) (o2 : w2.ownsRow w1.heap.size 3 1 cv t.counts.length (nmC t.counts)) (o3 : w2.ownsRow w1.heap.size 69 2 ev t.events.length (evC t.events)) (k2 : Below w1.heap.size w1 w2) :
    BoS w M w2.heap.size tv cv ev t (w2.alloc (.cells #[tv, cv, ev] 26)) := by
  have q : Below w2.heap.size w2 (w2.alloc (.cells #[tv, cv, ev] 26)) := (Below.refl _ _).alloc (Nat.le_refl _) _
  have h2 := k2.size
  exact ⟨(q.block M (by omega)).trans ((k2.block M (by omega)).trans hx), heap_alloc_new w2 _, ownLtT (o1.mono hs) q, ownLtT (o2.mono hs) q, ownLtT (o3.mono hs) q, k1.trans ((k2.mono k1.size).trans (q.mono (Nat.le_trans k1.size h2))), Nat.le_of_eq hM, by omega⟩
theorem Tp.rds_good (b : List Int) : ∀ (f k : Nat) (t t' : Tp.Tr) (s j : Nat), Tp.rds b f k t = .good t' s j → j = s + 1 ∧ s < b.length
  | 0, k, t, t', s, j, h => by cases h
  | f + 1, k, t, t', s, j, h => by
    rw [Tp.rds] at h
    cases hs : Tp.step b k t with
    | fin i =>
      rw [hs] at h
      cases h
      have := Tp.step_fin b _ _ _ hs
      exact ⟨this.1, (List.getElem?_eq_some_iff.1 this.2).1⟩
    | bad i x => rw [hs] at h; cases h
    | more u i => rw [hs] at h; exact Tp.rds_good b f i u t' s j h
set_option maxRecDepth 100000 in
set_option maxHeartbeats 4000000 in
theorem rBoth_any (b : List Int) (a : Option Addr) (c : Nat) (w : World) (hy : Tp.Byt b) (hm : ByS w.heap.size w a b) (hc : b.length ≤ c) (hl : b.length ≤ 1000000) :
    Calls Try.prog 31 #[.slice a b.length c] w fun e w' => boQ w e w' b.length (Tp.rtB b) := by
  have HB := hidT (fun (W : World) (q : Below w.heap.size w W) => rBegins_any b a c 2 W ((hm.later q (Nat.le_refl _)).mono q.size) (by omega))
  have HAl := hidT (fun (h5 : 5 ≤ b.length) (W : World) (q : Below w.heap.size w W) => rAll_any b a c W hy ((hm.later q (Nat.le_refl _)).mono q.size) hc hl h5)
  have HE := hidT (fun (W : World) (k : Nat) (q : Below w.heap.size w W) (hk : k ≤ b.length) => rEnds_any b a c k W ((hm.later q (Nat.le_refl _)).mono q.size) hy hc hk (by omega))
  have HY := hidT hy
  obtain ⟨n0, hn⟩ : ∃ n, n = b.length := ⟨_, rfl⟩
  have HN := hidT hn
  obtain ⟨post, hpost⟩ : ∃ p, p = Tp.rtB b := ⟨_, rfl⟩
  have HP := hidT hpost
  rw [← hpost]
  rw [← hn] at HB HAl HE hl ⊢
  obtain ⟨M, hM⟩ : ∃ M, M = w.heap.size := ⟨_, rfl⟩
  have HMM := hidT hM
  obtain ⟨W0, hW0⟩ : ∃ W, W = w.alloc (.cells #[.slice none 0 0, .slice none 0 0, .slice none 0 0] 26) := ⟨_, rfl⟩
  have K0 : Hid (Below w.heap.size w W0) := by rw [hW0]; exact (Below.refl _ _).alloc (Nat.le_refl _) _
  have X0 : Hid (W0.heap[M]? = some (.cells #[.slice none 0 0, .slice none 0 0, .slice none 0 0] 26 (0, 0)) ∧ W0.heap.size = M + 1) := by rw [hW0, hM]; exact ⟨heap_alloc_new w _, by simp⟩
  have HB0 := hidT (HB.out W0 K0.out)
  clear hm hy hc hn hpost HB
  cases hh : Tp.hd 0 (Tp.head 2) b with
  | some p =>
    obtain ⟨i, x⟩ := p
    have hx := Tp.hd_err _ _ _ _ _ hh
    have qx : (x == 0) = false := by simpa using hx
    have HP2 : Hid (post = .bad Tp.tr0 0 i x) := by unfold Hid; rw [HP.out]; unfold Tp.rtB; rw [hh]
    rw [hh] at HB0
    dsimp only [opV] at HB0
    clear hh hx
    go_enter Try.func31, Try.ntmps31
    go_upto_region 1 with fail
    rw [← hW0, ← hM]
    clear hW0 hM
    go_wp2_with fail
    refine HB0.out.mono ?_
    rintro e w1 ⟨rfl, k1⟩
    have X1 : Hid (w1.heap[M]? = some (.cells #[.slice none 0 0, .slice none 0 0, .slice none 0 0] 26 (0, 0))) := (k1.block M (by have := X0.out.2; omega)).trans X0.out.1
    have K1 := hidT (K0.out.trans (k1.mono K0.out.size))
    clear k1
    have u0 : w1.cell? ⟨M, 0, none⟩ = some (.slice none 0 0) := by simp [World.cell?, X1.out]
    have u1 : w1.cell? ⟨M, 1, none⟩ = some (.slice none 0 0) := by simp [World.cell?, X1.out]
    have u2 : w1.cell? ⟨M, 2, none⟩ = some (.slice none 0 0) := by simp [World.cell?, X1.out]
    have y0 : w1.frozen? ⟨M, 0, none⟩ = false := by simp [World.frozen?, X1.out]
    have y1 : w1.frozen? ⟨M, 1, none⟩ = false := by simp [World.frozen?, X1.out]
    have y2 : w1.frozen? ⟨M, 2, none⟩ = false := by simp [World.frozen?, X1.out]
    obtain ⟨⟨z0, z1, z2⟩, o1, o2, o3, bF⟩ := fin_box (w := w) (t := Tp.tr0) (tv := .slice none 0 0) (cv := .slice none 0 0) (ev := .slice none 0 0) X1.out (Nat.le_of_eq HMM.out.symm) (World.ownsRow_nil _ _ _ _) (World.ownsRow_nil _ _ _ _) (World.ownsRow_nil _ _ _ _) K1.out
    replace o1 := o1.mono (Nat.le_of_eq HMM.out.symm)
    replace o2 := o2.mono (Nat.le_of_eq HMM.out.symm)
    replace o3 := o3.mono (Nat.le_of_eq HMM.out.symm)
    go_wp2_with fail
    generalize (((World.setCell w1 ⟨M, 0, none⟩ (.slice none 0 0)).setCell ⟨M, 1, none⟩ (.slice none 0 0)).setCell ⟨M, 2, none⟩ (.slice none 0 0)) = W6 at *
    refine ⟨rfl, .tuple #[.agg #[.slice none 0 0, .slice none 0 0, .slice none 0 0], .int .i64 ((0 : Nat) : Int), .int .i64 (i : Int), .int .i64 x], by simp [results, Try.results31, go_sem, z0, z1, z2], ?_⟩
    rw [HP2.out]
    exact ⟨_, _, _, rfl, o1, o2, o3, bF⟩
  | none =>
    have h5 := Tp.hd_five 2 b hh
    rw [hh] at HB0
    dsimp only [opV] at HB0
    have HA5 := hidT (HAl.out (by rw [HN.out]; exact h5))
    clear HAl
    cases hr : Tp.rds b b.length 5 Tp.tr0 with
    | bad t s i x =>
      have hx := Tp.rds_err b HY.out _ _ _ _ _ _ _ h5 (by omega) hr
      have qx : (x == 0) = false := by simpa using hx
      have HP2 : Hid (post = .bad t s i x) := by unfold Hid; rw [HP.out]; unfold Tp.rtB; rw [hh]; dsimp only; rw [hr]
      have hr' : Tp.rds b n0 5 Tp.tr0 = .bad t s i x := by rw [HN.out]; exact hr
      rw [hr'] at HA5
      clear hr'
      clear hh hx hr h5
      go_enter Try.func31, Try.ntmps31
      go_upto_region 1 with fail
      rw [← hW0, ← hM]
      clear hW0 hM
      go_wp2_with fail
      refine HB0.out.mono ?_
      rintro e w1 ⟨rfl, k1⟩
      have X1 : Hid (w1.heap[M]? = some (.cells #[.slice none 0 0, .slice none 0 0, .slice none 0 0] 26 (0, 0)) ∧ M + 1 ≤ w1.heap.size) := ⟨(k1.block M (by have := X0.out.2; omega)).trans X0.out.1, by have := k1.size; have := X0.out.2; omega⟩
      have K1 := hidT (K0.out.trans (k1.mono K0.out.size))
      clear k1
      go_wp2_with fail
      refine (HA5.out w1 K1.out).mono ?_
      rintro e w2 ⟨tv, cv, ev, rfl, o1, o2, o3, k2⟩
      obtain ⟨ta, tc, hv1⟩ := ownShT o1
      obtain ⟨ca, cc, hv2⟩ := ownShT o2
      obtain ⟨ea, ec, hv3⟩ := ownShT o3
      subst hv1 hv2 hv3
      have S3 := hidT (bos_of X1.out.1 HMM.out.symm X1.out.2 K1.out o1 o2 o3 k2)
      obtain ⟨Q, hQ⟩ : ∃ Q, Q = w2.heap.size := ⟨_, rfl⟩
      clear o1 o2 o3 k2
      obtain ⟨nt, hnt⟩ : ∃ n, n = t.ticks.length := ⟨_, rfl⟩
      obtain ⟨nc, hnc⟩ : ∃ n, n = t.counts.length := ⟨_, rfl⟩
      obtain ⟨ne, hne⟩ : ∃ n, n = t.events.length := ⟨_, rfl⟩
      rw [← hnt, ← hnc, ← hne]
      rw [← hnt, ← hnc, ← hne, ← hQ] at S3
      clear hnt hnc hne
      go_upto_region 5 with fail
      rw [← hQ]
      obtain ⟨W3, hW3⟩ : ∃ W, W = w2.alloc (.cells #[.slice ta nt tc, .slice ca nc cc, .slice ea ne ec] 26) := ⟨_, rfl⟩
      rw [← hW3] at S3
      rw [← hW3]
      clear hW3 hQ
      obtain ⟨x0, x1, x2⟩ := S3.out.cells
      obtain ⟨u0, u1, u2⟩ := S3.out.resc
      have y0 := S3.out.fz 0
      have y1 := S3.out.fz 1
      have y2 := S3.out.fz 2
      obtain ⟨⟨z0, z1, z2⟩, o1, o2, o3, bF⟩ := S3.out.fin
      replace o1 := o1.mono (Nat.le_of_eq HMM.out.symm)
      replace o2 := o2.mono (Nat.le_of_eq HMM.out.symm)
      replace o3 := o3.mono (Nat.le_of_eq HMM.out.symm)
      go_wp2_with fail
      generalize (((World.setCell W3 ⟨M, 0, none⟩ (.slice ta nt tc)).setCell ⟨M, 1, none⟩ (.slice ca nc cc)).setCell ⟨M, 2, none⟩ (.slice ea ne ec)) = W6 at *
      refine ⟨rfl, .tuple #[.agg #[.slice ta nt tc, .slice ca nc cc, .slice ea ne ec], .int .i64 (s : Int), .int .i64 (i : Int), .int .i64 x], by simp [results, Try.results31, go_sem, z0, z1, z2], ?_⟩
      rw [HP2.out]
      exact ⟨_, _, _, rfl, o1, o2, o3, bF⟩
    | good t s k =>
      obtain ⟨hk, hs⟩ := Tp.rds_good b _ _ _ _ _ _ hr
      subst hk
      have HE5 := hidT (fun W q => HE.out W (s + 1) q (by rw [HN.out]; omega))
      have ek : ((s + 1 : Nat) : Int) = (s : Int) + 1 := by omega
      rw [ek] at HE5
      have hs1 : s < n0 := by rw [HN.out]; exact hs
      have hr' : Tp.rds b n0 5 Tp.tr0 = .good t s (s + 1) := by rw [HN.out]; exact hr
      rw [hr'] at HA5
      clear hr'
      clear ek hs HE
      cases he : Tp.ends b (s + 1) with
      | some q =>
        obtain ⟨j, y⟩ := q
        have hx := Tp.ends_err _ _ _ _ he
        have qx : (y == 0) = false := by simpa using hx
        have HP2 : Hid (post = .bad t s j y) := by unfold Hid; rw [HP.out]; unfold Tp.rtB; rw [hh]; dsimp only; rw [hr]; dsimp only; rw [he]
        rw [he] at HE5
        dsimp only [opV] at HE5
        clear hh hx hr h5 he
        go_enter Try.func31, Try.ntmps31
        go_upto_region 1 with fail
        rw [← hW0, ← hM]
        clear hW0 hM
        go_wp2_with fail
        refine HB0.out.mono ?_
        rintro e w1 ⟨rfl, k1⟩
        have X1 : Hid (w1.heap[M]? = some (.cells #[.slice none 0 0, .slice none 0 0, .slice none 0 0] 26 (0, 0)) ∧ M + 1 ≤ w1.heap.size) := ⟨(k1.block M (by have := X0.out.2; omega)).trans X0.out.1, by have := k1.size; have := X0.out.2; omega⟩
        have K1 := hidT (K0.out.trans (k1.mono K0.out.size))
        clear k1
        go_wp2_with fail
        refine (HA5.out w1 K1.out).mono ?_
        rintro e w2 ⟨tv, cv, ev, rfl, o1, o2, o3, k2⟩
        obtain ⟨ta, tc, hv1⟩ := ownShT o1
        obtain ⟨ca, cc, hv2⟩ := ownShT o2
        obtain ⟨ea, ec, hv3⟩ := ownShT o3
        subst hv1 hv2 hv3
        have S3 := hidT (bos_of X1.out.1 HMM.out.symm X1.out.2 K1.out o1 o2 o3 k2)
        obtain ⟨Q, hQ⟩ : ∃ Q, Q = w2.heap.size := ⟨_, rfl⟩
        clear o1 o2 o3 k2
        obtain ⟨nt, hnt⟩ : ∃ n, n = t.ticks.length := ⟨_, rfl⟩
        obtain ⟨nc, hnc⟩ : ∃ n, n = t.counts.length := ⟨_, rfl⟩
        obtain ⟨ne, hne⟩ : ∃ n, n = t.events.length := ⟨_, rfl⟩
        rw [← hnt, ← hnc, ← hne]
        rw [← hnt, ← hnc, ← hne, ← hQ] at S3
        clear hnt hnc hne
        go_upto_region 5 with fail
        rw [← hQ]
        obtain ⟨W3, hW3⟩ : ∃ W, W = w2.alloc (.cells #[.slice ta nt tc, .slice ca nc cc, .slice ea ne ec] 26) := ⟨_, rfl⟩
        rw [← hW3] at S3
        rw [← hW3]
        clear hW3 hQ
        go_wp2_with fail
        refine (HE5.out W3 S3.out.bl).mono ?_
        rintro e w4 ⟨rfl, k4⟩
        have S4 := hidT (S3.out.later (k4.mono (Nat.le_refl _)))
        clear k4
        obtain ⟨x0, x1, x2⟩ := S4.out.cells
        obtain ⟨u0, u1, u2⟩ := S4.out.resc
        have y0 := S4.out.fz 0
        have y1 := S4.out.fz 1
        have y2 := S4.out.fz 2
        obtain ⟨⟨z0, z1, z2⟩, o1, o2, o3, bF⟩ := S4.out.fin
        replace o1 := o1.mono (Nat.le_of_eq HMM.out.symm)
        replace o2 := o2.mono (Nat.le_of_eq HMM.out.symm)
        replace o3 := o3.mono (Nat.le_of_eq HMM.out.symm)
        go_wp2_with fail
        generalize (((World.setCell w4 ⟨M, 0, none⟩ (.slice ta nt tc)).setCell ⟨M, 1, none⟩ (.slice ca nc cc)).setCell ⟨M, 2, none⟩ (.slice ea ne ec)) = W6 at *
        refine ⟨rfl, .tuple #[.agg #[.slice ta nt tc, .slice ca nc cc, .slice ea ne ec], .int .i64 (s : Int), .int .i64 (j : Int), .int .i64 y], by simp [results, Try.results31, go_sem, z0, z1, z2], ?_⟩
        rw [HP2.out]
        exact ⟨_, _, _, rfl, o1, o2, o3, bF⟩
      | none =>
        have HP2 : Hid (post = .good t s (s + 1)) := by unfold Hid; rw [HP.out]; unfold Tp.rtB; rw [hh]; dsimp only; rw [hr]; dsimp only; rw [he]
        rw [he] at HE5
        dsimp only [opV] at HE5
        clear hh hr h5 he
        go_enter Try.func31, Try.ntmps31
        go_upto_region 1 with fail
        rw [← hW0, ← hM]
        clear hW0 hM
        go_wp2_with fail
        refine HB0.out.mono ?_
        rintro e w1 ⟨rfl, k1⟩
        have X1 : Hid (w1.heap[M]? = some (.cells #[.slice none 0 0, .slice none 0 0, .slice none 0 0] 26 (0, 0)) ∧ M + 1 ≤ w1.heap.size) := ⟨(k1.block M (by have := X0.out.2; omega)).trans X0.out.1, by have := k1.size; have := X0.out.2; omega⟩
        have K1 := hidT (K0.out.trans (k1.mono K0.out.size))
        clear k1
        go_wp2_with fail
        refine (HA5.out w1 K1.out).mono ?_
        rintro e w2 ⟨tv, cv, ev, rfl, o1, o2, o3, k2⟩
        obtain ⟨ta, tc, hv1⟩ := ownShT o1
        obtain ⟨ca, cc, hv2⟩ := ownShT o2
        obtain ⟨ea, ec, hv3⟩ := ownShT o3
        subst hv1 hv2 hv3
        have S3 := hidT (bos_of X1.out.1 HMM.out.symm X1.out.2 K1.out o1 o2 o3 k2)
        obtain ⟨Q, hQ⟩ : ∃ Q, Q = w2.heap.size := ⟨_, rfl⟩
        clear o1 o2 o3 k2
        obtain ⟨nt, hnt⟩ : ∃ n, n = t.ticks.length := ⟨_, rfl⟩
        obtain ⟨nc, hnc⟩ : ∃ n, n = t.counts.length := ⟨_, rfl⟩
        obtain ⟨ne, hne⟩ : ∃ n, n = t.events.length := ⟨_, rfl⟩
        rw [← hnt, ← hnc, ← hne]
        rw [← hnt, ← hnc, ← hne, ← hQ] at S3
        clear hnt hnc hne
        go_upto_region 5 with fail
        rw [← hQ]
        obtain ⟨W3, hW3⟩ : ∃ W, W = w2.alloc (.cells #[.slice ta nt tc, .slice ca nc cc, .slice ea ne ec] 26) := ⟨_, rfl⟩
        rw [← hW3] at S3
        rw [← hW3]
        clear hW3 hQ
        go_wp2_with fail
        refine (HE5.out W3 S3.out.bl).mono ?_
        rintro e w4 ⟨rfl, k4⟩
        have S4 := hidT (S3.out.later (k4.mono (Nat.le_refl _)))
        clear k4
        obtain ⟨x0, x1, x2⟩ := S4.out.cells
        obtain ⟨u0, u1, u2⟩ := S4.out.resc
        have y0 := S4.out.fz 0
        have y1 := S4.out.fz 1
        have y2 := S4.out.fz 2
        obtain ⟨⟨z0, z1, z2⟩, o1, o2, o3, bF⟩ := S4.out.fin
        replace o1 := o1.mono (Nat.le_of_eq HMM.out.symm)
        replace o2 := o2.mono (Nat.le_of_eq HMM.out.symm)
        replace o3 := o3.mono (Nat.le_of_eq HMM.out.symm)
        go_wp2_with fail
        generalize (((World.setCell w4 ⟨M, 0, none⟩ (.slice ta nt tc)).setCell ⟨M, 1, none⟩ (.slice ca nc cc)).setCell ⟨M, 2, none⟩ (.slice ea ne ec)) = W6 at *
        refine ⟨rfl, .tuple #[.agg #[.slice ta nt tc, .slice ca nc cc, .slice ea ne ec], .int .i64 (n0 : Int), .int .i64 ((0 : Nat) : Int), .int .i64 0], by simp [results, Try.results31, go_sem, z0, z1, z2], ?_⟩
        rw [HP2.out]
        exact ⟨_, _, _, rfl, o1, o2, o3, bF⟩
end Go.Proofs.Ytneefpblfiedbaa

namespace Go.Proofs.Ytneefpblfiedbaa
open Go.RowKit
set_option linter.unusedVariables false
set_option linter.unusedSimpArgs false
theorem nil3 : (Value.agg #[.slice none 0 0, .slice none 0 0, .slice none 0 0]) = .agg #[.slice none Tp.tr0.ticks.length 0, .slice none Tp.tr0.counts.length 0, .slice none Tp.tr0.events.length 0] := rfl
set_option maxHeartbeats 4000000 in
theorem rBoth_long (n : Nat) (a : Option Addr) (c : Nat) (w : World) (h : 4194304 < n) (hl : n ≤ 4611686018427387904) :
    Calls Try.prog 31 #[.slice a n c] w fun e w' => e = .returned (.tuple #[.agg #[.slice none 0 0, .slice none 0 0, .slice none 0 0], .int .i64 0, .int .i64 0, .int .i64 2]) ∧ Below w.heap.size w w' := by
  have HB := hidT (fun W => rBegins_long n a c 2 W h hl)
  obtain ⟨M, hM⟩ : ∃ M, M = w.heap.size := ⟨_, rfl⟩
  have HMM := hidT hM
  obtain ⟨W0, hW0⟩ : ∃ W, W = w.alloc (.cells #[.slice none 0 0, .slice none 0 0, .slice none 0 0] 26) := ⟨_, rfl⟩
  have K0 : Hid (Below w.heap.size w W0) := by rw [hW0]; exact (Below.refl _ _).alloc (Nat.le_refl _) _
  have X0 : Hid (W0.heap[M]? = some (.cells #[.slice none 0 0, .slice none 0 0, .slice none 0 0] 26 (0, 0))) := by rw [hW0, hM]; exact heap_alloc_new w _
  clear h hl
  go_enter Try.func31, Try.ntmps31
  go_upto_region 1 with fail
  rw [← hW0, ← hM]
  clear hW0 hM
  go_wp2_with fail
  refine (HB.out _).mono ?_
  rintro e w1 ⟨rfl, rfl⟩
  have u0 : w1.cell? ⟨M, 0, none⟩ = some (.slice none 0 0) := by simp [World.cell?, X0.out]
  have u1 : w1.cell? ⟨M, 1, none⟩ = some (.slice none 0 0) := by simp [World.cell?, X0.out]
  have u2 : w1.cell? ⟨M, 2, none⟩ = some (.slice none 0 0) := by simp [World.cell?, X0.out]
  have y0 : w1.frozen? ⟨M, 0, none⟩ = false := by simp [World.frozen?, X0.out]
  have y1 : w1.frozen? ⟨M, 1, none⟩ = false := by simp [World.frozen?, X0.out]
  have y2 : w1.frozen? ⟨M, 2, none⟩ = false := by simp [World.frozen?, X0.out]
  obtain ⟨⟨z0, z1, z2⟩, o1, o2, o3, bF⟩ := fin_box (w := w) (t := Tp.tr0) (tv := .slice none 0 0) (cv := .slice none 0 0) (ev := .slice none 0 0) X0.out (Nat.le_of_eq HMM.out.symm) (World.ownsRow_nil _ _ _ _) (World.ownsRow_nil _ _ _ _) (World.ownsRow_nil _ _ _ _) K0.out
  go_wp2_with fail
  generalize (((World.setCell w1 ⟨M, 0, none⟩ (.slice none 0 0)).setCell ⟨M, 1, none⟩ (.slice none 0 0)).setCell ⟨M, 2, none⟩ (.slice none 0 0)) = W6 at *
  exact ⟨rfl, .tuple #[.agg #[.slice none 0 0, .slice none 0 0, .slice none 0 0], .int .i64 0, .int .i64 0, .int .i64 2], by simp [results, Try.results31, go_sem, z0, z1, z2], rfl, bF⟩
def AlS (w : World) (e : Ending) (w' : World) (t : Tp.Tr) : Prop := ∃ tv cv ev, e = .returned (.tuple #[.agg #[tv, cv, ev], .int .i64 0, .int .i64 0]) ∧ w'.ownsRow w.heap.size 62 4 tv t.ticks.length (tkC t.ticks) ∧ w'.ownsRow w.heap.size 3 1 cv t.counts.length (nmC t.counts) ∧ w'.ownsRow w.heap.size 69 2 ev t.events.length (evC t.events) ∧ Below w.heap.size w w'
set_option maxHeartbeats 4000000 in
theorem rReadTr_err (a : Option Addr) (n c : Nat) (w : World) (tq : Tp.Tr) (s i : Nat) (x : Int) (hx : x ≠ 0) (HB : ∀ W, Below w.heap.size w W → Calls Try.prog 31 #[.slice a n c] W fun e w' => AlR W e w' tq s i x) :
    Calls Try.prog 12 #[.slice a n c] w fun e w' => e = .returned (.tuple #[.agg #[.slice none 0 0, .slice none 0 0, .slice none 0 0], .int .i64 (i : Int), .int .i64 x]) ∧ Below w.heap.size w w' := by
  have qx : (x == 0) = false := by simpa using hx
  obtain ⟨M, hM⟩ : ∃ M, M = w.heap.size := ⟨_, rfl⟩
  have HMM := hidT hM
  obtain ⟨W0, hW0⟩ : ∃ W, W = w.alloc (.cells #[.slice none 0 0, .slice none 0 0, .slice none 0 0] 26) := ⟨_, rfl⟩
  have K0 : Hid (Below w.heap.size w W0) := by rw [hW0]; exact (Below.refl _ _).alloc (Nat.le_refl _) _
  have X0 : Hid (W0.heap[M]? = some (.cells #[.slice none 0 0, .slice none 0 0, .slice none 0 0] 26 (0, 0)) ∧ M + 1 ≤ W0.heap.size) := by rw [hW0, hM]; exact ⟨heap_alloc_new w _, by simp⟩
  have HB0 := hidT (HB W0 K0.out)
  clear hx HB
  go_enter Try.func12, Try.ntmps12
  go_upto_region 1 with fail
  rw [← hW0, ← hM]
  clear hW0 hM
  go_wp2_with fail
  refine HB0.out.mono ?_
  rintro e w2 ⟨tv, cv, ev, rfl, o1, o2, o3, k2⟩
  obtain ⟨ta, tc, hv1⟩ := ownShT o1
  obtain ⟨ca, cc, hv2⟩ := ownShT o2
  obtain ⟨ea, ec, hv3⟩ := ownShT o3
  subst hv1 hv2 hv3
  have S3 := hidT (bos_of X0.out.1 HMM.out.symm X0.out.2 K0.out o1 o2 o3 k2)
  obtain ⟨Q, hQ⟩ : ∃ Q, Q = w2.heap.size := ⟨_, rfl⟩
  clear o1 o2 o3 k2
  obtain ⟨nt, hnt⟩ : ∃ n, n = tq.ticks.length := ⟨_, rfl⟩
  obtain ⟨nc, hnc⟩ : ∃ n, n = tq.counts.length := ⟨_, rfl⟩
  obtain ⟨ne, hne⟩ : ∃ n, n = tq.events.length := ⟨_, rfl⟩
  rw [← hnt, ← hnc, ← hne]
  rw [← hnt, ← hnc, ← hne, ← hQ] at S3
  clear hnt hnc hne
  go_upto_region 2 with fail
  rw [← hQ]
  obtain ⟨W3, hW3⟩ : ∃ W, W = w2.alloc (.cells #[.slice ta nt tc, .slice ca nc cc, .slice ea ne ec] 26) := ⟨_, rfl⟩
  rw [← hW3] at S3
  rw [← hW3]
  clear hW3 hQ
  obtain ⟨u0, u1, u2⟩ := S3.out.resc
  have y0 := S3.out.fz 0
  have y1 := S3.out.fz 1
  have y2 := S3.out.fz 2
  obtain ⟨⟨z0, z1, z2⟩, o1, o2, o3, bF⟩ := fin_box (w := w) (t := Tp.tr0) (tv := .slice none 0 0) (cv := .slice none 0 0) (ev := .slice none 0 0) S3.out.hr S3.out.lo (World.ownsRow_nil _ _ _ _) (World.ownsRow_nil _ _ _ _) (World.ownsRow_nil _ _ _ _) S3.out.bl
  go_wp2_with fail
  generalize (((World.setCell W3 ⟨M, 0, none⟩ (.slice none 0 0)).setCell ⟨M, 1, none⟩ (.slice none 0 0)).setCell ⟨M, 2, none⟩ (.slice none 0 0)) = W6 at *
  exact ⟨rfl, .tuple #[.agg #[.slice none 0 0, .slice none 0 0, .slice none 0 0], .int .i64 (i : Int), .int .i64 x], by simp [results, Try.results12, go_sem, z0, z1, z2], rfl, bF⟩
set_option maxHeartbeats 4000000 in
theorem rReadTr_ok (a : Option Addr) (n c : Nat) (w : World) (tq : Tp.Tr) (s : Nat) (HB : ∀ W, Below w.heap.size w W → Calls Try.prog 31 #[.slice a n c] W fun e w' => AlR W e w' tq s 0 0) :
    Calls Try.prog 12 #[.slice a n c] w fun e w' => AlS w e w' tq := by
  obtain ⟨M, hM⟩ : ∃ M, M = w.heap.size := ⟨_, rfl⟩
  have HMM := hidT hM
  obtain ⟨W0, hW0⟩ : ∃ W, W = w.alloc (.cells #[.slice none 0 0, .slice none 0 0, .slice none 0 0] 26) := ⟨_, rfl⟩
  have K0 : Hid (Below w.heap.size w W0) := by rw [hW0]; exact (Below.refl _ _).alloc (Nat.le_refl _) _
  have X0 : Hid (W0.heap[M]? = some (.cells #[.slice none 0 0, .slice none 0 0, .slice none 0 0] 26 (0, 0)) ∧ M + 1 ≤ W0.heap.size) := by rw [hW0, hM]; exact ⟨heap_alloc_new w _, by simp⟩
  have HB0 := hidT (HB W0 K0.out)
  clear HB
  go_enter Try.func12, Try.ntmps12
  go_upto_region 1 with fail
  rw [← hW0, ← hM]
  clear hW0 hM
  go_wp2_with fail
  refine HB0.out.mono ?_
  rintro e w2 ⟨tv, cv, ev, rfl, o1, o2, o3, k2⟩
  obtain ⟨ta, tc, hv1⟩ := ownShT o1
  obtain ⟨ca, cc, hv2⟩ := ownShT o2
  obtain ⟨ea, ec, hv3⟩ := ownShT o3
  subst hv1 hv2 hv3
  have S3 := hidT (bos_of X0.out.1 HMM.out.symm X0.out.2 K0.out o1 o2 o3 k2)
  obtain ⟨Q, hQ⟩ : ∃ Q, Q = w2.heap.size := ⟨_, rfl⟩
  clear o1 o2 o3 k2
  obtain ⟨nt, hnt⟩ : ∃ n, n = tq.ticks.length := ⟨_, rfl⟩
  obtain ⟨nc, hnc⟩ : ∃ n, n = tq.counts.length := ⟨_, rfl⟩
  obtain ⟨ne, hne⟩ : ∃ n, n = tq.events.length := ⟨_, rfl⟩
  rw [← hnt, ← hnc, ← hne]
  rw [← hnt, ← hnc, ← hne, ← hQ] at S3
  clear hnt hnc hne
  go_upto_region 2 with fail
  rw [← hQ]
  obtain ⟨W3, hW3⟩ : ∃ W, W = w2.alloc (.cells #[.slice ta nt tc, .slice ca nc cc, .slice ea ne ec] 26) := ⟨_, rfl⟩
  rw [← hW3] at S3
  rw [← hW3]
  clear hW3 hQ
  obtain ⟨x0, x1, x2⟩ := S3.out.cells
  obtain ⟨u0, u1, u2⟩ := S3.out.resc
  have y0 := S3.out.fz 0
  have y1 := S3.out.fz 1
  have y2 := S3.out.fz 2
  obtain ⟨⟨z0, z1, z2⟩, o1, o2, o3, bF⟩ := S3.out.fin
  replace o1 := o1.mono (Nat.le_of_eq HMM.out.symm)
  replace o2 := o2.mono (Nat.le_of_eq HMM.out.symm)
  replace o3 := o3.mono (Nat.le_of_eq HMM.out.symm)
  go_wp2_with fail
  generalize (((World.setCell W3 ⟨M, 0, none⟩ (.slice ta nt tc)).setCell ⟨M, 1, none⟩ (.slice ca nc cc)).setCell ⟨M, 2, none⟩ (.slice ea ne ec)) = W6 at *
  refine ⟨rfl, .tuple #[.agg #[.slice ta nt tc, .slice ca nc cc, .slice ea ne ec], .int .i64 0, .int .i64 0], by simp [results, Try.results12, go_sem, z0, z1, z2], ?_⟩
  exact ⟨_, _, _, rfl, o1, o2, o3, bF⟩
/-- What was read: a trace, a place, an error. -/
def RtT (t : Tp.Tr) (i x : Int) (W : World) (e : Ending) (w' : World) : Prop := ∃ ta tc ca cc ea ec, e = .returned (.tuple #[.agg #[.slice ta t.ticks.length tc, .slice ca t.counts.length cc, .slice ea t.events.length ec], .int .i64 i, .int .i64 x]) ∧ TrS w'.heap.size w' ta ca ea tc cc ec t ∧ Below W.heap.size W w'
theorem tr0_s (w : World) : TrS w.heap.size w none none none 0 0 0 Tp.tr0 := by
  refine ⟨?_, ?_, ?_, by simp [Tp.tr0], by simp [Tp.tr0], by simp [Tp.tr0], by simp [Tp.tr0], by simp [Tp.tr0], by simp [Tp.tr0], by simp [Tp.tr0]⟩
  all_goals exact fun h => absurd h (by simp [Tp.tr0])
theorem rtErr {w : World} {e : Ending} {w' : World} {i x : Int} (h : e = .returned (.tuple #[.agg #[.slice none 0 0, .slice none 0 0, .slice none 0 0], .int .i64 i, .int .i64 x]) ∧ Below w.heap.size w w') : RtT Tp.tr0 i x w e w' := by
  obtain ⟨rfl, k⟩ := h
  exact ⟨none, 0, none, 0, none, 0, rfl, tr0_s _, k⟩
theorem rtOk {w : World} {e : Ending} {w' : World} {t : Tp.Tr} (hb : TrB t) (h : AlS w e w' t) : RtT t 0 0 w e w' := by
  obtain ⟨tv, cv, ev, rfl, o1, o2, o3, k⟩ := h
  obtain ⟨ta, tc, ca, cc, ea, ec, rfl, rfl, rfl, ts⟩ := trs_of hb o1 o2 o3
  exact ⟨ta, tc, ca, cc, ea, ec, rfl, ts, k⟩
theorem rtBoth (w : World) (a : Option Addr) (b : List Int) (c : Nat) (hm : ByS w.heap.size w a b) (hy : Tp.Byt b) (hc : b.length ≤ c) (hl : b.length ≤ 3000 ∨ 4194304 < b.length) (hl2 : b.length ≤ 1000000000000000) :
    ∃ t i x, (t.counts.length = t.ticks.length ∧ t.ticks.length ≤ 1000000 ∧ t.events.length ≤ 1000000) ∧ (∀ W, Below w.heap.size w W → Calls Try.prog 11 #[.slice a b.length c] W (RtT t i x W)) ∧ (∀ W, Below w.heap.size w W → Calls Try.prog 12 #[.slice a b.length c] W (RtT t i x W)) := by
  rcases hl with hl | hl
  · have p1 := fun W (q : Below w.heap.size w W) => readTr_any b a c W hy (hm.later q (Nat.le_refl _)) q.size hc (by omega)
    have p2 := fun W (q : Below w.heap.size w W) => rBoth_any b a c W hy ((hm.later q (Nat.le_refl _)).mono q.size) hc (by omega)
    cases hr : Tp.rtB b with
    | bad t s i x =>
      rw [hr] at p1 p2
      have hx := Tp.rtB_err b hy _ _ _ _ hr
      exact ⟨Tp.tr0, i, x, ⟨rfl, by simp [Tp.tr0], by simp [Tp.tr0]⟩, fun W q => (p1 W q).mono fun e w' h => rtErr h, fun W q => (rReadTr_err a b.length c W t s i x hx (fun W' q' => p2 W' (q.trans (q'.mono q.size)))).mono fun e w' h => rtErr h⟩
    | good t s j =>
      rw [hr] at p1 p2
      obtain ⟨h1, h2, h3⟩ := Tp.rt_back b hy t s j hr
      have hg := Tp.recs_ge t.events t.ticks t.counts 0 h2.c h2.o
      have hbl : (Tp.recs t.events t.ticks t.counts 0).length ≤ b.length := by
        rw [← h1]
        simp only [Tp.wt, Tp.bodyT, List.length_append]
        omega
      have hb := sof_tb h2 (by omega) (by omega)
      exact ⟨t, 0, 0, ⟨h2.c, by omega, by omega⟩, fun W q => (p1 W q).mono fun e w' h => rtOk hb h, fun W q => (rReadTr_ok a b.length c W t b.length (fun W' q' => p2 W' (q.trans (q'.mono q.size)))).mono fun e w' h => rtOk hb h⟩
  · refine ⟨Tp.tr0, 0, 2, ⟨rfl, by simp [Tp.tr0], by simp [Tp.tr0]⟩, fun W q => (readTr_long b.length a c W hl (by omega)).mono fun e w' h => rtErr h, fun W q => ?_⟩
    refine (rReadTr_err a b.length c W Tp.tr0 0 0 2 (by decide) fun W' q' => (rBoth_long b.length a c W' hl (by omega)).mono ?_).mono fun e w' h => rtErr h
    rintro e w' ⟨rfl, k⟩
    exact ⟨_, _, _, rfl, World.ownsRow_nil _ _ _ _, World.ownsRow_nil _ _ _ _, World.ownsRow_nil _ _ _ _, k⟩
theorem wtBoth (w : World) (ta ca ea : Option Addr) (tc cc ec : Nat) (t : Tp.Tr) (ht : TrS w.heap.size w ta ca ea tc cc ec t) (m1 : t.ticks.length ≤ 500) (m2 : t.counts.length ≤ 500) (m3 : t.events.length ≤ 500) :
    ∃ L e0, (∀ W, Below w.heap.size w W → Calls Try.prog 9 #[trV ta ca ea tc cc ec t] W (TwQ L e0 W)) ∧ (∀ W, Below w.heap.size w W → Calls Try.prog 10 #[trV ta ca ea tc cc ec t] W (TwQ L e0 W)) := by
  have p1 := fun W (q : Below w.heap.size w W) => writeTr_any t ta ca ea tc cc ec W ((ht.later q (Nat.le_refl _)).mono q.size) (by omega) (by omega) (by omega)
  have p2 := fun W (q : Below w.heap.size w W) => rWriteTr_any t ta ca ea tc cc ec W ((ht.later q (Nat.le_refl _)).mono q.size) (by omega) (by omega) (by omega)
  by_cases hR : Tp.rightT t = true
  · have e : ∀ (W : World) (e : Ending) (w' : World), wtQ t W e w' → TwQ (Tp.wt t) 0 W e w' := fun W e w' h => by
      unfold wtQ at h
      rw [if_pos hR] at h
      exact twOf h (Tp.wt_pos t)
    exact ⟨Tp.wt t, 0, fun W q => (p1 W q).mono (e W), fun W q => (p2 W q).mono (e W)⟩
  · have e : ∀ (W : World) (e : Ending) (w' : World), wtQ t W e w' → TwQ [] 32 W e w' := fun W e w' h => by
      unfold wtQ at h
      rw [if_neg hR] at h
      obtain ⟨rfl, k⟩ := h
      obtain ⟨a, n, c, e1, e2, e3⟩ := twNil w' 32
      exact ⟨a, n, c, e1, e2, k⟩
    exact ⟨[], 32, fun W q => (p1 W q).mono (e W), fun W q => (p2 W q).mono (e W)⟩
end Go.Proofs.Ytneefpblfiedbaa

namespace Go.Proofs.Ytneefpblfiedbaa
open Go.RowKit
set_option linter.unusedVariables false
set_option linter.unusedSimpArgs false
theorem al3 {w : World} {x y z : Value} {T : TypeId} : ∀ W, Below (w.alloc (.cells #[x, y, z] T)).heap.size (w.alloc (.cells #[x, y, z] T)) W → W.cell? ⟨w.heap.size, 0, none⟩ = some x ∧ W.cell? ⟨w.heap.size, 1, none⟩ = some y ∧ W.cell? ⟨w.heap.size, 2, none⟩ = some z := fun W q => by
  refine box3T W _ _ _ T ?_
  rw [q.block w.heap.size (by simp)]
  exact heap_alloc_new w _
set_option maxRecDepth 100000 in
set_option maxHeartbeats 4000000 in
theorem traces_walk (w : World) (ta ca ea : Option Addr) (tc cc ec : Nat) (t : Tp.Tr) (ht : TrS w.heap.size w ta ca ea tc cc ec t) (a : Option Addr) (b : List Int) (c : Nat) (hm : ByS w.heap.size w a b) (hy : Tp.Byt b) (hc : b.length ≤ c) (hl : b.length ≤ 1000000000000000) :
    Calls Try.prog 3 #[trV ta ca ea tc cc ec t, .slice a b.length c] w fun e w' => e = .returned (.bool true) ∧ Below w.heap.size w w' := by
  have EM := hidT (many_any ta ca ea tc cc ec t.ticks.length t.counts.length t.events.length)
  have EL := hidT (fun W => long_any W a b.length c (by omega))
  obtain ⟨M, hM⟩ : ∃ M, M = w.heap.size := ⟨_, rfl⟩
  obtain ⟨W0, hW0⟩ : ∃ W, W = w.alloc (.cells #[.slice ta t.ticks.length tc, .slice ca t.counts.length cc, .slice ea t.events.length ec] 26) := ⟨_, rfl⟩
  have K0 : Hid (Below w.heap.size w W0) := by rw [hW0]; exact (Below.refl _ _).alloc (Nat.le_refl _) _
  have HC : Hid (∀ W, Below W0.heap.size W0 W → W.cell? ⟨M, 0, none⟩ = some (.slice ta t.ticks.length tc) ∧ W.cell? ⟨M, 1, none⟩ = some (.slice ca t.counts.length cc) ∧ W.cell? ⟨M, 2, none⟩ = some (.slice ea t.events.length ec)) := by
    rw [hW0, hM]
    exact al3
  have HM := hidT hM
  have HW0 := hidT hW0
  have R0 : Hid (Below W0.heap.size W0 W0) := Below.refl _ _
  have KNW : Hid (∀ W, Below W0.heap.size W0 W → Calls Try.prog 8 #[] W fun e w' => e = .returned (.bool true) ∧ Below w.heap.size w w') := fun W q => (known13 W).mono fun e w' h => ⟨h.1, belTo (belTo K0.out q) h.2⟩
  by_cases hb : 3000 < b.length ∧ b.length ≤ 4194304
  · rw [decide_eq_true hb] at EL
    clear hb ht hm hy hc hl hW0 hM
    unfold trV
    generalize t.ticks.length = n1 at *
    generalize t.counts.length = n2 at *
    generalize t.events.length = n3 at *
    generalize b.length = nb at *
    go_enter Try.func3, Try.ntmps3
    go_upto_region 1 with fail
    rw [← HW0.out, ← HM.out]
    go_wp2_with fail
    refine (EL.out _).mono ?_
    rintro e w3 ⟨rfl, rfl⟩
    go_wp2_with fail
    refine (KNW.out _ R0.out).mono ?_
    rintro e w4 ⟨rfl, k4⟩
    have K4 := hidT k4
    clear k4
    go_wp2_with fail
    go_ret
    exact ⟨rfl, K4.out⟩
  rw [decide_eq_false hb] at EL
  by_cases hmany : 500 < t.ticks.length ∨ 500 < t.counts.length ∨ 500 < t.events.length
  · rw [decide_eq_true hmany] at EM
    clear hmany hb ht hm hy hc hl hW0 hM
    unfold trV
    generalize t.ticks.length = n1 at *
    generalize t.counts.length = n2 at *
    generalize t.events.length = n3 at *
    generalize b.length = nb at *
    go_enter Try.func3, Try.ntmps3
    go_upto_region 1 with fail
    rw [← HW0.out, ← HM.out]
    go_wp2_with fail
    refine (EL.out _).mono ?_
    rintro e w3 ⟨rfl, rfl⟩
    obtain ⟨t0, t1, t2⟩ := HC.out _ R0.out
    go_wp2_with fail
    refine (EM.out _).mono ?_
    rintro e w4 ⟨rfl, k4⟩
    have K4 := hidT k4
    clear k4
    go_wp2_with fail
    refine (KNW.out _ K4.out).mono ?_
    rintro e w5 ⟨rfl, k5⟩
    have K5 := hidT k5
    clear k5
    go_wp2_with fail
    go_ret
    exact ⟨rfl, K5.out⟩
  rw [decide_eq_false hmany] at EM
  obtain ⟨L, e0, EP0, ER0⟩ := wtBoth w ta ca ea tc cc ec t ht (by omega) (by omega) (by omega)
  obtain ⟨T, i, x, hT, FP0, FR0⟩ := rtBoth w a b c hm hy hc (by omega) hl
  have EP := hidT (fun W (q : Below W0.heap.size W0 W) => EP0 W (belTo K0.out q))
  have ER := hidT (fun W (q : Below W0.heap.size W0 W) => ER0 W (belTo K0.out q))
  have FP := hidT (fun W (q : Below W0.heap.size W0 W) => FP0 W (belTo K0.out q))
  have FR := hidT (fun W (q : Below W0.heap.size W0 W) => FR0 W (belTo K0.out q))
  have SY : Hid (∀ W ta ca ea tb cb eb tc cc ec td cd ed, TrS W.heap.size W ta ca ea tc cc ec T → TrS W.heap.size W tb cb eb td cd ed T → Calls Try.prog 13 #[.agg #[.slice ta T.ticks.length tc, .slice ca T.counts.length cc, .slice ea T.events.length ec], .agg #[.slice tb T.ticks.length td, .slice cb T.counts.length cd, .slice eb T.events.length ed]] W fun e w' => e = .returned (.bool true) ∧ Below W.heap.size W w') := fun W ta ca ea tb cb eb tc cc ec td cd ed h1 h2 => sameTr_yes W ta ca ea tb cb eb tc cc ec td cd ed T h1 h2 hT.1 hT.2.1 hT.2.2
  unfold trV at EP ER ⊢
  obtain ⟨n1, hn1⟩ : ∃ n, n = t.ticks.length := ⟨_, rfl⟩
  obtain ⟨n2, hn2⟩ : ∃ n, n = t.counts.length := ⟨_, rfl⟩
  obtain ⟨n3, hn3⟩ : ∃ n, n = t.events.length := ⟨_, rfl⟩
  obtain ⟨nb, hnb⟩ : ∃ n, n = b.length := ⟨_, rfl⟩
  rw [← hn1, ← hn2, ← hn3] at EP ER EM HC HW0
  rw [← hn1, ← hn2, ← hn3]
  rw [← hnb] at EL FP FR ⊢
  clear hn1 hn2 hn3 hnb hmany hb ht hm hy hc hl hW0 hM EP0 ER0 FP0 FR0 hT
  have qe : (e0 == e0) = true := beq_self_eq_true e0
  have qi : (i == i) = true := beq_self_eq_true i
  have qx : (x == x) = true := beq_self_eq_true x
  have qs := str_eqL L
  have HTL : ∃ m1 m2 m3, m1 = T.ticks.length ∧ m2 = T.counts.length ∧ m3 = T.events.length := ⟨_, _, _, rfl, rfl, rfl⟩
  obtain ⟨m1, m2, m3, hm1, hm2, hm3⟩ := HTL
  have HM1 := hidT hm1
  have HM2 := hidT hm2
  have HM3 := hidT hm3
  rw [← hm1, ← hm2, ← hm3] at SY
  clear hm1 hm2 hm3
  go_enter Try.func3, Try.ntmps3
  go_upto_region 1 with fail
  rw [← HW0.out, ← HM.out]
  clear HW0
  go_wp2_with fail
  refine (EL.out _).mono ?_
  rintro e w3 ⟨rfl, rfl⟩
  obtain ⟨t0, t1, t2⟩ := HC.out _ R0.out
  go_wp2_with fail
  refine (EM.out _).mono ?_
  rintro e w4 ⟨rfl, k4⟩
  have K4 := hidT k4
  clear k4 t0 t1 t2
  obtain ⟨t0, t1, t2⟩ := HC.out _ K4.out
  go_wp2_with fail
  refine (EP.out _ K4.out).mono ?_
  rintro e w5 ⟨a5, n5, c5, rfl, t5, k5⟩
  have T5 := hidT t5
  have K5 := hidT (K4.out.trans (k5.mono K4.out.size))
  clear t5 k5 t0 t1 t2
  obtain ⟨t0, t1, t2⟩ := HC.out _ K5.out
  go_wp2_with fail
  refine (ER.out _ K5.out).mono ?_
  rintro e w6 ⟨a6, n6, c6, rfl, t6, k6⟩
  have T6 := hidT t6
  have J56 := hidT k6
  have K6 := hidT (K5.out.trans (k6.mono K5.out.size))
  clear t6 k6 t0 t1 t2
  go_wp2_with fail
  refine (FP.out _ K6.out).mono ?_
  rintro e w7 ⟨ua, uc, va, vc, xa, xc, rfl, s7, k7⟩
  rw [← HM1.out, ← HM2.out, ← HM3.out]
  have A7 := hidT (al3 (w := w7) (x := .slice ua m1 uc) (y := .slice va m2 vc) (z := .slice xa m3 xc) (T := 26))
  have B7 : Hid (Below w7.heap.size w7 (w7.alloc (.cells #[.slice ua m1 uc, .slice va m2 vc, .slice xa m3 xc] 26))) := (Below.refl _ _).alloc (Nat.le_refl _) _
  obtain ⟨P7, hP7⟩ : ∃ P, P = w7.heap.size := ⟨_, rfl⟩
  go_upto_region 6 with fail
  obtain ⟨W7, hW7⟩ : ∃ W, W = w7.alloc (.cells #[.slice ua m1 uc, .slice va m2 vc, .slice xa m3 xc] 26) := ⟨_, rfl⟩
  rw [← hW7] at A7 B7
  rw [← hW7, ← hP7]
  have J67 := hidT (k7.trans (B7.out.mono k7.size))
  have K7 := hidT (K6.out.trans (J67.out.mono K6.out.size))
  have S7 := hidT ((s7.later B7.out (Nat.le_refl _)).mono B7.out.size)
  rw [← hP7] at A7
  clear s7 k7 B7 hW7 hP7
  go_wp2_with fail
  refine (FR.out _ K7.out).mono ?_
  rintro e w8 ⟨ya, yc, za, zc, qa, qc, rfl, s8, k8⟩
  rw [← HM1.out, ← HM2.out, ← HM3.out]
  have A8 := hidT (al3 (w := w8) (x := .slice ya m1 yc) (y := .slice za m2 zc) (z := .slice qa m3 qc) (T := 26))
  have B8 : Hid (Below w8.heap.size w8 (w8.alloc (.cells #[.slice ya m1 yc, .slice za m2 zc, .slice qa m3 qc] 26))) := (Below.refl _ _).alloc (Nat.le_refl _) _
  obtain ⟨P8, hP8⟩ : ∃ P, P = w8.heap.size := ⟨_, rfl⟩
  go_upto_region 7 with fail
  obtain ⟨W8, hW8⟩ : ∃ W, W = w8.alloc (.cells #[.slice ya m1 yc, .slice za m2 zc, .slice qa m3 qc] 26) := ⟨_, rfl⟩
  rw [← hW8] at A8 B8
  rw [← hW8, ← hP8]
  have J78 := hidT (k8.trans (B8.out.mono k8.size))
  have J68 := hidT (J67.out.trans (J78.out.mono J67.out.size))
  have J58 := hidT (J56.out.trans (J68.out.mono J56.out.size))
  have K8 := hidT (K7.out.trans (J78.out.mono K7.out.size))
  have S8 := hidT ((s8.later B8.out (Nat.le_refl _)).mono B8.out.size)
  have S9 := hidT ((S7.out.later J78.out (Nat.le_refl _)).mono J78.out.size)
  rw [← hP8] at A8
  clear s8 k8 B8 hW8 hP8 S7
  obtain ⟨g0, g1, g2⟩ := A7.out W8 J78.out
  obtain ⟨h0, h1, h2⟩ := A8.out W8 (Below.refl _ _)
  have s5 := T5.out W8 J58.out
  have s6 := T6.out W8 J68.out
  have ES := hidT (SY.out W8 ua va xa ya za qa uc vc xc yc zc qc S9.out S8.out)
  clear A7 A8
  go_wp2_with fail
  refine ES.out.mono ?_
  rintro e w9 ⟨rfl, k9⟩
  have K9 := hidT (K8.out.trans (k9.mono K8.out.size))
  clear k9
  go_wp2_with fail
  refine (KNW.out _ K9.out).mono ?_
  rintro e w10 ⟨rfl, k10⟩
  have K10 := hidT k10
  clear k10
  go_wp2_with fail
  go_ret
  exact ⟨rfl, K10.out⟩
end Go.Proofs.Ytneefpblfiedbaa

namespace Go.Proofs.Ytneefpblfiedbaa
open Go.RowKit
set_option linter.unusedVariables false
set_option linter.unusedSimpArgs false
/-- What Salvage leaves: the trace, how far, an error. -/
def SgR (w : World) (e : Ending) (w' : World) (t : Tp.Tr) (s : Int) (x : Int) : Prop := ∃ tv cv ev, e = .returned (.tuple #[.agg #[tv, cv, ev], .int .i64 s, .int .i64 x]) ∧ w'.ownsRow w.heap.size 62 4 tv t.ticks.length (tkC t.ticks) ∧ w'.ownsRow w.heap.size 3 1 cv t.counts.length (nmC t.counts) ∧ w'.ownsRow w.heap.size 69 2 ev t.events.length (evC t.events) ∧ Below w.heap.size w w'
def sgQ (w : World) (e : Ending) (w' : World) (n : Nat) : Tp.TRes → Prop
  | .good t _ _ => SgR w e w' t n 0
  | .bad t s _ x => SgR w e w' t s x
theorem TrE.later {w wr W W' : World} {M : Nat} {tv cv ev : Value} {t : Tp.Tr} (h : TrE w wr M tv cv ev t W) (b : Below W.heap.size W W') (hM : M < W.heap.size) : TrE w wr M tv cv ev t W' := by
  obtain ⟨⟨c0, c1, c2⟩, o1, o2, o3, bl⟩ := h
  exact ⟨⟨(b.cell (p := ⟨M, 0, none⟩) hM).trans c0, (b.cell (p := ⟨M, 1, none⟩) hM).trans c1, (b.cell (p := ⟨M, 2, none⟩) hM).trans c2⟩, ownLtT o1 b, ownLtT o2 b, ownLtT o3 b, bl.trans (b.mono bl.size)⟩
set_option maxRecDepth 100000 in
set_option maxHeartbeats 2000000 in
theorem salvage_any (b : List Int) (a : Option Addr) (c : Nat) (w : World) (hy : Tp.Byt b) {B : Nat} (hm : ByS B w a b) (hB : B ≤ w.heap.size) (hc : b.length ≤ c) (hl : b.length ≤ 1000000) :
    Calls Try.prog 18 #[.slice a b.length c] w fun e w' => sgQ w e w' b.length (Tp.rtB b) := by
  obtain ⟨wb, hwb⟩ : ∃ W, W = w.alloc (.cells #[.slice none 0 0, .slice none 0 0, .slice none 0 0] 26) := ⟨_, rfl⟩
  have zb : wb.heap.size = w.heap.size + 1 := by rw [hwb]; simp
  have Bb : Below w.heap.size w wb := by rw [hwb]; exact (Below.refl _ _).alloc (Nat.le_refl _) _
  have hmb : ByS wb.heap.size wb a b := ((hm.mono hB).later Bb (Nat.le_refl _)).mono (by omega)
  have hbx : wb.heap[w.heap.size]? = some (.cells #[.slice none 0 0, .slice none 0 0, .slice none 0 0] 26 (0, 0)) := by rw [hwb]; exact heap_alloc_new w _
  have rbx : ∀ W5, Below wb.heap.size wb W5 → W5.heap[w.heap.size]? = some (.cells #[.slice none 0 0, .slice none 0 0, .slice none 0 0] 26 (0, 0)) := fun W5 q => (q.block _ (by omega)).trans hbx
  have RBX := hidT rbx
  have HZB := hidT zb
  have HBB := hidT Bb
  obtain ⟨W0, hW0⟩ : ∃ W, W = wb.alloc (.cells #[.slice a b.length c, .int .i64 0, .slice none 0 0, .slice none 0 0, .slice none 0 0, .int .i64 0] 56) := ⟨_, rfl⟩
  have B0 : Below wb.heap.size wb W0 := by rw [hW0]; exact (Below.refl _ _).alloc (Nat.le_refl _) _
  have z0 : W0.heap.size = wb.heap.size + 1 := by rw [hW0]; simp
  have B1 : Below W0.heap.size W0 (atBox W0) := (Below.refl _ _).alloc (Nat.le_refl _) _
  have hb : (atBox W0).heap[wb.heap.size]? = some (.cells (.slice a b.length c :: .int .i64 ((0 : Nat) : Int) :: [.slice none 0 0, .slice none 0 0, .slice none 0 0, .int .i64 0]).toArray 56 (0, 0)) := by
    rw [B1.block _ (by omega), hW0]
    exact heap_alloc_new wb _
  have nn : ∀ u : Value, Apt (.slice none 0 0) u := fun u j h => by cases h
  have hI : TrR (atBox W0) wb.heap.size a c b 0 (.slice none 0 0) (.slice none 0 0) (.slice none 0 0) 0 Tp.tr0 (atBox W0) :=
    ⟨⟨hb, (hmb.mono (Nat.le_refl _)).later (B0.trans (B1.mono (by omega))) (Nat.le_refl _), hy, hc, Nat.zero_le _, by omega⟩, World.ownsRow_nil _ _ _ _, World.ownsRow_nil _ _ _ _, World.ownsRow_nil _ _ _ _, nn _, nn _, nn _, gbR _ _, by simp [atBox]; omega⟩
  have HT := hidT (trTape_any (atBox W0) wb.heap.size a c b hI hl)
  have kfin : ∀ (w1 : World) (k : Nat) (tv cv ev : Value) (s : Int) (t : Tp.Tr) (x : Value), TrR (atBox W0) wb.heap.size a c b k tv cv ev s t w1 → Below wb.heap.size wb (w1.setCell ⟨W0.heap.size, 0, none⟩ x) ∧ (w1.setCell ⟨W0.heap.size, 0, none⟩ x).cell? ⟨wb.heap.size, 1, none⟩ = some (.int .i64 k) ∧ (w1.setCell ⟨W0.heap.size, 0, none⟩ x).cell? ⟨wb.heap.size, 5, none⟩ = some (.int .i64 s) ∧ ((w1.setCell ⟨W0.heap.size, 0, none⟩ x).cell? ⟨wb.heap.size, 2, none⟩ = some tv ∧ (w1.setCell ⟨W0.heap.size, 0, none⟩ x).cell? ⟨wb.heap.size, 3, none⟩ = some cv ∧ (w1.setCell ⟨W0.heap.size, 0, none⟩ x).cell? ⟨wb.heap.size, 4, none⟩ = some ev) ∧ (w1.setCell ⟨W0.heap.size, 0, none⟩ x).ownsRow wb.heap.size 62 4 tv t.ticks.length (tkC t.ticks) ∧ (w1.setCell ⟨W0.heap.size, 0, none⟩ x).ownsRow wb.heap.size 3 1 cv t.counts.length (nmC t.counts) ∧ (w1.setCell ⟨W0.heap.size, 0, none⟩ x).ownsRow wb.heap.size 69 2 ev t.events.length (evC t.events) := by
    intro w1 k tv cv ev s t x h1
    have e1 : (w1.setCell ⟨W0.heap.size, 0, none⟩ x).heap[wb.heap.size]? = w1.heap[wb.heap.size]? := heap_setCell_other _ _ _ _ (by simp; omega)
    have sz : (atBox W0).heap.size = W0.heap.size + 1 := by simp [atBox]
    obtain ⟨c2, c3, c4, c5⟩ := h1.cells
    refine ⟨?_, (World.cell?_of_block e1).trans h1.p.c1, (World.cell?_of_block e1).trans c5, ⟨(World.cell?_of_block e1).trans c2, (World.cell?_of_block e1).trans c3, (World.cell?_of_block e1).trans c4⟩, ?_, ?_, ?_⟩
    · refine (B0.trans (B1.mono (by omega))).trans ((gbB h1.bl (by omega)).trans ⟨rfl, rfl, rfl, by simp, fun i hi => heap_setCell_other _ _ i _ (by simp; omega)⟩)
    · have h2 := ownsRow_setCell_below h1.ot (a := ⟨W0.heap.size, 0, none⟩) (by simp; omega) x
      exact h2.mono (by omega)
    · have h2 := ownsRow_setCell_below h1.oc (a := ⟨W0.heap.size, 0, none⟩) (by simp; omega) x
      exact h2.mono (by omega)
    · have h2 := ownsRow_setCell_below h1.oe (a := ⟨W0.heap.size, 0, none⟩) (by simp; omega) x
      exact h2.mono (by omega)
  have KF := hidT kfin
  have hblk : ∀ w1 k tv cv ev s t, TrR (atBox W0) wb.heap.size a c b k tv cv ev s t w1 → w1.heap[W0.heap.size]? = (atBox W0).heap[W0.heap.size]? := fun w1 k tv cv ev s t h1 => h1.bl.block _ (by simp [atBox]) (by simp; omega)
  have HBK := hidT hblk
  obtain ⟨n, hn⟩ : ∃ n, n = b.length := ⟨_, rfl⟩
  have d : decide ((4194304 : Int) < (n : Int)) = false := decide_eq_false (by omega)
  have hmf : ∀ (fn : Fn) (first cap : Array Value) (w : World), (Instr.makeFunc fn first cap).run Try.prog w = .ok (.func fn first cap) w := fun _ _ _ _ => rfl
  rw [← hn] at hW0 hl hc ⊢
  have HY := hidT hy
  clear hI hb B1 B0 hblk kfin z0 hm hy hn nn hmb hbx rbx Bb zb
  cases hr : Tp.rtB b with
  | bad t s i x =>
    have hx := Tp.rtB_err b HY.out t s i x hr
    rw [hr] at HT
    have HA := hidT (attempt_bad x 30 (.pointer (some ⟨wb.heap.size, 0, none⟩)) W0 (fun w' => ∃ tv cv ev, TrR (atBox W0) wb.heap.size a c b i tv cv ev s t w') (fun _ => rfl) (fun w' ⟨tv, cv, ev, h⟩ => HBK.out _ _ _ _ _ _ _ h) HT.out)
    have qx : (x == 0) = false := by simpa using hx
    clear hr HT hx
    go_enter Try.func18, Try.ntmps18
    go_upto_region 2 with fail
    rw [← hwb, ← hW0, ← HZB.out]
    clear hW0 hwb
    go_wp2_with fail
    refine HA.out.mono ?_
    rintro e w' ⟨rfl, w1, ⟨tv, cv, ev, h1⟩, rfl⟩
    obtain ⟨f1, f2, f7, ⟨f3, g3, q3⟩, f4, f5, f6⟩ := KF.out w1 i tv cv ev s t (.int .i64 x) h1
    obtain ⟨W5, hW5⟩ : ∃ W, W = w1.setCell ⟨W0.heap.size, 0, none⟩ (.int .i64 x) := ⟨_, rfl⟩
    rw [← hW5] at f1 f2 f3 g3 q3 f4 f5 f6 f7 ⊢
    obtain ⟨va, vc, hv⟩ := ownShT f4
    subst hv
    obtain ⟨va2, vc2, hv⟩ := ownShT f5
    subst hv
    obtain ⟨va3, vc3, hv⟩ := ownShT f6
    subst hv
    have HF1 := hidT f1
    have xb := RBX.out _ HF1.out
    have hlt : w.heap.size < wb.heap.size := by rw [HZB.out]; omega
    have x0 : W5.cell? ⟨w.heap.size, 0, none⟩ = some (.slice none 0 0) := by simp [World.cell?, xb]
    have x1 : W5.cell? ⟨w.heap.size, 1, none⟩ = some (.slice none 0 0) := by simp [World.cell?, xb]
    have x2 : W5.cell? ⟨w.heap.size, 2, none⟩ = some (.slice none 0 0) := by simp [World.cell?, xb]
    have y0 : W5.frozen? ⟨w.heap.size, 0, none⟩ = false := by simp [World.frozen?, xb]
    have y1 : W5.frozen? ⟨w.heap.size, 1, none⟩ = false := by simp [World.frozen?, xb]
    have y2 : W5.frozen? ⟨w.heap.size, 2, none⟩ = false := by simp [World.frozen?, xb]
    obtain ⟨n1, hn1⟩ : ∃ n, n = t.ticks.length := ⟨_, rfl⟩
    obtain ⟨n2, hn2⟩ : ∃ n, n = t.counts.length := ⟨_, rfl⟩
    obtain ⟨n3, hn3⟩ : ∃ n, n = t.events.length := ⟨_, rfl⟩
    have FIN : Hid (TrE w W5 w.heap.size (.slice va n1 vc) (.slice va2 n2 vc2) (.slice va3 n3 vc3) t (((W5.setCell ⟨w.heap.size, 0, none⟩ (.slice va n1 vc)).setCell ⟨w.heap.size, 1, none⟩ (.slice va2 n2 vc2)).setCell ⟨w.heap.size, 2, none⟩ (.slice va3 n3 vc3))) := by
      rw [hn1, hn2, hn3]
      exact fin_box xb (Nat.le_refl _) (f4.mono hlt) (f5.mono hlt) (f6.mono hlt) (HBB.out.trans (HF1.out.mono HBB.out.size))
    have HLT2 : Hid (w.heap.size < (((W5.setCell ⟨w.heap.size, 0, none⟩ (.slice va n1 vc)).setCell ⟨w.heap.size, 1, none⟩ (.slice va2 n2 vc2)).setCell ⟨w.heap.size, 2, none⟩ (.slice va3 n3 vc3)).heap.size) := by have := HF1.out.size; unfold Hid; simp; omega
    rw [← hn1] at f3
    rw [← hn2] at g3
    rw [← hn3] at q3
    clear hW5 h1 f1 f4 f5 f6 xb hlt hn1 hn2 hn3
    have ne1 : ¬ w.heap.size = wb.heap.size := by have := HZB.out; omega
    have ne2 : ¬ wb.heap.size = w.heap.size := by have := HZB.out; omega
    go_upto_region 6 with fail
    go_cut [3, 4] from 17 to 21 (fun s3 s4 wx => s3 = .int .i64 s ∧ s4 = .int .i64 x ∧ Hid (TrE w W5 w.heap.size (.slice va n1 vc) (.slice va2 n2 vc2) (.slice va3 n3 vc3) t wx))
    case first =>
      go_region
      all_goals
        go_wp2_with fail
        go_meet
        exact ⟨rfl, rfl, FIN.out.later ⟨rfl, rfl, rfl, Nat.le_refl _, fun _ _ => rfl⟩ HLT2.out⟩
    case rest =>
      obtain ⟨rfl, rfl, HE⟩ := hcut
      clear FIN HLT2 x0 x1 x2 y0 y1 y2 f2 f3 g3 q3 f7
      obtain ⟨⟨z0, z1, z2⟩, o1, o2, o3, bF⟩ := HE.out
      go_wp2_with fail
      exact ⟨rfl, .tuple #[.agg #[.slice va n1 vc, .slice va2 n2 vc2, .slice va3 n3 vc3], .int .i64 s, .int .i64 x], by simp [results, Try.results18, go_sem, z0, z1, z2], _, _, _, rfl, o1, o2, o3, bF⟩
  | good t s j =>
    rw [hr] at HT
    have HA := hidT (attempt_ok 30 (.pointer (some ⟨wb.heap.size, 0, none⟩)) W0 (fun w' => ∃ k tv cv ev, TrR (atBox W0) wb.heap.size a c b k tv cv ev s t w') (fun _ => rfl) (fun w' ⟨k, tv, cv, ev, h⟩ => HBK.out _ _ _ _ _ _ _ h) HT.out)
    clear hr HT
    go_enter Try.func18, Try.ntmps18
    go_upto_region 2 with fail
    rw [← hwb, ← hW0, ← HZB.out]
    clear hW0 hwb
    go_wp2_with fail
    refine HA.out.mono ?_
    rintro e w' ⟨rfl, w1, ⟨k, tv, cv, ev, h1⟩, rfl⟩
    obtain ⟨f1, f2, f7, ⟨f3, g3, q3⟩, f4, f5, f6⟩ := KF.out w1 k tv cv ev s t (.int .i64 0) h1
    obtain ⟨W5, hW5⟩ : ∃ W, W = w1.setCell ⟨W0.heap.size, 0, none⟩ (.int .i64 0) := ⟨_, rfl⟩
    rw [← hW5] at f1 f2 f3 g3 q3 f4 f5 f6 f7 ⊢
    obtain ⟨va, vc, hv⟩ := ownShT f4
    subst hv
    obtain ⟨va2, vc2, hv⟩ := ownShT f5
    subst hv
    obtain ⟨va3, vc3, hv⟩ := ownShT f6
    subst hv
    have HF1 := hidT f1
    have xb := RBX.out _ HF1.out
    have hlt : w.heap.size < wb.heap.size := by rw [HZB.out]; omega
    have x0 : W5.cell? ⟨w.heap.size, 0, none⟩ = some (.slice none 0 0) := by simp [World.cell?, xb]
    have x1 : W5.cell? ⟨w.heap.size, 1, none⟩ = some (.slice none 0 0) := by simp [World.cell?, xb]
    have x2 : W5.cell? ⟨w.heap.size, 2, none⟩ = some (.slice none 0 0) := by simp [World.cell?, xb]
    have y0 : W5.frozen? ⟨w.heap.size, 0, none⟩ = false := by simp [World.frozen?, xb]
    have y1 : W5.frozen? ⟨w.heap.size, 1, none⟩ = false := by simp [World.frozen?, xb]
    have y2 : W5.frozen? ⟨w.heap.size, 2, none⟩ = false := by simp [World.frozen?, xb]
    obtain ⟨n1, hn1⟩ : ∃ n, n = t.ticks.length := ⟨_, rfl⟩
    obtain ⟨n2, hn2⟩ : ∃ n, n = t.counts.length := ⟨_, rfl⟩
    obtain ⟨n3, hn3⟩ : ∃ n, n = t.events.length := ⟨_, rfl⟩
    have FIN : Hid (TrE w W5 w.heap.size (.slice va n1 vc) (.slice va2 n2 vc2) (.slice va3 n3 vc3) t (((W5.setCell ⟨w.heap.size, 0, none⟩ (.slice va n1 vc)).setCell ⟨w.heap.size, 1, none⟩ (.slice va2 n2 vc2)).setCell ⟨w.heap.size, 2, none⟩ (.slice va3 n3 vc3))) := by
      rw [hn1, hn2, hn3]
      exact fin_box xb (Nat.le_refl _) (f4.mono hlt) (f5.mono hlt) (f6.mono hlt) (HBB.out.trans (HF1.out.mono HBB.out.size))
    have HLT2 : Hid (w.heap.size < (((W5.setCell ⟨w.heap.size, 0, none⟩ (.slice va n1 vc)).setCell ⟨w.heap.size, 1, none⟩ (.slice va2 n2 vc2)).setCell ⟨w.heap.size, 2, none⟩ (.slice va3 n3 vc3)).heap.size) := by have := HF1.out.size; unfold Hid; simp; omega
    rw [← hn1] at f3
    rw [← hn2] at g3
    rw [← hn3] at q3
    clear hW5 h1 f1 f4 f5 f6 xb hlt hn1 hn2 hn3
    have ne1 : ¬ w.heap.size = wb.heap.size := by have := HZB.out; omega
    have ne2 : ¬ wb.heap.size = w.heap.size := by have := HZB.out; omega
    obtain ⟨⟨z0, z1, z2⟩, o1, o2, o3, bF⟩ := FIN.out
    go_wp2_with fail
    generalize (((World.setCell W5 ⟨w.heap.size, 0, none⟩ (.slice va n1 vc)).setCell ⟨w.heap.size, 1, none⟩ (.slice va2 n2 vc2)).setCell ⟨w.heap.size, 2, none⟩ (.slice va3 n3 vc3)) = W6 at *
    exact ⟨rfl, .tuple #[.agg #[.slice va n1 vc, .slice va2 n2 vc2, .slice va3 n3 vc3], .int .i64 (n : Int), .int .i64 0], by simp [results, Try.results18, go_sem, z0, z1, z2], _, _, _, rfl, o1, o2, o3, bF⟩
end Go.Proofs.Ytneefpblfiedbaa

namespace Go.Proofs.Ytneefpblfiedbaa.Tp
open Go.RowKit
set_option linter.unusedVariables false
set_option linter.unusedSimpArgs false
/-- The beginning of a trace. -/
def cutV (t : Tr) (j e : Nat) : Tr := ⟨t.ticks.take j, t.counts.take j, t.events.take e⟩
def recV (t : Tr) (j e : Nat) : List Int := recs (t.events.take e) (t.ticks.take j) (t.counts.take j) 0
/-- The bytes of one record. -/
def IsRec (R : List Int) : Prop := (∃ e, okE e = true ∧ (-9223372036854775808 ≤ e.n ∧ e.n ≤ 9223372036854775807) ∧ R = evB e) ∨ (∃ x, okT x = true ∧ R = tkB x)
theorem step_rec {R : List Int} (h : IsRec R) (b : List Int) (k : Nat) (t : Tr) (r : List Int) (hd : b.drop k = R ++ r) : ∃ t', step b k t = .more t' (k + R.length) := by
  rcases h with ⟨e, h1, h2, rfl⟩ | ⟨x, h1, rfl⟩
  · exact ⟨_, step_ev b k t e r h1 h2 hd⟩
  · exact ⟨_, step_tk b k t x r h1 hd⟩
theorem rec_head {R : List Int} (h : IsRec R) : ∃ c r, R = c :: r ∧ c ≠ 0 := by
  rcases h with ⟨e, h1, h2, rfl⟩ | ⟨x, h1, rfl⟩
  · simp only [okE, bet, Bool.and_eq_true, decide_eq_true_eq] at h1
    exact ⟨_, _, rfl, by omega⟩
  · simp only [okT, bet, Bool.and_eq_true, decide_eq_true_eq] at h1
    exact ⟨_, _, rfl, by omega⟩
/-- A record that does not stand whole. -/
theorem step_cut {R : List Int} (hR : IsRec R) (b : List Int) (hb : Byt b) (k n : Nat) (t : Tr) (hn : n < R.length) (hk : k ≤ b.length) (h : b.drop k = R.take n) : ∃ j e, step b k t = .bad j e := by
  cases hs : step b k t with
  | bad j e => exact ⟨j, e, rfl⟩
  | fin j =>
    have h0 := (step_fin b k t j hs).2
    obtain ⟨c, r, hc, hne⟩ := rec_head hR
    have h1 := drop_cons h0
    rw [h, hc] at h1
    cases n with
    | zero => simp at h1
    | succ n => rw [List.take_succ_cons] at h1; injection h1 with h2 _; exact absurd h2 hne
  | more t' j =>
    exfalso
    obtain ⟨R', hR', hd⟩ : ∃ R', IsRec R' ∧ b.drop k = R' ++ b.drop j := by
      rcases step_back b hb k t t' j hs with ⟨e, h1, h2, _, h3⟩ | ⟨x, h1, _, h3⟩
      · exact ⟨_, .inl ⟨e, h1, h2, rfl⟩, h3⟩
      · exact ⟨_, .inr ⟨x, h1, rfl⟩, h3⟩
    have e1 : R = R' ++ (b.drop j ++ R.drop n) := by rw [← List.append_assoc, ← hd, h, List.take_append_drop]
    have hl : R'.length ≤ n := by
      have := congrArg List.length (hd.symm.trans h)
      rw [List.length_append, List.length_take] at this
      omega
    have d2 : (b.take k ++ R).drop k = R := (show ∀ P : List Int, P.length = k → (P ++ R).drop k = R from fun P hP => by subst hP; exact List.drop_left) _ (by rw [List.length_take]; omega)
    obtain ⟨t1, s1⟩ := step_rec hR (b.take k ++ R) k t [] (by rw [d2, List.append_nil])
    obtain ⟨t2, s2⟩ := step_rec hR' (b.take k ++ R) k t (b.drop j ++ R.drop n) (by rw [d2]; exact e1)
    rw [s1] at s2
    injection s2 with _ s3
    omega
theorem rightV_tk {t : Tr} {j e : Nat} {x : Tk} (h : rightT (cutV t j e) = true) (hx : t.ticks[j]? = some x) (hc : t.counts[j]? = some (e : Int)) (hok : okT x = true) (he : e ≤ t.events.length) : rightT (cutV t (j + 1) e) = true ∧ recV t (j + 1) e = recV t j e ++ tkB x := by
  unfold rightT cutV at *
  simp only [Bool.and_eq_true, decide_eq_true_eq] at h ⊢
  obtain ⟨h1, h2, h3, h4⟩ := h
  have hel : (t.events.take e).length = e := by rw [List.length_take]; omega
  have t1 : t.ticks.take (j + 1) = t.ticks.take j ++ [x] := by rw [List.take_add_one, hx]; rfl
  have t2 : t.counts.take (j + 1) = t.counts.take j ++ [(e : Int)] := by rw [List.take_add_one, hc]; rfl
  rw [hel] at h2
  refine ⟨⟨?_, ?_, ?_, h4⟩, ?_⟩
  · rw [t1, t2, List.length_append, List.length_append, h1]; rfl
  · rw [t2, hel]; exact okC_add _ _ _ (by omega) h2
  · rw [t1, List.all_append, h3]; simp [hok]
  · unfold recV
    rw [t1, t2]
    have := recs_tk (t.events.take e) x (t.ticks.take j) (t.counts.take j) 0 h1 (Nat.zero_le _) (by rw [hel]; exact h2)
    rw [hel] at this
    exact this
theorem rightV_ev {t : Tr} {j e : Nat} {y : Ev} (h : rightT (cutV t j e) = true) (hy : t.events[e]? = some y) (hok : okE y = true) : rightT (cutV t j (e + 1)) = true ∧ recV t j (e + 1) = recV t j e ++ evB y := by
  unfold rightT cutV at *
  simp only [Bool.and_eq_true, decide_eq_true_eq] at h ⊢
  obtain ⟨h1, h2, h3, h4⟩ := h
  have he : e < t.events.length := (List.getElem?_eq_some_iff.1 hy).1
  have hel : (t.events.take e).length = e := by rw [List.length_take]; omega
  have hel2 : (t.events.take (e + 1)).length = e + 1 := by rw [List.length_take]; omega
  have t1 : t.events.take (e + 1) = t.events.take e ++ [y] := by rw [List.take_add_one, hy]; rfl
  rw [hel] at h2
  refine ⟨⟨h1, ?_, h3, ?_⟩, ?_⟩
  · rw [hel2]; exact okC_up _ _ _ h2
  · rw [t1, List.all_append, h4]; simp [hok]
  · unfold recV
    rw [t1]
    exact recs_ev (t.events.take e) y (t.ticks.take j) (t.counts.take j) 0 h1 (Nat.zero_le _) (by rw [hel]; exact h2)
/-- What is known of a trace that is read of a tape that was cut off at k. -/
structure CutR (t : Tr) (k j e s : Nat) : Prop where
  lj : j ≤ t.ticks.length
  le : e ≤ t.events.length
  rt : rightT (cutV t j e) = true
  se : s = 5 + (recV t j e).length
  sk : s ≤ k
  tk : (wt t).take s = head 2 ++ recV t j e
  n1 : ∀ c, t.counts[j]? = some c → c ≤ (e : Int) → rightT (cutV t (j + 1) e) = true ∧ k < 5 + (recV t (j + 1) e).length
  n2 : (∀ c, t.counts[j]? = some c → (e : Int) < c) → rightT (cutV t j (min t.events.length (e + 1))) = true ∧ (5 + (recV t j (min t.events.length (e + 1))).length = s ∨ k < 5 + (recV t j (min t.events.length (e + 1))).length)
theorem take_drop_le {b P Q : List Int} {k s : Nat} (h : b = P ++ Q) (hs : s = P.length) (hk : s ≤ k) : (b.take k).drop s = Q.take (k - s) := by
  subst hs
  rw [h, List.take_append, List.drop_append, List.drop_eq_nil_of_le (by rw [List.length_take]; omega), List.nil_append, List.take_of_length_le (Nat.le_of_lt_succ (Nat.lt_succ_of_le hk)), Nat.sub_self, List.drop_zero]
theorem drop_consE {α : Type} {b : List α} {k : Nat} {c : α} (h : b[k]? = some c) : b.drop k = c :: b.drop (k + 1) := by
  obtain ⟨hk, rfl⟩ := List.getElem?_eq_some_iff.1 h
  exact List.drop_eq_getElem_cons hk
theorem cut_rds (t : Tr) (hr : rightT t = true) (hn : ∀ e ∈ t.events, -9223372036854775808 ≤ e.n ∧ e.n ≤ 9223372036854775807) (hb : Byt (wt t)) (k : Nat) (hk : k < (wt t).length) : ∀ (j e f : Nat), j ≤ t.ticks.length → e ≤ t.events.length → k < 5 + (recV t j e).length + f →
    rightT (cutV t j e) = true → okC t.events.length e (t.counts.drop j) = true → wt t = (head 2 ++ recV t j e) ++ (recs t.events (t.ticks.drop j) (t.counts.drop j) e ++ (0 :: sl4 (sum (bodyT t)))) → 5 + (recV t j e).length ≤ k →
    ∃ j' e' s, CutR t k j' e' s ∧ ((∃ i x, rds ((wt t).take k) f (5 + (recV t j e).length) (cutV t j e) = .bad (cutV t j' e') s i x) ∨ (s + 5 = (wt t).length ∧ rds ((wt t).take k) f (5 + (recV t j e).length) (cutV t j e) = .good (cutV t j' e') s (s + 1)))
  | j, e, 0, hj, he, hf, hR, ho, hw, hp => by omega
  | j, e, f + 1, hj, he, hf, hR, ho, hw, hp => by
    have hr' := hr
    simp only [rightT, Bool.and_eq_true, decide_eq_true_eq, List.all_eq_true] at hr'
    obtain ⟨h1, h2, h3, h4⟩ := hr'
    have hbt : Byt ((wt t).take k) := hb.take k
    have hPl : (head 2 ++ recV t j e).length = 5 + (recV t j e).length := by rw [List.length_append]; rfl
    have hkl : ((wt t).take k).length = k := by rw [List.length_take]; omega
    have hcl : (cutV t j e).events.length = e := by unfold cutV; rw [List.length_take]; omega
    have htk : (wt t).take (5 + (recV t j e).length) = head 2 ++ recV t j e := by
      rw [hw, ← hPl, List.take_append_of_le_length (Nat.le_refl _), List.take_length]
    have KEY : ∀ (R : List Int) (j2 e2 : Nat), IsRec R → rightT (cutV t j2 e2) = true → recV t j2 e2 = recV t j e ++ R → j2 ≤ t.ticks.length → e2 ≤ t.events.length → okC t.events.length e2 (t.counts.drop j2) = true →
        recs t.events (t.ticks.drop j) (t.counts.drop j) e = R ++ recs t.events (t.ticks.drop j2) (t.counts.drop j2) e2 → (∀ (b : List Int) (k0 : Nat) (r : List Int), b.drop k0 = R ++ r → step b k0 (cutV t j e) = .more (cutV t j2 e2) (k0 + R.length)) →
        (k < 5 + (recV t j2 e2).length → (∀ c, t.counts[j]? = some c → c ≤ (e : Int) → rightT (cutV t (j + 1) e) = true ∧ k < 5 + (recV t (j + 1) e).length) ∧ ((∀ c, t.counts[j]? = some c → (e : Int) < c) → rightT (cutV t j (min t.events.length (e + 1))) = true ∧ (5 + (recV t j (min t.events.length (e + 1))).length = 5 + (recV t j e).length ∨ k < 5 + (recV t j (min t.events.length (e + 1))).length))) →
        ∃ j' e' s, CutR t k j' e' s ∧ ((∃ i x, rds ((wt t).take k) (f + 1) (5 + (recV t j e).length) (cutV t j e) = .bad (cutV t j' e') s i x) ∨ (s + 5 = (wt t).length ∧ rds ((wt t).take k) (f + 1) (5 + (recV t j e).length) (cutV t j e) = .good (cutV t j' e') s (s + 1))) := by
      intro R j2 e2 hRr hR2 hrc hj2 he2 ho2 hT hst hnx
      have hdr := take_drop_le hw hPl.symm hp
      rw [hT, List.append_assoc] at hdr
      by_cases hwh : 5 + (recV t j e).length + R.length ≤ k
      · rw [List.take_append, List.take_of_length_le (show R.length ≤ k - (5 + (recV t j e).length) by omega)] at hdr
        have hs := hst _ _ _ hdr
        have hpos : 5 + (recV t j2 e2).length = 5 + (recV t j e).length + R.length := by rw [hrc, List.length_append]; omega
        have hw2 : wt t = (head 2 ++ recV t j2 e2) ++ (recs t.events (t.ticks.drop j2) (t.counts.drop j2) e2 ++ (0 :: sl4 (sum (bodyT t)))) := by
          rw [hrc]
          conv => lhs; rw [hw, hT]
          simp only [List.append_assoc]
        have hRp : 0 < R.length := by obtain ⟨c, r, hcr, _⟩ := rec_head hRr; rw [hcr]; simp
        have ih := cut_rds t hr hn hb k hk j2 e2 f hj2 he2 (by omega) hR2 ho2 hw2 (by omega)
        rw [hpos] at ih
        rw [rds, hs]
        exact ih
      · rw [List.take_append_of_le_length (show k - (5 + (recV t j e).length) ≤ R.length by omega)] at hdr
        obtain ⟨i, x, hs⟩ := step_cut hRr _ hbt _ _ (cutV t j e) (by omega) (by rw [hkl]; exact hp) hdr
        obtain ⟨a1, a2⟩ := hnx (by rw [hrc, List.length_append]; omega)
        refine ⟨j, e, 5 + (recV t j e).length, ⟨hj, he, hR, rfl, hp, htk, a1, a2⟩, .inl ⟨i, x, ?_⟩⟩
        rw [rds, hs]
    have EVT : ∀ y, t.events[e]? = some y → (∀ c, t.counts[j]? = some c → (e : Int) < c) → okC t.events.length (e + 1 : Nat) (t.counts.drop j) = true → recs t.events (t.ticks.drop j) (t.counts.drop j) e = evB y ++ recs t.events (t.ticks.drop j) (t.counts.drop j) (e + 1) →
        ∃ j' e' s, CutR t k j' e' s ∧ ((∃ i x, rds ((wt t).take k) (f + 1) (5 + (recV t j e).length) (cutV t j e) = .bad (cutV t j' e') s i x) ∨ (s + 5 = (wt t).length ∧ rds ((wt t).take k) (f + 1) (5 + (recV t j e).length) (cutV t j e) = .good (cutV t j' e') s (s + 1))) := by
      intro y hy hlt hoc hT
      have hel : e < t.events.length := (List.getElem?_eq_some_iff.1 hy).1
      have hok := h4 y (List.mem_of_getElem? hy)
      have hny := hn y (List.mem_of_getElem? hy)
      obtain ⟨g1, g2⟩ := rightV_ev hR hy hok
      have hmin : min t.events.length (e + 1) = e + 1 := by omega
      refine KEY (evB y) j (e + 1) (.inl ⟨y, hok, hny, rfl⟩) g1 g2 hj (by omega) hoc hT (fun b k0 r h => ?_) (fun hlk => ⟨fun c hc hle => ?_, fun _ => ?_⟩)
      · rw [step_ev b k0 _ y r hok hny h]
        unfold cutV
        rw [List.take_add_one, hy]
        rfl
      · have := hlt c hc
        omega
      · rw [hmin]
        exact ⟨g1, .inr hlk⟩
    cases hc : t.counts[j]? with
    | none =>
      have hjn : t.ticks.length ≤ j := by rw [← h1]; exact List.getElem?_eq_none_iff.1 hc
      have hd1 : t.ticks.drop j = [] := List.drop_eq_nil_of_le hjn
      have hd2 : t.counts.drop j = [] := List.drop_eq_nil_of_le (by rw [h1]; exact hjn)
      cases hy : t.events[e]? with
      | some y =>
        refine EVT y hy (fun c h => by rw [hc] at h; cases h) (by rw [hd2]; rfl) ?_
        rw [hd1, hd2]
        simp only [recs]
        rw [drop_consE hy]
        simp [evs]
      | none =>
        have hen : t.events.length ≤ e := List.getElem?_eq_none_iff.1 hy
        have hee : e = t.events.length := by omega
        have hT : recs t.events (t.ticks.drop j) (t.counts.drop j) e = [] := by
          rw [hd1, hd2]
          simp only [recs]
          rw [List.drop_eq_nil_of_le hen]
          rfl
        rw [hT, List.nil_append] at hw
        have hwl : (wt t).length = 5 + (recV t j e).length + 5 := by
          have := congrArg List.length hw
          rw [List.length_append, hPl] at this
          simpa [sl4] using this
        have CR : CutR t k j e (5 + (recV t j e).length) := by
          refine ⟨hj, he, hR, rfl, hp, htk, fun c h => (by rw [hc] at h; cases h), fun _ => ?_⟩
          rw [show min t.events.length (e + 1) = e by omega]
          exact ⟨hR, .inl rfl⟩
        have hdr := take_drop_le hw hPl.symm hp
        by_cases hpk : 5 + (recV t j e).length = k
        · refine ⟨j, e, _, CR, .inl ⟨5 + (recV t j e).length, 112, ?_⟩⟩
          rw [rds]
          simp only [step, List.getElem?_eq_none (show ((wt t).take k).length ≤ 5 + (recV t j e).length by rw [hkl]; omega)]
        · obtain ⟨n, hnn⟩ : ∃ n, k - (5 + (recV t j e).length) = n + 1 := ⟨k - (5 + (recV t j e).length) - 1, by omega⟩
          rw [hnn, List.take_succ_cons] at hdr
          have h0 := (get_drop hdr).1
          refine ⟨j, e, _, CR, .inr ⟨by omega, ?_⟩⟩
          rw [rds]
          simp only [step, h0]
          rfl
    | some c =>
      have hjc : j < t.counts.length := (List.getElem?_eq_some_iff.1 hc).1
      have hjt : j < t.ticks.length := by omega
      obtain ⟨x, hx⟩ : ∃ x, t.ticks[j]? = some x := ⟨_, List.getElem?_eq_getElem hjt⟩
      have hd1 : t.ticks.drop j = x :: t.ticks.drop (j + 1) := drop_consE hx
      have hd2 : t.counts.drop j = c :: t.counts.drop (j + 1) := drop_consE hc
      have hox := h3 x (List.mem_of_getElem? hx)
      have ho' := ho
      rw [hd2, okC] at ho'
      split at ho'
      · cases ho'
      · rename_i hcc
        obtain ⟨n, rfl⟩ : ∃ n : Nat, c = n := ⟨c.toNat, by omega⟩
        by_cases hce : n = e
        · subst hce
          obtain ⟨g1, g2⟩ := rightV_tk hR hx hc hox he
          refine KEY (tkB x) (j + 1) n (.inr ⟨x, hox, rfl⟩) g1 g2 (by omega) he ho' ?_ (fun b k0 r h => ?_) (fun hlk => ⟨fun c h hle => ⟨g1, hlk⟩, fun hall => ?_⟩)
          · rw [hd1, hd2]
            simp [recs, evs]
          · rw [step_tk b k0 _ x r hox h, hcl]
            unfold cutV
            rw [List.take_add_one, hx, List.take_add_one, hc]
            rfl
          · have := hall _ hc
            omega
        · have hen : e < n := by omega
          obtain ⟨y, hy⟩ : ∃ y, t.events[e]? = some y := ⟨_, List.getElem?_eq_getElem (by omega)⟩
          refine EVT y hy (fun c h => by rw [hc] at h; cases h; omega) ?_ ?_
          · rw [hd2, okC, if_neg (by omega)]
            exact ho'
          · rw [hd1, hd2]
            simp only [recs, Int.toNat_natCast]
            rw [drop_consE hy, show n - e = (n - (e + 1)) + 1 by omega, List.take_succ_cons]
            simp [evs]
termination_by _ _ f => f
theorem cut_rt (t : Tr) (hr : rightT t = true) (hn : ∀ e ∈ t.events, -9223372036854775808 ≤ e.n ∧ e.n ≤ 9223372036854775807) (hb : Byt (wt t)) (k : Nat) (hk : k < (wt t).length) :
    ∃ j e s i x, rtB ((wt t).take k) = .bad (cutV t j e) s i x ∧ ((k < 5 ∧ j = 0 ∧ e = 0 ∧ s = 0) ∨ (5 ≤ k ∧ CutR t k j e s)) := by
  have hkl : ((wt t).take k).length = k := by rw [List.length_take]; omega
  by_cases h5 : k < 5
  · cases hh : hd 0 (head 2) ((wt t).take k) with
    | none =>
      have := hd_none_len _ _ _ hh
      rw [hkl] at this
      have h2 : (head 2).length = 5 := rfl
      omega
    | some p =>
      refine ⟨0, 0, 0, p.1, p.2, ?_, .inl ⟨h5, rfl, rfl, rfl⟩⟩
      unfold rtB
      rw [hh]
      rfl
  · have hr' := hr
    simp only [rightT, Bool.and_eq_true, decide_eq_true_eq, List.all_eq_true] at hr'
    obtain ⟨h1, h2, h3, h4⟩ := hr'
    have e0 : wt t = head 2 ++ (recs t.events t.ticks t.counts 0 ++ (0 :: sl4 (sum (bodyT t)))) := by simp [wt, bodyT, List.append_assoc]
    have hh : hd 0 (head 2) ((wt t).take k) = none := by
      rw [e0, List.take_append, List.take_of_length_le (show (head 2).length ≤ k by show 5 ≤ k; omega)]
      exact hd_app _ _ _
    have hR0 : rightT (cutV t 0 0) = true := by simp [rightT, cutV, okC]
    obtain ⟨j, e, s, hC, hx⟩ := cut_rds t hr hn hb k hk 0 0 k (Nat.zero_le _) (Nat.zero_le _) (by omega) hR0 (by simpa using h2) (by rw [e0]; simp [recV, recs, evs]) (by simp [recV, recs, evs]; omega)
    have hp0 : 5 + (recV t 0 0).length = 5 := by simp [recV, recs, evs]
    rw [hp0] at hx
    have hv0 : cutV t 0 0 = tr0 := rfl
    rw [hv0] at hx
    rcases hx with ⟨i, x, hx⟩ | ⟨hs, hx⟩
    · refine ⟨j, e, s, i, x, ?_, .inr ⟨by omega, hC⟩⟩
      unfold rtB
      rw [hh]
      dsimp only
      rw [hkl, hx]
    · cases he : ends ((wt t).take k) (s + 1) with
      | none =>
        have := (ends_ok _ _ he).1
        rw [hkl] at this
        omega
      | some q =>
        refine ⟨j, e, s, q.1, q.2, ?_, .inr ⟨by omega, hC⟩⟩
        unfold rtB
        rw [hh]
        dsimp only
        rw [hkl, hx]
        dsimp only
        rw [he]
end Go.Proofs.Ytneefpblfiedbaa.Tp
