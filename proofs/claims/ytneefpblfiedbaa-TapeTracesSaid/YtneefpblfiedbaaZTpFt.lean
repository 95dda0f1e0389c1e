/- Layer 13: the document's reading of a whole tape. -/
/- Layer 13: the document's ReadTrace; what TapeTraces wants of each call. -/
/- Layer 13: TapeTraces. -/
/- Layer 13: arguments that are bytes and numbers: what their readings give. -/
/- Layer 13: an argument that is a trace: what its reading gives. -/
import Derived.Test.YtneefpblfiedbaaZTuJ
import Derived.Test.YtneefpblfiedbaaZTtW
import Derived.Test.YtneefpblfiedbaaZTuD
import Derived.Test.YtneefpblfiedbaaZTpF
import Derived.ProofKit
import Derived.OpenShut
import Derived.ChangeOld
import Derived.Below
import Derived.Lay
import Derived.SizedLaws
import Derived.Test.YtneefpblfiedbaaZTtT
namespace Go.Proofs.Ytneefpblfiedbaa
open Go.RowKit
set_option linter.unusedVariables false
set_option linter.unusedSimpArgs false
def boQ (w : World) (e : Ending) (w' : World) (n : Nat) : Tp.TRes → Prop
  | .good t _ _ => AlR w e w' t n 0 0
  | .bad t s i x => AlR w e w' t s i x
structure BoS (w : World) (M Q : Nat) (tv cv ev : Value) (t : Tp.Tr) (wr : World) : Prop where
  hr : wr.heap[M]? = some (.cells #[.slice none 0 0, .slice none 0 0, .slice none 0 0] 26 (0, 0))
  hb : wr.heap[Q]? = some (.cells #[tv, cv, ev] 26 (0, 0))
  ot : wr.ownsRow (M + 1) 62 4 tv t.ticks.length (tkC t.ticks)
  oc : wr.ownsRow (M + 1) 3 1 cv t.counts.length (nmC t.counts)
  oe : wr.ownsRow (M + 1) 69 2 ev t.events.length (evC t.events)
  bl : Below w.heap.size w wr
  lo : w.heap.size ≤ M
  lt : M < Q
section
variable {w wr wq : World} {M Q : Nat} {tv cv ev : Value} {t : Tp.Tr}
theorem BoS.sz (h : BoS w M Q tv cv ev t wr) : Q < wr.heap.size := (Array.getElem?_eq_some_iff.1 h.hb).1
theorem BoS.later (h : BoS w M Q tv cv ev t wr) (q : Below wr.heap.size wr wq) : BoS w M Q tv cv ev t wq :=
  ⟨(q.block _ (by have := h.sz; have := h.lt; omega)).trans h.hr, (q.block _ h.sz).trans h.hb, ownLtT h.ot q, ownLtT h.oc q, ownLtT h.oe q, h.bl.trans (q.mono h.bl.size), h.lo, h.lt⟩
theorem BoS.cells (h : BoS w M Q tv cv ev t wr) : wr.cell? ⟨Q, 0, none⟩ = some tv ∧ wr.cell? ⟨Q, 1, none⟩ = some cv ∧ wr.cell? ⟨Q, 2, none⟩ = some ev := by
  refine ⟨?_, ?_, ?_⟩ <;> simp [World.cell?, h.hb]
theorem BoS.resc (h : BoS w M Q tv cv ev t wr) : wr.cell? ⟨M, 0, none⟩ = some (.slice none 0 0) ∧ wr.cell? ⟨M, 1, none⟩ = some (.slice none 0 0) ∧ wr.cell? ⟨M, 2, none⟩ = some (.slice none 0 0) := by
  refine ⟨?_, ?_, ?_⟩ <;> simp [World.cell?, h.hr]
theorem BoS.fz (h : BoS w M Q tv cv ev t wr) (i : Nat) : wr.frozen? ⟨M, i, none⟩ = false := by simp [World.frozen?, h.hr]
end
theorem fin_box {w wr : World} {M : Nat} {tv cv ev : Value} {t : Tp.Tr} (hr : wr.heap[M]? = some (.cells #[.slice none 0 0, .slice none 0 0, .slice none 0 0] 26 (0, 0))) (lo : w.heap.size ≤ M)
    (ot : wr.ownsRow (M + 1) 62 4 tv t.ticks.length (tkC t.ticks)) (oc : wr.ownsRow (M + 1) 3 1 cv t.counts.length (nmC t.counts)) (oe : wr.ownsRow (M + 1) 69 2 ev t.events.length (evC t.events)) (bl : Below w.heap.size w wr) :
    TrE w wr M tv cv ev t (((wr.setCell ⟨M, 0, none⟩ tv).setCell ⟨M, 1, none⟩ cv).setCell ⟨M, 2, none⟩ ev) := by
  have hs : M < wr.heap.size := (Array.getElem?_eq_some_iff.1 hr).1
  have hx1 := heap_setCell_same _ M 0 _ _ tv hr
  have hx2 := heap_setCell_same _ M 1 _ _ cv hx1
  have hx3 := heap_setCell_same _ M 2 _ _ ev hx2
  have sg : ∀ (W : World) (i : Nat) (x : Value), W.grownBy (W.setCell ⟨M, i, none⟩ x) (some M) := fun W i x => ⟨rfl, rfl, rfl, by simp, fun j _ hn => heap_setCell_other _ _ j _ (by intro e; exact hn (by rw [e]))⟩
  have gb := gbT (gbT (sg wr 0 tv) (sg _ 1 cv)) (sg _ 2 ev)
  refine ⟨⟨?_, ?_, ?_⟩, (own_gb ot gb (by omega)).mono (by omega), (own_gb oc gb (by omega)).mono (by omega), (own_gb oe gb (by omega)).mono (by omega), bl.trans ((gbB gb (by omega)).mono lo)⟩ <;> simp [World.cell?, hx3]
theorem BoS.fin {w wr : World} {M Q : Nat} {tv cv ev : Value} {t : Tp.Tr} (h : BoS w M Q tv cv ev t wr) : TrE w wr M tv cv ev t (((wr.setCell ⟨M, 0, none⟩ tv).setCell ⟨M, 1, none⟩ cv).setCell ⟨M, 2, none⟩ ev) := fin_box h.hr h.lo h.ot h.oc h.oe h.bl
theorem bos_of {w w1 w2 : World} {M : Nat} {tv cv ev : Value} {t : Tp.Tr} (hx : w1.heap[M]? = some (.cells #[.slice none 0 0, .slice none 0 0, .slice none 0 0] 26 (0, 0))) (hM : w.heap.size = M) (hs : M + 1 ≤ w1.heap.size) (k1 : Below w.heap.size w w1)
    (o1 : w2.ownsRow w1.heap.size 62 4 tv t.ticks.length (tkC t.ticks)) (o2 : w2.ownsRow w1.heap.size 3 1 cv t.counts.length (nmC t.counts)) (o3 : w2.ownsRow w1.heap.size 69 2 ev t.events.length (evC t.events)) (k2 : Below w1.heap.size w1 w2) :
    BoS w M w2.heap.size tv cv ev t (w2.alloc (.cells #[tv, cv, ev] 26)) := by
  have q : Below w2.heap.size w2 (w2.alloc (.cells #[tv, cv, ev] 26)) := (Below.refl _ _).alloc (Nat.le_refl _) _
  have h2 := k2.size
  exact ⟨(q.block M (by omega)).trans ((k2.block M (by omega)).trans hx), heap_alloc_new w2 _, ownLtT (o1.mono hs) q, ownLtT (o2.mono hs) q, ownLtT (o3.mono hs) q, k1.trans ((k2.mono k1.size).trans (q.mono (Nat.le_trans k1.size h2))), Nat.le_of_eq hM, by omega⟩
theorem Tp.rds_good (b : List Int) : ∀ (f k : Nat) (t t' : Tp.Tr) (s j : Nat), Tp.rds b f k t = .good t' s j → j = s + 1 ∧ s < b.length
  | 0, k, t, t', s, j, h => by cases h
  | f + 1, k, t, t', s, j, h => by
    rw [Tp.rds] at h
    cases hs : Tp.step b k t with
    | fin i =>
      rw [hs] at h
      cases h
      have := Tp.step_fin b _ _ _ hs
      exact ⟨this.1, (List.getElem?_eq_some_iff.1 this.2).1⟩
    | bad i x => rw [hs] at h; cases h
    | more u i => rw [hs] at h; exact Tp.rds_good b f i u t' s j h
set_option maxRecDepth 100000 in
set_option maxHeartbeats 4000000 in
theorem rBoth_any (b : List Int) (a : Option Addr) (c : Nat) (w : World) (hy : Tp.Byt b) (hm : ByS w.heap.size w a b) (hc : b.length ≤ c) (hl : b.length ≤ 1000000) :
    Calls Try.prog 31 #[.slice a b.length c] w fun e w' => boQ w e w' b.length (Tp.rtB b) := by
  have HB := hidT (fun (W : World) (q : Below w.heap.size w W) => rBegins_any b a c 2 W ((hm.later q (Nat.le_refl _)).mono q.size) (by omega))
  have HAl := hidT (fun (h5 : 5 ≤ b.length) (W : World) (q : Below w.heap.size w W) => rAll_any b a c W hy ((hm.later q (Nat.le_refl _)).mono q.size) hc hl h5)
  have HE := hidT (fun (W : World) (k : Nat) (q : Below w.heap.size w W) (hk : k ≤ b.length) => rEnds_any b a c k W ((hm.later q (Nat.le_refl _)).mono q.size) hy hc hk (by omega))
  have HY := hidT hy
  obtain ⟨n0, hn⟩ : ∃ n, n = b.length := ⟨_, rfl⟩
  have HN := hidT hn
  obtain ⟨post, hpost⟩ : ∃ p, p = Tp.rtB b := ⟨_, rfl⟩
  have HP := hidT hpost
  rw [← hpost]
  rw [← hn] at HB HAl HE hl ⊢
  obtain ⟨M, hM⟩ : ∃ M, M = w.heap.size := ⟨_, rfl⟩
  have HMM := hidT hM
  obtain ⟨W0, hW0⟩ : ∃ W, W = w.alloc (.cells #[.slice none 0 0, .slice none 0 0, .slice none 0 0] 26) := ⟨_, rfl⟩
  have K0 : Hid (Below w.heap.size w W0) := by rw [hW0]; exact (Below.refl _ _).alloc (Nat.le_refl _) _
  have X0 : Hid (W0.heap[M]? = some (.cells #[.slice none 0 0, .slice none 0 0, .slice none 0 0] 26 (0, 0)) ∧ W0.heap.size = M + 1) := by rw [hW0, hM]; exact ⟨heap_alloc_new w _, by simp⟩
  have HB0 := hidT (HB.out W0 K0.out)
  clear hm hy hc hn hpost HB
  cases hh : Tp.hd 0 (Tp.head 2) b with
  | some p =>
    obtain ⟨i, x⟩ := p
    have hx := Tp.hd_err _ _ _ _ _ hh
    have qx : (x == 0) = false := by simpa using hx
    have HP2 : Hid (post = .bad Tp.tr0 0 i x) := by unfold Hid; rw [HP.out]; unfold Tp.rtB; rw [hh]
    rw [hh] at HB0
    dsimp only [opV] at HB0
    clear hh hx
    go_enter Try.func31, Try.ntmps31
    go_upto_region 1 with fail
    rw [← hW0, ← hM]
    clear hW0 hM
    go_wp2_with fail
    refine HB0.out.mono ?_
    rintro e w1 ⟨rfl, k1⟩
    have X1 : Hid (w1.heap[M]? = some (.cells #[.slice none 0 0, .slice none 0 0, .slice none 0 0] 26 (0, 0))) := (k1.block M (by have := X0.out.2; omega)).trans X0.out.1
    have K1 := hidT (K0.out.trans (k1.mono K0.out.size))
    clear k1
    have u0 : w1.cell? ⟨M, 0, none⟩ = some (.slice none 0 0) := by simp [World.cell?, X1.out]
    have u1 : w1.cell? ⟨M, 1, none⟩ = some (.slice none 0 0) := by simp [World.cell?, X1.out]
    have u2 : w1.cell? ⟨M, 2, none⟩ = some (.slice none 0 0) := by simp [World.cell?, X1.out]
    have y0 : w1.frozen? ⟨M, 0, none⟩ = false := by simp [World.frozen?, X1.out]
    have y1 : w1.frozen? ⟨M, 1, none⟩ = false := by simp [World.frozen?, X1.out]
    have y2 : w1.frozen? ⟨M, 2, none⟩ = false := by simp [World.frozen?, X1.out]
    obtain ⟨⟨z0, z1, z2⟩, o1, o2, o3, bF⟩ := fin_box (w := w) (t := Tp.tr0) (tv := .slice none 0 0) (cv := .slice none 0 0) (ev := .slice none 0 0) X1.out (Nat.le_of_eq HMM.out.symm) (World.ownsRow_nil _ _ _ _) (World.ownsRow_nil _ _ _ _) (World.ownsRow_nil _ _ _ _) K1.out
    replace o1 := o1.mono (Nat.le_of_eq HMM.out.symm)
    replace o2 := o2.mono (Nat.le_of_eq HMM.out.symm)
    replace o3 := o3.mono (Nat.le_of_eq HMM.out.symm)
    go_wp2_with fail
    generalize (((World.setCell w1 ⟨M, 0, none⟩ (.slice none 0 0)).setCell ⟨M, 1, none⟩ (.slice none 0 0)).setCell ⟨M, 2, none⟩ (.slice none 0 0)) = W6 at *
    refine ⟨rfl, .tuple #[.agg #[.slice none 0 0, .slice none 0 0, .slice none 0 0], .int .i64 ((0 : Nat) : Int), .int .i64 (i : Int), .int .i64 x], by simp [results, Try.results31, go_sem, z0, z1, z2], ?_⟩
    rw [HP2.out]
    exact ⟨_, _, _, rfl, o1, o2, o3, bF⟩
  | none =>
    have h5 := Tp.hd_five 2 b hh
    rw [hh] at HB0
    dsimp only [opV] at HB0
    have HA5 := hidT (HAl.out (by rw [HN.out]; exact h5))
    clear HAl
    cases hr : Tp.rds b b.length 5 Tp.tr0 with
    | bad t s i x =>
      have hx := Tp.rds_err b HY.out _ _ _ _ _ _ _ h5 (by omega) hr
      have qx : (x == 0) = false := by simpa using hx
      have HP2 : Hid (post = .bad t s i x) := by unfold Hid; rw [HP.out]; unfold Tp.rtB; rw [hh]; dsimp only; rw [hr]
      have hr' : Tp.rds b n0 5 Tp.tr0 = .bad t s i x := by rw [HN.out]; exact hr
      rw [hr'] at HA5
      clear hr'
      clear hh hx hr h5
      go_enter Try.func31, Try.ntmps31
      go_upto_region 1 with fail
      rw [← hW0, ← hM]
      clear hW0 hM
      go_wp2_with fail
      refine HB0.out.mono ?_
      rintro e w1 ⟨rfl, k1⟩
      have X1 : Hid (w1.heap[M]? = some (.cells #[.slice none 0 0, .slice none 0 0, .slice none 0 0] 26 (0, 0)) ∧ M + 1 ≤ w1.heap.size) := ⟨(k1.block M (by have := X0.out.2; omega)).trans X0.out.1, by have := k1.size; have := X0.out.2; omega⟩
      have K1 := hidT (K0.out.trans (k1.mono K0.out.size))
      clear k1
      go_wp2_with fail
      refine (HA5.out w1 K1.out).mono ?_
      rintro e w2 ⟨tv, cv, ev, rfl, o1, o2, o3, k2⟩
      obtain ⟨ta, tc, hv1⟩ := ownShT o1
      obtain ⟨ca, cc, hv2⟩ := ownShT o2
      obtain ⟨ea, ec, hv3⟩ := ownShT o3
      subst hv1 hv2 hv3
      have S3 := hidT (bos_of X1.out.1 HMM.out.symm X1.out.2 K1.out o1 o2 o3 k2)
      obtain ⟨Q, hQ⟩ : ∃ Q, Q = w2.heap.size := ⟨_, rfl⟩
      clear o1 o2 o3 k2
      obtain ⟨nt, hnt⟩ : ∃ n, n = t.ticks.length := ⟨_, rfl⟩
      obtain ⟨nc, hnc⟩ : ∃ n, n = t.counts.length := ⟨_, rfl⟩
      obtain ⟨ne, hne⟩ : ∃ n, n = t.events.length := ⟨_, rfl⟩
      rw [← hnt, ← hnc, ← hne]
      rw [← hnt, ← hnc, ← hne, ← hQ] at S3
      clear hnt hnc hne
      go_upto_region 5 with fail
      rw [← hQ]
      obtain ⟨W3, hW3⟩ : ∃ W, W = w2.alloc (.cells #[.slice ta nt tc, .slice ca nc cc, .slice ea ne ec] 26) := ⟨_, rfl⟩
      rw [← hW3] at S3
      rw [← hW3]
      clear hW3 hQ
      obtain ⟨x0, x1, x2⟩ := S3.out.cells
      obtain ⟨u0, u1, u2⟩ := S3.out.resc
      have y0 := S3.out.fz 0
      have y1 := S3.out.fz 1
      have y2 := S3.out.fz 2
      obtain ⟨⟨z0, z1, z2⟩, o1, o2, o3, bF⟩ := S3.out.fin
      replace o1 := o1.mono (Nat.le_of_eq HMM.out.symm)
      replace o2 := o2.mono (Nat.le_of_eq HMM.out.symm)
      replace o3 := o3.mono (Nat.le_of_eq HMM.out.symm)
      go_wp2_with fail
      generalize (((World.setCell W3 ⟨M, 0, none⟩ (.slice ta nt tc)).setCell ⟨M, 1, none⟩ (.slice ca nc cc)).setCell ⟨M, 2, none⟩ (.slice ea ne ec)) = W6 at *
      refine ⟨rfl, .tuple #[.agg #[.slice ta nt tc, .slice ca nc cc, .slice ea ne ec], .int .i64 (s : Int), .int .i64 (i : Int), .int .i64 x], by simp [results, Try.results31, go_sem, z0, z1, z2], ?_⟩
      rw [HP2.out]
      exact ⟨_, _, _, rfl, o1, o2, o3, bF⟩
    | good t s k =>
      obtain ⟨hk, hs⟩ := Tp.rds_good b _ _ _ _ _ _ hr
      subst hk
      have HE5 := hidT (fun W q => HE.out W (s + 1) q (by rw [HN.out]; omega))
      have ek : ((s + 1 : Nat) : Int) = (s : Int) + 1 := by omega
      rw [ek] at HE5
      have hs1 : s < n0 := by rw [HN.out]; exact hs
      have hr' : Tp.rds b n0 5 Tp.tr0 = .good t s (s + 1) := by rw [HN.out]; exact hr
      rw [hr'] at HA5
      clear hr'
      clear ek hs HE
      cases he : Tp.ends b (s + 1) with
      | some q =>
        obtain ⟨j, y⟩ := q
        have hx := Tp.ends_err _ _ _ _ he
        have qx : (y == 0) = false := by simpa using hx
        have HP2 : Hid (post = .bad t s j y) := by unfold Hid; rw [HP.out]; unfold Tp.rtB; rw [hh]; dsimp only; rw [hr]; dsimp only; rw [he]
        rw [he] at HE5
        dsimp only [opV] at HE5
        clear hh hx hr h5 he
        go_enter Try.func31, Try.ntmps31
        go_upto_region 1 with fail
        rw [← hW0, ← hM]
        clear hW0 hM
        go_wp2_with fail
        refine HB0.out.mono ?_
        rintro e w1 ⟨rfl, k1⟩
        have X1 : Hid (w1.heap[M]? = some (.cells #[.slice none 0 0, .slice none 0 0, .slice none 0 0] 26 (0, 0)) ∧ M + 1 ≤ w1.heap.size) := ⟨(k1.block M (by have := X0.out.2; omega)).trans X0.out.1, by have := k1.size; have := X0.out.2; omega⟩
        have K1 := hidT (K0.out.trans (k1.mono K0.out.size))
        clear k1
        go_wp2_with fail
        refine (HA5.out w1 K1.out).mono ?_
        rintro e w2 ⟨tv, cv, ev, rfl, o1, o2, o3, k2⟩
        obtain ⟨ta, tc, hv1⟩ := ownShT o1
        obtain ⟨ca, cc, hv2⟩ := ownShT o2
        obtain ⟨ea, ec, hv3⟩ := ownShT o3
        subst hv1 hv2 hv3
        have S3 := hidT (bos_of X1.out.1 HMM.out.symm X1.out.2 K1.out o1 o2 o3 k2)
        obtain ⟨Q, hQ⟩ : ∃ Q, Q = w2.heap.size := ⟨_, rfl⟩
        clear o1 o2 o3 k2
        obtain ⟨nt, hnt⟩ : ∃ n, n = t.ticks.length := ⟨_, rfl⟩
        obtain ⟨nc, hnc⟩ : ∃ n, n = t.counts.length := ⟨_, rfl⟩
        obtain ⟨ne, hne⟩ : ∃ n, n = t.events.length := ⟨_, rfl⟩
        rw [← hnt, ← hnc, ← hne]
        rw [← hnt, ← hnc, ← hne, ← hQ] at S3
        clear hnt hnc hne
        go_upto_region 5 with fail
        rw [← hQ]
        obtain ⟨W3, hW3⟩ : ∃ W, W = w2.alloc (.cells #[.slice ta nt tc, .slice ca nc cc, .slice ea ne ec] 26) := ⟨_, rfl⟩
        rw [← hW3] at S3
        rw [← hW3]
        clear hW3 hQ
        go_wp2_with fail
        refine (HE5.out W3 S3.out.bl).mono ?_
        rintro e w4 ⟨rfl, k4⟩
        have S4 := hidT (S3.out.later (k4.mono (Nat.le_refl _)))
        clear k4
        obtain ⟨x0, x1, x2⟩ := S4.out.cells
        obtain ⟨u0, u1, u2⟩ := S4.out.resc
        have y0 := S4.out.fz 0
        have y1 := S4.out.fz 1
        have y2 := S4.out.fz 2
        obtain ⟨⟨z0, z1, z2⟩, o1, o2, o3, bF⟩ := S4.out.fin
        replace o1 := o1.mono (Nat.le_of_eq HMM.out.symm)
        replace o2 := o2.mono (Nat.le_of_eq HMM.out.symm)
        replace o3 := o3.mono (Nat.le_of_eq HMM.out.symm)
        go_wp2_with fail
        generalize (((World.setCell w4 ⟨M, 0, none⟩ (.slice ta nt tc)).setCell ⟨M, 1, none⟩ (.slice ca nc cc)).setCell ⟨M, 2, none⟩ (.slice ea ne ec)) = W6 at *
        refine ⟨rfl, .tuple #[.agg #[.slice ta nt tc, .slice ca nc cc, .slice ea ne ec], .int .i64 (s : Int), .int .i64 (j : Int), .int .i64 y], by simp [results, Try.results31, go_sem, z0, z1, z2], ?_⟩
        rw [HP2.out]
        exact ⟨_, _, _, rfl, o1, o2, o3, bF⟩
      | none =>
        have HP2 : Hid (post = .good t s (s + 1)) := by unfold Hid; rw [HP.out]; unfold Tp.rtB; rw [hh]; dsimp only; rw [hr]; dsimp only; rw [he]
        rw [he] at HE5
        dsimp only [opV] at HE5
        clear hh hr h5 he
        go_enter Try.func31, Try.ntmps31
        go_upto_region 1 with fail
        rw [← hW0, ← hM]
        clear hW0 hM
        go_wp2_with fail
        refine HB0.out.mono ?_
        rintro e w1 ⟨rfl, k1⟩
        have X1 : Hid (w1.heap[M]? = some (.cells #[.slice none 0 0, .slice none 0 0, .slice none 0 0] 26 (0, 0)) ∧ M + 1 ≤ w1.heap.size) := ⟨(k1.block M (by have := X0.out.2; omega)).trans X0.out.1, by have := k1.size; have := X0.out.2; omega⟩
        have K1 := hidT (K0.out.trans (k1.mono K0.out.size))
        clear k1
        go_wp2_with fail
        refine (HA5.out w1 K1.out).mono ?_
        rintro e w2 ⟨tv, cv, ev, rfl, o1, o2, o3, k2⟩
        obtain ⟨ta, tc, hv1⟩ := ownShT o1
        obtain ⟨ca, cc, hv2⟩ := ownShT o2
        obtain ⟨ea, ec, hv3⟩ := ownShT o3
        subst hv1 hv2 hv3
        have S3 := hidT (bos_of X1.out.1 HMM.out.symm X1.out.2 K1.out o1 o2 o3 k2)
        obtain ⟨Q, hQ⟩ : ∃ Q, Q = w2.heap.size := ⟨_, rfl⟩
        clear o1 o2 o3 k2
        obtain ⟨nt, hnt⟩ : ∃ n, n = t.ticks.length := ⟨_, rfl⟩
        obtain ⟨nc, hnc⟩ : ∃ n, n = t.counts.length := ⟨_, rfl⟩
        obtain ⟨ne, hne⟩ : ∃ n, n = t.events.length := ⟨_, rfl⟩
        rw [← hnt, ← hnc, ← hne]
        rw [← hnt, ← hnc, ← hne, ← hQ] at S3
        clear hnt hnc hne
        go_upto_region 5 with fail
        rw [← hQ]
        obtain ⟨W3, hW3⟩ : ∃ W, W = w2.alloc (.cells #[.slice ta nt tc, .slice ca nc cc, .slice ea ne ec] 26) := ⟨_, rfl⟩
        rw [← hW3] at S3
        rw [← hW3]
        clear hW3 hQ
        go_wp2_with fail
        refine (HE5.out W3 S3.out.bl).mono ?_
        rintro e w4 ⟨rfl, k4⟩
        have S4 := hidT (S3.out.later (k4.mono (Nat.le_refl _)))
        clear k4
        obtain ⟨x0, x1, x2⟩ := S4.out.cells
        obtain ⟨u0, u1, u2⟩ := S4.out.resc
        have y0 := S4.out.fz 0
        have y1 := S4.out.fz 1
        have y2 := S4.out.fz 2
        obtain ⟨⟨z0, z1, z2⟩, o1, o2, o3, bF⟩ := S4.out.fin
        replace o1 := o1.mono (Nat.le_of_eq HMM.out.symm)
        replace o2 := o2.mono (Nat.le_of_eq HMM.out.symm)
        replace o3 := o3.mono (Nat.le_of_eq HMM.out.symm)
        go_wp2_with fail
        generalize (((World.setCell w4 ⟨M, 0, none⟩ (.slice ta nt tc)).setCell ⟨M, 1, none⟩ (.slice ca nc cc)).setCell ⟨M, 2, none⟩ (.slice ea ne ec)) = W6 at *
        refine ⟨rfl, .tuple #[.agg #[.slice ta nt tc, .slice ca nc cc, .slice ea ne ec], .int .i64 (n0 : Int), .int .i64 ((0 : Nat) : Int), .int .i64 0], by simp [results, Try.results31, go_sem, z0, z1, z2], ?_⟩
        rw [HP2.out]
        exact ⟨_, _, _, rfl, o1, o2, o3, bF⟩
end Go.Proofs.Ytneefpblfiedbaa

namespace Go.Proofs.Ytneefpblfiedbaa
open Go.RowKit
set_option linter.unusedVariables false
set_option linter.unusedSimpArgs false
theorem nil3 : (Value.agg #[.slice none 0 0, .slice none 0 0, .slice none 0 0]) = .agg #[.slice none Tp.tr0.ticks.length 0, .slice none Tp.tr0.counts.length 0, .slice none Tp.tr0.events.length 0] := rfl
set_option maxHeartbeats 4000000 in
theorem rBoth_long (n : Nat) (a : Option Addr) (c : Nat) (w : World) (h : 4194304 < n) (hl : n ≤ 4611686018427387904) :
    Calls Try.prog 31 #[.slice a n c] w fun e w' => e = .returned (.tuple #[.agg #[.slice none 0 0, .slice none 0 0, .slice none 0 0], .int .i64 0, .int .i64 0, .int .i64 2]) ∧ Below w.heap.size w w' := by
  have HB := hidT (fun W => rBegins_long n a c 2 W h hl)
  obtain ⟨M, hM⟩ : ∃ M, M = w.heap.size := ⟨_, rfl⟩
  have HMM := hidT hM
  obtain ⟨W0, hW0⟩ : ∃ W, W = w.alloc (.cells #[.slice none 0 0, .slice none 0 0, .slice none 0 0] 26) := ⟨_, rfl⟩
  have K0 : Hid (Below w.heap.size w W0) := by rw [hW0]; exact (Below.refl _ _).alloc (Nat.le_refl _) _
  have X0 : Hid (W0.heap[M]? = some (.cells #[.slice none 0 0, .slice none 0 0, .slice none 0 0] 26 (0, 0))) := by rw [hW0, hM]; exact heap_alloc_new w _
  clear h hl
  go_enter Try.func31, Try.ntmps31
  go_upto_region 1 with fail
  rw [← hW0, ← hM]
  clear hW0 hM
  go_wp2_with fail
  refine (HB.out _).mono ?_
  rintro e w1 ⟨rfl, rfl⟩
  have u0 : w1.cell? ⟨M, 0, none⟩ = some (.slice none 0 0) := by simp [World.cell?, X0.out]
  have u1 : w1.cell? ⟨M, 1, none⟩ = some (.slice none 0 0) := by simp [World.cell?, X0.out]
  have u2 : w1.cell? ⟨M, 2, none⟩ = some (.slice none 0 0) := by simp [World.cell?, X0.out]
  have y0 : w1.frozen? ⟨M, 0, none⟩ = false := by simp [World.frozen?, X0.out]
  have y1 : w1.frozen? ⟨M, 1, none⟩ = false := by simp [World.frozen?, X0.out]
  have y2 : w1.frozen? ⟨M, 2, none⟩ = false := by simp [World.frozen?, X0.out]
  obtain ⟨⟨z0, z1, z2⟩, o1, o2, o3, bF⟩ := fin_box (w := w) (t := Tp.tr0) (tv := .slice none 0 0) (cv := .slice none 0 0) (ev := .slice none 0 0) X0.out (Nat.le_of_eq HMM.out.symm) (World.ownsRow_nil _ _ _ _) (World.ownsRow_nil _ _ _ _) (World.ownsRow_nil _ _ _ _) K0.out
  go_wp2_with fail
  generalize (((World.setCell w1 ⟨M, 0, none⟩ (.slice none 0 0)).setCell ⟨M, 1, none⟩ (.slice none 0 0)).setCell ⟨M, 2, none⟩ (.slice none 0 0)) = W6 at *
  exact ⟨rfl, .tuple #[.agg #[.slice none 0 0, .slice none 0 0, .slice none 0 0], .int .i64 0, .int .i64 0, .int .i64 2], by simp [results, Try.results31, go_sem, z0, z1, z2], rfl, bF⟩
def AlS (w : World) (e : Ending) (w' : World) (t : Tp.Tr) : Prop := ∃ tv cv ev, e = .returned (.tuple #[.agg #[tv, cv, ev], .int .i64 0, .int .i64 0]) ∧ w'.ownsRow w.heap.size 62 4 tv t.ticks.length (tkC t.ticks) ∧ w'.ownsRow w.heap.size 3 1 cv t.counts.length (nmC t.counts) ∧ w'.ownsRow w.heap.size 69 2 ev t.events.length (evC t.events) ∧ Below w.heap.size w w'
set_option maxHeartbeats 4000000 in
theorem rReadTr_err (a : Option Addr) (n c : Nat) (w : World) (tq : Tp.Tr) (s i : Nat) (x : Int) (hx : x ≠ 0) (HB : ∀ W, Below w.heap.size w W → Calls Try.prog 31 #[.slice a n c] W fun e w' => AlR W e w' tq s i x) :
    Calls Try.prog 12 #[.slice a n c] w fun e w' => e = .returned (.tuple #[.agg #[.slice none 0 0, .slice none 0 0, .slice none 0 0], .int .i64 (i : Int), .int .i64 x]) ∧ Below w.heap.size w w' := by
  have qx : (x == 0) = false := by simpa using hx
  obtain ⟨M, hM⟩ : ∃ M, M = w.heap.size := ⟨_, rfl⟩
  have HMM := hidT hM
  obtain ⟨W0, hW0⟩ : ∃ W, W = w.alloc (.cells #[.slice none 0 0, .slice none 0 0, .slice none 0 0] 26) := ⟨_, rfl⟩
  have K0 : Hid (Below w.heap.size w W0) := by rw [hW0]; exact (Below.refl _ _).alloc (Nat.le_refl _) _
  have X0 : Hid (W0.heap[M]? = some (.cells #[.slice none 0 0, .slice none 0 0, .slice none 0 0] 26 (0, 0)) ∧ M + 1 ≤ W0.heap.size) := by rw [hW0, hM]; exact ⟨heap_alloc_new w _, by simp⟩
  have HB0 := hidT (HB W0 K0.out)
  clear hx HB
  go_enter Try.func12, Try.ntmps12
  go_upto_region 1 with fail
  rw [← hW0, ← hM]
  clear hW0 hM
  go_wp2_with fail
  refine HB0.out.mono ?_
  rintro e w2 ⟨tv, cv, ev, rfl, o1, o2, o3, k2⟩
  obtain ⟨ta, tc, hv1⟩ := ownShT o1
  obtain ⟨ca, cc, hv2⟩ := ownShT o2
  obtain ⟨ea, ec, hv3⟩ := ownShT o3
  subst hv1 hv2 hv3
  have S3 := hidT (bos_of X0.out.1 HMM.out.symm X0.out.2 K0.out o1 o2 o3 k2)
  obtain ⟨Q, hQ⟩ : ∃ Q, Q = w2.heap.size := ⟨_, rfl⟩
  clear o1 o2 o3 k2
  obtain ⟨nt, hnt⟩ : ∃ n, n = tq.ticks.length := ⟨_, rfl⟩
  obtain ⟨nc, hnc⟩ : ∃ n, n = tq.counts.length := ⟨_, rfl⟩
  obtain ⟨ne, hne⟩ : ∃ n, n = tq.events.length := ⟨_, rfl⟩
  rw [← hnt, ← hnc, ← hne]
  rw [← hnt, ← hnc, ← hne, ← hQ] at S3
  clear hnt hnc hne
  go_upto_region 2 with fail
  rw [← hQ]
  obtain ⟨W3, hW3⟩ : ∃ W, W = w2.alloc (.cells #[.slice ta nt tc, .slice ca nc cc, .slice ea ne ec] 26) := ⟨_, rfl⟩
  rw [← hW3] at S3
  rw [← hW3]
  clear hW3 hQ
  obtain ⟨u0, u1, u2⟩ := S3.out.resc
  have y0 := S3.out.fz 0
  have y1 := S3.out.fz 1
  have y2 := S3.out.fz 2
  obtain ⟨⟨z0, z1, z2⟩, o1, o2, o3, bF⟩ := fin_box (w := w) (t := Tp.tr0) (tv := .slice none 0 0) (cv := .slice none 0 0) (ev := .slice none 0 0) S3.out.hr S3.out.lo (World.ownsRow_nil _ _ _ _) (World.ownsRow_nil _ _ _ _) (World.ownsRow_nil _ _ _ _) S3.out.bl
  go_wp2_with fail
  generalize (((World.setCell W3 ⟨M, 0, none⟩ (.slice none 0 0)).setCell ⟨M, 1, none⟩ (.slice none 0 0)).setCell ⟨M, 2, none⟩ (.slice none 0 0)) = W6 at *
  exact ⟨rfl, .tuple #[.agg #[.slice none 0 0, .slice none 0 0, .slice none 0 0], .int .i64 (i : Int), .int .i64 x], by simp [results, Try.results12, go_sem, z0, z1, z2], rfl, bF⟩
set_option maxHeartbeats 4000000 in
theorem rReadTr_ok (a : Option Addr) (n c : Nat) (w : World) (tq : Tp.Tr) (s : Nat) (HB : ∀ W, Below w.heap.size w W → Calls Try.prog 31 #[.slice a n c] W fun e w' => AlR W e w' tq s 0 0) :
    Calls Try.prog 12 #[.slice a n c] w fun e w' => AlS w e w' tq := by
  obtain ⟨M, hM⟩ : ∃ M, M = w.heap.size := ⟨_, rfl⟩
  have HMM := hidT hM
  obtain ⟨W0, hW0⟩ : ∃ W, W = w.alloc (.cells #[.slice none 0 0, .slice none 0 0, .slice none 0 0] 26) := ⟨_, rfl⟩
  have K0 : Hid (Below w.heap.size w W0) := by rw [hW0]; exact (Below.refl _ _).alloc (Nat.le_refl _) _
  have X0 : Hid (W0.heap[M]? = some (.cells #[.slice none 0 0, .slice none 0 0, .slice none 0 0] 26 (0, 0)) ∧ M + 1 ≤ W0.heap.size) := by rw [hW0, hM]; exact ⟨heap_alloc_new w _, by simp⟩
  have HB0 := hidT (HB W0 K0.out)
  clear HB
  go_enter Try.func12, Try.ntmps12
  go_upto_region 1 with fail
  rw [← hW0, ← hM]
  clear hW0 hM
  go_wp2_with fail
  refine HB0.out.mono ?_
  rintro e w2 ⟨tv, cv, ev, rfl, o1, o2, o3, k2⟩
  obtain ⟨ta, tc, hv1⟩ := ownShT o1
  obtain ⟨ca, cc, hv2⟩ := ownShT o2
  obtain ⟨ea, ec, hv3⟩ := ownShT o3
  subst hv1 hv2 hv3
  have S3 := hidT (bos_of X0.out.1 HMM.out.symm X0.out.2 K0.out o1 o2 o3 k2)
  obtain ⟨Q, hQ⟩ : ∃ Q, Q = w2.heap.size := ⟨_, rfl⟩
  clear o1 o2 o3 k2
  obtain ⟨nt, hnt⟩ : ∃ n, n = tq.ticks.length := ⟨_, rfl⟩
  obtain ⟨nc, hnc⟩ : ∃ n, n = tq.counts.length := ⟨_, rfl⟩
  obtain ⟨ne, hne⟩ : ∃ n, n = tq.events.length := ⟨_, rfl⟩
  rw [← hnt, ← hnc, ← hne]
  rw [← hnt, ← hnc, ← hne, ← hQ] at S3
  clear hnt hnc hne
  go_upto_region 2 with fail
  rw [← hQ]
  obtain ⟨W3, hW3⟩ : ∃ W, W = w2.alloc (.cells #[.slice ta nt tc, .slice ca nc cc, .slice ea ne ec] 26) := ⟨_, rfl⟩
  rw [← hW3] at S3
  rw [← hW3]
  clear hW3 hQ
  obtain ⟨x0, x1, x2⟩ := S3.out.cells
  obtain ⟨u0, u1, u2⟩ := S3.out.resc
  have y0 := S3.out.fz 0
  have y1 := S3.out.fz 1
  have y2 := S3.out.fz 2
  obtain ⟨⟨z0, z1, z2⟩, o1, o2, o3, bF⟩ := S3.out.fin
  replace o1 := o1.mono (Nat.le_of_eq HMM.out.symm)
  replace o2 := o2.mono (Nat.le_of_eq HMM.out.symm)
  replace o3 := o3.mono (Nat.le_of_eq HMM.out.symm)
  go_wp2_with fail
  generalize (((World.setCell W3 ⟨M, 0, none⟩ (.slice ta nt tc)).setCell ⟨M, 1, none⟩ (.slice ca nc cc)).setCell ⟨M, 2, none⟩ (.slice ea ne ec)) = W6 at *
  refine ⟨rfl, .tuple #[.agg #[.slice ta nt tc, .slice ca nc cc, .slice ea ne ec], .int .i64 0, .int .i64 0], by simp [results, Try.results12, go_sem, z0, z1, z2], ?_⟩
  exact ⟨_, _, _, rfl, o1, o2, o3, bF⟩
/-- What was read: a trace, a place, an error. -/
def RtT (t : Tp.Tr) (i x : Int) (W : World) (e : Ending) (w' : World) : Prop := ∃ ta tc ca cc ea ec, e = .returned (.tuple #[.agg #[.slice ta t.ticks.length tc, .slice ca t.counts.length cc, .slice ea t.events.length ec], .int .i64 i, .int .i64 x]) ∧ TrS w'.heap.size w' ta ca ea tc cc ec t ∧ Below W.heap.size W w'
theorem tr0_s (w : World) : TrS w.heap.size w none none none 0 0 0 Tp.tr0 := by
  refine ⟨?_, ?_, ?_, by simp [Tp.tr0], by simp [Tp.tr0], by simp [Tp.tr0], by simp [Tp.tr0], by simp [Tp.tr0], by simp [Tp.tr0], by simp [Tp.tr0]⟩
  all_goals exact fun h => absurd h (by simp [Tp.tr0])
theorem rtErr {w : World} {e : Ending} {w' : World} {i x : Int} (h : e = .returned (.tuple #[.agg #[.slice none 0 0, .slice none 0 0, .slice none 0 0], .int .i64 i, .int .i64 x]) ∧ Below w.heap.size w w') : RtT Tp.tr0 i x w e w' := by
  obtain ⟨rfl, k⟩ := h
  exact ⟨none, 0, none, 0, none, 0, rfl, tr0_s _, k⟩
theorem rtOk {w : World} {e : Ending} {w' : World} {t : Tp.Tr} (hb : TrB t) (h : AlS w e w' t) : RtT t 0 0 w e w' := by
  obtain ⟨tv, cv, ev, rfl, o1, o2, o3, k⟩ := h
  obtain ⟨ta, tc, ca, cc, ea, ec, rfl, rfl, rfl, ts⟩ := trs_of hb o1 o2 o3
  exact ⟨ta, tc, ca, cc, ea, ec, rfl, ts, k⟩
theorem rtBoth (w : World) (a : Option Addr) (b : List Int) (c : Nat) (hm : ByS w.heap.size w a b) (hy : Tp.Byt b) (hc : b.length ≤ c) (hl : b.length ≤ 3000 ∨ 4194304 < b.length) (hl2 : b.length ≤ 1000000000000000) :
    ∃ t i x, (t.counts.length = t.ticks.length ∧ t.ticks.length ≤ 1000000 ∧ t.events.length ≤ 1000000) ∧ (∀ W, Below w.heap.size w W → Calls Try.prog 11 #[.slice a b.length c] W (RtT t i x W)) ∧ (∀ W, Below w.heap.size w W → Calls Try.prog 12 #[.slice a b.length c] W (RtT t i x W)) := by
  rcases hl with hl | hl
  · have p1 := fun W (q : Below w.heap.size w W) => readTr_any b a c W hy (hm.later q (Nat.le_refl _)) q.size hc (by omega)
    have p2 := fun W (q : Below w.heap.size w W) => rBoth_any b a c W hy ((hm.later q (Nat.le_refl _)).mono q.size) hc (by omega)
    cases hr : Tp.rtB b with
    | bad t s i x =>
      rw [hr] at p1 p2
      have hx := Tp.rtB_err b hy _ _ _ _ hr
      exact ⟨Tp.tr0, i, x, ⟨rfl, by simp [Tp.tr0], by simp [Tp.tr0]⟩, fun W q => (p1 W q).mono fun e w' h => rtErr h, fun W q => (rReadTr_err a b.length c W t s i x hx (fun W' q' => p2 W' (q.trans (q'.mono q.size)))).mono fun e w' h => rtErr h⟩
    | good t s j =>
      rw [hr] at p1 p2
      obtain ⟨h1, h2, h3⟩ := Tp.rt_back b hy t s j hr
      have hg := Tp.recs_ge t.events t.ticks t.counts 0 h2.c h2.o
      have hbl : (Tp.recs t.events t.ticks t.counts 0).length ≤ b.length := by
        rw [← h1]
        simp only [Tp.wt, Tp.bodyT, List.length_append]
        omega
      have hb := sof_tb h2 (by omega) (by omega)
      exact ⟨t, 0, 0, ⟨h2.c, by omega, by omega⟩, fun W q => (p1 W q).mono fun e w' h => rtOk hb h, fun W q => (rReadTr_ok a b.length c W t b.length (fun W' q' => p2 W' (q.trans (q'.mono q.size)))).mono fun e w' h => rtOk hb h⟩
  · refine ⟨Tp.tr0, 0, 2, ⟨rfl, by simp [Tp.tr0], by simp [Tp.tr0]⟩, fun W q => (readTr_long b.length a c W hl (by omega)).mono fun e w' h => rtErr h, fun W q => ?_⟩
    refine (rReadTr_err a b.length c W Tp.tr0 0 0 2 (by decide) fun W' q' => (rBoth_long b.length a c W' hl (by omega)).mono ?_).mono fun e w' h => rtErr h
    rintro e w' ⟨rfl, k⟩
    exact ⟨_, _, _, rfl, World.ownsRow_nil _ _ _ _, World.ownsRow_nil _ _ _ _, World.ownsRow_nil _ _ _ _, k⟩
theorem wtBoth (w : World) (ta ca ea : Option Addr) (tc cc ec : Nat) (t : Tp.Tr) (ht : TrS w.heap.size w ta ca ea tc cc ec t) (m1 : t.ticks.length ≤ 500) (m2 : t.counts.length ≤ 500) (m3 : t.events.length ≤ 500) :
    ∃ L e0, (∀ W, Below w.heap.size w W → Calls Try.prog 9 #[trV ta ca ea tc cc ec t] W (TwQ L e0 W)) ∧ (∀ W, Below w.heap.size w W → Calls Try.prog 10 #[trV ta ca ea tc cc ec t] W (TwQ L e0 W)) := by
  have p1 := fun W (q : Below w.heap.size w W) => writeTr_any t ta ca ea tc cc ec W ((ht.later q (Nat.le_refl _)).mono q.size) (by omega) (by omega) (by omega)
  have p2 := fun W (q : Below w.heap.size w W) => rWriteTr_any t ta ca ea tc cc ec W ((ht.later q (Nat.le_refl _)).mono q.size) (by omega) (by omega) (by omega)
  by_cases hR : Tp.rightT t = true
  · have e : ∀ (W : World) (e : Ending) (w' : World), wtQ t W e w' → TwQ (Tp.wt t) 0 W e w' := fun W e w' h => by
      unfold wtQ at h
      rw [if_pos hR] at h
      exact twOf h (Tp.wt_pos t)
    exact ⟨Tp.wt t, 0, fun W q => (p1 W q).mono (e W), fun W q => (p2 W q).mono (e W)⟩
  · have e : ∀ (W : World) (e : Ending) (w' : World), wtQ t W e w' → TwQ [] 32 W e w' := fun W e w' h => by
      unfold wtQ at h
      rw [if_neg hR] at h
      obtain ⟨rfl, k⟩ := h
      obtain ⟨a, n, c, e1, e2, e3⟩ := twNil w' 32
      exact ⟨a, n, c, e1, e2, k⟩
    exact ⟨[], 32, fun W q => (p1 W q).mono (e W), fun W q => (p2 W q).mono (e W)⟩
end Go.Proofs.Ytneefpblfiedbaa

namespace Go.Proofs.Ytneefpblfiedbaa
open Go.RowKit
set_option linter.unusedVariables false
set_option linter.unusedSimpArgs false
theorem al3 {w : World} {x y z : Value} {T : TypeId} : ∀ W, Below (w.alloc (.cells #[x, y, z] T)).heap.size (w.alloc (.cells #[x, y, z] T)) W → W.cell? ⟨w.heap.size, 0, none⟩ = some x ∧ W.cell? ⟨w.heap.size, 1, none⟩ = some y ∧ W.cell? ⟨w.heap.size, 2, none⟩ = some z := fun W q => by
  refine box3T W _ _ _ T ?_
  rw [q.block w.heap.size (by simp)]
  exact heap_alloc_new w _
set_option maxRecDepth 100000 in
set_option maxHeartbeats 4000000 in
theorem traces_walk (w : World) (ta ca ea : Option Addr) (tc cc ec : Nat) (t : Tp.Tr) (ht : TrS w.heap.size w ta ca ea tc cc ec t) (a : Option Addr) (b : List Int) (c : Nat) (hm : ByS w.heap.size w a b) (hy : Tp.Byt b) (hc : b.length ≤ c) (hl : b.length ≤ 1000000000000000) :
    Calls Try.prog 3 #[trV ta ca ea tc cc ec t, .slice a b.length c] w fun e w' => e = .returned (.bool true) ∧ Below w.heap.size w w' := by
  have EM := hidT (many_any ta ca ea tc cc ec t.ticks.length t.counts.length t.events.length)
  have EL := hidT (fun W => long_any W a b.length c (by omega))
  obtain ⟨M, hM⟩ : ∃ M, M = w.heap.size := ⟨_, rfl⟩
  obtain ⟨W0, hW0⟩ : ∃ W, W = w.alloc (.cells #[.slice ta t.ticks.length tc, .slice ca t.counts.length cc, .slice ea t.events.length ec] 26) := ⟨_, rfl⟩
  have K0 : Hid (Below w.heap.size w W0) := by rw [hW0]; exact (Below.refl _ _).alloc (Nat.le_refl _) _
  have HC : Hid (∀ W, Below W0.heap.size W0 W → W.cell? ⟨M, 0, none⟩ = some (.slice ta t.ticks.length tc) ∧ W.cell? ⟨M, 1, none⟩ = some (.slice ca t.counts.length cc) ∧ W.cell? ⟨M, 2, none⟩ = some (.slice ea t.events.length ec)) := by
    rw [hW0, hM]
    exact al3
  have HM := hidT hM
  have HW0 := hidT hW0
  have R0 : Hid (Below W0.heap.size W0 W0) := Below.refl _ _
  have KNW : Hid (∀ W, Below W0.heap.size W0 W → Calls Try.prog 8 #[] W fun e w' => e = .returned (.bool true) ∧ Below w.heap.size w w') := fun W q => (known13 W).mono fun e w' h => ⟨h.1, belTo (belTo K0.out q) h.2⟩
  by_cases hb : 3000 < b.length ∧ b.length ≤ 4194304
  · rw [decide_eq_true hb] at EL
    clear hb ht hm hy hc hl hW0 hM
    unfold trV
    generalize t.ticks.length = n1 at *
    generalize t.counts.length = n2 at *
    generalize t.events.length = n3 at *
    generalize b.length = nb at *
    go_enter Try.func3, Try.ntmps3
    go_upto_region 1 with fail
    rw [← HW0.out, ← HM.out]
    go_wp2_with fail
    refine (EL.out _).mono ?_
    rintro e w3 ⟨rfl, rfl⟩
    go_wp2_with fail
    refine (KNW.out _ R0.out).mono ?_
    rintro e w4 ⟨rfl, k4⟩
    have K4 := hidT k4
    clear k4
    go_wp2_with fail
    go_ret
    exact ⟨rfl, K4.out⟩
  rw [decide_eq_false hb] at EL
  by_cases hmany : 500 < t.ticks.length ∨ 500 < t.counts.length ∨ 500 < t.events.length
  · rw [decide_eq_true hmany] at EM
    clear hmany hb ht hm hy hc hl hW0 hM
    unfold trV
    generalize t.ticks.length = n1 at *
    generalize t.counts.length = n2 at *
    generalize t.events.length = n3 at *
    generalize b.length = nb at *
    go_enter Try.func3, Try.ntmps3
    go_upto_region 1 with fail
    rw [← HW0.out, ← HM.out]
    go_wp2_with fail
    refine (EL.out _).mono ?_
    rintro e w3 ⟨rfl, rfl⟩
    obtain ⟨t0, t1, t2⟩ := HC.out _ R0.out
    go_wp2_with fail
    refine (EM.out _).mono ?_
    rintro e w4 ⟨rfl, k4⟩
    have K4 := hidT k4
    clear k4
    go_wp2_with fail
    refine (KNW.out _ K4.out).mono ?_
    rintro e w5 ⟨rfl, k5⟩
    have K5 := hidT k5
    clear k5
    go_wp2_with fail
    go_ret
    exact ⟨rfl, K5.out⟩
  rw [decide_eq_false hmany] at EM
  obtain ⟨L, e0, EP0, ER0⟩ := wtBoth w ta ca ea tc cc ec t ht (by omega) (by omega) (by omega)
  obtain ⟨T, i, x, hT, FP0, FR0⟩ := rtBoth w a b c hm hy hc (by omega) hl
  have EP := hidT (fun W (q : Below W0.heap.size W0 W) => EP0 W (belTo K0.out q))
  have ER := hidT (fun W (q : Below W0.heap.size W0 W) => ER0 W (belTo K0.out q))
  have FP := hidT (fun W (q : Below W0.heap.size W0 W) => FP0 W (belTo K0.out q))
  have FR := hidT (fun W (q : Below W0.heap.size W0 W) => FR0 W (belTo K0.out q))
  have SY : Hid (∀ W ta ca ea tb cb eb tc cc ec td cd ed, TrS W.heap.size W ta ca ea tc cc ec T → TrS W.heap.size W tb cb eb td cd ed T → Calls Try.prog 13 #[.agg #[.slice ta T.ticks.length tc, .slice ca T.counts.length cc, .slice ea T.events.length ec], .agg #[.slice tb T.ticks.length td, .slice cb T.counts.length cd, .slice eb T.events.length ed]] W fun e w' => e = .returned (.bool true) ∧ Below W.heap.size W w') := fun W ta ca ea tb cb eb tc cc ec td cd ed h1 h2 => sameTr_yes W ta ca ea tb cb eb tc cc ec td cd ed T h1 h2 hT.1 hT.2.1 hT.2.2
  unfold trV at EP ER ⊢
  obtain ⟨n1, hn1⟩ : ∃ n, n = t.ticks.length := ⟨_, rfl⟩
  obtain ⟨n2, hn2⟩ : ∃ n, n = t.counts.length := ⟨_, rfl⟩
  obtain ⟨n3, hn3⟩ : ∃ n, n = t.events.length := ⟨_, rfl⟩
  obtain ⟨nb, hnb⟩ : ∃ n, n = b.length := ⟨_, rfl⟩
  rw [← hn1, ← hn2, ← hn3] at EP ER EM HC HW0
  rw [← hn1, ← hn2, ← hn3]
  rw [← hnb] at EL FP FR ⊢
  clear hn1 hn2 hn3 hnb hmany hb ht hm hy hc hl hW0 hM EP0 ER0 FP0 FR0 hT
  have qe : (e0 == e0) = true := beq_self_eq_true e0
  have qi : (i == i) = true := beq_self_eq_true i
  have qx : (x == x) = true := beq_self_eq_true x
  have qs := str_eqL L
  have HTL : ∃ m1 m2 m3, m1 = T.ticks.length ∧ m2 = T.counts.length ∧ m3 = T.events.length := ⟨_, _, _, rfl, rfl, rfl⟩
  obtain ⟨m1, m2, m3, hm1, hm2, hm3⟩ := HTL
  have HM1 := hidT hm1
  have HM2 := hidT hm2
  have HM3 := hidT hm3
  rw [← hm1, ← hm2, ← hm3] at SY
  clear hm1 hm2 hm3
  go_enter Try.func3, Try.ntmps3
  go_upto_region 1 with fail
  rw [← HW0.out, ← HM.out]
  clear HW0
  go_wp2_with fail
  refine (EL.out _).mono ?_
  rintro e w3 ⟨rfl, rfl⟩
  obtain ⟨t0, t1, t2⟩ := HC.out _ R0.out
  go_wp2_with fail
  refine (EM.out _).mono ?_
  rintro e w4 ⟨rfl, k4⟩
  have K4 := hidT k4
  clear k4 t0 t1 t2
  obtain ⟨t0, t1, t2⟩ := HC.out _ K4.out
  go_wp2_with fail
  refine (EP.out _ K4.out).mono ?_
  rintro e w5 ⟨a5, n5, c5, rfl, t5, k5⟩
  have T5 := hidT t5
  have K5 := hidT (K4.out.trans (k5.mono K4.out.size))
  clear t5 k5 t0 t1 t2
  obtain ⟨t0, t1, t2⟩ := HC.out _ K5.out
  go_wp2_with fail
  refine (ER.out _ K5.out).mono ?_
  rintro e w6 ⟨a6, n6, c6, rfl, t6, k6⟩
  have T6 := hidT t6
  have J56 := hidT k6
  have K6 := hidT (K5.out.trans (k6.mono K5.out.size))
  clear t6 k6 t0 t1 t2
  go_wp2_with fail
  refine (FP.out _ K6.out).mono ?_
  rintro e w7 ⟨ua, uc, va, vc, xa, xc, rfl, s7, k7⟩
  rw [← HM1.out, ← HM2.out, ← HM3.out]
  have A7 := hidT (al3 (w := w7) (x := .slice ua m1 uc) (y := .slice va m2 vc) (z := .slice xa m3 xc) (T := 26))
  have B7 : Hid (Below w7.heap.size w7 (w7.alloc (.cells #[.slice ua m1 uc, .slice va m2 vc, .slice xa m3 xc] 26))) := (Below.refl _ _).alloc (Nat.le_refl _) _
  obtain ⟨P7, hP7⟩ : ∃ P, P = w7.heap.size := ⟨_, rfl⟩
  go_upto_region 6 with fail
  obtain ⟨W7, hW7⟩ : ∃ W, W = w7.alloc (.cells #[.slice ua m1 uc, .slice va m2 vc, .slice xa m3 xc] 26) := ⟨_, rfl⟩
  rw [← hW7] at A7 B7
  rw [← hW7, ← hP7]
  have J67 := hidT (k7.trans (B7.out.mono k7.size))
  have K7 := hidT (K6.out.trans (J67.out.mono K6.out.size))
  have S7 := hidT ((s7.later B7.out (Nat.le_refl _)).mono B7.out.size)
  rw [← hP7] at A7
  clear s7 k7 B7 hW7 hP7
  go_wp2_with fail
  refine (FR.out _ K7.out).mono ?_
  rintro e w8 ⟨ya, yc, za, zc, qa, qc, rfl, s8, k8⟩
  rw [← HM1.out, ← HM2.out, ← HM3.out]
  have A8 := hidT (al3 (w := w8) (x := .slice ya m1 yc) (y := .slice za m2 zc) (z := .slice qa m3 qc) (T := 26))
  have B8 : Hid (Below w8.heap.size w8 (w8.alloc (.cells #[.slice ya m1 yc, .slice za m2 zc, .slice qa m3 qc] 26))) := (Below.refl _ _).alloc (Nat.le_refl _) _
  obtain ⟨P8, hP8⟩ : ∃ P, P = w8.heap.size := ⟨_, rfl⟩
  go_upto_region 7 with fail
  obtain ⟨W8, hW8⟩ : ∃ W, W = w8.alloc (.cells #[.slice ya m1 yc, .slice za m2 zc, .slice qa m3 qc] 26) := ⟨_, rfl⟩
  rw [← hW8] at A8 B8
  rw [← hW8, ← hP8]
  have J78 := hidT (k8.trans (B8.out.mono k8.size))
  have J68 := hidT (J67.out.trans (J78.out.mono J67.out.size))
  have J58 := hidT (J56.out.trans (J68.out.mono J56.out.size))
  have K8 := hidT (K7.out.trans (J78.out.mono K7.out.size))
  have S8 := hidT ((s8.later B8.out (Nat.le_refl _)).mono B8.out.size)
  have S9 := hidT ((S7.out.later J78.out (Nat.le_refl _)).mono J78.out.size)
  rw [← hP8] at A8
  clear s8 k8 B8 hW8 hP8 S7
  obtain ⟨g0, g1, g2⟩ := A7.out W8 J78.out
  obtain ⟨h0, h1, h2⟩ := A8.out W8 (Below.refl _ _)
  have s5 := T5.out W8 J58.out
  have s6 := T6.out W8 J68.out
  have ES := hidT (SY.out W8 ua va xa ya za qa uc vc xc yc zc qc S9.out S8.out)
  clear A7 A8
  go_wp2_with fail
  refine ES.out.mono ?_
  rintro e w9 ⟨rfl, k9⟩
  have K9 := hidT (K8.out.trans (k9.mono K8.out.size))
  clear k9
  go_wp2_with fail
  refine (KNW.out _ K9.out).mono ?_
  rintro e w10 ⟨rfl, k10⟩
  have K10 := hidT k10
  clear k10
  go_wp2_with fail
  go_ret
  exact ⟨rfl, K10.out⟩
end Go.Proofs.Ytneefpblfiedbaa

namespace Go.Proofs.Ytneefpblfiedbaa
open Go.ChangeShapes Go.WideShapes Go.ChangeAt Go.RowKit
set_option maxRecDepth 100000
set_option linter.unusedVariables false

theorem own : ownKnob Try.prog.godebug = none := by kernel_rfl
theorem laidOut : laidOutB Try.prog = true := by kernel_rfl
theorem bdW {n : Int} (h : (Lit.int .i64 n).wf = true) : -9223372036854775808 ≤ n ∧ n ≤ 9223372036854775807 := by
  simp only [Lit.wf, IntKind.min, IntKind.max, IntKind.signed, IntKind.bits, Bool.and_eq_true, decide_eq_true_eq, if_true] at h
  omega
theorem bdU {n : Int} (h : (Lit.int .u8 n).wf = true) : 0 ≤ n ∧ n ≤ 255 := by
  simp [Lit.wf, IntKind.min, IntKind.max, IntKind.signed, IntKind.bits, Bool.and_eq_true, decide_eq_true_eq] at h
  omega
theorem cU1 : Try.prog.cellsOf 5 = 1 := by kernel_rfl
theorem cI4 : Try.prog.cellsOf 2 = 1 := by kernel_rfl
theorem bU1 : 0 < Try.prog.bytesOf 5 := of_decide_eq_true (by kernel_rfl)
theorem bI8 : 0 < Try.prog.bytesOf 2 := of_decide_eq_true (by kernel_rfl)
theorem short_of {H : Type} {P : Program} {t e : TypeId} {elems rest : List (DataW H)} (ht : P.underlying t = some (.slice e)) (hb : 0 < P.bytesOf e) (hw : ∀ q, q ∈ (DataW.slice elems rest : DataW H).weights P t → q ≤ reachBytes) : elems.length ≤ 1000000000000000 := by
  rw [DataW.weights, ht] at hw
  have h := hw _ (List.mem_cons_self ..)
  have h2 : elems.length ≤ (elems.length + rest.length) * P.bytesOf e := Nat.le_trans (Nat.le_add_right _ _) (Nat.le_mul_of_pos_right _ hb)
  have h3 : reachBytes ≤ 1000000000000000 := by decide
  omega
theorem list_of_each {α : Type} {Q : Nat → α → Prop} : ∀ n, (∀ i, i < n → ∃ y, Q i y) → ∃ l : List α, l.length = n ∧ ∀ i y, l[i]? = some y → Q i y
  | 0, _ => ⟨[], rfl, fun i y h => by simp at h⟩
  | n + 1, h => by
    obtain ⟨l, hl, hq⟩ := list_of_each n fun i hi => h i (by omega)
    obtain ⟨y, hy⟩ := h n (by omega)
    refine ⟨l ++ [y], by simp [hl], fun i z hz => ?_⟩
    by_cases c : i < n
    · rw [List.getElem?_append_left (by omega)] at hz
      exact hq i z hz
    · have hi : i < n + 1 := by
        have := (List.getElem?_eq_some_iff.1 hz).1
        simp [hl] at this
        omega
      obtain rfl : i = n := by omega
      rw [List.getElem?_append_right (by omega)] at hz
      simp [hl] at hz
      subst hz
      exact hy
theorem sln_open {H : Type} {enc : TypeId × Value → H} {P : Program} {W : World} {t e : TypeId} {fuel c : Nat} {v : Value} {z : DataW H × List MemPlace} (ht : P.underlying t = some (.slice e)) (he : P.cellsOf e = c)
    (hf : DataW.trod enc P W 0 (fun _ => true) true fuel t [v] = some z) : v = .slice none 0 0 ∨ ∃ (x : Addr) (cap : Nat) (elems rest : List (DataW H × List MemPlace)) (n : Nat), fuel = n + 1 ∧ v = .slice (some x) elems.length cap ∧ elems.length ≤ cap ∧ z.1 = .slice (elems.map (·.1)) (rest.map (·.1)) ∧
      ∀ i, (hi : i < elems.length) → ∃ cs, cs.length = c ∧ (∀ j, (hj : j < cs.length) → W.cell? ((x.add (i * c)).add j) = some cs[j]) ∧ DataW.trod enc P W 0 (fun _ => true) true n e cs = some elems[i] := by
  rcases DataW.trod_slice ht hf with ⟨hcs, _⟩ | ⟨x, len, cp, elems, rest, n, hn, hcs, hx, _, hl, hm, hlen, hel, _, _⟩
  · simp at hcs
    exact .inl hcs
  · simp at hcs
    subst hcs
    subst hlen
    refine .inr ⟨x, cp, elems, rest, n, hn, rfl, hl, (Prod.ext_iff.1 hx).1, fun i hi => ?_⟩
    have h1 := hel i hi
    rw [List.getElem?_eq_getElem hi, he, Option.bind_eq_some_iff] at h1
    obtain ⟨cs', h2, h3⟩ := h1
    obtain ⟨_, hlen', hcell⟩ := World.cells?_some h2
    refine ⟨cs', hlen', fun j hj => ?_, h3⟩
    have := hcell j (by omega)
    rw [this]
    exact List.getElem?_eq_getElem hj
theorem addT {b o n : Nat} : (⟨b, o, none⟩ : Addr).add n = ⟨b, o + n, none⟩ := by unfold Addr.add; split <;> simp_all
/-- What the reading of a slice of integers of one cell gives. -/
theorem ints_open {H : Type} {enc : TypeId × Value → H} {W : World} {t e : TypeId} {q : IntKind} (ht : Try.prog.underlying t = some (.slice e)) (he : Try.prog.cellsOf e = 1) (hu : Try.prog.underlying e = some (.int q)) (hb : 0 < Try.prog.bytesOf e) (fuel : Nat) (v : Value) (z : DataW H × List MemPlace) (hf : DataW.trod enc Try.prog W 0 (fun _ => true) true fuel t [v] = some z) (hw : ∀ q, q ∈ z.1.weights Try.prog t → q ≤ reachBytes) : ∃ (a : Option Addr) (l : List Int) (c : Nat), v = .slice a l.length c ∧ (0 < l.length → ∃ g o, a = some ⟨g, o, none⟩ ∧ g < W.heap.size ∧ ∀ j x, l[j]? = some x → W.cell? ⟨g, o + j, none⟩ = some (.int q x)) ∧ (∀ x ∈ l, (Lit.int q x).wf = true) ∧ l.length ≤ c ∧ l.length ≤ 1000000000000000 ∧ (a = none → c = 0) := by
  rcases sln_open ht he hf with rfl | ⟨x, cap, elems, rest, n, hn, rfl, hcap, hz, hel⟩
  · exact ⟨none, [], 0, rfl, (fun h => absurd h (Nat.lt_irrefl 0)), fun x hx => (by cases hx), Nat.le_refl _, by decide, fun _ => rfl⟩
  · have each : ∀ i, i < elems.length → ∃ y : Int, W.cell? ((x.add (i * 1)).add 0) = some (.int q y) ∧ (Lit.int q y).wf = true := by
      intro i hi
      obtain ⟨cs, hcl, hcell, htr⟩ := hel i hi
      match cs, hcl with
      | [v0], _ =>
        obtain ⟨a0, b0, d0, wf0⟩ := DataW.trod_int hu htr
        simp at b0
        subst b0
        exact ⟨a0, hcell 0 (by simp), wf0⟩
    obtain ⟨l, hll, hQ⟩ := list_of_each elems.length each
    have hsh : elems.length ≤ 1000000000000000 := by
      rw [hz] at hw
      have := short_of (elems := elems.map (·.1)) ht hb hw
      simpa using this
    refine ⟨some x, l, cap, by rw [hll], fun h0 => ?_, fun y hy => ?_, by omega, by omega, fun h => by cases h⟩
    · obtain ⟨_, e0, _⟩ := each 0 (by omega)
      have hsp : ∃ b o, x = ⟨b, o, none⟩ := by
        obtain ⟨bb, oo, ss⟩ := x
        have : ss = none := by simpa [Addr.add] using World.cell?_spot e0
        exact ⟨bb, oo, by rw [this]⟩
      obtain ⟨g, off, rfl⟩ := hsp
      simp only [addT, Nat.add_zero, Nat.mul_one] at hQ e0
      exact ⟨g, off, rfl, World.block_lt_of_cell? W _ e0, fun j i hj => (hQ j i hj).1⟩
    · obtain ⟨i, hi⟩ := List.getElem?_of_mem hy
      exact (hQ i y hi).2
theorem arg_by {H : Type} {enc : TypeId × Value → H} {W : World} {v : Value} {d : DataW H} {p : List MemPlace} {ts : List TypeId} {ds : List (DataW H)} {j base : Nat}
    (hv : Value.okWide Try.prog W .any base 27 v)
    (h : ∃ fuel, DataW.trod enc Try.prog W 0 (fun _ => true) true fuel 27 v.cells.toList = some (d, p))
    (hsz : (DataW.weightsEach Try.prog ts ds).all (· ≤ reachBytes) = true) (ht : ts[j]? = some 27) (hd : ds[j]? = some d) :
    ∃ (a : Option Addr) (l : List Int) (c : Nat), v = .slice a l.length c ∧ ByS W.heap.size W a l ∧ Tp.Byt l ∧ l.length ≤ c ∧ l.length ≤ 1000000000000000 := by
  obtain ⟨a, len, cap, rfl⟩ := okWide_slice Try.underlying27 hv
  obtain ⟨fuel, hf⟩ := h
  have key : ∀ q, q ∈ d.weights Try.prog 27 → q ≤ reachBytes := fun q hq => of_decide_eq_true (List.all_eq_true.1 hsz _ (DataW.weights_mem_each ht hd _ hq))
  obtain ⟨a, l, c, e, h1, h2, h3, h4, _⟩ := ints_open Try.underlying27 cU1 Try.underlying5 bU1 fuel _ (d, p) (by simpa [Value.cells] using hf) key
  exact ⟨a, l, c, e, h1, fun x hx => bdU (h2 x hx), h3, h4⟩
theorem arg_nm {H : Type} {enc : TypeId × Value → H} {W : World} {v : Value} {d : DataW H} {p : List MemPlace} {ts : List TypeId} {ds : List (DataW H)} {j base : Nat}
    (hv : Value.okWide Try.prog W .any base 38 v)
    (h : ∃ fuel, DataW.trod enc Try.prog W 0 (fun _ => true) true fuel 38 v.cells.toList = some (d, p))
    (hsz : (DataW.weightsEach Try.prog ts ds).all (· ≤ reachBytes) = true) (ht : ts[j]? = some 38) (hd : ds[j]? = some d) :
    ∃ (a : Option Addr) (l : List Int) (c : Nat), v = .slice a l.length c ∧ NmS W.heap.size W a l ∧ (∀ x ∈ l, -9223372036854775808 ≤ x ∧ x ≤ 9223372036854775807) ∧ l.length ≤ c ∧ l.length ≤ 1000000000000000 := by
  obtain ⟨a, len, cap, rfl⟩ := okWide_slice Try.underlying38 hv
  obtain ⟨fuel, hf⟩ := h
  have key : ∀ q, q ∈ d.weights Try.prog 38 → q ≤ reachBytes := fun q hq => of_decide_eq_true (List.all_eq_true.1 hsz _ (DataW.weights_mem_each ht hd _ hq))
  obtain ⟨a, l, c, e, h1, h2, h3, h4, _⟩ := ints_open Try.underlying38 cI4 Try.underlying2 bI8 fuel _ (d, p) (by simpa [Value.cells] using hf) key
  exact ⟨a, l, c, e, h1, fun x hx => bdW (h2 x hx), h3, h4⟩
end Go.Proofs.Ytneefpblfiedbaa

namespace Go.Proofs.Ytneefpblfiedbaa
open Go.ChangeShapes Go.WideShapes Go.ChangeAt Go.RowKit
set_option maxRecDepth 100000
set_option linter.unusedVariables false
set_option linter.unusedSimpArgs false
theorem cIt1 : Try.prog.cellsOf 3 = 1 := by kernel_rfl
theorem bIt8 : 0 < Try.prog.bytesOf 3 := of_decide_eq_true (by kernel_rfl)
theorem cTk4 : Try.prog.cellsOf 62 = 4 := by kernel_rfl
theorem cEv2 : Try.prog.cellsOf 69 = 2 := by kernel_rfl
theorem cTr3 : Try.prog.cellsOf 26 = 3 := by kernel_rfl
theorem cTkL : Try.prog.cellsOf 22 = 1 := by kernel_rfl
theorem cItL : Try.prog.cellsOf 23 = 1 := by kernel_rfl
theorem cEvL : Try.prog.cellsOf 24 = 1 := by kernel_rfl
theorem bTk : 0 < Try.prog.bytesOf 62 := of_decide_eq_true (by kernel_rfl)
theorem bEv : 0 < Try.prog.bytesOf 69 := of_decide_eq_true (by kernel_rfl)
theorem tk_cells {H : Type} {enc : TypeId × Value → H} {W : World} {n : Nat} {cs : List Value} {y : DataW H × List MemPlace} (hl : cs.length = 4) (h2 : DataW.trod enc Try.prog W 0 (fun _ => true) true n 62 cs = some y) : ∃ i : Tp.Tk, cs = [.int .i64 i.kind, .int .i64 i.proc, .int .i64 i.mark, .int .i64 i.depth] ∧ (I64 i.kind ∧ I64 i.proc ∧ I64 i.mark ∧ I64 i.depth) := by
  obtain ⟨xs, k, hk, hxy, _, hxl, hf⟩ := DataW.trod_struct Try.underlying62 h2
  match xs, hxl, cs, hl with
  | [y0, y1, y2, y3], _, [v0, v1, v2, v3], _ =>
    have g0 := hf 0 _ rfl
    have g1 := hf 1 _ rfl
    have g2 := hf 2 _ rfl
    have g3 := hf 3 _ rfl
    simp [cIt1, cI4] at g0 g1 g2 g3
    obtain ⟨a0, b0, d0, wf0⟩ := DataW.trod_int Try.underlying3 g0
    obtain ⟨a1, b1, d1, wf1⟩ := DataW.trod_int Try.underlying3 g1
    obtain ⟨a2, b2, d2, wf2⟩ := DataW.trod_int Try.underlying3 g2
    obtain ⟨a3, b3, d3, wf3⟩ := DataW.trod_int Try.underlying3 g3
    simp at b0 b1 b2 b3
    subst b0 b1 b2 b3
    exact ⟨⟨a0, a1, a2, a3⟩, rfl, bdW wf0, bdW wf1, bdW wf2, bdW wf3⟩
theorem ev_cells {H : Type} {enc : TypeId × Value → H} {W : World} {n : Nat} {cs : List Value} {y : DataW H × List MemPlace} (hl : cs.length = 2) (h2 : DataW.trod enc Try.prog W 0 (fun _ => true) true n 69 cs = some y) : ∃ i : Tp.Ev, cs = [.int .i64 i.kind, .int .i64 i.n] ∧ (I64 i.kind ∧ I64 i.n) := by
  obtain ⟨xs, k, hk, hxy, _, hxl, hf⟩ := DataW.trod_struct Try.underlying69 h2
  match xs, hxl, cs, hl with
  | [y0, y1], _, [v0, v1], _ =>
    have g0 := hf 0 _ rfl
    have g1 := hf 1 _ rfl
    simp [cIt1, cI4] at g0 g1
    obtain ⟨a0, b0, d0, wf0⟩ := DataW.trod_int Try.underlying3 g0
    obtain ⟨a1, b1, d1, wf1⟩ := DataW.trod_int Try.underlying2 g1
    simp at b0 b1
    subst b0 b1
    exact ⟨⟨a0, a1⟩, rfl, bdW wf0, bdW wf1⟩
theorem tks_open {H : Type} {enc : TypeId × Value → H} {W : World} (fuel : Nat) (v : Value) (z : DataW H × List MemPlace) (hf : DataW.trod enc Try.prog W 0 (fun _ => true) true fuel 22 [v] = some z) (hw : ∀ q, q ∈ z.1.weights Try.prog 22 → q ≤ reachBytes) : ∃ (a : Option Addr) (l : List Tp.Tk) (c : Nat), v = .slice a l.length c ∧ TkS W.heap.size W a l ∧ l.length ≤ 1000000000000000 ∧ ∀ x ∈ l, I64 x.kind ∧ I64 x.proc ∧ I64 x.mark ∧ I64 x.depth := by
  rcases sln_open Try.underlying22 cTk4 hf with rfl | ⟨x, cap, elems, rest, n, hn, rfl, hcap, hz, hel⟩
  · exact ⟨none, [], 0, rfl, fun h => absurd h (Nat.lt_irrefl 0), by decide, fun i h => (by cases h)⟩
  · rw [hz] at hw
    have hlen := short_of Try.underlying22 bTk hw
    rw [List.length_map] at hlen
    have each : ∀ i, i < elems.length → ∃ y : Tp.Tk, (I64 y.kind ∧ I64 y.proc ∧ I64 y.mark ∧ I64 y.depth) ∧ W.cell? ((x.add (i * 4)).add 0) = some (.int .i64 y.kind) ∧ W.cell? ((x.add (i * 4)).add 1) = some (.int .i64 y.proc) ∧ W.cell? ((x.add (i * 4)).add 2) = some (.int .i64 y.mark) ∧ W.cell? ((x.add (i * 4)).add 3) = some (.int .i64 y.depth) := by
      intro i hi
      obtain ⟨cs, hcl, hcell, htr⟩ := hel i hi
      obtain ⟨y, rfl, ok⟩ := tk_cells hcl htr
      exact ⟨y, ok, hcell 0 (by simp), hcell 1 (by simp), hcell 2 (by simp), hcell 3 (by simp)⟩
    obtain ⟨l, hll, hQ⟩ := list_of_each elems.length each
    refine ⟨some x, l, cap, by rw [hll], fun h0 => ?_, by omega, fun i hi => ?_⟩
    · obtain ⟨_, _, e0, _⟩ := each 0 (by omega)
      have hsp : ∃ b o, x = ⟨b, o, none⟩ := by
        obtain ⟨bb, oo, ss⟩ := x
        have : ss = none := by simpa [Addr.add] using World.cell?_spot e0
        exact ⟨bb, oo, by rw [this]⟩
      obtain ⟨g, off, rfl⟩ := hsp
      simp only [addT, Nat.add_zero] at hQ e0
      refine ⟨g, off, rfl, World.block_lt_of_cell? W _ e0, fun j i hj => ?_⟩
      exact (hQ j i hj).2
    · obtain ⟨j, hj⟩ := List.getElem?_of_mem hi
      exact (hQ j i hj).1
theorem evs_open {H : Type} {enc : TypeId × Value → H} {W : World} (fuel : Nat) (v : Value) (z : DataW H × List MemPlace) (hf : DataW.trod enc Try.prog W 0 (fun _ => true) true fuel 24 [v] = some z) (hw : ∀ q, q ∈ z.1.weights Try.prog 24 → q ≤ reachBytes) : ∃ (a : Option Addr) (l : List Tp.Ev) (c : Nat), v = .slice a l.length c ∧ EvS W.heap.size W a l ∧ l.length ≤ c ∧ l.length ≤ 1000000000000000 ∧ ∀ x ∈ l, I64 x.kind ∧ I64 x.n := by
  rcases sln_open Try.underlying24 cEv2 hf with rfl | ⟨x, cap, elems, rest, n, hn, rfl, hcap, hz, hel⟩
  · exact ⟨none, [], 0, rfl, fun h => absurd h (Nat.lt_irrefl 0), Nat.le_refl _, by decide, fun i h => (by cases h)⟩
  · rw [hz] at hw
    have hlen := short_of Try.underlying24 bEv hw
    rw [List.length_map] at hlen
    have each : ∀ i, i < elems.length → ∃ y : Tp.Ev, (I64 y.kind ∧ I64 y.n) ∧ W.cell? ((x.add (i * 2)).add 0) = some (.int .i64 y.kind) ∧ W.cell? ((x.add (i * 2)).add 1) = some (.int .i64 y.n) := by
      intro i hi
      obtain ⟨cs, hcl, hcell, htr⟩ := hel i hi
      obtain ⟨y, rfl, ok⟩ := ev_cells hcl htr
      exact ⟨y, ok, hcell 0 (by simp), hcell 1 (by simp)⟩
    obtain ⟨l, hll, hQ⟩ := list_of_each elems.length each
    refine ⟨some x, l, cap, by rw [hll], fun h0 => ?_, by omega, by omega, fun i hi => ?_⟩
    · obtain ⟨_, _, e0, _⟩ := each 0 (by omega)
      have hsp : ∃ b o, x = ⟨b, o, none⟩ := by
        obtain ⟨bb, oo, ss⟩ := x
        have : ss = none := by simpa [Addr.add] using World.cell?_spot e0
        exact ⟨bb, oo, by rw [this]⟩
      obtain ⟨g, off, rfl⟩ := hsp
      simp only [addT, Nat.add_zero] at hQ e0
      refine ⟨g, off, rfl, World.block_lt_of_cell? W _ e0, fun j i hj => ?_⟩
      exact (hQ j i hj).2
    · obtain ⟨j, hj⟩ := List.getElem?_of_mem hi
      exact (hQ j i hj).1
theorem tr_cells {H : Type} {enc : TypeId × Value → H} {W : World} {n : Nat} {cs : List Value} {y : DataW H × List MemPlace} (hl : cs.length = 3) (h2 : DataW.trod enc Try.prog W 0 (fun _ => true) true n 26 cs = some y) (hw : ∀ q, q ∈ y.1.weights Try.prog 26 → q ≤ reachBytes) :
    ∃ (ta ca ea : Option Addr) (tc cc ec : Nat) (t : Tp.Tr), cs = [.slice ta t.ticks.length tc, .slice ca t.counts.length cc, .slice ea t.events.length ec] ∧ TrS W.heap.size W ta ca ea tc cc ec t := by
  obtain ⟨xs, k, hk, hxy, _, hxl, hf⟩ := DataW.trod_struct Try.underlying26 h2
  match xs, hxl, cs, hl with
  | [y0, y1, y2], _, [v0, v1, v2], _ =>
    have g0 := hf 0 _ rfl
    have g1 := hf 1 _ rfl
    have g2 := hf 2 _ rfl
    simp [cTkL, cItL, cEvL] at g0 g1 g2
    have hd' : y.1 = .agg [y0.1, y1.1, y2.1] := (Prod.ext_iff.1 hxy).1
    rw [hd', DataW.weights, Try.underlying26] at hw
    simp [DataW.weightsEach] at hw
    obtain ⟨ta, tl, tc, rfl, t1, t2, t3⟩ := tks_open k v0 y0 g0 (fun q hq => hw q (.inl hq))
    obtain ⟨ca, cl, cc, rfl, c1, c2, c3, c4, _⟩ := ints_open Try.underlying23 cIt1 Try.underlying3 bIt8 k v1 y1 g1 (fun q hq => hw q (.inr (.inl hq)))
    obtain ⟨ea, el, ec, rfl, e1, e2, e3, e4⟩ := evs_open k v2 y2 g2 (fun q hq => hw q (.inr (.inr hq)))
    exact ⟨ta, ca, ea, tc, cc, ec, ⟨tl, cl, el⟩, rfl, t1, c1, e1, e2, t2, c4, e3, t3, fun x hx => bdW (c2 x hx), e4⟩
theorem arg_tr {H : Type} {enc : TypeId × Value → H} {W : World} {v : Value} {d : DataW H} {p : List MemPlace} {ts : List TypeId} {ds : List (DataW H)} {j base : Nat}
    (hv : Value.okWide Try.prog W .any base 26 v)
    (h : ∃ fuel, DataW.trod enc Try.prog W 0 (fun _ => true) true fuel 26 v.cells.toList = some (d, p))
    (hsz : (DataW.weightsEach Try.prog ts ds).all (· ≤ reachBytes) = true) (ht : ts[j]? = some 26) (hd : ds[j]? = some d) :
    ∃ (ta ca ea : Option Addr) (tc cc ec : Nat) (t : Tp.Tr), v = trV ta ca ea tc cc ec t ∧ TrS W.heap.size W ta ca ea tc cc ec t := by
  obtain ⟨cs, rfl, hc⟩ := okWide_struct Try.underlying26 hv
  rw [cTr3] at hc
  obtain ⟨fuel, hf⟩ := h
  have e0 : (Value.agg cs).cells.toList = cs.toList := by simp [Value.cells]
  rw [e0] at hf
  have key : ∀ q, q ∈ d.weights Try.prog 26 → q ≤ reachBytes := fun q hq => of_decide_eq_true (List.all_eq_true.1 hsz _ (DataW.weights_mem_each ht hd _ hq))
  obtain ⟨ta, ca, ea, tc, cc, ec, t, hcs, ok⟩ := tr_cells (by simpa using hc) hf key
  refine ⟨ta, ca, ea, tc, cc, ec, t, ?_, ok⟩
  have : cs = #[.slice ta t.ticks.length tc, .slice ca t.counts.length cc, .slice ea t.events.length ec] := by
    cases cs with | mk l => simp at hcs; rw [hcs]
  rw [this]
  rfl
end Go.Proofs.Ytneefpblfiedbaa
