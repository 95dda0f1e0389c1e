/- Layer 13: what TapeBack wants of each call, of traces. -/
/- Layer 13: TapeBack. -/
/- Layer 13: arguments that are bytes and numbers: what their readings give. -/
/- Layer 13: an argument that is a trace: what its reading gives. -/
/- TapeBack: at every input the call answers true and leaves the input as it was. No condition. -/
import Derived.Test.YtkdnokdppjgkpaaZTtX
import Derived.Test.YtkdnokdppjgkpaaZTpF
import Derived.ProofKit
import Derived.OpenShut
import Derived.ChangeOld
import Derived.Below
import Derived.Lay
import Derived.SizedLaws
import Derived.Test.YtkdnokdppjgkpaaZTtT
import Derived.Test.YtkdnokdppjgkpaaRows
namespace Go.Proofs.Ytkdnokdppjgkpaa
open Go.RowKit
set_option linter.unusedVariables false
set_option linter.unusedSimpArgs false
/-- What is sure of a trace wherever it lies. -/
structure TrB (t : Tp.Tr) : Prop where
  l1 : t.ticks.length ≤ 1000000000000000
  l2 : t.counts.length ≤ 1000000000000000
  l3 : t.events.length ≤ 1000000000000000
  rt : ∀ x ∈ t.ticks, I64 x.kind ∧ I64 x.proc ∧ I64 x.mark ∧ I64 x.depth
  rc : ∀ x ∈ t.counts, I64 x
  re : ∀ x ∈ t.events, I64 x.kind ∧ I64 x.n
theorem TrS.tb {B : Nat} {w : World} {ta ca ea : Option Addr} {tc cc ec : Nat} {t : Tp.Tr} (h : TrS B w ta ca ea tc cc ec t) : TrB t := ⟨h.l1, h.l2, h.l3, h.rt, h.rc, h.re⟩
theorem okC_bd (m : Int) : ∀ (cs : List Int) (told : Int), 0 ≤ told → Tp.okC m told cs = true → ∀ x ∈ cs, 0 ≤ x ∧ x ≤ m
  | [], told, h0, h, x, hx => by cases hx
  | c :: cs, told, h0, h, x, hx => by
    rw [Tp.okC] at h
    split at h
    · cases h
    · rename_i hc
      rcases List.mem_cons.1 hx with rfl | hx
      · omega
      · exact okC_bd m cs c (by omega) h x hx
theorem sof_tb {t : Tp.Tr} (h : Tp.Sof t) (h1 : t.ticks.length ≤ 3000) (h3 : t.events.length ≤ 3000) : TrB t := by
  have hc := h.c
  refine ⟨by omega, by omega, by omega, fun x hx => ?_, fun x hx => ?_, fun x hx => ?_⟩
  · have := h.tt x hx
    unfold Tp.okT Tp.bet at this
    simp only [Bool.and_eq_true, decide_eq_true_eq] at this
    unfold I64
    omega
  · have := okC_bd _ _ _ (Int.le_refl 0) h.o x hx
    unfold I64
    omega
  · have h2 := h.n x hx
    have := h.e x hx
    unfold Tp.okE Tp.bet at this
    simp only [Bool.and_eq_true, decide_eq_true_eq] at this
    unfold I64
    omega
/-- A reading of a trace: its error, and the trace where there is none. -/
def RtQ (g0 : Int) (t : Tp.Tr) (W : World) (e : Ending) (w' : World) : Prop := ∃ ta n1 tc ca n2 cc ea n3 ec ih h0, e = .returned (.tuple #[.agg #[.slice ta n1 tc, .slice ca n2 cc, .slice ea n3 ec], .int .i64 ih, .int .i64 h0]) ∧ Hid ((g0 = 0 → h0 = 0 ∧ n1 = t.ticks.length ∧ n2 = t.counts.length ∧ n3 = t.events.length ∧ TrS w'.heap.size w' ta ca ea tc cc ec t) ∧ Below W.heap.size W w')
theorem trs_of {w' : World} {t : Tp.Tr} {tv cv ev : Value} {b1 : Nat} (hb : TrB t) (o1 : w'.ownsRow b1 62 4 tv t.ticks.length (tkC t.ticks)) (o2 : w'.ownsRow b1 3 1 cv t.counts.length (nmC t.counts)) (o3 : w'.ownsRow b1 69 2 ev t.events.length (evC t.events)) :
    ∃ ta tc ca cc ea ec, tv = .slice ta t.ticks.length tc ∧ cv = .slice ca t.counts.length cc ∧ ev = .slice ea t.events.length ec ∧ TrS w'.heap.size w' ta ca ea tc cc ec t := by
  obtain ⟨ta, tc, rfl⟩ := ownShT o1
  obtain ⟨ca, cc, rfl⟩ := ownShT o2
  obtain ⟨ea, ec, rfl⟩ := ownShT o3
  have h3 := own_evs o3
  exact ⟨ta, tc, ca, cc, ea, ec, rfl, rfl, rfl, own_tks o1, own_nmsT o2, h3.1, h3.2, hb.l1, hb.l2, hb.l3, hb.rt, hb.rc, hb.re⟩
theorem rtq_of {w : World} {b : List Int} {e : Ending} {w' : World} (h : rtQ w e w' (Tp.rtB b)) (g0 : Int) (t : Tp.Tr) (ht : g0 = 0 → (∃ s j, Tp.rtB b = .good t s j) ∧ TrB t) : RtQ g0 t w e w' := by
  cases hr : Tp.rtB b with
  | bad t' s i x =>
    rw [hr] at h
    obtain ⟨e1, b1⟩ := h
    exact ⟨none, 0, 0, none, 0, 0, none, 0, 0, i, x, e1, ⟨fun h0 => (by obtain ⟨⟨s, j, hj⟩, -⟩ := ht h0; rw [hr] at hj; cases hj), b1⟩⟩
  | good t' s j =>
    rw [hr] at h
    obtain ⟨tv, cv, ev, e1, o1, o2, o3, b1⟩ := h
    obtain ⟨ta, tc, rfl⟩ := ownShT o1
    obtain ⟨ca, cc, rfl⟩ := ownShT o2
    obtain ⟨ea, ec, rfl⟩ := ownShT o3
    refine ⟨ta, _, tc, ca, _, cc, ea, _, ec, 0, 0, e1, ⟨fun h0 => ?_, b1⟩⟩
    obtain ⟨⟨s', j', hj⟩, hb⟩ := ht h0
    rw [hr] at hj
    injection hj with h3 h4 h5
    subst h3
    have h3 := own_evs o3
    exact ⟨rfl, rfl, rfl, rfl, own_tks o1, own_nmsT o2, h3.1, h3.2, hb.l1, hb.l2, hb.l3, hb.rt, hb.rc, hb.re⟩
theorem wt_back (w : World) (ta ca ea : Option Addr) (tc cc ec : Nat) (t : Tp.Tr) (ht : TrS w.heap.size w ta ca ea tc cc ec t) (m1 : t.ticks.length ≤ 500) (m2 : t.counts.length ≤ 500) (m3 : t.events.length ≤ 500) :
    ∃ g0 : Int, (g0 = 0 → t.counts.length = t.ticks.length) ∧ ∀ W, Below w.heap.size w W → Calls Try.prog 9 #[trV ta ca ea tc cc ec t] W fun e w' => ∃ xa xn xc, e = .returned (.tuple #[.slice xa xn xc, .int .i64 g0]) ∧ Hid (Calls Try.prog 11 #[.slice xa xn xc] w' (RtQ g0 t w') ∧ Below W.heap.size W w') := by
  have hw := fun W (q : Below w.heap.size w W) => writeTr_any t ta ca ea tc cc ec W ((ht.later q (Nat.le_refl _)).mono q.size) (by omega) (by omega) (by omega)
  by_cases hR : Tp.rightT t = true
  · refine ⟨0, fun _ => (right_rg hR).c, fun W q => (hw W q).mono ?_⟩
    simp only [wtQ, if_pos hR]
    rintro e w' ⟨v, rfl, o, k⟩
    obtain ⟨g, cap, rfl, hb, hcap, B⟩ := o.open' (Tp.wt_pos t)
    refine ⟨_, _, _, rfl, ⟨?_, k⟩⟩
    have r := readTr_any (Tp.wt t) (some ⟨g, 0, none⟩) cap w' (Tp.Byt.app (bodyT_byt t (right_rg hR) (fun x hx => (ht.re x hx).2)) (Tp.sl4_byt _)) B.bys (Nat.le_refl _) hcap (Nat.le_trans (Tp.wt_len2 t hR m1 m3) (by decide))
    exact r.mono fun e w1 h1 => rtq_of h1 0 t (fun _ => ⟨Tp.rt_wt t hR (fun x hx => (ht.re x hx).2), ht.tb⟩)
  · refine ⟨32, fun h => absurd h (by decide), fun W q => (hw W q).mono ?_⟩
    simp only [wtQ, if_neg hR]
    rintro e w' ⟨rfl, k⟩
    refine ⟨none, 0, 0, rfl, ⟨?_, k⟩⟩
    have r := readTr_any [] none 0 w' (fun c hc => by cases hc) (B := w'.heap.size) (fun h => absurd h (by decide)) (Nat.le_refl _) (Nat.le_refl _) (by decide)
    exact r.mono fun e w1 h1 => rtq_of h1 32 t (fun h => absurd h (by decide))
theorem ri_backC (w : World) (a : Option Addr) (b : List Int) (c : Nat) (hm : ByS w.heap.size w a b) (hy : Tp.Byt b) (hc : b.length ≤ c) (hl : b.length ≤ 3000 ∨ 4194304 < b.length) (hl2 : b.length ≤ 1000000000000000) :
    ∃ i0 : Int, (i0 = 0 → 0 < b.length) ∧ ∀ W, Below w.heap.size w W → Calls Try.prog 15 #[.slice a b.length c] W fun e w' => ∃ na nn nc ip, e = .returned (.tuple #[.slice na nn nc, .int .i64 ip, .int .i64 i0]) ∧ Hid ((i0 = 0 → Calls Try.prog 14 #[.slice na nn nc] w' (TwQ b 0 w')) ∧ Below W.heap.size W w') := by
  rcases hl with hl | hl
  · have p1 := fun W (q : Below w.heap.size w W) => readIn_any b a c W hy (hm.later q (Nat.le_refl _)) q.size hc (by omega)
    cases hr : Tp.riB b with
    | bad i x =>
      refine ⟨x, fun h => absurd h (Tp.riB_err _ _ _ hr), fun W q => (p1 W q).mono fun e w' h => ?_⟩
      obtain ⟨na, nc, e1, -, b1⟩ := (trOf h).1 i x hr
      exact ⟨na, _, nc, _, e1, ⟨fun h0 => absurd h0 (Tp.riB_err _ _ _ hr), b1⟩⟩
    | good l j =>
      obtain ⟨h1, h2, h3⟩ := Tp.ri_back b hy l j hr
      have hpos : 0 < b.length := by rw [← h1]; exact wi_pos l
      refine ⟨0, fun _ => hpos, fun W q => (p1 W q).mono fun e w' h => ?_⟩
      obtain ⟨na, nc, e1, n1, b1⟩ := (trOf h).2 l j hr
      refine ⟨na, _, nc, _, e1, ⟨fun _ => ?_, b1⟩⟩
      have r := writeIn_any l na nc w' n1 (Nat.le_refl _) h2 h3
      rw [h1] at r
      exact r.mono fun e w2 h => twOf h hpos
  · refine ⟨2, fun h => absurd h (by decide), fun W q => (readIn_long b.length a c W hl (by omega)).mono ?_⟩
    rintro e w' ⟨rfl, rfl⟩
    exact ⟨none, 0, 0, 0, rfl, ⟨fun h => absurd h (by decide), Below.refl _ _⟩⟩
theorem rt_backC (w : World) (a : Option Addr) (b : List Int) (c : Nat) (hm : ByS w.heap.size w a b) (hy : Tp.Byt b) (hc : b.length ≤ c) (hl : b.length ≤ 3000 ∨ 4194304 < b.length) (hl2 : b.length ≤ 1000000000000000) :
    ∃ i0 : Int, (i0 = 0 → 0 < b.length) ∧ ∀ W, Below w.heap.size w W → Calls Try.prog 11 #[.slice a b.length c] W fun e w' => ∃ ta n1 tc ca n2 cc ea n3 ec ih, e = .returned (.tuple #[.agg #[.slice ta n1 tc, .slice ca n2 cc, .slice ea n3 ec], .int .i64 ih, .int .i64 i0]) ∧ Hid ((i0 = 0 → ∀ w2, Below w'.heap.size w' w2 → Calls Try.prog 9 #[.agg #[.slice ta n1 tc, .slice ca n2 cc, .slice ea n3 ec]] w2 (TwQ b 0 w2)) ∧ Below W.heap.size W w') := by
  rcases hl with hl | hl
  · have p1 := fun W (q : Below w.heap.size w W) => readTr_any b a c W hy (hm.later q (Nat.le_refl _)) q.size hc (by omega)
    cases hr : Tp.rtB b with
    | bad t s i x =>
      rw [hr] at p1
      refine ⟨x, fun h => absurd h (Tp.rtB_err _ hy _ _ _ _ hr), fun W q => (p1 W q).mono fun e w' h => ?_⟩
      obtain ⟨e1, b1⟩ := h
      exact ⟨none, 0, 0, none, 0, 0, none, 0, 0, _, e1, ⟨fun h0 => absurd h0 (Tp.rtB_err _ hy _ _ _ _ hr), b1⟩⟩
    | good t s j =>
      rw [hr] at p1
      obtain ⟨h1, h2, h3⟩ := Tp.rt_back b hy t s j hr
      have hpos : 0 < b.length := by rw [← h1]; exact Tp.wt_pos t
      have hg := Tp.recs_ge t.events t.ticks t.counts 0 h2.c h2.o
      have hbl : (Tp.recs t.events t.ticks t.counts 0).length ≤ b.length := by
        rw [← h1]
        simp only [Tp.wt, Tp.bodyT, List.length_append]
        omega
      have hb := sof_tb h2 (by omega) (by omega)
      refine ⟨0, fun _ => hpos, fun W q => (p1 W q).mono fun e w' h => ?_⟩
      obtain ⟨tv, cv, ev, e1, o1, o2, o3, b1⟩ := h
      obtain ⟨ta, tc, ca, cc, ea, ec, rfl, rfl, rfl, ts⟩ := trs_of hb o1 o2 o3
      refine ⟨ta, _, tc, ca, _, cc, ea, _, ec, _, e1, ⟨fun _ w2 q2 => ?_, b1⟩⟩
      have r := writeTr_any t ta ca ea tc cc ec w2 ((ts.later q2 (Nat.le_refl _)).mono q2.size) (by omega) (by have := h2.c; omega) (by omega)
      refine r.mono fun e w3 h => ?_
      simp only [wtQ, if_pos h3] at h
      rw [h1] at h
      exact twOf h hpos
  · refine ⟨2, fun h => absurd h (by decide), fun W q => (readTr_long b.length a c W hl (by omega)).mono ?_⟩
    rintro e w' ⟨rfl, k⟩
    exact ⟨none, 0, 0, none, 0, 0, none, 0, 0, 0, rfl, ⟨fun h => absurd h (by decide), k⟩⟩
theorem cv_arg (w : World) (a : Option Addr) (b : List Int) (c : Nat) (hm : ByS w.heap.size w a b) (h0 : 0 < b.length) : ∀ W, Below w.heap.size w W → (convert 27 9 (.slice a b.length c)).run Try.prog W = .ok (.string (strOfNums b)) W := fun W q => by
  obtain ⟨g, o, rfl, hg, hc⟩ := hm h0
  exact cv_at W g o c b fun j x hj => (q.cell (p := ⟨g, o + j, none⟩) hg).trans (hc j x hj)
end Go.Proofs.Ytkdnokdppjgkpaa

namespace Go.Proofs.Ytkdnokdppjgkpaa
open Go.RowKit
set_option linter.unusedVariables false
set_option linter.unusedSimpArgs false
theorem box3T (W : World) (x y z : Value) (T : TypeId) {M : Nat} (h : W.heap[M]? = some (.cells #[x, y, z] T (0, 0))) : W.cell? ⟨M, 0, none⟩ = some x ∧ W.cell? ⟨M, 1, none⟩ = some y ∧ W.cell? ⟨M, 2, none⟩ = some z := by
  refine ⟨?_, ?_, ?_⟩ <;> simp [World.cell?, h]
theorem belTo {w W0 W : World} (h0 : Below w.heap.size w W0) (h : Below W0.heap.size W0 W) : Below w.heap.size w W := h0.trans (h.mono h0.size)
set_option maxRecDepth 100000 in
set_option maxHeartbeats 4000000 in
theorem back_walk (w : World) (a0 : Option Addr) (l : List Int) (c0 : Nat) (hm0 : NmS w.heap.size w a0 l) (hr : ∀ x ∈ l, -9223372036854775808 ≤ x ∧ x ≤ 9223372036854775807) (_hc0 : l.length ≤ c0) (hl0 : l.length ≤ 1000000000000000) (ta ca ea : Option Addr) (tc cc ec : Nat) (t : Tp.Tr) (ht : TrS w.heap.size w ta ca ea tc cc ec t) (a : Option Addr) (b : List Int) (c : Nat) (hm : ByS w.heap.size w a b) (hy : Tp.Byt b) (hc : b.length ≤ c) (hl : b.length ≤ 1000000000000000) :
    Calls Try.prog 4 #[.slice a0 l.length c0, trV ta ca ea tc cc ec t, .slice a b.length c] w fun e w' => e = .returned (.bool true) ∧ Below w.heap.size w w' := by
  have EM := hidT (many_any ta ca ea tc cc ec t.ticks.length t.counts.length t.events.length)
  have EL := hidT (fun W => long_any W a b.length c (by omega))
  unfold trV
  obtain ⟨M, hM⟩ : ∃ M, M = w.heap.size := ⟨_, rfl⟩
  obtain ⟨W0, hW0⟩ : ∃ W, W = w.alloc (.cells #[.slice ta t.ticks.length tc, .slice ca t.counts.length cc, .slice ea t.events.length ec] 26) := ⟨_, rfl⟩
  have K0 : Hid (Below w.heap.size w W0) := by rw [hW0]; exact (Below.refl _ _).alloc (Nat.le_refl _) _
  have HC : Hid (∀ W, Below W0.heap.size W0 W → W.cell? ⟨M, 0, none⟩ = some (.slice ta t.ticks.length tc) ∧ W.cell? ⟨M, 1, none⟩ = some (.slice ca t.counts.length cc) ∧ W.cell? ⟨M, 2, none⟩ = some (.slice ea t.events.length ec)) := fun W q => by
    refine box3T W _ _ _ 26 ?_
    rw [q.block M (by rw [hW0, hM]; simp), hW0, hM]
    exact heap_alloc_new w _
  have HM := hidT hM
  have HW0 := hidT hW0
  have R0 : Hid (Below W0.heap.size W0 W0) := Below.refl _ _
  have KNW : Hid (∀ W, Below W0.heap.size W0 W → Calls Try.prog 8 #[] W fun e w' => e = .returned (.bool true) ∧ Below w.heap.size w w') := fun W q => (known13 W).mono fun e w' h => ⟨h.1, belTo (belTo K0.out q) h.2⟩
  by_cases hb : 3000 < b.length ∧ b.length ≤ 4194304
  · rw [decide_eq_true hb] at EL
    clear hb ht hm0 hr _hc0 hl0 hm hy hc hl hW0 hM
    generalize t.ticks.length = n1 at *
    generalize t.counts.length = n2 at *
    generalize t.events.length = n3 at *
    generalize l.length = n0 at *
    generalize b.length = nb at *
    go_enter Try.func4, Try.ntmps4
    go_upto_region 1 with fail
    rw [← HW0.out, ← HM.out]
    go_wp2_with fail
    refine (EL.out _).mono ?_
    rintro e w3 ⟨rfl, rfl⟩
    go_wp2_with fail
    refine (KNW.out _ R0.out).mono ?_
    rintro e w4 ⟨rfl, k4⟩
    have K4 := hidT k4
    clear k4
    go_wp2_with fail
    go_ret
    exact ⟨rfl, K4.out⟩
  rw [decide_eq_false hb] at EL
  by_cases hmany : 500 < t.ticks.length ∨ 500 < t.counts.length ∨ 500 < t.events.length
  · rw [decide_eq_true hmany] at EM
    clear hmany hb ht hm0 hr _hc0 hl0 hm hy hc hl hW0 hM
    generalize t.ticks.length = n1 at *
    generalize t.counts.length = n2 at *
    generalize t.events.length = n3 at *
    generalize l.length = n0 at *
    generalize b.length = nb at *
    go_enter Try.func4, Try.ntmps4
    go_upto_region 1 with fail
    rw [← HW0.out, ← HM.out]
    go_wp2_with fail
    refine (EL.out _).mono ?_
    rintro e w3 ⟨rfl, rfl⟩
    obtain ⟨t0, t1, t2⟩ := HC.out _ R0.out
    go_wp2_with fail
    refine (EM.out _).mono ?_
    rintro e w4 ⟨rfl, k4⟩
    have K4 := hidT k4
    clear k4
    go_wp2_with fail
    refine (KNW.out _ K4.out).mono ?_
    rintro e w5 ⟨rfl, k5⟩
    have K5 := hidT k5
    clear k5
    go_wp2_with fail
    go_ret
    exact ⟨rfl, K5.out⟩
  rw [decide_eq_false hmany] at EM
  by_cases h11 : 1100 < l.length
  · have d : decide ((1100 : Int) < (l.length : Int)) = true := decide_eq_true (by omega)
    clear h11 hmany hb ht hm0 hr _hc0 hl0 hm hy hc hl hW0 hM
    generalize t.ticks.length = n1 at *
    generalize t.counts.length = n2 at *
    generalize t.events.length = n3 at *
    generalize l.length = n0 at *
    generalize b.length = nb at *
    go_enter Try.func4, Try.ntmps4
    go_upto_region 1 with fail
    rw [← HW0.out, ← HM.out]
    go_wp2_with fail
    refine (EL.out _).mono ?_
    rintro e w3 ⟨rfl, rfl⟩
    obtain ⟨t0, t1, t2⟩ := HC.out _ R0.out
    go_wp2_with fail
    refine (EM.out _).mono ?_
    rintro e w4 ⟨rfl, k4⟩
    have K4 := hidT k4
    clear k4
    go_wp2_with fail
    refine (KNW.out _ K4.out).mono ?_
    rintro e w5 ⟨rfl, k5⟩
    have K5 := hidT k5
    clear k5
    go_wp2_with fail
    go_ret
    exact ⟨rfl, K5.out⟩
  have d : decide ((1100 : Int) < (l.length : Int)) = false := decide_eq_false (by omega)
  obtain ⟨e0, EW0⟩ := wi_back w a0 l c0 hm0 hr (by omega)
  obtain ⟨g0, hg0, EG0⟩ := wt_back w ta ca ea tc cc ec t ht (by omega) (by omega) (by omega)
  obtain ⟨i0, hi0, EI0⟩ := ri_backC w a b c hm hy hc (by omega) hl
  obtain ⟨r0, hr0, ER0⟩ := rt_backC w a b c hm hy hc (by omega) hl
  have EW := hidT (fun W (q : Below W0.heap.size W0 W) => EW0 W (belTo K0.out q))
  have EG := hidT (fun W (q : Below W0.heap.size W0 W) => EG0 W (belTo K0.out q))
  have EI := hidT (fun W (q : Below W0.heap.size W0 W) => EI0 W (belTo K0.out q))
  have ER := hidT (fun W (q : Below W0.heap.size W0 W) => ER0 W (belTo K0.out q))
  have NY : Hid (∀ W ma mc, Below W0.heap.size W0 W → NmS W.heap.size W ma l → Calls Try.prog 16 #[.slice a0 l.length c0, .slice ma l.length mc] W fun e w' => e = .returned (.bool true) ∧ Below W.heap.size W w') := fun W ma mc q h => nums_yes W a0 ma c0 mc l ((hm0.later (belTo K0.out q) (Nat.le_refl _)).mono (belTo K0.out q).size) h (by omega)
  have SY : Hid (g0 = 0 → ∀ W tb cb eb td cd ed, Below W0.heap.size W0 W → TrS W.heap.size W tb cb eb td cd ed t → Calls Try.prog 13 #[trV ta ca ea tc cc ec t, trV tb cb eb td cd ed t] W fun e w' => e = .returned (.bool true) ∧ Below W.heap.size W w') := fun h0 W tb cb eb td cd ed q h => sameTr_yes W ta ca ea tb cb eb tc cc ec td cd ed t ((ht.later (belTo K0.out q) (Nat.le_refl _)).mono (belTo K0.out q).size) h (hg0 h0) (by omega) (by omega)
  have CB : Hid (0 < b.length → ∀ W, Below W0.heap.size W0 W → (convert 27 9 (.slice a b.length c)).run Try.prog W = .ok (.string (strOfNums b)) W) := fun h W q => cv_arg w a b c hm h W (belTo K0.out q)
  have HI0 := hidT hi0
  have HR0 := hidT hr0
  unfold trV at EG SY
  have SEQ := str_eq b
  have SEQL := str_eqL b
  clear h11 hmany hb ht hm0 hr _hc0 hl0 hm hy hc hl hW0 hM EW0 EG0 EI0 ER0 hg0 hi0 hr0
  obtain ⟨n1, hn1⟩ : ∃ n, n = t.ticks.length := ⟨_, rfl⟩
  obtain ⟨n2, hn2⟩ : ∃ n, n = t.counts.length := ⟨_, rfl⟩
  obtain ⟨n3, hn3⟩ : ∃ n, n = t.events.length := ⟨_, rfl⟩
  obtain ⟨n0, hn0⟩ : ∃ n, n = l.length := ⟨_, rfl⟩
  have HN : Hid (n1 = t.ticks.length ∧ n2 = t.counts.length ∧ n3 = t.events.length ∧ n0 = l.length) := ⟨hn1, hn2, hn3, hn0⟩
  rw [← hn1, ← hn2, ← hn3] at HC EM EG SY HW0
  rw [← hn1, ← hn2, ← hn3, ← hn0]
  rw [← hn0] at EW NY d
  clear hn0 hn1 hn2 hn3
  generalize b.length = nb at *
  go_enter Try.func4, Try.ntmps4
  go_upto_region 1 with fail
  rw [← HW0.out, ← HM.out]
  go_wp2_with fail
  refine (EL.out _).mono ?_
  rintro e w3 ⟨rfl, hw3⟩
  rw [hw3]
  clear hw3
  obtain ⟨t0, t1, t2⟩ := HC.out _ R0.out
  go_wp2_with fail
  refine (EM.out _).mono ?_
  rintro e w4 ⟨rfl, k4⟩
  have K4 := hidT k4
  clear k4 EL EM t0 t1 t2
  go_wp2_with fail
  refine (EW.out w4 K4.out).mono ?_
  rintro e w5 ⟨xa, xn, xc, rfl, X5⟩
  have K5 : Hid (Below W0.heap.size W0 w5) := belTo K4.out X5.out.2
  have C5 := hidT X5.out.1
  clear X5 EW
  go_wp2_with fail
  refine C5.out.mono ?_
  rintro e w6 ⟨ma, mn, mc, im, f0, rfl, X6⟩
  have K6 : Hid (Below W0.heap.size W0 w6) := belTo K5.out X6.out.2
  clear C5
  go_upto_region 5 with fail
  go_cut [60] from 49 to 60 (fun s wx => s = .bool false ∧ Hid (Below W0.heap.size W0 wx))
  case first =>
    by_cases h0 : e0 = 0
    · obtain ⟨e1, e2, hms⟩ := X6.out.1 h0
      rw [← HN.out.2.2.2] at e2
      subst e1 e2
      subst h0
      have NN := hidT (NY.out w6 ma mc K6.out hms)
      clear hms X6
      go_wp2_with fail
      refine NN.out.mono ?_
      rintro e w7 ⟨rfl, k7⟩
      have K7 : Hid (Below W0.heap.size W0 w7) := belTo K6.out k7
      clear k7 NN
      go_wp2_with fail
      go_meet
      exact ⟨rfl, K7.out⟩
    · have q0 : (e0 == 0) = false := by simpa using h0
      clear h0 X6
      go_wp2_with fail
      go_meet
      exact ⟨rfl, K6.out⟩
  case rest =>
    obtain ⟨rfl, K7⟩ := hcut
    obtain ⟨W7, hW7⟩ : ∃ W7, W7 = wc := ⟨_, rfl⟩
    subst hW7
    obtain ⟨t0, t1, t2⟩ := HC.out _ K7.out
    have G7 := hidT (EG.out W7 K7.out)
    clear EG X6 NY
    go_wp2_with fail
    refine G7.out.mono ?_
    rintro e w8 ⟨ya, yn, yc, rfl, X8⟩
    have K8 : Hid (Below W0.heap.size W0 w8) := belTo K7.out X8.out.2
    have C8 := hidT X8.out.1
    clear X8 G7 t0 t1 t2
    go_wp2_with fail
    refine C8.out.mono ?_
    rintro e w9 ⟨tb, m1, td, cb, m2, cd, eb, m3, ed, ih, h0, rfl, X9⟩
    have K9 : Hid (Below W0.heap.size W0 w9) := belTo K8.out X9.out.2
    clear C8
    obtain ⟨M2, hM2⟩ : ∃ M2, M2 = w9.heap.size := ⟨_, rfl⟩
    obtain ⟨W10, hW10⟩ : ∃ W, W = w9.alloc (.cells #[.slice tb m1 td, .slice cb m2 cd, .slice eb m3 ed] 26) := ⟨_, rfl⟩
    have b10 : Below w9.heap.size w9 W10 := by rw [hW10]; exact (Below.refl _ _).alloc (Nat.le_refl _) _
    have K10 : Hid (Below W0.heap.size W0 W10) := belTo K9.out b10
    have B10 := hidT b10
    obtain ⟨s0, s1, s2⟩ := box3T W10 (.slice tb m1 td) (.slice cb m2 cd) (.slice eb m3 ed) 26 (M := M2) (by rw [hW10, hM2]; exact heap_alloc_new w9 _)
    have HM2 := hidT hM2
    have HW10 := hidT hW10
    clear hM2 hW10 b10
    go_upto_region 9 with fail
    rw [← HW10.out, ← HM2.out]
    obtain ⟨t0, t1, t2⟩ := HC.out _ K10.out
    go_cut [83] from 72 to 83 (fun s wx => s = .bool false ∧ Hid (Below W0.heap.size W0 wx))
    case first =>
      by_cases hg : g0 = 0
      · obtain ⟨e1, e2, e3, e4, hts⟩ := X9.out.1 hg
        rw [← HN.out.1] at e2
        rw [← HN.out.2.1] at e3
        rw [← HN.out.2.2.1] at e4
        subst e1 e2 e3 e4
        have NN := hidT (SY.out hg W10 tb cb eb td cd ed K10.out ((hts.later B10.out (Nat.le_refl _)).mono B10.out.size))
        have q0 : (g0 == 0) = true := by rw [hg]; exact beq_self_eq_true _
        clear hts X9 hg
        go_wp2_with fail
        refine NN.out.mono ?_
        rintro e w11 ⟨rfl, k11⟩
        have K11 : Hid (Below W0.heap.size W0 w11) := belTo K10.out k11
        clear k11 NN
        go_wp2_with fail
        go_meet
        exact ⟨rfl, K11.out⟩
      · have q0 : (g0 == 0) = false := by simpa using hg
        clear hg X9
        go_wp2_with fail
        go_meet
        exact ⟨rfl, K10.out⟩
    case rest =>
      obtain ⟨rfl, K11⟩ := hcut
      obtain ⟨W11, hW11⟩ : ∃ W, W = wc := ⟨_, rfl⟩
      subst hW11
      clear t0 t1 t2 s0 s1 s2 X9 SY HW10 HM2 B10
      go_wp2_with fail
      refine (EI.out W11 K11.out).mono ?_
      rintro e w12 ⟨na, nn, nc, ip, rfl, X12⟩
      have K12 : Hid (Below W0.heap.size W0 w12) := belTo K11.out X12.out.2
      by_cases hi : i0 = 0
      · have q0 : (i0 == 0) = true := by rw [hi]; exact beq_self_eq_true _
        have C12 := hidT (X12.out.1 hi)
        have CB2 := hidT (CB.out (HI0.out hi))
        clear X12 CB hi
        go_wp2_with fail
        refine C12.out.mono ?_
        rintro e w13 ⟨za, zn, zc, rfl, cz, k13⟩
        have K13 : Hid (Below W0.heap.size W0 w13) := belTo K12.out k13
        have z1 := cz w13 (Below.refl _ _)
        have z2 := CB2.out w13 K13.out
        clear k13 cz C12
        go_wp2_with fail
        refine (KNW.out _ K13.out).mono ?_
        rintro e w14 ⟨rfl, k14⟩
        have K14 := hidT k14
        clear k14
        go_wp2_with fail
        go_ret
        exact ⟨rfl, K14.out⟩
      · have q0 : (i0 == 0) = false := by simpa using hi
        clear X12 hi
        go_wp2_with fail
        refine (ER.out w12 K12.out).mono ?_
        rintro e w13 ⟨tb2, m12, td2, cb2, m22, cd2, eb2, m32, ed2, ih2, rfl, X13⟩
        have K13 : Hid (Below W0.heap.size W0 w13) := belTo K12.out X13.out.2
        obtain ⟨M3, hM3⟩ : ∃ M2, M2 = w13.heap.size := ⟨_, rfl⟩
        obtain ⟨W14, hW14⟩ : ∃ W, W = w13.alloc (.cells #[.slice tb2 m12 td2, .slice cb2 m22 cd2, .slice eb2 m32 ed2] 26) := ⟨_, rfl⟩
        have b14 : Below w13.heap.size w13 W14 := by rw [hW14]; exact (Below.refl _ _).alloc (Nat.le_refl _) _
        have K14 : Hid (Below W0.heap.size W0 W14) := belTo K13.out b14
        have B14 := hidT b14
        obtain ⟨s0, s1, s2⟩ := box3T W14 (.slice tb2 m12 td2) (.slice cb2 m22 cd2) (.slice eb2 m32 ed2) 26 (M := M3) (by rw [hW14, hM3]; exact heap_alloc_new w13 _)
        have HM3 := hidT hM3
        have HW14 := hidT hW14
        clear hM3 hW14 b14
        go_upto_region 16 with fail
        rw [← HW14.out, ← HM3.out]
        by_cases hr : r0 = 0
        · have q1 : (r0 == 0) = true := by rw [hr]; exact beq_self_eq_true _
          have C14 := hidT (X13.out.1 hr W14 B14.out)
          have CB2 := hidT (CB.out (HR0.out hr))
          clear X13 CB hr
          go_wp2_with fail
          refine C14.out.mono ?_
          rintro e w15 ⟨za, zn, zc, rfl, cz, k15⟩
          have K15 : Hid (Below W0.heap.size W0 w15) := belTo K14.out k15
          have z1 := cz w15 (Below.refl _ _)
          have z2 := CB2.out w15 K15.out
          clear k15 cz C14 s0 s1 s2
          go_wp2_with fail
          refine (KNW.out _ K15.out).mono ?_
          rintro e w16 ⟨rfl, k16⟩
          have K16 := hidT k16
          clear k16
          go_wp2_with fail
          go_ret
          exact ⟨rfl, K16.out⟩
        · have q1 : (r0 == 0) = false := by simpa using hr
          clear X13 hr s0 s1 s2
          go_wp2_with fail
          refine (KNW.out _ K14.out).mono ?_
          rintro e w16 ⟨rfl, k16⟩
          have K16 := hidT k16
          clear k16
          go_wp2_with fail
          go_ret
          exact ⟨rfl, K16.out⟩
end Go.Proofs.Ytkdnokdppjgkpaa

namespace Go.Proofs.Ytkdnokdppjgkpaa
open Go.ChangeShapes Go.WideShapes Go.ChangeAt Go.RowKit
set_option maxRecDepth 100000
set_option linter.unusedVariables false

theorem own : ownKnob Try.prog.godebug = none := by kernel_rfl
theorem laidOut : laidOutB Try.prog = true := by kernel_rfl
theorem bdW {n : Int} (h : (Lit.int .i64 n).wf = true) : -9223372036854775808 ≤ n ∧ n ≤ 9223372036854775807 := by
  simp only [Lit.wf, IntKind.min, IntKind.max, IntKind.signed, IntKind.bits, Bool.and_eq_true, decide_eq_true_eq, if_true] at h
  omega
theorem bdU {n : Int} (h : (Lit.int .u8 n).wf = true) : 0 ≤ n ∧ n ≤ 255 := by
  simp [Lit.wf, IntKind.min, IntKind.max, IntKind.signed, IntKind.bits, Bool.and_eq_true, decide_eq_true_eq] at h
  omega
theorem cU1 : Try.prog.cellsOf 5 = 1 := by kernel_rfl
theorem cI4 : Try.prog.cellsOf 2 = 1 := by kernel_rfl
theorem bU1 : 0 < Try.prog.bytesOf 5 := of_decide_eq_true (by kernel_rfl)
theorem bI8 : 0 < Try.prog.bytesOf 2 := of_decide_eq_true (by kernel_rfl)
theorem short_of {H : Type} {P : Program} {t e : TypeId} {elems rest : List (DataW H)} (ht : P.underlying t = some (.slice e)) (hb : 0 < P.bytesOf e) (hw : ∀ q, q ∈ (DataW.slice elems rest : DataW H).weights P t → q ≤ reachBytes) : elems.length ≤ 1000000000000000 := by
  rw [DataW.weights, ht] at hw
  have h := hw _ (List.mem_cons_self ..)
  have h2 : elems.length ≤ (elems.length + rest.length) * P.bytesOf e := Nat.le_trans (Nat.le_add_right _ _) (Nat.le_mul_of_pos_right _ hb)
  have h3 : reachBytes ≤ 1000000000000000 := by decide
  omega
theorem list_of_each {α : Type} {Q : Nat → α → Prop} : ∀ n, (∀ i, i < n → ∃ y, Q i y) → ∃ l : List α, l.length = n ∧ ∀ i y, l[i]? = some y → Q i y
  | 0, _ => ⟨[], rfl, fun i y h => by simp at h⟩
  | n + 1, h => by
    obtain ⟨l, hl, hq⟩ := list_of_each n fun i hi => h i (by omega)
    obtain ⟨y, hy⟩ := h n (by omega)
    refine ⟨l ++ [y], by simp [hl], fun i z hz => ?_⟩
    by_cases c : i < n
    · rw [List.getElem?_append_left (by omega)] at hz
      exact hq i z hz
    · have hi : i < n + 1 := by
        have := (List.getElem?_eq_some_iff.1 hz).1
        simp [hl] at this
        omega
      obtain rfl : i = n := by omega
      rw [List.getElem?_append_right (by omega)] at hz
      simp [hl] at hz
      subst hz
      exact hy
theorem sln_open {H : Type} {enc : TypeId × Value → H} {P : Program} {W : World} {t e : TypeId} {fuel c : Nat} {v : Value} {z : DataW H × List MemPlace} (ht : P.underlying t = some (.slice e)) (he : P.cellsOf e = c)
    (hf : DataW.trod enc P W 0 (fun _ => true) true fuel t [v] = some z) : v = .slice none 0 0 ∨ ∃ (x : Addr) (cap : Nat) (elems rest : List (DataW H × List MemPlace)) (n : Nat), fuel = n + 1 ∧ v = .slice (some x) elems.length cap ∧ elems.length ≤ cap ∧ z.1 = .slice (elems.map (·.1)) (rest.map (·.1)) ∧
      ∀ i, (hi : i < elems.length) → ∃ cs, cs.length = c ∧ (∀ j, (hj : j < cs.length) → W.cell? ((x.add (i * c)).add j) = some cs[j]) ∧ DataW.trod enc P W 0 (fun _ => true) true n e cs = some elems[i] := by
  rcases DataW.trod_slice ht hf with ⟨hcs, _⟩ | ⟨x, len, cp, elems, rest, n, hn, hcs, hx, _, hl, hm, hlen, hel, _, _⟩
  · simp at hcs
    exact .inl hcs
  · simp at hcs
    subst hcs
    subst hlen
    refine .inr ⟨x, cp, elems, rest, n, hn, rfl, hl, (Prod.ext_iff.1 hx).1, fun i hi => ?_⟩
    have h1 := hel i hi
    rw [List.getElem?_eq_getElem hi, he, Option.bind_eq_some_iff] at h1
    obtain ⟨cs', h2, h3⟩ := h1
    obtain ⟨_, hlen', hcell⟩ := World.cells?_some h2
    refine ⟨cs', hlen', fun j hj => ?_, h3⟩
    have := hcell j (by omega)
    rw [this]
    exact List.getElem?_eq_getElem hj
theorem addT {b o n : Nat} : (⟨b, o, none⟩ : Addr).add n = ⟨b, o + n, none⟩ := by unfold Addr.add; split <;> simp_all
/-- What the reading of a slice of integers of one cell gives. -/
theorem ints_open {H : Type} {enc : TypeId × Value → H} {W : World} {t e : TypeId} {q : IntKind} (ht : Try.prog.underlying t = some (.slice e)) (he : Try.prog.cellsOf e = 1) (hu : Try.prog.underlying e = some (.int q)) (hb : 0 < Try.prog.bytesOf e) (fuel : Nat) (v : Value) (z : DataW H × List MemPlace) (hf : DataW.trod enc Try.prog W 0 (fun _ => true) true fuel t [v] = some z) (hw : ∀ q, q ∈ z.1.weights Try.prog t → q ≤ reachBytes) : ∃ (a : Option Addr) (l : List Int) (c : Nat), v = .slice a l.length c ∧ (0 < l.length → ∃ g o, a = some ⟨g, o, none⟩ ∧ g < W.heap.size ∧ ∀ j x, l[j]? = some x → W.cell? ⟨g, o + j, none⟩ = some (.int q x)) ∧ (∀ x ∈ l, (Lit.int q x).wf = true) ∧ l.length ≤ c ∧ l.length ≤ 1000000000000000 ∧ (a = none → c = 0) := by
  rcases sln_open ht he hf with rfl | ⟨x, cap, elems, rest, n, hn, rfl, hcap, hz, hel⟩
  · exact ⟨none, [], 0, rfl, (fun h => absurd h (Nat.lt_irrefl 0)), fun x hx => (by cases hx), Nat.le_refl _, by decide, fun _ => rfl⟩
  · have each : ∀ i, i < elems.length → ∃ y : Int, W.cell? ((x.add (i * 1)).add 0) = some (.int q y) ∧ (Lit.int q y).wf = true := by
      intro i hi
      obtain ⟨cs, hcl, hcell, htr⟩ := hel i hi
      match cs, hcl with
      | [v0], _ =>
        obtain ⟨a0, b0, d0, wf0⟩ := DataW.trod_int hu htr
        simp at b0
        subst b0
        exact ⟨a0, hcell 0 (by simp), wf0⟩
    obtain ⟨l, hll, hQ⟩ := list_of_each elems.length each
    have hsh : elems.length ≤ 1000000000000000 := by
      rw [hz] at hw
      have := short_of (elems := elems.map (·.1)) ht hb hw
      simpa using this
    refine ⟨some x, l, cap, by rw [hll], fun h0 => ?_, fun y hy => ?_, by omega, by omega, fun h => by cases h⟩
    · obtain ⟨_, e0, _⟩ := each 0 (by omega)
      have hsp : ∃ b o, x = ⟨b, o, none⟩ := by
        obtain ⟨bb, oo, ss⟩ := x
        have : ss = none := by simpa [Addr.add] using World.cell?_spot e0
        exact ⟨bb, oo, by rw [this]⟩
      obtain ⟨g, off, rfl⟩ := hsp
      simp only [addT, Nat.add_zero, Nat.mul_one] at hQ e0
      exact ⟨g, off, rfl, World.block_lt_of_cell? W _ e0, fun j i hj => (hQ j i hj).1⟩
    · obtain ⟨i, hi⟩ := List.getElem?_of_mem hy
      exact (hQ i y hi).2
theorem arg_by {H : Type} {enc : TypeId × Value → H} {W : World} {v : Value} {d : DataW H} {p : List MemPlace} {ts : List TypeId} {ds : List (DataW H)} {j base : Nat}
    (hv : Value.okWide Try.prog W .any base 27 v)
    (h : ∃ fuel, DataW.trod enc Try.prog W 0 (fun _ => true) true fuel 27 v.cells.toList = some (d, p))
    (hsz : (DataW.weightsEach Try.prog ts ds).all (· ≤ reachBytes) = true) (ht : ts[j]? = some 27) (hd : ds[j]? = some d) :
    ∃ (a : Option Addr) (l : List Int) (c : Nat), v = .slice a l.length c ∧ ByS W.heap.size W a l ∧ Tp.Byt l ∧ l.length ≤ c ∧ l.length ≤ 1000000000000000 := by
  obtain ⟨a, len, cap, rfl⟩ := okWide_slice Try.underlying27 hv
  obtain ⟨fuel, hf⟩ := h
  have key : ∀ q, q ∈ d.weights Try.prog 27 → q ≤ reachBytes := fun q hq => of_decide_eq_true (List.all_eq_true.1 hsz _ (DataW.weights_mem_each ht hd _ hq))
  obtain ⟨a, l, c, e, h1, h2, h3, h4, _⟩ := ints_open Try.underlying27 cU1 Try.underlying5 bU1 fuel _ (d, p) (by simpa [Value.cells] using hf) key
  exact ⟨a, l, c, e, h1, fun x hx => bdU (h2 x hx), h3, h4⟩
theorem arg_nm {H : Type} {enc : TypeId × Value → H} {W : World} {v : Value} {d : DataW H} {p : List MemPlace} {ts : List TypeId} {ds : List (DataW H)} {j base : Nat}
    (hv : Value.okWide Try.prog W .any base 38 v)
    (h : ∃ fuel, DataW.trod enc Try.prog W 0 (fun _ => true) true fuel 38 v.cells.toList = some (d, p))
    (hsz : (DataW.weightsEach Try.prog ts ds).all (· ≤ reachBytes) = true) (ht : ts[j]? = some 38) (hd : ds[j]? = some d) :
    ∃ (a : Option Addr) (l : List Int) (c : Nat), v = .slice a l.length c ∧ NmS W.heap.size W a l ∧ (∀ x ∈ l, -9223372036854775808 ≤ x ∧ x ≤ 9223372036854775807) ∧ l.length ≤ c ∧ l.length ≤ 1000000000000000 := by
  obtain ⟨a, len, cap, rfl⟩ := okWide_slice Try.underlying38 hv
  obtain ⟨fuel, hf⟩ := h
  have key : ∀ q, q ∈ d.weights Try.prog 38 → q ≤ reachBytes := fun q hq => of_decide_eq_true (List.all_eq_true.1 hsz _ (DataW.weights_mem_each ht hd _ hq))
  obtain ⟨a, l, c, e, h1, h2, h3, h4, _⟩ := ints_open Try.underlying38 cI4 Try.underlying2 bI8 fuel _ (d, p) (by simpa [Value.cells] using hf) key
  exact ⟨a, l, c, e, h1, fun x hx => bdW (h2 x hx), h3, h4⟩
end Go.Proofs.Ytkdnokdppjgkpaa

namespace Go.Proofs.Ytkdnokdppjgkpaa
open Go.ChangeShapes Go.WideShapes Go.ChangeAt Go.RowKit
set_option maxRecDepth 100000
set_option linter.unusedVariables false
set_option linter.unusedSimpArgs false
theorem cIt1 : Try.prog.cellsOf 3 = 1 := by kernel_rfl
theorem bIt8 : 0 < Try.prog.bytesOf 3 := of_decide_eq_true (by kernel_rfl)
theorem cTk4 : Try.prog.cellsOf 62 = 4 := by kernel_rfl
theorem cEv2 : Try.prog.cellsOf 69 = 2 := by kernel_rfl
theorem cTr3 : Try.prog.cellsOf 26 = 3 := by kernel_rfl
theorem cTkL : Try.prog.cellsOf 22 = 1 := by kernel_rfl
theorem cItL : Try.prog.cellsOf 23 = 1 := by kernel_rfl
theorem cEvL : Try.prog.cellsOf 24 = 1 := by kernel_rfl
theorem bTk : 0 < Try.prog.bytesOf 62 := of_decide_eq_true (by kernel_rfl)
theorem bEv : 0 < Try.prog.bytesOf 69 := of_decide_eq_true (by kernel_rfl)
theorem tk_cells {H : Type} {enc : TypeId × Value → H} {W : World} {n : Nat} {cs : List Value} {y : DataW H × List MemPlace} (hl : cs.length = 4) (h2 : DataW.trod enc Try.prog W 0 (fun _ => true) true n 62 cs = some y) : ∃ i : Tp.Tk, cs = [.int .i64 i.kind, .int .i64 i.proc, .int .i64 i.mark, .int .i64 i.depth] ∧ (I64 i.kind ∧ I64 i.proc ∧ I64 i.mark ∧ I64 i.depth) := by
  obtain ⟨xs, k, hk, hxy, _, hxl, hf⟩ := DataW.trod_struct Try.underlying62 h2
  match xs, hxl, cs, hl with
  | [y0, y1, y2, y3], _, [v0, v1, v2, v3], _ =>
    have g0 := hf 0 _ rfl
    have g1 := hf 1 _ rfl
    have g2 := hf 2 _ rfl
    have g3 := hf 3 _ rfl
    simp [cIt1, cI4] at g0 g1 g2 g3
    obtain ⟨a0, b0, d0, wf0⟩ := DataW.trod_int Try.underlying3 g0
    obtain ⟨a1, b1, d1, wf1⟩ := DataW.trod_int Try.underlying3 g1
    obtain ⟨a2, b2, d2, wf2⟩ := DataW.trod_int Try.underlying3 g2
    obtain ⟨a3, b3, d3, wf3⟩ := DataW.trod_int Try.underlying3 g3
    simp at b0 b1 b2 b3
    subst b0 b1 b2 b3
    exact ⟨⟨a0, a1, a2, a3⟩, rfl, bdW wf0, bdW wf1, bdW wf2, bdW wf3⟩
theorem ev_cells {H : Type} {enc : TypeId × Value → H} {W : World} {n : Nat} {cs : List Value} {y : DataW H × List MemPlace} (hl : cs.length = 2) (h2 : DataW.trod enc Try.prog W 0 (fun _ => true) true n 69 cs = some y) : ∃ i : Tp.Ev, cs = [.int .i64 i.kind, .int .i64 i.n] ∧ (I64 i.kind ∧ I64 i.n) := by
  obtain ⟨xs, k, hk, hxy, _, hxl, hf⟩ := DataW.trod_struct Try.underlying69 h2
  match xs, hxl, cs, hl with
  | [y0, y1], _, [v0, v1], _ =>
    have g0 := hf 0 _ rfl
    have g1 := hf 1 _ rfl
    simp [cIt1, cI4] at g0 g1
    obtain ⟨a0, b0, d0, wf0⟩ := DataW.trod_int Try.underlying3 g0
    obtain ⟨a1, b1, d1, wf1⟩ := DataW.trod_int Try.underlying2 g1
    simp at b0 b1
    subst b0 b1
    exact ⟨⟨a0, a1⟩, rfl, bdW wf0, bdW wf1⟩
theorem tks_open {H : Type} {enc : TypeId × Value → H} {W : World} (fuel : Nat) (v : Value) (z : DataW H × List MemPlace) (hf : DataW.trod enc Try.prog W 0 (fun _ => true) true fuel 22 [v] = some z) (hw : ∀ q, q ∈ z.1.weights Try.prog 22 → q ≤ reachBytes) : ∃ (a : Option Addr) (l : List Tp.Tk) (c : Nat), v = .slice a l.length c ∧ TkS W.heap.size W a l ∧ l.length ≤ 1000000000000000 ∧ ∀ x ∈ l, I64 x.kind ∧ I64 x.proc ∧ I64 x.mark ∧ I64 x.depth := by
  rcases sln_open Try.underlying22 cTk4 hf with rfl | ⟨x, cap, elems, rest, n, hn, rfl, hcap, hz, hel⟩
  · exact ⟨none, [], 0, rfl, fun h => absurd h (Nat.lt_irrefl 0), by decide, fun i h => (by cases h)⟩
  · rw [hz] at hw
    have hlen := short_of Try.underlying22 bTk hw
    rw [List.length_map] at hlen
    have each : ∀ i, i < elems.length → ∃ y : Tp.Tk, (I64 y.kind ∧ I64 y.proc ∧ I64 y.mark ∧ I64 y.depth) ∧ W.cell? ((x.add (i * 4)).add 0) = some (.int .i64 y.kind) ∧ W.cell? ((x.add (i * 4)).add 1) = some (.int .i64 y.proc) ∧ W.cell? ((x.add (i * 4)).add 2) = some (.int .i64 y.mark) ∧ W.cell? ((x.add (i * 4)).add 3) = some (.int .i64 y.depth) := by
      intro i hi
      obtain ⟨cs, hcl, hcell, htr⟩ := hel i hi
      obtain ⟨y, rfl, ok⟩ := tk_cells hcl htr
      exact ⟨y, ok, hcell 0 (by simp), hcell 1 (by simp), hcell 2 (by simp), hcell 3 (by simp)⟩
    obtain ⟨l, hll, hQ⟩ := list_of_each elems.length each
    refine ⟨some x, l, cap, by rw [hll], fun h0 => ?_, by omega, fun i hi => ?_⟩
    · obtain ⟨_, _, e0, _⟩ := each 0 (by omega)
      have hsp : ∃ b o, x = ⟨b, o, none⟩ := by
        obtain ⟨bb, oo, ss⟩ := x
        have : ss = none := by simpa [Addr.add] using World.cell?_spot e0
        exact ⟨bb, oo, by rw [this]⟩
      obtain ⟨g, off, rfl⟩ := hsp
      simp only [addT, Nat.add_zero] at hQ e0
      refine ⟨g, off, rfl, World.block_lt_of_cell? W _ e0, fun j i hj => ?_⟩
      exact (hQ j i hj).2
    · obtain ⟨j, hj⟩ := List.getElem?_of_mem hi
      exact (hQ j i hj).1
theorem evs_open {H : Type} {enc : TypeId × Value → H} {W : World} (fuel : Nat) (v : Value) (z : DataW H × List MemPlace) (hf : DataW.trod enc Try.prog W 0 (fun _ => true) true fuel 24 [v] = some z) (hw : ∀ q, q ∈ z.1.weights Try.prog 24 → q ≤ reachBytes) : ∃ (a : Option Addr) (l : List Tp.Ev) (c : Nat), v = .slice a l.length c ∧ EvS W.heap.size W a l ∧ l.length ≤ c ∧ l.length ≤ 1000000000000000 ∧ ∀ x ∈ l, I64 x.kind ∧ I64 x.n := by
  rcases sln_open Try.underlying24 cEv2 hf with rfl | ⟨x, cap, elems, rest, n, hn, rfl, hcap, hz, hel⟩
  · exact ⟨none, [], 0, rfl, fun h => absurd h (Nat.lt_irrefl 0), Nat.le_refl _, by decide, fun i h => (by cases h)⟩
  · rw [hz] at hw
    have hlen := short_of Try.underlying24 bEv hw
    rw [List.length_map] at hlen
    have each : ∀ i, i < elems.length → ∃ y : Tp.Ev, (I64 y.kind ∧ I64 y.n) ∧ W.cell? ((x.add (i * 2)).add 0) = some (.int .i64 y.kind) ∧ W.cell? ((x.add (i * 2)).add 1) = some (.int .i64 y.n) := by
      intro i hi
      obtain ⟨cs, hcl, hcell, htr⟩ := hel i hi
      obtain ⟨y, rfl, ok⟩ := ev_cells hcl htr
      exact ⟨y, ok, hcell 0 (by simp), hcell 1 (by simp)⟩
    obtain ⟨l, hll, hQ⟩ := list_of_each elems.length each
    refine ⟨some x, l, cap, by rw [hll], fun h0 => ?_, by omega, by omega, fun i hi => ?_⟩
    · obtain ⟨_, _, e0, _⟩ := each 0 (by omega)
      have hsp : ∃ b o, x = ⟨b, o, none⟩ := by
        obtain ⟨bb, oo, ss⟩ := x
        have : ss = none := by simpa [Addr.add] using World.cell?_spot e0
        exact ⟨bb, oo, by rw [this]⟩
      obtain ⟨g, off, rfl⟩ := hsp
      simp only [addT, Nat.add_zero] at hQ e0
      refine ⟨g, off, rfl, World.block_lt_of_cell? W _ e0, fun j i hj => ?_⟩
      exact (hQ j i hj).2
    · obtain ⟨j, hj⟩ := List.getElem?_of_mem hi
      exact (hQ j i hj).1
theorem tr_cells {H : Type} {enc : TypeId × Value → H} {W : World} {n : Nat} {cs : List Value} {y : DataW H × List MemPlace} (hl : cs.length = 3) (h2 : DataW.trod enc Try.prog W 0 (fun _ => true) true n 26 cs = some y) (hw : ∀ q, q ∈ y.1.weights Try.prog 26 → q ≤ reachBytes) :
    ∃ (ta ca ea : Option Addr) (tc cc ec : Nat) (t : Tp.Tr), cs = [.slice ta t.ticks.length tc, .slice ca t.counts.length cc, .slice ea t.events.length ec] ∧ TrS W.heap.size W ta ca ea tc cc ec t := by
  obtain ⟨xs, k, hk, hxy, _, hxl, hf⟩ := DataW.trod_struct Try.underlying26 h2
  match xs, hxl, cs, hl with
  | [y0, y1, y2], _, [v0, v1, v2], _ =>
    have g0 := hf 0 _ rfl
    have g1 := hf 1 _ rfl
    have g2 := hf 2 _ rfl
    simp [cTkL, cItL, cEvL] at g0 g1 g2
    have hd' : y.1 = .agg [y0.1, y1.1, y2.1] := (Prod.ext_iff.1 hxy).1
    rw [hd', DataW.weights, Try.underlying26] at hw
    simp [DataW.weightsEach] at hw
    obtain ⟨ta, tl, tc, rfl, t1, t2, t3⟩ := tks_open k v0 y0 g0 (fun q hq => hw q (.inl hq))
    obtain ⟨ca, cl, cc, rfl, c1, c2, c3, c4, _⟩ := ints_open Try.underlying23 cIt1 Try.underlying3 bIt8 k v1 y1 g1 (fun q hq => hw q (.inr (.inl hq)))
    obtain ⟨ea, el, ec, rfl, e1, e2, e3, e4⟩ := evs_open k v2 y2 g2 (fun q hq => hw q (.inr (.inr hq)))
    exact ⟨ta, ca, ea, tc, cc, ec, ⟨tl, cl, el⟩, rfl, t1, c1, e1, e2, t2, c4, e3, t3, fun x hx => bdW (c2 x hx), e4⟩
theorem arg_tr {H : Type} {enc : TypeId × Value → H} {W : World} {v : Value} {d : DataW H} {p : List MemPlace} {ts : List TypeId} {ds : List (DataW H)} {j base : Nat}
    (hv : Value.okWide Try.prog W .any base 26 v)
    (h : ∃ fuel, DataW.trod enc Try.prog W 0 (fun _ => true) true fuel 26 v.cells.toList = some (d, p))
    (hsz : (DataW.weightsEach Try.prog ts ds).all (· ≤ reachBytes) = true) (ht : ts[j]? = some 26) (hd : ds[j]? = some d) :
    ∃ (ta ca ea : Option Addr) (tc cc ec : Nat) (t : Tp.Tr), v = trV ta ca ea tc cc ec t ∧ TrS W.heap.size W ta ca ea tc cc ec t := by
  obtain ⟨cs, rfl, hc⟩ := okWide_struct Try.underlying26 hv
  rw [cTr3] at hc
  obtain ⟨fuel, hf⟩ := h
  have e0 : (Value.agg cs).cells.toList = cs.toList := by simp [Value.cells]
  rw [e0] at hf
  have key : ∀ q, q ∈ d.weights Try.prog 26 → q ≤ reachBytes := fun q hq => of_decide_eq_true (List.all_eq_true.1 hsz _ (DataW.weights_mem_each ht hd _ hq))
  obtain ⟨ta, ca, ea, tc, cc, ec, t, hcs, ok⟩ := tr_cells (by simpa using hc) hf key
  refine ⟨ta, ca, ea, tc, cc, ec, t, ?_, ok⟩
  have : cs = #[.slice ta t.ticks.length tc, .slice ca t.counts.length cc, .slice ea t.events.length ec] := by
    cases cs with | mk l => simp at hcs; rw [hcs]
  rw [this]
  rfl
end Go.Proofs.Ytkdnokdppjgkpaa

namespace Go.Proofs.Ytkdnokdppjgkpaa.TapeBack
open Go.ChangeShapes Go.WideShapes Go.ChangeAt Go.RowKit
set_option linter.unusedVariables false

set_option maxRecDepth 100000 in
theorem lifted (os : Os) (started : os.Started) (H : Type) (enc : TypeId × Value → H) :
    ReturnsInHanded {} Try.checked os 4 .any (Rows.tapeBackSpec.pre6 enc Try.prog Try.f4 Rows.tapeBackRow.domain false)
      (Rows.tapeBackSpec.post enc Try.prog Try.f4 false true false false) := by
  refine returnsInHanded_of_change_sized (C := Try.checked) own started (by kernel_rfl) Try.func4
    (ChangeSpec.witness6 (enc := enc) (C := Try.checked) false ⟨#[], #[.slice none 0 0, .agg #[.slice none 0 0, .slice none 0 0, .slice none 0 0], .slice none 0 0], []⟩ 8 (by kernel_rfl) (by kernel_rfl) (by kernel_rfl) (by kernel_rfl)) ?_
  intro W base args ds gs before hval0 hW _ hsz0 _
  have hval : ∀ (j : Nat) t v, Try.f4.params[j]? = some t → args[j]? = some v → Value.okWide Try.prog W .any base t v := hval0
  have hW' := hW
  obtain ⟨p, q, hA0, hV, rfl, hfz, hnd⟩ := hW
  have hA : DataW.TrodAll enc Try.prog W 0 (fun _ => true) true Try.f4.params.toList args.toList ds p := hA0
  have hsz : (DataW.weightsEach Try.prog (Try.f4.params.toList ++ Rows.tapeBackSpec.plain.varTypes Try.prog) (ds ++ gs)).all (· ≤ reachBytes) = true := hsz0
  rw [Try.params4] at hA hval hsz
  obtain ⟨v0, vs0, d0, ds0, p0, q0, hargs, rfl, rfl, h0, r0⟩ := trodAll_cons hA
  obtain ⟨v1, vs1, d1, ds1, p1, q1, rfl, rfl, rfl, h1, r1⟩ := trodAll_cons r0
  obtain ⟨v2, vs2, d2, ds2, p2, q2, rfl, rfl, rfl, h2, r2⟩ := trodAll_cons r1
  obtain ⟨rfl, rfl, rfl⟩ := trodAll_nil r2
  obtain rfl : args = #[v0, v1, v2] := by cases args; simp_all
  obtain ⟨rfl, rfl⟩ := trodVars_none hV
  have k0 := h0
  have lt0 : ∀ x ∈ p0, x.block < W.heap.size := by obtain ⟨m, hm⟩ := k0; exact DataW.trod_lt m _ _ _ hm
  obtain ⟨a0, l0, c0, rfl, hs0, hy0, hc0, hl0⟩ := arg_nm (j := 0) (hval 0 38 v0 rfl rfl) h0 hsz rfl rfl
  have k1 := h1
  have lt1 : ∀ x ∈ p1, x.block < W.heap.size := by obtain ⟨m, hm⟩ := k1; exact DataW.trod_lt m _ _ _ hm
  obtain ⟨ta1, ca1, ea1, tc1, cc1, ec1, t1, rfl, ht1⟩ := arg_tr (j := 1) (hval 1 26 v1 rfl rfl) h1 hsz rfl rfl
  have k2 := h2
  have lt2 : ∀ x ∈ p2, x.block < W.heap.size := by obtain ⟨m, hm⟩ := k2; exact DataW.trod_lt m _ _ _ hm
  obtain ⟨a2, l2, c2, rfl, hs2, hy2, hc2, hl2⟩ := arg_by (j := 2) (hval 2 27 v2 rfl rfl) h2 hsz rfl rfl
  clear hA0 hval0
  simp only [List.append_nil] at hW'
  refine (back_walk W a0 l0 c0 hs0 hy0 hc0 hl0 ta1 ca1 ea1 tc1 cc1 ec1 t1 ht1 a2 l2 c2 hs2 hy2 hc2 hl2).mono fun e W' ⟨he, bel⟩ => ?_
  subst he
  exact ⟨_, rfl, _, _, _, [], _, [], hW', trodAll_mk1 (shut_bool Try.underlying4 _), (trodAll_cons_mk (Below.trod laidOut (by kernel_rfl) (of_decide_eq_true (by kernel_rfl)) k0 bel lt0) (trodAll_cons_mk (Below.trod laidOut (by kernel_rfl) (of_decide_eq_true (by kernel_rfl)) k1 bel lt1) (trodAll_cons_mk (Below.trod laidOut (by kernel_rfl) (of_decide_eq_true (by kernel_rfl)) k2 bel lt2) trodAll_mk0))), rfl, bel.frame _, fun h => by cases h⟩

end Go.Proofs.Ytkdnokdppjgkpaa.TapeBack
namespace Go.Proofs.Ytkdnokdppjgkpaa
open Go.RowKit
set_option maxRecDepth 100000 in
theorem tapeBack_holds : Rows.TapeBackSaid :=
  OpenClaim.holds_of_wide 4 Try.f4 rfl rfl rfl rfl rfl rfl rfl ⟨rfl, rfl, rfl, rfl, rfl⟩ rfl rfl rfl rfl rfl (by kernel_rfl) Try.func4 (by kernel_rfl)
    (of_decide_eq_true (by kernel_rfl)) (by unfold Func.isWrapper; first | (rw [if_pos (by decide +kernel)]; kernel_rfl) | (rw [if_neg (by decide +kernel)]; exact ⟨rfl, rfl⟩))
    (fun os started H enc _ => TapeBack.lifted os started H enc)
#print axioms tapeBack_holds
end Go.Proofs.Ytkdnokdppjgkpaa
