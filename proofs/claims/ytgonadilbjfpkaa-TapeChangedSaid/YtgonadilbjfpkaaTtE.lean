/- Layer 13: WriteTrace. -/
import Derived.Test.YtgonadilbjfpkaaTtD
namespace Go.Proofs.Ytgonadilbjfpkaa
open Go.RowKit
set_option linter.unusedVariables false
set_option linter.unusedSimpArgs false
theorem bodyT_len (t : Tp.Tr) (m1 : t.ticks.length ≤ 500) (m3 : t.events.length ≤ 500) : (Tp.bodyT t).length ≤ 3000000 := by
  have := Tp.recs_len t.events t.ticks t.counts 0
  have h2 : t.ticks.length * (31 + t.events.length * 11) ≤ 500 * (31 + 500 * 11) := Nat.mul_le_mul m1 (by omega)
  simp only [Tp.bodyT, Tp.head, List.length_append, List.length_cons, List.length_nil]
  omega
theorem bodyT_byt (t : Tp.Tr) (hr : RgT t) (h : ∀ x ∈ t.events, I64 x.n) : Tp.Byt (Tp.bodyT t) := by
  unfold Tp.bodyT
  refine Tp.Byt.app ?_ (Tp.Byt.app (Tp.recs_byt _ (fun e he => ⟨hr.e e he, h e he⟩) _ hr.tt _ _) ?_)
  · intro c hc; simp [Tp.head] at hc; omega
  · intro c hc; simp at hc; omega
theorem TrS.mono {B B' : Nat} {w : World} {ta ca ea : Option Addr} {tc cc ec : Nat} {t : Tp.Tr} (h : TrS B w ta ca ea tc cc ec t) (hb : B ≤ B') : TrS B' w ta ca ea tc cc ec t :=
  ⟨fun h0 => by obtain ⟨g, o, e, hg, hc⟩ := h.tk h0; exact ⟨g, o, e, Nat.lt_of_lt_of_le hg hb, hc⟩, h.ct.mono hb, fun h0 => by obtain ⟨g, o, e, hg, hc⟩ := h.ev h0; exact ⟨g, o, e, Nat.lt_of_lt_of_le hg hb, hc⟩, h.ce, h.l1, h.l2, h.l3, h.rt, h.rc, h.re⟩
def wtQ (t : Tp.Tr) (w : World) (e : Ending) (w' : World) : Prop := if Tp.rightT t = true then WrQ w (Tp.wt t) e w' else e = .returned (.tuple #[.slice none 0 0, .int .i64 32]) ∧ Below w.heap.size w w'
set_option maxRecDepth 100000 in
set_option maxHeartbeats 4000000 in
theorem writeTr_any (t : Tp.Tr) (ta ca ea : Option Addr) (tc cc ec : Nat) (w : World) (h : TrS w.heap.size w ta ca ea tc cc ec t) (m1 : t.ticks.length ≤ 500) (m2 : t.counts.length ≤ 500) (m3 : t.events.length ≤ 500) :
    Calls Try.prog 23 #[trV ta ca ea tc cc ec t] w (wtQ t w) := by
  obtain ⟨i0, hi, hz0, hz1, hz2⟩ := infoB'
  have ER := hidT (fun (W : World) (q : Below w.heap.size w W) => right_any t ta ca ea tc cc ec W ((h.later q (Nat.le_refl _)).mono q.size) m1 m2 m3)
  have EP := hidT (fun (W : World) (base : Nat) (v : Value) (q : Below w.heap.size w W) (hb : w.heap.size ≤ base) (ho : OwB W base v (Tp.head 2)) (hbW : base ≤ W.heap.size) (hr : RgT t) => putRecs_any W base v (Tp.head 2) t ta ca ea tc cc ec ho hbW ((h.later q (Nat.le_refl _)).mono hb) hr m1 m3 (by decide))
  have HB := hidT (fun (hr : RgT t) => bodyT_byt t hr (fun x hx => (h.re x hx).2))
  have HL := hidT (bodyT_len t m1 m3)
  unfold trV at ER EP ⊢
  obtain ⟨n1, h1⟩ : ∃ n, n = t.ticks.length := ⟨_, rfl⟩
  obtain ⟨n2, h2⟩ : ∃ n, n = t.counts.length := ⟨_, rfl⟩
  obtain ⟨n3, h3⟩ : ∃ n, n = t.events.length := ⟨_, rfl⟩
  rw [← h1] at ER EP ⊢
  rw [← h2] at ER EP ⊢
  rw [← h3] at ER EP ⊢
  obtain ⟨W0, hW0⟩ : ∃ W, W = w.alloc (.cells #[.slice ta n1 tc, .slice ca n2 cc, .slice ea n3 ec] 43) := ⟨_, rfl⟩
  have K0 : Hid (Below w.heap.size w W0) := by rw [hW0]; exact (Below.refl _ _).alloc (Nat.le_refl _) _
  have hb0 : W0.heap[w.heap.size]? = some (.cells #[.slice ta n1 tc, .slice ca n2 cc, .slice ea n3 ec] 43 (0, 0)) := by rw [hW0]; exact heap_alloc_new w _
  have hs0 : W0.heap.size = w.heap.size + 1 := by rw [hW0]; simp
  have HS0 := hidT hs0
  obtain ⟨M, hM⟩ : ∃ M, M = w.heap.size := ⟨_, rfl⟩
  have HCel : Hid (∀ W, Below W0.heap.size W0 W → W.cell? ⟨M, 0, none⟩ = some (.slice ta n1 tc) ∧ W.cell? ⟨M, 1, none⟩ = some (.slice ca n2 cc) ∧ W.cell? ⟨M, 2, none⟩ = some (.slice ea n3 ec)) := fun W q => by
    have hw : W.heap[M]? = some (.cells #[.slice ta n1 tc, .slice ca n2 cc, .slice ea n3 ec] 43 (0, 0)) := by rw [hM]; exact (q.block w.heap.size (by omega)).trans hb0
    refine ⟨?_, ?_, ?_⟩ <;> simp [World.cell?, hw]
  obtain ⟨a0, a1, a2⟩ := HCel.out W0 (Below.refl _ _)
  have HMM := hidT hM
  have ER0 := hidT (ER.out W0 K0.out)
  clear h h1 h2 h3 m1 m2 m3 hb0 hs0
  cases hr : Tp.rightT t with
  | false =>
    rw [hr] at ER0
    have HQ : Hid (∀ e w', wtQ t w e w' = (e = .returned (.tuple #[.slice none 0 0, .int .i64 32]) ∧ Below w.heap.size w w')) := fun e w' => by unfold wtQ; rw [if_neg (by rw [hr]; decide)]
    have hq : wtQ t w = fun e w' => (e = .returned (.tuple #[.slice none 0 0, .int .i64 32]) ∧ Below w.heap.size w w') := by funext e w'; exact HQ.out e w'
    rw [hq]
    clear hr hq HQ
    go_enter Try.func23, Try.ntmps23
    go_upto_region 1 with fail
    rw [← hW0, ← hM]
    clear hW0 hM
    go_wp2_with fail
    refine ER0.out.mono ?_
    rintro e w1 ⟨rfl, k1⟩
    have K1 := hidT (K0.out.trans (k1.mono K0.out.size))
    clear k1
    go_wp2_with fail
    go_ret2
    exact ⟨rfl, K1.out⟩
  | true =>
    have hrg := right_rg hr
    have HRG := hidT hrg
    rw [hr] at ER0
    have hq : wtQ t w = WrQ w (Tp.wt t) := by funext e w'; unfold wtQ; rw [if_pos hr]
    rw [hq]
    clear hr hq hrg
    go_enter Try.func23, Try.ntmps23
    go_upto_region 1 with fail
    rw [← hW0, ← hM]
    clear hW0 hM
    go_wp2_with fail
    refine ER0.out.mono ?_
    rintro e w1 ⟨rfl, k1⟩
    have J1 := hidT k1
    have K1 := hidT (K0.out.trans (k1.mono K0.out.size))
    clear k1
    go_wp2_with fail
    refine (putHead_any 2 w1).mono ?_
    rintro e w2 ⟨v2, rfl, o2, k2⟩
    have O2 := hidT o2
    have J2 := hidT (J1.out.trans (k2.mono J1.out.size))
    have K2 := hidT (K1.out.trans (k2.mono K1.out.size))
    have S2 : Hid (w1.heap.size ≤ w2.heap.size) := k2.size
    obtain ⟨b0, b1, b2⟩ := HCel.out w2 J2.out
    have EP2 := hidT (EP.out w2 w1.heap.size v2 K2.out K1.out.size O2.out S2.out HRG.out)
    clear o2 k2 a0 a1 a2
    go_wp2_with fail
    refine EP2.out.mono ?_
    rintro e w3 ⟨v3, rfl, o3, g3⟩
    have k3 := g3.below O2.out S2.out
    have O3 := hidT o3
    have K3 : Hid (Below w1.heap.size w2 w3) := k3
    have S3 : Hid (w1.heap.size ≤ w3.heap.size) := Nat.le_trans S2.out k3.size
    obtain ⟨L, hL⟩ : ∃ L, L = Tp.head 2 ++ Tp.recs t.events t.ticks t.counts 0 := ⟨_, rfl⟩
    have HBd : Hid (Tp.bodyT t = L ++ [0]) := by unfold Hid Tp.bodyT; rw [hL, List.append_assoc]
    rw [← hL] at O3
    obtain ⟨va, vc, hv⟩ := ownShT O3.out
    subst hv
    have HLL : Hid (L.length + 1 ≤ 3000000) := by
      have := HL.out
      rw [HBd.out] at this
      unfold Hid
      simpa using this
    have H63 : Hid (L.length + 1 ≤ maxLen ∧ (L.length + 1 + (L.length + 1) / 4 + 192) * 1 ≤ 281474976710656) := OwB.len63 (by have := HLL.out; omega)
    clear o3 k3 g3 hL
    go_wp2_with (at_builtin; refine wpList_append_own_wide _ rfl _ _ 22 rfl w1.heap.size 5 i0 (.int .u8 0) 1 1 Try.underlying22 hi hz0 hz1 hz2 rfl (by decide) _ _ _ rfl (ownLtT O3.out ((Below.refl _ _).alloc (Nat.le_refl _) _)) ⟨w3.heap.size, 0, none⟩ 1 1 [_] rfl rfl (one1 _ _ _) (by intro x hx; simp at hx; subst hx; rfl) H63.out.1 H63.out.2 (by simp; exact Nat.le_trans S3.out (Nat.le_succ _)) ?_)
    intro v8 w8 h8 g8 o8
    have O8 : Hid (OwB w8 w1.heap.size v8 (Tp.bodyT t)) := by rw [HBd.out]; exact OwB.of (m := [0]) h8 rfl
    have K8 := hidT (K3.out.trans (OwB.below O3.out S3.out g8))
    have S8 : Hid (w1.heap.size ≤ w8.heap.size) := Nat.le_trans S2.out K8.out.size
    have EPS := hidT (putSum_any w8 w1.heap.size v8 (Tp.bodyT t) (by have := HL.out; omega) (HB.out HRG.out) O8.out S8.out)
    clear h8 g8 o8
    go_wp2_with fail
    refine EPS.out.mono ?_
    rintro e w9 ⟨v9, rfl, o9, k9⟩
    have O9 : Hid (OwB w9 w.heap.size v9 (Tp.wt t)) := World.ownsRow.mono o9 K1.out.size
    have K9 := hidT (K2.out.trans ((K8.out.trans k9).mono K1.out.size))
    obtain ⟨va9, vc9, hv9⟩ := ownShT O9.out
    subst hv9
    have hlen : ((Tp.wt t).length : Int) ≤ 4194304 := by
      have h := HL.out
      unfold Tp.wt
      rw [List.length_append]
      have : (Tp.sl4 (Tp.sum (Tp.bodyT t))).length = 4 := rfl
      omega
    have dl : decide ((4194304 : Int) < ((Tp.wt t).length : Int)) = false := decide_eq_false (by omega)
    generalize (Tp.wt t).length = n9 at *
    clear o9 k9 b0 b1 b2
    go_wp2_with fail
    go_ret2
    exact ⟨_, rfl, O9.out, K9.out⟩
end Go.Proofs.Ytgonadilbjfpkaa
