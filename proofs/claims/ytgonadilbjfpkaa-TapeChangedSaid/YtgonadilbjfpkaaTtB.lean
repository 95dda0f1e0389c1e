/- Layer 13: which traces are right; records put. -/
import Derived.Test.YtgonadilbjfpkaaTtA
namespace Go.Proofs.Ytgonadilbjfpkaa
open Go.RowKit
set_option linter.unusedVariables false
set_option linter.unusedSimpArgs false
set_option maxHeartbeats 4000000 in
theorem right_any (t : Tp.Tr) (ta ca ea : Option Addr) (tc cc ec : Nat) (w : World) (h : TrS w.heap.size w ta ca ea tc cc ec t) (m1 : t.ticks.length ≤ 500) (m2 : t.counts.length ≤ 500) (m3 : t.events.length ≤ 500) :
    Calls Try.prog 46 #[trV ta ca ea tc cc ec t] w fun e w' => e = .returned (.bool (Tp.rightT t)) ∧ Below w.heap.size w w' := by
  unfold trV
  have HT := hidT h
  have ET := hidT (fun (W : World) (q : Below w.heap.size w W) => allT_any t.ticks ta tc W (h.tk.later q (Nat.le_refl _)) q.size h.l1)
  have EE := hidT (fun (W : World) (q : Below w.heap.size w W) => allE_any t.events ea ec W (h.ev.later q (Nat.le_refl _)) q.size h.l3)
  obtain ⟨post, hpost⟩ : ∃ p, p = Tp.rightT t := ⟨_, rfl⟩
  have HP := hidT hpost
  obtain ⟨n1, h1⟩ : ∃ n, n = t.ticks.length := ⟨_, rfl⟩
  obtain ⟨n2, h2⟩ : ∃ n, n = t.counts.length := ⟨_, rfl⟩
  obtain ⟨n3, h3⟩ : ∃ n, n = t.events.length := ⟨_, rfl⟩
  have H1 := hidT h1
  have H2 := hidT h2
  have H3 := hidT h3
  rw [← hpost]
  rw [← h1] at m1 ET ⊢
  rw [← h2] at m2 ⊢
  rw [← h3] at m3 EE ⊢
  clear h hpost h1 h2 h3
  have d1 : decide ((1048576 : Int) < (n1 : Int)) = false := decide_eq_false (by omega)
  have d3 : decide ((1048576 : Int) < (n3 : Int)) = false := decide_eq_false (by omega)
  obtain ⟨W0, hW0⟩ : ∃ W, W = w.alloc (.cells #[.slice ta n1 tc, .slice ca n2 cc, .slice ea n3 ec] 43) := ⟨_, rfl⟩
  have K0 : Hid (Below w.heap.size w W0) := by rw [hW0]; exact (Below.refl _ _).alloc (Nat.le_refl _) _
  have hb0 : W0.heap[w.heap.size]? = some (.cells #[.slice ta n1 tc, .slice ca n2 cc, .slice ea n3 ec] 43 (0, 0)) := by rw [hW0]; exact heap_alloc_new w _
  have hcell : Hid (∀ W, Below W0.heap.size W0 W → W.cell? ⟨w.heap.size, 0, none⟩ = some (.slice ta n1 tc) ∧ W.cell? ⟨w.heap.size, 1, none⟩ = some (.slice ca n2 cc) ∧ W.cell? ⟨w.heap.size, 2, none⟩ = some (.slice ea n3 ec)) := fun W q => by
    have hw : W.heap[w.heap.size]? = _ := (q.block w.heap.size (by rw [hW0]; simp)).trans hb0
    refine ⟨?_, ?_, ?_⟩ <;> simp [World.cell?, hw]
  obtain ⟨M, hM⟩ : ∃ M, M = w.heap.size := ⟨_, rfl⟩
  rw [← hM] at hcell
  clear hb0
  obtain ⟨a0, a1, a2⟩ := hcell.out W0 (Below.refl _ _)
  by_cases hq : n2 = n1
  · have q : ((n2 : Int) == (n1 : Int)) = true := by simp [hq]
    have HQ := hidT hq
    have HPc : Hid (post = (Tp.okC n3 0 t.counts && (t.ticks.all Tp.okT && t.events.all Tp.okE))) := by
      unfold Hid
      rw [HP.out, Tp.rightT, decide_eq_true (by rw [← H1.out, ← H2.out]; exact hq), ← H3.out]
      rfl
    clear hq
    have qb : ((n2 : Int) != (n1 : Int)) = false := by rw [bne, q]; rfl
    go_enter Try.func46, Try.ntmps46
    go_upto_region 1 with fail
    rw [← hW0, ← hM]
    have HMM := hidT hM
    clear hW0 hM
    go_wp2_with fail
    go_loopg [3, 28] n2 (fun gk x i wr => ∃ (j : Nat) (told : Int), j + gk = n2 ∧ i = .int .i64 j ∧ x = .int .i64 told ∧ 0 ≤ told ∧ Hid (wr = W0) ∧ Hid (Tp.okC n3 0 t.counts = Tp.okC n3 told (t.counts.drop j)))
    case atStart => exact ⟨0, 0, by omega, rfl, rfl, by omega, hidT rfl, hidT rfl⟩
    case round =>
      obtain ⟨j, told, hj, rfl, rfl, ht0, HW, HR⟩ := hrel
      obtain rfl := HW.out
      rcases gk with _ | gk
      · obtain rfl : j = n2 := by omega
        have dk : decide ((j : Int) < (j : Int)) = false := decide_eq_false (by omega)
        have HPd : Hid (post = (t.ticks.all Tp.okT && t.events.all Tp.okE)) := by
          unfold Hid
          rw [HPc.out, HR.out, List.drop_eq_nil_of_le (by rw [← H2.out]; exact Nat.le_refl _)]
          rfl
        have ET1 := hidT (ET.out _ K0.out)
        have EE1 := EE
        cases hall : t.ticks.all Tp.okT with
        | false =>
          rw [hall] at ET1 HPd
          clear hall
          go_wp2_with fail
          refine ET1.out.mono ?_
          rintro e w3 ⟨rfl, k3⟩
          have K3 := hidT (K0.out.trans (k3.mono K0.out.size))
          clear k3
          go_wp2_with fail
          go_ret
          refine ⟨?_, K3.out⟩
          rw [HPd.out]
          rfl
        | true =>
          rw [hall] at ET1 HPd
          clear hall
          go_wp2_with fail
          refine ET1.out.mono ?_
          rintro e w3 ⟨rfl, k3⟩
          have K3 := hidT (K0.out.trans (k3.mono K0.out.size))
          obtain ⟨b0, b1, b2⟩ := hcell.out w3 k3
          clear k3 a0 a1 a2
          go_wp2_with fail
          refine (EE1.out w3 K3.out).mono ?_
          rintro e w4 ⟨rfl, k4⟩
          have K4 := hidT (K3.out.trans (k4.mono K3.out.size))
          clear k4
          go_wp2_with fail
          go_ret
          refine ⟨?_, K4.out⟩
          rw [HPd.out]
          simp
      · have dk : decide ((j : Int) < (n2 : Int)) = true := decide_eq_true (by omega)
        have dkn : decide (j < n2) = true := decide_eq_true (by omega)
        obtain ⟨x, hx⟩ : ∃ x, t.counts[j]? = some x := ⟨_, List.getElem?_eq_getElem (by rw [← H2.out]; omega)⟩
        obtain ⟨g, o, rfl, hg, hc⟩ := (HT.out.ct.later K0.out (Nat.le_refl _)) (by rw [← H2.out]; omega)
        have c0 := hc j x hx
        have hd : t.counts.drop j = x :: t.counts.drop (j + 1) := by
          obtain ⟨h1, h2⟩ := List.getElem?_eq_some_iff.1 hx
          rw [← h2, List.drop_eq_getElem_cons h1]
        have HD := hidT hd
        clear hd hx hc
        by_cases hlt : x < told
        · have e1 : decide (x < told) = true := decide_eq_true hlt
          have HPd : Hid (post = false) := by
            unfold Hid
            rw [HPc.out, HR.out, HD.out, Tp.okC, if_pos (.inl hlt)]
            rfl
          go_wp2_with fail
          go_ret
          refine ⟨?_, K0.out⟩
          rw [HPd.out]
          rfl
        · have e1 : decide (x < told) = false := decide_eq_false hlt
          by_cases hgt : (n3 : Int) < x
          · have e2 : decide ((n3 : Int) < x) = true := decide_eq_true hgt
            have HPd : Hid (post = false) := by
              unfold Hid
              rw [HPc.out, HR.out, HD.out, Tp.okC, if_pos (.inr hgt)]
              rfl
            go_wp2_with fail
            go_ret
            refine ⟨?_, K0.out⟩
            rw [HPd.out]
            rfl
          · have e2 : decide ((n3 : Int) < x) = false := decide_eq_false hgt
            have HR2 : Hid (Tp.okC n3 0 t.counts = Tp.okC n3 x (t.counts.drop (j + 1))) := by
              unfold Hid
              rw [HR.out, HD.out, Tp.okC, if_neg (by omega)]
            go_wp2_with fail
            go_roundg gk
            case measure => omega
            case rel => exact ⟨j + 1, x, by omega, by go_num, rfl, by omega, hidT rfl, HR2⟩
  · have q : ((n2 : Int) == (n1 : Int)) = false := by simp; omega
    have qb : ((n2 : Int) != (n1 : Int)) = true := by rw [bne, q]; rfl
    have HPc : Hid (post = false) := by
      unfold Hid
      rw [HP.out, Tp.rightT, decide_eq_false (by rw [← H1.out, ← H2.out]; exact hq)]
      rfl
    go_enter Try.func46, Try.ntmps46
    go_upto_region 1 with fail
    rw [← hW0, ← hM]
    have HMM := hidT hM
    clear hW0 hM
    go_wp2_with fail
    go_ret
    refine ⟨?_, K0.out⟩
    rw [HPc.out]
    rfl
end Go.Proofs.Ytgonadilbjfpkaa
