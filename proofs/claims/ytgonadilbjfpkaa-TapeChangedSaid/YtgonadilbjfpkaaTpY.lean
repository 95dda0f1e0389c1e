/- Layer 13: the document's beginnings and ends of tapes. -/
import Derived.Test.YtgonadilbjfpkaaTpX
namespace Go.Proofs.Ytgonadilbjfpkaa
open Go.RowKit
set_option linter.unusedVariables false
set_option linter.unusedSimpArgs false
def opV : Option (Nat × Int) → Value
  | none => .tuple #[.int .i64 0, .int .i64 0]
  | some (i, x) => .tuple #[.int .i64 (i : Int), .int .i64 x]
theorem Tp.hd_drop : ∀ (ws cs : List Int) (i j : Nat), ws.take j = cs.take j → j ≤ ws.length → j ≤ cs.length → Tp.hd i ws cs = Tp.hd (i + j) (ws.drop j) (cs.drop j)
  | ws, cs, i, 0, _, _, _ => rfl
  | [], cs, i, j + 1, _, h, _ => by simp at h
  | w :: ws, [], i, j + 1, _, _, h => by simp at h
  | w :: ws, c :: cs, i, j + 1, h, h1, h2 => by
    simp only [List.take_succ_cons, List.cons.injEq] at h
    rw [Tp.hd, if_pos h.1.symm, Tp.hd_drop ws cs (i + 1) j h.2 (by simpa using h1) (by simpa using h2)]
    simp only [List.drop_succ_cons]
    congr 1
    omega
theorem rBegins_long (n : Nat) (a : Option Addr) (c : Nat) (kd : Int) (w : World) (h : 4194304 < n) (hl : n ≤ 4611686018427387904) :
    Calls Try.prog 43 #[.slice a n c, .int .u8 kd] w fun e w' => e = .returned (.tuple #[.int .i64 0, .int .i64 2]) ∧ w' = w := by
  have d : decide ((4194304 : Int) < (n : Int)) = true := decide_eq_true (by omega)
  go_enter Try.func43, Try.ntmps43
  go_wp2_with fail
  go_ret2
  exact ⟨rfl, rfl⟩
set_option maxHeartbeats 2000000 in
theorem rBegins_any (b : List Int) (a : Option Addr) (c : Nat) (kd : Int) (w : World) (hm : ByS w.heap.size w a b) (hl : b.length ≤ 4194304) :
    Calls Try.prog 43 #[.slice a b.length c, .int .u8 kd] w fun e w' => e = .returned (opV (Tp.hd 0 (Tp.head kd) b)) ∧ Below w.heap.size w w' := by
  have HM := hidT hm
  obtain ⟨n, hn⟩ : ∃ n, n = b.length := ⟨_, rfl⟩
  have HN := hidT hn
  rw [← hn] at hl ⊢
  have d : decide ((4194304 : Int) < (n : Int)) = false := decide_eq_false (by omega)
  obtain ⟨post, hpost⟩ : ∃ p, p = opV (Tp.hd 0 (Tp.head kd) b) := ⟨_, rfl⟩
  have HP := hidT hpost
  rw [← hpost]
  clear hm hn hpost
  go_enter Try.func43, Try.ntmps43
  go_wp2_with fail
  refine (rHead_any kd w).mono ?_
  rintro e w1 ⟨v1, rfl, o1, k1⟩
  obtain ⟨g1, c1, hv1, hb1, hl1, hc1, ce1⟩ := o1.cell' (by simp [Tp.head])
  subst hv1
  have CE := hidT ce1
  have HL1 := hidT hl1
  have K1 := hidT k1
  clear o1 k1 ce1 hc1 hb1 hl1
  rw [show (Tp.head kd).length = 5 from rfl]
  go_wp2_with fail
  go_loopg [7] 5 (fun gk i wr => ∃ j : Nat, j + gk = 5 ∧ i = .int .i64 j ∧ j ≤ n ∧ Hid (Below w1.heap.size w1 wr) ∧ Hid ((Tp.head kd).take j = b.take j))
  case atStart => exact ⟨0, by omega, rfl, by omega, Below.refl _ _, hidT rfl⟩
  case round =>
    obtain ⟨j, hj, rfl, hjn, KR, HT⟩ := hrel
    have FB := hidT (K1.out.trans (KR.out.mono K1.out.size))
    have HD := hidT (Tp.hd_drop (Tp.head kd) b 0 j HT.out (by simp [Tp.head]; omega) (by rw [← HN.out]; exact hjn))
    rcases gk with _ | gk
    · obtain rfl : j = 5 := by omega
      go_wp2_with fail
      go_ret2
      refine ⟨?_, FB.out⟩
      rw [HP.out, HD.out]
      rfl
    · have d5 : decide ((j : Int) < 5) = true := decide_eq_true (by omega)
      have d6 : decide (j < 5) = true := decide_eq_true (by omega)
      have d7 : j < 5 := by omega
      obtain ⟨x, hx⟩ : ∃ x, (Tp.head kd)[j]? = some x := ⟨_, List.getElem?_eq_getElem (by simp [Tp.head]; omega)⟩
      have hdw : (Tp.head kd).drop j = x :: (Tp.head kd).drop (j + 1) := by
        obtain ⟨h1, h2⟩ := List.getElem?_eq_some_iff.1 hx
        rw [← h2, List.drop_eq_getElem_cons h1]
      have HDW := hidT hdw
      have HX := hidT hx
      have cx : wr.cell? ⟨g1, j, none⟩ = some (.int .u8 x) := (KR.out.cell (p := ⟨g1, j, none⟩) HL1.out).trans (CE.out j x hx)
      clear hdw hx
      by_cases hge : n ≤ j
      · have e1 : decide ((n : Int) ≤ (j : Int)) = true := decide_eq_true (by omega)
        have e2 : decide (n ≤ j) = true := decide_eq_true hge
        go_wp2_with fail
        go_ret2
        refine ⟨?_, FB.out⟩
        have hbj : b.drop j = [] := List.drop_eq_nil_of_le (by rw [← HN.out]; exact hge)
        rw [HP.out, HD.out, HDW.out, hbj]
        simp [Tp.hd, opV]
      · have e1 : decide ((n : Int) ≤ (j : Int)) = false := decide_eq_false (by omega)
        have e2 : decide (n ≤ j) = false := decide_eq_false hge
        have e3 : j < n := by omega
        have e4 : decide (j < n) = true := decide_eq_true e3
        obtain ⟨y, hy⟩ : ∃ y, b[j]? = some y := ⟨_, List.getElem?_eq_getElem (by rw [← HN.out]; exact e3)⟩
        obtain ⟨ga, o, rfl, hga, hce⟩ := HM.out (by rw [← HN.out]; omega)
        have cy : wr.cell? ⟨ga, o + j, none⟩ = some (.int .u8 y) := (FB.out.cell (p := ⟨ga, o + j, none⟩) hga).trans (hce j y hy)
        have hdb : b.drop j = y :: b.drop (j + 1) := by
          obtain ⟨h1, h2⟩ := List.getElem?_eq_some_iff.1 hy
          rw [← h2, List.drop_eq_getElem_cons h1]
        have HDB := hidT hdb
        have HY := hidT hy
        clear hdb hy hce
        by_cases hxy : y = x
        · have q : (y == x) = true := by simpa using hxy
          have HXY := hidT hxy
          clear hxy
          go_upto_region 9 with fail
          go_quiet (fail)
          have KD := hidT (drN KR.out nq)
          generalize wr.drewN nq = W5 at KD ⊢
          clear cx cy
          go_wp2_with fail
          go_roundg gk
          case measure => omega
          case rel =>
            refine ⟨j + 1, by omega, by go_num, by omega, KD, ?_⟩
            unfold Hid
            rw [List.take_add_one, List.take_add_one, HT.out, HX.out, HY.out, HXY.out]
        · have q : (y == x) = false := by simpa using hxy
          have HXY := hidT hxy
          clear hxy
          go_upto_region 9 with fail
          go_quiet (fail)
          have KD := hidT (drN FB.out nq)
          generalize wr.drewN nq = W5 at KD ⊢
          clear cx cy
          go_wp2_with fail
          go_ret2
          refine ⟨?_, KD.out⟩
          rw [HP.out, HD.out, HDW.out, HDB.out, Tp.hd, if_neg HXY.out]
          simp [opV]
set_option maxRecDepth 100000 in
set_option maxHeartbeats 2000000 in
theorem rEnds_any (b : List Int) (a : Option Addr) (c : Nat) (k : Nat) (w : World) (hm : ByS w.heap.size w a b) (hy : Tp.Byt b) (hc : b.length ≤ c) (hk : k ≤ b.length) (hl : b.length ≤ 4611686018427387000) :
    Calls Try.prog 44 #[.slice a b.length c, .int .i64 k] w fun e w' => e = .returned (opV (Tp.ends b k)) ∧ Below w.heap.size w w' := by
  unfold Tp.ends
  obtain ⟨n, hn⟩ : ∃ n, n = b.length := ⟨_, rfl⟩
  by_cases hs : b.length < k + 4
  · rw [if_pos hs, ← hn]
    rw [← hn] at hs hk hl hc
    have d : decide ((n : Int) < (k : Int) + 4) = true := decide_eq_true (by omega)
    clear hn hm hy
    go_enter Try.func44, Try.ntmps44
    go_wp2_with fail
    go_ret2
    exact ⟨rfl, Below.refl _ _⟩
  · rw [if_neg hs]
    obtain ⟨xs, hxs⟩ : ∃ xs, xs = (b.drop k).take 4 := ⟨_, rfl⟩
    have hx4 : xs.length = 4 := by rw [hxs, List.length_take, List.length_drop]; omega
    have hxb : Tp.Byt xs := by rw [hxs]; exact (hy.drop k).take 4
    obtain ⟨ga, o, rfl, hga, hce⟩ := hm (by omega)
    have hcx : ∀ j x, xs[j]? = some x → w.cell? ⟨ga, o + k + j, none⟩ = some (.int .u8 x) := fun j x hj => by
      rw [hxs, List.getElem?_take] at hj
      split at hj
      · rw [List.getElem?_drop] at hj
        rw [Nat.add_assoc]
        exact hce _ x hj
      · cases hj
    have ES := hidT (fun (W : World) (q : Below w.heap.size w W) => rSeal_any (b.take k) (some ⟨ga, o, none⟩) c W (hy.take k) (B := w.heap.size) (fun h0 => ⟨ga, o, rfl, hga, fun j x hj => by
      rw [List.getElem?_take] at hj
      split at hj
      · exact (q.cell (p := ⟨ga, _, none⟩) hga).trans (hce _ x hj)
      · cases hj⟩) (by rw [List.length_take]; omega))
    rw [List.length_take, Nat.min_eq_left hk] at ES
    have hsb := Tp.sl4_byt (b.take k)
    obtain ⟨S, hS⟩ : ∃ S, S = Tp.sl4 (Tp.sum (b.take k)) := ⟨_, rfl⟩
    have hS4 : S.length = 4 := by rw [hS]; rfl
    rw [← hS] at ES hsb ⊢
    rw [← hxs, ← hn]
    rw [← hn] at hs hk hl hc
    have KS : Hid (∀ W, Below w.heap.size w W → (convert 22 9 (.slice (some ⟨ga, o + k, none⟩) 4 (c - k))).run Try.prog W = .ok (.string (strOfNums xs)) W) := fun W q => by
      have := cv_at W ga (o + k) (c - k) xs (fun j x hj => (q.cell (p := ⟨ga, _, none⟩) hga).trans (hcx j x hj))
      rwa [hx4] at this
    obtain ⟨k4, hk4⟩ : ∃ k4, k4 = k + 4 := ⟨_, rfl⟩
    have HK4 := hidT hk4
    have he : (k : Int) + 4 = (k4 : Int) := by omega
    have hkc : k ≤ c := by omega
    have hkk : k ≤ k4 := by omega
    have hkk4 : k4 ≤ c := by omega
    have hkki : (k : Int) ≤ (k4 : Int) := by omega
    have hkci : (k4 : Int) ≤ (c : Int) := by omega
    have hsub : k4 - k = 4 := by omega
    have hw3 : IntKind.i64.wrap (k4 : Int) = (k4 : Int) := by rw [IntKind.wrap_i64]; omega
    have hz1 : ¬ c = k := by omega
    have hz2 : (c - k == 0) = false := by simp; omega
    have d : decide ((n : Int) < (k4 : Int)) = false := decide_eq_false (by omega)
    have dn : decide (n < k4) = false := decide_eq_false (by omega)
    have kw := KS.out w.drew (drN (Below.refl _ _) 1)
    have HSL := hidT hS4
    by_cases hq : xs = S
    · have QQ : ((strOfNums xs).toList == (strOfNums S).toList) = true := by rw [hq]; exact str_eqL _
      rw [if_neg (fun e => e hq)]
      clear hq hS hxs hn hm hce hcx hy hxb hsb hx4 hS4
      by_cases hm2 : k + 4 < n
      · rw [if_pos hm2]
        rw [← hk4]
        have d2 : decide ((k4 : Int) < (n : Int)) = true := decide_eq_true (by omega)
        have d3 : decide (k4 < n) = true := decide_eq_true (by omega)
        clear hk4 hm2
        go_enter Try.func44, Try.ntmps44
        go_upto_region 3 with fail
        go_region_with (first
          | (go_at_call 40; refine (ES.out _ (by go_grown)).mono ?_; rintro e w5 ⟨v5, rfl, o5, k5⟩; obtain ⟨g5, c5, hv5, hb5, hl5, hc5, ce5⟩ := o5.cell' (by rw [HSL.out]; decide); subst hv5; have K5 : Hid (Below w.heap.size w w5) := Below.trans (by go_grown) (k5.mono (by go_size)); have v5c := cv_some w5 g5 c5 S ce5; have s9 := KS.out _ K5.out; clear o5 k5 ce5 hc5 hb5 hl5))
        all_goals go_wp2_with fail
        all_goals go_ret2
        all_goals exact ⟨rfl, K5.out⟩
      · rw [if_neg hm2]
        have d2 : decide ((k4 : Int) < (n : Int)) = false := decide_eq_false (by omega)
        have d3 : decide (k4 < n) = false := decide_eq_false (by omega)
        clear hk4 hm2
        go_enter Try.func44, Try.ntmps44
        go_upto_region 3 with fail
        go_region_with (first
          | (go_at_call 40; refine (ES.out _ (by go_grown)).mono ?_; rintro e w5 ⟨v5, rfl, o5, k5⟩; obtain ⟨g5, c5, hv5, hb5, hl5, hc5, ce5⟩ := o5.cell' (by rw [HSL.out]; decide); subst hv5; have K5 : Hid (Below w.heap.size w w5) := Below.trans (by go_grown) (k5.mono (by go_size)); have v5c := cv_some w5 g5 c5 S ce5; have s9 := KS.out _ K5.out; clear o5 k5 ce5 hc5 hb5 hl5))
        all_goals go_wp2_with fail
        all_goals go_ret2
        all_goals exact ⟨rfl, K5.out⟩
    · have QQ : ((strOfNums xs).toList == (strOfNums S).toList) = false := str_neL hxb hsb hq
      rw [if_pos hq]
      clear hk4
      clear hq hS hxs hn hm hce hcx hy hxb hsb hx4 hS4
      go_enter Try.func44, Try.ntmps44
      go_upto_region 3 with fail
      go_region_with (first
        | (go_at_call 40; refine (ES.out _ (by go_grown)).mono ?_; rintro e w5 ⟨v5, rfl, o5, k5⟩; obtain ⟨g5, c5, hv5, hb5, hl5, hc5, ce5⟩ := o5.cell' (by rw [HSL.out]; decide); subst hv5; have K5 : Hid (Below w.heap.size w w5) := Below.trans (by go_grown) (k5.mono (by go_size)); have v5c := cv_some w5 g5 c5 S ce5; have s9 := KS.out _ K5.out; clear o5 k5 ce5 hc5 hb5 hl5))
      all_goals go_wp2_with fail
      all_goals go_ret2
      all_goals exact ⟨rfl, K5.out⟩
end Go.Proofs.Ytgonadilbjfpkaa
