/- Layer 13: the document's ReadInput; SameNums. -/
import Derived.Test.YtgonadilbjfpkaaTpY
namespace Go.Proofs.Ytgonadilbjfpkaa
open Go.RowKit
set_option linter.unusedVariables false
set_option linter.unusedSimpArgs false
theorem rReadIn_long (n : Nat) (a : Option Addr) (c : Nat) (w : World) (h : 4194304 < n) (hl : n ≤ 4611686018427387904) :
    Calls Try.prog 20 #[.slice a n c] w fun e w' => e = .returned (.tuple #[.slice none 0 0, .int .i64 0, .int .i64 2]) ∧ w' = w := by
  have HB := hidT (rBegins_long n a c 1 w h hl)
  go_enter Try.func20, Try.ntmps20
  go_wp2_with fail
  refine HB.out.mono ?_
  rintro e w1 ⟨rfl, rfl⟩
  go_wp2_with fail
  go_ret3
  exact ⟨rfl, rfl⟩
theorem Tp.hd_err : ∀ (ws cs : List Int) (m i : Nat) (x : Int), Tp.hd m ws cs = some (i, x) → x ≠ 0
  | [], cs, m, i, x, h => by simp [Tp.hd] at h
  | u :: ws, [], m, i, x, h => by simp [Tp.hd] at h; omega
  | u :: ws, v :: cs, m, i, x, h => by
    rw [Tp.hd] at h
    split at h
    · exact Tp.hd_err _ _ _ _ _ h
    · simp at h; omega
theorem Tp.hd_len : ∀ (ws cs : List Int) (m : Nat), Tp.hd m ws cs = none → ws.length ≤ cs.length
  | [], cs, m, h => by simp
  | u :: ws, [], m, h => by simp [Tp.hd] at h
  | u :: ws, v :: cs, m, h => by
    rw [Tp.hd] at h
    split at h
    · have := Tp.hd_len ws cs _ h; simp; omega
    · cases h
theorem Tp.hd_five (k : Int) (b : List Int) (h : Tp.hd 0 (Tp.head k) b = none) : 5 ≤ b.length := Tp.hd_len _ _ _ h
theorem rdK {b : List Int} {k z u : Nat} (hb : Tp.Byt b) (h : Tp.rdF 0 0 (b.drop k) = .inl (z, u)) (hk : k ≤ b.length) : k + u ≤ b.length := by
  have := (Tp.rd_back _ _ _ (hb.drop k) h).2.1
  rw [List.length_drop] at this
  omega
set_option maxRecDepth 100000 in
set_option maxHeartbeats 4000000 in
theorem rReadIn_any (b : List Int) (a : Option Addr) (c : Nat) (w : World) (hy : Tp.Byt b) (hm : ByS w.heap.size w a b) (hc : b.length ≤ c) (hl : b.length ≤ 4194304) :
    Calls Try.prog 20 #[.slice a b.length c] w fun e w' => rdQ w e w' (Tp.riB b) := by
  obtain ⟨i0, hi, hz0, hz1, hz2⟩ := infoN'
  have HB := hidT (rBegins_any b a c 1 w hm hl)
  have EC := hidT (fun (W : World) (k : Nat) (q : Below w.heap.size w W) (hk : k ≤ b.length) => rcount_any b k a c W hy (hm.later q (Nat.le_refl _)) hc (by omega) hk)
  have EE := hidT (fun (W : World) (k : Nat) (q : Below w.heap.size w W) (hk : k ≤ b.length) => rEnds_any b a c k W ((hm.later q (Nat.le_refl _)).mono q.size) hy hc hk (by omega))
  have HY := hidT hy
  obtain ⟨n0, hn⟩ : ∃ n, n = b.length := ⟨_, rfl⟩
  have HN := hidT hn
  obtain ⟨post, hpost⟩ : ∃ p, p = Tp.riB b := ⟨_, rfl⟩
  have HP := hidT hpost
  rw [← hpost]
  rw [← hn] at HB EC EE hl ⊢
  clear hm hy hc hn hpost
  cases hh : Tp.hd 0 (Tp.head 1) b with
  | some p =>
    obtain ⟨i, x⟩ := p
    have hx := Tp.hd_err _ _ _ _ _ hh
    have qx : (x == 0) = false := by simpa using hx
    have HP2 : Hid (post = .bad i x) := by unfold Hid; rw [HP.out]; unfold Tp.riB; rw [hh]
    rw [hh] at HB
    dsimp only [opV] at HB
    clear hh hx
    go_enter Try.func20, Try.ntmps20
    go_wp2_with fail
    refine HB.out.mono ?_
    rintro e w1 ⟨rfl, k1⟩
    have K1 := hidT k1
    clear k1
    go_wp2_with fail
    go_ret3
    rw [HP2.out]
    exact ⟨rfl, K1.out⟩
  | none =>
    have h5 := Tp.hd_five 1 b hh
    rw [hh] at HB
    dsimp only [opV] at HB
    cases hc5 : Tp.rdF 0 0 (b.drop 5) with
    | inr x =>
      have hx := Tp.rdF_err _ _ _ _ hc5
      have qx : (x == 0) = false := by simp; omega
      have HP2 : Hid (post = .bad 5 x) := by unfold Hid; rw [HP.out]; unfold Tp.riB Tp.rdAt; rw [hh, hc5]
      have EC5 := hidT (fun W q => EC.out W 5 q (by rw [HN.out]; exact h5))
      rw [hc5] at EC5
      dsimp only [rcV] at EC5
      clear hh hx hc5
      go_enter Try.func20, Try.ntmps20
      go_wp2_with fail
      refine HB.out.mono ?_
      rintro e w1 ⟨rfl, k1⟩
      have K1 := hidT k1
      clear k1
      go_wp2_with fail
      refine (EC5.out w1 K1.out).mono ?_
      rintro e w2 ⟨rfl, rfl⟩
      go_wp2_with fail
      go_ret3
      rw [HP2.out]
      exact ⟨rfl, K1.out⟩
    | inl p =>
      obtain ⟨n, u⟩ := p
      have EC5 := hidT (fun W q => EC.out W 5 q (by rw [HN.out]; exact h5))
      rw [hc5] at EC5
      dsimp only [rcV] at EC5
      have hu := rdK HY.out hc5 h5
      have HZ := hidT (Tp.rd_back _ _ _ (HY.out.drop 5) hc5).2.2.2
      by_cases hn1 : 1000 < n
      · have HP2 : Hid (post = .bad 5 2) := by unfold Hid; rw [HP.out]; unfold Tp.riB Tp.rdAt; rw [hh, hc5]; exact if_pos hn1
        have d : decide ((1000 : Int) < (n : Int)) = true := decide_eq_true (by omega)
        have dn : decide (1000 < n) = true := decide_eq_true hn1
        clear hh hc5
        go_enter Try.func20, Try.ntmps20
        go_wp2_with fail
        refine HB.out.mono ?_
        rintro e w1 ⟨rfl, k1⟩
        have K1 := hidT k1
        clear k1
        go_wp2_with fail
        refine (EC5.out w1 K1.out).mono ?_
        rintro e w2 ⟨rfl, rfl⟩
        go_wp2_with fail
        go_ret3
        rw [HP2.out]
        exact ⟨rfl, K1.out⟩
      · have HP2 : Hid (post = (match Tp.nums b n (5 + u) [] with
          | .bad j e => (.bad j e : Tp.Res (List Int))
          | .good l j => match Tp.ends b j with
            | some (i, e) => .bad i e
            | none => .good l 0)) := by unfold Hid; rw [HP.out]; unfold Tp.riB Tp.rdAt; rw [hh, hc5]; exact if_neg hn1
        have d : decide ((1000 : Int) < (n : Int)) = false := decide_eq_false (by omega)
        have dn : decide (1000 < n) = false := decide_eq_false hn1
        clear hh hc5
        have hu' : 5 + u ≤ n0 := by rw [HN.out]; exact hu
        go_enter Try.func20, Try.ntmps20
        go_wp2_with fail
        refine HB.out.mono ?_
        rintro e w1 ⟨rfl, k1⟩
        have K1 := hidT k1
        clear k1
        go_wp2_with fail
        refine (EC5.out w1 K1.out).mono ?_
        rintro e w2 ⟨rfl, rfl⟩
        go_wp2_with fail
        go_loopg [8, 10, 11] n (fun gk at_ v i wr => ∃ (j k : Nat) (acc : List Int), j + gk = n ∧ i = .int .u64 j ∧ at_ = .int .i64 k ∧ k ≤ n0 ∧ Hid (OwN wr w.heap.size v acc) ∧ Hid (Below w.heap.size w wr) ∧ Hid (acc.length = j ∧ Tp.nums b n (5 + u) [] = Tp.nums b gk k acc))
        case atStart => exact ⟨0, 5 + u, [], by omega, rfl, by first | rfl | exact congrArg _ (by omega), hu', World.ownsRow_nil _ _ _ _, K1, rfl, rfl⟩
        case round =>
          obtain ⟨j, k, acc, hj, rfl, rfl, hk, HO, HW, HA⟩ := hrel
          have hk' : k ≤ b.length := by rw [← HN.out]; exact hk
          obtain ⟨va, vc, hv⟩ := ownShT HO.out
          subst hv
          rcases gk with _ | gk
          · obtain rfl : j = n := by omega
            have dk : decide ((j : Int) < (j : Int)) = false := decide_eq_false (by omega)
            have EE1 := hidT (EE.out wr k HW.out hk)
            cases he : Tp.ends b k with
            | none =>
              rw [he] at EE1
              dsimp only [opV] at EE1
              have HP3 : Hid (post = .good acc 0) := by unfold Hid; rw [HP2.out, HA.out.2]; simp only [Tp.nums, he]
              clear he hk'
              go_wp2_with fail
              refine EE1.out.mono ?_
              rintro e w3 ⟨rfl, k3⟩
              have K3 := hidT (HW.out.trans (k3.mono HW.out.size))
              have O3 := hidT (ownLtT HO.out k3)
              clear k3
              go_wp2_with fail
              go_ret3
              rw [HP3.out]
              exact ⟨_, rfl, O3.out, K3.out⟩
            | some p =>
              obtain ⟨i, x⟩ := p
              have hx := Tp.ends_err b k i x he
              have qx : (x == 0) = false := by simpa using hx
              rw [he] at EE1
              dsimp only [opV] at EE1
              have HP3 : Hid (post = .bad i x) := by unfold Hid; rw [HP2.out, HA.out.2]; simp only [Tp.nums, he]
              clear he hk' hx
              go_wp2_with fail
              refine EE1.out.mono ?_
              rintro e w3 ⟨rfl, k3⟩
              have K3 := hidT (HW.out.trans (k3.mono HW.out.size))
              clear k3
              go_wp2_with fail
              go_ret3
              rw [HP3.out]
              exact ⟨rfl, K3.out⟩
          · have dk : decide ((j : Int) < (n : Int)) = true := decide_eq_true (by omega)
            have dkn : decide (j < n) = true := decide_eq_true (by omega)
            have EC1 := hidT (EC.out wr k HW.out hk)
            cases hr : Tp.rdF 0 0 (b.drop k) with
            | inr x =>
              have hx := Tp.rdF_err _ _ _ _ hr
              have qx : (x == 0) = false := by simp; omega
              rw [hr] at EC1
              dsimp only [rcV] at EC1
              have HP3 : Hid (post = .bad k x) := by unfold Hid; rw [HP2.out, HA.out.2]; simp only [Tp.nums, Tp.rdAt, hr]
              clear hr hx hk'
              go_wp2_with fail
              refine EC1.out.mono ?_
              rintro e w3 ⟨rfl, rfl⟩
              go_wp2_with fail
              go_ret3
              rw [HP3.out]
              exact ⟨rfl, HW.out⟩
            | inl p =>
              obtain ⟨z, t⟩ := p
              rw [hr] at EC1
              dsimp only [rcV] at EC1
              have ht := rdK HY.out hr hk'
              rw [← HN.out] at ht
              have hz := (Tp.rd_back _ _ _ (HY.out.drop k) hr).2.2.2
              have HP3 : Hid (Tp.nums b (gk + 1) k acc = Tp.nums b gk (k + t) (acc ++ [Tp.zag z])) := by unfold Hid; simp only [Tp.nums, Tp.rdAt, hr]
              have H63 : Hid (acc.length + 1 ≤ maxLen ∧ ((acc.length + 1) + (acc.length + 1) / 4 + 192) * 8 ≤ 281474976710656) := by
                have := HA.out.1
                unfold Hid maxLen
                omega
              have HWs : Hid (w.heap.size ≤ wr.heap.size) := HW.out.size
              clear hr hk'
              go_wp2_with fail
              refine EC1.out.mono ?_
              rintro e w3 ⟨rfl, rfl⟩
              go_wp2_with fail
              refine (rZag_any z hz _).mono ?_
              rintro e w4 ⟨rfl, rfl⟩
              go_wp2_with (at_builtin; refine wpList_append_own_wide _ rfl _ _ 32 rfl w.heap.size 2 i0 (.int .i64 0) 1 8 Try.underlying32 hi hz0 hz1 hz2 rfl (by decide) _ _ _ rfl (ownLtT HO.out ((Below.refl _ _).alloc (Nat.le_refl _) _)) ⟨w4.heap.size, 0, none⟩ 1 1 [.int .i64 (Tp.zag z)] rfl rfl (one1 _ _ _) (by intro x hx; simp at hx; subst hx; rfl) H63.out.1 H63.out.2 (by simp; exact Nat.le_trans HWs.out (Nat.le_succ _)) ?_)
              intro v8 w8 h8 g8 o8
              have O8 : Hid (OwN w8 w.heap.size v8 (acc ++ [Tp.zag z])) := OwN.of h8 rfl
              have K8 : Hid (Below w.heap.size w w8) := HW.out.trans (((Below.refl _ w4).alloc HWs.out _).trans ⟨g8.os, g8.tape, g8.output, g8.size, fun i hi => g8.block i (by have := HWs.out; simp; omega) (fun e => by have := (World.ownsRow.lt HO.out _ e.symm).1; omega)⟩)
              clear h8 g8 o8
              go_wp2_with fail
              go_roundg gk
              case measure => omega
              case rel =>
                refine ⟨j + 1, k + t, acc ++ [Tp.zag z], by omega, by first | go_num | (exact congrArg _ (by omega)), by first | rfl | exact congrArg _ (by omega), ht, O8, K8, by simp [HA.out.1], HA.out.2.trans HP3.out⟩
set_option maxHeartbeats 2000000 in
theorem sameNums_yes (w : World) (a b : Option Addr) (ca cb : Nat) (l : List Int) (ha : NmS w.heap.size w a l) (hb : NmS w.heap.size w b l) (hl : l.length ≤ 1000000000) : Calls Try.prog 45 #[.slice a l.length ca, .slice b l.length cb] w fun e w' => e = .returned (.bool true) ∧ Below w.heap.size w w' := by
  have HA := hidT ha
  have HB := hidT hb
  obtain ⟨n, hn⟩ : ∃ n, n = l.length := ⟨_, rfl⟩
  have HN := hidT hn
  rw [← hn] at hl ⊢
  clear ha hb hn
  go_enter Try.func45, Try.ntmps45
  go_wp2_with fail
  go_loopg [5] n (fun gk i wr => ∃ k : Nat, k + gk = n ∧ i = .int .i64 k ∧ Hid (Below w.heap.size w wr))
  case atStart => exact ⟨0, by omega, rfl, Below.refl _ _⟩
  case round =>
    obtain ⟨k, hk, rfl, BR⟩ := hrel
    rcases gk with _ | gk
    · obtain rfl : k = n := by omega
      have dk : decide ((k : Int) < (k : Int)) = false := decide_eq_false (by omega)
      go_wp2_with fail
      go_ret
      exact ⟨rfl, BR.out⟩
    · have hlt : k < n := by omega
      have dk : decide ((k : Int) < (n : Int)) = true := decide_eq_true (by omega)
      have dkn : decide (k < n) = true := decide_eq_true hlt
      obtain ⟨x, hx⟩ : ∃ x, l[k]? = some x := ⟨_, List.getElem?_eq_getElem (by rw [← HN.out]; exact hlt)⟩
      obtain ⟨ga, oa, rfl, hga, ca'⟩ := (HA.out.later BR.out (Nat.le_refl _)) (by rw [← HN.out]; omega)
      obtain ⟨gb, ob, rfl, hgb, cb'⟩ := (HB.out.later BR.out (Nat.le_refl _)) (by rw [← HN.out]; omega)
      have a0 := ca' k x hx
      have b0 := cb' k x hx
      have q1 : (x == x) = true := beq_self_eq_true x
      clear ca' cb' hx
      go_upto_region 6 with fail
      go_quiet (fail)
      have BQ := hidT (drN BR.out nq)
      generalize wr.drewN nq = W5 at BQ ⊢
      clear a0 b0
      go_wp2_with fail
      go_roundg gk
      case measure => omega
      case rel => exact ⟨k + 1, by omega, by go_num, BQ⟩
theorem nums_yes (w : World) (a b : Option Addr) (ca cb : Nat) (l : List Int) (ha : NmS w.heap.size w a l) (hb : NmS w.heap.size w b l) (hl : l.length ≤ 1000000000) : Calls Try.prog 21 #[.slice a l.length ca, .slice b l.length cb] w fun e w' => e = .returned (.bool true) ∧ Below w.heap.size w w' := by
  have HS := hidT (sameNums_yes w a b ca cb l ha hb hl)
  obtain ⟨n, hn⟩ : ∃ n, n = l.length := ⟨_, rfl⟩
  rw [← hn] at HS ⊢
  clear ha hb hn
  go_enter Try.func21, Try.ntmps21
  go_wp2_with fail
  refine HS.out.mono ?_
  rintro e w1 ⟨rfl, k1⟩
  have K1 := hidT k1
  clear k1
  go_wp2_with fail
  go_ret
  exact ⟨rfl, K1.out⟩
theorem long_any (w : World) (a : Option Addr) (n c : Nat) (hn : n ≤ 4611686018427387904) : Calls Try.prog 16 #[.slice a n c] w fun e w' => e = .returned (.bool (decide (3000 < n ∧ n ≤ 4194304))) ∧ w' = w := by
  by_cases h1 : 3000 < n
  · by_cases h2 : n ≤ 4194304
    · rw [decide_eq_true (⟨h1, h2⟩ : 3000 < n ∧ n ≤ 4194304)]
      have d1 : decide ((3000 : Int) < (n : Int)) = true := decide_eq_true (by omega)
      have d2 : decide ((n : Int) ≤ 4194304) = true := decide_eq_true (by omega)
      go_enter Try.func16, Try.ntmps16
      go_wp2_with fail
      go_ret
      exact ⟨rfl, rfl⟩
    · rw [decide_eq_false (fun h : 3000 < n ∧ n ≤ 4194304 => h2 h.2)]
      have d1 : decide ((3000 : Int) < (n : Int)) = true := decide_eq_true (by omega)
      have d2 : decide ((n : Int) ≤ 4194304) = false := decide_eq_false (by omega)
      go_enter Try.func16, Try.ntmps16
      go_wp2_with fail
      go_ret
      exact ⟨rfl, rfl⟩
  · rw [decide_eq_false (fun h : 3000 < n ∧ n ≤ 4194304 => h1 h.1)]
    have d1 : decide ((3000 : Int) < (n : Int)) = false := decide_eq_false (by omega)
    go_enter Try.func16, Try.ntmps16
    go_wp2_with fail
    go_ret
    exact ⟨rfl, rfl⟩
end Go.Proofs.Ytgonadilbjfpkaa
