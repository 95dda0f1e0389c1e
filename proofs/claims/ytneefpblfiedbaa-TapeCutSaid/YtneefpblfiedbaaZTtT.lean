/- Layer 13: known: the fixed calls; TapeSums. -/
/- Layer 13: bytes as texts; numbers read by both. -/
/- Layer 13: the document's beginnings and ends of tapes. -/
/- Layer 13: the document's ReadInput; SameNums. -/
/- Layer 13: TapeInputs. -/
/- Layer 13: traces in memory; which are right. -/
/- Layer 13: which traces are right; records put. -/
/- Appends: where the row lies behind them. -/
import Derived.Test.YtneefpblfiedbaaZTpV
import Derived.Laws.BytesArg
import Derived.Laws.StructEq
import Derived.Test.YtneefpblfiedbaaZTpF
namespace Go.Proofs.Ytneefpblfiedbaa
open Go.RowKit
set_option linter.unusedVariables false
set_option linter.unusedSimpArgs false
theorem kn1 : Tp.dg (Tp.zg (-1)) = [1] := by decide
theorem kn2 : Tp.dg (Tp.zg 64) = [128, 1] := by decide
theorem kn3 : Tp.wi [] = [80, 76, 88, 49, 1, 0, 5, 87, 1, 39] := by kernel_rfl
theorem kn4 : Tp.riB [80, 76, 88, 49, 1, 0, 5, 87, 1, 39] = .good [] 0 := by kernel_rfl
theorem kn5 : Tp.sum [] = 1 := by kernel_rfl
theorem kn6 : Tp.sum [1] = 131074 := by kernel_rfl
theorem sumP_nil (w : World) : Calls Try.prog 22 #[.slice none 0 0] w fun e w' => e = .returned (.int .u32 1) ∧ w' = w := by
  have h := sumP_any [] none 0 w Tp.Byt.nil (B := 0) (fun h => absurd h (by decide)) (by decide)
  rw [kn5] at h
  exact h
theorem sumP_one (w : World) (g : Nat) (hg : w.cell? ⟨g, 0, none⟩ = some (.int .u8 1)) : Calls Try.prog 22 #[.slice (some ⟨g, 0, none⟩) 1 1] w fun e w' => e = .returned (.int .u32 131074) ∧ w' = w := by
  have h := sumP_any [1] (some ⟨g, 0, none⟩) 1 w (by intro c hc; simp at hc; omega) (B := g + 1) (fun _ => ⟨g, 0, rfl, by omega, fun j x hj => by
    cases j with
    | zero => simp at hj; subst hj; simpa using hg
    | succ j => simp at hj⟩) (by decide)
  rw [kn6] at h
  exact h
theorem OwB.cell' {w : World} {base : Nat} {v : Value} {l : List Int} (h : OwB w base v l) (h0 : 0 < l.length) : ∃ g cap, v = .slice (some ⟨g, 0, none⟩) l.length cap ∧ base ≤ g ∧ g < w.heap.size ∧ l.length ≤ cap ∧ ∀ j x, l[j]? = some x → w.cell? ⟨g, j, none⟩ = some (.int .u8 x) := by
  have hc := @World.ownsRow.cells _ _ _ _ _ _ _ h
  have hl := @World.ownsRow.lt _ _ _ _ _ _ _ h
  rcases h.2 with ⟨_, h1⟩ | ⟨g, cap, cur, e, hbg, _, hcap, _⟩
  · omega
  · subst e
    refine ⟨g, cap, rfl, hbg, (hl g rfl).2, hcap, fun j x hx => ?_⟩
    have := hc (g := g) rfl j _ (byC_get hx)
    rw [adT, Nat.zero_add] at this
    exact this
set_option maxRecDepth 100000 in
set_option maxHeartbeats 4000000 in
theorem known13 (w : World) : Calls Try.prog 8 #[] w fun e w' => e = .returned (.bool true) ∧ Below w.heap.size w w' := by
  go_enter Try.func8, Try.ntmps8
  go_wp2_with fail
  refine (numP_any w (-1) (by decide) (by decide)).mono ?_
  rintro e w1 ⟨v1, rfl, o1, k1⟩
  rw [kn1] at o1
  obtain ⟨g1, c1, hv1, hb1, hl1, hc1, ce1⟩ := o1.cell' (by decide)
  subst hv1
  have A1 := hidT (ce1 0 1 rfl)
  have HL1 := hidT hl1
  have K1 := hidT k1
  clear o1 k1 ce1 hc1 hb1 hl1
  go_wp2_with fail
  refine (numP_any w1 64 (by decide) (by decide)).mono ?_
  rintro e w2 ⟨v2, rfl, o2, k2⟩
  rw [kn2] at o2
  obtain ⟨g2, c2, hv2, hb2, hl2, hc2, ce2⟩ := o2.cell' (by decide)
  subst hv2
  have A2 := hidT (And.intro (ce2 0 128 rfl) (ce2 1 1 rfl))
  have HL2 := hidT hl2
  have K2 := hidT k2
  clear o2 k2 ce2 hc2 hb2 hl2
  go_wp2_with fail
  refine (writeIn_any [] none 0 w2 (B := 0) (fun h => absurd h (by decide)) (by omega) (by decide) (by simp)).mono ?_
  rintro e w3 ⟨v3, rfl, o3, k3⟩
  rw [kn3] at o3
  obtain ⟨g3, c3, hv3, hb3, hl3, hc3, ce3⟩ := o3.cell' (by decide)
  subst hv3
  have A3 := hidT (ce3 5 0 rfl)
  have HL3 := hidT hl3
  have K3 := hidT k3
  have R3 := hidT (readIn_any [80, 76, 88, 49, 1, 0, 5, 87, 1, 39] (some ⟨g3, 0, none⟩) c3 w3 (by intro c hc; simp at hc; omega) (B := w3.heap.size) (fun _ => ⟨g3, 0, rfl, hl3, fun j x hj => by rw [Nat.zero_add]; exact ce3 j x hj⟩) (Nat.le_refl _) hc3 (by decide))
  rw [kn4] at R3
  dsimp only [rdQ] at R3
  clear o3 k3 ce3 hc3 hb3 hl3
  dsimp only [List.length_cons, List.length_nil] at R3 ⊢
  go_wp2_with fail
  refine R3.out.mono ?_
  rintro e w4 ⟨v4, rfl, o4, k4⟩
  obtain ⟨a4, c4, hv4⟩ := ownShT o4
  subst hv4
  have k3' := K3.out.trans (k4.mono K3.out.size)
  have k2' := K2.out.trans (k3'.mono K2.out.size)
  have x1 : w4.cell? ⟨g1, 0, none⟩ = some (.int .u8 1) := (k2'.cell (p := ⟨g1, 0, none⟩) HL1.out).trans A1.out
  have x2 : w4.cell? ⟨g2, 0, none⟩ = some (.int .u8 128) := (k3'.cell (p := ⟨g2, 0, none⟩) HL2.out).trans A2.out.1
  have x3 : w4.cell? ⟨g2, 1, none⟩ = some (.int .u8 1) := (k3'.cell (p := ⟨g2, 1, none⟩) HL2.out).trans A2.out.2
  have x5 : w4.cell? ⟨g3, 5, none⟩ = some (.int .u8 0) := (k4.cell (p := ⟨g3, 5, none⟩) HL3.out).trans A3.out
  have K4 := hidT (K1.out.trans (k2'.mono K1.out.size))
  clear o4 k4 k3' k2'
  dsimp only [List.length_cons, List.length_nil]
  go_wp2_with fail
  refine (sumP_nil _).mono ?_
  rintro e w5 ⟨rfl, rfl⟩
  go_wp2_with fail
  refine (sumP_one _ _ (by simp)).mono ?_
  rintro e w6 ⟨rfl, rfl⟩
  go_wp2_with fail
  go_ret
  exact ⟨rfl, K4.out.trans ((Below.refl _ _).alloc K4.out.size _)⟩
end Go.Proofs.Ytneefpblfiedbaa

namespace Go.Proofs.Ytneefpblfiedbaa
open Go.RowKit
set_option linter.unusedVariables false
set_option linter.unusedSimpArgs false
/-- Bytes as a text. -/
theorem cv_some (w : World) (g c : Nat) (l : List Int) (h : ∀ j x, l[j]? = some x → w.cell? ⟨g, j, none⟩ = some (.int .u8 x)) : (convert 27 9 (.slice (some ⟨g, 0, none⟩) l.length c)).run Try.prog w = .ok (.string (strOfNums l)) w :=
  run_convert_bytes_arg w 27 5 Try.underlying27 Try.underlying5 g 0 l.length c l rfl (fun i hi => by
    have hx : l[i]? = some l[i] := List.getElem?_eq_getElem hi
    rw [Nat.zero_add, h i _ hx]
    simp [List.getD, hx]) 9 Try.underlying9
theorem readNum_self (w : World) (n : Int) (g c : Nat) (h0 : -9223372036854775808 ≤ n) (h1 : n ≤ 9223372036854775807) (hg : g < w.heap.size) (hc : (Tp.dg (Tp.zg n)).length ≤ c) (h : ∀ j x, (Tp.dg (Tp.zg n))[j]? = some x → w.cell? ⟨g, j, none⟩ = some (.int .u8 x)) :
    Calls Try.prog 71 #[.slice (some ⟨g, 0, none⟩) (Tp.dg (Tp.zg n)).length c, .int .i64 0] w fun e w' => e = .returned (.tuple #[.int .i64 n, .int .i64 ((Tp.dg (Tp.zg n)).length : Int), .int .i64 0]) ∧ w' = w := by
  have hz := Tp.zg_lt n h0 h1
  have r := readNum_in (Tp.dg (Tp.zg n)) 0 (some ⟨g, 0, none⟩) c w (Tp.dg_byt _ hz) (B := w.heap.size) (fun _ => ⟨g, 0, rfl, hg, fun j x hj => by rw [Nat.zero_add]; exact h j x hj⟩) hc (by have := Tp.dg_len (Tp.zg n); omega) (Nat.zero_le _)
  have e := Tp.rd_dg (Tp.zg n) [] hz
  rw [List.append_nil] at e
  rw [List.drop_zero, e] at r
  simpa [rnV, Tp.zag_zg] using r
theorem cv_at (w : World) (g o c : Nat) (l : List Int) (h : ∀ j x, l[j]? = some x → w.cell? ⟨g, o + j, none⟩ = some (.int .u8 x)) : (convert 27 9 (.slice (some ⟨g, o, none⟩) l.length c)).run Try.prog w = .ok (.string (strOfNums l)) w :=
  run_convert_bytes_arg w 27 5 Try.underlying27 Try.underlying5 g o l.length c l rfl (fun i hi => by
    have hx : l[i]? = some l[i] := List.getElem?_eq_getElem hi
    rw [h i _ hx]
    simp [List.getD, hx]) 9 Try.underlying9
theorem map_inj8 (a b : List Int) (ha : Tp.Byt a) (hb : Tp.Byt b) (e : a.map (fun n => UInt8.ofNat n.toNat) = b.map (fun n => UInt8.ofNat n.toNat)) : a = b := by
  induction a generalizing b with
  | nil => cases b with
    | nil => rfl
    | cons y b => simp at e
  | cons x a ih =>
    cases b with
    | nil => simp at e
    | cons y b =>
      simp only [List.map_cons, List.cons.injEq] at e
      obtain ⟨e1, e2⟩ := e
      have hx := ha x (by simp)
      have hy := hb y (by simp)
      have e3 : x.toNat = y.toNat := by
        have := congrArg UInt8.toNat e1
        simp only [UInt8.toNat_ofNat'] at this
        omega
      have : x = y := by omega
      rw [this, ih b (fun c hc => ha c (by simp [hc])) (fun c hc => hb c (by simp [hc])) e2]
theorem str_ne {a b : List Int} (ha : Tp.Byt a) (hb : Tp.Byt b) (h : a ≠ b) : (strOfNums a == strOfNums b) = false := by
  rw [beq_toListBytes, ByteArray.toList_eq, ByteArray.toList_eq]
  exact beq_eq_false_iff_ne.2 (fun e => h (map_inj8 a b ha hb e))
theorem str_eq (a : List Int) : (strOfNums a == strOfNums a) = true := by
  rw [beq_toListBytes]
  exact beq_self_eq_true _
theorem str_neL {a b : List Int} (ha : Tp.Byt a) (hb : Tp.Byt b) (h : a ≠ b) : ((strOfNums a).toList == (strOfNums b).toList) = false := by
  rw [← beq_toListBytes]; exact str_ne ha hb h
theorem str_eqL (a : List Int) : ((strOfNums a).toList == (strOfNums a).toList) = true := beq_self_eq_true _
theorem slcB (ga o n c k k4 : Nat) (h1 : k ≤ k4) (h2 : k4 ≤ c) (h3 : ¬ c = k) (W : World) : (Instr.slice 27 (.slice (some ⟨ga, o, none⟩) n c) (some (.int .i64 k)) (some (.int .i64 k4)) none).run Try.prog W = .ok (.slice (some ⟨ga, o + k, none⟩) (k4 - k) (c - k)) W := by
  have e1 : (k : Int) ≤ (k4 : Int) := by omega
  have e2 : (k4 : Int) ≤ (c : Int) := by omega
  simp [go_sem, Try.underlying27, h3, e1, e2, adT]
end Go.Proofs.Ytneefpblfiedbaa

namespace Go.Proofs.Ytneefpblfiedbaa
open Go.RowKit
set_option linter.unusedVariables false
set_option linter.unusedSimpArgs false
def opV : Option (Nat × Int) → Value
  | none => .tuple #[.int .i64 0, .int .i64 0]
  | some (i, x) => .tuple #[.int .i64 (i : Int), .int .i64 x]
theorem Tp.hd_drop : ∀ (ws cs : List Int) (i j : Nat), ws.take j = cs.take j → j ≤ ws.length → j ≤ cs.length → Tp.hd i ws cs = Tp.hd (i + j) (ws.drop j) (cs.drop j)
  | ws, cs, i, 0, _, _, _ => rfl
  | [], cs, i, j + 1, _, h, _ => by simp at h
  | w :: ws, [], i, j + 1, _, _, h => by simp at h
  | w :: ws, c :: cs, i, j + 1, h, h1, h2 => by
    simp only [List.take_succ_cons, List.cons.injEq] at h
    rw [Tp.hd, if_pos h.1.symm, Tp.hd_drop ws cs (i + 1) j h.2 (by simpa using h1) (by simpa using h2)]
    simp only [List.drop_succ_cons]
    congr 1
    omega
theorem rBegins_long (n : Nat) (a : Option Addr) (c : Nat) (kd : Int) (w : World) (h : 4194304 < n) (hl : n ≤ 4611686018427387904) :
    Calls Try.prog 54 #[.slice a n c, .int .u8 kd] w fun e w' => e = .returned (.tuple #[.int .i64 0, .int .i64 2]) ∧ w' = w := by
  have d : decide ((4194304 : Int) < (n : Int)) = true := decide_eq_true (by omega)
  go_enter Try.func54, Try.ntmps54
  go_wp2_with fail
  go_ret2
  exact ⟨rfl, rfl⟩
set_option maxHeartbeats 2000000 in
theorem rBegins_any (b : List Int) (a : Option Addr) (c : Nat) (kd : Int) (w : World) (hm : ByS w.heap.size w a b) (hl : b.length ≤ 4194304) :
    Calls Try.prog 54 #[.slice a b.length c, .int .u8 kd] w fun e w' => e = .returned (opV (Tp.hd 0 (Tp.head kd) b)) ∧ Below w.heap.size w w' := by
  have HM := hidT hm
  obtain ⟨n, hn⟩ : ∃ n, n = b.length := ⟨_, rfl⟩
  have HN := hidT hn
  rw [← hn] at hl ⊢
  have d : decide ((4194304 : Int) < (n : Int)) = false := decide_eq_false (by omega)
  obtain ⟨post, hpost⟩ : ∃ p, p = opV (Tp.hd 0 (Tp.head kd) b) := ⟨_, rfl⟩
  have HP := hidT hpost
  rw [← hpost]
  clear hm hn hpost
  go_enter Try.func54, Try.ntmps54
  go_wp2_with fail
  refine (rHead_any kd w).mono ?_
  rintro e w1 ⟨v1, rfl, o1, k1⟩
  obtain ⟨g1, c1, hv1, hb1, hl1, hc1, ce1⟩ := o1.cell' (by simp [Tp.head])
  subst hv1
  have CE := hidT ce1
  have HL1 := hidT hl1
  have K1 := hidT k1
  clear o1 k1 ce1 hc1 hb1 hl1
  rw [show (Tp.head kd).length = 5 from rfl]
  go_wp2_with fail
  go_loopg [7] 5 (fun gk i wr => ∃ j : Nat, j + gk = 5 ∧ i = .int .i64 j ∧ j ≤ n ∧ Hid (Below w1.heap.size w1 wr) ∧ Hid ((Tp.head kd).take j = b.take j))
  case atStart => exact ⟨0, by omega, rfl, by omega, Below.refl _ _, hidT rfl⟩
  case round =>
    obtain ⟨j, hj, rfl, hjn, KR, HT⟩ := hrel
    have FB := hidT (K1.out.trans (KR.out.mono K1.out.size))
    have HD := hidT (Tp.hd_drop (Tp.head kd) b 0 j HT.out (by simp [Tp.head]; omega) (by rw [← HN.out]; exact hjn))
    rcases gk with _ | gk
    · obtain rfl : j = 5 := by omega
      go_wp2_with fail
      go_ret2
      refine ⟨?_, FB.out⟩
      rw [HP.out, HD.out]
      rfl
    · have d5 : decide ((j : Int) < 5) = true := decide_eq_true (by omega)
      have d6 : decide (j < 5) = true := decide_eq_true (by omega)
      have d7 : j < 5 := by omega
      obtain ⟨x, hx⟩ : ∃ x, (Tp.head kd)[j]? = some x := ⟨_, List.getElem?_eq_getElem (by simp [Tp.head]; omega)⟩
      have hdw : (Tp.head kd).drop j = x :: (Tp.head kd).drop (j + 1) := by
        obtain ⟨h1, h2⟩ := List.getElem?_eq_some_iff.1 hx
        rw [← h2, List.drop_eq_getElem_cons h1]
      have HDW := hidT hdw
      have HX := hidT hx
      have cx : wr.cell? ⟨g1, j, none⟩ = some (.int .u8 x) := (KR.out.cell (p := ⟨g1, j, none⟩) HL1.out).trans (CE.out j x hx)
      clear hdw hx
      by_cases hge : n ≤ j
      · have e1 : decide ((n : Int) ≤ (j : Int)) = true := decide_eq_true (by omega)
        have e2 : decide (n ≤ j) = true := decide_eq_true hge
        go_wp2_with fail
        go_ret2
        refine ⟨?_, FB.out⟩
        have hbj : b.drop j = [] := List.drop_eq_nil_of_le (by rw [← HN.out]; exact hge)
        rw [HP.out, HD.out, HDW.out, hbj]
        simp [Tp.hd, opV]
      · have e1 : decide ((n : Int) ≤ (j : Int)) = false := decide_eq_false (by omega)
        have e2 : decide (n ≤ j) = false := decide_eq_false hge
        have e3 : j < n := by omega
        have e4 : decide (j < n) = true := decide_eq_true e3
        obtain ⟨y, hy⟩ : ∃ y, b[j]? = some y := ⟨_, List.getElem?_eq_getElem (by rw [← HN.out]; exact e3)⟩
        obtain ⟨ga, o, rfl, hga, hce⟩ := HM.out (by rw [← HN.out]; omega)
        have cy : wr.cell? ⟨ga, o + j, none⟩ = some (.int .u8 y) := (FB.out.cell (p := ⟨ga, o + j, none⟩) hga).trans (hce j y hy)
        have hdb : b.drop j = y :: b.drop (j + 1) := by
          obtain ⟨h1, h2⟩ := List.getElem?_eq_some_iff.1 hy
          rw [← h2, List.drop_eq_getElem_cons h1]
        have HDB := hidT hdb
        have HY := hidT hy
        clear hdb hy hce
        by_cases hxy : y = x
        · have q : (y == x) = true := by simpa using hxy
          have HXY := hidT hxy
          clear hxy
          go_upto_region 9 with fail
          go_quiet (fail)
          have KD := hidT (drN KR.out nq)
          generalize wr.drewN nq = W5 at KD ⊢
          clear cx cy
          go_wp2_with fail
          go_roundg gk
          case measure => omega
          case rel =>
            refine ⟨j + 1, by omega, by go_num, by omega, KD, ?_⟩
            unfold Hid
            rw [List.take_add_one, List.take_add_one, HT.out, HX.out, HY.out, HXY.out]
        · have q : (y == x) = false := by simpa using hxy
          have HXY := hidT hxy
          clear hxy
          go_upto_region 9 with fail
          go_quiet (fail)
          have KD := hidT (drN FB.out nq)
          generalize wr.drewN nq = W5 at KD ⊢
          clear cx cy
          go_wp2_with fail
          go_ret2
          refine ⟨?_, KD.out⟩
          rw [HP.out, HD.out, HDW.out, HDB.out, Tp.hd, if_neg HXY.out]
          simp [opV]
set_option maxRecDepth 100000 in
set_option maxHeartbeats 2000000 in
theorem rEnds_any (b : List Int) (a : Option Addr) (c : Nat) (k : Nat) (w : World) (hm : ByS w.heap.size w a b) (hy : Tp.Byt b) (hc : b.length ≤ c) (hk : k ≤ b.length) (hl : b.length ≤ 4611686018427387000) :
    Calls Try.prog 56 #[.slice a b.length c, .int .i64 k] w fun e w' => e = .returned (opV (Tp.ends b k)) ∧ Below w.heap.size w w' := by
  unfold Tp.ends
  obtain ⟨n, hn⟩ : ∃ n, n = b.length := ⟨_, rfl⟩
  by_cases hs : b.length < k + 4
  · rw [if_pos hs, ← hn]
    rw [← hn] at hs hk hl hc
    have d : decide ((n : Int) < (k : Int) + 4) = true := decide_eq_true (by omega)
    clear hn hm hy
    go_enter Try.func56, Try.ntmps56
    go_wp2_with fail
    go_ret2
    exact ⟨rfl, Below.refl _ _⟩
  · rw [if_neg hs]
    obtain ⟨xs, hxs⟩ : ∃ xs, xs = (b.drop k).take 4 := ⟨_, rfl⟩
    have hx4 : xs.length = 4 := by rw [hxs, List.length_take, List.length_drop]; omega
    have hxb : Tp.Byt xs := by rw [hxs]; exact (hy.drop k).take 4
    obtain ⟨ga, o, rfl, hga, hce⟩ := hm (by omega)
    have hcx : ∀ j x, xs[j]? = some x → w.cell? ⟨ga, o + k + j, none⟩ = some (.int .u8 x) := fun j x hj => by
      rw [hxs, List.getElem?_take] at hj
      split at hj
      · rw [List.getElem?_drop] at hj
        rw [Nat.add_assoc]
        exact hce _ x hj
      · cases hj
    have ES := hidT (fun (W : World) (q : Below w.heap.size w W) => rSeal_any (b.take k) (some ⟨ga, o, none⟩) c W (hy.take k) (B := w.heap.size) (fun h0 => ⟨ga, o, rfl, hga, fun j x hj => by
      rw [List.getElem?_take] at hj
      split at hj
      · exact (q.cell (p := ⟨ga, _, none⟩) hga).trans (hce _ x hj)
      · cases hj⟩) (by rw [List.length_take]; omega))
    rw [List.length_take, Nat.min_eq_left hk] at ES
    have hsb := Tp.sl4_byt (b.take k)
    obtain ⟨S, hS⟩ : ∃ S, S = Tp.sl4 (Tp.sum (b.take k)) := ⟨_, rfl⟩
    have hS4 : S.length = 4 := by rw [hS]; rfl
    rw [← hS] at ES hsb ⊢
    rw [← hxs, ← hn]
    rw [← hn] at hs hk hl hc
    have KS : Hid (∀ W, Below w.heap.size w W → (convert 27 9 (.slice (some ⟨ga, o + k, none⟩) 4 (c - k))).run Try.prog W = .ok (.string (strOfNums xs)) W) := fun W q => by
      have := cv_at W ga (o + k) (c - k) xs (fun j x hj => (q.cell (p := ⟨ga, _, none⟩) hga).trans (hcx j x hj))
      rwa [hx4] at this
    obtain ⟨k4, hk4⟩ : ∃ k4, k4 = k + 4 := ⟨_, rfl⟩
    have HK4 := hidT hk4
    have he : (k : Int) + 4 = (k4 : Int) := by omega
    have hkc : k ≤ c := by omega
    have hkk : k ≤ k4 := by omega
    have hkk4 : k4 ≤ c := by omega
    have hkki : (k : Int) ≤ (k4 : Int) := by omega
    have hkci : (k4 : Int) ≤ (c : Int) := by omega
    have hsub : k4 - k = 4 := by omega
    have hw3 : IntKind.i64.wrap (k4 : Int) = (k4 : Int) := by rw [IntKind.wrap_i64]; omega
    have hz1 : ¬ c = k := by omega
    have hz2 : (c - k == 0) = false := by simp; omega
    have d : decide ((n : Int) < (k4 : Int)) = false := decide_eq_false (by omega)
    have dn : decide (n < k4) = false := decide_eq_false (by omega)
    have kw := KS.out w.drew (drN (Below.refl _ _) 1)
    have HSL := hidT hS4
    by_cases hq : xs = S
    · have QQ : ((strOfNums xs).toList == (strOfNums S).toList) = true := by rw [hq]; exact str_eqL _
      rw [if_neg (fun e => e hq)]
      clear hq hS hxs hn hm hce hcx hy hxb hsb hx4 hS4
      by_cases hm2 : k + 4 < n
      · rw [if_pos hm2]
        rw [← hk4]
        have d2 : decide ((k4 : Int) < (n : Int)) = true := decide_eq_true (by omega)
        have d3 : decide (k4 < n) = true := decide_eq_true (by omega)
        clear hk4 hm2
        go_enter Try.func56, Try.ntmps56
        go_upto_region 3 with fail
        go_region_with (first
          | (go_at_call 28; refine (ES.out _ (by go_grown)).mono ?_; rintro e w5 ⟨v5, rfl, o5, k5⟩; obtain ⟨g5, c5, hv5, hb5, hl5, hc5, ce5⟩ := o5.cell' (by rw [HSL.out]; decide); subst hv5; have K5 : Hid (Below w.heap.size w w5) := Below.trans (by go_grown) (k5.mono (by go_size)); have v5c := cv_some w5 g5 c5 S ce5; have s9 := KS.out _ K5.out; clear o5 k5 ce5 hc5 hb5 hl5))
        all_goals go_wp2_with fail
        all_goals go_ret2
        all_goals exact ⟨rfl, K5.out⟩
      · rw [if_neg hm2]
        have d2 : decide ((k4 : Int) < (n : Int)) = false := decide_eq_false (by omega)
        have d3 : decide (k4 < n) = false := decide_eq_false (by omega)
        clear hk4 hm2
        go_enter Try.func56, Try.ntmps56
        go_upto_region 3 with fail
        go_region_with (first
          | (go_at_call 28; refine (ES.out _ (by go_grown)).mono ?_; rintro e w5 ⟨v5, rfl, o5, k5⟩; obtain ⟨g5, c5, hv5, hb5, hl5, hc5, ce5⟩ := o5.cell' (by rw [HSL.out]; decide); subst hv5; have K5 : Hid (Below w.heap.size w w5) := Below.trans (by go_grown) (k5.mono (by go_size)); have v5c := cv_some w5 g5 c5 S ce5; have s9 := KS.out _ K5.out; clear o5 k5 ce5 hc5 hb5 hl5))
        all_goals go_wp2_with fail
        all_goals go_ret2
        all_goals exact ⟨rfl, K5.out⟩
    · have QQ : ((strOfNums xs).toList == (strOfNums S).toList) = false := str_neL hxb hsb hq
      rw [if_pos hq]
      clear hk4
      clear hq hS hxs hn hm hce hcx hy hxb hsb hx4 hS4
      go_enter Try.func56, Try.ntmps56
      go_upto_region 3 with fail
      go_region_with (first
        | (go_at_call 28; refine (ES.out _ (by go_grown)).mono ?_; rintro e w5 ⟨v5, rfl, o5, k5⟩; obtain ⟨g5, c5, hv5, hb5, hl5, hc5, ce5⟩ := o5.cell' (by rw [HSL.out]; decide); subst hv5; have K5 : Hid (Below w.heap.size w w5) := Below.trans (by go_grown) (k5.mono (by go_size)); have v5c := cv_some w5 g5 c5 S ce5; have s9 := KS.out _ K5.out; clear o5 k5 ce5 hc5 hb5 hl5))
      all_goals go_wp2_with fail
      all_goals go_ret2
      all_goals exact ⟨rfl, K5.out⟩
end Go.Proofs.Ytneefpblfiedbaa

namespace Go.Proofs.Ytneefpblfiedbaa
open Go.RowKit
set_option linter.unusedVariables false
set_option linter.unusedSimpArgs false
theorem Tp.hd_err : ∀ (ws cs : List Int) (m i : Nat) (x : Int), Tp.hd m ws cs = some (i, x) → x ≠ 0
  | [], cs, m, i, x, h => by simp [Tp.hd] at h
  | u :: ws, [], m, i, x, h => by simp [Tp.hd] at h; omega
  | u :: ws, v :: cs, m, i, x, h => by
    rw [Tp.hd] at h
    split at h
    · exact Tp.hd_err _ _ _ _ _ h
    · simp at h; omega
theorem Tp.hd_len : ∀ (ws cs : List Int) (m : Nat), Tp.hd m ws cs = none → ws.length ≤ cs.length
  | [], cs, m, h => by simp
  | u :: ws, [], m, h => by simp [Tp.hd] at h
  | u :: ws, v :: cs, m, h => by
    rw [Tp.hd] at h
    split at h
    · have := Tp.hd_len ws cs _ h; simp; omega
    · cases h
theorem Tp.hd_five (k : Int) (b : List Int) (h : Tp.hd 0 (Tp.head k) b = none) : 5 ≤ b.length := Tp.hd_len _ _ _ h
theorem rdK {b : List Int} {k z u : Nat} (hb : Tp.Byt b) (h : Tp.rdF 0 0 (b.drop k) = .inl (z, u)) (hk : k ≤ b.length) : k + u ≤ b.length := by
  have := (Tp.rd_back _ _ _ (hb.drop k) h).2.1
  rw [List.length_drop] at this
  omega
set_option maxHeartbeats 2000000 in
theorem sameNums_yes (w : World) (a b : Option Addr) (ca cb : Nat) (l : List Int) (ha : NmS w.heap.size w a l) (hb : NmS w.heap.size w b l) (hl : l.length ≤ 1000000000) : Calls Try.prog 36 #[.slice a l.length ca, .slice b l.length cb] w fun e w' => e = .returned (.bool true) ∧ Below w.heap.size w w' := by
  have HA := hidT ha
  have HB := hidT hb
  obtain ⟨n, hn⟩ : ∃ n, n = l.length := ⟨_, rfl⟩
  have HN := hidT hn
  rw [← hn] at hl ⊢
  clear ha hb hn
  go_enter Try.func36, Try.ntmps36
  go_wp2_with fail
  go_loopg [5] n (fun gk i wr => ∃ k : Nat, k + gk = n ∧ i = .int .i64 k ∧ Hid (Below w.heap.size w wr))
  case atStart => exact ⟨0, by omega, rfl, Below.refl _ _⟩
  case round =>
    obtain ⟨k, hk, rfl, BR⟩ := hrel
    rcases gk with _ | gk
    · obtain rfl : k = n := by omega
      have dk : decide ((k : Int) < (k : Int)) = false := decide_eq_false (by omega)
      go_wp2_with fail
      go_ret
      exact ⟨rfl, BR.out⟩
    · have hlt : k < n := by omega
      have dk : decide ((k : Int) < (n : Int)) = true := decide_eq_true (by omega)
      have dkn : decide (k < n) = true := decide_eq_true hlt
      obtain ⟨x, hx⟩ : ∃ x, l[k]? = some x := ⟨_, List.getElem?_eq_getElem (by rw [← HN.out]; exact hlt)⟩
      obtain ⟨ga, oa, rfl, hga, ca'⟩ := (HA.out.later BR.out (Nat.le_refl _)) (by rw [← HN.out]; omega)
      obtain ⟨gb, ob, rfl, hgb, cb'⟩ := (HB.out.later BR.out (Nat.le_refl _)) (by rw [← HN.out]; omega)
      have a0 := ca' k x hx
      have b0 := cb' k x hx
      have q1 : (x == x) = true := beq_self_eq_true x
      clear ca' cb' hx
      go_upto_region 6 with fail
      go_quiet (fail)
      have BQ := hidT (drN BR.out nq)
      generalize wr.drewN nq = W5 at BQ ⊢
      clear a0 b0
      go_wp2_with fail
      go_roundg gk
      case measure => omega
      case rel => exact ⟨k + 1, by omega, by go_num, BQ⟩
theorem nums_yes (w : World) (a b : Option Addr) (ca cb : Nat) (l : List Int) (ha : NmS w.heap.size w a l) (hb : NmS w.heap.size w b l) (hl : l.length ≤ 1000000000) : Calls Try.prog 16 #[.slice a l.length ca, .slice b l.length cb] w fun e w' => e = .returned (.bool true) ∧ Below w.heap.size w w' := by
  have HS := hidT (sameNums_yes w a b ca cb l ha hb hl)
  obtain ⟨n, hn⟩ : ∃ n, n = l.length := ⟨_, rfl⟩
  rw [← hn] at HS ⊢
  clear ha hb hn
  go_enter Try.func16, Try.ntmps16
  go_wp2_with fail
  refine HS.out.mono ?_
  rintro e w1 ⟨rfl, k1⟩
  have K1 := hidT k1
  clear k1
  go_wp2_with fail
  go_ret
  exact ⟨rfl, K1.out⟩
theorem long_any (w : World) (a : Option Addr) (n c : Nat) (hn : n ≤ 4611686018427387904) : Calls Try.prog 6 #[.slice a n c] w fun e w' => e = .returned (.bool (decide (3000 < n ∧ n ≤ 4194304))) ∧ w' = w := by
  by_cases h1 : 3000 < n
  · by_cases h2 : n ≤ 4194304
    · rw [decide_eq_true (⟨h1, h2⟩ : 3000 < n ∧ n ≤ 4194304)]
      have d1 : decide ((3000 : Int) < (n : Int)) = true := decide_eq_true (by omega)
      have d2 : decide ((n : Int) ≤ 4194304) = true := decide_eq_true (by omega)
      go_enter Try.func6, Try.ntmps6
      go_wp2_with fail
      go_ret
      exact ⟨rfl, rfl⟩
    · rw [decide_eq_false (fun h : 3000 < n ∧ n ≤ 4194304 => h2 h.2)]
      have d1 : decide ((3000 : Int) < (n : Int)) = true := decide_eq_true (by omega)
      have d2 : decide ((n : Int) ≤ 4194304) = false := decide_eq_false (by omega)
      go_enter Try.func6, Try.ntmps6
      go_wp2_with fail
      go_ret
      exact ⟨rfl, rfl⟩
  · rw [decide_eq_false (fun h : 3000 < n ∧ n ≤ 4194304 => h1 h.1)]
    have d1 : decide ((3000 : Int) < (n : Int)) = false := decide_eq_false (by omega)
    go_enter Try.func6, Try.ntmps6
    go_wp2_with fail
    go_ret
    exact ⟨rfl, rfl⟩
end Go.Proofs.Ytneefpblfiedbaa

namespace Go.Proofs.Ytneefpblfiedbaa
open Go.RowKit
set_option linter.unusedVariables false
set_option linter.unusedSimpArgs false
/-- What was written, as a text, from now on. -/
def TwQ (L : List Int) (e0 : Int) (W : World) (e : Ending) (w' : World) : Prop := ∃ a n c, e = .returned (.tuple #[.slice a n c, .int .i64 e0]) ∧ (∀ W', Below w'.heap.size w' W' → (convert 27 9 (.slice a n c)).run Try.prog W' = .ok (.string (strOfNums L)) W') ∧ Below W.heap.size W w'
/-- What was read: numbers, a place, an error. -/
def TrQ (l : List Int) (i x : Int) (W : World) (e : Ending) (w' : World) : Prop := ∃ a c, e = .returned (.tuple #[.slice a l.length c, .int .i64 i, .int .i64 x]) ∧ NmS w'.heap.size w' a l ∧ Below W.heap.size W w'
theorem twNil (W : World) (e0 : Int) : TwQ [] e0 W (.returned (.tuple #[.slice none 0 0, .int .i64 e0])) W :=
  ⟨none, 0, 0, rfl, fun W' _ => run_convert_bytes_nil W' 27 5 Try.underlying27 Try.underlying5 0 0 9 Try.underlying9, Below.refl _ _⟩
theorem twOf {W : World} {L : List Int} {e : Ending} {w' : World} (h : WrQ W L e w') (hL : 0 < L.length) : TwQ L 0 W e w' := by
  obtain ⟨v, rfl, o, k⟩ := h
  obtain ⟨g, c, rfl, _, hg, _, ce⟩ := o.cell' hL
  exact ⟨_, _, _, rfl, fun W' q => cv_some W' g c L (fun j x hj => (q.cell (p := ⟨g, j, none⟩) hg).trans (ce j x hj)), k⟩
theorem wi_pos (l : List Int) : 0 < (Tp.wi l).length := by simp [Tp.wi, Tp.sl4]
theorem trOf {W : World} {b : List Int} {e : Ending} {w' : World} (h : rdQ W e w' (Tp.riB b)) : (∀ i x, Tp.riB b = .bad i x → TrQ [] i x W e w') ∧ (∀ l j, Tp.riB b = .good l j → TrQ l 0 0 W e w') := by
  refine ⟨fun i x hr => ?_, fun l j hr => ?_⟩
  · rw [hr] at h
    obtain ⟨rfl, k⟩ := h
    exact ⟨none, 0, rfl, fun h => absurd h (by decide), k⟩
  · rw [hr] at h
    obtain ⟨v, rfl, o, k⟩ := h
    obtain ⟨a, c, rfl⟩ := ownShT o
    exact ⟨a, c, rfl, o.nms, k⟩
theorem Tp.nums_len (b : List Int) : ∀ (n k : Nat) (acc l : List Int) (j : Nat), Tp.nums b n k acc = .good l j → l.length = acc.length + n
  | 0, k, acc, l, j, h => by simp [Tp.nums] at h; rw [← h.1]; omega
  | n + 1, k, acc, l, j, h => by
    simp only [Tp.nums, Tp.rdAt] at h
    cases hr : Tp.rdF 0 0 (b.drop k) with
    | inl p => rw [hr] at h; have := Tp.nums_len b n _ _ _ _ h; simp at this; omega
    | inr e => rw [hr] at h; cases h
theorem Tp.riB_len (b l : List Int) (j : Nat) (h : Tp.riB b = .good l j) : l.length ≤ 1000 := by
  unfold Tp.riB at h
  cases hh : Tp.hd 0 (Tp.head 1) b with
  | some p => rw [hh] at h; cases h
  | none =>
    rw [hh] at h
    unfold Tp.rdAt at h
    cases hc : Tp.rdF 0 0 (b.drop 5) with
    | inr e => rw [hc] at h; cases h
    | inl p =>
      rw [hc] at h
      dsimp only at h
      split at h
      · cases h
      · cases hm : Tp.nums b p.1 (5 + p.2) [] with
        | bad j e => rw [hm] at h; cases h
        | good l' j' =>
          rw [hm] at h
          dsimp only at h
          cases he : Tp.ends b j' with
          | some q => rw [he] at h; cases h
          | none =>
            rw [he] at h
            cases h
            have := Tp.nums_len b _ _ _ _ _ hm
            simp at this
            omega
end Go.Proofs.Ytneefpblfiedbaa

namespace Go.Proofs.Ytneefpblfiedbaa
open Go.RowKit
set_option linter.unusedVariables false
set_option linter.unusedSimpArgs false
def TkAt (w : World) (g o : Nat) (t : Tp.Tk) : Prop := w.cell? ⟨g, o, none⟩ = some (.int .i64 t.kind) ∧ w.cell? ⟨g, o + 1, none⟩ = some (.int .i64 t.proc) ∧ w.cell? ⟨g, o + 2, none⟩ = some (.int .i64 t.mark) ∧ w.cell? ⟨g, o + 3, none⟩ = some (.int .i64 t.depth)
def EvAt (w : World) (g o : Nat) (e : Tp.Ev) : Prop := w.cell? ⟨g, o, none⟩ = some (.int .i64 e.kind) ∧ w.cell? ⟨g, o + 1, none⟩ = some (.int .i64 e.n)
def TkS (B : Nat) (w : World) (a : Option Addr) (l : List Tp.Tk) : Prop := 0 < l.length → ∃ g o, a = some ⟨g, o, none⟩ ∧ g < B ∧ ∀ j t, l[j]? = some t → TkAt w g (o + j * 4) t
def EvS (B : Nat) (w : World) (a : Option Addr) (l : List Tp.Ev) : Prop := 0 < l.length → ∃ g o, a = some ⟨g, o, none⟩ ∧ g < B ∧ ∀ j e, l[j]? = some e → EvAt w g (o + j * 2) e
theorem TkS.later {B B' : Nat} {w w' : World} {a : Option Addr} {l : List Tp.Tk} (h : TkS B w a l) (b : Below B' w w') (hb : B ≤ B') : TkS B w' a l := fun h0 => by
  obtain ⟨g, o, e, hg, hc⟩ := h h0
  have c := fun p => b.cell (p := ⟨g, p, none⟩) (Nat.lt_of_lt_of_le hg hb)
  exact ⟨g, o, e, hg, fun j t ht => ⟨(c _).trans (hc j t ht).1, (c _).trans (hc j t ht).2.1, (c _).trans (hc j t ht).2.2.1, (c _).trans (hc j t ht).2.2.2⟩⟩
theorem EvS.later {B B' : Nat} {w w' : World} {a : Option Addr} {l : List Tp.Ev} (h : EvS B w a l) (b : Below B' w w') (hb : B ≤ B') : EvS B w' a l := fun h0 => by
  obtain ⟨g, o, e, hg, hc⟩ := h h0
  have c := fun p => b.cell (p := ⟨g, p, none⟩) (Nat.lt_of_lt_of_le hg hb)
  exact ⟨g, o, e, hg, fun j t ht => ⟨(c _).trans (hc j t ht).1, (c _).trans (hc j t ht).2⟩⟩
def I64 (n : Int) : Prop := -9223372036854775808 ≤ n ∧ n ≤ 9223372036854775807
/-- A trace as a value. -/
def trV (ta ca ea : Option Addr) (tc cc ec : Nat) (t : Tp.Tr) : Value := .agg #[.slice ta t.ticks.length tc, .slice ca t.counts.length cc, .slice ea t.events.length ec]
structure TrS (B : Nat) (w : World) (ta ca ea : Option Addr) (tc cc ec : Nat) (t : Tp.Tr) : Prop where
  tk : TkS B w ta t.ticks
  ct : NmS B w ca t.counts
  ev : EvS B w ea t.events
  ce : t.events.length ≤ ec
  l1 : t.ticks.length ≤ 1000000000000000
  l2 : t.counts.length ≤ 1000000000000000
  l3 : t.events.length ≤ 1000000000000000
  rt : ∀ x ∈ t.ticks, I64 x.kind ∧ I64 x.proc ∧ I64 x.mark ∧ I64 x.depth
  rc : ∀ x ∈ t.counts, I64 x
  re : ∀ x ∈ t.events, I64 x.kind ∧ I64 x.n
theorem TrS.later {B B' : Nat} {w w' : World} {ta ca ea : Option Addr} {tc cc ec : Nat} {t : Tp.Tr} (h : TrS B w ta ca ea tc cc ec t) (b : Below B' w w') (hb : B ≤ B') : TrS B w' ta ca ea tc cc ec t :=
  ⟨h.tk.later b hb, h.ct.later b hb, h.ev.later b hb, h.ce, h.l1, h.l2, h.l3, h.rt, h.rc, h.re⟩
theorem between_any (lo x hi : Int) (w : World) : Calls Try.prog 62 #[.int .i64 lo, .int .i64 x, .int .i64 hi] w fun e w' => e = .returned (.bool (Tp.bet lo x hi)) ∧ w' = w := by
  by_cases h1 : lo ≤ x
  · by_cases h2 : x ≤ hi
    · rw [show Tp.bet lo x hi = true from decide_eq_true ⟨h1, h2⟩]
      have d1 : decide (lo ≤ x) = true := decide_eq_true h1
      have d2 : decide (x ≤ hi) = true := decide_eq_true h2
      go_enter Try.func62, Try.ntmps62
      go_wp2_with fail
      go_ret
      exact ⟨rfl, rfl⟩
    · rw [show Tp.bet lo x hi = false from decide_eq_false (fun h => h2 h.2)]
      have d1 : decide (lo ≤ x) = true := decide_eq_true h1
      have d2 : decide (x ≤ hi) = false := decide_eq_false h2
      go_enter Try.func62, Try.ntmps62
      go_wp2_with fail
      go_ret
      exact ⟨rfl, rfl⟩
  · rw [show Tp.bet lo x hi = false from decide_eq_false (fun h => h1 h.1)]
    have d1 : decide (lo ≤ x) = false := decide_eq_false h1
    go_enter Try.func62, Try.ntmps62
    go_wp2_with fail
    go_ret
    exact ⟨rfl, rfl⟩
theorem numbered_any (x : Int) (w : World) : Calls Try.prog 63 #[.int .i64 x] w fun e w' => e = .returned (.bool (Tp.hasN x)) ∧ w' = w := by
  by_cases h1 : x = 3
  · subst h1
    rw [show Tp.hasN 3 = false from by decide]
    go_enter Try.func63, Try.ntmps63
    go_wp2_with fail
    go_ret
    exact ⟨rfl, rfl⟩
  · have q1 : (x == 3) = false := by simpa using h1
    by_cases h2 : x = 5
    · subst h2
      rw [show Tp.hasN 5 = false from by decide]
      clear h1 q1
      go_enter Try.func63, Try.ntmps63
      go_wp2_with fail
      go_ret
      exact ⟨rfl, rfl⟩
    · have q2 : (x == 5) = false := by simpa using h2
      rw [show Tp.hasN x = true from decide_eq_true ⟨h1, h2⟩]
      have b1 : (x != 3) = true := by simpa using h1
      have b2 : (x != 5) = true := by simpa using h2
      go_enter Try.func63, Try.ntmps63
      go_wp2_with fail
      go_ret
      exact ⟨rfl, rfl⟩
def tkV (t : Tp.Tk) : Value := .agg #[.int .i64 t.kind, .int .i64 t.proc, .int .i64 t.mark, .int .i64 t.depth]
def evV (e : Tp.Ev) : Value := .agg #[.int .i64 e.kind, .int .i64 e.n]
set_option maxHeartbeats 1000000 in
theorem rightTick_any (t : Tp.Tk) (w : World) : Calls Try.prog 40 #[tkV t] w fun e w' => e = .returned (.bool (Tp.okT t)) ∧ Below w.heap.size w w' := by
  obtain ⟨k, p, m, d⟩ := t
  show Calls _ _ #[.agg #[.int .i64 k, .int .i64 p, .int .i64 m, .int .i64 d]] w _
  have HP : Hid (Tp.okT ⟨k, p, m, d⟩ = (Tp.bet 1 k 3 && (Tp.bet 0 p 2147483647 && (Tp.bet 0 m 2147483647 && Tp.bet 1 d 2147483647)))) := rfl
  rw [HP.out]
  have E1 := hidT (between_any 1 k 3)
  have E2 := hidT (between_any 0 p 2147483647)
  have E3 := hidT (between_any 0 m 2147483647)
  have E4 := hidT (between_any 1 d 2147483647)
  generalize Tp.bet 1 k 3 = b1 at *
  generalize Tp.bet 0 p 2147483647 = b2 at *
  generalize Tp.bet 0 m 2147483647 = b3 at *
  generalize Tp.bet 1 d 2147483647 = b4 at *
  cases b1 with
  | false =>
    go_enter Try.func40, Try.ntmps40
    go_wp2_with fail
    refine (E1.out _).mono ?_
    rintro e w1 ⟨rfl, rfl⟩
    go_wp2_with fail
    go_ret
    exact ⟨rfl, (Below.refl _ _).alloc (Nat.le_refl _) _⟩
  | true =>
    cases b2 with
    | false =>
      go_enter Try.func40, Try.ntmps40
      go_wp2_with fail
      refine (E1.out _).mono ?_
      rintro e w1 ⟨rfl, rfl⟩
      go_wp2_with fail
      refine (E2.out _).mono ?_
      rintro e w1 ⟨rfl, rfl⟩
      go_wp2_with fail
      go_ret
      exact ⟨rfl, (Below.refl _ _).alloc (Nat.le_refl _) _⟩
    | true =>
      cases b3 with
      | false =>
        go_enter Try.func40, Try.ntmps40
        go_wp2_with fail
        refine (E1.out _).mono ?_
        rintro e w1 ⟨rfl, rfl⟩
        go_wp2_with fail
        refine (E2.out _).mono ?_
        rintro e w1 ⟨rfl, rfl⟩
        go_wp2_with fail
        refine (E3.out _).mono ?_
        rintro e w1 ⟨rfl, rfl⟩
        go_wp2_with fail
        go_ret
        exact ⟨rfl, (Below.refl _ _).alloc (Nat.le_refl _) _⟩
      | true =>
        go_enter Try.func40, Try.ntmps40
        go_wp2_with fail
        refine (E1.out _).mono ?_
        rintro e w1 ⟨rfl, rfl⟩
        go_wp2_with fail
        refine (E2.out _).mono ?_
        rintro e w1 ⟨rfl, rfl⟩
        go_wp2_with fail
        refine (E3.out _).mono ?_
        rintro e w1 ⟨rfl, rfl⟩
        go_wp2_with fail
        refine (E4.out _).mono ?_
        rintro e w1 ⟨rfl, rfl⟩
        go_wp2_with fail
        go_ret
        exact ⟨rfl, (Below.refl _ _).alloc (Nat.le_refl _) _⟩
set_option maxHeartbeats 1000000 in
theorem rightEvent_any (x : Tp.Ev) (w : World) : Calls Try.prog 42 #[evV x] w fun e w' => e = .returned (.bool (Tp.okE x)) ∧ Below w.heap.size w w' := by
  obtain ⟨k, n⟩ := x
  show Calls _ _ #[.agg #[.int .i64 k, .int .i64 n]] w _
  have HP : Hid (Tp.okE ⟨k, n⟩ = (Tp.bet 1 k 5 && (Tp.hasN k || n == 0))) := rfl
  rw [HP.out]
  have E1 := hidT (between_any 1 k 5)
  have E2 := hidT (numbered_any k)
  generalize Tp.bet 1 k 5 = b1 at *
  generalize Tp.hasN k = b2 at *
  obtain ⟨b3, h3⟩ : ∃ b, (n == 0) = b := ⟨_, rfl⟩
  rw [h3]
  cases b1 with
  | false =>
    go_enter Try.func42, Try.ntmps42
    go_wp2_with fail
    refine (E1.out _).mono ?_
    rintro e w1 ⟨rfl, rfl⟩
    go_wp2_with fail
    go_ret
    exact ⟨rfl, (Below.refl _ _).alloc (Nat.le_refl _) _⟩
  | true =>
    cases b2 with
    | true =>
      go_enter Try.func42, Try.ntmps42
      go_wp2_with fail
      refine (E1.out _).mono ?_
      rintro e w1 ⟨rfl, rfl⟩
      go_wp2_with fail
      refine (E2.out _).mono ?_
      rintro e w1 ⟨rfl, rfl⟩
      go_wp2_with fail
      go_ret
      exact ⟨rfl, (Below.refl _ _).alloc (Nat.le_refl _) _⟩
    | false =>
      cases b3
      all_goals
        go_enter Try.func42, Try.ntmps42
        go_wp2_with fail
        refine (E1.out _).mono ?_
        rintro e w1 ⟨rfl, rfl⟩
        go_wp2_with fail
        refine (E2.out _).mono ?_
        rintro e w1 ⟨rfl, rfl⟩
        go_wp2_with fail
        go_ret
        exact ⟨rfl, (Below.refl _ _).alloc (Nat.le_refl _) _⟩
set_option maxHeartbeats 2000000 in
theorem allT_any (l : List Tp.Tk) (a : Option Addr) (c : Nat) (w : World) {B : Nat} (hm : TkS B w a l) (hB : B ≤ w.heap.size) (hl : l.length ≤ 1000000000000000) :
    Calls Try.prog 39 #[.slice a l.length c, .func (.func 40) #[] #[]] w fun e w' => e = .returned (.bool (l.all Tp.okT)) ∧ Below w.heap.size w w' := by
  have HM := hidT hm
  obtain ⟨n, hn⟩ : ∃ n, n = l.length := ⟨_, rfl⟩
  have HN := hidT hn
  rw [← hn] at hl ⊢
  obtain ⟨post, hpost⟩ : ∃ p, p = l.all Tp.okT := ⟨_, rfl⟩
  have HP := hidT hpost
  rw [← hpost]
  clear hm hn hpost
  go_enter Try.func39, Try.ntmps39
  go_wp2_with fail
  go_loopg [9] n (fun gk i wr => ∃ j : Nat, j + gk = n ∧ i = .int .i64 j ∧ Hid (Below w.heap.size w wr) ∧ Hid (l.all Tp.okT = (l.drop j).all Tp.okT))
  case atStart => exact ⟨0, by omega, rfl, Below.refl _ _, hidT rfl⟩
  case round =>
    obtain ⟨j, hj, rfl, KW, HR⟩ := hrel
    rcases gk with _ | gk
    · obtain rfl : j = n := by omega
      have dk : decide ((j : Int) < (j : Int)) = false := decide_eq_false (by omega)
      go_wp2_with fail
      go_ret
      refine ⟨?_, KW.out⟩
      rw [HP.out, HR.out, List.drop_eq_nil_of_le (by rw [← HN.out]; exact Nat.le_refl _)]
      rfl
    · have dk : decide ((j : Int) < (n : Int)) = true := decide_eq_true (by omega)
      have dkn : decide (j < n) = true := decide_eq_true (by omega)
      obtain ⟨t, ht⟩ : ∃ t, l[j]? = some t := ⟨_, List.getElem?_eq_getElem (by rw [← HN.out]; omega)⟩
      obtain ⟨g, o, rfl, hg, hc⟩ := (HM.out.later KW.out hB) (by rw [← HN.out]; omega)
      obtain ⟨c0, c1, c2, c3⟩ := hc j t ht
      have hd : l.drop j = t :: l.drop (j + 1) := by
        obtain ⟨h1, h2⟩ := List.getElem?_eq_some_iff.1 ht
        rw [← h2, List.drop_eq_getElem_cons h1]
      have HR2 : Hid (l.all Tp.okT = (Tp.okT t && (l.drop (j + 1)).all Tp.okT)) := by unfold Hid; rw [HR.out, hd]; rfl
      have KA := hidT (KW.out.trans ((Below.refl _ wr).alloc KW.out.size (.cells #[.int .i64 t.kind, .int .i64 t.proc, .int .i64 t.mark, .int .i64 t.depth] 62)))
      have ER := hidT (rightTick_any t)
      clear hc hd ht
      unfold tkV at ER
      cases hok : Tp.okT t with
      | false =>
        rw [hok] at ER HR2
        clear hok
        go_wp2_with fail
        refine (ER.out _).mono ?_
        rintro e w3 ⟨rfl, k3⟩
        have K3 := hidT (KA.out.trans (k3.mono KA.out.size))
        clear k3
        go_wp2_with fail
        go_ret
        refine ⟨?_, K3.out⟩
        rw [HP.out, HR2.out]
        rfl
      | true =>
        rw [hok] at ER HR2
        clear hok
        go_wp2_with fail
        refine (ER.out _).mono ?_
        rintro e w3 ⟨rfl, k3⟩
        have K3 := hidT (KA.out.trans (k3.mono KA.out.size))
        clear k3
        go_wp2_with fail
        go_roundg gk
        case measure => omega
        case rel => exact ⟨j + 1, by omega, by go_num, K3, HR2.out.trans (by simp)⟩
set_option maxHeartbeats 2000000 in
theorem allE_any (l : List Tp.Ev) (a : Option Addr) (c : Nat) (w : World) {B : Nat} (hm : EvS B w a l) (hB : B ≤ w.heap.size) (hl : l.length ≤ 1000000000000000) :
    Calls Try.prog 41 #[.slice a l.length c, .func (.func 42) #[] #[]] w fun e w' => e = .returned (.bool (l.all Tp.okE)) ∧ Below w.heap.size w w' := by
  have HM := hidT hm
  obtain ⟨n, hn⟩ : ∃ n, n = l.length := ⟨_, rfl⟩
  have HN := hidT hn
  rw [← hn] at hl ⊢
  obtain ⟨post, hpost⟩ : ∃ p, p = l.all Tp.okE := ⟨_, rfl⟩
  have HP := hidT hpost
  rw [← hpost]
  clear hm hn hpost
  go_enter Try.func41, Try.ntmps41
  go_wp2_with fail
  go_loopg [9] n (fun gk i wr => ∃ j : Nat, j + gk = n ∧ i = .int .i64 j ∧ Hid (Below w.heap.size w wr) ∧ Hid (l.all Tp.okE = (l.drop j).all Tp.okE))
  case atStart => exact ⟨0, by omega, rfl, Below.refl _ _, hidT rfl⟩
  case round =>
    obtain ⟨j, hj, rfl, KW, HR⟩ := hrel
    rcases gk with _ | gk
    · obtain rfl : j = n := by omega
      have dk : decide ((j : Int) < (j : Int)) = false := decide_eq_false (by omega)
      go_wp2_with fail
      go_ret
      refine ⟨?_, KW.out⟩
      rw [HP.out, HR.out, List.drop_eq_nil_of_le (by rw [← HN.out]; exact Nat.le_refl _)]
      rfl
    · have dk : decide ((j : Int) < (n : Int)) = true := decide_eq_true (by omega)
      have dkn : decide (j < n) = true := decide_eq_true (by omega)
      obtain ⟨t, ht⟩ : ∃ t, l[j]? = some t := ⟨_, List.getElem?_eq_getElem (by rw [← HN.out]; omega)⟩
      obtain ⟨g, o, rfl, hg, hc⟩ := (HM.out.later KW.out hB) (by rw [← HN.out]; omega)
      obtain ⟨c0, c1⟩ := hc j t ht
      have hd : l.drop j = t :: l.drop (j + 1) := by
        obtain ⟨h1, h2⟩ := List.getElem?_eq_some_iff.1 ht
        rw [← h2, List.drop_eq_getElem_cons h1]
      have HR2 : Hid (l.all Tp.okE = (Tp.okE t && (l.drop (j + 1)).all Tp.okE)) := by unfold Hid; rw [HR.out, hd]; rfl
      have KA := hidT (KW.out.trans ((Below.refl _ wr).alloc KW.out.size (.cells #[.int .i64 t.kind, .int .i64 t.n] 69)))
      have ER := hidT (rightEvent_any t)
      clear hc hd ht
      unfold evV at ER
      cases hok : Tp.okE t with
      | false =>
        rw [hok] at ER HR2
        clear hok
        go_wp2_with fail
        refine (ER.out _).mono ?_
        rintro e w3 ⟨rfl, k3⟩
        have K3 := hidT (KA.out.trans (k3.mono KA.out.size))
        clear k3
        go_wp2_with fail
        go_ret
        refine ⟨?_, K3.out⟩
        rw [HP.out, HR2.out]
        rfl
      | true =>
        rw [hok] at ER HR2
        clear hok
        go_wp2_with fail
        refine (ER.out _).mono ?_
        rintro e w3 ⟨rfl, k3⟩
        have K3 := hidT (KA.out.trans (k3.mono KA.out.size))
        clear k3
        go_wp2_with fail
        go_roundg gk
        case measure => omega
        case rel => exact ⟨j + 1, by omega, by go_num, K3, HR2.out.trans (by simp)⟩
end Go.Proofs.Ytneefpblfiedbaa

namespace Go.Proofs.Ytneefpblfiedbaa
open Go.RowKit
set_option linter.unusedVariables false
set_option linter.unusedSimpArgs false
set_option maxHeartbeats 4000000 in
theorem right_any (t : Tp.Tr) (ta ca ea : Option Addr) (tc cc ec : Nat) (w : World) (h : TrS w.heap.size w ta ca ea tc cc ec t) (m1 : t.ticks.length ≤ 3000) (m2 : t.counts.length ≤ 3000) (m3 : t.events.length ≤ 3000) :
    Calls Try.prog 23 #[trV ta ca ea tc cc ec t] w fun e w' => e = .returned (.bool (Tp.rightT t)) ∧ Below w.heap.size w w' := by
  unfold trV
  have HT := hidT h
  have ET := hidT (fun (W : World) (q : Below w.heap.size w W) => allT_any t.ticks ta tc W (h.tk.later q (Nat.le_refl _)) q.size h.l1)
  have EE := hidT (fun (W : World) (q : Below w.heap.size w W) => allE_any t.events ea ec W (h.ev.later q (Nat.le_refl _)) q.size h.l3)
  obtain ⟨post, hpost⟩ : ∃ p, p = Tp.rightT t := ⟨_, rfl⟩
  have HP := hidT hpost
  obtain ⟨n1, h1⟩ : ∃ n, n = t.ticks.length := ⟨_, rfl⟩
  obtain ⟨n2, h2⟩ : ∃ n, n = t.counts.length := ⟨_, rfl⟩
  obtain ⟨n3, h3⟩ : ∃ n, n = t.events.length := ⟨_, rfl⟩
  have H1 := hidT h1
  have H2 := hidT h2
  have H3 := hidT h3
  rw [← hpost]
  rw [← h1] at m1 ET ⊢
  rw [← h2] at m2 ⊢
  rw [← h3] at m3 EE ⊢
  clear h hpost h1 h2 h3
  have d1 : decide ((1048576 : Int) < (n1 : Int)) = false := decide_eq_false (by omega)
  have d3 : decide ((1048576 : Int) < (n3 : Int)) = false := decide_eq_false (by omega)
  obtain ⟨W0, hW0⟩ : ∃ W, W = w.alloc (.cells #[.slice ta n1 tc, .slice ca n2 cc, .slice ea n3 ec] 26) := ⟨_, rfl⟩
  have K0 : Hid (Below w.heap.size w W0) := by rw [hW0]; exact (Below.refl _ _).alloc (Nat.le_refl _) _
  have hb0 : W0.heap[w.heap.size]? = some (.cells #[.slice ta n1 tc, .slice ca n2 cc, .slice ea n3 ec] 26 (0, 0)) := by rw [hW0]; exact heap_alloc_new w _
  have hcell : Hid (∀ W, Below W0.heap.size W0 W → W.cell? ⟨w.heap.size, 0, none⟩ = some (.slice ta n1 tc) ∧ W.cell? ⟨w.heap.size, 1, none⟩ = some (.slice ca n2 cc) ∧ W.cell? ⟨w.heap.size, 2, none⟩ = some (.slice ea n3 ec)) := fun W q => by
    have hw : W.heap[w.heap.size]? = _ := (q.block w.heap.size (by rw [hW0]; simp)).trans hb0
    refine ⟨?_, ?_, ?_⟩ <;> simp [World.cell?, hw]
  obtain ⟨M, hM⟩ : ∃ M, M = w.heap.size := ⟨_, rfl⟩
  rw [← hM] at hcell
  clear hb0
  obtain ⟨a0, a1, a2⟩ := hcell.out W0 (Below.refl _ _)
  by_cases hq : n2 = n1
  · have q : ((n2 : Int) == (n1 : Int)) = true := by simp [hq]
    have HQ := hidT hq
    have HPc : Hid (post = (Tp.okC n3 0 t.counts && (t.ticks.all Tp.okT && t.events.all Tp.okE))) := by
      unfold Hid
      rw [HP.out, Tp.rightT, decide_eq_true (by rw [← H1.out, ← H2.out]; exact hq), ← H3.out]
      rfl
    clear hq
    have qb : ((n2 : Int) != (n1 : Int)) = false := by rw [bne, q]; rfl
    go_enter Try.func23, Try.ntmps23
    go_upto_region 1 with fail
    rw [← hW0, ← hM]
    have HMM := hidT hM
    clear hW0 hM
    go_wp2_with fail
    go_loopg [3, 28] n2 (fun gk x i wr => ∃ (j : Nat) (told : Int), j + gk = n2 ∧ i = .int .i64 j ∧ x = .int .i64 told ∧ 0 ≤ told ∧ Hid (wr = W0) ∧ Hid (Tp.okC n3 0 t.counts = Tp.okC n3 told (t.counts.drop j)))
    case atStart => exact ⟨0, 0, by omega, rfl, rfl, by omega, hidT rfl, hidT rfl⟩
    case round =>
      obtain ⟨j, told, hj, rfl, rfl, ht0, HW, HR⟩ := hrel
      obtain rfl := HW.out
      rcases gk with _ | gk
      · obtain rfl : j = n2 := by omega
        have dk : decide ((j : Int) < (j : Int)) = false := decide_eq_false (by omega)
        have HPd : Hid (post = (t.ticks.all Tp.okT && t.events.all Tp.okE)) := by
          unfold Hid
          rw [HPc.out, HR.out, List.drop_eq_nil_of_le (by rw [← H2.out]; exact Nat.le_refl _)]
          rfl
        have ET1 := hidT (ET.out _ K0.out)
        have EE1 := EE
        cases hall : t.ticks.all Tp.okT with
        | false =>
          rw [hall] at ET1 HPd
          clear hall
          go_wp2_with fail
          refine ET1.out.mono ?_
          rintro e w3 ⟨rfl, k3⟩
          have K3 := hidT (K0.out.trans (k3.mono K0.out.size))
          clear k3
          go_wp2_with fail
          go_ret
          refine ⟨?_, K3.out⟩
          rw [HPd.out]
          rfl
        | true =>
          rw [hall] at ET1 HPd
          clear hall
          go_wp2_with fail
          refine ET1.out.mono ?_
          rintro e w3 ⟨rfl, k3⟩
          have K3 := hidT (K0.out.trans (k3.mono K0.out.size))
          obtain ⟨b0, b1, b2⟩ := hcell.out w3 k3
          clear k3 a0 a1 a2
          go_wp2_with fail
          refine (EE1.out w3 K3.out).mono ?_
          rintro e w4 ⟨rfl, k4⟩
          have K4 := hidT (K3.out.trans (k4.mono K3.out.size))
          clear k4
          go_wp2_with fail
          go_ret
          refine ⟨?_, K4.out⟩
          rw [HPd.out]
          simp
      · have dk : decide ((j : Int) < (n2 : Int)) = true := decide_eq_true (by omega)
        have dkn : decide (j < n2) = true := decide_eq_true (by omega)
        obtain ⟨x, hx⟩ : ∃ x, t.counts[j]? = some x := ⟨_, List.getElem?_eq_getElem (by rw [← H2.out]; omega)⟩
        obtain ⟨g, o, rfl, hg, hc⟩ := (HT.out.ct.later K0.out (Nat.le_refl _)) (by rw [← H2.out]; omega)
        have c0 := hc j x hx
        have hd : t.counts.drop j = x :: t.counts.drop (j + 1) := by
          obtain ⟨h1, h2⟩ := List.getElem?_eq_some_iff.1 hx
          rw [← h2, List.drop_eq_getElem_cons h1]
        have HD := hidT hd
        clear hd hx hc
        by_cases hlt : x < told
        · have e1 : decide (x < told) = true := decide_eq_true hlt
          have HPd : Hid (post = false) := by
            unfold Hid
            rw [HPc.out, HR.out, HD.out, Tp.okC, if_pos (.inl hlt)]
            rfl
          go_wp2_with fail
          go_ret
          refine ⟨?_, K0.out⟩
          rw [HPd.out]
          rfl
        · have e1 : decide (x < told) = false := decide_eq_false hlt
          by_cases hgt : (n3 : Int) < x
          · have e2 : decide ((n3 : Int) < x) = true := decide_eq_true hgt
            have HPd : Hid (post = false) := by
              unfold Hid
              rw [HPc.out, HR.out, HD.out, Tp.okC, if_pos (.inr hgt)]
              rfl
            go_wp2_with fail
            go_ret
            refine ⟨?_, K0.out⟩
            rw [HPd.out]
            rfl
          · have e2 : decide ((n3 : Int) < x) = false := decide_eq_false hgt
            have HR2 : Hid (Tp.okC n3 0 t.counts = Tp.okC n3 x (t.counts.drop (j + 1))) := by
              unfold Hid
              rw [HR.out, HD.out, Tp.okC, if_neg (by omega)]
            go_wp2_with fail
            go_roundg gk
            case measure => omega
            case rel => exact ⟨j + 1, x, by omega, by go_num, rfl, by omega, hidT rfl, HR2⟩
  · have q : ((n2 : Int) == (n1 : Int)) = false := by simp; omega
    have qb : ((n2 : Int) != (n1 : Int)) = true := by rw [bne, q]; rfl
    have HPc : Hid (post = false) := by
      unfold Hid
      rw [HP.out, Tp.rightT, decide_eq_false (by rw [← H1.out, ← H2.out]; exact hq)]
      rfl
    go_enter Try.func23, Try.ntmps23
    go_upto_region 1 with fail
    rw [← hW0, ← hM]
    have HMM := hidT hM
    clear hW0 hM
    go_wp2_with fail
    go_ret
    refine ⟨?_, K0.out⟩
    rw [HPc.out]
    rfl
end Go.Proofs.Ytneefpblfiedbaa

namespace Go.Proofs.Ytneefpblfiedbaa
open Go.RowKit
set_option linter.unusedVariables false
theorem own_tellT {P : Program} {w : World} {base : Nat} {t ty e : TypeId} {i : TypeInfo} {z : Value} {size bytes : Nat} (ht : P.underlying t = some (.slice e)) (hi : P.info? e = some i) (hz : i.zero = some z)
    (hsize : i.size = size) (hby : i.bytes = bytes) {v : Value} {n : Nat} {xs : List Value} (hown : w.ownsRow base e size v n xs)
    {a : Addr} {m c : Nat} {news : List Value} (hl : news.length = m * size) (hnews : ∀ j u, news[j]? = some u → w.cell? (a.add j) = some u) (h1 : ∀ u ∈ news, u.oneCell' = true)
    (h63 : n + m ≤ maxLen) (hbytes : (n + m) * bytes ≤ 140737488355328) (hm : 0 < m) {v' : Value} {w' : World} (hr : (Builtin.append_ #[t, t] ty #[v, .slice (some a) m c]).run P w = .ok v' w') :
    v'.ownBlock = v.ownBlock ∨ ∃ g, v'.ownBlock = some g ∧ w.heap.size ≤ g := by
  subst hsize
  subst hby
  have hsmall : n + m ≤ 9223372036854775807 := by simp only [maxLen] at h63; omega
  rcases hown.2 with ⟨rfl, rfl⟩ | ⟨g, cap, cur, rfl, hbg, hg, hnc, hcm, hcs, htake⟩
  · have hx := run_append_nil (P := P) w t ty e i z ht hi hz a m c news hl hnews (by omega) (by omega) (by have hb := hbytes; simp only [Nat.zero_add] at hb; omega)
    rw [hr] at hx
    cases hx
    exact .inr ⟨_, rfl, Nat.le_refl _⟩
  · by_cases hroom : n + m ≤ cap
    · have hfit : n * i.size + news.length ≤ cur.size := by rw [hl, hcs, ← Nat.add_mul]; exact Nat.mul_le_mul_right _ hroom
      have hx := run_append_room (P := P) w t ty e i ht hi g n cap cur hg a m c news hl hnews h1 hroom hfit
      rw [hr] at hx
      cases hx
      exact .inl rfl
    · have holds : ∀ j u, xs[j]? = some u → w.cell? ((⟨g, 0, none⟩ : Addr).add j) = some u := hown.cells (g := g) rfl
      have hx := run_append_grow (P := P) w t ty e i z ht hi hz ⟨g, 0, none⟩ n cap xs hown.1 holds a m c news hl hnews (by omega) (by omega) (growslice_fits (by omega) hbytes)
      rw [hr] at hx
      cases hx
      exact .inr ⟨_, rfl, Nat.le_refl _⟩
theorem wp_append_tol {P : Program} {w : World} {o : Oper} {a : Act} {K : Act → World → Prop} {Q : Exit → Act → World → Prop} (s x : Operand) (t : TypeId)
    (ho : o.op = .call { callee := .builtin .append, args := #[s, x], argTypes := #[t, t] })
    (base : Nat) (e : TypeId) (i : TypeInfo) (z : Value) (size bytes : Nat) (ht : P.underlying t = some (.slice e)) (hi : P.info? e = some i) (hz : i.zero = some z)
    (hsize : i.size = size) (hby : i.bytes = bytes) (hzs : z.cells.size = size) (hsz : 0 < size)
    (v : Value) (n : Nat) (xs : List Value) (hs : a.eval s = v) (hown : w.ownsRow base e size v n xs)
    (ad : Addr) (m c : Nat) (news : List Value) (hx : a.eval x = .slice (some ad) m c) (hl : news.length = m * size) (hnews : ∀ j u, news[j]? = some u → w.cell? (ad.add j) = some u) (h1 : ∀ u ∈ news, u.oneCell' = true)
    (h63 : n + m ≤ maxLen) (hbytes : (n + m) * bytes ≤ 140737488355328) (hbase : base ≤ w.heap.size) (hm : 0 < m)
    (h : ∀ v' w', w'.ownsRow base e size v' (n + m) (xs ++ news) → w.grownBy w' v.ownBlock → (v'.ownBlock = v.ownBlock ∨ ∃ g, v'.ownBlock = some g ∧ w.heap.size ≤ g) → K (a.put o.dst v') w') : o.wp P a w K Q := by
  obtain ⟨v', w', hr, h2, h3, _⟩ := run_append_own (P := P) w base t o.type e i z size bytes ht hi hz hsize hby hzs hsz v n xs hown ad m c news hl hnews h1 h63 hbytes hbase
  have h5 := own_tellT ht hi hz hsize hby hown hl hnews h1 h63 hbytes hm hr
  unfold Oper.wp execOp
  simp only [ho, resolve, invoke, builtin, Sem.run_bind, Sem.run_pure, Result.andThen_ok, List.map_toArray, List.map_cons, List.map_nil, hs, hx, hr]
  exact h v' w' h2 h3 h5
theorem wpList_append_tol {P : Program} {w : World} {ops : Array Oper} {rest : List Oper} {o : Oper} {a : Act} {Q : Exit → Act → World → Prop} (hgd : o.guard = none) (s x : Operand) (t : TypeId)
    (ho : o.op = .call { callee := .builtin .append, args := #[s, x], argTypes := #[t, t] })
    (base : Nat) (e : TypeId) (i : TypeInfo) (z : Value) (size bytes : Nat) (ht : P.underlying t = some (.slice e)) (hi : P.info? e = some i) (hz : i.zero = some z)
    (hsize : i.size = size) (hby : i.bytes = bytes) (hzs : z.cells.size = size) (hsz : 0 < size)
    (v : Value) (n : Nat) (xs : List Value) (hs : a.eval s = v) (hown : w.ownsRow base e size v n xs)
    (ad : Addr) (m c : Nat) (news : List Value) (hx : a.eval x = .slice (some ad) m c) (hl : news.length = m * size) (hnews : ∀ j u, news[j]? = some u → w.cell? (ad.add j) = some u) (h1 : ∀ u ∈ news, u.oneCell' = true)
    (h63 : n + m ≤ maxLen) (hbytes : (n + m) * bytes ≤ 140737488355328) (hbase : base ≤ w.heap.size) (hm : 0 < m)
    (h : ∀ v' w', w'.ownsRow base e size v' (n + m) (xs ++ news) → w.grownBy w' v.ownBlock → (v'.ownBlock = v.ownBlock ∨ ∃ g, v'.ownBlock = some g ∧ w.heap.size ≤ g) → wpList P ops Q rest (a.put o.dst v') w') : wpList P ops Q (o :: rest) a w :=
  wpList_plain hgd fun _ hK => wp_append_tol s x t ho base e i z size bytes ht hi hz hsize hby hzs hsz v n xs hs hown ad m c news hx hl hnews h1 h63 hbytes hbase hm fun v' w' h2 h3 h4 => hK _ _ (h v' w' h2 h3 h4)
end Go.Proofs.Ytneefpblfiedbaa
