/- Layer 13: records put behind bytes. -/
import Derived.Test.YtgonadilbjfpkaaTtB
import Derived.Test.YtgonadilbjfpkaaTtF
namespace Go.Proofs.Ytgonadilbjfpkaa
open Go.RowKit
set_option linter.unusedVariables false
set_option linter.unusedSimpArgs false
theorem okE_bd {e : Tp.Ev} (h : Tp.okE e = true) : 1 ≤ e.kind ∧ e.kind ≤ 5 := by
  simp only [Tp.okE, Tp.bet, Bool.and_eq_true, decide_eq_true_eq] at h
  exact h.1
theorem okT_bd {t : Tp.Tk} (h : Tp.okT t = true) : (1 ≤ t.kind ∧ t.kind ≤ 3) ∧ (0 ≤ t.proc ∧ t.proc ≤ 2147483647) ∧ (0 ≤ t.mark ∧ t.mark ≤ 2147483647) ∧ (1 ≤ t.depth ∧ t.depth ≤ 2147483647) := by
  simp only [Tp.okT, Tp.bet, Bool.and_eq_true, decide_eq_true_eq] at h
  exact h
set_option maxHeartbeats 2000000 in
theorem putEv_any (w : World) (base : Nat) (v : Value) (l : List Int) (ev : List Tp.Ev) (a : Option Addr) (c : Nat) (ho : OwB w base v l) (hb : base ≤ w.heap.size) (hm : EvS base w a ev) (hok : ∀ e ∈ ev, Tp.okE e = true ∧ I64 e.n) (hl : l.length + ev.length * 11 ≤ 100000000) :
    Calls Try.prog 66 #[v, .slice a ev.length c] w (PvQ w v base (l ++ Tp.evs ev)) := by
  obtain ⟨i0, hi, hz0, hz1, hz2⟩ := infoB'
  have HM := hidT hm
  have HO := hidT ho
  have HB := hidT hb
  have HK := hidT hok
  have HL := hidT hl
  obtain ⟨n, hn⟩ : ∃ n, n = ev.length := ⟨_, rfl⟩
  have HN := hidT hn
  have hnb : n ≤ 100000000 := by omega
  rw [← hn]
  clear hm ho hb hok hl hn
  go_enter Try.func66, Try.ntmps66
  go_wp2_with fail
  go_loopg [0, 9] n (fun gk x i wr => ∃ j : Nat, j + gk = n ∧ i = .int .i64 j ∧ Hid (OwB wr base x (l ++ Tp.evs (ev.take j))) ∧ Hid (Gw w v x wr))
  case atStart => exact ⟨0, by omega, rfl, by simpa [Tp.evs] using HO, Gw.refl _ _⟩
  case round =>
    obtain ⟨j, hj, rfl, HOJ, KW⟩ := hrel
    have HBR : Hid (base ≤ wr.heap.size) := Nat.le_trans HB.out KW.out.1.size
    obtain ⟨L, hLe⟩ : ∃ L, L = l ++ Tp.evs (ev.take j) := ⟨_, rfl⟩
    have HLe := hidT hLe
    have HLL : Hid (L.length ≤ l.length + j * 11) := by
      unfold Hid
      rw [hLe, List.length_append]
      have := Tp.evs_len (ev.take j)
      have h2 : (ev.take j).length ≤ j := by rw [List.length_take]; omega
      omega
    rw [← hLe] at HOJ
    clear hLe
    rcases gk with _ | gk
    · obtain rfl : j = n := by omega
      have dk : decide ((j : Int) < (j : Int)) = false := decide_eq_false (by omega)
      go_wp2_with fail
      go_ret
      refine ⟨_, rfl, ?_, KW.out⟩
      have h := HOJ.out
      rw [HLe.out, List.take_of_length_le (by rw [← HN.out]; exact Nat.le_refl _)] at h
      exact h
    · have dk : decide ((j : Int) < (n : Int)) = true := decide_eq_true (by omega)
      have dkn : decide (j < n) = true := decide_eq_true (by omega)
      obtain ⟨x, hx⟩ : ∃ x, ev[j]? = some x := ⟨_, List.getElem?_eq_getElem (by rw [← HN.out]; omega)⟩
      obtain ⟨g, o, rfl, hg, hc⟩ := (HM.out.later (KW.out.below HO.out HB.out) (Nat.le_refl _)) (by rw [← HN.out]; omega)
      obtain ⟨c0, c1⟩ := hc j x hx
      obtain ⟨hok, hn64⟩ := HK.out x (List.mem_of_getElem? hx)
      obtain ⟨hk1, hk5⟩ := okE_bd hok
      have HT : Hid (l ++ Tp.evs (ev.take (j + 1)) = L ++ Tp.evB x) := by
        unfold Hid
        rw [List.take_add_one, hx, HLe.out, Tp.evs_app, List.append_assoc]
        simp [Tp.evs]
      have HN64 := hidT hn64
      obtain ⟨va, vc, hv⟩ := ownShT HOJ.out
      subst hv
      have H63 : Hid (L.length + 1 ≤ maxLen ∧ (L.length + 1) * 1 ≤ 140737488355328) := by have := HLL.out; have := HL.out; have := HN.out; unfold Hid maxLen; omega
      obtain ⟨W0, hW0⟩ : ∃ W, W = wr.alloc (.cells #[.int .i64 x.kind, .int .i64 x.n] 96) := ⟨_, rfl⟩
      have K0 : Hid (Below wr.heap.size wr W0) := by rw [hW0]; exact (Below.refl _ _).alloc (Nat.le_refl _) _
      have b0 : W0.cell? ⟨wr.heap.size, 0, none⟩ = some (.int .i64 x.kind) := by rw [hW0]; simp
      have b1 : W0.cell? ⟨wr.heap.size, 1, none⟩ = some (.int .i64 x.n) := by rw [hW0]; simp
      have hlt0 : wr.heap.size < W0.heap.size := by rw [hW0]; simp
      obtain ⟨M, hM⟩ : ∃ M, M = wr.heap.size := ⟨_, rfl⟩
      have HMw := hidT hM
      rw [← hM] at b0 b1 hlt0
      have O0 := hidT (ownLtT HOJ.out K0.out)
      have hbW : Hid (base ≤ W0.heap.size) := Nat.le_trans HBR.out K0.out.size
      have hbM : Hid (base ≤ M) := by rw [hM]; exact HBR
      clear hc hx hok hn64
      go_upto_region 4 with fail
      rw [← hW0, ← hM]
      clear hW0 hM
      go_wp2_with (at_builtin; refine wpList_append_tol rfl _ _ 22 rfl base 5 i0 (.int .u8 0) 1 1 Try.underlying22 hi hz0 hz1 hz2 rfl (by decide) _ _ _ rfl (ownLtT O0.out ((Below.refl _ _).alloc (Nat.le_refl _) _)) ⟨W0.heap.size, 0, none⟩ 1 1 [_] rfl rfl (one1 _ _ _) (by intro x hx; simp at hx; subst hx; rfl) H63.out.1 H63.out.2 (by simp; exact Nat.le_trans hbW.out (Nat.le_succ _)) (by decide) ?_)
      intro v8 w8 h8 g8 o8
      have HX : Hid (OwB w8 base v8 (L ++ [16 + x.kind])) := OwB.of (m := [16 + x.kind]) h8 rfl
      have G0 := Gw.step (u := .slice va L.length vc) g8 o8
      have K8 : Hid (Gw w v v8 w8) := (KW.out.later K0.out).trans G0
      have hnM : some M ≠ (Value.slice va L.length vc).ownBlock := fun e => by
        have h1 := (World.ownsRow.lt HOJ.out _ e.symm).2
        rw [← HMw.out] at h1
        exact Nat.lt_irrefl _ h1
      have hbl := (G0.keep hlt0 hnM).1
      have d0 : w8.cell? ⟨M, 0, none⟩ = some (.int .i64 x.kind) := (World.cell?_of_block hbl).trans b0
      have d1 : w8.cell? ⟨M, 1, none⟩ = some (.int .i64 x.n) := (World.cell?_of_block hbl).trans b1
      have EN := hidT (numbered_any x.kind)
      have HW8 : Hid (base ≤ w8.heap.size) := Nat.le_trans HB.out K8.out.1.size
      have EP := hidT (putNm2 w8 base v8 _ x.n HN64.out.1 HN64.out.2 HX.out HW8.out (by have := HLL.out; have := HL.out; have := HN.out; simp; omega))
      clear h8 g8 o8 b0 b1 hbl hnM G0
      cases hh : Tp.hasN x.kind with
      | false =>
        rw [hh] at EN
        have HTe : Hid (Tp.evB x = [16 + x.kind]) := by unfold Hid Tp.evB; rw [hh]; rfl
        clear hh
        go_wp2_with fail
        refine (EN.out _).mono ?_
        rintro e w9 ⟨rfl, rfl⟩
        go_wp2_with fail
        go_roundg gk
        case measure => omega
        case rel =>
          refine ⟨j + 1, by omega, by go_num, ?_, K8⟩
          rw [HT.out, HTe.out]
          exact HX
      | true =>
        rw [hh] at EN
        have HTe : Hid (Tp.evB x = [16 + x.kind] ++ Tp.dg (Tp.zg x.n)) := by unfold Hid Tp.evB; rw [hh]; rfl
        clear hh
        go_wp2_with fail
        refine (EN.out _).mono ?_
        rintro e w9 ⟨rfl, rfl⟩
        go_wp2_with fail
        refine EP.out.mono ?_
        rintro e w10 ⟨v10, rfl, o10, k10⟩
        have O10 := hidT o10
        have K10 := hidT (K8.out.trans k10)
        clear o10 k10
        go_wp2_with fail
        go_roundg gk
        case measure => omega
        case rel =>
          refine ⟨j + 1, by omega, by go_num, ?_, K10⟩
          rw [HT.out, HTe.out, ← List.append_assoc]
          exact O10
theorem putEv_nil (w : World) (base : Nat) (v : Value) (l : List Int) (a : Option Addr) (c : Nat) (ho : OwB w base v l) (hb : base ≤ w.heap.size) (hl : l.length ≤ 100000000) :
    Calls Try.prog 66 #[v, .slice a 0 c] w (PvQ w v base l) := by
  have h := putEv_any w base v l [] a c ho hb (fun h => absurd h (by decide)) (fun e he => by cases he) (by simpa using hl)
  simpa [Tp.evs] using h
set_option maxHeartbeats 2000000 in
theorem putTk_any (w : World) (base : Nat) (v : Value) (l : List Int) (t : Tp.Tk) (ho : OwB w base v l) (hb : base ≤ w.heap.size) (hok : Tp.okT t = true) (hl : l.length ≤ 90000000) :
    Calls Try.prog 67 #[v, tkV t] w (PvQ w v base (l ++ Tp.tkB t)) := by
  obtain ⟨i0, hi, hz0, hz1, hz2⟩ := infoB'
  obtain ⟨⟨k1, k3⟩, ⟨p1, p3⟩, ⟨q1, q3⟩, ⟨r1, r3⟩⟩ := okT_bd hok
  obtain ⟨k, p, m, d⟩ := t
  dsimp only at k1 k3 p1 p3 q1 q3 r1 r3
  obtain ⟨P, rfl⟩ : ∃ P : Nat, p = P := ⟨p.toNat, by omega⟩
  obtain ⟨Mk, rfl⟩ : ∃ M : Nat, m = M := ⟨m.toNat, by omega⟩
  obtain ⟨D, rfl⟩ : ∃ D : Nat, d = D := ⟨d.toNat, by omega⟩
  have HT : Hid (l ++ Tp.tkB ⟨k, P, Mk, D⟩ = l ++ [k] ++ Tp.dg P ++ Tp.dg Mk ++ Tp.dg D) := by unfold Hid Tp.tkB; simp
  rw [HT.out]
  show Calls _ _ #[v, .agg #[.int .i64 k, .int .i64 (P : Int), .int .i64 (Mk : Int), .int .i64 (D : Int)]] w _
  have HL := hidT hl
  have HB := hidT hb
  obtain ⟨va, vc, hv⟩ := ownShT ho
  subst hv
  have HO := hidT ho
  have H63 : Hid (l.length + 1 ≤ maxLen ∧ (l.length + 1) * 1 ≤ 140737488355328) := by unfold Hid maxLen; omega
  obtain ⟨W0, hW0⟩ : ∃ W, W = w.alloc (.cells #[.int .i64 k, .int .i64 (P : Int), .int .i64 (Mk : Int), .int .i64 (D : Int)] 80) := ⟨_, rfl⟩
  have K0 : Hid (Below w.heap.size w W0) := by rw [hW0]; exact (Below.refl _ _).alloc (Nat.le_refl _) _
  have b0 : W0.cell? ⟨w.heap.size, 0, none⟩ = some (.int .i64 k) := by rw [hW0]; simp
  have hb0 : W0.heap[w.heap.size]? = some (.cells #[.int .i64 k, .int .i64 (P : Int), .int .i64 (Mk : Int), .int .i64 (D : Int)] 80 (0, 0)) := by rw [hW0]; exact heap_alloc_new w _
  have hlt0 : w.heap.size < W0.heap.size := by rw [hW0]; simp
  obtain ⟨M, hM⟩ : ∃ M, M = w.heap.size := ⟨_, rfl⟩
  have HMw := hidT hM
  have HC : Hid (∀ W : World, W.heap[M]? = W0.heap[M]? → W.cell? ⟨M, 1, none⟩ = some (.int .i64 (P : Int)) ∧ W.cell? ⟨M, 2, none⟩ = some (.int .i64 (Mk : Int)) ∧ W.cell? ⟨M, 3, none⟩ = some (.int .i64 (D : Int))) := fun W hW => by
    rw [← hM] at hb0
    rw [hb0] at hW
    refine ⟨?_, ?_, ?_⟩ <;> simp [World.cell?, hW]
  rw [← hM] at b0 hlt0
  have O0 := hidT (ownLtT HO.out K0.out)
  have hbW : Hid (base ≤ W0.heap.size) := Nat.le_trans hb K0.out.size
  have hbM : Hid (base ≤ M) := by rw [hM]; exact HB
  clear ho hb hl hok hb0
  go_enter Try.func67, Try.ntmps67
  go_upto_region 1 with fail
  rw [← hW0, ← hM]
  clear hW0 hM
  go_wp2_with (at_builtin; refine wpList_append_tol rfl _ _ 22 rfl base 5 i0 (.int .u8 0) 1 1 Try.underlying22 hi hz0 hz1 hz2 rfl (by decide) _ _ _ rfl (ownLtT O0.out ((Below.refl _ _).alloc (Nat.le_refl _) _)) ⟨W0.heap.size, 0, none⟩ 1 1 [_] rfl rfl (one1 _ _ _) (by intro x hx; simp at hx; subst hx; rfl) H63.out.1 H63.out.2 (by simp; exact Nat.le_trans hbW.out (Nat.le_succ _)) (by decide) ?_)
  intro v8 w8 h8 g8 o8
  have HX : Hid (OwB w8 base v8 (l ++ [k])) := OwB.of (m := [k]) h8 rfl
  have G0 := Gw.step (u := .slice va l.length vc) g8 o8
  have K8 : Hid (Gw w (.slice va l.length vc) v8 w8) := ((Gw.refl w _).later K0.out).trans G0
  have hnM : some M ≠ (Value.slice va l.length vc).ownBlock := fun e => by
    have h1 := (World.ownsRow.lt HO.out _ e.symm).2
    rw [← HMw.out] at h1
    exact Nat.lt_irrefl _ h1
  obtain ⟨hb8, hnM8, hM8⟩ := G0.keep hlt0 hnM
  obtain ⟨d1, d2, d3⟩ := HC.out w8 hb8
  have HB8 := hidT hb8
  have HW8 : Hid (base ≤ w8.heap.size) := Nat.le_trans HB.out K8.out.1.size
  have EP := hidT (putCt2 w8 base v8 _ P (by omega) HX.out HW8.out (by have := HL.out; simp; omega))
  have HNM8 := hidT hnM8
  have HM8 := hidT hM8
  clear h8 g8 o8 b0 hb8 hnM G0 hnM8 hM8
  go_wp2_with fail
  refine EP.out.mono ?_
  rintro e w9 ⟨v9, rfl, o9, k9⟩
  have O9 := hidT o9
  have K9 := hidT (K8.out.trans k9)
  obtain ⟨hb9, hn9, hM9⟩ := k9.keep HM8.out HNM8.out
  have HB9 := hidT (hb9.trans HB8.out)
  have HNM9 := hidT hn9
  have HM9 := hidT hM9
  have HW9 : Hid (base ≤ w9.heap.size) := Nat.le_trans HB.out K9.out.1.size
  clear d1 d2 d3
  obtain ⟨d1, d2, d3⟩ := HC.out w9 HB9.out
  have EP9 := hidT (putCt2 w9 base v9 _ Mk (by omega) O9.out HW9.out (by have := HL.out; have := Tp.dg_len P; have := Tp.dg_len Mk; simp; omega))
  clear o9 k9 hb9 hn9 hM9
  go_wp2_with fail
  refine EP9.out.mono ?_
  rintro e w10 ⟨v10, rfl, o10, k10⟩
  have O10 := hidT o10
  have K10 := hidT (K9.out.trans k10)
  obtain ⟨hb10, hn10, hM10⟩ := k10.keep HM9.out HNM9.out
  have HB10 := hidT (hb10.trans HB9.out)
  have HNM10 := hidT hn10
  have HM10 := hidT hM10
  have HW10 : Hid (base ≤ w10.heap.size) := Nat.le_trans HB.out K10.out.1.size
  clear d1 d2 d3
  obtain ⟨d1, d2, d3⟩ := HC.out w10 HB10.out
  have EP10 := hidT (putCt2 w10 base v10 _ D (by omega) O10.out HW10.out (by have := HL.out; have := Tp.dg_len P; have := Tp.dg_len Mk; simp; omega))
  clear o10 k10 hb10 hn10 hM10
  go_wp2_with fail
  refine EP10.out.mono ?_
  rintro e w11 ⟨v11, rfl, o11, k11⟩
  have O11 := hidT o11
  have K11 := hidT (K10.out.trans k11)
  clear o11 k11
  go_wp2_with fail
  go_ret
  exact ⟨v11, rfl, O11.out, K11.out⟩
end Go.Proofs.Ytgonadilbjfpkaa
