/- Layer 13: numbers put behind bytes, once more: and all but the row itself is as it was. -/
/- Layer 13: records put behind bytes. -/
/- Layer 13: a trace's records, put; WriteTrace. -/
/- Layer 13: WriteTrace. -/
/- Layer 13: the reader of a trace in memory; put. -/
/- Layer 13: the reader of a trace: its box and its three rows. -/
/- Layer 13: a tick's record is taken. -/
/- Layer 13: a tick's record: its first number is wrong. -/
import Derived.Test.YtneefpblfiedbaaZTpO
import Derived.Test.YtneefpblfiedbaaZTtT
import Derived.Test.YtneefpblfiedbaaZTpF
namespace Go.Proofs.Ytneefpblfiedbaa
open Go.RowKit
set_option linter.unusedVariables false
set_option linter.unusedSimpArgs false
/-- The row v grew to be v': all else is as it was, and v' lies where v lay, or in a new block. -/
def Gw (w : World) (v v' : Value) (w' : World) : Prop := w.grownBy w' v.ownBlock ∧ (v'.ownBlock = v.ownBlock ∨ ∃ g, v'.ownBlock = some g ∧ w.heap.size ≤ g)
theorem Gw.refl (w : World) (v : Value) : Gw w v v w := ⟨⟨rfl, rfl, rfl, Nat.le_refl _, fun _ _ _ => rfl⟩, .inl rfl⟩
theorem Gw.trans {w w1 w2 : World} {v v1 v2 : Value} (h : Gw w v v1 w1) (k : Gw w1 v1 v2 w2) : Gw w v v2 w2 := by
  refine ⟨⟨k.1.os.trans h.1.os, k.1.tape.trans h.1.tape, k.1.output.trans h.1.output, Nat.le_trans h.1.size k.1.size, fun i hi hn => ?_⟩, ?_⟩
  · refine (k.1.block i (Nat.lt_of_lt_of_le hi h.1.size) (fun e => ?_)).trans (h.1.block i hi hn)
    rcases h.2 with h2 | ⟨g, h2, h3⟩
    · exact hn (e.trans h2)
    · rw [h2] at e
      cases e
      omega
  · rcases k.2 with k2 | ⟨g, k2, k3⟩
    · rcases h.2 with h2 | ⟨g, h2, h3⟩
      · exact .inl (k2.trans h2)
      · exact .inr ⟨g, k2.trans h2, h3⟩
    · exact .inr ⟨g, k2, Nat.le_trans h.1.size k3⟩
theorem Gw.step {wr w8 : World} {u v8 : Value} {o : Obj} (g8 : (wr.alloc o).grownBy w8 u.ownBlock) (o8 : v8.ownBlock = u.ownBlock ∨ ∃ g, v8.ownBlock = some g ∧ wr.heap.size + 1 ≤ g) : Gw wr u v8 w8 := by
  refine ⟨⟨g8.os, g8.tape, g8.output, ?_, fun i hi hn => ?_⟩, o8.imp id fun ⟨g, h, k⟩ => ⟨g, h, ?_⟩⟩
  · have := g8.size; simp at this; omega
  · exact (g8.block i (by simp; omega) hn).trans (((Below.refl wr.heap.size wr).alloc (Nat.le_refl _) o).block i hi)
  · omega
theorem Gw.alloc {w w1 : World} {v v' : Value} (h : Gw w v v' w1) (o : Obj) : Gw w v v' (w1.alloc o) :=
  ⟨⟨h.1.os, h.1.tape, h.1.output, by have := h.1.size; simp; omega, fun i hi hn => (((Below.refl w1.heap.size w1).alloc (Nat.le_refl _) o).block i (Nat.lt_of_lt_of_le hi h.1.size)).trans (h.1.block i hi hn)⟩, h.2⟩
theorem Gw.later {w w1 w2 : World} {v v' : Value} (h : Gw w v v' w1) (b : Below w1.heap.size w1 w2) : Gw w v v' w2 :=
  ⟨⟨b.os.trans h.1.os, b.tape.trans h.1.tape, b.output.trans h.1.output, Nat.le_trans h.1.size b.size, fun i hi hn => (b.block i (Nat.lt_of_lt_of_le hi h.1.size)).trans (h.1.block i hi hn)⟩, h.2⟩
theorem Gw.below {w w1 : World} {v v' : Value} {base : Nat} {l : List Int} (h : Gw w v v' w1) (ho : OwB w base v l) (hb : base ≤ w.heap.size) : Below base w w1 := OwB.below' ho hb h.1
/-- Another block stays: it is not the row's, before or behind. -/
theorem Gw.keep {w w1 : World} {v v' : Value} (h : Gw w v v' w1) {M : Nat} (hM : M < w.heap.size) (hn : some M ≠ v.ownBlock) : w1.heap[M]? = w.heap[M]? ∧ some M ≠ v'.ownBlock ∧ M < w1.heap.size :=
  ⟨h.1.block M hM hn, fun e => by
    rcases h.2 with h2 | ⟨g, h2, h3⟩
    · exact hn (e.trans h2)
    · rw [h2] at e; cases e; omega, Nat.lt_of_lt_of_le hM h.1.size⟩
def PvQ (w : World) (v : Value) (base : Nat) (l : List Int) (e : Ending) (w' : World) : Prop := ∃ v', e = .returned v' ∧ OwB w' base v' l ∧ Gw w v v' w'
set_option maxHeartbeats 2000000 in
theorem putDg2 (w : World) (base : Nat) (v : Value) (l : List Int) (z : Nat) (hz : z < 18446744073709551616) (ho : OwB w base v l) (hb : base ≤ w.heap.size) (hl : l.length ≤ 100000000) :
    Calls Try.prog 57 #[v, .int .u64 z] w (PvQ w v base (l ++ Tp.dg z)) := by
  obtain ⟨i0, hi, hz0, hz1, hz2⟩ := infoB'
  have HO : Hid (OwB w base v l) := ho
  have HL : Hid (l.length ≤ 100000000) := hl
  have HB : Hid (base ≤ w.heap.size) := hb
  clear ho hl hb
  go_enter Try.func57, Try.ntmps57
  go_wp2_with fail
  go_loopg [0, 1] 10 (fun gk x y wr => ∃ (u : Value) (l' : List Int) (q : Nat), x = u ∧ y = .int .u64 q ∧ q < 18446744073709551616 ∧ Hid (OwB wr base u l' ∧ Gw w v u wr ∧ l ++ Tp.dg z = l' ++ Tp.dgF gk.pred q ∧ l'.length + gk = l.length + 10 ∧ q < 128 ^ gk ∧ 0 < gk))
  case atStart => exact ⟨v, l, z, rfl, rfl, hz, HO.out, Gw.refl _ _, rfl, rfl, Nat.lt_of_lt_of_le hz (by decide), by decide⟩
  case round =>
    obtain ⟨u, l', q, rfl, rfl, hq, HR⟩ := hrel
    have HBR : Hid (base ≤ wr.heap.size) := Nat.le_trans HB.out HR.out.2.1.1.size
    obtain ⟨ua, cap, hv⟩ := ownShT HR.out.1
    subst hv
    have H63 : Hid (l'.length + 1 ≤ maxLen ∧ (l'.length + 1) * 1 ≤ 140737488355328) := by
      have := HL.out
      have := HR.out.2.2.2.1
      unfold Hid maxLen; omega
    by_cases h128 : 128 ≤ q
    · have d1 : decide (128 ≤ (q : Int)) = true := decide_eq_true (by omega)
      go_wp2_with (at_builtin; refine wpList_append_tol rfl _ _ 27 rfl base 5 i0 (.int .u8 0) 1 1 Try.underlying27 hi hz0 hz1 hz2 rfl (by decide) _ _ _ rfl (ownLtT HR.out.1 ((Below.refl _ _).alloc (Nat.le_refl _) _)) ⟨wr.heap.size, 0, none⟩ 1 1 [_] rfl rfl (one1 _ _ _) (by intro x hx; simp at hx; subst hx; rfl) H63.out.1 H63.out.2 (by simp; exact Nat.le_trans HBR.out (Nat.le_succ _)) (by decide) ?_)
      intro v8 w8 h8 g8 o8
      have K8 := hidT (Gw.step (u := .slice ua l'.length cap) g8 o8)
      have HX : Hid (OwB w8 base v8 (l' ++ [((q % 128 + 128 : Nat) : Int)])) := OwB.of (m := [((q % 128 + 128 : Nat) : Int)]) h8 rfl
      clear h8 g8 o8
      go_wp2_with fail
      obtain ⟨o1, k1, e1, n1, q1, p1⟩ := HR.out
      have h2 : 2 ≤ gk := by
        rcases (by omega : gk = 1 ∨ 2 ≤ gk) with rfl | h
        · simp at q1; omega
        · exact h
      obtain ⟨m, rfl⟩ : ∃ m, gk = m + 2 := ⟨gk - 2, by omega⟩
      go_roundg (m + 1)
      case measure => omega
      case rel =>
        refine ⟨v8, l' ++ [((q % 128 + 128 : Nat) : Int)], q / 128, rfl, rfl, by omega, HX.out, k1.trans K8.out, ?_, by simp; omega, ?_, by omega⟩
        · rw [e1, List.append_assoc]
          show l' ++ Tp.dgF (m + 1) q = _
          rw [Tp.dgF, if_neg (by omega)]
          rfl
        · rw [Nat.div_lt_iff_lt_mul (by decide)]
          rwa [← Nat.pow_succ]
    · have d1 : decide (128 ≤ (q : Int)) = false := decide_eq_false (by omega)
      go_wp2_with (at_builtin; refine wpList_append_tol rfl _ _ 27 rfl base 5 i0 (.int .u8 0) 1 1 Try.underlying27 hi hz0 hz1 hz2 rfl (by decide) _ _ _ rfl (ownLtT HR.out.1 ((Below.refl _ _).alloc (Nat.le_refl _) _)) ⟨wr.heap.size, 0, none⟩ 1 1 [_] rfl rfl (one1 _ _ _) (by intro x hx; simp at hx; subst hx; rfl) H63.out.1 H63.out.2 (by simp; exact Nat.le_trans HBR.out (Nat.le_succ _)) (by decide) ?_)
      intro v8 w8 h8 g8 o8
      have K8 := hidT (Gw.step (u := .slice ua l'.length cap) g8 o8)
      have HX : Hid (OwB w8 base v8 (l' ++ [(q : Int)])) := OwB.of (m := [(q : Int)]) h8 rfl
      clear h8 g8 o8
      go_wp2_with fail
      go_ret
      obtain ⟨o1, k1, e1, n1, q1, p1⟩ := HR.out
      refine ⟨v8, rfl, ?_, k1.trans K8.out⟩
      have e2 : Tp.dgF gk.pred q = [(q : Int)] := by
        cases gk.pred with
        | zero => rfl
        | succ m => rw [Tp.dgF, if_pos (by omega)]
      rw [e1, e2]
      exact HX.out
theorem putNm2 (w : World) (base : Nat) (v : Value) (l : List Int) (n : Int) (h0 : -9223372036854775808 ≤ n) (h1 : n ≤ 9223372036854775807) (ho : OwB w base v l) (hb : base ≤ w.heap.size) (hl : l.length ≤ 100000000) :
    Calls Try.prog 34 #[v, .int .i64 n] w (PvQ w v base (l ++ Tp.dg (Tp.zg n))) := by
  have HP := hidT (putDg2 w base v l (Tp.zg n) (Tp.zg_lt n h0 h1) ho hb hl)
  clear ho hb hl
  go_enter Try.func34, Try.ntmps34
  go_wp2_with fail
  refine (unsigned_any n _ h0 h1).mono ?_
  rintro e w' ⟨rfl, rfl⟩
  go_wp2_with fail
  refine HP.out.mono ?_
  rintro e w' ⟨v', rfl, O, K⟩
  have HO := hidT O
  have HK := hidT K
  clear O K
  go_wp2_with fail
  go_ret
  exact ⟨v', rfl, HO.out, HK.out⟩
theorem putCt2 (w : World) (base : Nat) (v : Value) (l : List Int) (n : Nat) (h1 : (n : Int) ≤ 9223372036854775807) (ho : OwB w base v l) (hb : base ≤ w.heap.size) (hl : l.length ≤ 100000000) :
    Calls Try.prog 33 #[v, .int .i64 n] w (PvQ w v base (l ++ Tp.dg n)) := by
  have HP := hidT (putDg2 w base v l n (by omega) ho hb hl)
  clear ho hb hl
  go_enter Try.func33, Try.ntmps33
  go_wp2_with fail
  refine HP.out.mono ?_
  rintro e w' ⟨v', rfl, O, K⟩
  have HO := hidT O
  have HK := hidT K
  clear O K
  go_wp2_with fail
  go_ret
  exact ⟨v', rfl, HO.out, HK.out⟩
end Go.Proofs.Ytneefpblfiedbaa

namespace Go.Proofs.Ytneefpblfiedbaa
open Go.RowKit
set_option linter.unusedVariables false
set_option linter.unusedSimpArgs false
theorem okE_bd {e : Tp.Ev} (h : Tp.okE e = true) : 1 ≤ e.kind ∧ e.kind ≤ 5 := by
  simp only [Tp.okE, Tp.bet, Bool.and_eq_true, decide_eq_true_eq] at h
  exact h.1
theorem okT_bd {t : Tp.Tk} (h : Tp.okT t = true) : (1 ≤ t.kind ∧ t.kind ≤ 3) ∧ (0 ≤ t.proc ∧ t.proc ≤ 2147483647) ∧ (0 ≤ t.mark ∧ t.mark ≤ 2147483647) ∧ (1 ≤ t.depth ∧ t.depth ≤ 2147483647) := by
  simp only [Tp.okT, Tp.bet, Bool.and_eq_true, decide_eq_true_eq] at h
  exact h
set_option maxHeartbeats 2000000 in
theorem putEv_any (w : World) (base : Nat) (v : Value) (l : List Int) (ev : List Tp.Ev) (a : Option Addr) (c : Nat) (ho : OwB w base v l) (hb : base ≤ w.heap.size) (hm : EvS base w a ev) (hok : ∀ e ∈ ev, Tp.okE e = true ∧ I64 e.n) (hl : l.length + ev.length * 11 ≤ 100000000) :
    Calls Try.prog 44 #[v, .slice a ev.length c] w (PvQ w v base (l ++ Tp.evs ev)) := by
  obtain ⟨i0, hi, hz0, hz1, hz2⟩ := infoB'
  have HM := hidT hm
  have HO := hidT ho
  have HB := hidT hb
  have HK := hidT hok
  have HL := hidT hl
  obtain ⟨n, hn⟩ : ∃ n, n = ev.length := ⟨_, rfl⟩
  have HN := hidT hn
  have hnb : n ≤ 100000000 := by omega
  rw [← hn]
  clear hm ho hb hok hl hn
  go_enter Try.func44, Try.ntmps44
  go_wp2_with fail
  go_loopg [0, 9] n (fun gk x i wr => ∃ j : Nat, j + gk = n ∧ i = .int .i64 j ∧ Hid (OwB wr base x (l ++ Tp.evs (ev.take j))) ∧ Hid (Gw w v x wr))
  case atStart => exact ⟨0, by omega, rfl, by simpa [Tp.evs] using HO, Gw.refl _ _⟩
  case round =>
    obtain ⟨j, hj, rfl, HOJ, KW⟩ := hrel
    have HBR : Hid (base ≤ wr.heap.size) := Nat.le_trans HB.out KW.out.1.size
    obtain ⟨L, hLe⟩ : ∃ L, L = l ++ Tp.evs (ev.take j) := ⟨_, rfl⟩
    have HLe := hidT hLe
    have HLL : Hid (L.length ≤ l.length + j * 11) := by
      unfold Hid
      rw [hLe, List.length_append]
      have := Tp.evs_len (ev.take j)
      have h2 : (ev.take j).length ≤ j := by rw [List.length_take]; omega
      omega
    rw [← hLe] at HOJ
    clear hLe
    rcases gk with _ | gk
    · obtain rfl : j = n := by omega
      have dk : decide ((j : Int) < (j : Int)) = false := decide_eq_false (by omega)
      go_wp2_with fail
      go_ret
      refine ⟨_, rfl, ?_, KW.out⟩
      have h := HOJ.out
      rw [HLe.out, List.take_of_length_le (by rw [← HN.out]; exact Nat.le_refl _)] at h
      exact h
    · have dk : decide ((j : Int) < (n : Int)) = true := decide_eq_true (by omega)
      have dkn : decide (j < n) = true := decide_eq_true (by omega)
      obtain ⟨x, hx⟩ : ∃ x, ev[j]? = some x := ⟨_, List.getElem?_eq_getElem (by rw [← HN.out]; omega)⟩
      obtain ⟨g, o, rfl, hg, hc⟩ := (HM.out.later (KW.out.below HO.out HB.out) (Nat.le_refl _)) (by rw [← HN.out]; omega)
      obtain ⟨c0, c1⟩ := hc j x hx
      obtain ⟨hok, hn64⟩ := HK.out x (List.mem_of_getElem? hx)
      obtain ⟨hk1, hk5⟩ := okE_bd hok
      have HT : Hid (l ++ Tp.evs (ev.take (j + 1)) = L ++ Tp.evB x) := by
        unfold Hid
        rw [List.take_add_one, hx, HLe.out, Tp.evs_app, List.append_assoc]
        simp [Tp.evs]
      have HN64 := hidT hn64
      obtain ⟨va, vc, hv⟩ := ownShT HOJ.out
      subst hv
      have H63 : Hid (L.length + 1 ≤ maxLen ∧ (L.length + 1) * 1 ≤ 140737488355328) := by have := HLL.out; have := HL.out; have := HN.out; unfold Hid maxLen; omega
      obtain ⟨W0, hW0⟩ : ∃ W, W = wr.alloc (.cells #[.int .i64 x.kind, .int .i64 x.n] 69) := ⟨_, rfl⟩
      have K0 : Hid (Below wr.heap.size wr W0) := by rw [hW0]; exact (Below.refl _ _).alloc (Nat.le_refl _) _
      have b0 : W0.cell? ⟨wr.heap.size, 0, none⟩ = some (.int .i64 x.kind) := by rw [hW0]; simp
      have b1 : W0.cell? ⟨wr.heap.size, 1, none⟩ = some (.int .i64 x.n) := by rw [hW0]; simp
      have hlt0 : wr.heap.size < W0.heap.size := by rw [hW0]; simp
      obtain ⟨M, hM⟩ : ∃ M, M = wr.heap.size := ⟨_, rfl⟩
      have HMw := hidT hM
      rw [← hM] at b0 b1 hlt0
      have O0 := hidT (ownLtT HOJ.out K0.out)
      have hbW : Hid (base ≤ W0.heap.size) := Nat.le_trans HBR.out K0.out.size
      have hbM : Hid (base ≤ M) := by rw [hM]; exact HBR
      clear hc hx hok hn64
      go_upto_region 4 with fail
      rw [← hW0, ← hM]
      clear hW0 hM
      go_wp2_with (at_builtin; refine wpList_append_tol rfl _ _ 27 rfl base 5 i0 (.int .u8 0) 1 1 Try.underlying27 hi hz0 hz1 hz2 rfl (by decide) _ _ _ rfl (ownLtT O0.out ((Below.refl _ _).alloc (Nat.le_refl _) _)) ⟨W0.heap.size, 0, none⟩ 1 1 [_] rfl rfl (one1 _ _ _) (by intro x hx; simp at hx; subst hx; rfl) H63.out.1 H63.out.2 (by simp; exact Nat.le_trans hbW.out (Nat.le_succ _)) (by decide) ?_)
      intro v8 w8 h8 g8 o8
      have HX : Hid (OwB w8 base v8 (L ++ [16 + x.kind])) := OwB.of (m := [16 + x.kind]) h8 rfl
      have G0 := Gw.step (u := .slice va L.length vc) g8 o8
      have K8 : Hid (Gw w v v8 w8) := (KW.out.later K0.out).trans G0
      have hnM : some M ≠ (Value.slice va L.length vc).ownBlock := fun e => by
        have h1 := (World.ownsRow.lt HOJ.out _ e.symm).2
        rw [← HMw.out] at h1
        exact Nat.lt_irrefl _ h1
      have hbl := (G0.keep hlt0 hnM).1
      have d0 : w8.cell? ⟨M, 0, none⟩ = some (.int .i64 x.kind) := (World.cell?_of_block hbl).trans b0
      have d1 : w8.cell? ⟨M, 1, none⟩ = some (.int .i64 x.n) := (World.cell?_of_block hbl).trans b1
      have EN := hidT (numbered_any x.kind)
      have HW8 : Hid (base ≤ w8.heap.size) := Nat.le_trans HB.out K8.out.1.size
      have EP := hidT (putNm2 w8 base v8 _ x.n HN64.out.1 HN64.out.2 HX.out HW8.out (by have := HLL.out; have := HL.out; have := HN.out; simp; omega))
      clear h8 g8 o8 b0 b1 hbl hnM G0
      cases hh : Tp.hasN x.kind with
      | false =>
        rw [hh] at EN
        have HTe : Hid (Tp.evB x = [16 + x.kind]) := by unfold Hid Tp.evB; rw [hh]; rfl
        clear hh
        go_wp2_with fail
        refine (EN.out _).mono ?_
        rintro e w9 ⟨rfl, rfl⟩
        go_wp2_with fail
        go_roundg gk
        case measure => omega
        case rel =>
          refine ⟨j + 1, by omega, by go_num, ?_, K8⟩
          rw [HT.out, HTe.out]
          exact HX
      | true =>
        rw [hh] at EN
        have HTe : Hid (Tp.evB x = [16 + x.kind] ++ Tp.dg (Tp.zg x.n)) := by unfold Hid Tp.evB; rw [hh]; rfl
        clear hh
        go_wp2_with fail
        refine (EN.out _).mono ?_
        rintro e w9 ⟨rfl, rfl⟩
        go_wp2_with fail
        refine EP.out.mono ?_
        rintro e w10 ⟨v10, rfl, o10, k10⟩
        have O10 := hidT o10
        have K10 := hidT (K8.out.trans k10)
        clear o10 k10
        go_wp2_with fail
        go_roundg gk
        case measure => omega
        case rel =>
          refine ⟨j + 1, by omega, by go_num, ?_, K10⟩
          rw [HT.out, HTe.out, ← List.append_assoc]
          exact O10
theorem putEv_nil (w : World) (base : Nat) (v : Value) (l : List Int) (a : Option Addr) (c : Nat) (ho : OwB w base v l) (hb : base ≤ w.heap.size) (hl : l.length ≤ 100000000) :
    Calls Try.prog 44 #[v, .slice a 0 c] w (PvQ w v base l) := by
  have h := putEv_any w base v l [] a c ho hb (fun h => absurd h (by decide)) (fun e he => by cases he) (by simpa using hl)
  simpa [Tp.evs] using h
set_option maxHeartbeats 2000000 in
theorem putTk_any (w : World) (base : Nat) (v : Value) (l : List Int) (t : Tp.Tk) (ho : OwB w base v l) (hb : base ≤ w.heap.size) (hok : Tp.okT t = true) (hl : l.length ≤ 90000000) :
    Calls Try.prog 45 #[v, tkV t] w (PvQ w v base (l ++ Tp.tkB t)) := by
  obtain ⟨i0, hi, hz0, hz1, hz2⟩ := infoB'
  obtain ⟨⟨k1, k3⟩, ⟨p1, p3⟩, ⟨q1, q3⟩, ⟨r1, r3⟩⟩ := okT_bd hok
  obtain ⟨k, p, m, d⟩ := t
  dsimp only at k1 k3 p1 p3 q1 q3 r1 r3
  obtain ⟨P, rfl⟩ : ∃ P : Nat, p = P := ⟨p.toNat, by omega⟩
  obtain ⟨Mk, rfl⟩ : ∃ M : Nat, m = M := ⟨m.toNat, by omega⟩
  obtain ⟨D, rfl⟩ : ∃ D : Nat, d = D := ⟨d.toNat, by omega⟩
  have HT : Hid (l ++ Tp.tkB ⟨k, P, Mk, D⟩ = l ++ [k] ++ Tp.dg P ++ Tp.dg Mk ++ Tp.dg D) := by unfold Hid Tp.tkB; simp
  rw [HT.out]
  show Calls _ _ #[v, .agg #[.int .i64 k, .int .i64 (P : Int), .int .i64 (Mk : Int), .int .i64 (D : Int)]] w _
  have HL := hidT hl
  have HB := hidT hb
  obtain ⟨va, vc, hv⟩ := ownShT ho
  subst hv
  have HO := hidT ho
  have H63 : Hid (l.length + 1 ≤ maxLen ∧ (l.length + 1) * 1 ≤ 140737488355328) := by unfold Hid maxLen; omega
  obtain ⟨W0, hW0⟩ : ∃ W, W = w.alloc (.cells #[.int .i64 k, .int .i64 (P : Int), .int .i64 (Mk : Int), .int .i64 (D : Int)] 62) := ⟨_, rfl⟩
  have K0 : Hid (Below w.heap.size w W0) := by rw [hW0]; exact (Below.refl _ _).alloc (Nat.le_refl _) _
  have b0 : W0.cell? ⟨w.heap.size, 0, none⟩ = some (.int .i64 k) := by rw [hW0]; simp
  have hb0 : W0.heap[w.heap.size]? = some (.cells #[.int .i64 k, .int .i64 (P : Int), .int .i64 (Mk : Int), .int .i64 (D : Int)] 62 (0, 0)) := by rw [hW0]; exact heap_alloc_new w _
  have hlt0 : w.heap.size < W0.heap.size := by rw [hW0]; simp
  obtain ⟨M, hM⟩ : ∃ M, M = w.heap.size := ⟨_, rfl⟩
  have HMw := hidT hM
  have HC : Hid (∀ W : World, W.heap[M]? = W0.heap[M]? → W.cell? ⟨M, 1, none⟩ = some (.int .i64 (P : Int)) ∧ W.cell? ⟨M, 2, none⟩ = some (.int .i64 (Mk : Int)) ∧ W.cell? ⟨M, 3, none⟩ = some (.int .i64 (D : Int))) := fun W hW => by
    rw [← hM] at hb0
    rw [hb0] at hW
    refine ⟨?_, ?_, ?_⟩ <;> simp [World.cell?, hW]
  rw [← hM] at b0 hlt0
  have O0 := hidT (ownLtT HO.out K0.out)
  have hbW : Hid (base ≤ W0.heap.size) := Nat.le_trans hb K0.out.size
  have hbM : Hid (base ≤ M) := by rw [hM]; exact HB
  clear ho hb hl hok hb0
  go_enter Try.func45, Try.ntmps45
  go_upto_region 1 with fail
  rw [← hW0, ← hM]
  clear hW0 hM
  go_wp2_with (at_builtin; refine wpList_append_tol rfl _ _ 27 rfl base 5 i0 (.int .u8 0) 1 1 Try.underlying27 hi hz0 hz1 hz2 rfl (by decide) _ _ _ rfl (ownLtT O0.out ((Below.refl _ _).alloc (Nat.le_refl _) _)) ⟨W0.heap.size, 0, none⟩ 1 1 [_] rfl rfl (one1 _ _ _) (by intro x hx; simp at hx; subst hx; rfl) H63.out.1 H63.out.2 (by simp; exact Nat.le_trans hbW.out (Nat.le_succ _)) (by decide) ?_)
  intro v8 w8 h8 g8 o8
  have HX : Hid (OwB w8 base v8 (l ++ [k])) := OwB.of (m := [k]) h8 rfl
  have G0 := Gw.step (u := .slice va l.length vc) g8 o8
  have K8 : Hid (Gw w (.slice va l.length vc) v8 w8) := ((Gw.refl w _).later K0.out).trans G0
  have hnM : some M ≠ (Value.slice va l.length vc).ownBlock := fun e => by
    have h1 := (World.ownsRow.lt HO.out _ e.symm).2
    rw [← HMw.out] at h1
    exact Nat.lt_irrefl _ h1
  obtain ⟨hb8, hnM8, hM8⟩ := G0.keep hlt0 hnM
  obtain ⟨d1, d2, d3⟩ := HC.out w8 hb8
  have HB8 := hidT hb8
  have HW8 : Hid (base ≤ w8.heap.size) := Nat.le_trans HB.out K8.out.1.size
  have EP := hidT (putCt2 w8 base v8 _ P (by omega) HX.out HW8.out (by have := HL.out; simp; omega))
  have HNM8 := hidT hnM8
  have HM8 := hidT hM8
  clear h8 g8 o8 b0 hb8 hnM G0 hnM8 hM8
  go_wp2_with fail
  refine EP.out.mono ?_
  rintro e w9 ⟨v9, rfl, o9, k9⟩
  have O9 := hidT o9
  have K9 := hidT (K8.out.trans k9)
  obtain ⟨hb9, hn9, hM9⟩ := k9.keep HM8.out HNM8.out
  have HB9 := hidT (hb9.trans HB8.out)
  have HNM9 := hidT hn9
  have HM9 := hidT hM9
  have HW9 : Hid (base ≤ w9.heap.size) := Nat.le_trans HB.out K9.out.1.size
  clear d1 d2 d3
  obtain ⟨d1, d2, d3⟩ := HC.out w9 HB9.out
  have EP9 := hidT (putCt2 w9 base v9 _ Mk (by omega) O9.out HW9.out (by have := HL.out; have := Tp.dg_len P; have := Tp.dg_len Mk; simp; omega))
  clear o9 k9 hb9 hn9 hM9
  go_wp2_with fail
  refine EP9.out.mono ?_
  rintro e w10 ⟨v10, rfl, o10, k10⟩
  have O10 := hidT o10
  have K10 := hidT (K9.out.trans k10)
  obtain ⟨hb10, hn10, hM10⟩ := k10.keep HM9.out HNM9.out
  have HB10 := hidT (hb10.trans HB9.out)
  have HNM10 := hidT hn10
  have HM10 := hidT hM10
  have HW10 : Hid (base ≤ w10.heap.size) := Nat.le_trans HB.out K10.out.1.size
  clear d1 d2 d3
  obtain ⟨d1, d2, d3⟩ := HC.out w10 HB10.out
  have EP10 := hidT (putCt2 w10 base v10 _ D (by omega) O10.out HW10.out (by have := HL.out; have := Tp.dg_len P; have := Tp.dg_len Mk; simp; omega))
  clear o10 k10 hb10 hn10 hM10
  go_wp2_with fail
  refine EP10.out.mono ?_
  rintro e w11 ⟨v11, rfl, o11, k11⟩
  have O11 := hidT o11
  have K11 := hidT (K10.out.trans k11)
  clear o11 k11
  go_wp2_with fail
  go_ret
  exact ⟨v11, rfl, O11.out, K11.out⟩
end Go.Proofs.Ytneefpblfiedbaa

namespace Go.Proofs.Ytneefpblfiedbaa
open Go.RowKit
set_option linter.unusedVariables false
set_option linter.unusedSimpArgs false
theorem okC_at : ∀ (m told : Int) (cs : List Int) (j : Nat) (x : Int), Tp.okC m told cs = true → cs[j]? = some x → told ≤ x ∧ x ≤ m ∧ Tp.okC m x (cs.drop (j + 1)) = true
  | m, told, [], j, x, _, hx => by simp at hx
  | m, told, c :: cs, 0, x, h, hx => by
    simp at hx
    subst hx
    rw [Tp.okC] at h
    split at h
    · cases h
    · exact ⟨by omega, by omega, by simpa using h⟩
  | m, told, c :: cs, j + 1, x, h, hx => by
    rw [Tp.okC] at h
    split at h
    · cases h
    · have := okC_at m c cs j x h (by simpa using hx)
      exact ⟨by omega, this.2.1, by simpa using this.2.2⟩
/-- How long a trace's tape is. -/
theorem Tp.recs_len2 (ev : List Tp.Ev) : ∀ (ts : List Tp.Tk) (cs : List Int) (told : Nat), Tp.okC ev.length told cs = true → (Tp.recs ev ts cs told).length ≤ ts.length * 31 + (ev.length - told) * 11
  | [], cs, told, h => by
    have h1 := Tp.evs_len (ev.drop told)
    rw [List.length_drop] at h1
    cases cs <;> (simp only [Tp.recs]; omega)
  | t :: ts, [], told, h => by
    have h1 := Tp.evs_len (ev.drop told)
    rw [List.length_drop] at h1
    simp only [Tp.recs]; omega
  | t :: ts, c :: cs, told, h => by
    rw [Tp.okC] at h
    split at h
    · cases h
    · rename_i hc
      have hcc : ((c.toNat : Nat) : Int) = c := by omega
      rw [← hcc] at h
      have ih := Tp.recs_len2 ev ts cs c.toNat h
      have h1 := Tp.evs_len ((ev.drop told).take (c.toNat - told))
      have h2 : ((ev.drop told).take (c.toNat - told)).length ≤ c.toNat - told := by rw [List.length_take]; omega
      have h3 := Tp.tkB_len t
      simp only [Tp.recs, List.length_append, List.length_cons]
      omega
structure RgT (t : Tp.Tr) : Prop where
  c : t.counts.length = t.ticks.length
  k : Tp.okC t.events.length 0 t.counts = true
  tt : ∀ x ∈ t.ticks, Tp.okT x = true
  e : ∀ x ∈ t.events, Tp.okE x = true
theorem right_rg {t : Tp.Tr} (h : Tp.rightT t = true) : RgT t := by
  simp only [Tp.rightT, Bool.and_eq_true, decide_eq_true_eq, List.all_eq_true] at h
  exact ⟨h.1, h.2.1, h.2.2.1, h.2.2.2⟩
theorem EvS.sub {B : Nat} {w : World} {g o : Nat} {l : List Tp.Ev} (h : EvS B w (some ⟨g, o, none⟩) l) (i n : Nat) (hn : i < l.length) : EvS B w (some ⟨g, o + i * 2, none⟩) ((l.drop i).take n) := fun h0 => by
  obtain ⟨g', o', e, hg, hc⟩ := h (by omega)
  cases e
  refine ⟨g, o + i * 2, rfl, hg, fun j x hx => ?_⟩
  rw [List.getElem?_take] at hx
  split at hx
  · rw [List.getElem?_drop] at hx
    have := hc _ x hx
    rw [show o + i * 2 + j * 2 = o + (i + j) * 2 by omega]
    exact this
  · cases hx
/-- While records are put: the row x of bytes L, the trace's box M. -/
structure PrR (w : World) (v : Value) (base M : Nat) (tv : List Value) (x : Value) (L : List Int) (wr : World) : Prop where
  o : OwB wr base x L
  g : Gw w v x wr
  h : wr.heap[M]? = some (.cells tv.toArray 26 (0, 0))
  n : some M ≠ x.ownBlock
theorem PrR.lt {w : World} {v : Value} {base M : Nat} {tv : List Value} {x : Value} {L : List Int} {wr : World} (h : PrR w v base M tv x L wr) : M < wr.heap.size := (Array.getElem?_eq_some_iff.1 h.h).1
theorem PrR.later {w : World} {v : Value} {base M : Nat} {tv : List Value} {x : Value} {L : List Int} {wr wq : World} (h : PrR w v base M tv x L wr) (b : Below wr.heap.size wr wq) : PrR w v base M tv x L wq :=
  ⟨ownLtT h.o b, h.g.later b, (b.block M h.lt).trans h.h, h.n⟩
theorem PrR.go {w : World} {v : Value} {base M : Nat} {tv : List Value} {x x' : Value} {L L' : List Int} {wr wq : World} (h : PrR w v base M tv x L wr) (o : OwB wq base x' L') (k : Gw wr x x' wq) : PrR w v base M tv x' L' wq := by
  obtain ⟨k1, k2, k3⟩ := k.keep h.lt h.n
  exact ⟨o, h.g.trans k, k1.trans h.h, k2⟩
set_option maxRecDepth 100000 in
set_option maxHeartbeats 4000000 in
theorem putRecs_any (w : World) (base : Nat) (v : Value) (l : List Int) (t : Tp.Tr) (ta ca ea : Option Addr) (tc cc ec : Nat) (ho : OwB w base v l) (hb : base ≤ w.heap.size) (h : TrS base w ta ca ea tc cc ec t) (hr : RgT t) (m1 : t.ticks.length ≤ 3000) (m3 : t.events.length ≤ 3000) (hl : l.length ≤ 1000) :
    Calls Try.prog 25 #[v, trV ta ca ea tc cc ec t] w (PvQ w v base (l ++ Tp.recs t.events t.ticks t.counts 0)) := by
  unfold trV
  have HT := hidT h
  have HR := hidT hr
  have HO := hidT ho
  have HB := hidT hb
  have hce := h.ce
  have HLt : Hid ((l ++ Tp.recs t.events t.ticks t.counts 0).length ≤ 4000000) := by
    have := Tp.recs_len2 t.events t.ticks t.counts 0 hr.k
    unfold Hid
    rw [List.length_append]
    omega
  have hct := hr.c
  obtain ⟨n1, h1⟩ : ∃ n, n = t.ticks.length := ⟨_, rfl⟩
  obtain ⟨n3, h3⟩ : ∃ n, n = t.events.length := ⟨_, rfl⟩
  have H1 := hidT h1
  have H3 := hidT h3
  rw [hct]
  have HC2 : Hid (t.counts.length = n1) := hct.trans h1.symm
  rw [← h1] at m1 ⊢
  rw [← h3] at m3 hce ⊢
  obtain ⟨W0, hW0⟩ : ∃ W, W = w.alloc (.cells #[.slice ta n1 tc, .slice ca n1 cc, .slice ea n3 ec] 26) := ⟨_, rfl⟩
  have K0 : Below w.heap.size w W0 := by rw [hW0]; exact (Below.refl _ _).alloc (Nat.le_refl _) _
  have hb0 : W0.heap[w.heap.size]? = some (.cells [.slice ta n1 tc, .slice ca n1 cc, .slice ea n3 ec].toArray 26 (0, 0)) := by rw [hW0]; exact heap_alloc_new w _
  obtain ⟨M, hM⟩ : ∃ M, M = w.heap.size := ⟨_, rfl⟩
  have P0 : Hid (PrR w v base M [.slice ta n1 tc, .slice ca n1 cc, .slice ea n3 ec] v l W0) := ⟨ownLtT ho K0, (Gw.refl w v).later K0, by rw [hM]; exact hb0, fun e => by
    have := (World.ownsRow.lt ho _ e.symm).2
    omega⟩
  have HCel : Hid (∀ W x L, PrR w v base M [.slice ta n1 tc, .slice ca n1 cc, .slice ea n3 ec] x L W → W.cell? ⟨M, 0, none⟩ = some (.slice ta n1 tc) ∧ W.cell? ⟨M, 1, none⟩ = some (.slice ca n1 cc) ∧ W.cell? ⟨M, 2, none⟩ = some (.slice ea n3 ec)) := fun W x L q => by
    have hw := q.h
    refine ⟨?_, ?_, ?_⟩ <;> simp [World.cell?, hw]
  obtain ⟨a0, a1, a2⟩ := HCel.out _ _ _ P0.out
  have HTW : Hid (∀ W x L, PrR w v base M [.slice ta n1 tc, .slice ca n1 cc, .slice ea n3 ec] x L W → TrS base W ta ca ea tc cc ec t ∧ base ≤ W.heap.size) := fun W x L q => ⟨HT.out.later (q.g.below HO.out HB.out) (Nat.le_refl _), Nat.le_trans HB.out q.g.1.size⟩
  have HMM := hidT hM
  clear h hr ho hb hct h1 h3 K0 hb0
  go_enter Try.func25, Try.ntmps25
  go_upto_region 1 with fail
  rw [← hW0, ← hM]
  clear hW0 hM
  go_wp2_with fail
  go_loopg [0, 5, 11] n1 (fun gk x td i wr => ∃ (j told : Nat) (L : List Int), j + gk = n1 ∧ i = .int .i64 j ∧ td = .int .i64 told ∧ told ≤ n3 ∧ Hid (PrR w v base M [.slice ta n1 tc, .slice ca n1 cc, .slice ea n3 ec] x L wr) ∧ Hid (l ++ Tp.recs t.events t.ticks t.counts 0 = L ++ Tp.recs t.events (t.ticks.drop j) (t.counts.drop j) told) ∧ Hid (Tp.okC n3 told (t.counts.drop j) = true))
  case atStart => exact ⟨0, 0, l, by omega, rfl, rfl, by omega, P0, hidT rfl, hidT (by rw [H3.out]; exact HR.out.k)⟩
  case round =>
    obtain ⟨j, told, L, hj, rfl, rfl, htd, PR, HE, HC⟩ := hrel
    obtain ⟨c0, c1, c2⟩ := HCel.out _ _ _ PR.out
    obtain ⟨hts, hbw⟩ := HTW.out _ _ _ PR.out
    have HTS := hidT hts
    have HBW := hidT hbw
    have HLL : Hid (L.length ≤ 4000000) := by
      have := HLt.out
      rw [HE.out, List.length_append] at this
      unfold Hid
      omega
    obtain ⟨xa, xc, hv⟩ := ownShT PR.out.o
    subst hv
    clear hts hbw a0 a1 a2
    rcases gk with _ | gk
    · obtain rfl : j = n1 := by omega
      have dk : decide ((j : Int) < (j : Int)) = false := decide_eq_false (by omega)
      have HE2 : Hid (l ++ Tp.recs t.events t.ticks t.counts 0 = L ++ Tp.evs (t.events.drop told)) := by
        unfold Hid
        rw [HE.out, List.drop_eq_nil_of_le (by rw [← H1.out]; exact Nat.le_refl _)]
        cases t.counts.drop j <;> rfl
      rcases Nat.lt_or_ge told n3 with hlt | hge
      · obtain ⟨g, o, he, hg, hcc⟩ := HT.out.ev (by rw [← H3.out]; omega)
        subst he
        have hz1 : ¬ ec = told := by omega
        have hz2 : (ec - told == 0) = false := by simp; omega
        have hti : (told : Int) ≤ (n3 : Int) := by omega
        have hle : (t.events.drop told).length = n3 - told := by rw [List.length_drop, ← H3.out]
        have EV := putEv_any wr base (.slice xa L.length xc) L (t.events.drop told) (some ⟨g, o + told * 2, none⟩) (ec - told) PR.out.o HBW.out (by
          have := (HTS.out.ev).sub (i := told) (n := n3) (by rw [← H3.out]; exact hlt)
          rwa [List.take_of_length_le (by rw [hle]; omega)] at this) (fun e he => ⟨HR.out.e e (List.mem_of_mem_drop he), (HT.out.re e (List.mem_of_mem_drop he)).2⟩) (by have := HLL.out; rw [hle]; omega)
        rw [hle] at EV
        have HEV := hidT EV
        clear EV hle hcc
        go_wp2_with fail
        refine HEV.out.mono ?_
        rintro e w3 ⟨v3, rfl, o3, k3⟩
        have O3 := hidT o3
        have K3 := hidT (PR.out.g.trans k3)
        clear o3 k3
        go_wp2_with fail
        go_ret
        refine ⟨v3, rfl, ?_, K3.out⟩
        rw [HE2.out]
        exact O3.out
      · obtain rfl : told = n3 := by omega
        have HE3 : Hid (l ++ Tp.recs t.events t.ticks t.counts 0 = L) := by
          unfold Hid
          rw [HE2.out, List.drop_eq_nil_of_le (by rw [← H3.out]; exact Nat.le_refl _)]
          simp [Tp.evs]
        have EV := hidT (fun a' c' => putEv_nil wr base (.slice xa L.length xc) L a' c' PR.out.o HBW.out (by have := HLL.out; omega))
        have hs0 : told - told = 0 := Nat.sub_self _
        by_cases hec : ec = told
        · subst hec
          go_wp2_with fail
          refine (EV.out _ _).mono ?_
          rintro e w3 ⟨v3, rfl, o3, k3⟩
          have O3 := hidT o3
          have K3 := hidT (PR.out.g.trans k3)
          clear o3 k3
          go_wp2_with fail
          go_ret
          refine ⟨v3, rfl, ?_, K3.out⟩
          rw [HE3.out]
          exact O3.out
        · have hz2 : (ec - told == 0) = false := by simp; omega
          go_wp2_with fail
          refine (EV.out _ _).mono ?_
          rintro e w3 ⟨v3, rfl, o3, k3⟩
          have O3 := hidT o3
          have K3 := hidT (PR.out.g.trans k3)
          clear o3 k3
          go_wp2_with fail
          go_ret
          refine ⟨v3, rfl, ?_, K3.out⟩
          rw [HE3.out]
          exact O3.out
    · have dk : decide ((j : Int) < (n1 : Int)) = true := decide_eq_true (by omega)
      have dkn : decide (j < n1) = true := decide_eq_true (by omega)
      have hji : (j : Int) < (n1 : Int) := by omega
      have hji0 : (0 : Int) ≤ (j : Int) := by omega
      have hjn : j < n1 := by omega
      obtain ⟨tk, htk⟩ : ∃ x, t.ticks[j]? = some x := ⟨_, List.getElem?_eq_getElem (by rw [← H1.out]; omega)⟩
      obtain ⟨cx, hcx⟩ : ∃ x, t.counts[j]? = some x := ⟨_, List.getElem?_eq_getElem (by rw [HC2.out]; omega)⟩
      have hd1 : t.ticks.drop j = tk :: t.ticks.drop (j + 1) := by
        obtain ⟨h1, h2⟩ := List.getElem?_eq_some_iff.1 htk
        rw [← h2, List.drop_eq_getElem_cons h1]
      have hd2 : t.counts.drop j = cx :: t.counts.drop (j + 1) := by
        obtain ⟨h1, h2⟩ := List.getElem?_eq_some_iff.1 hcx
        rw [← h2, List.drop_eq_getElem_cons h1]
      have hcb := HC.out
      rw [hd2, Tp.okC] at hcb
      have hnc : ¬ (cx < (told : Int) ∨ (n3 : Int) < cx) := fun h => by rw [if_pos h] at hcb; cases hcb
      rw [if_neg hnc] at hcb
      obtain ⟨C, rfl⟩ : ∃ C : Nat, cx = C := ⟨cx.toNat, by omega⟩
      have hC1 : told ≤ C := by omega
      have hC3 : C ≤ n3 := by omega
      have HCB := hidT hcb
      have HE2 : Hid (l ++ Tp.recs t.events t.ticks t.counts 0 = L ++ Tp.evs ((t.events.drop told).take (C - told)) ++ Tp.tkB tk ++ Tp.recs t.events (t.ticks.drop (j + 1)) (t.counts.drop (j + 1)) C) := by
        unfold Hid
        rw [HE.out, hd1, hd2]
        simp [Tp.recs]
      obtain ⟨gt, ot, het, hgt, hct⟩ := HTS.out.tk (by rw [← H1.out]; omega)
      obtain ⟨gc, oc, hec', hgc, hcc⟩ := HTS.out.ct (by rw [HC2.out]; omega)
      subst het hec'
      obtain ⟨k0, k1, k2, k3⟩ := hct j tk htk
      have kc := hcc j _ hcx
      have hokt := HR.out.tt tk (List.mem_of_getElem? htk)
      obtain ⟨W1, hW1⟩ : ∃ W, W = wr.alloc (.cells #[.int .i64 tk.kind, .int .i64 tk.proc, .int .i64 tk.mark, .int .i64 tk.depth] 62) := ⟨_, rfl⟩
      have KW1 : Below wr.heap.size wr W1 := by rw [hW1]; exact (Below.refl _ _).alloc (Nat.le_refl _) _
      have PR1 := hidT (PR.out.later KW1)
      obtain ⟨M7, hM7⟩ : ∃ M, M = wr.heap.size := ⟨_, rfl⟩
      have hb7 : W1.heap[M7]? = some (.cells #[.int .i64 tk.kind, .int .i64 tk.proc, .int .i64 tk.mark, .int .i64 tk.depth] 62 (0, 0)) := by rw [hW1, hM7]; exact heap_alloc_new wr _
      have hl7 : M7 < W1.heap.size := (Array.getElem?_eq_some_iff.1 hb7).1
      have hn7 : some M7 ≠ (Value.slice xa L.length xc).ownBlock := fun e => by have := (World.ownsRow.lt PR.out.o _ e.symm).2; omega
      have HK7 := hidT (And.intro hb7 (And.intro hl7 hn7))
      obtain ⟨d0, d1, d2⟩ := HCel.out _ _ _ PR1.out
      have hgcw : gc < wr.heap.size := Nat.lt_of_lt_of_le hgc HBW.out
      have dc : W1.cell? ⟨gc, oc + j, none⟩ = some (.int .i64 (C : Int)) := (KW1.cell (p := ⟨gc, oc + j, none⟩) hgcw).trans kc
      have hMl := PR1.out.lt
      have hgc1 : gc < W1.heap.size := Nat.lt_of_lt_of_le hgcw KW1.size
      have hbW1 : Hid (base ≤ W1.heap.size) := Nat.le_trans HBW.out KW1.size
      have hCi : (told : Int) ≤ (C : Int) := by omega
      have hCe : (C : Int) ≤ (ec : Int) := by omega
      have hsubE : Hid (((t.events.drop told).take (C - told)).length = C - told) := by
        unfold Hid
        rw [List.length_take, List.length_drop, ← H3.out]
        omega
      -- what putEvents leaves, wherever the slice lies
      have EV : Hid (∀ (W : World) (a' : Option Addr) (c' : Nat), Below W1.heap.size W1 W → (told < C → ∃ g o, ea = some ⟨g, o, none⟩ ∧ a' = some ⟨g, o + told * 2, none⟩) → Calls Try.prog 44 #[.slice xa L.length xc, .slice a' (C - told) c'] W (PvQ W (.slice xa L.length xc) base (L ++ Tp.evs ((t.events.drop told).take (C - told))))) := fun W a' c' q hq => by
        have PW := PR1.out.later q
        obtain ⟨hts, hbw⟩ := HTW.out _ _ _ PW
        rcases Nat.lt_or_ge told C with hlt | hge
        · obtain ⟨g, o, he, rfl⟩ := hq hlt
          subst he
          have := putEv_any W base (.slice xa L.length xc) L ((t.events.drop told).take (C - told)) (some ⟨g, o + told * 2, none⟩) c' PW.o hbw (hts.ev.sub (i := told) (n := C - told) (by rw [← H3.out]; omega)) (fun e he => ⟨HR.out.e e (List.mem_of_mem_drop (List.mem_of_mem_take he)), (HT.out.re e (List.mem_of_mem_drop (List.mem_of_mem_take he))).2⟩) (by have := HLL.out; rw [hsubE.out]; omega)
          rwa [hsubE.out] at this
        · have e0 : C - told = 0 := by omega
          rw [e0, List.take_zero]
          have := putEv_nil W base (.slice xa L.length xc) L a' c' PW.o hbw (by have := HLL.out; omega)
          simpa [Tp.evs] using this
      have FIN : Hid (∀ (W w3 : World) (v3 : Value) (L3 : List Int), Below W1.heap.size W1 W → OwB w3 base v3 L3 → Gw W (.slice xa L.length xc) v3 w3 → PrR w v base M [.slice (some ⟨gt, ot, none⟩) n1 tc, .slice (some ⟨gc, oc, none⟩) n1 cc, .slice ea n3 ec] v3 L3 w3 ∧ w3.heap[M7]? = some (.cells #[.int .i64 tk.kind, .int .i64 tk.proc, .int .i64 tk.mark, .int .i64 tk.depth] 62 (0, 0)) ∧ w3.cell? ⟨gc, oc + j, none⟩ = some (.int .i64 (C : Int))) := fun W w3 v3 L3 q o3 k3 => by
        have PW := PR1.out.later q
        have k7 := k3.keep (M := M7) (Nat.lt_of_lt_of_le hl7 q.size) hn7
        have kb := k3.below PW.o (Nat.le_trans hbW1.out q.size)
        exact ⟨PW.go o3 k3, k7.1.trans ((q.block M7 hl7).trans hb7), (kb.cell (p := ⟨gc, oc + j, none⟩) hgc).trans ((q.cell (p := ⟨gc, oc + j, none⟩) hgc1).trans dc)⟩
      have ETK : Hid (∀ (w3 : World) (v3 : Value) (L3 : List Int), PrR w v base M [.slice (some ⟨gt, ot, none⟩) n1 tc, .slice (some ⟨gc, oc, none⟩) n1 cc, .slice ea n3 ec] v3 L3 w3 → L3.length ≤ 90000000 → Calls Try.prog 45 #[v3, .agg #[.int .i64 tk.kind, .int .i64 tk.proc, .int .i64 tk.mark, .int .i64 tk.depth]] w3 (PvQ w3 v3 base (L3 ++ Tp.tkB tk))) := fun w3 v3 L3 q hl3 => putTk_any w3 base v3 L3 tk q.o (HTW.out _ _ _ q).2 hokt hl3
      have HL3 : Hid ((L ++ Tp.evs ((t.events.drop told).take (C - told))).length ≤ 90000000) := by
        have h1 := Tp.evs_len ((t.events.drop told).take (C - told))
        rw [hsubE.out] at h1
        have h2 := HLL.out
        unfold Hid
        rw [List.length_append]
        omega
      have KS : Hid (∀ W : World, Below W1.heap.size W1 W → W.cell? ⟨M, 1, none⟩ = some (.slice (some ⟨gc, oc, none⟩) n1 cc) ∧ W.cell? ⟨M, 2, none⟩ = some (.slice ea n3 ec) ∧ W.cell? ⟨gc, oc + j, none⟩ = some (.int .i64 (C : Int))) := fun W q => ⟨(q.cell (p := ⟨M, 1, none⟩) hMl).trans d1, (q.cell (p := ⟨M, 2, none⟩) hMl).trans d2, (q.cell (p := ⟨gc, oc + j, none⟩) hgc1).trans dc⟩
      obtain ⟨L3, hL3⟩ : ∃ L3, L3 = L ++ Tp.evs ((t.events.drop told).take (C - told)) := ⟨_, rfl⟩
      rw [← hL3] at EV HL3 HE2
      have HW1 := hidT hW1
      have HM7 := hidT hM7
      clear hct hcc htk hcx hd1 hd2 hcb hnc hb7 hn7 KW1 hL3 kc hokt
      rcases (by omega : told < C ∨ (C = told ∧ ec = told) ∨ (C = told ∧ ¬ ec = told)) with hlt | ⟨hlt, hec⟩ | ⟨hlt, hec⟩
      · obtain ⟨g, o, he, hg, hcc⟩ := HT.out.ev (by rw [← H3.out]; omega)
        subst he
        have hz1 : ¬ ec = told := by omega
        have hz2 : (ec - told == 0) = false := by simp; omega
        clear hcc
        go_upto_region 5 with fail
        rw [← hW1, ← hM7]
        clear hW1 hM7 k0 k1 k2 k3
        go_region_held3 (fun W => W.cell? ⟨M, 1, none⟩ = some (.slice (some ⟨gc, oc, none⟩) n1 cc) ∧ W.cell? ⟨M, 2, none⟩ = some (.slice (some ⟨g, o, none⟩) n3 ec) ∧ W.cell? ⟨gc, oc + j, none⟩ = some (.int .i64 (C : Int))) (first | (exact s9) | (exact KS.out _ (by go_grown))) (first
          | (go_at_call 44; refine (EV.out _ _ _ (by go_grown) (by first | (intro _; exact ⟨_, _, rfl, rfl⟩) | (intro h; exact absurd h (Nat.lt_irrefl _)))).mono ?_; rintro e w3 ⟨v3, rfl, o3, k3⟩; have F3 := FIN.out _ w3 v3 L3 (by go_grown) o3 k3; have PR3 := hidT F3.1; have hm3 := F3.2.1; have e3 := F3.2.2; have s9 := And.intro (HCel.out _ _ _ PR3.out).2.1 (And.intro (HCel.out _ _ _ PR3.out).2.2 e3); clear F3 o3 k3))
        all_goals
          have f0 : w3.cell? ⟨M7, 0, none⟩ = some (.int .i64 tk.kind) := by simp [World.cell?, hm3]
          have f1 : w3.cell? ⟨M7, 1, none⟩ = some (.int .i64 tk.proc) := by simp [World.cell?, hm3]
          have f2 : w3.cell? ⟨M7, 2, none⟩ = some (.int .i64 tk.mark) := by simp [World.cell?, hm3]
          have f3 : w3.cell? ⟨M7, 3, none⟩ = some (.int .i64 tk.depth) := by simp [World.cell?, hm3]
          obtain ⟨g0, g1, g2⟩ := HCel.out _ _ _ PR3.out
          clear hm3 s9 c0 c1 c2 d0 d1 d2 dc
          go_wp2_with fail
          refine (ETK.out w3 v3 L3 PR3.out HL3.out).mono ?_
          rintro e w4 ⟨v4, rfl, o4, k4⟩
          have PR4 := hidT (PR3.out.go o4 k4)
          clear o4 k4
          go_wp2_with fail
          go_roundg gk
          case measure => omega
          case rel => exact ⟨j + 1, C, L3 ++ Tp.tkB tk, by omega, by go_num, rfl, by omega, PR4, HE2, HCB⟩
      · subst hlt
        subst hec
        have hs0 : ec - ec = 0 := Nat.sub_self _
        rw [hs0] at EV
        go_upto_region 5 with fail
        rw [← hW1, ← hM7]
        clear hW1 hM7 k0 k1 k2 k3
        go_region_held3 (fun W => W.cell? ⟨M, 1, none⟩ = some (.slice (some ⟨gc, oc, none⟩) n1 cc) ∧ W.cell? ⟨M, 2, none⟩ = some (.slice ea n3 ec) ∧ W.cell? ⟨gc, oc + j, none⟩ = some (.int .i64 (ec : Int))) (first | (exact s9) | (exact KS.out _ (by go_grown))) (first
          | (go_at_call 44; refine (EV.out _ _ _ (by go_grown) (by first | (intro _; exact ⟨_, _, rfl, rfl⟩) | (intro h; exact absurd h (Nat.lt_irrefl _)))).mono ?_; rintro e w3 ⟨v3, rfl, o3, k3⟩; have F3 := FIN.out _ w3 v3 L3 (by go_grown) o3 k3; have PR3 := hidT F3.1; have hm3 := F3.2.1; have e3 := F3.2.2; have s9 := And.intro (HCel.out _ _ _ PR3.out).2.1 (And.intro (HCel.out _ _ _ PR3.out).2.2 e3); clear F3 o3 k3))
        all_goals
          have f0 : w3.cell? ⟨M7, 0, none⟩ = some (.int .i64 tk.kind) := by simp [World.cell?, hm3]
          have f1 : w3.cell? ⟨M7, 1, none⟩ = some (.int .i64 tk.proc) := by simp [World.cell?, hm3]
          have f2 : w3.cell? ⟨M7, 2, none⟩ = some (.int .i64 tk.mark) := by simp [World.cell?, hm3]
          have f3 : w3.cell? ⟨M7, 3, none⟩ = some (.int .i64 tk.depth) := by simp [World.cell?, hm3]
          obtain ⟨g0, g1, g2⟩ := HCel.out _ _ _ PR3.out
          clear hm3 s9 c0 c1 c2 d0 d1 d2 dc
          go_wp2_with fail
          refine (ETK.out w3 v3 L3 PR3.out HL3.out).mono ?_
          rintro e w4 ⟨v4, rfl, o4, k4⟩
          have PR4 := hidT (PR3.out.go o4 k4)
          clear o4 k4
          go_wp2_with fail
          go_roundg gk
          case measure => omega
          case rel => exact ⟨j + 1, ec, L3 ++ Tp.tkB tk, by omega, by go_num, rfl, by omega, PR4, HE2, HCB⟩
      · subst hlt
        have hz2 : (ec - C == 0) = false := by simp; omega
        have hs0 : C - C = 0 := Nat.sub_self _
        rw [hs0] at EV
        go_upto_region 5 with fail
        rw [← hW1, ← hM7]
        clear hW1 hM7 k0 k1 k2 k3
        go_region_held3 (fun W => W.cell? ⟨M, 1, none⟩ = some (.slice (some ⟨gc, oc, none⟩) n1 cc) ∧ W.cell? ⟨M, 2, none⟩ = some (.slice ea n3 ec) ∧ W.cell? ⟨gc, oc + j, none⟩ = some (.int .i64 (C : Int))) (first | (exact s9) | (exact KS.out _ (by go_grown))) (first
          | (go_at_call 44; refine (EV.out _ _ _ (by go_grown) (by first | (intro _; exact ⟨_, _, rfl, rfl⟩) | (intro h; exact absurd h (Nat.lt_irrefl _)))).mono ?_; rintro e w3 ⟨v3, rfl, o3, k3⟩; have F3 := FIN.out _ w3 v3 L3 (by go_grown) o3 k3; have PR3 := hidT F3.1; have hm3 := F3.2.1; have e3 := F3.2.2; have s9 := And.intro (HCel.out _ _ _ PR3.out).2.1 (And.intro (HCel.out _ _ _ PR3.out).2.2 e3); clear F3 o3 k3))
        all_goals
          have f0 : w3.cell? ⟨M7, 0, none⟩ = some (.int .i64 tk.kind) := by simp [World.cell?, hm3]
          have f1 : w3.cell? ⟨M7, 1, none⟩ = some (.int .i64 tk.proc) := by simp [World.cell?, hm3]
          have f2 : w3.cell? ⟨M7, 2, none⟩ = some (.int .i64 tk.mark) := by simp [World.cell?, hm3]
          have f3 : w3.cell? ⟨M7, 3, none⟩ = some (.int .i64 tk.depth) := by simp [World.cell?, hm3]
          obtain ⟨g0, g1, g2⟩ := HCel.out _ _ _ PR3.out
          clear hm3 s9 c0 c1 c2 d0 d1 d2 dc
          go_wp2_with fail
          refine (ETK.out w3 v3 L3 PR3.out HL3.out).mono ?_
          rintro e w4 ⟨v4, rfl, o4, k4⟩
          have PR4 := hidT (PR3.out.go o4 k4)
          clear o4 k4
          go_wp2_with fail
          go_roundg gk
          case measure => omega
          case rel => exact ⟨j + 1, C, L3 ++ Tp.tkB tk, by omega, by go_num, rfl, by omega, PR4, HE2, HCB⟩
end Go.Proofs.Ytneefpblfiedbaa

namespace Go.Proofs.Ytneefpblfiedbaa
open Go.RowKit
set_option linter.unusedVariables false
set_option linter.unusedSimpArgs false
theorem bodyT_len (t : Tp.Tr) (h : Tp.rightT t = true) (m1 : t.ticks.length ≤ 3000) (m3 : t.events.length ≤ 3000) : (Tp.bodyT t).length ≤ 3000000 := by
  unfold Tp.rightT at h
  simp only [Bool.and_eq_true] at h
  have := Tp.recs_len2 t.events t.ticks t.counts 0 h.2.1
  simp only [Tp.bodyT, Tp.head, List.length_append, List.length_cons, List.length_nil]
  omega
theorem bodyT_byt (t : Tp.Tr) (hr : RgT t) (h : ∀ x ∈ t.events, I64 x.n) : Tp.Byt (Tp.bodyT t) := by
  unfold Tp.bodyT
  refine Tp.Byt.app ?_ (Tp.Byt.app (Tp.recs_byt _ (fun e he => ⟨hr.e e he, h e he⟩) _ hr.tt _ _) ?_)
  · intro c hc; simp [Tp.head] at hc; omega
  · intro c hc; simp at hc; omega
theorem TrS.mono {B B' : Nat} {w : World} {ta ca ea : Option Addr} {tc cc ec : Nat} {t : Tp.Tr} (h : TrS B w ta ca ea tc cc ec t) (hb : B ≤ B') : TrS B' w ta ca ea tc cc ec t :=
  ⟨fun h0 => by obtain ⟨g, o, e, hg, hc⟩ := h.tk h0; exact ⟨g, o, e, Nat.lt_of_lt_of_le hg hb, hc⟩, h.ct.mono hb, fun h0 => by obtain ⟨g, o, e, hg, hc⟩ := h.ev h0; exact ⟨g, o, e, Nat.lt_of_lt_of_le hg hb, hc⟩, h.ce, h.l1, h.l2, h.l3, h.rt, h.rc, h.re⟩
def wtQ (t : Tp.Tr) (w : World) (e : Ending) (w' : World) : Prop := if Tp.rightT t = true then WrQ w (Tp.wt t) e w' else e = .returned (.tuple #[.slice none 0 0, .int .i64 32]) ∧ Below w.heap.size w w'
set_option maxRecDepth 100000 in
set_option maxHeartbeats 4000000 in
theorem writeTr_any (t : Tp.Tr) (ta ca ea : Option Addr) (tc cc ec : Nat) (w : World) (h : TrS w.heap.size w ta ca ea tc cc ec t) (m1 : t.ticks.length ≤ 3000) (m2 : t.counts.length ≤ 3000) (m3 : t.events.length ≤ 3000) :
    Calls Try.prog 9 #[trV ta ca ea tc cc ec t] w (wtQ t w) := by
  obtain ⟨i0, hi, hz0, hz1, hz2⟩ := infoB'
  have ER := hidT (fun (W : World) (q : Below w.heap.size w W) => right_any t ta ca ea tc cc ec W ((h.later q (Nat.le_refl _)).mono q.size) m1 m2 m3)
  have EP := hidT (fun (W : World) (base : Nat) (v : Value) (q : Below w.heap.size w W) (hb : w.heap.size ≤ base) (ho : OwB W base v (Tp.head 2)) (hbW : base ≤ W.heap.size) (hr : RgT t) => putRecs_any W base v (Tp.head 2) t ta ca ea tc cc ec ho hbW ((h.later q (Nat.le_refl _)).mono hb) hr m1 m3 (by decide))
  have HB := hidT (fun (hr : RgT t) => bodyT_byt t hr (fun x hx => (h.re x hx).2))
  have HL0 := hidT (fun hr => bodyT_len t hr m1 m3)
  unfold trV at ER EP ⊢
  obtain ⟨n1, h1⟩ : ∃ n, n = t.ticks.length := ⟨_, rfl⟩
  obtain ⟨n2, h2⟩ : ∃ n, n = t.counts.length := ⟨_, rfl⟩
  obtain ⟨n3, h3⟩ : ∃ n, n = t.events.length := ⟨_, rfl⟩
  rw [← h1] at ER EP ⊢
  rw [← h2] at ER EP ⊢
  rw [← h3] at ER EP ⊢
  obtain ⟨W0, hW0⟩ : ∃ W, W = w.alloc (.cells #[.slice ta n1 tc, .slice ca n2 cc, .slice ea n3 ec] 26) := ⟨_, rfl⟩
  have K0 : Hid (Below w.heap.size w W0) := by rw [hW0]; exact (Below.refl _ _).alloc (Nat.le_refl _) _
  have hb0 : W0.heap[w.heap.size]? = some (.cells #[.slice ta n1 tc, .slice ca n2 cc, .slice ea n3 ec] 26 (0, 0)) := by rw [hW0]; exact heap_alloc_new w _
  have hs0 : W0.heap.size = w.heap.size + 1 := by rw [hW0]; simp
  have HS0 := hidT hs0
  obtain ⟨M, hM⟩ : ∃ M, M = w.heap.size := ⟨_, rfl⟩
  have HCel : Hid (∀ W, Below W0.heap.size W0 W → W.cell? ⟨M, 0, none⟩ = some (.slice ta n1 tc) ∧ W.cell? ⟨M, 1, none⟩ = some (.slice ca n2 cc) ∧ W.cell? ⟨M, 2, none⟩ = some (.slice ea n3 ec)) := fun W q => by
    have hw : W.heap[M]? = some (.cells #[.slice ta n1 tc, .slice ca n2 cc, .slice ea n3 ec] 26 (0, 0)) := by rw [hM]; exact (q.block w.heap.size (by omega)).trans hb0
    refine ⟨?_, ?_, ?_⟩ <;> simp [World.cell?, hw]
  obtain ⟨a0, a1, a2⟩ := HCel.out W0 (Below.refl _ _)
  have HMM := hidT hM
  have ER0 := hidT (ER.out W0 K0.out)
  clear h h1 h2 h3 m1 m2 m3 hb0 hs0
  cases hr : Tp.rightT t with
  | false =>
    rw [hr] at ER0
    have HQ : Hid (∀ e w', wtQ t w e w' = (e = .returned (.tuple #[.slice none 0 0, .int .i64 32]) ∧ Below w.heap.size w w')) := fun e w' => by unfold wtQ; rw [if_neg (by rw [hr]; decide)]
    have hq : wtQ t w = fun e w' => (e = .returned (.tuple #[.slice none 0 0, .int .i64 32]) ∧ Below w.heap.size w w') := by funext e w'; exact HQ.out e w'
    rw [hq]
    clear hr hq HQ
    go_enter Try.func9, Try.ntmps9
    go_upto_region 1 with fail
    rw [← hW0, ← hM]
    clear hW0 hM
    go_wp2_with fail
    refine ER0.out.mono ?_
    rintro e w1 ⟨rfl, k1⟩
    have K1 := hidT (K0.out.trans (k1.mono K0.out.size))
    clear k1
    go_wp2_with fail
    go_ret2
    exact ⟨rfl, K1.out⟩
  | true =>
    have hrg := right_rg hr
    have HRG := hidT hrg
    have HL := hidT (HL0.out hr)
    rw [hr] at ER0
    have hq : wtQ t w = WrQ w (Tp.wt t) := by funext e w'; unfold wtQ; rw [if_pos hr]
    rw [hq]
    clear hr hq hrg
    go_enter Try.func9, Try.ntmps9
    go_upto_region 1 with fail
    rw [← hW0, ← hM]
    clear hW0 hM
    go_wp2_with fail
    refine ER0.out.mono ?_
    rintro e w1 ⟨rfl, k1⟩
    have J1 := hidT k1
    have K1 := hidT (K0.out.trans (k1.mono K0.out.size))
    clear k1
    go_wp2_with fail
    refine (putHead_any 2 w1).mono ?_
    rintro e w2 ⟨v2, rfl, o2, k2⟩
    have O2 := hidT o2
    have J2 := hidT (J1.out.trans (k2.mono J1.out.size))
    have K2 := hidT (K1.out.trans (k2.mono K1.out.size))
    have S2 : Hid (w1.heap.size ≤ w2.heap.size) := k2.size
    obtain ⟨b0, b1, b2⟩ := HCel.out w2 J2.out
    have EP2 := hidT (EP.out w2 w1.heap.size v2 K2.out K1.out.size O2.out S2.out HRG.out)
    clear o2 k2 a0 a1 a2
    go_wp2_with fail
    refine EP2.out.mono ?_
    rintro e w3 ⟨v3, rfl, o3, g3⟩
    have k3 := g3.below O2.out S2.out
    have O3 := hidT o3
    have K3 : Hid (Below w1.heap.size w2 w3) := k3
    have S3 : Hid (w1.heap.size ≤ w3.heap.size) := Nat.le_trans S2.out k3.size
    obtain ⟨L, hL⟩ : ∃ L, L = Tp.head 2 ++ Tp.recs t.events t.ticks t.counts 0 := ⟨_, rfl⟩
    have HBd : Hid (Tp.bodyT t = L ++ [0]) := by unfold Hid Tp.bodyT; rw [hL, List.append_assoc]
    rw [← hL] at O3
    obtain ⟨va, vc, hv⟩ := ownShT O3.out
    subst hv
    have HLL : Hid (L.length + 1 ≤ 3000000) := by
      have := HL.out
      rw [HBd.out] at this
      unfold Hid
      simpa using this
    have H63 : Hid (L.length + 1 ≤ maxLen ∧ (L.length + 1 + (L.length + 1) / 4 + 192) * 1 ≤ 281474976710656) := OwB.len63 (by have := HLL.out; omega)
    clear o3 k3 g3 hL
    go_wp2_with (at_builtin; refine wpList_append_own_wide _ rfl _ _ 27 rfl w1.heap.size 5 i0 (.int .u8 0) 1 1 Try.underlying27 hi hz0 hz1 hz2 rfl (by decide) _ _ _ rfl (ownLtT O3.out ((Below.refl _ _).alloc (Nat.le_refl _) _)) ⟨w3.heap.size, 0, none⟩ 1 1 [_] rfl rfl (one1 _ _ _) (by intro x hx; simp at hx; subst hx; rfl) H63.out.1 H63.out.2 (by simp; exact Nat.le_trans S3.out (Nat.le_succ _)) ?_)
    intro v8 w8 h8 g8 o8
    have O8 : Hid (OwB w8 w1.heap.size v8 (Tp.bodyT t)) := by rw [HBd.out]; exact OwB.of (m := [0]) h8 rfl
    have K8 := hidT (K3.out.trans (OwB.below O3.out S3.out g8))
    have S8 : Hid (w1.heap.size ≤ w8.heap.size) := Nat.le_trans S2.out K8.out.size
    have EPS := hidT (putSum_any w8 w1.heap.size v8 (Tp.bodyT t) (by have := HL.out; omega) (HB.out HRG.out) O8.out S8.out)
    clear h8 g8 o8
    go_wp2_with fail
    refine EPS.out.mono ?_
    rintro e w9 ⟨v9, rfl, o9, k9⟩
    have O9 : Hid (OwB w9 w.heap.size v9 (Tp.wt t)) := World.ownsRow.mono o9 K1.out.size
    have K9 := hidT (K2.out.trans ((K8.out.trans k9).mono K1.out.size))
    obtain ⟨va9, vc9, hv9⟩ := ownShT O9.out
    subst hv9
    have hlen : ((Tp.wt t).length : Int) ≤ 4194304 := by
      have h := HL.out
      unfold Tp.wt
      rw [List.length_append]
      have : (Tp.sl4 (Tp.sum (Tp.bodyT t))).length = 4 := rfl
      omega
    have dl : decide ((4194304 : Int) < ((Tp.wt t).length : Int)) = false := decide_eq_false (by omega)
    generalize (Tp.wt t).length = n9 at *
    clear o9 k9 b0 b1 b2
    go_wp2_with fail
    go_ret2
    exact ⟨_, rfl, O9.out, K9.out⟩
end Go.Proofs.Ytneefpblfiedbaa

namespace Go.Proofs.Ytneefpblfiedbaa
open Go.RowKit
set_option linter.unusedVariables false
set_option linter.unusedSimpArgs false
def tkC (l : List Tp.Tk) : List Value := l.flatMap fun t => [.int .i64 t.kind, .int .i64 t.proc, .int .i64 t.mark, .int .i64 t.depth]
def evC (l : List Tp.Ev) : List Value := l.flatMap fun e => [.int .i64 e.kind, .int .i64 e.n]
theorem infoTk : (Try.prog.info? 62).map (fun i => (i.zero, i.size, i.bytes)) = some (some (.agg #[.int .i64 0, .int .i64 0, .int .i64 0, .int .i64 0]), 4, 32) := by kernel_rfl
theorem infoEv : (Try.prog.info? 69).map (fun i => (i.zero, i.size, i.bytes)) = some (some (.agg #[.int .i64 0, .int .i64 0]), 2, 16) := by kernel_rfl
theorem infoIt : (Try.prog.info? 3).map (fun i => (i.zero, i.size, i.bytes)) = some (some (.int .i64 0), 1, 8) := by kernel_rfl
theorem info_of {t : TypeId} {z : Value} {a b : Nat} (h : (Try.prog.info? t).map (fun i => (i.zero, i.size, i.bytes)) = some (some z, a, b)) : ∃ i, Try.prog.info? t = some i ∧ i.zero = some z ∧ i.size = a ∧ i.bytes = b := by
  cases hx : Try.prog.info? t with
  | none => rw [hx] at h; cases h
  | some i => rw [hx] at h; simp at h; exact ⟨i, rfl, h.1, h.2.1, h.2.2⟩
theorem four4o (w : World) (c0 c1 c2 c3 : Value) (t : TypeId) : ∀ (j : Nat) u, [c0, c1, c2, c3][j]? = some u → (w.alloc (.cells #[c0, c1, c2, c3] t)).cell? ((⟨w.heap.size, 0, none⟩ : Addr).add j) = some u := four4 w c0 c1 c2 c3 t
theorem two2 (w : World) (c0 c1 : Value) (t : TypeId) : ∀ (j : Nat) u, [c0, c1][j]? = some u → (w.alloc (.cells #[c0, c1] t)).cell? ((⟨w.heap.size, 0, none⟩ : Addr).add j) = some u := by
  intro j u hj
  match j, hj with
  | 0, hj => simp at hj; subst hj; simp [Addr.add]
  | 1, hj => simp at hj; subst hj; simp [Addr.add]
  | n + 2, hj => simp at hj
set_option maxHeartbeats 1000000 in
theorem putT_any (w : World) (base g : Nat) (fst : Int) (v : Value) (l : List Tp.Tk) (t : Tp.Tk) (ho : w.ownsRow base 62 4 v l.length (tkC l)) (hb : base ≤ w.heap.size) (hl : l.length ≤ 1000000) :
    Calls Try.prog 73 #[.pointer (some ⟨g, 0, none⟩), .int .i64 fst, v, tkV t] w fun e w' => ∃ v', e = .returned v' ∧ w'.ownsRow base 62 4 v' (l.length + 1) (tkC (l ++ [t])) ∧ Gw w v v' w' := by
  obtain ⟨i0, hi, hz0, hz1, hz2⟩ := info_of infoTk
  obtain ⟨k, p, m, d⟩ := t
  show Calls _ _ #[.pointer (some ⟨g, 0, none⟩), .int .i64 fst, v, .agg #[.int .i64 k, .int .i64 p, .int .i64 m, .int .i64 d]] w _
  obtain ⟨va, vc, hv⟩ := ownShT ho
  subst hv
  have hE : tkC (l ++ [⟨k, p, m, d⟩]) = tkC l ++ [.int .i64 k, .int .i64 p, .int .i64 m, .int .i64 d] := by unfold tkC; rw [List.flatMap_append]; rfl
  have HE := hidT hE
  rw [hE]
  have HO := hidT ho
  have HB := hidT hb
  obtain ⟨n, hn⟩ : ∃ n, n = l.length := ⟨_, rfl⟩
  have HN := hidT hn
  rw [← hn] at HO hl ⊢
  have q : ((n : Int) == 1048576) = false := by simp; omega
  have H63 : Hid (n + 1 ≤ maxLen ∧ (n + 1) * 32 ≤ 140737488355328) := by unfold Hid maxLen; omega
  clear ho hb hn hE
  obtain ⟨X, hX⟩ : ∃ X, X = tkC l := ⟨_, rfl⟩
  rw [← hX] at HO ⊢
  clear hX HE
  go_enter Try.func73, Try.ntmps73
  go_wp2_with (at_builtin; refine wpList_append_tol rfl _ _ 22 rfl base 62 i0 (.agg #[.int .i64 0, .int .i64 0, .int .i64 0, .int .i64 0]) 4 32 Try.underlying22 hi hz0 hz1 hz2 rfl (by decide) _ _ _ rfl (ownLtT HO.out (((Below.refl _ _).alloc (Nat.le_refl _) _).alloc (by simp) _)) ⟨w.heap.size + 1, 0, none⟩ 1 1 [.int .i64 k, .int .i64 p, .int .i64 m, .int .i64 d] rfl rfl (by have := four4 (w.alloc (.cells #[.int .i64 k, .int .i64 p, .int .i64 m, .int .i64 d] 62)) (.int .i64 k) (.int .i64 p) (.int .i64 m) (.int .i64 d) 62; simpa using this) (by intro u hu; simp at hu; rcases hu with rfl | rfl | rfl | rfl <;> rfl) H63.out.1 H63.out.2 (by simp; exact Nat.le_trans HB.out (by omega)) (by decide) ?_)
  intro v8 w8 h8 g8 o8
  have G8 : Hid (Gw w (.slice va n vc) v8 w8) := ((Gw.refl w _).alloc _).trans (Gw.step g8 (by simpa using o8))
  have O8 := hidT h8
  clear h8 g8 o8
  go_wp2_with fail
  go_ret
  exact ⟨v8, rfl, O8.out, G8.out⟩
set_option maxHeartbeats 1000000 in
theorem putE_any (w : World) (base g : Nat) (fst : Int) (v : Value) (l : List Tp.Ev) (t : Tp.Ev) (ho : w.ownsRow base 69 2 v l.length (evC l)) (hb : base ≤ w.heap.size) (hl : l.length ≤ 1000000) :
    Calls Try.prog 74 #[.pointer (some ⟨g, 0, none⟩), .int .i64 fst, v, evV t] w fun e w' => ∃ v', e = .returned v' ∧ w'.ownsRow base 69 2 v' (l.length + 1) (evC (l ++ [t])) ∧ Gw w v v' w' := by
  obtain ⟨i0, hi, hz0, hz1, hz2⟩ := info_of infoEv
  obtain ⟨k, p⟩ := t
  show Calls _ _ #[.pointer (some ⟨g, 0, none⟩), .int .i64 fst, v, .agg #[.int .i64 k, .int .i64 p]] w _
  obtain ⟨va, vc, hv⟩ := ownShT ho
  subst hv
  have hE : evC (l ++ [⟨k, p⟩]) = evC l ++ [.int .i64 k, .int .i64 p] := by unfold evC; rw [List.flatMap_append]; rfl
  rw [hE]
  have HO := hidT ho
  have HB := hidT hb
  obtain ⟨n, hn⟩ : ∃ n, n = l.length := ⟨_, rfl⟩
  have HN := hidT hn
  rw [← hn] at HO hl ⊢
  have q : ((n : Int) == 1048576) = false := by simp; omega
  have H63 : Hid (n + 1 ≤ maxLen ∧ (n + 1) * 16 ≤ 140737488355328) := by unfold Hid maxLen; omega
  clear ho hb hn hE
  obtain ⟨X, hX⟩ : ∃ X, X = evC l := ⟨_, rfl⟩
  rw [← hX] at HO ⊢
  clear hX
  go_enter Try.func74, Try.ntmps74
  go_wp2_with (at_builtin; refine wpList_append_tol rfl _ _ 24 rfl base 69 i0 (.agg #[.int .i64 0, .int .i64 0]) 2 16 Try.underlying24 hi hz0 hz1 hz2 rfl (by decide) _ _ _ rfl (ownLtT HO.out (((Below.refl _ _).alloc (Nat.le_refl _) _).alloc (by simp) _)) ⟨w.heap.size + 1, 0, none⟩ 1 1 [.int .i64 k, .int .i64 p] rfl rfl (by have := two2 (w.alloc (.cells #[.int .i64 k, .int .i64 p] 69)) (.int .i64 k) (.int .i64 p) 69; simpa using this) (by intro u hu; simp at hu; rcases hu with rfl | rfl <;> rfl) H63.out.1 H63.out.2 (by simp; exact Nat.le_trans HB.out (by omega)) (by decide) ?_)
  intro v8 w8 h8 g8 o8
  have G8 : Hid (Gw w (.slice va n vc) v8 w8) := ((Gw.refl w _).alloc _).trans (Gw.step g8 (by simpa using o8))
  have O8 := hidT h8
  clear h8 g8 o8
  go_wp2_with fail
  go_ret
  exact ⟨v8, rfl, O8.out, G8.out⟩
end Go.Proofs.Ytneefpblfiedbaa

namespace Go.Proofs.Ytneefpblfiedbaa
open Go.RowKit
set_option linter.unusedVariables false
set_option linter.unusedSimpArgs false
section
variable {w w' w8 : World} {g : Nat} {T : TypeId} {a : Option Addr} {c : Nat} {b : List Int} {k k' : Nat} {r : List Value}
theorem PlB.setR (h : PlB w g T a c b k r) (i : Nat) (x : Value) : PlB (w.setCell ⟨g, i + 2, none⟩ x) g T a c b k (r.set i x) ∧ w.grownBy (w.setCell ⟨g, i + 2, none⟩ x) (some g) := by
  have hg : w.grownBy (w.setCell ⟨g, i + 2, none⟩ x) (some g) := ⟨rfl, rfl, rfl, by simp, fun i _ hn => heap_setCell_other _ _ i _ (by intro e; exact hn (by rw [e]))⟩
  refine ⟨⟨?_, h.bs.later (gbB hg (Nat.le_of_lt h.lt)) (Nat.le_refl _), h.yt, h.cap, h.le, h.ln⟩, hg⟩
  rw [heap_setCell_same _ _ _ _ _ _ h.hb]
  simp
theorem PlB.grow (h : PlB w g T a c b k r) {v v' : Value} (k8 : Gw w v v' w8) (hv : ∀ j, v.ownBlock = some j → g < j) : PlB w8 g T a c b k r := by
  have hb : ∀ i, i ≤ g → w8.heap[i]? = w.heap[i]? := fun i hi => k8.1.block i (Nat.lt_of_le_of_lt hi h.lt) (fun e => by have := hv i e.symm; omega)
  have bl : Below g w w8 := ⟨k8.1.os, k8.1.tape, k8.1.output, k8.1.size, fun i hi => hb i (Nat.le_of_lt hi)⟩
  exact ⟨(hb g (Nat.le_refl _)).trans h.hb, h.bs.later bl (Nat.le_refl _), h.yt, h.cap, h.le, h.ln⟩
end
/-- Two rows lie apart. -/
def Apt (u v : Value) : Prop := ∀ k, u.ownBlock = some k → v.ownBlock ≠ some k
theorem Apt.symm {u v : Value} (h : Apt u v) : Apt v u := fun k e e' => h k e' e
theorem Apt.kept {w w8 : World} {base size n m sz : Nat} {e e' : TypeId} {u v v' : Value} {xs ys : List Value} (h : Apt u v) (ho : w.ownsRow base e size u n xs) (k : Gw w v v' w8) : w8.ownsRow base e size u n xs ∧ Apt u v' := by
  refine ⟨World.ownsRow.kept ho k.1 ?_, fun j hj hj' => ?_⟩
  · cases hu : u.ownBlock with
    | none => exact .inl rfl
    | some x => exact .inr (fun e => h x hu e.symm)
  · rcases k.2 with k2 | ⟨g, k2, k3⟩
    · exact h j hj (k2.symm.trans hj')
    · rw [k2] at hj'
      cases hj'
      have := (World.ownsRow.lt ho j hj).2
      omega
structure TrR (w : World) (g : Nat) (a : Option Addr) (c : Nat) (b : List Int) (k : Nat) (tv cv ev : Value) (s : Int) (t : Tp.Tr) (wr : World) : Prop where
  p : PlB wr g 56 a c b k [tv, cv, ev, .int .i64 s]
  ot : wr.ownsRow w.heap.size 62 4 tv t.ticks.length (tkC t.ticks)
  oc : wr.ownsRow w.heap.size 3 1 cv t.counts.length (nmC t.counts)
  oe : wr.ownsRow w.heap.size 69 2 ev t.events.length (evC t.events)
  dtc : Apt tv cv
  dte : Apt tv ev
  dce : Apt cv ev
  bl : w.grownBy wr (some g)
  lo : g < w.heap.size
section
variable {w wr wq w8 : World} {g : Nat} {a : Option Addr} {c : Nat} {b : List Int} {k k' : Nat} {tv cv ev v8 : Value} {s : Int} {t : Tp.Tr}
theorem own_gb {base size n : Nat} {e : TypeId} {v : Value} {xs : List Value} (h : wr.ownsRow base e size v n xs) (q : wr.grownBy wq (some g)) (hg : g < base) : wq.ownsRow base e size v n xs := by
  refine World.ownsRow.kept h q ?_
  cases hv : v.ownBlock with
  | none => exact .inl rfl
  | some x => exact .inr (fun e => by have := (World.ownsRow.lt h x hv).1; simp at e; omega)
theorem TrR.later (h : TrR w g a c b k tv cv ev s t wr) (q : Below wr.heap.size wr wq) : TrR w g a c b k tv cv ev s t wq :=
  ⟨h.p.later (q.mono h.p.lt), ownLtT h.ot q, ownLtT h.oc q, ownLtT h.oe q, h.dtc, h.dte, h.dce, gbT h.bl (gbOf q), h.lo⟩
theorem TrR.go (h : TrR w g a c b k tv cv ev s t wr) (q : PlQ g 56 a c b [tv, cv, ev, .int .i64 s] wr k' wq) : TrR w g a c b k' tv cv ev s t wq :=
  ⟨q.1, own_gb h.ot q.2 h.lo, own_gb h.oc q.2 h.lo, own_gb h.oe q.2 h.lo, h.dtc, h.dte, h.dce, gbT h.bl q.2, h.lo⟩
theorem TrR.cells (h : TrR w g a c b k tv cv ev s t wr) : wr.cell? ⟨g, 2, none⟩ = some tv ∧ wr.cell? ⟨g, 3, none⟩ = some cv ∧ wr.cell? ⟨g, 4, none⟩ = some ev ∧ wr.cell? ⟨g, 5, none⟩ = some (.int .i64 s) := by
  refine ⟨?_, ?_, ?_, ?_⟩ <;> simp [World.cell?, h.p.hb]
theorem TrR.gbG {v v' : Value} (h : TrR w g a c b k tv cv ev s t wr) (k8 : Gw wr v v' w8) (hv : ∀ j, v.ownBlock = some j → w.heap.size ≤ j) : w.grownBy w8 (some g) :=
  ⟨k8.1.os.trans h.bl.os, k8.1.tape.trans h.bl.tape, k8.1.output.trans h.bl.output, Nat.le_trans h.bl.size k8.1.size, fun i hi hn => (k8.1.block i (Nat.lt_of_lt_of_le hi h.bl.size) (fun e => by have := hv i e.symm; omega)).trans (h.bl.block i hi hn)⟩
/-- A row has grown, but does not yet lie in the box. -/
theorem TrR.grT {n : Nat} {xs : List Value} (h : TrR w g a c b k tv cv ev s t wr) (o8 : w8.ownsRow w.heap.size 62 4 v8 n xs) (k8 : Gw wr tv v8 w8) {x : Tp.Tk} (hn : n = t.ticks.length + 1) (hx : xs = tkC (t.ticks ++ [x])) : w8.cell? ⟨g, 2, none⟩ = some tv ∧ w8.frozen? ⟨g, 2, none⟩ = false ∧ TrR w g a c b k v8 cv ev s ⟨t.ticks ++ [x], t.counts, t.events⟩ (w8.setCell ⟨g, 2, none⟩ v8) := by
  have hv : ∀ j, tv.ownBlock = some j → w.heap.size ≤ j := fun j hj => (World.ownsRow.lt h.ot j hj).1
  have hlo := h.lo
  have p8 := h.p.grow k8 (fun j hj => by have := hv j hj; omega)
  obtain ⟨c1, c2⟩ := (h.dtc.symm).kept (m := 0) (sz := 0) (e' := 0) (ys := []) h.oc k8
  obtain ⟨e1, e2⟩ := (h.dte.symm).kept (m := 0) (sz := 0) (e' := 0) (ys := []) h.oe k8
  obtain ⟨s1, s2⟩ := p8.setR 0 v8
  subst hn hx
  refine ⟨by simp [World.cell?, p8.hb], p8.fz 2, s1, ?_, own_gb c1 s2 hlo, own_gb e1 s2 hlo, c2.symm, e2.symm, h.dce, gbT (h.gbG k8 hv) s2, hlo⟩
  have := own_gb o8 s2 hlo
  simpa using this
theorem TrR.grC {n : Nat} {xs : List Value} (h : TrR w g a c b k tv cv ev s t wr) (o8 : w8.ownsRow w.heap.size 3 1 v8 n xs) (k8 : Gw wr cv v8 w8) {x : Int} (hn : n = t.counts.length + 1) (hx : xs = nmC (t.counts ++ [x])) : w8.cell? ⟨g, 3, none⟩ = some cv ∧ w8.frozen? ⟨g, 3, none⟩ = false ∧ TrR w g a c b k tv v8 ev s ⟨t.ticks, t.counts ++ [x], t.events⟩ (w8.setCell ⟨g, 3, none⟩ v8) := by
  have hv : ∀ j, cv.ownBlock = some j → w.heap.size ≤ j := fun j hj => (World.ownsRow.lt h.oc j hj).1
  have hlo := h.lo
  have p8 := h.p.grow k8 (fun j hj => by have := hv j hj; omega)
  obtain ⟨c1, c2⟩ := (h.dtc).kept (m := 0) (sz := 0) (e' := 0) (ys := []) h.ot k8
  obtain ⟨e1, e2⟩ := (h.dce.symm).kept (m := 0) (sz := 0) (e' := 0) (ys := []) h.oe k8
  obtain ⟨s1, s2⟩ := p8.setR 1 v8
  subst hn hx
  refine ⟨by simp [World.cell?, p8.hb], p8.fz 3, s1, own_gb c1 s2 hlo, ?_, own_gb e1 s2 hlo, c2, h.dte, e2.symm, gbT (h.gbG k8 hv) s2, hlo⟩
  have := own_gb o8 s2 hlo
  simpa using this
theorem TrR.grE {n : Nat} {xs : List Value} (h : TrR w g a c b k tv cv ev s t wr) (o8 : w8.ownsRow w.heap.size 69 2 v8 n xs) (k8 : Gw wr ev v8 w8) {x : Tp.Ev} (hn : n = t.events.length + 1) (hx : xs = evC (t.events ++ [x])) : w8.cell? ⟨g, 4, none⟩ = some ev ∧ w8.frozen? ⟨g, 4, none⟩ = false ∧ TrR w g a c b k tv cv v8 s ⟨t.ticks, t.counts, t.events ++ [x]⟩ (w8.setCell ⟨g, 4, none⟩ v8) := by
  have hv : ∀ j, ev.ownBlock = some j → w.heap.size ≤ j := fun j hj => (World.ownsRow.lt h.oe j hj).1
  have hlo := h.lo
  have p8 := h.p.grow k8 (fun j hj => by have := hv j hj; omega)
  obtain ⟨c1, c2⟩ := (h.dte).kept (m := 0) (sz := 0) (e' := 0) (ys := []) h.ot k8
  obtain ⟨e1, e2⟩ := (h.dce).kept (m := 0) (sz := 0) (e' := 0) (ys := []) h.oc k8
  obtain ⟨s1, s2⟩ := p8.setR 2 v8
  subst hn hx
  refine ⟨by simp [World.cell?, p8.hb], p8.fz 4, s1, own_gb c1 s2 hlo, own_gb e1 s2 hlo, ?_, h.dtc, c2, e2, gbT (h.gbG k8 hv) s2, hlo⟩
  have := own_gb o8 s2 hlo
  simpa using this
theorem TrR.setS (h : TrR w g a c b k tv cv ev s t wr) (x : Int) : TrR w g a c b k tv cv ev x t (wr.setCell ⟨g, 5, none⟩ (.int .i64 x)) := by
  obtain ⟨s1, s2⟩ := h.p.setR 3 (.int .i64 x)
  exact ⟨s1, own_gb h.ot s2 h.lo, own_gb h.oc s2 h.lo, own_gb h.oe s2 h.lo, h.dtc, h.dte, h.dce, gbT h.bl s2, h.lo⟩
theorem TrR.setK (h : TrR w g a c b k tv cv ev s t wr) (hk : k' ≤ b.length) : TrR w g a c b k' tv cv ev s t (wr.setCell ⟨g, 1, none⟩ (.int .i64 k')) := h.go (h.p.set hk)
end
end Go.Proofs.Ytneefpblfiedbaa

namespace Go.Proofs.Ytneefpblfiedbaa
open Go.RowKit
set_option linter.unusedVariables false
set_option linter.unusedSimpArgs false
/-- A tick's number taken. -/
theorem countT (w : World) (g : Nat) (T : TypeId) (a : Option Addr) (c : Nat) (b : List Int) (k : Nat) (r : List Value) (h : PlB w g T a c b k r) (lo : Nat) :
    (∀ z j, Tp.tnum b lo k = .good z j → Calls Try.prog 59 #[.pointer (some ⟨g, 0, none⟩), .int .u64 lo, .int .u64 2147483647, .int .i64 110] w fun e w' => e = .returned (.int .i64 z) ∧ PlQ g T a c b r w j w') ∧ (∀ j x, Tp.tnum b lo k = .bad j x → Calls Try.prog 59 #[.pointer (some ⟨g, 0, none⟩), .int .u64 lo, .int .u64 2147483647, .int .i64 110] w fun e w' => e = tpPan x ∧ PlQ g T a c b r w j w') := by
  have hc := count_any w g T a c b k r h lo 2147483647 110 (by decide)
  unfold Tp.tnum
  cases hr : Tp.rdF 0 0 (b.drop k) with
  | inr e =>
    rw [hr] at hc
    exact ⟨fun z j h => (by cases h), fun j x h => (by cases h; exact hc)⟩
  | inl p =>
    obtain ⟨z, u⟩ := p
    rw [hr] at hc
    dsimp only [ctQ] at hc
    by_cases hz : lo ≤ z ∧ z ≤ 2147483647
    · simp only [if_pos hz] at hc ⊢
      exact ⟨fun z' j h => (by cases h; exact hc), fun j x h => (by cases h)⟩
    · simp only [if_neg hz] at hc ⊢
      exact ⟨fun z' j h => (by cases h), fun j x h => (by cases h; exact hc)⟩
/-- A tick's box, empty. -/
def tkZ : Obj := .cells #[.int .i64 0, .int .i64 0, .int .i64 0, .int .i64 0] 62 (0, 0)
def BxF (w : World) (X : Nat) : Prop := w.heap[X]? = some tkZ
theorem bxA {W w' : World} {g : Nat} (q : (W.alloc (.cells #[.int .i64 0, .int .i64 0, .int .i64 0, .int .i64 0] 62)).grownBy w' (some g)) (hg : g < W.heap.size) : BxF w' W.heap.size :=
  (q.block W.heap.size (by simp) (by simp; omega)).trans (heap_alloc_new W _)
theorem bxK {W w' : World} {g X : Nat} (q : W.grownBy w' (some g)) (h : BxF W X) (hg : g < X) : BxF w' X :=
  (q.block X (Array.getElem?_eq_some_iff.1 h).1 (by simp; omega)).trans h
theorem BxF.c {w : World} {X : Nat} (h : BxF w X) : w.cell? ⟨X, 0, none⟩ = some (.int .i64 0) ∧ w.cell? ⟨X, 1, none⟩ = some (.int .i64 0) ∧ w.cell? ⟨X, 2, none⟩ = some (.int .i64 0) ∧ w.cell? ⟨X, 3, none⟩ = some (.int .i64 0) := by
  unfold BxF tkZ at h
  refine ⟨?_, ?_, ?_, ?_⟩ <;> simp [World.cell?, h]
theorem BxF.lt {w : World} {X : Nat} (h : BxF w X) : X < w.heap.size := (Array.getElem?_eq_some_iff.1 h).1
theorem BxF.f {w : World} {X : Nat} (h : BxF w X) (i : Nat) : w.frozen? ⟨X, i, none⟩ = false := by
  unfold BxF tkZ at h
  simp [World.frozen?, h]
theorem BxF.fill {w : World} {X : Nat} (h : BxF w X) (a b c d : Value) : ((((w.setCell ⟨X, 0, none⟩ a).setCell ⟨X, 1, none⟩ b).setCell ⟨X, 2, none⟩ c).setCell ⟨X, 3, none⟩ d).heap[X]? = some (.cells #[a, b, c, d] 62 (0, 0)) := by
  unfold BxF tkZ at h
  have h1 := heap_setCell_same w X 0 _ _ a h
  have h2 := heap_setCell_same _ X 1 _ _ b h1
  have h3 := heap_setCell_same _ X 2 _ _ c h2
  have h4 := heap_setCell_same _ X 3 _ _ d h3
  rw [h4]
  simp
theorem set4_gb (w : World) (X : Nat) (a b c d : Value) : w.grownBy ((((w.setCell ⟨X, 0, none⟩ a).setCell ⟨X, 1, none⟩ b).setCell ⟨X, 2, none⟩ c).setCell ⟨X, 3, none⟩ d) (some X) :=
  ⟨rfl, rfl, rfl, by simp, fun i hi hn => by
    have hne : ∀ o, (⟨X, o, none⟩ : Addr).block ≠ i := fun o e => hn (by rw [← e])
    rw [heap_setCell_other _ _ i _ (by intro e; exact hn (by rw [e])), heap_setCell_other _ _ i _ (by intro e; exact hn (by rw [e])), heap_setCell_other _ _ i _ (by intro e; exact hn (by rw [e])), heap_setCell_other _ _ i _ (by intro e; exact hn (by rw [e]))]⟩
theorem Gw.stepA {wr w8 : World} {u v8 : Value} {o : Obj} (g8 : (wr.alloc o).grownBy w8 u.ownBlock) (o8 : v8.ownBlock = u.ownBlock ∨ ∃ g, v8.ownBlock = some g ∧ (wr.alloc o).heap.size ≤ g) : Gw wr u v8 w8 := Gw.step g8 (o8.imp id fun ⟨g, h, k⟩ => ⟨g, h, by simpa using k⟩)
/-- A block beside the reader's own has changed. -/
theorem TrR.off {w wr wq : World} {g X : Nat} {a : Option Addr} {c : Nat} {b : List Int} {k : Nat} {tv cv ev : Value} {s : Int} {t : Tp.Tr} (h : TrR w g a c b k tv cv ev s t wr) (q : wr.grownBy wq (some X)) (hX : w.heap.size ≤ X) (h1 : tv.ownBlock ≠ some X) (h2 : cv.ownBlock ≠ some X) (h3 : ev.ownBlock ≠ some X) : TrR w g a c b k tv cv ev s t wq := by
  have hlo := h.lo
  have bl : Below w.heap.size wr wq := ⟨q.os, q.tape, q.output, q.size, fun i hi => q.block i (Nat.lt_of_lt_of_le hi h.bl.size) (by simp; omega)⟩
  exact ⟨h.p.later (bl.mono hlo), World.ownsRow.kept h.ot q (.inr h1), World.ownsRow.kept h.oc q (.inr h2), World.ownsRow.kept h.oe q (.inr h3), h.dtc, h.dte, h.dce, ⟨q.os.trans h.bl.os, q.tape.trans h.bl.tape, q.output.trans h.bl.output, Nat.le_trans h.bl.size q.size, fun i hi hn => (bl.block i hi).trans (h.bl.block i hi hn)⟩, hlo⟩
end Go.Proofs.Ytneefpblfiedbaa

namespace Go.Proofs.Ytneefpblfiedbaa
open Go.RowKit
set_option linter.unusedVariables false
set_option linter.unusedSimpArgs false
set_option maxRecDepth 100000 in
set_option maxHeartbeats 4000000 in
theorem tick_b1 (w0 w : World) (g : Nat) (a : Option Addr) (c : Nat) (b : List Int) (k : Nat) (tv cv ev : Value) (s : Int) (t : Tp.Tr) (h : TrR w0 g a c b k tv cv ev s t w) (hk : k < b.length) (kd : Int) (j : Nat) (x : Int) (h1 : Tp.tnum b 0 (k + 1) = .bad j x) :
    Calls Try.prog 65 #[.pointer (some ⟨g, 0, none⟩), .int .i64 kd] w fun e w' => e = tpPan x ∧ ∃ tv cv ev, TrR w0 g a c b j tv cv ev s t w' := by
  have hln := h.p.ln
  have a1 := h.p.c1
  have af := h.p.fz 1
  have H1 := hidT (h.setK (k' := k + 1) hk)
  have ek : ((k + 1 : Nat) : Int) = (k : Int) + 1 := by omega
  rw [ek] at H1
  obtain ⟨W1, hW1⟩ : ∃ W, W = w.setCell ⟨g, 1, none⟩ (.int .i64 ((k : Int) + 1)) := ⟨_, rfl⟩
  rw [← hW1] at H1
  clear ek
  have E1 : Hid (∀ W, TrR w0 g a c b (k + 1) tv cv ev s t W → Calls Try.prog 59 #[.pointer (some ⟨g, 0, none⟩), .int .u64 0, .int .u64 2147483647, .int .i64 110] W fun e w' => e = tpPan x ∧ PlQ g 56 a c b [tv, cv, ev, .int .i64 s] W j w') := fun W q => (countT W g _ a c b _ _ q.p 0).2 _ _ h1
  clear h1
  clear h
  go_enter Try.func65, Try.ntmps65
  go_upto_region 2 with fail
  rw [← hW1]
  clear hW1 a1 af
  go_region_with (first
    | (have qq := hF; go_at_call 59; refine Calls.mono (show Calls _ _ _ _ (fun e _ => e = .returned (.int .i64 0) ∧ True) from hF.out _) ?_; rintro e w5 ⟨rfl, -⟩)
    | (go_at_call 59; refine shutT (E1.out _ (H1.out.later (by go_grown))) ?_ (.int .i64 0) ?_; (unfold tpPan; rintro e w9 ⟨rfl, q⟩; exact ⟨rfl, rfl, _, _, _, (H1.out.later (by go_grown)).go q⟩); intro hF; have hz8 : ∀ (W : World) (q : Addr), W.frozen? q = false := fun _ _ => hF.out _; have hz9 : ∀ (W : World) (q : Addr), W.cell? q = some (.int .i64 0) := fun _ _ => hF.out _))
  all_goals exact hF.out _
end Go.Proofs.Ytneefpblfiedbaa
