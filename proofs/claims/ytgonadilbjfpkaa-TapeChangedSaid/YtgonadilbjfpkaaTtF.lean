/- Layer 13: numbers put behind bytes, once more: and all but the row itself is as it was. -/
import Derived.Test.YtgonadilbjfpkaaTpG
import Derived.Test.YtgonadilbjfpkaaTtT
namespace Go.Proofs.Ytgonadilbjfpkaa
open Go.RowKit
set_option linter.unusedVariables false
set_option linter.unusedSimpArgs false
/-- The row v grew to be v': all else is as it was, and v' lies where v lay, or in a new block. -/
def Gw (w : World) (v v' : Value) (w' : World) : Prop := w.grownBy w' v.ownBlock ∧ (v'.ownBlock = v.ownBlock ∨ ∃ g, v'.ownBlock = some g ∧ w.heap.size ≤ g)
theorem Gw.refl (w : World) (v : Value) : Gw w v v w := ⟨⟨rfl, rfl, rfl, Nat.le_refl _, fun _ _ _ => rfl⟩, .inl rfl⟩
theorem Gw.trans {w w1 w2 : World} {v v1 v2 : Value} (h : Gw w v v1 w1) (k : Gw w1 v1 v2 w2) : Gw w v v2 w2 := by
  refine ⟨⟨k.1.os.trans h.1.os, k.1.tape.trans h.1.tape, k.1.output.trans h.1.output, Nat.le_trans h.1.size k.1.size, fun i hi hn => ?_⟩, ?_⟩
  · refine (k.1.block i (Nat.lt_of_lt_of_le hi h.1.size) (fun e => ?_)).trans (h.1.block i hi hn)
    rcases h.2 with h2 | ⟨g, h2, h3⟩
    · exact hn (e.trans h2)
    · rw [h2] at e
      cases e
      omega
  · rcases k.2 with k2 | ⟨g, k2, k3⟩
    · rcases h.2 with h2 | ⟨g, h2, h3⟩
      · exact .inl (k2.trans h2)
      · exact .inr ⟨g, k2.trans h2, h3⟩
    · exact .inr ⟨g, k2, Nat.le_trans h.1.size k3⟩
theorem Gw.step {wr w8 : World} {u v8 : Value} {o : Obj} (g8 : (wr.alloc o).grownBy w8 u.ownBlock) (o8 : v8.ownBlock = u.ownBlock ∨ ∃ g, v8.ownBlock = some g ∧ wr.heap.size + 1 ≤ g) : Gw wr u v8 w8 := by
  refine ⟨⟨g8.os, g8.tape, g8.output, ?_, fun i hi hn => ?_⟩, o8.imp id fun ⟨g, h, k⟩ => ⟨g, h, ?_⟩⟩
  · have := g8.size; simp at this; omega
  · exact (g8.block i (by simp; omega) hn).trans (((Below.refl wr.heap.size wr).alloc (Nat.le_refl _) o).block i hi)
  · omega
theorem Gw.alloc {w w1 : World} {v v' : Value} (h : Gw w v v' w1) (o : Obj) : Gw w v v' (w1.alloc o) :=
  ⟨⟨h.1.os, h.1.tape, h.1.output, by have := h.1.size; simp; omega, fun i hi hn => (((Below.refl w1.heap.size w1).alloc (Nat.le_refl _) o).block i (Nat.lt_of_lt_of_le hi h.1.size)).trans (h.1.block i hi hn)⟩, h.2⟩
theorem Gw.later {w w1 w2 : World} {v v' : Value} (h : Gw w v v' w1) (b : Below w1.heap.size w1 w2) : Gw w v v' w2 :=
  ⟨⟨b.os.trans h.1.os, b.tape.trans h.1.tape, b.output.trans h.1.output, Nat.le_trans h.1.size b.size, fun i hi hn => (b.block i (Nat.lt_of_lt_of_le hi h.1.size)).trans (h.1.block i hi hn)⟩, h.2⟩
theorem Gw.below {w w1 : World} {v v' : Value} {base : Nat} {l : List Int} (h : Gw w v v' w1) (ho : OwB w base v l) (hb : base ≤ w.heap.size) : Below base w w1 := OwB.below' ho hb h.1
/-- Another block stays: it is not the row's, before or behind. -/
theorem Gw.keep {w w1 : World} {v v' : Value} (h : Gw w v v' w1) {M : Nat} (hM : M < w.heap.size) (hn : some M ≠ v.ownBlock) : w1.heap[M]? = w.heap[M]? ∧ some M ≠ v'.ownBlock ∧ M < w1.heap.size :=
  ⟨h.1.block M hM hn, fun e => by
    rcases h.2 with h2 | ⟨g, h2, h3⟩
    · exact hn (e.trans h2)
    · rw [h2] at e; cases e; omega, Nat.lt_of_lt_of_le hM h.1.size⟩
def PvQ (w : World) (v : Value) (base : Nat) (l : List Int) (e : Ending) (w' : World) : Prop := ∃ v', e = .returned v' ∧ OwB w' base v' l ∧ Gw w v v' w'
set_option maxHeartbeats 2000000 in
theorem putDg2 (w : World) (base : Nat) (v : Value) (l : List Int) (z : Nat) (hz : z < 18446744073709551616) (ho : OwB w base v l) (hb : base ≤ w.heap.size) (hl : l.length ≤ 100000000) :
    Calls Try.prog 53 #[v, .int .u64 z] w (PvQ w v base (l ++ Tp.dg z)) := by
  obtain ⟨i0, hi, hz0, hz1, hz2⟩ := infoB'
  have HO : Hid (OwB w base v l) := ho
  have HL : Hid (l.length ≤ 100000000) := hl
  have HB : Hid (base ≤ w.heap.size) := hb
  clear ho hl hb
  go_enter Try.func53, Try.ntmps53
  go_wp2_with fail
  go_loopg [0, 1] 10 (fun gk x y wr => ∃ (u : Value) (l' : List Int) (q : Nat), x = u ∧ y = .int .u64 q ∧ q < 18446744073709551616 ∧ Hid (OwB wr base u l' ∧ Gw w v u wr ∧ l ++ Tp.dg z = l' ++ Tp.dgF gk.pred q ∧ l'.length + gk = l.length + 10 ∧ q < 128 ^ gk ∧ 0 < gk))
  case atStart => exact ⟨v, l, z, rfl, rfl, hz, HO.out, Gw.refl _ _, rfl, rfl, Nat.lt_of_lt_of_le hz (by decide), by decide⟩
  case round =>
    obtain ⟨u, l', q, rfl, rfl, hq, HR⟩ := hrel
    have HBR : Hid (base ≤ wr.heap.size) := Nat.le_trans HB.out HR.out.2.1.1.size
    obtain ⟨ua, cap, hv⟩ := ownShT HR.out.1
    subst hv
    have H63 : Hid (l'.length + 1 ≤ maxLen ∧ (l'.length + 1) * 1 ≤ 140737488355328) := by
      have := HL.out
      have := HR.out.2.2.2.1
      unfold Hid maxLen; omega
    by_cases h128 : 128 ≤ q
    · have d1 : decide (128 ≤ (q : Int)) = true := decide_eq_true (by omega)
      go_wp2_with (at_builtin; refine wpList_append_tol rfl _ _ 22 rfl base 5 i0 (.int .u8 0) 1 1 Try.underlying22 hi hz0 hz1 hz2 rfl (by decide) _ _ _ rfl (ownLtT HR.out.1 ((Below.refl _ _).alloc (Nat.le_refl _) _)) ⟨wr.heap.size, 0, none⟩ 1 1 [_] rfl rfl (one1 _ _ _) (by intro x hx; simp at hx; subst hx; rfl) H63.out.1 H63.out.2 (by simp; exact Nat.le_trans HBR.out (Nat.le_succ _)) (by decide) ?_)
      intro v8 w8 h8 g8 o8
      have K8 := hidT (Gw.step (u := .slice ua l'.length cap) g8 o8)
      have HX : Hid (OwB w8 base v8 (l' ++ [((q % 128 + 128 : Nat) : Int)])) := OwB.of (m := [((q % 128 + 128 : Nat) : Int)]) h8 rfl
      clear h8 g8 o8
      go_wp2_with fail
      obtain ⟨o1, k1, e1, n1, q1, p1⟩ := HR.out
      have h2 : 2 ≤ gk := by
        rcases (by omega : gk = 1 ∨ 2 ≤ gk) with rfl | h
        · simp at q1; omega
        · exact h
      obtain ⟨m, rfl⟩ : ∃ m, gk = m + 2 := ⟨gk - 2, by omega⟩
      go_roundg (m + 1)
      case measure => omega
      case rel =>
        refine ⟨v8, l' ++ [((q % 128 + 128 : Nat) : Int)], q / 128, rfl, rfl, by omega, HX.out, k1.trans K8.out, ?_, by simp; omega, ?_, by omega⟩
        · rw [e1, List.append_assoc]
          show l' ++ Tp.dgF (m + 1) q = _
          rw [Tp.dgF, if_neg (by omega)]
          rfl
        · rw [Nat.div_lt_iff_lt_mul (by decide)]
          rwa [← Nat.pow_succ]
    · have d1 : decide (128 ≤ (q : Int)) = false := decide_eq_false (by omega)
      go_wp2_with (at_builtin; refine wpList_append_tol rfl _ _ 22 rfl base 5 i0 (.int .u8 0) 1 1 Try.underlying22 hi hz0 hz1 hz2 rfl (by decide) _ _ _ rfl (ownLtT HR.out.1 ((Below.refl _ _).alloc (Nat.le_refl _) _)) ⟨wr.heap.size, 0, none⟩ 1 1 [_] rfl rfl (one1 _ _ _) (by intro x hx; simp at hx; subst hx; rfl) H63.out.1 H63.out.2 (by simp; exact Nat.le_trans HBR.out (Nat.le_succ _)) (by decide) ?_)
      intro v8 w8 h8 g8 o8
      have K8 := hidT (Gw.step (u := .slice ua l'.length cap) g8 o8)
      have HX : Hid (OwB w8 base v8 (l' ++ [(q : Int)])) := OwB.of (m := [(q : Int)]) h8 rfl
      clear h8 g8 o8
      go_wp2_with fail
      go_ret
      obtain ⟨o1, k1, e1, n1, q1, p1⟩ := HR.out
      refine ⟨v8, rfl, ?_, k1.trans K8.out⟩
      have e2 : Tp.dgF gk.pred q = [(q : Int)] := by
        cases gk.pred with
        | zero => rfl
        | succ m => rw [Tp.dgF, if_pos (by omega)]
      rw [e1, e2]
      exact HX.out
theorem putNm2 (w : World) (base : Nat) (v : Value) (l : List Int) (n : Int) (h0 : -9223372036854775808 ≤ n) (h1 : n ≤ 9223372036854775807) (ho : OwB w base v l) (hb : base ≤ w.heap.size) (hl : l.length ≤ 100000000) :
    Calls Try.prog 33 #[v, .int .i64 n] w (PvQ w v base (l ++ Tp.dg (Tp.zg n))) := by
  have HP := hidT (putDg2 w base v l (Tp.zg n) (Tp.zg_lt n h0 h1) ho hb hl)
  clear ho hb hl
  go_enter Try.func33, Try.ntmps33
  go_wp2_with fail
  refine (unsigned_any n _ h0 h1).mono ?_
  rintro e w' ⟨rfl, rfl⟩
  go_wp2_with fail
  refine HP.out.mono ?_
  rintro e w' ⟨v', rfl, O, K⟩
  have HO := hidT O
  have HK := hidT K
  clear O K
  go_wp2_with fail
  go_ret
  exact ⟨v', rfl, HO.out, HK.out⟩
theorem putCt2 (w : World) (base : Nat) (v : Value) (l : List Int) (n : Nat) (h1 : (n : Int) ≤ 9223372036854775807) (ho : OwB w base v l) (hb : base ≤ w.heap.size) (hl : l.length ≤ 100000000) :
    Calls Try.prog 37 #[v, .int .i64 n] w (PvQ w v base (l ++ Tp.dg n)) := by
  have HP := hidT (putDg2 w base v l n (by omega) ho hb hl)
  clear ho hb hl
  go_enter Try.func37, Try.ntmps37
  go_wp2_with fail
  refine HP.out.mono ?_
  rintro e w' ⟨v', rfl, O, K⟩
  have HO := hidT O
  have HK := hidT K
  clear O K
  go_wp2_with fail
  go_ret
  exact ⟨v', rfl, HO.out, HK.out⟩
end Go.Proofs.Ytgonadilbjfpkaa
