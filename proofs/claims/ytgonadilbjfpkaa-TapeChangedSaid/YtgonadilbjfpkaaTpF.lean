/- Layer 13: the program's bytes of numbers, put behind others. -/
import Derived.Test.YtgonadilbjfpkaaTpE
namespace Go.Proofs.Ytgonadilbjfpkaa
open Go.RowKit
set_option linter.unusedVariables false
theorem one1 (w : World) (x : Value) (t : TypeId) : ∀ (j : Nat) u, [x][j]? = some u → (w.alloc (.cells #[x] t)).cell? ((⟨w.heap.size, 0, none⟩ : Addr).add j) = some u := by
  intro j u hj
  match j, hj with
  | 0, hj => simp at hj; subst hj; simp [Addr.add]
  | n + 1, hj => simp at hj
theorem infoB' : ∃ i, Try.prog.info? 5 = some i ∧ i.zero = some (.int .u8 0) ∧ i.size = 1 ∧ i.bytes = 1 := by
  have h := infoB
  cases hx : Try.prog.info? 5 with
  | none => rw [hx] at h; cases h
  | some i => rw [hx] at h; simp at h; exact ⟨i, rfl, h.1, h.2.1, h.2.2⟩
theorem OwB.below {wr w8 : World} {base : Nat} {v : Value} {l : List Int} {o : Obj} (ho : OwB wr base v l) (hb : base ≤ wr.heap.size) (g8 : (wr.alloc o).grownBy w8 v.ownBlock) : Below base wr w8 :=
  ((Below.refl base wr).alloc hb o).trans ⟨g8.os, g8.tape, g8.output, g8.size, fun k hk => g8.block k (by simp; omega) (fun e => by have := (World.ownsRow.lt ho _ e.symm).1; omega)⟩
theorem OwB.below' {wr w8 : World} {base : Nat} {v : Value} {l : List Int} (ho : OwB wr base v l) (hb : base ≤ wr.heap.size) (g8 : wr.grownBy w8 v.ownBlock) : Below base wr w8 :=
  ⟨g8.os, g8.tape, g8.output, g8.size, fun k hk => g8.block k (by omega) (fun e => by have := (World.ownsRow.lt ho _ e.symm).1; omega)⟩
theorem OwB.of {w : World} {base n : Nat} {v : Value} {l : List Int} {m : List Int} (h : w.ownsRow base 5 1 v n (byC l ++ m.map (Value.int .u8))) (hn : n = l.length + m.length) : OwB w base v (l ++ m) := by
  unfold OwB
  rw [byC_app, List.length_append, ← hn]
  exact h
theorem OwB.len63 {n : Nat} (h : n ≤ 200000000) : n ≤ maxLen ∧ (n + n / 4 + 192) * 1 ≤ 281474976710656 := by unfold maxLen; omega
/-- A row of bytes grew by some, and what lies below the base is as it was. -/
def PuQ (w : World) (base : Nat) (l : List Int) (e : Ending) (w' : World) : Prop := ∃ v', e = .returned v' ∧ OwB w' base v' l ∧ Below base w w'
set_option maxHeartbeats 2000000 in
theorem putDg (w : World) (base : Nat) (v : Value) (l : List Int) (z : Nat) (hz : z < 18446744073709551616) (ho : OwB w base v l) (hb : base ≤ w.heap.size) (hl : l.length ≤ 100000000) :
    Calls Try.prog 53 #[v, .int .u64 z] w (PuQ w base (l ++ Tp.dg z)) := by
  obtain ⟨i0, hi, hz0, hz1, hz2⟩ := infoB'
  have HO : Hid (OwB w base v l) := ho
  have HL : Hid (l.length ≤ 100000000) := hl
  have HB : Hid (base ≤ w.heap.size) := hb
  clear ho hl hb
  go_enter Try.func53, Try.ntmps53
  go_wp2_with fail
  go_loopg [0, 1] 10 (fun gk x y wr => ∃ (u : Value) (l' : List Int) (q : Nat), x = u ∧ y = .int .u64 q ∧ q < 18446744073709551616 ∧ Hid (OwB wr base u l' ∧ Below base w wr ∧ l ++ Tp.dg z = l' ++ Tp.dgF gk.pred q ∧ l'.length + gk = l.length + 10 ∧ q < 128 ^ gk ∧ 0 < gk))
  case atStart => exact ⟨v, l, z, rfl, rfl, hz, HO.out, Below.refl _ _, rfl, rfl, Nat.lt_of_lt_of_le hz (by decide), by decide⟩
  case round =>
    obtain ⟨u, l', q, rfl, rfl, hq, HR⟩ := hrel
    have HBR : Hid (base ≤ wr.heap.size) := Nat.le_trans HB.out HR.out.2.1.size
    obtain ⟨ua, cap, hv⟩ := ownShT HR.out.1
    subst hv
    have H63 : Hid (l'.length + 1 ≤ maxLen ∧ ((l'.length + 1) + (l'.length + 1) / 4 + 192) * 1 ≤ 281474976710656) := by
      have := HL.out
      have := HR.out.2.2.2.1
      exact OwB.len63 (by omega)
    by_cases h128 : 128 ≤ q
    · have d1 : decide (128 ≤ (q : Int)) = true := decide_eq_true (by omega)
      go_wp2_with (at_builtin; refine wpList_append_own_wide _ rfl _ _ 22 rfl base 5 i0 (.int .u8 0) 1 1 Try.underlying22 hi hz0 hz1 hz2 rfl (by decide) _ _ _ rfl (ownLtT HR.out.1 ((Below.refl _ _).alloc (Nat.le_refl _) _)) ⟨wr.heap.size, 0, none⟩ 1 1 [_] rfl rfl (one1 _ _ _) (by intro x hx; simp at hx; subst hx; rfl) H63.out.1 H63.out.2 (by simp; exact Nat.le_trans HBR.out (Nat.le_succ _)) ?_)
      intro v8 w8 h8 g8 o8
      have K8 := hidT (HR.out.1.below HBR.out g8)
      have HX : Hid (OwB w8 base v8 (l' ++ [((q % 128 + 128 : Nat) : Int)])) := OwB.of (m := [((q % 128 + 128 : Nat) : Int)]) h8 rfl
      clear h8 g8 o8
      go_wp2_with fail
      obtain ⟨o1, k1, e1, n1, q1, p1⟩ := HR.out
      have h2 : 2 ≤ gk := by
        rcases (by omega : gk = 1 ∨ 2 ≤ gk) with rfl | h
        · simp at q1; omega
        · exact h
      obtain ⟨m, rfl⟩ : ∃ m, gk = m + 2 := ⟨gk - 2, by omega⟩
      go_roundg (m + 1)
      case measure => omega
      case rel =>
        refine ⟨v8, l' ++ [((q % 128 + 128 : Nat) : Int)], q / 128, rfl, rfl, by omega, HX.out, k1.trans K8.out, ?_, by simp; omega, ?_, by omega⟩
        · rw [e1, List.append_assoc]
          show l' ++ Tp.dgF (m + 1) q = _
          rw [Tp.dgF, if_neg (by omega)]
          rfl
        · rw [Nat.div_lt_iff_lt_mul (by decide)]
          rwa [← Nat.pow_succ]
    · have d1 : decide (128 ≤ (q : Int)) = false := decide_eq_false (by omega)
      go_wp2_with (at_builtin; refine wpList_append_own_wide _ rfl _ _ 22 rfl base 5 i0 (.int .u8 0) 1 1 Try.underlying22 hi hz0 hz1 hz2 rfl (by decide) _ _ _ rfl (ownLtT HR.out.1 ((Below.refl _ _).alloc (Nat.le_refl _) _)) ⟨wr.heap.size, 0, none⟩ 1 1 [_] rfl rfl (one1 _ _ _) (by intro x hx; simp at hx; subst hx; rfl) H63.out.1 H63.out.2 (by simp; exact Nat.le_trans HBR.out (Nat.le_succ _)) ?_)
      intro v8 w8 h8 g8 o8
      have K8 := hidT (HR.out.1.below HBR.out g8)
      have HX : Hid (OwB w8 base v8 (l' ++ [(q : Int)])) := OwB.of (m := [(q : Int)]) h8 rfl
      clear h8 g8 o8
      go_wp2_with fail
      go_ret
      obtain ⟨o1, k1, e1, n1, q1, p1⟩ := HR.out
      refine ⟨v8, rfl, ?_, k1.trans K8.out⟩
      have e2 : Tp.dgF gk.pred q = [(q : Int)] := by
        cases gk.pred with
        | zero => rfl
        | succ m => rw [Tp.dgF, if_pos (by omega)]
      rw [e1, e2]
      exact HX.out
theorem putNm (w : World) (base : Nat) (v : Value) (l : List Int) (n : Int) (h0 : -9223372036854775808 ≤ n) (h1 : n ≤ 9223372036854775807) (ho : OwB w base v l) (hb : base ≤ w.heap.size) (hl : l.length ≤ 100000000) :
    Calls Try.prog 33 #[v, .int .i64 n] w (PuQ w base (l ++ Tp.dg (Tp.zg n))) := by
  have HP := hidT (putDg w base v l (Tp.zg n) (Tp.zg_lt n h0 h1) ho hb hl)
  clear ho hb hl
  go_enter Try.func33, Try.ntmps33
  go_wp2_with fail
  refine (unsigned_any n _ h0 h1).mono ?_
  rintro e w' ⟨rfl, rfl⟩
  go_wp2_with fail
  refine HP.out.mono ?_
  rintro e w' ⟨v', rfl, O, K⟩
  have HO := hidT O
  have HK := hidT K
  clear O K
  go_wp2_with fail
  go_ret
  exact ⟨v', rfl, HO.out, HK.out⟩
theorem putCt (w : World) (base : Nat) (v : Value) (l : List Int) (n : Nat) (h1 : (n : Int) ≤ 9223372036854775807) (ho : OwB w base v l) (hb : base ≤ w.heap.size) (hl : l.length ≤ 100000000) :
    Calls Try.prog 37 #[v, .int .i64 n] w (PuQ w base (l ++ Tp.dg n)) := by
  have HP := hidT (putDg w base v l n (by omega) ho hb hl)
  clear ho hb hl
  go_enter Try.func37, Try.ntmps37
  go_wp2_with fail
  refine HP.out.mono ?_
  rintro e w' ⟨v', rfl, O, K⟩
  have HO := hidT O
  have HK := hidT K
  clear O K
  go_wp2_with fail
  go_ret
  exact ⟨v', rfl, HO.out, HK.out⟩
theorem numP_any (w : World) (n : Int) (h0 : -9223372036854775808 ≤ n) (h1 : n ≤ 9223372036854775807) :
    Calls Try.prog 12 #[.int .i64 n] w (PuQ w w.heap.size (Tp.dg (Tp.zg n))) := by
  have HP := hidT (putNm w w.heap.size (.slice none 0 0) [] n h0 h1 (World.ownsRow_nil _ _ _ _) (Nat.le_refl _) (by simp))
  go_enter Try.func12, Try.ntmps12
  go_wp2_with fail
  refine HP.out.mono ?_
  rintro e w' ⟨v', rfl, O, K⟩
  have HO := hidT O
  have HK := hidT K
  clear O K
  go_wp2_with fail
  go_ret
  exact ⟨v', rfl, HO.out, HK.out⟩
end Go.Proofs.Ytgonadilbjfpkaa
