/- Layer 13: the reader of a trace in memory; put. -/
import Derived.Test.YtgonadilbjfpkaaTtR
import Derived.Test.YtgonadilbjfpkaaTtE
namespace Go.Proofs.Ytgonadilbjfpkaa
open Go.RowKit
set_option linter.unusedVariables false
set_option linter.unusedSimpArgs false
def tkC (l : List Tp.Tk) : List Value := l.flatMap fun t => [.int .i64 t.kind, .int .i64 t.proc, .int .i64 t.mark, .int .i64 t.depth]
def evC (l : List Tp.Ev) : List Value := l.flatMap fun e => [.int .i64 e.kind, .int .i64 e.n]
theorem infoTk : (Try.prog.info? 80).map (fun i => (i.zero, i.size, i.bytes)) = some (some (.agg #[.int .i64 0, .int .i64 0, .int .i64 0, .int .i64 0]), 4, 32) := by kernel_rfl
theorem infoEv : (Try.prog.info? 96).map (fun i => (i.zero, i.size, i.bytes)) = some (some (.agg #[.int .i64 0, .int .i64 0]), 2, 16) := by kernel_rfl
theorem infoIt : (Try.prog.info? 3).map (fun i => (i.zero, i.size, i.bytes)) = some (some (.int .i64 0), 1, 8) := by kernel_rfl
theorem info_of {t : TypeId} {z : Value} {a b : Nat} (h : (Try.prog.info? t).map (fun i => (i.zero, i.size, i.bytes)) = some (some z, a, b)) : ∃ i, Try.prog.info? t = some i ∧ i.zero = some z ∧ i.size = a ∧ i.bytes = b := by
  cases hx : Try.prog.info? t with
  | none => rw [hx] at h; cases h
  | some i => rw [hx] at h; simp at h; exact ⟨i, rfl, h.1, h.2.1, h.2.2⟩
theorem four4o (w : World) (c0 c1 c2 c3 : Value) (t : TypeId) : ∀ (j : Nat) u, [c0, c1, c2, c3][j]? = some u → (w.alloc (.cells #[c0, c1, c2, c3] t)).cell? ((⟨w.heap.size, 0, none⟩ : Addr).add j) = some u := four4 w c0 c1 c2 c3 t
theorem two2 (w : World) (c0 c1 : Value) (t : TypeId) : ∀ (j : Nat) u, [c0, c1][j]? = some u → (w.alloc (.cells #[c0, c1] t)).cell? ((⟨w.heap.size, 0, none⟩ : Addr).add j) = some u := by
  intro j u hj
  match j, hj with
  | 0, hj => simp at hj; subst hj; simp [Addr.add]
  | 1, hj => simp at hj; subst hj; simp [Addr.add]
  | n + 2, hj => simp at hj
set_option maxHeartbeats 1000000 in
theorem putT_any (w : World) (base g : Nat) (fst : Int) (v : Value) (l : List Tp.Tk) (t : Tp.Tk) (ho : w.ownsRow base 80 4 v l.length (tkC l)) (hb : base ≤ w.heap.size) (hl : l.length ≤ 1000000) :
    Calls Try.prog 79 #[.pointer (some ⟨g, 0, none⟩), .int .i64 fst, v, tkV t] w fun e w' => ∃ v', e = .returned v' ∧ w'.ownsRow base 80 4 v' (l.length + 1) (tkC (l ++ [t])) ∧ Gw w v v' w' := by
  obtain ⟨i0, hi, hz0, hz1, hz2⟩ := info_of infoTk
  obtain ⟨k, p, m, d⟩ := t
  show Calls _ _ #[.pointer (some ⟨g, 0, none⟩), .int .i64 fst, v, .agg #[.int .i64 k, .int .i64 p, .int .i64 m, .int .i64 d]] w _
  obtain ⟨va, vc, hv⟩ := ownShT ho
  subst hv
  have hE : tkC (l ++ [⟨k, p, m, d⟩]) = tkC l ++ [.int .i64 k, .int .i64 p, .int .i64 m, .int .i64 d] := by unfold tkC; rw [List.flatMap_append]; rfl
  have HE := hidT hE
  rw [hE]
  have HO := hidT ho
  have HB := hidT hb
  obtain ⟨n, hn⟩ : ∃ n, n = l.length := ⟨_, rfl⟩
  have HN := hidT hn
  rw [← hn] at HO hl ⊢
  have q : ((n : Int) == 1048576) = false := by simp; omega
  have H63 : Hid (n + 1 ≤ maxLen ∧ (n + 1) * 32 ≤ 140737488355328) := by unfold Hid maxLen; omega
  clear ho hb hn hE
  obtain ⟨X, hX⟩ : ∃ X, X = tkC l := ⟨_, rfl⟩
  rw [← hX] at HO ⊢
  clear hX HE
  go_enter Try.func79, Try.ntmps79
  go_wp2_with (at_builtin; refine wpList_append_tol rfl _ _ 39 rfl base 80 i0 (.agg #[.int .i64 0, .int .i64 0, .int .i64 0, .int .i64 0]) 4 32 Try.underlying39 hi hz0 hz1 hz2 rfl (by decide) _ _ _ rfl (ownLtT HO.out (((Below.refl _ _).alloc (Nat.le_refl _) _).alloc (by simp) _)) ⟨w.heap.size + 1, 0, none⟩ 1 1 [.int .i64 k, .int .i64 p, .int .i64 m, .int .i64 d] rfl rfl (by have := four4 (w.alloc (.cells #[.int .i64 k, .int .i64 p, .int .i64 m, .int .i64 d] 80)) (.int .i64 k) (.int .i64 p) (.int .i64 m) (.int .i64 d) 80; simpa using this) (by intro u hu; simp at hu; rcases hu with rfl | rfl | rfl | rfl <;> rfl) H63.out.1 H63.out.2 (by simp; exact Nat.le_trans HB.out (by omega)) (by decide) ?_)
  intro v8 w8 h8 g8 o8
  have G8 : Hid (Gw w (.slice va n vc) v8 w8) := ((Gw.refl w _).alloc _).trans (Gw.step g8 (by simpa using o8))
  have O8 := hidT h8
  clear h8 g8 o8
  go_wp2_with fail
  go_ret
  exact ⟨v8, rfl, O8.out, G8.out⟩
set_option maxHeartbeats 1000000 in
theorem putE_any (w : World) (base g : Nat) (fst : Int) (v : Value) (l : List Tp.Ev) (t : Tp.Ev) (ho : w.ownsRow base 96 2 v l.length (evC l)) (hb : base ≤ w.heap.size) (hl : l.length ≤ 1000000) :
    Calls Try.prog 80 #[.pointer (some ⟨g, 0, none⟩), .int .i64 fst, v, evV t] w fun e w' => ∃ v', e = .returned v' ∧ w'.ownsRow base 96 2 v' (l.length + 1) (evC (l ++ [t])) ∧ Gw w v v' w' := by
  obtain ⟨i0, hi, hz0, hz1, hz2⟩ := info_of infoEv
  obtain ⟨k, p⟩ := t
  show Calls _ _ #[.pointer (some ⟨g, 0, none⟩), .int .i64 fst, v, .agg #[.int .i64 k, .int .i64 p]] w _
  obtain ⟨va, vc, hv⟩ := ownShT ho
  subst hv
  have hE : evC (l ++ [⟨k, p⟩]) = evC l ++ [.int .i64 k, .int .i64 p] := by unfold evC; rw [List.flatMap_append]; rfl
  rw [hE]
  have HO := hidT ho
  have HB := hidT hb
  obtain ⟨n, hn⟩ : ∃ n, n = l.length := ⟨_, rfl⟩
  have HN := hidT hn
  rw [← hn] at HO hl ⊢
  have q : ((n : Int) == 1048576) = false := by simp; omega
  have H63 : Hid (n + 1 ≤ maxLen ∧ (n + 1) * 16 ≤ 140737488355328) := by unfold Hid maxLen; omega
  clear ho hb hn hE
  obtain ⟨X, hX⟩ : ∃ X, X = evC l := ⟨_, rfl⟩
  rw [← hX] at HO ⊢
  clear hX
  go_enter Try.func80, Try.ntmps80
  go_wp2_with (at_builtin; refine wpList_append_tol rfl _ _ 41 rfl base 96 i0 (.agg #[.int .i64 0, .int .i64 0]) 2 16 Try.underlying41 hi hz0 hz1 hz2 rfl (by decide) _ _ _ rfl (ownLtT HO.out (((Below.refl _ _).alloc (Nat.le_refl _) _).alloc (by simp) _)) ⟨w.heap.size + 1, 0, none⟩ 1 1 [.int .i64 k, .int .i64 p] rfl rfl (by have := two2 (w.alloc (.cells #[.int .i64 k, .int .i64 p] 96)) (.int .i64 k) (.int .i64 p) 96; simpa using this) (by intro u hu; simp at hu; rcases hu with rfl | rfl <;> rfl) H63.out.1 H63.out.2 (by simp; exact Nat.le_trans HB.out (by omega)) (by decide) ?_)
  intro v8 w8 h8 g8 o8
  have G8 : Hid (Gw w (.slice va n vc) v8 w8) := ((Gw.refl w _).alloc _).trans (Gw.step g8 (by simpa using o8))
  have O8 := hidT h8
  clear h8 g8 o8
  go_wp2_with fail
  go_ret
  exact ⟨v8, rfl, O8.out, G8.out⟩
end Go.Proofs.Ytgonadilbjfpkaa
