/- Layer 13: the first bytes of a tape are taken. -/
import Derived.Test.YtgonadilbjfpkaaTpN
namespace Go.Proofs.Ytgonadilbjfpkaa
open Go.RowKit
set_option linter.unusedVariables false
namespace Tp
theorem hd_mis : ∀ (ws cs : List Int) (i j : Nat) (x y : Int), ws.take j = cs.take j → ws[j]? = some x → cs[j]? = some y → x ≠ y → hd i ws cs = some (i + j, 110)
  | [], cs, i, j, x, y, _, hx, _, _ => by simp at hx
  | w :: ws, [], i, j, x, y, _, _, hy, _ => by simp at hy
  | w :: ws, c :: cs, i, 0, x, y, _, hx, hy, hn => by
    simp at hx hy
    subst hx hy
    rw [hd, if_neg (fun e => hn e.symm)]
    rfl
  | w :: ws, c :: cs, i, j + 1, x, y, ht, hx, hy, hn => by
    simp only [List.take_succ_cons, List.cons.injEq] at ht
    rw [hd, if_pos ht.1.symm, hd_mis ws cs (i + 1) j x y ht.2 (by simpa using hx) (by simpa using hy) hn]
    congr 2
    omega
theorem hd_pre : ∀ (ws cs : List Int) (i : Nat), cs = ws.take cs.length → hd i ws cs = if cs.length < ws.length then some (i + cs.length, 112) else none
  | [], [], i, _ => rfl
  | [], c :: cs, i, h => by simp at h
  | w :: ws, [], i, _ => by simp [hd]
  | w :: ws, c :: cs, i, h => by
    simp only [List.length_cons, List.take_succ_cons, List.cons.injEq] at h
    rw [hd, if_pos h.1, hd_pre ws cs (i + 1) h.2]
    simp only [List.length_cons, Nat.add_lt_add_iff_right]
    split
    · congr 2
      omega
    · rfl
theorem hd_long : ∀ (ws cs : List Int) (i : Nat), hd i ws cs = hd i ws (cs.take ws.length)
  | [], cs, i => by simp [hd]
  | w :: ws, [], i => by simp
  | w :: ws, c :: cs, i => by
    simp only [List.length_cons, List.take_succ_cons]
    rw [hd, hd]
    split
    · exact hd_long ws cs (i + 1)
    · rfl
/-- What is found of the first bytes: what is not there is as wanted. -/
def fnd (ws b : List Int) : List Int := b.take ws.length ++ ws.drop (Nat.min b.length ws.length)
theorem fnd_len (ws b : List Int) : (fnd ws b).length = ws.length := by
  unfold fnd
  rw [List.length_append, List.length_take, List.length_drop]
  show min ws.length b.length + (ws.length - min b.length ws.length) = ws.length
  omega
theorem hd_same (ws b : List Int) (h : fnd ws b = ws) : hd 0 ws b = if b.length < ws.length then some (b.length, 112) else none := by
  rw [hd_long]
  have hp : b.take ws.length = ws.take (b.take ws.length).length := by
    have := congrArg (List.take (b.take ws.length).length) h
    unfold fnd at this
    rw [List.take_left] at this
    exact this
  rw [hd_pre ws _ 0 hp]
  simp only [List.length_take, Nat.zero_add]
  by_cases hl : b.length < ws.length
  · rw [if_pos (by omega), if_pos hl, Nat.min_eq_right (by omega)]
  · rw [if_neg (by omega), if_neg hl]
theorem hd_other (ws b : List Int) (j : Nat) (x y : Int) (ht : (fnd ws b).take j = ws.take j) (hx : ws[j]? = some x) (hy : (fnd ws b)[j]? = some y) (hn : x ≠ y) : hd 0 ws b = some (j, 110) := by
  have hj : j < ws.length := (List.getElem?_eq_some_iff.1 hx).1
  have hjb : j < (b.take ws.length).length := by
    rcases Nat.lt_or_ge j (b.take ws.length).length with h | h
    · exact h
    · exfalso
      unfold fnd at hy
      rw [List.getElem?_append_right h, List.getElem?_drop] at hy
      rw [List.length_take] at h hy
      have e : Nat.min b.length ws.length + (j - min ws.length b.length) = j := by
        show min b.length ws.length + (j - min ws.length b.length) = j
        omega
      rw [e, hx] at hy
      cases hy
      exact hn rfl
  rw [hd_long]
  have := hd_mis ws (b.take ws.length) 0 j x y ?_ hx ?_ hn
  · simpa using this
  · rw [← ht]
    unfold fnd
    rw [List.take_append_of_le_length (Nat.le_of_lt hjb)]
  · unfold fnd at hy
    rwa [List.getElem?_append_left hjb] at hy
theorem take_all {f ws : List Int} {j : Nat} (h : f.take j = ws.take j) (hl : f.length = ws.length) (hj : ws.length ≤ j) : f = ws := by
  rwa [List.take_of_length_le (by omega), List.take_of_length_le hj] at h
end Tp
theorem five_of (l : List Int) (h : l.length = 5) : ∃ a b c d e, l = [a, b, c, d, e] := by
  match l, h with
  | [a, b, c, d, e], _ => exact ⟨a, b, c, d, e, rfl⟩
/-- While the first bytes are looked at: wanted in the block M, found in the next. -/
structure HdR (w : World) (g : Nat) (T : TypeId) (a : Option Addr) (c : Nat) (b : List Int) (r : List Value) (M : Nat) (ws f : List Int) (k : Nat) (wr : World) : Prop where
  p : PlB wr g T a c b k r
  gb : w.grownBy wr (some g)
  h4 : wr.heap[M]? = some (.cells (byC ws).toArray 83 (0, 0))
  h5 : wr.heap[M + 1]? = some (.cells (byC f).toArray 83 (0, 0))
  lo : w.heap.size ≤ M
theorem HdR.set {w : World} {g : Nat} {T : TypeId} {a : Option Addr} {c : Nat} {b : List Int} {r : List Value} {M : Nat} {ws f : List Int} {k k' : Nat} {wr : World} (h : HdR w g T a c b r M ws f k wr) (hk : k' ≤ b.length) (hg : g < w.heap.size) : HdR w g T a c b r M ws f k' (wr.setCell ⟨g, 1, none⟩ (.int .i64 k')) := by
  obtain ⟨s1, s2⟩ := h.p.set hk
  have l4 := (Array.getElem?_eq_some_iff.1 h.h4).1
  have l5 := (Array.getElem?_eq_some_iff.1 h.h5).1
  have := h.lo
  exact ⟨s1, gbT h.gb s2, (s2.block M l4 (by simp; omega)).trans h.h4, (s2.block (M + 1) l5 (by simp; omega)).trans h.h5, h.lo⟩
theorem HdR.dr {w : World} {g : Nat} {T : TypeId} {a : Option Addr} {c : Nat} {b : List Int} {r : List Value} {M : Nat} {ws f : List Int} {k : Nat} {wr : World} (h : HdR w g T a c b r M ws f k wr) (n : Nat) : HdR w g T a c b r M ws f k (wr.drewN n) :=
  ⟨h.p.later (drN (Below.refl _ _) n), drG h.gb n, h.h4, h.h5, h.lo⟩
theorem HdR.c4 {w : World} {g : Nat} {T : TypeId} {a : Option Addr} {c : Nat} {b : List Int} {r : List Value} {M : Nat} {ws f : List Int} {k : Nat} {wr : World} (h : HdR w g T a c b r M ws f k wr) {j : Nat} {x : Int} (hx : ws[j]? = some x) : wr.cell? ⟨M, j, none⟩ = some (.int .u8 x) := by
  have := byC_get hx
  simp [World.cell?, h.h4, this]
theorem HdR.c5 {w : World} {g : Nat} {T : TypeId} {a : Option Addr} {c : Nat} {b : List Int} {r : List Value} {M : Nat} {ws f : List Int} {k : Nat} {wr : World} (h : HdR w g T a c b r M ws f k wr) {j : Nat} {x : Int} (hx : f[j]? = some x) : wr.cell? ⟨M + 1, j, none⟩ = some (.int .u8 x) := by
  have := byC_get hx
  simp [World.cell?, h.h5, this]
/-- What the copy leaves. -/
theorem hd_copy (w : World) (g : Nat) (T : TypeId) (a : Option Addr) (c : Nat) (b : List Int) (r : List Value) (h : PlB w g T a c b 0 r) (w1 : World) (K1 : Below w.heap.size w w1) (ws : List Int) (hw : ws.length = 5) (W2 : World) (hW2 : W2 = (w1.alloc (.cells (byC ws).toArray 83)).alloc (.cells (byC ws).toArray 83)) :
    W2.cell? ⟨g, 0, none⟩ = some (.slice a b.length c) ∧ ∃ W3, (∀ ty, (Builtin.copy_ #[22, 22] ty #[.slice (some ⟨w1.heap.size + 1, 0, none⟩) 5 5, .slice a b.length c]).run Try.prog W2.drew = .ok (goInt (Nat.min b.length 5)) W3) ∧ HdR w g T a c b r w1.heap.size ws (Tp.fnd ws b) 0 W3 := by
  have B2 : Below w1.heap.size w1 W2 := by
    rw [hW2]
    exact ((Below.refl _ _).alloc (Nat.le_refl _) _).alloc (by simp) _
  have B3 : Below w.heap.size w W2 := K1.trans (B2.mono K1.size)
  have h4 : W2.heap[w1.heap.size]? = some (.cells (byC ws).toArray 83 (0, 0)) := by
    rw [hW2, ((Below.refl _ (w1.alloc (.cells (byC ws).toArray 83))).alloc (Nat.le_refl _) _).block w1.heap.size (by simp)]
    exact heap_alloc_new w1 _
  have h5 : W2.heap[w1.heap.size + 1]? = some (.cells (byC ws).toArray 83 (0, 0)) := by
    rw [hW2]
    have := heap_alloc_new (w1.alloc (.cells (byC ws).toArray 83)) (.cells (byC ws).toArray 83)
    simpa using this
  have hP : PlB W2 g T a c b 0 r := h.later (B3.mono h.lt)
  refine ⟨hP.c0, ?_⟩
  have hlo : w.heap.size ≤ w1.heap.size := K1.size
  rcases Nat.eq_zero_or_pos b.length with h0 | h0
  · refine ⟨W2.drew, fun ty => ?_, hP.later (drN (Below.refl _ _) 1), drG (gbOf B3) 1, h4, ?_, hlo⟩
    · rw [h0]
      exact run_copy_none _ 22 22 ty 5 _ a 5 5 0 c slE infoB1 (by simp)
    · have e : Tp.fnd ws b = ws := by
        have hb : b = [] := List.eq_nil_of_length_eq_zero h0
        subst hb
        simp [Tp.fnd]
      rw [e]
      exact h5
  · obtain ⟨ga, o, rfl, hga, hce⟩ := hP.bs h0
    obtain ⟨W3, hcp, hm, g3⟩ := cp_some W2.drew (w1.heap.size + 1) 83 (byC ws) 5 h5 (by rw [byC_len, hw]) b ga o c hce
    have gg := hP.lt
    have hgw := h.lt
    have B4 : Below w.heap.size w W3 := B3.trans ⟨g3.os, g3.tape, g3.output, g3.size, fun i hi => g3.block i (by have := B3.size; simp; omega) (by simp; omega)⟩
    refine ⟨W3, hcp, h.later (B4.mono h.lt), gbOf B4, ?_, ?_, hlo⟩
    · rw [g3.block w1.heap.size (by have := B2.size; have : w1.heap.size < W2.heap.size := (Array.getElem?_eq_some_iff.1 h4).1; simpa using this) (by simp)]
      exact h4
    · rw [hm]
      congr 2
      unfold Tp.fnd
      rw [byC_app, hw]
      congr 1
      unfold byC
      rw [List.map_drop]
end Go.Proofs.Ytgonadilbjfpkaa
