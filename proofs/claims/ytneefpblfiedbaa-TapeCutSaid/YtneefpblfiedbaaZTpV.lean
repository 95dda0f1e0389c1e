/- Layer 13: the end of a tape is taken. -/
/- Layer 13: the first bytes of a tape are taken. -/
/- Layer 13: head. -/
/- Layer 13: the end of a tape: the sum is another. -/
/- Layer 13: the end of a tape: it is followed by something, or by nothing. -/
/- Layer 13: an input's tape is read, in the reader's box. -/
/- Layer 13: the reader of an input, whole. -/
/- Layer 13: attempt; ReadInput. -/
import Derived.Test.YtneefpblfiedbaaZTpO
import Derived.Laws.CopyRow
import Derived.Laws.IdiomCopy
import Derived.Defers
import Derived.Recover
namespace Go.Proofs.Ytneefpblfiedbaa
open Go.RowKit
set_option linter.unusedVariables false
theorem infoB1 : (Try.prog.info? 5).map (·.size) = some 1 := by kernel_rfl
theorem slE : Try.prog.underlying 27 = some (.slice 5) := Try.underlying27
/-- Bytes are copied to the front of a row. -/
theorem cp_some (W : World) (m : Nat) (T : TypeId) (z : List Value) (N : Nat) (hm : W.heap[m]? = some (.cells z.toArray T (0, 0))) (hz : z.length = N) (l : List Int) (ga oa cl : Nat) (hs : ∀ j x, l[j]? = some x → W.cell? ⟨ga, oa + j, none⟩ = some (.int .u8 x)) :
    ∃ W1, (∀ ty, (Builtin.copy_ #[27, 27] ty #[.slice (some ⟨m, 0, none⟩) N N, .slice (some ⟨ga, oa, none⟩) l.length cl]).run Try.prog W = .ok (goInt (Nat.min l.length N)) W1) ∧ W1.heap[m]? = some (.cells (byC (l.take N) ++ z.drop (Nat.min l.length N)).toArray T (0, 0)) ∧ W.grownBy W1 (some m) := by
  have hcl : (byC (l.take N)).length = Nat.min l.length N := by rw [byC_len, List.length_take, Nat.min_comm]
  have hmn : Nat.min l.length N ≤ N := Nat.min_le_right _ _
  refine ⟨W.setRow m (z.take 0 ++ byC (l.take N) ++ z.drop (0 + (byC (l.take N)).length)).toArray, fun ty => ?_, ?_, ?_⟩
  · have := run_copy_row (P := Try.prog) W 27 27 ty 5 m 0 N N ⟨ga, oa, none⟩ l.length cl z.toArray T (byC (l.take N)) slE infoB1 hm hcl (fun j v hj => by
      rw [adT]
      have hx : (byC (l.take N))[j]? = (l.take N)[j]?.map (Value.int .u8) := by unfold byC; rw [List.getElem?_map]
      rw [hx] at hj
      cases hy : (l.take N)[j]? with
      | none => rw [hy] at hj; cases hj
      | some x =>
        rw [hy] at hj
        cases hj
        rw [List.getElem?_take] at hy
        split at hy
        · exact hs j x hy
        · cases hy) (by rw [hcl, Nat.zero_add, List.size_toArray, hz]; exact hmn) (byC_one _)
    rw [hcl] at this ⊢
    exact this
  · rw [setRow_heap W m z.toArray _ T _ hm, hcl]
    simp
  · exact ⟨rfl, rfl, rfl, by simp, fun k _ hk => setRow_other W m k _ (fun e => hk (by rw [e]))⟩
set_option maxRecDepth 100000 in
set_option maxHeartbeats 2000000 in
theorem end_none (w : World) (g : Nat) (T : TypeId) (a : Option Addr) (c : Nat) (b : List Int) (r : List Value) (h : PlB w g T a c b b.length r) :
    Calls Try.prog 53 #[.pointer (some ⟨g, 0, none⟩)] w fun e w' => e = tpPan 112 ∧ PlQ g T a c b r w b.length w' := by
  have hkl := h.le
  have hln := h.ln
  have hcap := h.cap
  obtain ⟨n, hn⟩ : ∃ n, n = b.length := ⟨_, rfl⟩
  have HN := hidT hn
  rw [← hn] at hkl hln hcap
  obtain ⟨W0, hW0⟩ : ∃ W, W = w.alloc (.cells #[.int .u8 0, .int .u8 0, .int .u8 0, .int .u8 0] 83) := ⟨_, rfl⟩
  have B0 : Below w.heap.size w W0 := by rw [hW0]; exact (Below.refl _ _).alloc (Nat.le_refl _) _
  have H0 := hidT (h.later (B0.mono h.lt))
  have G0 : Hid (w.grownBy W0 (some g)) := gbOf B0
  have a0 := H0.out.c0
  have a1 := H0.out.c1
  rw [← hn] at a0 a1
  have hcp : ∀ ty d c1 a c, (Builtin.copy_ #[27, 27] ty #[.slice d 4 c1, .slice a 0 c]).run Try.prog W0.drew = .ok (goInt 0) W0.drew := fun ty d c1 a c => run_copy_none _ 27 27 ty 5 d a 4 c1 0 c slE infoB1 (by simp)
  have hs : n - n = 0 := Nat.sub_self n
  have HF : Hid (PlQ g T a c b r w b.length W0.drew) := ⟨H0.out.later (drN (Below.refl _ _) 1), drG G0.out 1⟩
  clear h B0 G0 H0
  rcases Nat.lt_or_ge n c with hz | hz
  · have hz1 : ¬ c = n := by omega
    have hz2 : (c - n == 0) = false := by simp; omega
    clear hn
    go_enter Try.func53, Try.ntmps53
    go_upto_region 1 with fail
    rw [← hW0]
    clear hW0
    go_region
    go_wp2_with fail
    refine (must_no 112 _).mono ?_
    unfold tpPan
    rintro e w' ⟨rfl, rfl⟩
    go_wp2_with fail
    exact ⟨rfl, rfl, HF.out⟩
  · obtain rfl : c = n := by omega
    clear hn
    go_enter Try.func53, Try.ntmps53
    go_upto_region 1 with fail
    rw [← hW0]
    clear hW0
    go_region
    go_wp2_with fail
    refine (must_no 112 _).mono ?_
    unfold tpPan
    rintro e w' ⟨rfl, rfl⟩
    go_wp2_with fail
    exact ⟨rfl, rfl, HF.out⟩
set_option maxRecDepth 100000 in
set_option maxHeartbeats 2000000 in
theorem end_short (w : World) (g : Nat) (T : TypeId) (a : Option Addr) (c : Nat) (b : List Int) (k : Nat) (r : List Value) (h : PlB w g T a c b k r) (hs : b.length < k + 4) (hk : k < b.length) :
    Calls Try.prog 53 #[.pointer (some ⟨g, 0, none⟩)] w fun e w' => e = tpPan 112 ∧ PlQ g T a c b r w k w' := by
  have hkl := h.le
  have hln := h.ln
  have hcap := h.cap
  obtain ⟨ga, o, rfl, hga, hce⟩ := h.bs (by omega)
  obtain ⟨n, hn⟩ : ∃ n, n = b.length := ⟨_, rfl⟩
  obtain ⟨W0, hW0⟩ : ∃ W, W = w.alloc (.cells #[.int .u8 0, .int .u8 0, .int .u8 0, .int .u8 0] 83) := ⟨_, rfl⟩
  have B0 : Below w.heap.size w W0 := by rw [hW0]; exact (Below.refl _ _).alloc (Nat.le_refl _) _
  have H0 := hidT (h.later (B0.mono h.lt))
  have a0 := H0.out.c0
  have a1 := H0.out.c1
  have hm0 : W0.heap[w.heap.size]? = some (.cells [.int .u8 0, .int .u8 0, .int .u8 0, .int .u8 0].toArray 83 (0, 0)) := by rw [hW0]; exact heap_alloc_new w _
  obtain ⟨W1, hcp, hm1, g1⟩ := cp_some W0.drew w.heap.size 83 _ 4 hm0 rfl (b.drop k) ga (o + k) (c - k) (fun j x hj => by
    rw [List.getElem?_drop] at hj
    rw [Nat.add_assoc]
    exact (B0.cell (p := ⟨ga, _, none⟩) (Nat.lt_trans hga h.lt)).trans (hce _ x hj))
  have B1 : Below w.heap.size w W1 := B0.trans ⟨g1.os, g1.tape, g1.output, g1.size, fun i hi => g1.block i (by have := B0.size; simp; omega) (by simp; omega)⟩
  have HF : Hid (PlQ g T (some ⟨ga, o, none⟩) c b r w k W1) := ⟨h.later (B1.mono h.lt), gbOf B1⟩
  rw [← hn] at hkl hln hcap a0 hs hk
  rw [List.length_drop, ← hn] at hcp
  have hmin : Nat.min (n - k) 4 = n - k := Nat.min_eq_left (by omega)
  rw [hmin] at hcp
  have q4 : (((n - k : Nat) : Int) == 4) = false := by simp; omega
  have q4n : ((n - k) == 4) = false := by simp; omega
  have q4m : ¬ n - k = 4 := by omega
  obtain ⟨L, hL⟩ : ∃ L, n - k = L := ⟨_, rfl⟩
  have hz1 : ¬ c = k := by omega
  have hz2 : (c - k == 0) = false := by simp; omega
  rw [hL] at hcp q4 q4n q4m
  clear h B0 H0 hce hn hm1 g1 B1 hm0 hmin
  go_enter Try.func53, Try.ntmps53
  go_upto_region 1 with fail
  rw [← hW0]
  clear hW0
  go_region
  go_wp2_with fail
  refine (must_no 112 _).mono ?_
  unfold tpPan
  rintro e w' ⟨rfl, rfl⟩
  go_wp2_with fail
  exact ⟨rfl, rfl, HF.out⟩
end Go.Proofs.Ytneefpblfiedbaa

namespace Go.Proofs.Ytneefpblfiedbaa
open Go.RowKit
set_option linter.unusedVariables false
namespace Tp
theorem hd_mis : ∀ (ws cs : List Int) (i j : Nat) (x y : Int), ws.take j = cs.take j → ws[j]? = some x → cs[j]? = some y → x ≠ y → hd i ws cs = some (i + j, 110)
  | [], cs, i, j, x, y, _, hx, _, _ => by simp at hx
  | w :: ws, [], i, j, x, y, _, _, hy, _ => by simp at hy
  | w :: ws, c :: cs, i, 0, x, y, _, hx, hy, hn => by
    simp at hx hy
    subst hx hy
    rw [hd, if_neg (fun e => hn e.symm)]
    rfl
  | w :: ws, c :: cs, i, j + 1, x, y, ht, hx, hy, hn => by
    simp only [List.take_succ_cons, List.cons.injEq] at ht
    rw [hd, if_pos ht.1.symm, hd_mis ws cs (i + 1) j x y ht.2 (by simpa using hx) (by simpa using hy) hn]
    congr 2
    omega
theorem hd_pre : ∀ (ws cs : List Int) (i : Nat), cs = ws.take cs.length → hd i ws cs = if cs.length < ws.length then some (i + cs.length, 112) else none
  | [], [], i, _ => rfl
  | [], c :: cs, i, h => by simp at h
  | w :: ws, [], i, _ => by simp [hd]
  | w :: ws, c :: cs, i, h => by
    simp only [List.length_cons, List.take_succ_cons, List.cons.injEq] at h
    rw [hd, if_pos h.1, hd_pre ws cs (i + 1) h.2]
    simp only [List.length_cons, Nat.add_lt_add_iff_right]
    split
    · congr 2
      omega
    · rfl
theorem hd_long : ∀ (ws cs : List Int) (i : Nat), hd i ws cs = hd i ws (cs.take ws.length)
  | [], cs, i => by simp [hd]
  | w :: ws, [], i => by simp
  | w :: ws, c :: cs, i => by
    simp only [List.length_cons, List.take_succ_cons]
    rw [hd, hd]
    split
    · exact hd_long ws cs (i + 1)
    · rfl
/-- What is found of the first bytes: what is not there is as wanted. -/
def fnd (ws b : List Int) : List Int := b.take ws.length ++ ws.drop (Nat.min b.length ws.length)
theorem fnd_len (ws b : List Int) : (fnd ws b).length = ws.length := by
  unfold fnd
  rw [List.length_append, List.length_take, List.length_drop]
  show min ws.length b.length + (ws.length - min b.length ws.length) = ws.length
  omega
theorem hd_same (ws b : List Int) (h : fnd ws b = ws) : hd 0 ws b = if b.length < ws.length then some (b.length, 112) else none := by
  rw [hd_long]
  have hp : b.take ws.length = ws.take (b.take ws.length).length := by
    have := congrArg (List.take (b.take ws.length).length) h
    unfold fnd at this
    rw [List.take_left] at this
    exact this
  rw [hd_pre ws _ 0 hp]
  simp only [List.length_take, Nat.zero_add]
  by_cases hl : b.length < ws.length
  · rw [if_pos (by omega), if_pos hl, Nat.min_eq_right (by omega)]
  · rw [if_neg (by omega), if_neg hl]
theorem hd_other (ws b : List Int) (j : Nat) (x y : Int) (ht : (fnd ws b).take j = ws.take j) (hx : ws[j]? = some x) (hy : (fnd ws b)[j]? = some y) (hn : x ≠ y) : hd 0 ws b = some (j, 110) := by
  have hj : j < ws.length := (List.getElem?_eq_some_iff.1 hx).1
  have hjb : j < (b.take ws.length).length := by
    rcases Nat.lt_or_ge j (b.take ws.length).length with h | h
    · exact h
    · exfalso
      unfold fnd at hy
      rw [List.getElem?_append_right h, List.getElem?_drop] at hy
      rw [List.length_take] at h hy
      have e : Nat.min b.length ws.length + (j - min ws.length b.length) = j := by
        show min b.length ws.length + (j - min ws.length b.length) = j
        omega
      rw [e, hx] at hy
      cases hy
      exact hn rfl
  rw [hd_long]
  have := hd_mis ws (b.take ws.length) 0 j x y ?_ hx ?_ hn
  · simpa using this
  · rw [← ht]
    unfold fnd
    rw [List.take_append_of_le_length (Nat.le_of_lt hjb)]
  · unfold fnd at hy
    rwa [List.getElem?_append_left hjb] at hy
theorem take_all {f ws : List Int} {j : Nat} (h : f.take j = ws.take j) (hl : f.length = ws.length) (hj : ws.length ≤ j) : f = ws := by
  rwa [List.take_of_length_le (by omega), List.take_of_length_le hj] at h
end Tp
theorem five_of (l : List Int) (h : l.length = 5) : ∃ a b c d e, l = [a, b, c, d, e] := by
  match l, h with
  | [a, b, c, d, e], _ => exact ⟨a, b, c, d, e, rfl⟩
/-- While the first bytes are looked at: wanted in the block M, found in the next. -/
structure HdR (w : World) (g : Nat) (T : TypeId) (a : Option Addr) (c : Nat) (b : List Int) (r : List Value) (M : Nat) (ws f : List Int) (k : Nat) (wr : World) : Prop where
  p : PlB wr g T a c b k r
  gb : w.grownBy wr (some g)
  h4 : wr.heap[M]? = some (.cells (byC ws).toArray 78 (0, 0))
  h5 : wr.heap[M + 1]? = some (.cells (byC f).toArray 78 (0, 0))
  lo : w.heap.size ≤ M
theorem HdR.set {w : World} {g : Nat} {T : TypeId} {a : Option Addr} {c : Nat} {b : List Int} {r : List Value} {M : Nat} {ws f : List Int} {k k' : Nat} {wr : World} (h : HdR w g T a c b r M ws f k wr) (hk : k' ≤ b.length) (hg : g < w.heap.size) : HdR w g T a c b r M ws f k' (wr.setCell ⟨g, 1, none⟩ (.int .i64 k')) := by
  obtain ⟨s1, s2⟩ := h.p.set hk
  have l4 := (Array.getElem?_eq_some_iff.1 h.h4).1
  have l5 := (Array.getElem?_eq_some_iff.1 h.h5).1
  have := h.lo
  exact ⟨s1, gbT h.gb s2, (s2.block M l4 (by simp; omega)).trans h.h4, (s2.block (M + 1) l5 (by simp; omega)).trans h.h5, h.lo⟩
theorem HdR.dr {w : World} {g : Nat} {T : TypeId} {a : Option Addr} {c : Nat} {b : List Int} {r : List Value} {M : Nat} {ws f : List Int} {k : Nat} {wr : World} (h : HdR w g T a c b r M ws f k wr) (n : Nat) : HdR w g T a c b r M ws f k (wr.drewN n) :=
  ⟨h.p.later (drN (Below.refl _ _) n), drG h.gb n, h.h4, h.h5, h.lo⟩
theorem HdR.c4 {w : World} {g : Nat} {T : TypeId} {a : Option Addr} {c : Nat} {b : List Int} {r : List Value} {M : Nat} {ws f : List Int} {k : Nat} {wr : World} (h : HdR w g T a c b r M ws f k wr) {j : Nat} {x : Int} (hx : ws[j]? = some x) : wr.cell? ⟨M, j, none⟩ = some (.int .u8 x) := by
  have := byC_get hx
  simp [World.cell?, h.h4, this]
theorem HdR.c5 {w : World} {g : Nat} {T : TypeId} {a : Option Addr} {c : Nat} {b : List Int} {r : List Value} {M : Nat} {ws f : List Int} {k : Nat} {wr : World} (h : HdR w g T a c b r M ws f k wr) {j : Nat} {x : Int} (hx : f[j]? = some x) : wr.cell? ⟨M + 1, j, none⟩ = some (.int .u8 x) := by
  have := byC_get hx
  simp [World.cell?, h.h5, this]
/-- What the copy leaves. -/
theorem hd_copy (w : World) (g : Nat) (T : TypeId) (a : Option Addr) (c : Nat) (b : List Int) (r : List Value) (h : PlB w g T a c b 0 r) (w1 : World) (K1 : Below w.heap.size w w1) (ws : List Int) (hw : ws.length = 5) (W2 : World) (hW2 : W2 = (w1.alloc (.cells (byC ws).toArray 78)).alloc (.cells (byC ws).toArray 78)) :
    W2.cell? ⟨g, 0, none⟩ = some (.slice a b.length c) ∧ ∃ W3, (∀ ty, (Builtin.copy_ #[27, 27] ty #[.slice (some ⟨w1.heap.size + 1, 0, none⟩) 5 5, .slice a b.length c]).run Try.prog W2.drew = .ok (goInt (Nat.min b.length 5)) W3) ∧ HdR w g T a c b r w1.heap.size ws (Tp.fnd ws b) 0 W3 := by
  have B2 : Below w1.heap.size w1 W2 := by
    rw [hW2]
    exact ((Below.refl _ _).alloc (Nat.le_refl _) _).alloc (by simp) _
  have B3 : Below w.heap.size w W2 := K1.trans (B2.mono K1.size)
  have h4 : W2.heap[w1.heap.size]? = some (.cells (byC ws).toArray 78 (0, 0)) := by
    rw [hW2, ((Below.refl _ (w1.alloc (.cells (byC ws).toArray 78))).alloc (Nat.le_refl _) _).block w1.heap.size (by simp)]
    exact heap_alloc_new w1 _
  have h5 : W2.heap[w1.heap.size + 1]? = some (.cells (byC ws).toArray 78 (0, 0)) := by
    rw [hW2]
    have := heap_alloc_new (w1.alloc (.cells (byC ws).toArray 78)) (.cells (byC ws).toArray 78)
    simpa using this
  have hP : PlB W2 g T a c b 0 r := h.later (B3.mono h.lt)
  refine ⟨hP.c0, ?_⟩
  have hlo : w.heap.size ≤ w1.heap.size := K1.size
  rcases Nat.eq_zero_or_pos b.length with h0 | h0
  · refine ⟨W2.drew, fun ty => ?_, hP.later (drN (Below.refl _ _) 1), drG (gbOf B3) 1, h4, ?_, hlo⟩
    · rw [h0]
      exact run_copy_none _ 27 27 ty 5 _ a 5 5 0 c slE infoB1 (by simp)
    · have e : Tp.fnd ws b = ws := by
        have hb : b = [] := List.eq_nil_of_length_eq_zero h0
        subst hb
        simp [Tp.fnd]
      rw [e]
      exact h5
  · obtain ⟨ga, o, rfl, hga, hce⟩ := hP.bs h0
    obtain ⟨W3, hcp, hm, g3⟩ := cp_some W2.drew (w1.heap.size + 1) 78 (byC ws) 5 h5 (by rw [byC_len, hw]) b ga o c hce
    have gg := hP.lt
    have hgw := h.lt
    have B4 : Below w.heap.size w W3 := B3.trans ⟨g3.os, g3.tape, g3.output, g3.size, fun i hi => g3.block i (by have := B3.size; simp; omega) (by simp; omega)⟩
    refine ⟨W3, hcp, h.later (B4.mono h.lt), gbOf B4, ?_, ?_, hlo⟩
    · rw [g3.block w1.heap.size (by have := B2.size; have : w1.heap.size < W2.heap.size := (Array.getElem?_eq_some_iff.1 h4).1; simpa using this) (by simp)]
      exact h4
    · rw [hm]
      congr 2
      unfold Tp.fnd
      rw [byC_app, hw]
      congr 1
      unfold byC
      rw [List.map_drop]
end Go.Proofs.Ytneefpblfiedbaa

namespace Go.Proofs.Ytneefpblfiedbaa
open Go.RowKit
set_option linter.unusedVariables false
set_option linter.unusedSimpArgs false
theorem neqAr (w : World) (x0 x1 x2 x3 x4 y0 y1 y2 y3 y4 : Int) : (Op.equalIn 10000 78 (.agg #[.int .u8 x0, .int .u8 x1, .int .u8 x2, .int .u8 x3, .int .u8 x4]) (.agg #[.int .u8 y0, .int .u8 y1, .int .u8 y2, .int .u8 y3, .int .u8 y4])).run Try.prog w = .ok (decide ([x0, x1, x2, x3, x4] = [y0, y1, y2, y3, y4])) w :=
  eqAr w [x0, x1, x2, x3, x4] [y0, y1, y2, y3, y4] 78 5 Try.underlying78 rfl rfl
def hdQ (g : Nat) (T : TypeId) (a : Option Addr) (c : Nat) (b : List Int) (r : List Value) (w : World) (w' : World) (e : Ending) : Option (Nat × Int) → Prop
  | none => e = .returned (.tuple #[]) ∧ PlQ g T a c b r w 5 w'
  | some (i, x) => e = tpPan x ∧ PlQ g T a c b r w i w'
theorem Tp.fnd_lt (ws b : List Int) (i : Nat) (ht : (Tp.fnd ws b).take i = ws.take i) (hn : ¬ Tp.fnd ws b = ws) : i < b.length := by
  rcases Nat.lt_or_ge i b.length with h | h
  · exact h
  · exfalso
    rcases Nat.lt_or_ge ws.length b.length with h2 | h2
    · exact hn (Tp.take_all ht (Tp.fnd_len ws b) (by omega))
    · have e1 : (Tp.fnd ws b).take b.length = ws.take b.length := by
        have := congrArg (List.take b.length) ht
        rwa [List.take_take, List.take_take, Nat.min_eq_left h] at this
      have e2 : Tp.fnd ws b = b ++ ws.drop b.length := by
        unfold Tp.fnd
        rw [List.take_of_length_le h2, show Nat.min b.length ws.length = b.length from Nat.min_eq_left h2]
      rw [e2, List.take_left] at e1
      apply hn
      rw [e2]
      conv => lhs; lhs; rw [e1]
      exact List.take_append_drop _ _
set_option maxRecDepth 100000 in
set_option maxHeartbeats 4000000 in
theorem head_short (w : World) (g : Nat) (T : TypeId) (a : Option Addr) (c : Nat) (b : List Int) (r : List Value) (h : PlB w g T a c b 0 r) (kd : Int) (f0 f1 f2 f3 f4 : Int) (hf : Tp.fnd (Tp.head kd) b = [f0, f1, f2, f3, f4]) (he : [f0, f1, f2, f3, f4] = [80, 76, 88, 49, kd]) (hl : b.length < 5) :
    Calls Try.prog 51 #[.pointer (some ⟨g, 0, none⟩), .int .u8 kd] w fun e w' => e = tpPan 112 ∧ PlQ g T a c b r w b.length w' := by
  have H := hidT h
  have hgw := h.lt
  have hln := h.ln
  have HF := hidT hf
  obtain ⟨n, hn⟩ : ∃ n, n = b.length := ⟨_, rfl⟩
  have HN := hidT hn
  have hEq := (fun W => neqAr W f0 f1 f2 f3 f4 80 76 88 49 kd)
  simp only [decide_eq_true he] at hEq
  have HE := hidT he
  rw [← hn] at hln
  clear h hf he
  go_enter Try.func51, Try.ntmps51
  go_wp2_with fail
  refine (headOf_any kd w).mono ?_
  rintro e w1 ⟨rfl, K1⟩
  obtain ⟨W2, hW2⟩ : ∃ W, W = (w1.alloc (.cells #[.int .u8 80, .int .u8 76, .int .u8 88, .int .u8 49, .int .u8 kd] 78)).alloc (.cells #[.int .u8 80, .int .u8 76, .int .u8 88, .int .u8 49, .int .u8 kd] 78) := ⟨_, rfl⟩
  obtain ⟨a0, W3, hcp, hr3⟩ := hd_copy w g T a c b r H.out w1 K1.out (Tp.head kd) rfl W2 hW2
  rw [HF.out] at hr3
  obtain ⟨L, hL⟩ : ∃ L, Nat.min b.length 5 = L := ⟨_, rfl⟩
  have HL := hidT hL
  rw [hL] at hcp
  rw [← HN.out] at hcp a0
  have HR := hidT hr3
  clear hr3 hL hn
  obtain ⟨M, hM⟩ : ∃ M, M = w1.heap.size := ⟨_, rfl⟩
  rw [← hM] at hcp HR
  go_upto_region 2 with fail
  rw [← hW2, ← hM]
  clear hW2 hM
  go_region
  have b1 := HR.out.p.c1
  have bf := HR.out.p.fz 1
  have p0 := HR.out.c4 (j := 0) (x := 80) rfl
  have p1 := HR.out.c4 (j := 1) (x := 76) rfl
  have p2 := HR.out.c4 (j := 2) (x := 88) rfl
  have p3 := HR.out.c4 (j := 3) (x := 49) rfl
  have p4 := HR.out.c4 (j := 4) (x := kd) rfl
  have r0 := HR.out.c5 (j := 0) (x := f0) rfl
  have r1 := HR.out.c5 (j := 1) (x := f1) rfl
  have r2 := HR.out.c5 (j := 2) (x := f2) rfl
  have r3 := HR.out.c5 (j := 3) (x := f3) rfl
  have r4 := HR.out.c5 (j := 4) (x := f4) rfl
  clear hcp a0
  have hLn : L = n := by rw [← HL.out, HN.out]; exact Nat.min_eq_left (by omega)
  have hl' : n < 5 := by rw [HN.out]; exact hl
  rw [hLn]
  clear hLn hl
  have q5 : ((n : Int) == 5) = false := by simp; omega
  have FIN := hidT (HR.out.set (k' := n) (by rw [HN.out]; exact Nat.le_refl _) hgw)
  go_wp2_with fail
  refine (must_no 112 _).mono ?_
  unfold tpPan
  rintro e w' ⟨rfl, rfl⟩
  go_wp2_with fail
  refine ⟨rfl, rfl, ?_⟩
  rw [← HN.out]
  exact ⟨FIN.out.p, FIN.out.gb⟩
set_option maxRecDepth 100000 in
set_option maxHeartbeats 4000000 in
theorem head_whole (w : World) (g : Nat) (T : TypeId) (a : Option Addr) (c : Nat) (b : List Int) (r : List Value) (h : PlB w g T a c b 0 r) (kd : Int) (f0 f1 f2 f3 f4 : Int) (hf : Tp.fnd (Tp.head kd) b = [f0, f1, f2, f3, f4]) (he : [f0, f1, f2, f3, f4] = [80, 76, 88, 49, kd]) (hl : 5 ≤ b.length) :
    Calls Try.prog 51 #[.pointer (some ⟨g, 0, none⟩), .int .u8 kd] w fun e w' => e = .returned (.tuple #[]) ∧ PlQ g T a c b r w 5 w' := by
  have H := hidT h
  have hgw := h.lt
  have hln := h.ln
  have HF := hidT hf
  obtain ⟨n, hn⟩ : ∃ n, n = b.length := ⟨_, rfl⟩
  have HN := hidT hn
  have hEq := (fun W => neqAr W f0 f1 f2 f3 f4 80 76 88 49 kd)
  simp only [decide_eq_true he] at hEq
  have HE := hidT he
  rw [← hn] at hln
  clear h hf he
  go_enter Try.func51, Try.ntmps51
  go_wp2_with fail
  refine (headOf_any kd w).mono ?_
  rintro e w1 ⟨rfl, K1⟩
  obtain ⟨W2, hW2⟩ : ∃ W, W = (w1.alloc (.cells #[.int .u8 80, .int .u8 76, .int .u8 88, .int .u8 49, .int .u8 kd] 78)).alloc (.cells #[.int .u8 80, .int .u8 76, .int .u8 88, .int .u8 49, .int .u8 kd] 78) := ⟨_, rfl⟩
  obtain ⟨a0, W3, hcp, hr3⟩ := hd_copy w g T a c b r H.out w1 K1.out (Tp.head kd) rfl W2 hW2
  rw [HF.out] at hr3
  obtain ⟨L, hL⟩ : ∃ L, Nat.min b.length 5 = L := ⟨_, rfl⟩
  have HL := hidT hL
  rw [hL] at hcp
  rw [← HN.out] at hcp a0
  have HR := hidT hr3
  clear hr3 hL hn
  obtain ⟨M, hM⟩ : ∃ M, M = w1.heap.size := ⟨_, rfl⟩
  rw [← hM] at hcp HR
  go_upto_region 2 with fail
  rw [← hW2, ← hM]
  clear hW2 hM
  go_region
  have b1 := HR.out.p.c1
  have bf := HR.out.p.fz 1
  have p0 := HR.out.c4 (j := 0) (x := 80) rfl
  have p1 := HR.out.c4 (j := 1) (x := 76) rfl
  have p2 := HR.out.c4 (j := 2) (x := 88) rfl
  have p3 := HR.out.c4 (j := 3) (x := 49) rfl
  have p4 := HR.out.c4 (j := 4) (x := kd) rfl
  have r0 := HR.out.c5 (j := 0) (x := f0) rfl
  have r1 := HR.out.c5 (j := 1) (x := f1) rfl
  have r2 := HR.out.c5 (j := 2) (x := f2) rfl
  have r3 := HR.out.c5 (j := 3) (x := f3) rfl
  have r4 := HR.out.c5 (j := 4) (x := f4) rfl
  clear hcp a0
  have hL5 : L = 5 := by rw [← HL.out]; exact Nat.min_eq_right hl
  subst hL5
  have FIN := hidT (HR.out.set (k' := 5) (by omega) hgw)
  clear hl
  go_wp2_with fail
  refine (must_yes 112 _).mono ?_
  rintro e w' ⟨rfl, rfl⟩
  go_wp2_with fail
  exact ⟨rfl, .tuple #[], by simp [results, Try.results51, go_sem], rfl, FIN.out.p, FIN.out.gb⟩
set_option maxRecDepth 100000 in
set_option maxHeartbeats 4000000 in
theorem head_other (w : World) (g : Nat) (T : TypeId) (a : Option Addr) (c : Nat) (b : List Int) (r : List Value) (h : PlB w g T a c b 0 r) (kd : Int) (f0 f1 f2 f3 f4 : Int) (hf : Tp.fnd (Tp.head kd) b = [f0, f1, f2, f3, f4]) (he : ¬ [f0, f1, f2, f3, f4] = [80, 76, 88, 49, kd]) (j : Nat) (hj : Tp.hd 0 (Tp.head kd) b = some (j, 110))  :
    Calls Try.prog 51 #[.pointer (some ⟨g, 0, none⟩), .int .u8 kd] w fun e w' => e = tpPan 110 ∧ PlQ g T a c b r w j w' := by
  have H := hidT h
  have hgw := h.lt
  have hln := h.ln
  have HF := hidT hf
  obtain ⟨n, hn⟩ : ∃ n, n = b.length := ⟨_, rfl⟩
  have HN := hidT hn
  have hEq := (fun W => neqAr W f0 f1 f2 f3 f4 80 76 88 49 kd)
  simp only [decide_eq_false he] at hEq
  have HE := hidT he
  rw [← hn] at hln
  clear h hf he
  go_enter Try.func51, Try.ntmps51
  go_wp2_with fail
  refine (headOf_any kd w).mono ?_
  rintro e w1 ⟨rfl, K1⟩
  obtain ⟨W2, hW2⟩ : ∃ W, W = (w1.alloc (.cells #[.int .u8 80, .int .u8 76, .int .u8 88, .int .u8 49, .int .u8 kd] 78)).alloc (.cells #[.int .u8 80, .int .u8 76, .int .u8 88, .int .u8 49, .int .u8 kd] 78) := ⟨_, rfl⟩
  obtain ⟨a0, W3, hcp, hr3⟩ := hd_copy w g T a c b r H.out w1 K1.out (Tp.head kd) rfl W2 hW2
  rw [HF.out] at hr3
  obtain ⟨L, hL⟩ : ∃ L, Nat.min b.length 5 = L := ⟨_, rfl⟩
  have HL := hidT hL
  rw [hL] at hcp
  rw [← HN.out] at hcp a0
  have HR := hidT hr3
  clear hr3 hL hn
  obtain ⟨M, hM⟩ : ∃ M, M = w1.heap.size := ⟨_, rfl⟩
  rw [← hM] at hcp HR
  go_upto_region 2 with fail
  rw [← hW2, ← hM]
  clear hW2 hM
  go_region
  have b1 := HR.out.p.c1
  have bf := HR.out.p.fz 1
  have p0 := HR.out.c4 (j := 0) (x := 80) rfl
  have p1 := HR.out.c4 (j := 1) (x := 76) rfl
  have p2 := HR.out.c4 (j := 2) (x := 88) rfl
  have p3 := HR.out.c4 (j := 3) (x := 49) rfl
  have p4 := HR.out.c4 (j := 4) (x := kd) rfl
  have r0 := HR.out.c5 (j := 0) (x := f0) rfl
  have r1 := HR.out.c5 (j := 1) (x := f1) rfl
  have r2 := HR.out.c5 (j := 2) (x := f2) rfl
  have r3 := HR.out.c5 (j := 3) (x := f3) rfl
  have r4 := HR.out.c5 (j := 4) (x := f4) rfl
  clear hcp a0
  have HJ := hidT hj
  clear hj
  go_wp2_with fail
  go_loopg [] 5 (fun gk wr => ∃ i : Nat, i + gk = 5 ∧ Hid (HdR w g T a c b r M (Tp.head kd) [f0, f1, f2, f3, f4] i wr) ∧ Hid ([f0, f1, f2, f3, f4].take i = (Tp.head kd).take i))
  case atStart => exact ⟨0, rfl, HR, hidT rfl⟩
  case round =>
    obtain ⟨i, hi, HI, HT⟩ := hrel
    rcases gk with _ | gk
    · exact (HE.out (Tp.take_all HT.out rfl (by simp [Tp.head]; omega))).elim
    · obtain ⟨x, hx⟩ : ∃ x, (Tp.head kd)[i]? = some x := ⟨_, List.getElem?_eq_getElem (by simp [Tp.head]; omega)⟩
      obtain ⟨y, hy⟩ : ∃ y, [f0, f1, f2, f3, f4][i]? = some y := ⟨_, List.getElem?_eq_getElem (by simp; omega)⟩
      have c1 := HI.out.p.c1
      have cf := HI.out.p.fz 1
      have cx := HI.out.c4 hx
      have cy := HI.out.c5 hy
      have hi5 : i < 5 := by omega
      have di5 : decide (i < 5) = true := decide_eq_true hi5
      have HX := hidT hx
      have HY := hidT hy
      clear hx hy p0 p1 p2 p3 p4 r0 r1 r2 r3 r4 b1 bf
      by_cases hxy : y = x
      · have q : (y == x) = true := by simpa using hxy
        have HXY := hidT hxy
        clear hxy
        have hib : i + 1 ≤ b.length := Tp.fnd_lt (Tp.head kd) b i (by rw [HF.out]; exact HT.out) (by rw [HF.out]; exact HE.out)
        go_upto_region 4 with fail
        go_quiet (fail)
        have HD := hidT (HI.out.dr nq)
        generalize wr.drewN nq = W5 at HD ⊢
        have d1 := HD.out.p.c1
        have df := HD.out.p.fz 1
        have FIN := hidT (HD.out.set (k' := i + 1) hib hgw)
        have ei : ((i + 1 : Nat) : Int) = (i : Int) + 1 := by omega
        rw [ei] at FIN
        clear c1 cf cx cy ei
        go_wp2_with fail
        go_roundg gk
        case measure => omega
        case rel =>
          refine ⟨i + 1, by omega, FIN, ?_⟩
          unfold Hid
          rw [List.take_add_one, List.take_add_one, HT.out, HX.out, HY.out, HXY.out]
      · have q : (y == x) = false := by simpa using hxy
        have hji := Tp.hd_other (Tp.head kd) b i x y (by rw [HF.out]; exact HT.out) HX.out (by rw [HF.out]; exact HY.out) (fun e => hxy e.symm)
        rw [HJ.out] at hji
        have hji2 : j = i := by cases hji; rfl
        have HJI := hidT hji2
        clear hji hji2 hxy
        go_upto_region 4 with fail
        go_quiet (fail)
        have HD := hidT (HI.out.dr nq)
        generalize wr.drewN nq = W5 at HD ⊢
        clear c1 cf cx cy
        go_wp2_with fail
        refine ⟨rfl, rfl, ?_⟩
        rw [HJI.out]
        exact ⟨HD.out.p, HD.out.gb⟩
theorem head_any (w : World) (g : Nat) (T : TypeId) (a : Option Addr) (c : Nat) (b : List Int) (r : List Value) (h : PlB w g T a c b 0 r) (kd : Int) :
    Calls Try.prog 51 #[.pointer (some ⟨g, 0, none⟩), .int .u8 kd] w fun e w' => hdQ g T a c b r w w' e (Tp.hd 0 (Tp.head kd) b) := by
  obtain ⟨f0, f1, f2, f3, f4, hf⟩ := five_of (Tp.fnd (Tp.head kd) b) (Tp.fnd_len _ _)
  by_cases he : [f0, f1, f2, f3, f4] = [80, 76, 88, 49, kd]
  · have hq := Tp.hd_same (Tp.head kd) b (by rw [hf]; exact he)
    rw [hq]
    by_cases hl : b.length < 5
    · rw [if_pos (show b.length < (Tp.head kd).length from hl)]
      exact head_short w g T a c b r h kd f0 f1 f2 f3 f4 hf he hl
    · rw [if_neg (show ¬ b.length < (Tp.head kd).length from hl)]
      exact head_whole w g T a c b r h kd f0 f1 f2 f3 f4 hf he (by omega)
  · obtain ⟨j, hj⟩ : ∃ j, Tp.hd 0 (Tp.head kd) b = some (j, 110) := by
      have key : ∀ m i, i + m = 5 → (Tp.fnd (Tp.head kd) b).take i = (Tp.head kd).take i → ∃ j, Tp.hd 0 (Tp.head kd) b = some (j, 110) := by
        intro m
        induction m with
        | zero => intro i hi ht; exact (he (by rw [← hf]; exact Tp.take_all ht (Tp.fnd_len _ _) (by simp [Tp.head]; omega))).elim
        | succ m ih =>
          intro i hi ht
          obtain ⟨x, hx⟩ : ∃ x, (Tp.head kd)[i]? = some x := ⟨_, List.getElem?_eq_getElem (by simp [Tp.head]; omega)⟩
          obtain ⟨y, hy⟩ : ∃ y, (Tp.fnd (Tp.head kd) b)[i]? = some y := ⟨_, List.getElem?_eq_getElem (by rw [Tp.fnd_len]; simp [Tp.head]; omega)⟩
          by_cases hxy : y = x
          · refine ih (i + 1) (by omega) ?_
            rw [List.take_add_one, List.take_add_one, ht, hx, hy, hxy]
          · exact ⟨i, Tp.hd_other _ _ i x y ht hx hy (fun e => hxy e.symm)⟩
      exact key 5 0 rfl rfl
    rw [hj]
    exact head_other w g T a c b r h kd f0 f1 f2 f3 f4 hf he j hj
end Go.Proofs.Ytneefpblfiedbaa

namespace Go.Proofs.Ytneefpblfiedbaa
open Go.RowKit
set_option linter.unusedVariables false
set_option maxRecDepth 100000 in
set_option maxHeartbeats 4000000 in
theorem end_bad (w : World) (g : Nat) (T : TypeId) (a : Option Addr) (c : Nat) (b : List Int) (k : Nat) (r : List Value) (h : PlB w g T a c b k r) (hs : k + 4 ≤ b.length) (x0 x1 x2 x3 : Int) (hx : (b.drop k).take 4 = [x0, x1, x2, x3]) (hsum : ¬ [x0, x1, x2, x3] = Tp.sl4 (Tp.sum (b.take k))) :
    Calls Try.prog 53 #[.pointer (some ⟨g, 0, none⟩)] w fun e w' => e = tpPan 111 ∧ PlQ g T a c b r w k w' := by
  have hkl := h.le
  have hln := h.ln
  have hcap := h.cap
  obtain ⟨ga, o, rfl, hga, hce⟩ := h.bs (by omega)
  obtain ⟨n, hn⟩ : ∃ n, n = b.length := ⟨_, rfl⟩
  obtain ⟨W0, hW0⟩ : ∃ W, W = w.alloc (.cells #[.int .u8 0, .int .u8 0, .int .u8 0, .int .u8 0] 83) := ⟨_, rfl⟩
  have B0 : Below w.heap.size w W0 := by rw [hW0]; exact (Below.refl _ _).alloc (Nat.le_refl _) _
  have H0 := hidT (h.later (B0.mono h.lt))
  have a0 := H0.out.c0
  have a1 := H0.out.c1
  have hm0 : W0.heap[w.heap.size]? = some (.cells [.int .u8 0, .int .u8 0, .int .u8 0, .int .u8 0].toArray 83 (0, 0)) := by rw [hW0]; exact heap_alloc_new w _
  obtain ⟨W1, hcp, hm1, g1⟩ := cp_some W0.drew w.heap.size 83 _ 4 hm0 rfl (b.drop k) ga (o + k) (c - k) (fun j x hj => by
    rw [List.getElem?_drop] at hj
    rw [Nat.add_assoc]
    exact (B0.cell (p := ⟨ga, _, none⟩) (Nat.lt_trans hga h.lt)).trans (hce _ x hj))
  have B1 : Below w.heap.size w W1 := B0.trans ⟨g1.os, g1.tape, g1.output, g1.size, fun i hi => g1.block i (by have := B0.size; simp; omega) (by simp; omega)⟩
  have H1 := hidT (h.later (B1.mono h.lt))
  rw [List.length_drop, ← hn] at hcp
  have hmin : Nat.min (n - k) 4 = 4 := Nat.min_eq_right (by omega)
  rw [hmin] at hcp
  rw [List.length_drop, ← hn, hmin, hx] at hm1
  have hm1' : W1.heap[w.heap.size]? = some (.cells #[.int .u8 x0, .int .u8 x1, .int .u8 x2, .int .u8 x3] 83 (0, 0)) := hm1
  have ES := hidT (fun (W : World) (q : Below w.heap.size W1 W) => sumOf_any (b.take k) (some ⟨ga, o, none⟩) c W (h.yt.take k) (B := g) (fun h0 => ⟨ga, o, rfl, hga, fun j x hj => by
    rw [List.getElem?_take] at hj
    split at hj
    · exact ((B1.trans q).cell (p := ⟨ga, _, none⟩) (Nat.lt_trans hga h.lt)).trans (hce _ x hj)
    · cases hj⟩) (by rw [List.length_take]; omega) (by have := (B1.trans q).size; have := h.lt; omega))
  rw [List.length_take, Nat.min_eq_left hkl] at ES
  have b0 := H1.out.c0
  have b1 := H1.out.c1
  have m0 : W1.cell? ⟨w.heap.size, 0, none⟩ = some (.int .u8 x0) := by simp [World.cell?, hm1']
  have m1 : W1.cell? ⟨w.heap.size, 1, none⟩ = some (.int .u8 x1) := by simp [World.cell?, hm1']
  have m2 : W1.cell? ⟨w.heap.size, 2, none⟩ = some (.int .u8 x2) := by simp [World.cell?, hm1']
  have m3 : W1.cell? ⟨w.heap.size, 3, none⟩ = some (.int .u8 x3) := by simp [World.cell?, hm1']
  obtain ⟨S, hS⟩ : ∃ S, S = Tp.sum (b.take k) := ⟨_, rfl⟩
  have hEq : ∀ W : World, (Op.equalIn 10000 83 (.agg #[.int .u8 x0, .int .u8 x1, .int .u8 x2, .int .u8 x3]) (.agg #[.int .u8 (S / 16777216), .int .u8 (S / 65536 % 256), .int .u8 (S / 256 % 256), .int .u8 (S % 256)])).run Try.prog W = .ok (decide ([x0, x1, x2, x3] = Tp.sl4 S)) W := fun W => eqAr W [x0, x1, x2, x3] (Tp.sl4 S) 83 4 Try.underlying83 rfl rfl
  rw [← hS] at ES hsum
  simp only [decide_eq_false hsum] at hEq
  have HN := hidT hn
  rw [← hn] at hkl hln hcap a0 hs b0
  obtain ⟨L, hL⟩ : ∃ L, n - k = L := ⟨_, rfl⟩
  have hz1 : ¬ c = k := by omega
  have hz2 : (c - k == 0) = false := by simp; omega
  rw [hL] at hcp
  obtain ⟨M, hM⟩ : ∃ M, M = w.heap.size := ⟨_, rfl⟩
  have HM := hidT hM
  rw [← hM] at m0 m1 m2 m3 hcp
  have hMlt : M < W1.heap.size := by rw [hM]; exact (Array.getElem?_eq_some_iff.1 hm1').1
  have hkc : k ≤ c := by omega
  have K1 := hidT B1
  clear B1
  clear hsum
  clear h B0 H0 hce hn hm1 g1 hm0 hmin hm1' hS
  go_enter Try.func53, Try.ntmps53
  go_upto_region 1 with fail
  rw [← hW0, ← hM]
  clear hW0 hM
  go_region
  go_wp2_with fail
  refine (must_yes 112 _).mono ?_
  rintro e w' ⟨rfl, rfl⟩
  clear hcp a0 a1
  have hgW : g + 1 ≤ w'.heap.size := H1.out.lt
  go_upto_region 3 with fail
  go_region_with (first
    | (go_at_call 46; refine Calls.mono (ES.out _ (by go_grown)) ?_; rintro e w3 ⟨rfl, k3⟩; have KX : Hid (Below w'.heap.size w' w3) := Below.trans (by go_grown) (k3.out.mono (by go_size)); have z0 : w3.cell? ⟨M, 0, none⟩ = some (.int .u8 x0) := (KX.out.cell (p := ⟨M, 0, none⟩) hMlt).trans m0; have z1 : w3.cell? ⟨M, 1, none⟩ = some (.int .u8 x1) := (KX.out.cell (p := ⟨M, 1, none⟩) hMlt).trans m1; have z2 : w3.cell? ⟨M, 2, none⟩ = some (.int .u8 x2) := (KX.out.cell (p := ⟨M, 2, none⟩) hMlt).trans m2; have z3 : w3.cell? ⟨M, 3, none⟩ = some (.int .u8 x3) := (KX.out.cell (p := ⟨M, 3, none⟩) hMlt).trans m3; have HFx := hidT (H1.out.later (Below.mono KX.out hgW)); have GFx : Hid (w.grownBy w3 (some g)) := gbOf (Below.trans K1.out (Below.mono KX.out K1.out.size)); clear k3 KX)
    | (go_at_call 64; refine shutT (must_no 111 _) ?_ (.tuple #[]) ?_; (unfold tpPan; rintro e w9 ⟨rfl, rfl⟩; exact ⟨rfl, rfl, HFx.out, GFx.out⟩); intro hF; have hz1 : ∀ (W : World) (q : Addr), W.frozen? q = false := fun _ _ => hF.out _; have hz2 : ∀ (W : World) (q : Addr), W.cell? q = some (.int .i64 0) := fun _ _ => hF.out _))
  all_goals exact hF.out _
end Go.Proofs.Ytneefpblfiedbaa

namespace Go.Proofs.Ytneefpblfiedbaa
open Go.RowKit
set_option linter.unusedVariables false
set_option maxRecDepth 100000 in
set_option maxHeartbeats 4000000 in
theorem end_more (w : World) (g : Nat) (T : TypeId) (a : Option Addr) (c : Nat) (b : List Int) (k : Nat) (r : List Value) (h : PlB w g T a c b k r) (hs : k + 4 ≤ b.length) (x0 x1 x2 x3 : Int) (hx : (b.drop k).take 4 = [x0, x1, x2, x3]) (hsum : [x0, x1, x2, x3] = Tp.sl4 (Tp.sum (b.take k))) (hmo : k + 4 < b.length) :
    Calls Try.prog 53 #[.pointer (some ⟨g, 0, none⟩)] w fun e w' => e = tpPan 110 ∧ PlQ g T a c b r w (k + 4) w' := by
  have hkl := h.le
  have hln := h.ln
  have hcap := h.cap
  obtain ⟨ga, o, rfl, hga, hce⟩ := h.bs (by omega)
  obtain ⟨n, hn⟩ : ∃ n, n = b.length := ⟨_, rfl⟩
  obtain ⟨W0, hW0⟩ : ∃ W, W = w.alloc (.cells #[.int .u8 0, .int .u8 0, .int .u8 0, .int .u8 0] 83) := ⟨_, rfl⟩
  have B0 : Below w.heap.size w W0 := by rw [hW0]; exact (Below.refl _ _).alloc (Nat.le_refl _) _
  have H0 := hidT (h.later (B0.mono h.lt))
  have a0 := H0.out.c0
  have a1 := H0.out.c1
  have hm0 : W0.heap[w.heap.size]? = some (.cells [.int .u8 0, .int .u8 0, .int .u8 0, .int .u8 0].toArray 83 (0, 0)) := by rw [hW0]; exact heap_alloc_new w _
  obtain ⟨W1, hcp, hm1, g1⟩ := cp_some W0.drew w.heap.size 83 _ 4 hm0 rfl (b.drop k) ga (o + k) (c - k) (fun j x hj => by
    rw [List.getElem?_drop] at hj
    rw [Nat.add_assoc]
    exact (B0.cell (p := ⟨ga, _, none⟩) (Nat.lt_trans hga h.lt)).trans (hce _ x hj))
  have B1 : Below w.heap.size w W1 := B0.trans ⟨g1.os, g1.tape, g1.output, g1.size, fun i hi => g1.block i (by have := B0.size; simp; omega) (by simp; omega)⟩
  have H1 := hidT (h.later (B1.mono h.lt))
  rw [List.length_drop, ← hn] at hcp
  have hmin : Nat.min (n - k) 4 = 4 := Nat.min_eq_right (by omega)
  rw [hmin] at hcp
  rw [List.length_drop, ← hn, hmin, hx] at hm1
  have hm1' : W1.heap[w.heap.size]? = some (.cells #[.int .u8 x0, .int .u8 x1, .int .u8 x2, .int .u8 x3] 83 (0, 0)) := hm1
  have ES := hidT (fun (W : World) (q : Below w.heap.size W1 W) => sumOf_any (b.take k) (some ⟨ga, o, none⟩) c W (h.yt.take k) (B := g) (fun h0 => ⟨ga, o, rfl, hga, fun j x hj => by
    rw [List.getElem?_take] at hj
    split at hj
    · exact ((B1.trans q).cell (p := ⟨ga, _, none⟩) (Nat.lt_trans hga h.lt)).trans (hce _ x hj)
    · cases hj⟩) (by rw [List.length_take]; omega) (by have := (B1.trans q).size; have := h.lt; omega))
  rw [List.length_take, Nat.min_eq_left hkl] at ES
  have b0 := H1.out.c0
  have b1 := H1.out.c1
  have m0 : W1.cell? ⟨w.heap.size, 0, none⟩ = some (.int .u8 x0) := by simp [World.cell?, hm1']
  have m1 : W1.cell? ⟨w.heap.size, 1, none⟩ = some (.int .u8 x1) := by simp [World.cell?, hm1']
  have m2 : W1.cell? ⟨w.heap.size, 2, none⟩ = some (.int .u8 x2) := by simp [World.cell?, hm1']
  have m3 : W1.cell? ⟨w.heap.size, 3, none⟩ = some (.int .u8 x3) := by simp [World.cell?, hm1']
  obtain ⟨S, hS⟩ : ∃ S, S = Tp.sum (b.take k) := ⟨_, rfl⟩
  have hEq : ∀ W : World, (Op.equalIn 10000 83 (.agg #[.int .u8 x0, .int .u8 x1, .int .u8 x2, .int .u8 x3]) (.agg #[.int .u8 (S / 16777216), .int .u8 (S / 65536 % 256), .int .u8 (S / 256 % 256), .int .u8 (S % 256)])).run Try.prog W = .ok (decide ([x0, x1, x2, x3] = Tp.sl4 S)) W := fun W => eqAr W [x0, x1, x2, x3] (Tp.sl4 S) 83 4 Try.underlying83 rfl rfl
  rw [← hS] at ES hsum
  simp only [decide_eq_true hsum] at hEq
  have HN := hidT hn
  rw [← hn] at hkl hln hcap a0 hs b0 hmo
  obtain ⟨L, hL⟩ : ∃ L, n - k = L := ⟨_, rfl⟩
  have hz1 : ¬ c = k := by omega
  have hz2 : (c - k == 0) = false := by simp; omega
  rw [hL] at hcp
  obtain ⟨M, hM⟩ : ∃ M, M = w.heap.size := ⟨_, rfl⟩
  have HM := hidT hM
  rw [← hM] at m0 m1 m2 m3 hcp
  have hMlt : M < W1.heap.size := by rw [hM]; exact (Array.getElem?_eq_some_iff.1 hm1').1
  have hkc : k ≤ c := by omega
  have K1 := hidT B1
  clear B1
  clear hsum
  clear h B0 H0 hce hn hm1 g1 hm0 hmin hm1' hS
  go_enter Try.func53, Try.ntmps53
  go_upto_region 1 with fail
  rw [← hW0, ← hM]
  clear hW0 hM
  go_region
  go_wp2_with fail
  refine (must_yes 112 _).mono ?_
  rintro e w' ⟨rfl, rfl⟩
  clear hcp a0 a1
  have hgW : g + 1 ≤ w'.heap.size := H1.out.lt
  go_upto_region 3 with fail
  have KS : Hid (∀ w3 : World, Below w'.heap.size w' w3 → w3.cell? ⟨g, 0, none⟩ = some (.slice (some ⟨ga, o, none⟩) n c) ∧ w3.cell? ⟨g, 1, none⟩ = some (.int .i64 k) ∧ w3.cell? ⟨M, 0, none⟩ = some (.int .u8 x0) ∧ w3.cell? ⟨M, 1, none⟩ = some (.int .u8 x1) ∧ w3.cell? ⟨M, 2, none⟩ = some (.int .u8 x2) ∧ w3.cell? ⟨M, 3, none⟩ = some (.int .u8 x3)) := fun w3 q => ⟨(q.cell (p := ⟨g, 0, none⟩) hgW).trans b0, (q.cell (p := ⟨g, 1, none⟩) hgW).trans b1, (q.cell (p := ⟨M, 0, none⟩) hMlt).trans m0, (q.cell (p := ⟨M, 1, none⟩) hMlt).trans m1, (q.cell (p := ⟨M, 2, none⟩) hMlt).trans m2, (q.cell (p := ⟨M, 3, none⟩) hMlt).trans m3⟩
  go_region_held3 (fun w3 => w3.cell? ⟨g, 0, none⟩ = some (.slice (some ⟨ga, o, none⟩) n c) ∧ w3.cell? ⟨g, 1, none⟩ = some (.int .i64 k) ∧ w3.cell? ⟨M, 0, none⟩ = some (.int .u8 x0) ∧ w3.cell? ⟨M, 1, none⟩ = some (.int .u8 x1) ∧ w3.cell? ⟨M, 2, none⟩ = some (.int .u8 x2) ∧ w3.cell? ⟨M, 3, none⟩ = some (.int .u8 x3)) (first | (exact s9) | go_keep) (first
    | (go_at_call 46; refine Calls.mono (ES.out _ (by go_grown)) ?_; rintro e w3 ⟨rfl, k3⟩; have KX : Hid (Below w'.heap.size w' w3) := Below.trans (by go_grown) (k3.out.mono (by go_size)); have s9 := KS.out _ KX.out; have HFx := hidT (H1.out.later (Below.mono KX.out hgW)); have GFx : Hid (w.grownBy w3 (some g)) := gbOf (Below.trans K1.out (Below.mono KX.out K1.out.size)); clear k3 KX)
    | (go_at_call 64; refine Calls.mono (must_yes 111 _) ?_; rintro e w4 ⟨rfl, rfl⟩))
  have d0 := HFx.out.c0
  have d1 := HFx.out.c1
  have df := HFx.out.fz 1
  rw [← HN.out] at d0
  have SET := hidT (HFx.out.set (k' := k + 4) (by rw [← HN.out]; exact hs))
  clear m0 m1 m2 m3 b0 b1 s9 KS
  have ek : ((k + 4 : Nat) : Int) = (k : Int) + 4 := by omega
  rw [ek] at SET
  obtain ⟨W5, hW5⟩ : ∃ W, W = w4.setCell ⟨g, 1, none⟩ (.int .i64 ((k : Int) + 4)) := ⟨_, rfl⟩
  rw [← hW5] at SET
  have e0 := SET.out.1.c0
  have e1 := SET.out.1.c1
  rw [← HN.out] at e0
  rw [ek] at e1
  have FIN : Hid (PlQ g T (some ⟨ga, o, none⟩) c b r w (k + 4) W5) := ⟨SET.out.1, gbT GFx.out SET.out.2⟩
  clear SET
  go_upto_region 5 with fail
  rw [← hW5]
  clear hW5 d0 d1 df
  have q5 : ((k : Int) + 4 == (n : Int)) = false := by simp; omega
  go_region_with (first
    | (go_at_call 64; refine shutT (must_no 110 _) ?_ (.tuple #[]) ?_; (unfold tpPan; rintro e w9 ⟨rfl, rfl⟩; exact ⟨rfl, rfl, FIN.out.1.later (Below.mono (by go_grown) FIN.out.1.lt), gbT FIN.out.2 (gbOf (by go_grown))⟩); intro hF; have hz1 : ∀ (W : World) (q : Addr), W.frozen? q = false := fun _ _ => hF.out _; have hz2 : ∀ (W : World) (q : Addr), W.cell? q = some (.int .i64 0) := fun _ _ => hF.out _))
  all_goals exact hF.out _
set_option maxRecDepth 100000 in
set_option maxHeartbeats 4000000 in
theorem end_good (w : World) (g : Nat) (T : TypeId) (a : Option Addr) (c : Nat) (b : List Int) (k : Nat) (r : List Value) (h : PlB w g T a c b k r) (hs : k + 4 ≤ b.length) (x0 x1 x2 x3 : Int) (hx : (b.drop k).take 4 = [x0, x1, x2, x3]) (hsum : [x0, x1, x2, x3] = Tp.sl4 (Tp.sum (b.take k))) (hmo : k + 4 = b.length) :
    Calls Try.prog 53 #[.pointer (some ⟨g, 0, none⟩)] w fun e w' => e = .returned (.tuple #[]) ∧ PlQ g T a c b r w (k + 4) w' := by
  have hkl := h.le
  have hln := h.ln
  have hcap := h.cap
  obtain ⟨ga, o, rfl, hga, hce⟩ := h.bs (by omega)
  obtain ⟨n, hn⟩ : ∃ n, n = b.length := ⟨_, rfl⟩
  obtain ⟨W0, hW0⟩ : ∃ W, W = w.alloc (.cells #[.int .u8 0, .int .u8 0, .int .u8 0, .int .u8 0] 83) := ⟨_, rfl⟩
  have B0 : Below w.heap.size w W0 := by rw [hW0]; exact (Below.refl _ _).alloc (Nat.le_refl _) _
  have H0 := hidT (h.later (B0.mono h.lt))
  have a0 := H0.out.c0
  have a1 := H0.out.c1
  have hm0 : W0.heap[w.heap.size]? = some (.cells [.int .u8 0, .int .u8 0, .int .u8 0, .int .u8 0].toArray 83 (0, 0)) := by rw [hW0]; exact heap_alloc_new w _
  obtain ⟨W1, hcp, hm1, g1⟩ := cp_some W0.drew w.heap.size 83 _ 4 hm0 rfl (b.drop k) ga (o + k) (c - k) (fun j x hj => by
    rw [List.getElem?_drop] at hj
    rw [Nat.add_assoc]
    exact (B0.cell (p := ⟨ga, _, none⟩) (Nat.lt_trans hga h.lt)).trans (hce _ x hj))
  have B1 : Below w.heap.size w W1 := B0.trans ⟨g1.os, g1.tape, g1.output, g1.size, fun i hi => g1.block i (by have := B0.size; simp; omega) (by simp; omega)⟩
  have H1 := hidT (h.later (B1.mono h.lt))
  rw [List.length_drop, ← hn] at hcp
  have hmin : Nat.min (n - k) 4 = 4 := Nat.min_eq_right (by omega)
  rw [hmin] at hcp
  rw [List.length_drop, ← hn, hmin, hx] at hm1
  have hm1' : W1.heap[w.heap.size]? = some (.cells #[.int .u8 x0, .int .u8 x1, .int .u8 x2, .int .u8 x3] 83 (0, 0)) := hm1
  have ES := hidT (fun (W : World) (q : Below w.heap.size W1 W) => sumOf_any (b.take k) (some ⟨ga, o, none⟩) c W (h.yt.take k) (B := g) (fun h0 => ⟨ga, o, rfl, hga, fun j x hj => by
    rw [List.getElem?_take] at hj
    split at hj
    · exact ((B1.trans q).cell (p := ⟨ga, _, none⟩) (Nat.lt_trans hga h.lt)).trans (hce _ x hj)
    · cases hj⟩) (by rw [List.length_take]; omega) (by have := (B1.trans q).size; have := h.lt; omega))
  rw [List.length_take, Nat.min_eq_left hkl] at ES
  have b0 := H1.out.c0
  have b1 := H1.out.c1
  have m0 : W1.cell? ⟨w.heap.size, 0, none⟩ = some (.int .u8 x0) := by simp [World.cell?, hm1']
  have m1 : W1.cell? ⟨w.heap.size, 1, none⟩ = some (.int .u8 x1) := by simp [World.cell?, hm1']
  have m2 : W1.cell? ⟨w.heap.size, 2, none⟩ = some (.int .u8 x2) := by simp [World.cell?, hm1']
  have m3 : W1.cell? ⟨w.heap.size, 3, none⟩ = some (.int .u8 x3) := by simp [World.cell?, hm1']
  obtain ⟨S, hS⟩ : ∃ S, S = Tp.sum (b.take k) := ⟨_, rfl⟩
  have hEq : ∀ W : World, (Op.equalIn 10000 83 (.agg #[.int .u8 x0, .int .u8 x1, .int .u8 x2, .int .u8 x3]) (.agg #[.int .u8 (S / 16777216), .int .u8 (S / 65536 % 256), .int .u8 (S / 256 % 256), .int .u8 (S % 256)])).run Try.prog W = .ok (decide ([x0, x1, x2, x3] = Tp.sl4 S)) W := fun W => eqAr W [x0, x1, x2, x3] (Tp.sl4 S) 83 4 Try.underlying83 rfl rfl
  rw [← hS] at ES hsum
  simp only [decide_eq_true hsum] at hEq
  have HN := hidT hn
  have HMO := hidT hmo
  clear hmo
  rw [← hn] at hkl hln hcap a0 hs b0
  obtain ⟨L, hL⟩ : ∃ L, n - k = L := ⟨_, rfl⟩
  have hz1 : ¬ c = k := by omega
  have hz2 : (c - k == 0) = false := by simp; omega
  rw [hL] at hcp
  obtain ⟨M, hM⟩ : ∃ M, M = w.heap.size := ⟨_, rfl⟩
  have HM := hidT hM
  rw [← hM] at m0 m1 m2 m3 hcp
  have hMlt : M < W1.heap.size := by rw [hM]; exact (Array.getElem?_eq_some_iff.1 hm1').1
  have hkc : k ≤ c := by omega
  have K1 := hidT B1
  clear B1
  clear hsum
  clear h B0 H0 hce hn hm1 g1 hm0 hmin hm1' hS
  go_enter Try.func53, Try.ntmps53
  go_upto_region 1 with fail
  rw [← hW0, ← hM]
  clear hW0 hM
  go_region
  go_wp2_with fail
  refine (must_yes 112 _).mono ?_
  rintro e w' ⟨rfl, rfl⟩
  clear hcp a0 a1
  have hgW : g + 1 ≤ w'.heap.size := H1.out.lt
  go_upto_region 3 with fail
  have KS : Hid (∀ w3 : World, Below w'.heap.size w' w3 → w3.cell? ⟨g, 0, none⟩ = some (.slice (some ⟨ga, o, none⟩) n c) ∧ w3.cell? ⟨g, 1, none⟩ = some (.int .i64 k) ∧ w3.cell? ⟨M, 0, none⟩ = some (.int .u8 x0) ∧ w3.cell? ⟨M, 1, none⟩ = some (.int .u8 x1) ∧ w3.cell? ⟨M, 2, none⟩ = some (.int .u8 x2) ∧ w3.cell? ⟨M, 3, none⟩ = some (.int .u8 x3)) := fun w3 q => ⟨(q.cell (p := ⟨g, 0, none⟩) hgW).trans b0, (q.cell (p := ⟨g, 1, none⟩) hgW).trans b1, (q.cell (p := ⟨M, 0, none⟩) hMlt).trans m0, (q.cell (p := ⟨M, 1, none⟩) hMlt).trans m1, (q.cell (p := ⟨M, 2, none⟩) hMlt).trans m2, (q.cell (p := ⟨M, 3, none⟩) hMlt).trans m3⟩
  go_region_held3 (fun w3 => w3.cell? ⟨g, 0, none⟩ = some (.slice (some ⟨ga, o, none⟩) n c) ∧ w3.cell? ⟨g, 1, none⟩ = some (.int .i64 k) ∧ w3.cell? ⟨M, 0, none⟩ = some (.int .u8 x0) ∧ w3.cell? ⟨M, 1, none⟩ = some (.int .u8 x1) ∧ w3.cell? ⟨M, 2, none⟩ = some (.int .u8 x2) ∧ w3.cell? ⟨M, 3, none⟩ = some (.int .u8 x3)) (first | (exact s9) | go_keep) (first
    | (go_at_call 46; refine Calls.mono (ES.out _ (by go_grown)) ?_; rintro e w3 ⟨rfl, k3⟩; have KX : Hid (Below w'.heap.size w' w3) := Below.trans (by go_grown) (k3.out.mono (by go_size)); have s9 := KS.out _ KX.out; have HFx := hidT (H1.out.later (Below.mono KX.out hgW)); have GFx : Hid (w.grownBy w3 (some g)) := gbOf (Below.trans K1.out (Below.mono KX.out K1.out.size)); clear k3 KX)
    | (go_at_call 64; refine Calls.mono (must_yes 111 _) ?_; rintro e w4 ⟨rfl, rfl⟩))
  have d0 := HFx.out.c0
  have d1 := HFx.out.c1
  have df := HFx.out.fz 1
  rw [← HN.out] at d0
  have SET := hidT (HFx.out.set (k' := k + 4) (by rw [← HN.out]; exact hs))
  clear m0 m1 m2 m3 b0 b1 s9 KS
  have ek : ((k + 4 : Nat) : Int) = (k : Int) + 4 := by omega
  rw [ek] at SET
  obtain ⟨W5, hW5⟩ : ∃ W, W = w4.setCell ⟨g, 1, none⟩ (.int .i64 ((k : Int) + 4)) := ⟨_, rfl⟩
  rw [← hW5] at SET
  have e0 := SET.out.1.c0
  have e1 := SET.out.1.c1
  rw [← HN.out] at e0
  rw [ek] at e1
  have FIN : Hid (PlQ g T (some ⟨ga, o, none⟩) c b r w (k + 4) W5) := ⟨SET.out.1, gbT GFx.out SET.out.2⟩
  clear SET
  go_upto_region 5 with fail
  rw [← hW5]
  clear hW5 d0 d1 df
  have q5 : ((k : Int) + 4 == (n : Int)) = true := by have := HMO.out; have := HN.out; simp; omega
  go_quiet (first | (go_at_call 64; exact Calls.quiet_of_same (must_yes 110 _)))
  have FI2 : Hid (PlQ g T (some ⟨ga, o, none⟩) c b r w (k + 4) (W5.drewN nq)) := ⟨FIN.out.1.later (drN (Below.refl _ _) _), drG FIN.out.2 nq⟩
  generalize W5.drewN nq = W6 at FI2 ⊢
  go_wp2_with fail
  exact ⟨rfl, .tuple #[], by simp [results, Try.results53, go_sem], rfl, FI2.out⟩
end Go.Proofs.Ytneefpblfiedbaa

namespace Go.Proofs.Ytneefpblfiedbaa
open Go.RowKit
set_option linter.unusedVariables false
set_option linter.unusedSimpArgs false
def enQ (g : Nat) (T : TypeId) (a : Option Addr) (c : Nat) (b : List Int) (r : List Value) (w : World) (w' : World) (k : Nat) (e : Ending) : Option (Nat × Int) → Prop
  | none => e = .returned (.tuple #[]) ∧ PlQ g T a c b r w (k + 4) w'
  | some (i, x) => e = tpPan x ∧ PlQ g T a c b r w i w'
theorem four_of (l : List Int) (h : l.length = 4) : ∃ a b c d, l = [a, b, c, d] := by
  match l, h with
  | [a, b, c, d], _ => exact ⟨a, b, c, d, rfl⟩
theorem end_any (w : World) (g : Nat) (T : TypeId) (a : Option Addr) (c : Nat) (b : List Int) (k : Nat) (r : List Value) (h : PlB w g T a c b k r) :
    Calls Try.prog 53 #[.pointer (some ⟨g, 0, none⟩)] w fun e w' => enQ g T a c b r w w' k e (Tp.ends b k) := by
  unfold Tp.ends
  by_cases hs : b.length < k + 4
  · rw [if_pos hs]
    rcases Nat.lt_or_ge k b.length with hk | hk
    · exact end_short w g T a c b k r h hs hk
    · obtain rfl : k = b.length := Nat.le_antisymm h.le hk
      exact end_none w g T a c b r h
  · rw [if_neg hs]
    obtain ⟨x0, x1, x2, x3, hx⟩ := four_of ((b.drop k).take 4) (by rw [List.length_take, List.length_drop]; omega)
    rw [hx]
    by_cases hq : [x0, x1, x2, x3] = Tp.sl4 (Tp.sum (b.take k))
    · rw [if_neg (fun e => e hq)]
      by_cases hm : k + 4 < b.length
      · rw [if_pos hm]
        exact end_more w g T a c b k r h (by omega) x0 x1 x2 x3 hx hq hm
      · rw [if_neg hm]
        exact end_good w g T a c b k r h (by omega) x0 x1 x2 x3 hx hq (by omega)
    · rw [if_pos hq]
      exact end_bad w g T a c b k r h (by omega) x0 x1 x2 x3 hx hq
/-- Numbers as cells; a row of them of its own. -/
def nmC (l : List Int) : List Value := l.map (Value.int .i64)
def OwN (w : World) (base : Nat) (v : Value) (l : List Int) : Prop := w.ownsRow base 2 1 v l.length (nmC l)
theorem infoN' : ∃ i, Try.prog.info? 2 = some i ∧ i.zero = some (.int .i64 0) ∧ i.size = 1 ∧ i.bytes = 8 := by
  have h := infoN
  cases hx : Try.prog.info? 2 with
  | none => rw [hx] at h; cases h
  | some i => rw [hx] at h; simp at h; exact ⟨i, rfl, h.1, h.2.1, h.2.2⟩
theorem OwN.nms {w : World} {base : Nat} {a : Option Addr} {n c : Nat} {l : List Int} (h : OwN w base (.slice a n c) l) : NmS w.heap.size w a l := fun h0 => by
  have hc := @World.ownsRow.cells _ _ _ _ _ _ _ h
  have hl := @World.ownsRow.lt _ _ _ _ _ _ _ h
  rcases h.2 with ⟨_, h1⟩ | ⟨g, cap, cur, e, hbg, _⟩
  · omega
  · cases e
    refine ⟨g, 0, rfl, (hl g rfl).2, fun j x hx => ?_⟩
    have := hc (g := g) rfl j (.int .i64 x) (by simp [nmC, hx])
    rwa [adT] at this
theorem OwN.of {w : World} {base n : Nat} {v : Value} {l : List Int} {x : Int} (h : w.ownsRow base 2 1 v n (nmC l ++ [.int .i64 x])) (hn : n = l.length + 1) : OwN w base v (l ++ [x]) := by
  unfold OwN nmC
  rw [List.map_append, List.length_append]
  rw [hn] at h
  exact h
/-- The reader of an input, since the world w: its box g, the numbers in a row of their own, newer than w. -/
structure InR (w : World) (g : Nat) (a : Option Addr) (c : Nat) (b : List Int) (k : Nat) (v : Value) (l : List Int) (wr : World) : Prop where
  p : PlB wr g 66 a c b k [v]
  o : OwN wr w.heap.size v l
  bl : w.grownBy wr (some g)
  lo : g < w.heap.size
section
variable {w wr wq : World} {g : Nat} {a : Option Addr} {c : Nat} {b : List Int} {k k' : Nat} {v : Value} {l : List Int}
theorem InR.c2 (h : InR w g a c b k v l wr) : wr.cell? ⟨g, 2, none⟩ = some v := by simp [World.cell?, h.p.hb]
theorem InR.go (h : InR w g a c b k v l wr) (q : PlQ g 66 a c b [v] wr k' wq) : InR w g a c b k' v l wq := by
  refine ⟨q.1, ?_, gbT h.bl q.2, h.lo⟩
  refine World.ownsRow.kept h.o q.2 ?_
  cases hv : v.ownBlock with
  | none => exact .inl rfl
  | some x => exact .inr (fun e => by have := (World.ownsRow.lt h.o x hv).1; have := h.lo; simp at e; omega)
end
end Go.Proofs.Ytneefpblfiedbaa

namespace Go.Proofs.Ytneefpblfiedbaa
open Go.RowKit
set_option linter.unusedVariables false
set_option linter.unusedSimpArgs false
section
variable {w wr wq : World} {g : Nat} {a : Option Addr} {c : Nat} {b : List Int} {k k' : Nat} {v : Value} {l : List Int}
theorem InR.later (h : InR w g a c b k v l wr) (q : Below wr.heap.size wr wq) : InR w g a c b k v l wq :=
  ⟨h.p.later (q.mono h.p.lt), ownLtT h.o q, gbT h.bl (gbOf q), h.lo⟩
theorem InR.grow {o : Obj} {w8 : World} (h : InR w g a c b k v l wr) (g8 : (wr.alloc o).grownBy w8 v.ownBlock) : w8.heap[g]? = wr.heap[g]? ∧ Below w.heap.size wr w8 := by
  have hl := h.bl.size
  have hne : ∀ i, i < w.heap.size → some i ≠ v.ownBlock := fun i hi e => by have := (World.ownsRow.lt h.o i e.symm).1; omega
  have hb : ∀ i, i < w.heap.size → w8.heap[i]? = wr.heap[i]? := fun i hi => (g8.block i (by simp; omega) (hne i hi)).trans (((Below.refl wr.heap.size wr).alloc (Nat.le_refl _) o).block i (by omega))
  refine ⟨hb g h.lo, g8.os, g8.tape, g8.output, ?_, fun i hi => hb i hi⟩
  have := g8.size
  simp at this
  omega
theorem InR.app {o : Obj} {w8 : World} {v8 : Value} {x : Int} (h : InR w g a c b k v l wr) (h8 : w8.ownsRow w.heap.size 2 1 v8 (l.length + 1) (nmC l ++ [.int .i64 x])) (g8 : (wr.alloc o).grownBy w8 v.ownBlock) : InR w g a c b k v8 (l ++ [x]) (w8.setCell ⟨g, 2, none⟩ v8) := by
  obtain ⟨e8, b8⟩ := h.grow g8
  have hp := h.p
  have hb8 : w8.heap[g]? = some (.cells (.slice a b.length c :: .int .i64 k :: [v]).toArray 66 (0, 0)) := e8.trans hp.hb
  have b9 : Below g w8 (w8.setCell ⟨g, 2, none⟩ v8) := ⟨rfl, rfl, rfl, by simp, fun i hi => heap_setCell_other _ _ i _ (by simp; omega)⟩
  have hlo := h.lo
  refine ⟨⟨?_, hp.bs.later ((b8.mono (Nat.le_of_lt hlo)).trans b9) (Nat.le_refl _), hp.yt, hp.cap, hp.le, hp.ln⟩, ?_, ?_, hlo⟩
  · rw [heap_setCell_same _ _ _ _ _ _ hb8]
    simp
  · exact ownsRow_setCell_below (OwN.of h8 rfl) hlo _
  · refine ⟨b8.os.trans h.bl.os, b8.tape.trans h.bl.tape, b8.output.trans h.bl.output, ?_, fun i hi hn => ?_⟩
    · have := b8.size
      have := h.bl.size
      simp
      omega
    · rw [heap_setCell_other _ _ i _ (by intro e; exact hn (by rw [e]))]
      exact (b8.block i hi).trans (h.bl.block i hi hn)
end
/-- What is read of an input's tape, however long it is. -/
def Tp.riB (b : List Int) : Tp.Res (List Int) := match Tp.hd 0 (Tp.head 1) b with
  | some (i, e) => .bad i e
  | none => match Tp.rdAt b 5 with
    | .bad k e => .bad k e
    | .good n k => if 1000 < n then .bad 5 2 else match Tp.nums b n k [] with
      | .bad j e => .bad j e
      | .good l j => match Tp.ends b j with
        | some (i, e) => .bad i e
        | none => .good l 0
theorem Tp.ri_riB (b : List Int) : Tp.ri b = if 4194304 < b.length then .bad 0 2 else Tp.riB b := rfl
def irQ (w : World) (g : Nat) (a : Option Addr) (c : Nat) (b : List Int) (e : Ending) (w' : World) : Tp.Res (List Int) → Prop
  | .good l _ => e = .returned (.tuple #[]) ∧ ∃ k v, InR w g a c b k v l w'
  | .bad i x => e = tpPan x ∧ ∃ v l, InR w g a c b i v l w'
theorem PlB.ofR {w wr : World} {g : Nat} {a : Option Addr} {c : Nat} {b : List Int} {k : Nat} {v : Value} {l : List Int} (h : InR w g a c b k v l wr) : PlB wr g 66 a c b k [v] := h.p
set_option maxRecDepth 100000 in
set_option maxHeartbeats 4000000 in
theorem inTape_head (w : World) (g : Nat) (a : Option Addr) (c : Nat) (b : List Int) (w0 : World) (h : InR w0 g a c b 0 (.slice none 0 0) [] w) (i : Nat) (x : Int) (hh : Tp.hd 0 (Tp.head 1) b = some (i, x)) :
    Calls Try.prog 35 #[.pointer (some ⟨g, 0, none⟩)] w fun e w' => e = tpPan x ∧ ∃ v l, InR w0 g a c b i v l w' := by
  have HD := hidT (head_any w g _ a c b _ h.p 1)
  rw [hh] at HD
  dsimp only [hdQ] at HD
  have H := hidT h
  clear h hh
  go_enter Try.func35, Try.ntmps35
  go_wp2_with fail
  refine HD.out.mono ?_
  unfold tpPan
  rintro e w1 ⟨rfl, q⟩
  have HQ := hidT (H.out.go q)
  clear q
  go_wp2_with fail
  exact ⟨rfl, rfl, _, _, HQ.out⟩
set_option maxRecDepth 100000 in
set_option maxHeartbeats 4000000 in
theorem inTape_count (w : World) (g : Nat) (a : Option Addr) (c : Nat) (b : List Int) (w0 : World) (h : InR w0 g a c b 0 (.slice none 0 0) [] w) (x : Int) (hh : Tp.hd 0 (Tp.head 1) b = none) (hc : Tp.rdF 0 0 (b.drop 5) = .inr x ∨ (x = 2 ∧ ∃ z u, Tp.rdF 0 0 (b.drop 5) = .inl (z, u) ∧ 1000 < z)) :
    Calls Try.prog 35 #[.pointer (some ⟨g, 0, none⟩)] w fun e w' => e = tpPan x ∧ ∃ v l, InR w0 g a c b 5 v l w' := by
  have HD := hidT (head_any w g _ a c b _ h.p 1)
  rw [hh] at HD
  dsimp only [hdQ] at HD
  have H := hidT h
  have HC : Hid (∀ W, PlB W g 66 a c b 5 [.slice none 0 0] → Calls Try.prog 59 #[.pointer (some ⟨g, 0, none⟩), .int .u64 0, .int .u64 1000, .int .i64 2] W fun e w' => e = tpPan x ∧ PlQ g 66 a c b [.slice none 0 0] W 5 w') := fun W hW => by
    have := count_any W g _ a c b 5 _ hW 0 1000 2 (by decide)
    rcases hc with hc | ⟨rfl, z, u, hc, hz⟩
    · rw [hc] at this; exact this
    · rw [hc] at this
      refine this.mono fun e w' q => ?_
      rw [ctQ, if_neg (by omega)] at q
      exact q
  clear h hh hc
  go_enter Try.func35, Try.ntmps35
  go_wp2_with fail
  refine HD.out.mono ?_
  rintro e w1 ⟨rfl, q⟩
  have HQ := hidT (H.out.go q)
  clear q
  go_wp2_with fail
  refine (HC.out _ HQ.out.p).mono ?_
  unfold tpPan
  rintro e w2 ⟨rfl, q⟩
  have HQ2 := hidT (HQ.out.go q)
  clear q
  go_wp2_with fail
  exact ⟨rfl, rfl, _, _, HQ2.out⟩
set_option maxRecDepth 100000 in
set_option maxHeartbeats 8000000 in
theorem inTape_nums (w : World) (g : Nat) (a : Option Addr) (c : Nat) (b : List Int) (w0 : World) (h : InR w0 g a c b 0 (.slice none 0 0) [] w) (hh : Tp.hd 0 (Tp.head 1) b = none) (n u : Nat) (hc : Tp.rdF 0 0 (b.drop 5) = .inl (n, u)) (hn : n ≤ 1000) :
    Calls Try.prog 35 #[.pointer (some ⟨g, 0, none⟩)] w fun e w' => irQ w0 g a c b e w' (match Tp.nums b n (5 + u) [] with
      | .bad j e => .bad j e
      | .good l j => match Tp.ends b j with
        | some (i, e) => .bad i e
        | none => .good l 0) := by
  obtain ⟨i0, hi, hz0, hz1, hz2⟩ := infoN'
  have HD := hidT (head_any w g _ a c b _ h.p 1)
  rw [hh] at HD
  dsimp only [hdQ] at HD
  have H := hidT h
  have HC : Hid (∀ W, PlB W g 66 a c b 5 [.slice none 0 0] → Calls Try.prog 59 #[.pointer (some ⟨g, 0, none⟩), .int .u64 0, .int .u64 1000, .int .i64 2] W fun e w' => e = .returned (.int .i64 n) ∧ PlQ g 66 a c b [.slice none 0 0] W (5 + u) w') := fun W hW => by
    have := count_any W g _ a c b 5 _ hW 0 1000 2 (by decide)
    rw [hc] at this
    refine this.mono fun e w' q => ?_
    rw [ctQ, if_pos (by omega)] at q
    exact q
  obtain ⟨post, hpost⟩ : ∃ p, p = (match Tp.nums b n (5 + u) [] with
      | .bad j e => (.bad j e : Tp.Res (List Int))
      | .good l j => match Tp.ends b j with
        | some (i, e) => .bad i e
        | none => .good l 0) := ⟨_, rfl⟩
  have HP := hidT hpost
  rw [← hpost]
  clear h hh hc hpost
  go_enter Try.func35, Try.ntmps35
  go_wp2_with fail
  refine HD.out.mono ?_
  rintro e w1 ⟨rfl, q⟩
  have HQ := hidT (H.out.go q)
  clear q
  go_wp2_with fail
  refine (HC.out _ HQ.out.p).mono ?_
  rintro e w2 ⟨rfl, q⟩
  have HQ2 := hidT (HQ.out.go q)
  clear q HC HD HQ
  go_wp2_with fail
  go_loopg [10] n (fun gk i wr => ∃ (j k : Nat) (v : Value) (acc : List Int), j + gk = n ∧ i = .int .i64 j ∧ Hid (InR w0 g a c b k v acc wr) ∧ Hid (acc.length = j ∧ Tp.nums b n (5 + u) [] = Tp.nums b gk k acc))
  case atStart => exact ⟨0, 5 + u, _, [], by omega, rfl, HQ2, rfl, rfl⟩
  case round =>
    obtain ⟨j, k, v, acc, hj, rfl, HI, HA⟩ := hrel
    rcases gk with _ | gk
    · obtain rfl : j = n := by omega
      have dk : decide ((j : Int) < (j : Int)) = false := decide_eq_false (by omega)
      have HE := hidT (end_any wr g _ a c b k _ HI.out.p)
      cases he : Tp.ends b k with
      | none =>
        rw [he] at HE
        dsimp only [enQ] at HE
        have HP2 : Hid (post = .good acc 0) := by unfold Hid; rw [HP.out, HA.out.2]; simp only [Tp.nums, he]
        clear he
        go_wp2_with fail
        refine HE.out.mono ?_
        rintro e w3 ⟨rfl, q⟩
        have HQ3 := hidT (HI.out.go q)
        clear q
        go_wp2_with fail
        refine ⟨rfl, .tuple #[], by simp [results, Try.results35, go_sem], ?_⟩
        rw [HP2.out]
        exact ⟨rfl, _, _, HQ3.out⟩
      | some p =>
        obtain ⟨i, x⟩ := p
        rw [he] at HE
        dsimp only [enQ] at HE
        have HP2 : Hid (post = .bad i x) := by unfold Hid; rw [HP.out, HA.out.2]; simp only [Tp.nums, he]
        clear he
        go_wp2_with fail
        refine HE.out.mono ?_
        unfold tpPan
        rintro e w3 ⟨rfl, q⟩
        have HQ3 := hidT (HI.out.go q)
        clear q
        go_wp2_with fail
        refine ⟨rfl, ?_⟩
        rw [HP2.out]
        exact ⟨rfl, _, _, HQ3.out⟩
    · have dk : decide ((j : Int) < (n : Int)) = true := decide_eq_true (by omega)
      obtain ⟨va, vc, hv⟩ := ownShT HI.out.o
      subst hv
      have c2 := HI.out.c2
      have hgl := HI.out.p.lt
      have EN : Hid (∀ W, Below wr.heap.size wr W → Calls Try.prog 60 #[.pointer (some ⟨g, 0, none⟩)] W fun e w' => nmQ g 66 a c b [.slice va acc.length vc] W k w' e (Tp.rdF 0 0 (b.drop k))) := fun W q => number_any W g _ a c b k _ (HI.out.later q).p
      cases hr : Tp.rdF 0 0 (b.drop k) with
      | inr x =>
        rw [hr] at EN
        dsimp only [nmQ] at EN
        have HP2 : Hid (post = .bad k x) := by unfold Hid; rw [HP.out, HA.out.2]; simp only [Tp.nums, Tp.rdAt, hr]
        clear hr
        go_upto_region 3 with fail
        go_region_law (first
          | (go_simp; go_at_call 60; refine shutT (EN.out _ (by go_grown)) ?_ (.int .i64 0) ?_; (unfold tpPan; rintro e w9 ⟨rfl, q⟩; refine ⟨rfl, ?_⟩; rw [HP2.out]; exact ⟨rfl, _, _, (HI.out.later (by go_grown)).go q⟩); intro hF; have hz8 : ∀ (W : World) (q : Addr), W.frozen? q = false := fun _ _ => hF.out _; have hz9 : ∀ (W : World) (q : Addr), W.cell? q = some (.slice va acc.length vc) := fun _ _ => hF.out _; dsimp only)
          | (rw [if_pos (by rfl)]; refine wp_append_own_wide _ _ _ 38 rfl w0.heap.size 2 i0 (.int .i64 0) 1 8 Try.underlying38 hi hz0 hz1 hz2 rfl (by decide) (.slice va acc.length vc) acc.length (nmC acc) rfl (hF.out _) ⟨0, 0, none⟩ 1 1 [.int .i64 0] (hF.out _) rfl (hF.out _) (hF.out _) (hF.out _) (hF.out _) (hF.out _) ?_; intro v8 w8 h8 g8 o8; obtain ⟨va8, cap8, hv8⟩ := ownShT h8; subst hv8))
        all_goals exact hF.out _
      | inl p =>
        obtain ⟨z, t⟩ := p
        rw [hr] at EN
        dsimp only [nmQ] at EN
        have HP2 : Hid (Tp.nums b (gk + 1) k acc = Tp.nums b gk (k + t) (acc ++ [Tp.zag z])) := by unfold Hid; simp only [Tp.nums, Tp.rdAt, hr]
        clear hr
        have H63 : Hid (acc.length + 1 ≤ maxLen ∧ ((acc.length + 1) + (acc.length + 1) / 4 + 192) * 8 ≤ 281474976710656) := by
          have := HA.out.1
          unfold Hid maxLen
          omega
        go_upto_region 3 with fail
        go_region_law (first
          | (go_simp; go_at_call 60; refine Calls.mono (EN.out _ (by go_grown)) ?_; rintro e w7 ⟨rfl, q⟩; have HI7 := hidT ((HI.out.later (by go_grown)).go q); have d2 := HI7.out.c2; have df := HI7.out.p.fz 2; have hg7 := HI7.out.p.lt; have np7 : ¬ g = w7.heap.size := Nat.ne_of_lt hg7; clear q; dsimp only)
          | (rw [if_pos (by rfl)]; refine wp_append_own_wide _ _ _ 38 rfl w0.heap.size 2 i0 (.int .i64 0) 1 8 Try.underlying38 hi hz0 hz1 hz2 rfl (by decide) _ _ _ rfl (ownLtT HI7.out.o (by go_grown)) ⟨w7.heap.size, 0, none⟩ 1 1 [.int .i64 (Tp.zag z)] rfl rfl (one1 _ _ _) (by intro x hx; simp at hx; subst hx; rfl) H63.out.1 H63.out.2 (by have := HI7.out.bl.size; simp; omega) ?_; intro v8 w8 h8 g8 o8; have kp := ((HI7.out.later (by go_grown)).grow g8).1; have q8 : w8.cell? ⟨g, 2, none⟩ = some (.slice va acc.length vc) := (World.cell?_of_block kp).trans (by simp [go_sem, d2, hg7]); have r8 : w8.frozen? ⟨g, 2, none⟩ = false := (World.frozen?_of_block kp).trans (by simp [go_sem, df, hg7]); obtain ⟨va8, cap8, hv8⟩ := ownShT h8; subst hv8))
        all_goals
          have FIN := hidT ((HI7.out.later (by go_grown)).app (x := Tp.zag z) h8 g8)
          clear h8 g8 o8 kp q8 r8 c2 d2 df EN
          go_wp2_with fail
          go_roundg gk
          case measure => omega
          case rel => exact ⟨j + 1, k + t, _, acc ++ [Tp.zag z], by omega, by go_num, FIN, by simp [HA.out.1], HA.out.2.trans HP2.out⟩
end Go.Proofs.Ytneefpblfiedbaa

namespace Go.Proofs.Ytneefpblfiedbaa
open Go.RowKit
set_option linter.unusedVariables false
set_option linter.unusedSimpArgs false
set_option maxRecDepth 100000 in
set_option maxHeartbeats 1000000 in
theorem at_idle (v0 : Value) (w : World) :
    CallsD Try.prog 50 #[v0] .returning w fun e u' w' => e = .returned (.tuple #[]) ∧ u' = .returning ∧ w' = w := by
  refine callsD_of_wpS Try.func50 rfl fun c₀ cs hu => ?_
  apply wpS_seq
  apply wpS_region
  simp [wpOpsS, go_sem, recoverD, hu, Try.ntmps50, Exit.thenS]
  refine wpS_of_wp ?_
  change Code.wp _ _ _ { tmps := #[v0, .nilIface, .nilIface, undef, undef, undef, undef], defers := [] } _
  go_wp2_with fail
  cases c₀
  simp_all [bodyPostS, results, Try.results50]
theorem at_ta (er : Int) (w : World) : (Instr.typeAssert (.iface 31 (.int .i64 er)) 20 31 false).run Try.prog w = .ok (.int .i64 er) w := by kernel_rfl
set_option maxRecDepth 100000 in
set_option maxHeartbeats 1000000 in
theorem at_thrown (n : Nat) (er : Int) (x : Value) (w : World) (hn : w.cell? ⟨n, 0, none⟩ = some x) (fn : w.frozen? ⟨n, 0, none⟩ = false) :
    CallsD Try.prog 50 #[.pointer (some ⟨n, 0, none⟩)] (.panicking [{ v := .iface 31 (.int .i64 er), recovered := false }]) w fun e u' w' =>
      e = .returned (.tuple #[]) ∧ u' = .panicking [{ v := .iface 31 (.int .i64 er), recovered := true }] ∧ w' = w.setCell ⟨n, 0, none⟩ (.int .i64 er) := by
  refine callsD_of_wpS Try.func50 rfl fun c₀ cs hu => ?_
  apply wpS_seq
  apply wpS_region
  simp [wpOpsS, go_sem, recoverD, hu, Try.ntmps50, Exit.thenS]
  have kt := at_ta
  refine wpS_of_wp ?_
  change Code.wp _ _ _ { tmps := #[.pointer (some ⟨n, 0, none⟩), .iface 31 (.int .i64 er), .iface 31 (.int .i64 er), undef, undef, undef, undef], defers := [] } _
  go_wp2_with fail
  exact ⟨rfl, _, rfl, .tuple #[], by simp [results, Try.results50, go_sem], rfl, rfl, rfl⟩
def atBox (w : World) : World := w.alloc (.cells #[.int .i64 0] 31)
theorem atBox_c (w : World) : (atBox w).cell? ⟨w.heap.size, 0, none⟩ = some (.int .i64 0) := by simp [atBox]
theorem atBox_f (w : World) : (atBox w).frozen? ⟨w.heap.size, 0, none⟩ = false := by simp [atBox]
set_option maxRecDepth 100000 in
set_option maxHeartbeats 1000000 in
theorem attempt_ok (F : FuncId) (v : Value) (w : World) (C : World → Prop) (hF : ∀ w, (callFunc F #[v]).run Try.prog w = .ok (.enter F #[v]) w) (hC : ∀ w', C w' → w'.heap[w.heap.size]? = (atBox w).heap[w.heap.size]?)
    (hc : Calls Try.prog F #[v] (atBox w) fun e w' => e = .returned (.tuple #[]) ∧ C w') :
    Calls Try.prog 29 #[.func (.func F) #[v] #[]] w fun e w' => e = .returned (.int .i64 0) ∧ ∃ w1, C w1 ∧ w' = w1.setCell ⟨w.heap.size, 0, none⟩ (.int .i64 0) := by
  have hmf : ∀ (fn : Fn) (first cap : Array Value) (w : World), (Instr.makeFunc fn first cap).run Try.prog w = .ok (.func fn first cap) w := fun _ _ _ _ => rfl
  go_enter_defers Try.func29, Try.ntmps29
  have HC := hidT hc
  have HK := hidT hC
  clear hc hC
  go_wp2_with fail
  refine Calls.mono HC.out ?_
  rintro e w1 ⟨rfl, c1⟩
  have a0 : w1.cell? ⟨w.heap.size, 0, none⟩ = some (.int .i64 0) := (World.cell?_of_block (HK.out w1 c1)).trans (atBox_c w)
  have f0 : w1.frozen? ⟨w.heap.size, 0, none⟩ = false := (World.frozen?_of_block (HK.out w1 c1)).trans (atBox_f w)
  have C1 := hidT c1
  clear c1
  go_wp2_with fail
  refine leaves_cons (f := 50) (args := #[.pointer (some ⟨w.heap.size, 0, none⟩)]) (by simp) (by simp [go_sem]) ?_
  refine CallsD.mono (at_idle _ _) ?_
  rintro e u' w'' ⟨rfl, rfl, rfl⟩
  simp [Leaves, settle, results, Try.results29, go_sem, a0]
  exact ⟨w1, C1.out, rfl⟩
set_option maxRecDepth 100000 in
set_option maxHeartbeats 1000000 in
theorem attempt_bad (er : Int) (F : FuncId) (v : Value) (w : World) (C : World → Prop) (hF : ∀ w, (callFunc F #[v]).run Try.prog w = .ok (.enter F #[v]) w) (hC : ∀ w', C w' → w'.heap[w.heap.size]? = (atBox w).heap[w.heap.size]?)
    (hc : Calls Try.prog F #[v] (atBox w) fun e w' => e = tpPan er ∧ C w') :
    Calls Try.prog 29 #[.func (.func F) #[v] #[]] w fun e w' => e = .returned (.int .i64 er) ∧ ∃ w1, C w1 ∧ w' = w1.setCell ⟨w.heap.size, 0, none⟩ (.int .i64 er) := by
  have hmf : ∀ (fn : Fn) (first cap : Array Value) (w : World), (Instr.makeFunc fn first cap).run Try.prog w = .ok (.func fn first cap) w := fun _ _ _ _ => rfl
  go_enter_defers Try.func29, Try.ntmps29
  have HC := hidT hc
  have HK := hidT hC
  clear hc hC
  go_wp2_with fail
  refine Calls.mono HC.out ?_
  rintro e w1 ⟨rfl, c1⟩
  have a0 : w1.cell? ⟨w.heap.size, 0, none⟩ = some (.int .i64 0) := (World.cell?_of_block (HK.out w1 c1)).trans (atBox_c w)
  have f0 : w1.frozen? ⟨w.heap.size, 0, none⟩ = false := (World.frozen?_of_block (HK.out w1 c1)).trans (atBox_f w)
  have C1 := hidT c1
  clear c1
  unfold tpPan
  go_wp2_with fail
  refine leaves_cons (f := 50) (args := #[.pointer (some ⟨w.heap.size, 0, none⟩)]) (by simp) (by simp [go_sem]) ?_
  refine CallsD.mono (at_thrown w.heap.size er _ w1 a0 f0) ?_
  rintro e u' w'' ⟨rfl, rfl, rfl⟩
  simp [Leaves, settle, results, Try.results29, go_sem, a0]
  exact ⟨w1, C1.out, rfl⟩
/-- The reader of an input, whole. -/
theorem inTape_any (w : World) (g : Nat) (a : Option Addr) (c : Nat) (b : List Int) (h : InR w g a c b 0 (.slice none 0 0) [] w) :
    Calls Try.prog 35 #[.pointer (some ⟨g, 0, none⟩)] w fun e w' => irQ w g a c b e w' (Tp.riB b) := by
  unfold Tp.riB
  cases hh : Tp.hd 0 (Tp.head 1) b with
  | some p =>
    obtain ⟨i, x⟩ := p
    exact inTape_head w g a c b w h i x hh
  | none =>
    unfold Tp.rdAt
    cases hc : Tp.rdF 0 0 (b.drop 5) with
    | inr x => exact inTape_count w g a c b w h x hh (.inl hc)
    | inl p =>
      obtain ⟨n, u⟩ := p
      dsimp only
      by_cases hn : 1000 < n
      · rw [if_pos hn]
        exact inTape_count w g a c b w h 2 hh (.inr ⟨rfl, n, u, hc, hn⟩)
      · rw [if_neg hn]
        exact inTape_nums w g a c b w h hh n u hc (by omega)
/-- What ReadInput leaves. -/
def rdQ (w : World) (e : Ending) (w' : World) : Tp.Res (List Int) → Prop
  | .good l _ => ∃ v, e = .returned (.tuple #[v, .int .i64 0, .int .i64 0]) ∧ OwN w' w.heap.size v l ∧ Below w.heap.size w w'
  | .bad i x => e = .returned (.tuple #[.slice none 0 0, .int .i64 (i : Int), .int .i64 x]) ∧ Below w.heap.size w w'
theorem readIn_long (n : Nat) (a : Option Addr) (c : Nat) (w : World) (h : 4194304 < n) (hl : n ≤ 4611686018427387904) :
    Calls Try.prog 15 #[.slice a n c] w fun e w' => e = .returned (.tuple #[.slice none 0 0, .int .i64 0, .int .i64 2]) ∧ w' = w := by
  have d : decide ((4194304 : Int) < (n : Int)) = true := decide_eq_true (by omega)
  go_enter Try.func15, Try.ntmps15
  go_wp2_with fail
  go_ret3
  exact ⟨rfl, rfl⟩
theorem Tp.ends_err (b : List Int) (k i : Nat) (x : Int) (h : Tp.ends b k = some (i, x)) : x ≠ 0 := by
  unfold Tp.ends at h
  split at h
  · simp at h; omega
  · split at h
    · simp at h; omega
    · split at h
      · simp at h; omega
      · cases h
theorem Tp.riB_err (b : List Int) (i : Nat) (x : Int) (h : Tp.riB b = .bad i x) : x ≠ 0 := by
  have hd0 : ∀ (ws cs : List Int) (m i : Nat) (x : Int), Tp.hd m ws cs = some (i, x) → x ≠ 0 := by
    intro ws
    induction ws with
    | nil => intro cs m i x h; simp [Tp.hd] at h
    | cons u ws ih =>
      intro cs m i x h
      cases cs with
      | nil => simp [Tp.hd] at h; omega
      | cons v cs =>
        rw [Tp.hd] at h
        split at h
        · exact ih _ _ _ _ h
        · simp at h; omega
  have hn : ∀ (n k : Nat) (acc : List Int) (i : Nat) (x : Int), Tp.nums b n k acc = .bad i x → x ≠ 0 := by
    intro n
    induction n with
    | zero => intro k acc i x h; simp [Tp.nums] at h
    | succ n ih =>
      intro k acc i x h
      simp only [Tp.nums, Tp.rdAt] at h
      cases hr : Tp.rdF 0 0 (b.drop k) with
      | inl p => rw [hr] at h; exact ih _ _ _ _ h
      | inr e => rw [hr] at h; simp at h; have := Tp.rdF_err _ _ _ _ hr; omega
  unfold Tp.riB at h
  cases hh : Tp.hd 0 (Tp.head 1) b with
  | some p => rw [hh] at h; simp at h; have := hd0 _ _ _ p.1 p.2 hh; omega
  | none =>
    rw [hh] at h
    unfold Tp.rdAt at h
    cases hc : Tp.rdF 0 0 (b.drop 5) with
    | inr e => rw [hc] at h; simp at h; have := Tp.rdF_err _ _ _ _ hc; omega
    | inl p =>
      rw [hc] at h
      dsimp only at h
      split at h
      · simp at h; omega
      · cases hm : Tp.nums b p.1 (5 + p.2) [] with
        | bad j e => rw [hm] at h; simp at h; have := hn _ _ _ _ _ hm; omega
        | good l j =>
          rw [hm] at h
          dsimp only at h
          cases he : Tp.ends b j with
          | none => rw [he] at h; cases h
          | some q => rw [he] at h; simp at h; have := Tp.ends_err b j q.1 q.2 he; omega
set_option maxRecDepth 100000 in
set_option maxHeartbeats 2000000 in
theorem readIn_any (b : List Int) (a : Option Addr) (c : Nat) (w : World) (hy : Tp.Byt b) {B : Nat} (hm : ByS B w a b) (hB : B ≤ w.heap.size) (hc : b.length ≤ c) (hl : b.length ≤ 4194304) :
    Calls Try.prog 15 #[.slice a b.length c] w fun e w' => rdQ w e w' (Tp.riB b) := by
  obtain ⟨W0, hW0⟩ : ∃ W, W = w.alloc (.cells #[.slice a b.length c, .int .i64 0, .slice none 0 0] 66) := ⟨_, rfl⟩
  have B0 : Below w.heap.size w W0 := by rw [hW0]; exact (Below.refl _ _).alloc (Nat.le_refl _) _
  have z0 : W0.heap.size = w.heap.size + 1 := by rw [hW0]; simp
  have B1 : Below W0.heap.size W0 (atBox W0) := (Below.refl _ _).alloc (Nat.le_refl _) _
  have hb : (atBox W0).heap[w.heap.size]? = some (.cells (.slice a b.length c :: .int .i64 ((0 : Nat) : Int) :: [.slice none 0 0]).toArray 66 (0, 0)) := by
    rw [B1.block _ (by omega), hW0]
    exact heap_alloc_new w _
  have hI : InR (atBox W0) w.heap.size a c b 0 (.slice none 0 0) [] (atBox W0) :=
    ⟨⟨hb, (hm.mono hB).later (B0.trans (B1.mono (by omega))) (Nat.le_refl _), hy, hc, Nat.zero_le _, by omega⟩, World.ownsRow_nil _ _ _ _, gbR _ _, by simp [atBox]; omega⟩
  have HT := hidT (inTape_any (atBox W0) w.heap.size a c b hI)
  have hne : ¬ w.heap.size = W0.heap.size := by omega
  have kfin : ∀ (w1 : World) (k : Nat) (v : Value) (l : List Int) (x : Value), InR (atBox W0) w.heap.size a c b k v l w1 → Below w.heap.size w (w1.setCell ⟨W0.heap.size, 0, none⟩ x) ∧ (w1.setCell ⟨W0.heap.size, 0, none⟩ x).cell? ⟨w.heap.size, 1, none⟩ = some (.int .i64 k) ∧ (w1.setCell ⟨W0.heap.size, 0, none⟩ x).cell? ⟨w.heap.size, 2, none⟩ = some v ∧ OwN (w1.setCell ⟨W0.heap.size, 0, none⟩ x) w.heap.size v l := by
    intro w1 k v l x h1
    have e1 : (w1.setCell ⟨W0.heap.size, 0, none⟩ x).heap[w.heap.size]? = w1.heap[w.heap.size]? := heap_setCell_other _ _ _ _ (by simp; omega)
    have sz : (atBox W0).heap.size = W0.heap.size + 1 := by simp [atBox]
    refine ⟨?_, (World.cell?_of_block e1).trans h1.p.c1, (World.cell?_of_block e1).trans h1.c2, ?_⟩
    · refine (B0.trans (B1.mono (by omega))).trans ((gbB h1.bl (by omega)).trans ⟨rfl, rfl, rfl, by simp, fun i hi => heap_setCell_other _ _ i _ (by simp; omega)⟩)
    · have h2 := ownsRow_setCell_below h1.o (a := ⟨W0.heap.size, 0, none⟩) (by simp; omega) x
      exact h2.mono (by omega)
  have KF := hidT kfin
  have hblk : ∀ w1 k v l, InR (atBox W0) w.heap.size a c b k v l w1 → w1.heap[W0.heap.size]? = (atBox W0).heap[W0.heap.size]? := fun w1 k v l h1 => h1.bl.block _ (by simp [atBox]) (by simp; omega)
  have HBK := hidT hblk
  obtain ⟨n, hn⟩ : ∃ n, n = b.length := ⟨_, rfl⟩
  have d : decide ((4194304 : Int) < (n : Int)) = false := decide_eq_false (by omega)
  have hmf : ∀ (fn : Fn) (first cap : Array Value) (w : World), (Instr.makeFunc fn first cap).run Try.prog w = .ok (.func fn first cap) w := fun _ _ _ _ => rfl
  rw [← hn] at hW0 hl hc ⊢
  clear hI hb B1 B0 hblk kfin z0 hm hy hn
  cases hr : Tp.riB b with
  | bad i x =>
    have hx := Tp.riB_err b i x hr
    rw [hr] at HT
    have HA := hidT (attempt_bad x 35 (.pointer (some ⟨w.heap.size, 0, none⟩)) W0 (fun w' => ∃ v l, InR (atBox W0) w.heap.size a c b i v l w') (fun _ => rfl) (fun w' ⟨v, l, h⟩ => HBK.out _ _ _ _ h) HT.out)
    have qx : (x == 0) = false := by simpa using hx
    clear hr HT hx
    go_enter Try.func15, Try.ntmps15
    go_upto_region 4 with fail
    rw [← hW0]
    clear hW0
    go_wp2_with fail
    refine HA.out.mono ?_
    rintro e w' ⟨rfl, w1, ⟨v, l, h1⟩, rfl⟩
    obtain ⟨f1, f2, f3, f4⟩ := KF.out w1 i v l (.int .i64 x) h1
    obtain ⟨W5, hW5⟩ : ∃ W, W = w1.setCell ⟨W0.heap.size, 0, none⟩ (.int .i64 x) := ⟨_, rfl⟩
    rw [← hW5] at f1 f2 f3 f4 ⊢
    have HF1 := hidT f1
    clear hW5 h1 f1 f4
    go_wp2_with fail
    go_quiet (fail)
    have HF2 := hidT (drN HF1.out nq)
    generalize W5.drewN nq = W6 at HF2 ⊢
    go_wp2_with fail
    go_ret3
    exact ⟨rfl, HF2.out⟩
  | good l j =>
    rw [hr] at HT
    have HA := hidT (attempt_ok 35 (.pointer (some ⟨w.heap.size, 0, none⟩)) W0 (fun w' => ∃ k v, InR (atBox W0) w.heap.size a c b k v l w') (fun _ => rfl) (fun w' ⟨k, v, h⟩ => HBK.out _ _ _ _ h) HT.out)
    clear hr HT
    go_enter Try.func15, Try.ntmps15
    go_upto_region 4 with fail
    rw [← hW0]
    clear hW0
    go_wp2_with fail
    refine HA.out.mono ?_
    rintro e w' ⟨rfl, w1, ⟨k, v, h1⟩, rfl⟩
    obtain ⟨f1, f2, f3, f4⟩ := KF.out w1 k v l (.int .i64 0) h1
    obtain ⟨W5, hW5⟩ : ∃ W, W = w1.setCell ⟨W0.heap.size, 0, none⟩ (.int .i64 0) := ⟨_, rfl⟩
    rw [← hW5] at f1 f2 f3 f4 ⊢
    obtain ⟨va, vc, hv⟩ := ownShT f4
    subst hv
    have HF1 := hidT f1
    have HF4 := hidT f4
    clear hW5 h1 f1 f4
    go_wp2_with fail
    go_ret3
    exact ⟨_, rfl, HF4.out, HF1.out⟩
end Go.Proofs.Ytneefpblfiedbaa
