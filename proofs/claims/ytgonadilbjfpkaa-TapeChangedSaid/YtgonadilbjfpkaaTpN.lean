/- Layer 13: the end of a tape is taken. -/
import Derived.Test.YtgonadilbjfpkaaTpO
import Derived.Laws.CopyRow
import Derived.Laws.IdiomCopy
namespace Go.Proofs.Ytgonadilbjfpkaa
open Go.RowKit
set_option linter.unusedVariables false
theorem infoB1 : (Try.prog.info? 5).map (·.size) = some 1 := by kernel_rfl
theorem slE : Try.prog.underlying 22 = some (.slice 5) := Try.underlying22
/-- Bytes are copied to the front of a row. -/
theorem cp_some (W : World) (m : Nat) (T : TypeId) (z : List Value) (N : Nat) (hm : W.heap[m]? = some (.cells z.toArray T (0, 0))) (hz : z.length = N) (l : List Int) (ga oa cl : Nat) (hs : ∀ j x, l[j]? = some x → W.cell? ⟨ga, oa + j, none⟩ = some (.int .u8 x)) :
    ∃ W1, (∀ ty, (Builtin.copy_ #[22, 22] ty #[.slice (some ⟨m, 0, none⟩) N N, .slice (some ⟨ga, oa, none⟩) l.length cl]).run Try.prog W = .ok (goInt (Nat.min l.length N)) W1) ∧ W1.heap[m]? = some (.cells (byC (l.take N) ++ z.drop (Nat.min l.length N)).toArray T (0, 0)) ∧ W.grownBy W1 (some m) := by
  have hcl : (byC (l.take N)).length = Nat.min l.length N := by rw [byC_len, List.length_take, Nat.min_comm]
  have hmn : Nat.min l.length N ≤ N := Nat.min_le_right _ _
  refine ⟨W.setRow m (z.take 0 ++ byC (l.take N) ++ z.drop (0 + (byC (l.take N)).length)).toArray, fun ty => ?_, ?_, ?_⟩
  · have := run_copy_row (P := Try.prog) W 22 22 ty 5 m 0 N N ⟨ga, oa, none⟩ l.length cl z.toArray T (byC (l.take N)) slE infoB1 hm hcl (fun j v hj => by
      rw [adT]
      have hx : (byC (l.take N))[j]? = (l.take N)[j]?.map (Value.int .u8) := by unfold byC; rw [List.getElem?_map]
      rw [hx] at hj
      cases hy : (l.take N)[j]? with
      | none => rw [hy] at hj; cases hj
      | some x =>
        rw [hy] at hj
        cases hj
        rw [List.getElem?_take] at hy
        split at hy
        · exact hs j x hy
        · cases hy) (by rw [hcl, Nat.zero_add, List.size_toArray, hz]; exact hmn) (byC_one _)
    rw [hcl] at this ⊢
    exact this
  · rw [setRow_heap W m z.toArray _ T _ hm, hcl]
    simp
  · exact ⟨rfl, rfl, rfl, by simp, fun k _ hk => setRow_other W m k _ (fun e => hk (by rw [e]))⟩
set_option maxRecDepth 100000 in
set_option maxHeartbeats 2000000 in
theorem end_none (w : World) (g : Nat) (T : TypeId) (a : Option Addr) (c : Nat) (b : List Int) (r : List Value) (h : PlB w g T a c b b.length r) :
    Calls Try.prog 61 #[.pointer (some ⟨g, 0, none⟩)] w fun e w' => e = tpPan 112 ∧ PlQ g T a c b r w b.length w' := by
  have hkl := h.le
  have hln := h.ln
  have hcap := h.cap
  obtain ⟨n, hn⟩ : ∃ n, n = b.length := ⟨_, rfl⟩
  have HN := hidT hn
  rw [← hn] at hkl hln hcap
  obtain ⟨W0, hW0⟩ : ∃ W, W = w.alloc (.cells #[.int .u8 0, .int .u8 0, .int .u8 0, .int .u8 0] 86) := ⟨_, rfl⟩
  have B0 : Below w.heap.size w W0 := by rw [hW0]; exact (Below.refl _ _).alloc (Nat.le_refl _) _
  have H0 := hidT (h.later (B0.mono h.lt))
  have G0 : Hid (w.grownBy W0 (some g)) := gbOf B0
  have a0 := H0.out.c0
  have a1 := H0.out.c1
  rw [← hn] at a0 a1
  have hcp : ∀ ty d c1 a c, (Builtin.copy_ #[22, 22] ty #[.slice d 4 c1, .slice a 0 c]).run Try.prog W0.drew = .ok (goInt 0) W0.drew := fun ty d c1 a c => run_copy_none _ 22 22 ty 5 d a 4 c1 0 c slE infoB1 (by simp)
  have hs : n - n = 0 := Nat.sub_self n
  have HF : Hid (PlQ g T a c b r w b.length W0.drew) := ⟨H0.out.later (drN (Below.refl _ _) 1), drG G0.out 1⟩
  clear h B0 G0 H0
  rcases Nat.lt_or_ge n c with hz | hz
  · have hz1 : ¬ c = n := by omega
    have hz2 : (c - n == 0) = false := by simp; omega
    clear hn
    go_enter Try.func61, Try.ntmps61
    go_upto_region 1 with fail
    rw [← hW0]
    clear hW0
    go_region
    go_wp2_with fail
    refine (must_no 112 _).mono ?_
    unfold tpPan
    rintro e w' ⟨rfl, rfl⟩
    go_wp2_with fail
    exact ⟨rfl, rfl, HF.out⟩
  · obtain rfl : c = n := by omega
    clear hn
    go_enter Try.func61, Try.ntmps61
    go_upto_region 1 with fail
    rw [← hW0]
    clear hW0
    go_region
    go_wp2_with fail
    refine (must_no 112 _).mono ?_
    unfold tpPan
    rintro e w' ⟨rfl, rfl⟩
    go_wp2_with fail
    exact ⟨rfl, rfl, HF.out⟩
set_option maxRecDepth 100000 in
set_option maxHeartbeats 2000000 in
theorem end_short (w : World) (g : Nat) (T : TypeId) (a : Option Addr) (c : Nat) (b : List Int) (k : Nat) (r : List Value) (h : PlB w g T a c b k r) (hs : b.length < k + 4) (hk : k < b.length) :
    Calls Try.prog 61 #[.pointer (some ⟨g, 0, none⟩)] w fun e w' => e = tpPan 112 ∧ PlQ g T a c b r w k w' := by
  have hkl := h.le
  have hln := h.ln
  have hcap := h.cap
  obtain ⟨ga, o, rfl, hga, hce⟩ := h.bs (by omega)
  obtain ⟨n, hn⟩ : ∃ n, n = b.length := ⟨_, rfl⟩
  obtain ⟨W0, hW0⟩ : ∃ W, W = w.alloc (.cells #[.int .u8 0, .int .u8 0, .int .u8 0, .int .u8 0] 86) := ⟨_, rfl⟩
  have B0 : Below w.heap.size w W0 := by rw [hW0]; exact (Below.refl _ _).alloc (Nat.le_refl _) _
  have H0 := hidT (h.later (B0.mono h.lt))
  have a0 := H0.out.c0
  have a1 := H0.out.c1
  have hm0 : W0.heap[w.heap.size]? = some (.cells [.int .u8 0, .int .u8 0, .int .u8 0, .int .u8 0].toArray 86 (0, 0)) := by rw [hW0]; exact heap_alloc_new w _
  obtain ⟨W1, hcp, hm1, g1⟩ := cp_some W0.drew w.heap.size 86 _ 4 hm0 rfl (b.drop k) ga (o + k) (c - k) (fun j x hj => by
    rw [List.getElem?_drop] at hj
    rw [Nat.add_assoc]
    exact (B0.cell (p := ⟨ga, _, none⟩) (Nat.lt_trans hga h.lt)).trans (hce _ x hj))
  have B1 : Below w.heap.size w W1 := B0.trans ⟨g1.os, g1.tape, g1.output, g1.size, fun i hi => g1.block i (by have := B0.size; simp; omega) (by simp; omega)⟩
  have HF : Hid (PlQ g T (some ⟨ga, o, none⟩) c b r w k W1) := ⟨h.later (B1.mono h.lt), gbOf B1⟩
  rw [← hn] at hkl hln hcap a0 hs hk
  rw [List.length_drop, ← hn] at hcp
  have hmin : Nat.min (n - k) 4 = n - k := Nat.min_eq_left (by omega)
  rw [hmin] at hcp
  have q4 : (((n - k : Nat) : Int) == 4) = false := by simp; omega
  have q4n : ((n - k) == 4) = false := by simp; omega
  have q4m : ¬ n - k = 4 := by omega
  obtain ⟨L, hL⟩ : ∃ L, n - k = L := ⟨_, rfl⟩
  have hz1 : ¬ c = k := by omega
  have hz2 : (c - k == 0) = false := by simp; omega
  rw [hL] at hcp q4 q4n q4m
  clear h B0 H0 hce hn hm1 g1 B1 hm0 hmin
  go_enter Try.func61, Try.ntmps61
  go_upto_region 1 with fail
  rw [← hW0]
  clear hW0
  go_region
  go_wp2_with fail
  refine (must_no 112 _).mono ?_
  unfold tpPan
  rintro e w' ⟨rfl, rfl⟩
  go_wp2_with fail
  exact ⟨rfl, rfl, HF.out⟩
end Go.Proofs.Ytgonadilbjfpkaa
