/- Layer 8: a row of the document's table of operations, for every number. -/
import Derived.Test.YtkjkiknpgggadaaDoorSCdI
namespace Go.Proofs.YtkjkiknpgggadaaDoor
open Go.RowKit
set_option linter.unusedVariables false

def rowsA : Array Value := #[.string ⟨#[]⟩, .int .i64 0, .int .i64 0, .int .i64 0, .string ⟨#[112, 117, 115, 104]⟩, .int .i64 1, .int .i64 0, .int .i64 1, .string ⟨#[108, 111, 97, 100]⟩, .int .i64 1, .int .i64 0, .int .i64 1, .string ⟨#[115, 116, 111, 114, 101]⟩, .int .i64 1, .int .i64 1, .int .i64 0, .string ⟨#[105, 110, 100, 101, 120]⟩, .int .i64 2, .int .i64 1, .int .i64 1, .string ⟨#[112, 117, 116]⟩, .int .i64 2, .int .i64 2, .int .i64 0, .string ⟨#[99, 108, 101, 97, 114]⟩, .int .i64 2, .int .i64 0, .int .i64 0, .string ⟨#[97, 100, 100]⟩, .int .i64 0, .int .i64 2, .int .i64 1, .string ⟨#[115, 117, 98]⟩, .int .i64 0, .int .i64 2, .int .i64 1, .string ⟨#[109, 117, 108]⟩, .int .i64 0, .int .i64 2, .int .i64 1, .string ⟨#[100, 105, 118]⟩, .int .i64 0, .int .i64 2, .int .i64 1, .string ⟨#[109, 111, 100]⟩, .int .i64 0, .int .i64 2, .int .i64 1, .string ⟨#[108, 101, 115, 115]⟩, .int .i64 0, .int .i64 2, .int .i64 1, .string ⟨#[109, 111, 115, 116]⟩, .int .i64 0, .int .i64 2, .int .i64 1, .string ⟨#[115, 97, 109, 101]⟩, .int .i64 0, .int .i64 2, .int .i64 1, .string ⟨#[110, 111, 116]⟩, .int .i64 0, .int .i64 1, .int .i64 1, .string ⟨#[110, 101, 103]⟩, .int .i64 0, .int .i64 1, .int .i64 1, .string ⟨#[106, 117, 109, 112]⟩, .int .i64 1, .int .i64 0, .int .i64 0, .string ⟨#[122, 101, 114, 111]⟩, .int .i64 1, .int .i64 1, .int .i64 0, .string ⟨#[99, 97, 108, 108]⟩, .int .i64 2, .int .i64 0, .int .i64 0, .string ⟨#[108, 101, 97, 118, 101]⟩, .int .i64 1, .int .i64 0, .int .i64 0, .string ⟨#[112, 114, 105, 110, 116]⟩, .int .i64 0, .int .i64 1, .int .i64 0, .string ⟨#[114, 101, 97, 100]⟩, .int .i64 0, .int .i64 0, .int .i64 1, .string ⟨#[116, 101, 115, 116]⟩, .int .i64 0, .int .i64 1, .int .i64 0, .string ⟨#[109, 97, 114, 107]⟩, .int .i64 2, .int .i64 0, .int .i64 0, .string ⟨#[100, 114, 111, 112]⟩, .int .i64 0, .int .i64 1, .int .i64 0]
theorem rowsA_w : ∀ k : Nat, k < 26 → rowsA[k * 4]? = some (.string ⟨(Cd.wordL.getD k []).toArray⟩)
  | 0, _ => rfl
  | 1, _ => rfl
  | 2, _ => rfl
  | 3, _ => rfl
  | 4, _ => rfl
  | 5, _ => rfl
  | 6, _ => rfl
  | 7, _ => rfl
  | 8, _ => rfl
  | 9, _ => rfl
  | 10, _ => rfl
  | 11, _ => rfl
  | 12, _ => rfl
  | 13, _ => rfl
  | 14, _ => rfl
  | 15, _ => rfl
  | 16, _ => rfl
  | 17, _ => rfl
  | 18, _ => rfl
  | 19, _ => rfl
  | 20, _ => rfl
  | 21, _ => rfl
  | 22, _ => rfl
  | 23, _ => rfl
  | 24, _ => rfl
  | 25, _ => rfl
  | k + 26, h => by omega
theorem rowsA_n : ∀ k : Nat, k < 26 → rowsA[k * 4 + 1]? = some (.int .i64 (Cd.numsL.getD k 0))
  | 0, _ => rfl
  | 1, _ => rfl
  | 2, _ => rfl
  | 3, _ => rfl
  | 4, _ => rfl
  | 5, _ => rfl
  | 6, _ => rfl
  | 7, _ => rfl
  | 8, _ => rfl
  | 9, _ => rfl
  | 10, _ => rfl
  | 11, _ => rfl
  | 12, _ => rfl
  | 13, _ => rfl
  | 14, _ => rfl
  | 15, _ => rfl
  | 16, _ => rfl
  | 17, _ => rfl
  | 18, _ => rfl
  | 19, _ => rfl
  | 20, _ => rfl
  | 21, _ => rfl
  | 22, _ => rfl
  | 23, _ => rfl
  | 24, _ => rfl
  | 25, _ => rfl
  | k + 26, h => by omega
theorem rowsA_t : ∀ k : Nat, k < 26 → rowsA[k * 4 + 2]? = some (.int .i64 (Cd.takesL.getD k 0))
  | 0, _ => rfl
  | 1, _ => rfl
  | 2, _ => rfl
  | 3, _ => rfl
  | 4, _ => rfl
  | 5, _ => rfl
  | 6, _ => rfl
  | 7, _ => rfl
  | 8, _ => rfl
  | 9, _ => rfl
  | 10, _ => rfl
  | 11, _ => rfl
  | 12, _ => rfl
  | 13, _ => rfl
  | 14, _ => rfl
  | 15, _ => rfl
  | 16, _ => rfl
  | 17, _ => rfl
  | 18, _ => rfl
  | 19, _ => rfl
  | 20, _ => rfl
  | 21, _ => rfl
  | 22, _ => rfl
  | 23, _ => rfl
  | 24, _ => rfl
  | 25, _ => rfl
  | k + 26, h => by omega
theorem rowsA_l : ∀ k : Nat, k < 26 → rowsA[k * 4 + 3]? = some (.int .i64 (Cd.leavesL.getD k 0))
  | 0, _ => rfl
  | 1, _ => rfl
  | 2, _ => rfl
  | 3, _ => rfl
  | 4, _ => rfl
  | 5, _ => rfl
  | 6, _ => rfl
  | 7, _ => rfl
  | 8, _ => rfl
  | 9, _ => rfl
  | 10, _ => rfl
  | 11, _ => rfl
  | 12, _ => rfl
  | 13, _ => rfl
  | 14, _ => rfl
  | 15, _ => rfl
  | 16, _ => rfl
  | 17, _ => rfl
  | 18, _ => rfl
  | 19, _ => rfl
  | 20, _ => rfl
  | 21, _ => rfl
  | 22, _ => rfl
  | 23, _ => rfl
  | 24, _ => rfl
  | 25, _ => rfl
  | k + 26, h => by omega
theorem belR {w w1 : World} {b c : Nat} {v : Value} (h : Below w.heap.size w w1) (hb : w.heap.size ≤ b) : Below w.heap.size w (w1.setCell ⟨b, c, none⟩ v) := h.trans ⟨rfl, rfl, rfl, by simp, fun k hk => heap_setCell_other _ _ k _ (by simp; omega)⟩
abbrev rowV (x : List UInt8) (n t l : Int) : Value := .agg #[.string ⟨x.toArray⟩, .int .i64 n, .int .i64 t, .int .i64 l]
def ofV (op : Int) : Value := if 1 ≤ op ∧ op ≤ 25 then rowV (Cd.wd op) (Cd.nm op) (Cd.takesL.getD op.toNat 0) (Cd.leavesL.getD op.toNat 0) else rowV [] 0 0 0
abbrev rowB0 : Obj := .cells #[.string ⟨#[]⟩, .int .i64 0, .int .i64 0, .int .i64 0] 91
theorem rows_world (w W : World) (h : W = (w.alloc rowB0).alloc (.cells rowsA 91)) : Below w.heap.size w W ∧ W.heap[w.heap.size]? = some rowB0 ∧ (∀ j, W.cell? ⟨w.heap.size + 1, j, none⟩ = rowsA[j]?) := by
  subst h
  have b1 : Below w.heap.size w (w.alloc rowB0) := (Below.refl _ _).alloc (Nat.le_refl _) _
  refine ⟨b1.alloc b1.size _, ?_, fun j => ?_⟩
  · have := ((Below.refl (w.alloc rowB0).heap.size (w.alloc rowB0)).alloc (Nat.le_refl _) (.cells rowsA 91)).block w.heap.size (by simp)
    rw [this]
    exact Array.getElem?_push_size
  · have e : w.heap.size + 1 = (w.alloc rowB0).heap.size := by simp
    rw [e, World.cell?_alloc_at _ _ _ _ rfl]
set_option maxRecDepth 100000 in
set_option maxHeartbeats 8000000 in
theorem rOf_any (op : Int) (w : World) : Calls Tryd.prog 53 #[.int .i64 op] w fun e w' => e = .returned (ofV op) ∧ Below w.heap.size w w' := by
  obtain ⟨W, hW⟩ : ∃ W, W = (w.alloc rowB0).alloc (.cells #[.string ⟨#[]⟩, .int .i64 0, .int .i64 0, .int .i64 0, .string ⟨#[112, 117, 115, 104]⟩, .int .i64 1, .int .i64 0, .int .i64 1, .string ⟨#[108, 111, 97, 100]⟩, .int .i64 1, .int .i64 0, .int .i64 1, .string ⟨#[115, 116, 111, 114, 101]⟩, .int .i64 1, .int .i64 1, .int .i64 0, .string ⟨#[105, 110, 100, 101, 120]⟩, .int .i64 2, .int .i64 1, .int .i64 1, .string ⟨#[112, 117, 116]⟩, .int .i64 2, .int .i64 2, .int .i64 0, .string ⟨#[99, 108, 101, 97, 114]⟩, .int .i64 2, .int .i64 0, .int .i64 0, .string ⟨#[97, 100, 100]⟩, .int .i64 0, .int .i64 2, .int .i64 1, .string ⟨#[115, 117, 98]⟩, .int .i64 0, .int .i64 2, .int .i64 1, .string ⟨#[109, 117, 108]⟩, .int .i64 0, .int .i64 2, .int .i64 1, .string ⟨#[100, 105, 118]⟩, .int .i64 0, .int .i64 2, .int .i64 1, .string ⟨#[109, 111, 100]⟩, .int .i64 0, .int .i64 2, .int .i64 1, .string ⟨#[108, 101, 115, 115]⟩, .int .i64 0, .int .i64 2, .int .i64 1, .string ⟨#[109, 111, 115, 116]⟩, .int .i64 0, .int .i64 2, .int .i64 1, .string ⟨#[115, 97, 109, 101]⟩, .int .i64 0, .int .i64 2, .int .i64 1, .string ⟨#[110, 111, 116]⟩, .int .i64 0, .int .i64 1, .int .i64 1, .string ⟨#[110, 101, 103]⟩, .int .i64 0, .int .i64 1, .int .i64 1, .string ⟨#[106, 117, 109, 112]⟩, .int .i64 1, .int .i64 0, .int .i64 0, .string ⟨#[122, 101, 114, 111]⟩, .int .i64 1, .int .i64 1, .int .i64 0, .string ⟨#[99, 97, 108, 108]⟩, .int .i64 2, .int .i64 0, .int .i64 0, .string ⟨#[108, 101, 97, 118, 101]⟩, .int .i64 1, .int .i64 0, .int .i64 0, .string ⟨#[112, 114, 105, 110, 116]⟩, .int .i64 0, .int .i64 1, .int .i64 0, .string ⟨#[114, 101, 97, 100]⟩, .int .i64 0, .int .i64 0, .int .i64 1, .string ⟨#[116, 101, 115, 116]⟩, .int .i64 0, .int .i64 1, .int .i64 0, .string ⟨#[109, 97, 114, 107]⟩, .int .i64 2, .int .i64 0, .int .i64 0, .string ⟨#[100, 114, 111, 112]⟩, .int .i64 0, .int .i64 1, .int .i64 0] 91) := ⟨_, rfl⟩
  obtain ⟨bw, b0, br⟩ := rows_world w W hW
  obtain ⟨z, hz⟩ : ∃ z, z = w.heap.size := ⟨_, rfl⟩
  rw [← hz] at b0 br
  have c0 : W.cell? ⟨z, 0, none⟩ = some (.string ⟨#[]⟩) := by simp [World.cell?, b0]
  have c1 : W.cell? ⟨z, 1, none⟩ = some (.int .i64 0) := by simp [World.cell?, b0]
  have c2 : W.cell? ⟨z, 2, none⟩ = some (.int .i64 0) := by simp [World.cell?, b0]
  have c3 : W.cell? ⟨z, 3, none⟩ = some (.int .i64 0) := by simp [World.cell?, b0]
  have f0 : ∀ c : Nat, W.frozen? ⟨z, c, none⟩ = false := fun c => by simp [World.frozen?, b0]
  have g0 := f0 0
  have g1 := f0 1
  have g2 := f0 2
  have g3 := f0 3
  have BW : Hid (Below w.heap.size w W) := bw
  have HZ : Hid (w.heap.size ≤ z) := Nat.le_of_eq hz.symm
  have hz2 : ¬ z = z + 1 := by omega
  have hz3 : ¬ z + 1 = z := by omega
  clear bw b0 f0
  by_cases h : 1 ≤ op ∧ op ≤ 25
  · obtain ⟨k, rfl⟩ : ∃ k : Nat, op = k := ⟨op.toNat, by omega⟩
    have hk : k < 26 := by omega
    have d0 := (br (k * 4)).trans (rowsA_w k hk)
    have d1 := (br (k * 4 + 1)).trans (rowsA_n k hk)
    have d2 := (br (k * 4 + 2)).trans (rowsA_t k hk)
    have d3 := (br (k * 4 + 3)).trans (rowsA_l k hk)
    have EV : Hid (ofV k = rowV (Cd.wordL.getD k []) (Cd.numsL.getD k 0) (Cd.takesL.getD k 0) (Cd.leavesL.getD k 0)) := by unfold Hid ofV Cd.wd Cd.nm; rw [if_pos h, Int.toNat_natCast]
    rw [EV.out]
    have i1 : ¬ (k : Int) < 1 := by omega
    have i2 : (k : Int) < 26 := by omega
    have i3 : ¬ (26 : Int) ≤ (k : Int) := by omega
    have i0 : (0 : Int) ≤ (k : Int) := by omega
    clear br h EV
    generalize Cd.wordL.getD k [] = x0 at d0 ⊢
    generalize Cd.numsL.getD k 0 = x1 at d1 ⊢
    generalize Cd.takesL.getD k 0 = x2 at d2 ⊢
    generalize Cd.leavesL.getD k 0 = x3 at d3 ⊢
    go_enter Tryd.func53, Tryd.ntmps53
    go_upto_region 2 with fail
    rw [← hW, ← hz]
    clear hW hz
    go_wp2_with fail
    refine bodyPost_ret (v := rowV x0 x1 x2 x3) (by simp [results, Tryd.results53, go_sem, c0, c1, c2, c3]) rfl ?_
    exact ⟨rfl, belR (belR (belR (belR BW.out HZ.out) HZ.out) HZ.out) HZ.out⟩
  · have EV : Hid (ofV op = rowV [] 0 0 0) := by unfold Hid ofV; rw [if_neg h]
    rw [EV.out]
    clear br EV
    by_cases h1 : op < 1
    · clear h
      go_enter Tryd.func53, Tryd.ntmps53
      go_upto_region 2 with fail
      rw [← hW, ← hz]
      clear hW hz
      go_wp2_with fail
      refine bodyPost_ret (v := rowV [] 0 0 0) (by simp [results, Tryd.results53, go_sem, c0, c1, c2, c3]) rfl ?_
      exact ⟨rfl, belR (belR (belR (belR BW.out HZ.out) HZ.out) HZ.out) HZ.out⟩
    · have h2 : (26 : Int) ≤ op := by omega
      clear h
      go_enter Tryd.func53, Tryd.ntmps53
      go_upto_region 2 with fail
      rw [← hW, ← hz]
      clear hW hz
      go_wp2_with fail
      refine bodyPost_ret (v := rowV [] 0 0 0) (by simp [results, Tryd.results53, go_sem, c0, c1, c2, c3]) rfl ?_
      exact ⟨rfl, belR (belR (belR (belR BW.out HZ.out) HZ.out) HZ.out) HZ.out⟩
end Go.Proofs.YtkjkiknpgggadaaDoor

