/- Layer 15: Fits; the document's Rises, Fits. -/
import Derived.Test.YtpfkoglmfbaadabDoorAlK
import Derived.Test.YtpfkoglmfbaadabDoorAlPm
namespace Go.Proofs.YtpfkoglmfbaadabDoor
open Go.RowKit
set_option linter.unusedVariables false
set_option linter.unusedSimpArgs false
set_option maxRecDepth 100000
theorem drop_at {l : List Al.Ev} {k : Nat} {x : Al.Ev} (hx : l[k]? = some x) : l.drop k = x :: l.drop (k + 1) := by
  obtain ⟨h1, h2⟩ := List.getElem?_eq_some_iff.1 hx
  rw [List.drop_eq_getElem_cons h1, h2]
theorem alike_step {a b : List Al.Ev} {l : List Al.Ev} {k i j : Nat} {x y : Al.Ev} (hp : l[k]? = some ((i : Int), (j : Int))) (ha : a[i]? = some x) (hb : b[j]? = some y) : Al.alike a b (l.drop k) = (decide (x = y) && Al.alike a b (l.drop (k + 1))) := by
  rw [drop_at hp]
  unfold Al.alike
  rw [List.all_cons]
  congr 1
  show (a[((i : Nat) : Int).toNat]? == b[((j : Nat) : Int).toNat]?) = _
  rw [Int.toNat_natCast, Int.toNat_natCast, ha, hb]
  by_cases e : x = y
  · subst e; simp
  · rw [decide_eq_false e]
    simpa using e
/-- A pair that lies within, as two indices. -/
theorem rise_at {a b l : List Al.Ev} {k : Nat} (hr : Al.rise a.length b.length (-1, -1) l = true) (hk : k < l.length) : ∃ (i j : Nat) (x y : Al.Ev), l[k]? = some ((i : Int), (j : Int)) ∧ i < a.length ∧ j < b.length ∧ a[i]? = some x ∧ b[j]? = some y := by
  obtain ⟨p, hp⟩ : ∃ p, l[k]? = some p := ⟨_, List.getElem?_eq_getElem hk⟩
  obtain ⟨h1, h2, h3, h4⟩ := Al.rise_mem hr p (List.mem_of_getElem? hp)
  simp only at h1 h3
  refine ⟨p.1.toNat, p.2.toNat, a[p.1.toNat]'(by omega), b[p.2.toNat]'(by omega), ?_, by omega, by omega, List.getElem?_eq_getElem _, List.getElem?_eq_getElem _⟩
  rw [hp]
  congr 1
  exact Prod.ext (by simp only; omega) (by simp only; omega)
theorem ix_nums {i n : Nat} (h : i < n) : (i : Int) < (n : Int) ∧ decide (i < n) = true ∧ (0 : Int) ≤ (i : Int) := ⟨by omega, decide_eq_true h, by omega⟩
end Go.Proofs.YtpfkoglmfbaadabDoor
