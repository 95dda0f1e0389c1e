/- Layer 13, plain: a tape with one byte changed is not read. -/
import Derived.Test.YtgonadilbjfpkaaTtM
namespace Go.Proofs.Ytgonadilbjfpkaa.Tp
open Go.RowKit
set_option linter.unusedVariables false
theorem ends_ok (b : List Int) (k : Nat) (h : ends b k = none) : k + 4 = b.length ∧ b.drop k = sl4 (sum (b.take k)) := by
  unfold ends at h
  split at h
  · cases h
  · split at h
    · cases h
    · rename_i h1 h2
      split at h
      · cases h
      · have e : k + 4 = b.length := by omega
        refine ⟨e, ?_⟩
        have h3 : (b.drop k).take 4 = sl4 (sum (b.take k)) := Classical.not_not.1 h2
        rwa [List.take_of_length_le (by rw [List.length_drop]; omega)] at h3
theorem sum_fst (l : List Int) : sum l % 65536 = (1 + l.sum) % 65521 := by
  have h := sm_bd l
  have e := sm_fst l
  unfold sum
  omega
theorem sum_set : ∀ (l : List Int) (k : Nat) (x y : Int), l[k]? = some x → (l.set k y).sum = l.sum + (y - x)
  | [], k, x, y, h => by simp at h
  | a :: l, 0, x, y, h => by simp at h; subst h; simp; omega
  | a :: l, k + 1, x, y, h => by
    simp at h
    have := sum_set l k x y h
    simp [this]
    omega
/-- Bytes whose last four are the sum of those ahead are not so once one byte is another. -/
theorem changed (b : List Int) (n k j : Nat) (x y : Int) (hn : n + 4 = b.length) (hs : b.drop n = sl4 (sum (b.take n))) (hk : b[k]? = some x) (hx : 0 ≤ x ∧ x ≤ 255) (hy : 0 ≤ y ∧ y ≤ 255) (hxy : x ≠ y) : ends (b.set k y) j ≠ none := by
  intro he
  obtain ⟨e1, e2⟩ := ends_ok _ _ he
  rw [List.length_set] at e1
  obtain rfl : j = n := by omega
  have hkl : k < b.length := (List.getElem?_eq_some_iff.1 hk).1
  rcases Nat.lt_or_ge k j with h | h
  · rw [List.drop_set_of_lt h, hs] at e2
    have e3 := sl4_inj _ _ (sum_bd _) (sum_bd _) e2
    have f1 := sum_fst (b.take j)
    have f2 := sum_fst ((b.set k y).take j)
    rw [← e3, List.take_set, sum_set (b.take j) k x y (by rw [List.getElem?_take, if_pos h]; exact hk)] at f2
    omega
  · have e4 : (b.set k y).take j = b.take j := by rw [List.take_set, List.set_eq_of_length_le (by rw [List.length_take]; omega)]
    rw [e4, ← hs] at e2
    have e3 := congrArg (fun l => l[k - j]?) e2
    simp only [List.getElem?_drop] at e3
    rw [show j + (k - j) = k by omega, List.getElem?_set_self hkl, hk] at e3
    simp at e3
    exact hxy e3.symm
theorem riB_ends (b : List Int) (l : List Int) (u : Nat) (h : riB b = .good l u) : ∃ j, ends b j = none := by
  unfold riB at h
  repeat' split at h
  all_goals first
    | (cases h; done)
    | exact ⟨_, by assumption⟩
theorem rtB_ends (b : List Int) (t : Tr) (s u : Nat) (h : rtB b = .good t s u) : ∃ j, ends b j = none := by
  unfold rtB at h
  repeat' split at h
  all_goals first
    | (cases h; done)
    | exact ⟨_, by assumption⟩
/-- A tape, as it was written, and with a byte changed. -/
theorem sealed_drop (a : List Int) : (a ++ sl4 (sum a)).length = a.length + 4 ∧ (a ++ sl4 (sum a)).drop a.length = sl4 (sum ((a ++ sl4 (sum a)).take a.length)) := by
  refine ⟨by simp [sl4], ?_⟩
  rw [List.drop_append, List.take_append]
  simp
theorem ri_changed (a : List Int) (k : Nat) (x y : Int) (hk : (a ++ sl4 (sum a))[k]? = some x) (hx : 0 ≤ x ∧ x ≤ 255) (hy : 0 ≤ y ∧ y ≤ 255) (hxy : x ≠ y) : ∃ i e, riB ((a ++ sl4 (sum a)).set k y) = .bad i e := by
  obtain ⟨h1, h2⟩ := sealed_drop a
  cases h : riB ((a ++ sl4 (sum a)).set k y) with
  | bad i e => exact ⟨i, e, rfl⟩
  | good l u =>
    obtain ⟨j, hj⟩ := riB_ends _ _ _ h
    exact absurd hj (changed _ a.length k j x y h1.symm h2 hk hx hy hxy)
theorem rt_changed (a : List Int) (k : Nat) (x y : Int) (hk : (a ++ sl4 (sum a))[k]? = some x) (hx : 0 ≤ x ∧ x ≤ 255) (hy : 0 ≤ y ∧ y ≤ 255) (hxy : x ≠ y) : ∃ t s i e, rtB ((a ++ sl4 (sum a)).set k y) = .bad t s i e := by
  obtain ⟨h1, h2⟩ := sealed_drop a
  cases h : rtB ((a ++ sl4 (sum a)).set k y) with
  | bad t s i e => exact ⟨t, s, i, e, rfl⟩
  | good t s u =>
    obtain ⟨j, hj⟩ := rtB_ends _ _ _ _ h
    exact absurd hj (changed _ a.length k j x y h1.symm h2 hk hx hy hxy)
end Go.Proofs.Ytgonadilbjfpkaa.Tp
