/- Layer 4, plain: in a right program's procedure each variable is found by its name wherever it is in scope, and parameters are in scope everywhere. -/
import Derived.Test.YtfpabjdhibmefaaZCkZo
namespace Go.Proofs.Ytfpabjdhibmefaa
open Go.RowKit

theorem ixn_no : ∀ (l : List (List UInt8)) (n : List UInt8) (k : Nat), ixn l n k = -1 → n ∉ l
  | [], n, k, _ => by simp
  | a :: r, n, k, h => by
    rw [ixn] at h
    split at h
    · omega
    · rename_i hn
      have := ixn_no r n (k + 1) h
      simp only [List.mem_cons, not_or]
      exact ⟨fun e => hn e.symm, this⟩
theorem ckUq_ne {vs : List CkVa} (h : ckUq (vs.map CkVa.name)) {i j : Nat} (hij : i < j) (hj : j < vs.length) : (vs.getD i ckV0).name ≠ (vs.getD j ckV0).name := by
  have := ixn_no _ _ _ (h j (by simpa using hj))
  intro e
  apply this
  have hi : i < vs.length := by omega
  have e1 : (vs.map CkVa.name).getD j [] = (vs.getD j ckV0).name := by
    rw [List.getD_eq_getElem?_getD, List.getD_eq_getElem?_getD, List.getElem?_map, List.getElem?_eq_getElem hj]
    rfl
  rw [e1, ← e]
  apply List.mem_of_getElem? (i := i)
  rw [List.getElem?_take_of_lt hij, List.getElem?_map, List.getElem?_eq_getElem hi, List.getD_eq_getElem?_getD, List.getElem?_eq_getElem hi]
  rfl
theorem ckFi_own {vs : List CkVa} (h : ckUq (vs.map CkVa.name)) {j : Nat} (hj : j < vs.length) {m : Int} (hm : (vs.getD j ckV0).fr ≤ m ∧ m ≤ (vs.getD j ckV0).tl) : ckFi vs (vs.getD j ckV0).name m 0 = j := by
  have key : ∀ d k, k + d = j → ckFi (vs.drop k) (vs.getD j ckV0).name m k = j := by
    intro d
    induction d with
    | zero =>
      intro k hk
      obtain rfl : k = j := by omega
      exact ckFi_hit hj ⟨rfl, hm⟩
    | succ d ih =>
      intro k hk
      rw [ckFi_miss (by omega) (fun e => ckUq_ne h (by omega) hj e.1)]
      exact ih (k + 1) (by omega)
  have := key j 0 (by omega)
  rwa [List.drop_zero] at this
theorem ckPgs_ok {ps : List Sy.Pc} : ∀ (l : List Sy.Pc) (j : Nat) (s : Nat × Int), (ckPgs ps l j s).1 = none → ∀ x, x ∈ l → ckUq ((ckVs x).map CkVa.name)
  | [], _, _, _, x, hx => by cases hx
  | y :: r, j, s, h, x, hx => by
    rw [ckPgs] at h
    have hy : (ckPr ps y).1 = none := by
      match e : ckPr ps y with
      | (some er, m) => rw [e] at h; cases h
      | (none, m) => rfl
    have hd : ckDcl y.params.length (ckVs y) = none := by
      unfold ckPr at hy
      match e : ckDcl y.params.length (ckVs y) with
      | some er => rw [e] at hy; cases hy
      | none => rfl
    have hu : ckUq ((ckVs y).map CkVa.name) := by
      unfold ckDcl at hd
      split at hd
      · split at hd
        · assumption
        · cases hd
      · cases hd
    rcases List.mem_cons.1 hx with rfl | hx
    · exact hu
    · match e : ckPr ps y with
      | (some er, m) => rw [e] at hy; cases hy
      | (none, m) =>
        rw [e] at h
        exact ckPgs_ok r (j + 1) (j, m) h x hx
theorem ckPg_ok {ps : List Sy.Pc} (h : (ckPg ps).1 = none) : ∀ x, x ∈ ps → ckUq ((ckVs x).map CkVa.name) := by
  unfold ckPg at h
  split at h
  · cases h
  · exact ckPgs_ok ps 0 (0, 0) h
theorem ckVs_par {x : Sy.Pc} {j : Nat} (h : j < x.params.length) : ((ckVs x).getD j ckV0).fr = 0 ∧ ((ckVs x).getD j ckV0).tl = Sy.cts x.body + 1 := by
  have e : (ckVs x)[j]? = some (paV (Sy.cts x.body + 1) x.params[j]) := by
    unfold ckVs
    rw [List.getElem?_append_left (by simpa using h), List.getElem?_map, List.getElem?_eq_getElem h]
    rfl
  rw [List.getD_eq_getElem?_getD, e]
  exact ⟨rfl, rfl⟩
end Go.Proofs.Ytfpabjdhibmefaa
