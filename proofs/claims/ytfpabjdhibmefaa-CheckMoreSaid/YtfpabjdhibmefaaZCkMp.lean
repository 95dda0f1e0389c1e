/- Layer 4, plain: a right program with one procedure more behind it. -/
import Derived.Test.YtfpabjdhibmefaaZCkSp
namespace Go.Proofs.Ytfpabjdhibmefaa
open Go.RowKit

theorem ckCd_app {z : Sy.Pc} {n : List UInt8} {y : Sy.Pc} : ∀ {ps : List Sy.Pc}, ckCd ps n = some y → ckCd (ps ++ [z]) n = some y
  | [], h => by cases h
  | x :: r, h => by
    rw [List.cons_append, ckCd]
    rw [ckCd] at h
    split
    · rename_i e; rw [if_pos e] at h; exact h
    · rename_i e; rw [if_neg e] at h; exact ckCd_app h
theorem ckCal_app {vs : List CkVa} {mk : Int} {ps : List Sy.Pc} {z : Sy.Pc} {n q : List UInt8} {e : List Sx.Ex} (h : ckCal vs mk ps n q e = none) : ckCal vs mk (ps ++ [z]) n q e = none := by
  unfold ckCal at h ⊢
  cases hc : ckCd ps q with
  | none => rw [hc] at h; cases h
  | some x => rw [hc] at h; rw [ckCd_app hc]; exact h
theorem ckStm_app {vs : List CkVa} {mk : Int} {ps : List Sy.Pc} {z : Sy.Pc} {ty : Int} {s : Sy.St} (h : ckStm vs mk ps ty s = none) : ckStm vs mk (ps ++ [z]) ty s = none := by
  cases s with
  | mk k n q num e b l =>
    rw [ckStm] at h ⊢
    split
    · rename_i e1; rw [if_pos e1] at h; exact h
    rename_i e1; rw [if_neg e1] at h
    split
    · rename_i e1; rw [if_pos e1] at h; exact h
    rename_i e1; rw [if_neg e1] at h
    split
    · rename_i e1; rw [if_pos e1] at h; exact h
    rename_i e1; rw [if_neg e1] at h
    split
    · rename_i e1; rw [if_pos e1] at h; exact h
    rename_i e1; rw [if_neg e1] at h
    split
    · rename_i e1; rw [if_pos e1] at h; exact h
    rename_i e1; rw [if_neg e1] at h
    split
    · rename_i e1; rw [if_pos e1] at h; exact h
    rename_i e1; rw [if_neg e1] at h
    split
    · rename_i e1; rw [if_pos e1] at h; exact h
    rename_i e1; rw [if_neg e1] at h
    split
    · rename_i e1; rw [if_pos e1] at h; exact ckCal_app h
    · rename_i e1; rw [if_neg e1] at h; exact h
theorem ckBs_app_aux {vs : List CkVa} {ps : List Sy.Pc} {z : Sy.Pc} {ty : Int} : ∀ (l : List Sy.St), (∀ x, x ∈ l → ∀ m m', ckB1 vs ps ty x m = (none, m') → ckB1 vs (ps ++ [z]) ty x m = (none, m')) → ∀ m m', ckBs vs ps ty l m = (none, m') → ckBs vs (ps ++ [z]) ty l m = (none, m')
  | [], _, m, m', h => by rw [ckBs] at h ⊢; exact h
  | s :: r, hP, m, m', h => by
    rw [ckBs] at h ⊢
    match e : ckB1 vs ps ty s m with
    | (some er, m2) => rw [e] at h; cases h
    | (none, m2) =>
      rw [e] at h
      rw [hP s List.mem_cons_self m m2 e]
      exact ckBs_app_aux r (fun x hx => hP x (List.mem_cons_of_mem _ hx)) m2 m' h
theorem ckB1_app {vs : List CkVa} {ps : List Sy.Pc} {z : Sy.Pc} {ty : Int} (x : Sy.St) : ∀ m m', ckB1 vs ps ty x m = (none, m') → ckB1 vs (ps ++ [z]) ty x m = (none, m') := by
  induction x using Sy.ind with
  | h k n p num e b l hb hl =>
    intro m m' h
    rw [ckB1] at h ⊢
    cases h1 : ckStm vs (m + 1) ps ty (.mk k n p num e b l) with
    | some er => rw [h1] at h; cases h
    | none =>
      rw [h1] at h
      rw [ckStm_app h1]
      match h2 : ckBs vs ps ty b (m + 1) with
      | (some er, m2) => rw [h2] at h; cases h
      | (none, m2) =>
        rw [h2] at h
        dsimp only at h ⊢
        rw [ckBs_app_aux b hb _ _ h2]
        exact ckBs_app_aux l hl _ _ h
theorem ckPr_app {ps : List Sy.Pc} {z x : Sy.Pc} {m : Int} (h : ckPr ps x = (none, m)) : ckPr (ps ++ [z]) x = (none, m) := by
  unfold ckPr at h ⊢
  match h1 : ckDcl x.params.length (ckVs x) with
  | some er => rw [h1] at h; cases h
  | none =>
    rw [h1] at h
    match h2 : ckBs (ckVs x) ps x.type x.body 0 with
    | (some er, m2) => rw [h2] at h; cases h
    | (none, m2) =>
      rw [h2] at h
      dsimp only at h ⊢
      rw [ckBs_app_aux x.body (fun y _ => ckB1_app y) _ _ h2]
      exact h
theorem ckPgs_app {ps : List Sy.Pc} {z : Sy.Pc} (r : List Sy.Pc) : ∀ (l : List Sy.Pc) (j : Nat) (s : Nat × Int) (a : Nat) (m : Int), ckPgs ps l j s = (none, a, m) → ckPgs (ps ++ [z]) (l ++ r) j s = ckPgs (ps ++ [z]) r (j + l.length) (a, m)
  | [], j, s, a, m, h => by
    rw [ckPgs] at h
    cases h
    rfl
  | x :: l, j, s, a, m, h => by
    rw [ckPgs] at h
    rw [List.cons_append, ckPgs]
    match e : ckPr ps x with
    | (some er, m2) => rw [e] at h; cases h
    | (none, m2) =>
      rw [e] at h
      rw [ckPr_app e]
      dsimp only at h ⊢
      rw [ckPgs_app r l (j + 1) (j, m2) a m h, List.length_cons]
      congr 1
      omega
theorem ixn_none : ∀ (l : List (List UInt8)) (n : List UInt8) (k : Nat), n ∉ l → ixn l n k = -1
  | [], n, k, _ => rfl
  | a :: r, n, k, h => by
    simp only [List.mem_cons, not_or] at h
    rw [ixn, if_neg (fun e => h.1 e.symm)]
    exact ixn_none r n (k + 1) h.2
theorem ixn_app : ∀ (l : List (List UInt8)) (n : List UInt8) (k : Nat) (r : List (List UInt8)), n ∈ l → ixn (l ++ r) n k = ixn l n k
  | a :: l, n, k, r, h => by
    rw [List.cons_append, ixn, ixn]
    by_cases e : a = n
    · rw [if_pos e, if_pos e]
    · rw [if_neg e, if_neg e]
      exact ixn_app l n (k + 1) r ((List.mem_cons.1 h).resolve_left fun e2 => e e2.symm)
theorem ixn_mem {l : List (List UInt8)} {n : List UInt8} {k : Nat} (h : ixn l n k ≠ -1) : n ∈ l := by
  by_cases e : n ∈ l
  · exact e
  · exact absurd (ixn_none l n k e) h
theorem ckUq_app {l : List (List UInt8)} {n : List UInt8} (h : ckUq l) (hn : n ∉ l) : ckUq (l ++ [n]) := by
  intro i hi
  rw [List.length_append, List.length_singleton] at hi
  by_cases e : i < l.length
  · have e1 : (l ++ [n]).take i = l.take i := List.take_append_of_le_length (by omega)
    have e2 : (l ++ [n]).getD i [] = l.getD i [] := by rw [List.getD_eq_getElem?_getD, List.getD_eq_getElem?_getD, List.getElem?_append_left e]
    rw [e1, e2]
    exact h i e
  · obtain rfl : i = l.length := by omega
    have e2 : (l ++ [n]).getD l.length [] = n := by rw [List.getD_eq_getElem?_getD, List.getElem?_append_right (Nat.le_refl _)]; simp
    rw [List.take_left' rfl, e2]
    exact ixn_none l n 0 hn
theorem ckWh_app {ps : List Sy.Pc} {z : Sy.Pc} (h : ckWh ps = none) (hn : z.name ∉ ps.map Sy.Pc.name) (hl : ps.length < 40) : ckWh (ps ++ [z]) = none := by
  unfold ckWh at h ⊢
  rw [if_pos (by omega)] at h
  rw [if_pos (by simp; omega)]
  split at h
  · rename_i hu
    split at h
    · rename_i hm
      rw [List.map_append, List.map_singleton, if_pos (ckUq_app hu hn)]
      have : ckMn (ps ++ [z]) = true := by
        unfold ckMn at hm ⊢
        simp only [Bool.and_eq_true, decide_eq_true_eq] at hm ⊢
        have hmem : [109, 97, 105, 110] ∈ ps.map Sy.Pc.name := ixn_mem (k := 0) (by omega)
        have hx : ixn (List.map Sy.Pc.name (ps ++ [z])) [109, 97, 105, 110] 0 = ixn (ps.map Sy.Pc.name) [109, 97, 105, 110] 0 := by
          rw [List.map_append]
          exact ixn_app _ _ _ _ hmem
        rw [hx]
        rcases ixn_is (ps.map Sy.Pc.name) [109, 97, 105, 110] 0 with e | ⟨j, e, hj⟩
        · omega
        · rw [e] at hm ⊢
          have hj2 : ((0 + j : Nat) : Int).toNat = j := by omega
          rw [hj2] at hm ⊢
          have hg : (ps ++ [z]).getD j pc0 = ps.getD j pc0 := by
            rw [List.getD_eq_getElem?_getD, List.getD_eq_getElem?_getD, List.getElem?_append_left (by simpa using hj)]
          rw [hg]
          exact hm
      rw [if_pos this]
    · cases h
  · cases h
/-- One procedure more: if anything is wrong, then it is that one. -/
theorem ckPg_more {ps : List Sy.Pc} {z : Sy.Pc} (h : (ckPg ps).1 = none) (hn : z.name ∉ ps.map Sy.Pc.name) (hl : ps.length < 40) : (ckPg (ps ++ [z])).2.1 = ps.length := by
  unfold ckPg at h ⊢
  match hw : ckWh ps with
  | some er => rw [hw] at h; cases h
  | none =>
    rw [hw] at h
    rw [ckWh_app hw hn hl]
    dsimp only at h ⊢
    match e : ckPgs ps ps 0 (0, 0) with
    | (some er, a, m) => rw [e] at h; cases h
    | (none, a, m) =>
      rw [ckPgs_app [z] ps 0 (0, 0) a m e, ckPgs]
      match ckPr (ps ++ [z]) z with
      | (some er, m2) => show (0 + ps.length) = _; omega
      | (none, m2) => show (0 + ps.length) = _; omega
end Go.Proofs.Ytfpabjdhibmefaa
