/- Layer 4: what Check tells as wrong is never OK. Plain. -/
import Derived.Test.YtfpabjdhibmefaaZCkZo
namespace Go.Proofs.Ytfpabjdhibmefaa
open Go.RowKit

theorem nz_un (n : List UInt8) (t e : Int) (h : ckUn n t = .error e) : e ≠ 0 := by
  unfold ckUn at h
  repeat' (split at h)
  all_goals (cases h <;> decide)
theorem nz_bi (n : List UInt8) (a b e : Int) (h : ckBi n a b = .error e) : e ≠ 0 := by
  unfold ckBi at h
  repeat' (split at h)
  all_goals (cases h <;> decide)
theorem nz_si (l : List CkVa) (n : List UInt8) (m e : Int) (h : ckSi l n m = .error e) : e ≠ 0 := by
  unfold ckSi at h
  repeat' (split at h)
  all_goals (cases h <;> decide)
theorem nz_ar (l : List CkVa) (n : List UInt8) (m e : Int) (h : ckAr l n m = some e) : e ≠ 0 := by
  unfold ckAr at h
  repeat' (split at h)
  all_goals (cases h <;> decide)
theorem nz_td (r : Except Int Int) (t e : Int) (hr : ∀ e, r = .error e → e ≠ 0) (h : ckTd r t = some e) : e ≠ 0 := by
  unfold ckTd at h
  split at h
  · cases h; exact hr _ rfl
  · split at h
    · cases h
    · cases h; decide
theorem nz_ty (l : List CkVa) (mk : Int) (x : Sx.Ex) : ∀ e, ckTy l mk x = .error e → e ≠ 0 := by
  induction x using Fo.ind with
  | h k n m ll ih =>
    intro e h
    match ll, ih with
    | [], _ =>
      rw [ckTy] at h
      repeat' (split at h)
      all_goals first | (cases h; done) | (cases h; decide) | exact nz_si _ _ _ _ h
    | [a], ih =>
      have ha := ih a (by simp)
      rw [ckTy] at h
      split at h
      · cases h; decide
      · split at h
        · split at h
          · rename_i q; cases h; exact nz_ar _ _ _ _ q
          · split at h
            · rename_i q; cases h; exact nz_td _ _ _ ha q
            · cases h
        · split at h
          · rename_i q; cases h; exact ha _ q
          · exact nz_un _ _ _ h
    | [a, b], ih =>
      have ha := ih a (by simp)
      have hb := ih b (by simp)
      rw [ckTy] at h
      split at h
      · cases h; decide
      · split at h
        · rename_i q; cases h; exact ha _ q
        · split at h
          · rename_i q; cases h; exact hb _ q
          · exact nz_bi _ _ _ _ h
    | a :: b :: c :: r, _ =>
      rw [ckTy] at h
      · cases h; decide
      all_goals simp
theorem nz_tk (vs : List CkVa) (mk : Int) (n : List UInt8) (t e : Int) (h : ckTake vs mk n t = some e) : e ≠ 0 := by
  unfold ckTake at h
  split at h
  · rename_i q; cases h; exact nz_si _ _ _ _ q
  · split at h
    · cases h
    · cases h; decide
theorem nz_args (vs : List CkVa) (mk : Int) : ∀ (x : List Sx.Ex) (a : List Sy.Pa) (e : Int), ckArgs vs mk x a = some e → e ≠ 0
  | [], a, e, h => by cases a <;> cases h
  | x :: r, [], e, h => by cases h
  | x :: r, a :: t, e, h => by
    rw [ckArgs] at h
    split at h
    · rename_i q; cases h; exact nz_td _ _ _ (nz_ty vs mk x) q
    · exact nz_args vs mk r t e h
theorem nz_cal (vs : List CkVa) (mk : Int) (ps : List Sy.Pc) (n q : List UInt8) (x : List Sx.Ex) (e : Int) (h : ckCal vs mk ps n q x = some e) : e ≠ 0 := by
  unfold ckCal at h
  split at h
  · cases h; decide
  · split at h
    · split at h
      · rename_i q; cases h; exact nz_args _ _ _ _ _ q
      · split at h
        · cases h
        · exact nz_tk _ _ _ _ _ h
    · cases h; decide
theorem nz_ans (vs : List CkVa) (mk ty : Int) (x : List Sx.Ex) (e : Int) (h : ckAns vs mk ty x = some e) : e ≠ 0 := by
  match x with
  | [] => rw [ckAns] at h; split at h <;> cases h; decide
  | [a] =>
    rw [ckAns] at h
    split at h
    · cases h; decide
    · exact nz_td _ _ _ (nz_ty vs mk a) h
  | a :: b :: r => cases h; decide
theorem nz_stm (vs : List CkVa) (mk : Int) (ps : List Sy.Pc) (ty : Int) (s : Sy.St) (e : Int) (h : ckStm vs mk ps ty s = some e) : e ≠ 0 := by
  match s with
  | .mk k n q num x b l =>
    rw [ckStm] at h
    split at h
    · cases h; decide
    split at h
    · split at h <;> cases h; decide
    split at h
    · split at h
      · rename_i q; cases h; exact nz_si _ _ _ _ q
      · exact nz_td _ _ _ (nz_ty vs mk _) h
    split at h
    · split at h
      · rename_i q; cases h; exact nz_ar _ _ _ _ q
      · split at h
        · rename_i q; cases h; exact nz_td _ _ _ (nz_ty vs mk _) q
        · exact nz_td _ _ _ (nz_ty vs mk _) h
    split at h
    · exact nz_td _ _ _ (nz_ty vs mk _) h
    split at h
    · split at h
      · rename_i q; cases h; exact nz_ty vs mk _ _ q
      · cases h
    split at h
    · exact nz_tk _ _ _ _ _ h
    split at h
    · exact nz_cal _ _ _ _ _ _ _ h
    exact nz_ans _ _ _ _ _ h
theorem nz_bs_aux (vs : List CkVa) (ps : List Sy.Pc) (ty : Int) : ∀ (l : List Sy.St), (∀ x, x ∈ l → ∀ m e m', ckB1 vs ps ty x m = (some e, m') → e ≠ 0) → ∀ m e m', ckBs vs ps ty l m = (some e, m') → e ≠ 0
  | [], _, m, e, m', h => by rw [ckBs] at h; cases h
  | s :: r, hP, m, e, m', h => by
    rw [ckBs] at h
    match q : ckB1 vs ps ty s m with
    | (some er, m2) => rw [q] at h; cases h; exact hP s List.mem_cons_self m _ _ q
    | (none, m2) => rw [q] at h; exact nz_bs_aux vs ps ty r (fun x hx => hP x (List.mem_cons_of_mem _ hx)) m2 e m' h
theorem nz_b1 (vs : List CkVa) (ps : List Sy.Pc) (ty : Int) (x : Sy.St) : ∀ m e m', ckB1 vs ps ty x m = (some e, m') → e ≠ 0 := by
  induction x using Sy.ind with
  | h k n q num x b l hb hl =>
    intro m e m' h
    rw [ckB1] at h
    match e1 : ckStm vs (m + 1) ps ty (.mk k n q num x b l) with
    | some er => rw [e1] at h; cases h; exact nz_stm _ _ _ _ _ _ e1
    | none =>
      rw [e1] at h
      dsimp only at h
      match e2 : ckBs vs ps ty b (m + 1) with
      | (some er, m2) => rw [e2] at h; cases h; exact nz_bs_aux vs ps ty b hb _ _ _ e2
      | (none, m2) => rw [e2] at h; exact nz_bs_aux vs ps ty l hl _ _ _ h
theorem nz_pr (ps : List Sy.Pc) (x : Sy.Pc) (e m : Int) (h : ckPr ps x = (some e, m)) : e ≠ 0 := by
  unfold ckPr at h
  match e1 : ckDcl x.params.length (ckVs x) with
  | some er =>
    rw [e1] at h
    cases h
    unfold ckDcl at e1
    repeat' (split at e1)
    all_goals (cases e1 <;> decide)
  | none =>
    rw [e1] at h
    dsimp only at h
    match e2 : ckBs (ckVs x) ps x.type x.body 0 with
    | (some er, m2) => rw [e2] at h; cases h; exact nz_bs_aux _ _ _ _ (fun x _ => nz_b1 _ _ _ x) _ _ _ e2
    | (none, m2) =>
      rw [e2] at h
      dsimp only at h
      split at h
      · cases h
      · cases h; decide
theorem nz_pgs (ps : List Sy.Pc) : ∀ (l : List Sy.Pc) (j : Nat) (s : Nat × Int) (e : Int) (a : Nat) (m : Int), ckPgs ps l j s = (some e, a, m) → e ≠ 0
  | [], j, s, e, a, m, h => by rw [ckPgs] at h; cases h
  | x :: r, j, s, e, a, m, h => by
    rw [ckPgs] at h
    match q : ckPr ps x with
    | (some er, m2) => rw [q] at h; cases h; exact nz_pr _ _ _ _ q
    | (none, m2) => rw [q] at h; exact nz_pgs ps r (j + 1) _ _ _ _ h
/-- What is wrong is no OK. -/
theorem nz_pg (ps : List Sy.Pc) : ¬ (ckPg ps).1 = some 0 := by
  intro h
  match q : ckPg ps with
  | (none, a, m) => rw [q] at h; cases h
  | (some e, a, m) =>
    rw [q] at h
    cases h
    unfold ckPg at q
    match e1 : ckWh ps with
    | some er =>
      rw [e1] at q
      cases q
      unfold ckWh at e1
      repeat' (split at e1)
      all_goals (cases e1)
    | none => rw [e1] at q; exact nz_pgs _ _ _ _ _ _ _ q rfl
end Go.Proofs.Ytfpabjdhibmefaa
