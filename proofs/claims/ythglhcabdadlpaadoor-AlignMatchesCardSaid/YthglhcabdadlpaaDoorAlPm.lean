/- Layer 15, plain: which pairs are a matching; the least one is one, and no other has more pairs; regions. -/
import Derived.Test.YthglhcabdadlpaaDoorAlPl
namespace Go.Proofs.YthglhcabdadlpaaDoor.Al
set_option linter.unusedVariables false
set_option linter.unusedSimpArgs false
/-- Pairs as numbers. -/
def prs (l : List (Nat × Nat)) : List Ev := l.map fun p => ((p.1 : Int), (p.2 : Int))
theorem prs_len (l : List (Nat × Nat)) : (prs l).length = l.length := by simp [prs]
theorem prs_app (l k : List (Nat × Nat)) : prs (l ++ k) = prs l ++ prs k := by simp [prs]
theorem prs_cons (p : Nat × Nat) (l : List (Nat × Nat)) : prs (p :: l) = ((p.1 : Int), (p.2 : Int)) :: prs l := rfl
/-- Whether pairs rise behind the last one, below n and m. -/
def rise (n m : Int) : Ev → List Ev → Bool
  | _, [] => true
  | q, p :: l => if p.1 ≤ q.1 ∨ n ≤ p.1 ∨ p.2 ≤ q.2 ∨ m ≤ p.2 then false else rise n m p l
theorem rise_cons {n m : Int} {q p : Ev} {l : List Ev} (h : rise n m q (p :: l) = true) : q.1 < p.1 ∧ p.1 < n ∧ q.2 < p.2 ∧ p.2 < m ∧ rise n m p l = true := by
  simp only [rise] at h
  split at h
  · cases h
  · rename_i c
    exact ⟨by omega, by omega, by omega, by omega, h⟩
theorem rise_mk {n m : Int} {q p : Ev} {l : List Ev} (h1 : q.1 < p.1) (h2 : p.1 < n) (h3 : q.2 < p.2) (h4 : p.2 < m) (h : rise n m p l = true) : rise n m q (p :: l) = true := by
  simp only [rise]
  rw [if_neg (by omega)]
  exact h
theorem rise_low {n m : Int} : ∀ {q q' : Ev} {l : List Ev}, rise n m q l = true → q'.1 ≤ q.1 → q'.2 ≤ q.2 → rise n m q' l = true
  | _, _, [], _, _, _ => rfl
  | q, q', p :: l, h, h1, h2 => by
    obtain ⟨a, b, c, d, e⟩ := rise_cons h
    exact rise_mk (by omega) b (by omega) d e
theorem rise_app {n m : Int} : ∀ {q : Ev} {l k : List Ev} {e : Ev}, rise n m q (l ++ [e]) = true → rise n m e k = true → rise n m q (l ++ [e] ++ k) = true
  | q, [], k, e, h, h2 => by
    obtain ⟨a, b, c, d, _⟩ := rise_cons h
    exact rise_mk a b c d h2
  | q, p :: l, k, e, h, h2 => by
    obtain ⟨a, b, c, d, e'⟩ := rise_cons (l := l ++ [e]) h
    exact rise_mk (l := l ++ [e] ++ k) a b c d (rise_app e' h2)
/-- What rises lies within. -/
theorem rise_mem {n m : Int} : ∀ {q : Ev} {l : List Ev}, rise n m q l = true → ∀ p ∈ l, q.1 < p.1 ∧ p.1 < n ∧ q.2 < p.2 ∧ p.2 < m
  | _, [], _, p, hp => by cases hp
  | q, x :: l, h, p, hp => by
    obtain ⟨a, b, c, d, e⟩ := rise_cons h
    cases hp with
    | head => exact ⟨a, b, c, d⟩
    | tail _ hp =>
      obtain ⟨h1, h2, h3, h4⟩ := rise_mem e p hp
      exact ⟨by omega, h2, by omega, h4⟩
/-- Whether the events of pairs are the same. -/
def alike (a b : List Ev) (l : List Ev) : Bool := l.all fun p => a[p.1.toNat]? == b[p.2.toNat]?
def fits (a b : List Ev) (l : List Ev) : Bool := rise a.length b.length (-1, -1) l && alike a b l
theorem alike_app (a b l k : List Ev) : alike a b (l ++ k) = (alike a b l && alike a b k) := by simp [alike]
/-- No matching has more pairs than the greatest. -/
theorem fit_bd (a b : List Ev) : ∀ (l : List Ev) (q : Ev), -1 ≤ q.1 → -1 ≤ q.2 → rise a.length b.length q l = true → alike a b l = true → l.length ≤ lcs (a.drop (q.1 + 1).toNat) (b.drop (q.2 + 1).toNat)
  | [], q, _, _, _, _ => Nat.zero_le _
  | p :: l, q, h1, h2, h, k => by
    obtain ⟨e1, e2, e3, e4, e5⟩ := rise_cons h
    have k1 : a[p.1.toNat]? = b[p.2.toNat]? := by
      have := (List.all_eq_true.1 k) p (List.mem_cons_self ..)
      simpa using this
    have k2 : alike a b l = true := List.all_eq_true.2 fun x hx => (List.all_eq_true.1 k) x (List.mem_cons_of_mem _ hx)
    have ih := fit_bd a b l p (by omega) (by omega) e5 k2
    have ha : p.1.toNat < a.length := by omega
    have hb : p.2.toNat < b.length := by omega
    have hx : a[p.1.toNat] = b[p.2.toNat] := by
      rw [List.getElem?_eq_getElem ha, List.getElem?_eq_getElem hb] at k1
      exact Option.some.inj k1
    have s : lcs (a.drop p.1.toNat) (b.drop p.2.toNat) = lcs (a.drop (p.1.toNat + 1)) (b.drop (p.2.toNat + 1)) + 1 := by
      rw [List.drop_eq_getElem_cons ha, List.drop_eq_getElem_cons hb, lcs_cons, if_pos hx]
    have d1 : lcs (a.drop p.1.toNat) (b.drop p.2.toNat) ≤ lcs (a.drop (q.1 + 1).toNat) (b.drop (q.2 + 1).toNat) := by
      have z1 : a.drop p.1.toNat = (a.drop (q.1 + 1).toNat).drop (p.1.toNat - (q.1 + 1).toNat) := by rw [List.drop_drop]; congr 1; omega
      have z2 : b.drop p.2.toNat = (b.drop (q.2 + 1).toNat).drop (p.2.toNat - (q.2 + 1).toNat) := by rw [List.drop_drop]; congr 1; omega
      rw [z1, z2]
      refine Nat.le_trans (lcs_drop _ _ _) ?_
      rw [lcs_comm, lcs_comm _ (b.drop (q.2 + 1).toNat)]
      exact lcs_drop _ _ _
    have t1 : (p.1 + 1).toNat = p.1.toNat + 1 := by omega
    have t2 : (p.2 + 1).toNat = p.2.toNat + 1 := by omega
    rw [t1, t2] at ih
    rw [List.length_cons]
    omega
theorem fits_bd {a b l : List Ev} (h : fits a b l = true) : l.length ≤ lcs a b := by
  unfold fits at h
  rw [Bool.and_eq_true] at h
  simpa using fit_bd a b l (-1, -1) (by simp) (by simp) h.1 h.2
/-- The least one rises. -/
theorem mt_rise {n m : Int} : ∀ (i j : Nat) (a b : List Ev), (i + a.length : Int) ≤ n → (j + b.length : Int) ≤ m → rise n m ((i : Int) - 1, (j : Int) - 1) (prs (mt i j a b)) = true
  | _, _, [], b, _, _ => rfl
  | i, j, e :: a, b, h1, h2 => by
    simp only [mt]
    split
    · rfl
    · rename_i h0
      simp only [List.length_cons] at h1
      split
      · rename_i k hk
        have hl := (idx_lt hk).1
        split
        · rename_i hh
          rw [prs_cons]
          have ih := mt_rise (n := n) (m := m) (i + 1) (j + k + 1) a (b.drop (k + 1)) (by omega) (by simp; omega)
          refine rise_mk (by show (i : Int) - 1 < (i : Int); omega) (by show (i : Int) < n; omega) (by show (j : Int) - 1 < ((j + k : Nat) : Int); omega) (by show ((j + k : Nat) : Int) < m; omega) ?_
          refine rise_low ih (by simp) (by simp)
        · exact rise_low (mt_rise (i + 1) j a b (by omega) h2) (by simp; omega) (by simp)
      · exact rise_low (mt_rise (i + 1) j a b (by omega) h2) (by simp; omega) (by simp)
theorem mt_alike (A B : List Ev) : ∀ (i j : Nat) (a b : List Ev), a = A.drop i → b = B.drop j → alike A B (prs (mt i j a b)) = true
  | _, _, [], b, _, _ => rfl
  | i, j, e :: a, b, h1, h2 => by
    have ha : A[i]? = some e := by
      have : (A.drop i)[0]? = some e := by rw [← h1]; rfl
      simpa using this
    have hd : a = A.drop (i + 1) := by
      have := congrArg (List.drop 1) h1
      rw [List.drop_drop] at this
      simpa using this
    simp only [mt]
    split
    · rfl
    · split
      · rename_i k hk
        split
        · rw [prs_cons]
          have hb : B[j + k]? = some e := by
            have := (idx_lt hk).2
            rw [h2, List.getElem?_drop] at this
            exact this
          have ih := mt_alike A B (i + 1) (j + k + 1) a (b.drop (k + 1)) hd (by rw [h2, List.drop_drop]; rfl)
          unfold alike at ih ⊢
          rw [List.all_cons, ih]
          rw [Bool.and_true, beq_iff_eq]
          show A[((i : Nat) : Int).toNat]? = B[((j + k : Nat) : Int).toNat]?
          rw [Int.toNat_natCast, Int.toNat_natCast, ha, hb]
        · exact mt_alike A B (i + 1) j a b hd h2
      · exact mt_alike A B (i + 1) j a b hd h2
theorem same_get (k i : Nat) : (same k)[i]? = if i < k then some (i, i) else none := by
  unfold same
  rw [List.getElem?_map]
  by_cases h : i < k
  · simp [h]
  · simp [h]
theorem same_succ (k : Nat) : same (k + 1) = same k ++ [(k, k)] := by simp [same, List.range_succ]
theorem same_rise {n m : Int} : ∀ (k : Nat) (K : List Ev), (k : Int) ≤ n → (k : Int) ≤ m → rise n m ((k : Int) - 1, (k : Int) - 1) K = true → rise n m (-1, -1) (prs (same k) ++ K) = true
  | 0, K, _, _, h => by simpa [same, prs] using h
  | k + 1, K, h1, h2, h => by
    rw [same_succ, prs_app, List.append_assoc]
    refine same_rise k _ (by omega) (by omega) ?_
    show rise n m _ (((k : Int), (k : Int)) :: K) = true
    refine rise_mk (by show (k : Int) - 1 < (k : Int); omega) (by show (k : Int) < n; omega) (by show (k : Int) - 1 < (k : Int); omega) (by show (k : Int) < m; omega) ?_
    refine rise_low h (by show (k : Int) ≤ ((k + 1 : Nat) : Int) - 1; omega) (by show (k : Int) ≤ ((k + 1 : Nat) : Int) - 1; omega)
theorem same_alike (a b : List Ev) : ∀ k : Nat, k ≤ tog a b → alike a b (prs (same k)) = true
  | 0, _ => rfl
  | k + 1, h => by
    rw [same_succ, prs_app, alike_app, same_alike a b k (by omega)]
    simp [alike, prs, tog_get a b k (by omega)]
theorem mat_rise (a b : List Ev) (limit : Int) : rise a.length b.length (-1, -1) (prs (mat a b limit)) = true := by
  have h := tog_le a b
  unfold mat
  rw [prs_app]
  refine same_rise _ _ (by omega) (by omega) ?_
  split
  · rfl
  · exact mt_rise _ _ _ _ (by simp; omega) (by simp; omega)
theorem mat_fits (a b : List Ev) (limit : Int) : fits a b (prs (mat a b limit)) = true := by
  unfold fits
  rw [mat_rise, Bool.true_and]
  unfold mat
  rw [prs_app, alike_app, same_alike a b _ (Nat.le_refl _), Bool.true_and]
  split
  · rfl
  · exact mt_alike a b _ _ _ _ rfl rfl
theorem mat_get (a b : List Ev) (limit : Int) (i : Nat) (h : i < tog a b) : (mat a b limit)[i]? = some (i, i) := by
  unfold mat
  rw [List.getElem?_append_left (by rw [same_len]; exact h), same_get, if_pos h]
/-- The least one, said from other indices on. -/
theorem mt_shift (c d : Nat) : ∀ (i j : Nat) (a b : List Ev), mt (c + i) (d + j) a b = (mt i j a b).map fun p => (c + p.1, d + p.2)
  | _, _, [], b => rfl
  | i, j, e :: a, b => by
    simp only [mt]
    split
    · rfl
    · split
      · rename_i k hk
        split
        · rw [List.map_cons, ← mt_shift c d (i + 1) (j + k + 1) a (b.drop (k + 1)), show d + j + k = d + (j + k) from Nat.add_assoc _ _ _]
          rfl
        · exact mt_shift c d (i + 1) j a b
      · exact mt_shift c d (i + 1) j a b
/-- Regions. -/
structure Rg where
  fa : Int
  ta : Int
  fb : Int
  tb : Int
deriving DecidableEq
def one (fa ta fb tb : Int) : List Rg := if fa < ta ∨ fb < tb then [⟨fa, ta, fb, tb⟩] else []
def gaps (n m : Int) : Int → Int → List Ev → List Rg
  | fa, fb, [] => one fa n fb m
  | fa, fb, p :: l => one fa p.1 fb p.2 ++ gaps n m (p.1 + 1) (p.2 + 1) l
/-- How often an index is met. -/
def cntP (l : List Ev) (k : Int) : Nat := l.countP fun p => decide (p.1 = k)
def cntQ (l : List Ev) (k : Int) : Nat := l.countP fun p => decide (p.2 = k)
def cntA (l : List Rg) (k : Int) : Nat := l.countP fun r => decide (r.fa ≤ k ∧ k < r.ta)
def cntB (l : List Rg) (k : Int) : Nat := l.countP fun r => decide (r.fb ≤ k ∧ k < r.tb)
theorem cntA_one (fa ta fb tb k : Int) : cntA (one fa ta fb tb) k = if fa ≤ k ∧ k < ta then 1 else 0 := by
  unfold one cntA
  by_cases c : fa ≤ k ∧ k < ta
  · rw [if_pos (by omega), if_pos c]; simp [c]
  · rw [if_neg c]
    split
    · simp; omega
    · simp
theorem cntB_one (fa ta fb tb k : Int) : cntB (one fa ta fb tb) k = if fb ≤ k ∧ k < tb then 1 else 0 := by
  unfold one cntB
  by_cases c : fb ≤ k ∧ k < tb
  · rw [if_pos (by omega), if_pos c]; simp [c]
  · rw [if_neg c]
    split
    · simp; omega
    · simp
theorem cnt_A {n m : Int} : ∀ (q : Ev) (l : List Ev) (k : Int), rise n m q l = true → k < n → cntP l k + cntA (gaps n m (q.1 + 1) (q.2 + 1) l) k = if q.1 < k then 1 else 0
  | q, [], k, _, hk => by
    simp only [gaps, cntA_one, cntP, List.countP_nil]
    by_cases c : q.1 < k
    · rw [if_pos c, if_pos (by omega)]
    · rw [if_neg c, if_neg (by omega)]
  | q, p :: l, k, h, hk => by
    obtain ⟨h1, h2, h3, h4, h5⟩ := rise_cons h
    have ih := cnt_A p l k h5 hk
    simp only [gaps, cntP, List.countP_cons] at ih ⊢
    rw [show cntA (one (q.1 + 1) p.1 (q.2 + 1) p.2 ++ gaps n m (p.1 + 1) (p.2 + 1) l) k = cntA (one (q.1 + 1) p.1 (q.2 + 1) p.2) k + cntA (gaps n m (p.1 + 1) (p.2 + 1) l) k from List.countP_append, cntA_one]
    simp only [decide_eq_true_eq]
    generalize List.countP (fun p => decide (p.1 = k)) l = X at ih ⊢
    generalize cntA (gaps n m (p.1 + 1) (p.2 + 1) l) k = Y at ih ⊢
    split at ih <;> (repeat' split) <;> omega
theorem cnt_B {n m : Int} : ∀ (q : Ev) (l : List Ev) (k : Int), rise n m q l = true → k < m → cntQ l k + cntB (gaps n m (q.1 + 1) (q.2 + 1) l) k = if q.2 < k then 1 else 0
  | q, [], k, _, hk => by
    simp only [gaps, cntB_one, cntQ, List.countP_nil]
    by_cases c : q.2 < k
    · rw [if_pos c, if_pos (by omega)]
    · rw [if_neg c, if_neg (by omega)]
  | q, p :: l, k, h, hk => by
    obtain ⟨h1, h2, h3, h4, h5⟩ := rise_cons h
    have ih := cnt_B p l k h5 hk
    simp only [gaps, cntQ, List.countP_cons] at ih ⊢
    rw [show cntB (one (q.1 + 1) p.1 (q.2 + 1) p.2 ++ gaps n m (p.1 + 1) (p.2 + 1) l) k = cntB (one (q.1 + 1) p.1 (q.2 + 1) p.2) k + cntB (gaps n m (p.1 + 1) (p.2 + 1) l) k from List.countP_append, cntB_one]
    simp only [decide_eq_true_eq]
    generalize List.countP (fun p => decide (p.2 = k)) l = X at ih ⊢
    generalize cntB (gaps n m (p.1 + 1) (p.2 + 1) l) k = Y at ih ⊢
    split at ih <;> (repeat' split) <;> omega
/-- Where regions lie. -/
theorem gaps_in {n m : Int} : ∀ (q : Ev) (l : List Ev), rise n m q l = true → -1 ≤ q.1 → -1 ≤ q.2 → q.1 < n ∨ q.1 = -1 ∧ 0 ≤ n → q.2 < m ∨ q.2 = -1 ∧ 0 ≤ m → ∀ r ∈ gaps n m (q.1 + 1) (q.2 + 1) l, 0 ≤ r.fa ∧ r.fa ≤ r.ta ∧ r.ta ≤ n ∧ 0 ≤ r.fb ∧ r.fb ≤ r.tb ∧ r.tb ≤ m
  | q, [], _, h1, h2, h3, h4, r, hr => by
    simp only [gaps, one] at hr
    split at hr
    · simp at hr; subst hr; simp only; omega
    · cases hr
  | q, p :: l, h, h1, h2, h3, h4, r, hr => by
    obtain ⟨e1, e2, e3, e4, e5⟩ := rise_cons h
    simp only [gaps, List.mem_append] at hr
    rcases hr with hr | hr
    · simp only [one] at hr
      split at hr
      · simp at hr; subst hr; simp only; omega
      · cases hr
    · exact gaps_in p l e5 (by omega) (by omega) (.inl e2) (.inl e4) r hr
end Go.Proofs.YthglhcabdadlpaaDoor.Al
