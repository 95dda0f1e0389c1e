/- Layer 3: the tokens of a text with brackets around it. Plain. -/
import Derived.Test.YtlhklpnkelcnbaaGreatDoorScanT
namespace Go.Proofs.YtlhklpnkelcnbaaGreatDoor.Lx
open Go.RowKit

def opnL : Nat → List UInt8
  | 0 => []
  | n + 1 => 40 :: 32 :: opnL n
def shuL : Nat → List UInt8
  | 0 => []
  | n + 1 => 10 :: 41 :: shuL n
theorem opnL_snoc : ∀ n, opnL n ++ [40, 32] = opnL (n + 1)
  | 0 => rfl
  | n + 1 => by
    show 40 :: 32 :: (opnL n ++ [40, 32]) = 40 :: 32 :: opnL (n + 1)
    rw [opnL_snoc n]
theorem shuL_snoc : ∀ n, shuL n ++ [10, 41] = shuL (n + 1)
  | 0 => rfl
  | n + 1 => by
    show 10 :: 41 :: (shuL n ++ [10, 41]) = 10 :: 41 :: shuL (n + 1)
    rw [shuL_snoc n]
theorem opnL_len : ∀ n, (opnL n).length = 2 * n
  | 0 => rfl
  | n + 1 => by show (opnL n).length + 1 + 1 = _; rw [opnL_len n]; omega
theorem shuL_len : ∀ n, (shuL n).length = 2 * n
  | 0 => rfl
  | n + 1 => by show (shuL n).length + 1 + 1 = _; rw [shuL_len n]; omega
def tEnd : Tk := ⟨0, [], 0⟩
def tOpn : Tk := ⟨4, [40], 0⟩
def tShu : Tk := ⟨4, [41], 0⟩
theorem first_shu {x : List UInt8} {t : Tk} {k : Nat} (hx : x ≠ []) (h : first x = some (t, k)) : ∀ n, first (x ++ shuL n) = some (t, k)
  | 0 => by show first (x ++ []) = _; rw [List.append_nil]; exact h
  | n + 1 => first_app (.inr (.inl rfl)) hx h
theorem letAt_app_true {c : UInt8} {y : List UInt8} {x : List UInt8} {k : Nat} (hk : k ≤ x.length) (h : letAt x k = true) : letAt (x ++ c :: y) k = true := by
  by_cases e : k < x.length
  · unfold letAt at h ⊢
    rw [List.getElem?_append_left e]
    exact h
  · unfold letAt at h
    rw [List.getElem?_eq_none (by omega)] at h
    cases h
theorem first_app_none {x y : List UInt8} {c : UInt8} (hc : cutB c) (hx : x ≠ []) (h : first x = none) : first (x ++ c :: y) = none := by
  cases x with
  | nil => exact absurd rfl hx
  | cons d r =>
    have h' : (if let1 d.toNat then fword (d :: r) else if dig1 d.toNat then fint (d :: r) else fsign (d :: r)) = none := h
    rw [List.cons_append]
    show (if let1 d.toNat then fword (d :: (r ++ c :: y)) else if dig1 d.toNat then fint (d :: (r ++ c :: y)) else fsign (d :: (r ++ c :: y))) = none
    rw [← List.cons_append]
    by_cases c1 : let1 d.toNat
    · rw [if_pos c1] at h' ⊢
      unfold fword at h' ⊢
      rw [run_app hc.inn, take_app (run_le _ _)]
      exact h'
    · rw [if_neg c1] at h' ⊢
      by_cases c2 : dig1 d.toNat
      · rw [if_pos c2] at h' ⊢
        unfold fint at h' ⊢
        rw [run_app hc.dig, take_app (run_le _ _)]
        cases hp : Pl.parse ((d :: r).take (run dig1 (d :: r))) with
        | none => rfl
        | some v =>
          rw [hp] at h'
          simp only at h' ⊢
          cases hl : letAt (d :: r) (run dig1 (d :: r)) with
          | true => rw [letAt_app_true (run_le _ _) hl]; rfl
          | false => rw [hl] at h'; simp at h'
      · rw [if_neg c2] at h' ⊢
        unfold fsign at h' ⊢
        rw [signBy_app hc, signBy_app hc]
        exact h'
theorem first_shu_none {x : List UInt8} (hx : x ≠ []) (h : first x = none) : ∀ n, first (x ++ shuL n) = none
  | 0 => by show first (x ++ []) = _; rw [List.append_nil]; exact h
  | n + 1 => first_app_none (.inr (.inl rfl)) hx h
theorem toks_shu : ∀ (n : Nat) (r l : List UInt8) (y : Nat), l.drop y = r ++ shuL n → blank false r = r.length → ∃ S, Toks l y S ∧ S.map (·.1) = List.replicate n tShu ++ [tEnd]
  | 0, r, l, y, h, hb => by
    have e1 : skip l y = y + r.length := by unfold skip; rw [h]; show y + blank false (r ++ []) = _; rw [List.append_nil, hb]
    have e2 : l.drop (skip l y) = [] := by
      rw [e1, ← List.drop_drop, h]
      show (r ++ []).drop r.length = []
      simp
    exact ⟨_, Toks.done y tEnd 0 (by rw [e2]; rfl) rfl, rfl⟩
  | n + 1, r, l, y, h, hb => by
    obtain ⟨rm, hrm⟩ := blank_all r false hb
    have e0 : blank rm (shuL (n + 1)) = 1 := by show blank rm (10 :: 41 :: shuL n) = 1; cases rm <;> simp [blank]
    have e1 : skip l y = y + (r.length + 1) := by unfold skip; rw [h, hrm, e0]
    have e2 : l.drop (skip l y) = [41] ++ shuL n := by
      rw [e1, ← List.drop_drop, h, List.drop_append, List.drop_eq_nil_of_le (by omega), show r.length + 1 - r.length = 1 by omega]
      rfl
    have hf : first (l.drop (skip l y)) = some (tShu, 1) := by rw [e2]; exact first_shu (by simp) (by rfl) n
    obtain ⟨S, hS, hm⟩ := toks_shu n [] l (skip l y + 1) (by rw [← List.drop_drop, e2]; rfl) rfl
    exact ⟨_, Toks.more y tShu 1 S hf (by decide) hS, by rw [List.map_cons, hm]; rfl⟩
theorem Toks.last {l : List UInt8} {x : Nat} {S : List (Tk × Nat)} (h : Toks l x S) : x ≤ l.length → ∃ S0, S.map (·.1) = S0 ++ [tEnd] ∧ ∀ t ∈ S0, ¬ t.kind = 0 := by
  induction h with
  | done x t n hf hk =>
    intro hx
    exact ⟨[], by simp [(first_end hx hf hk).2, tEnd], by simp⟩
  | more x t n S hf hk hS ih =>
    intro hx
    obtain ⟨S0, e, hall⟩ := ih (first_in hx hf hk).2.2
    refine ⟨t :: S0, by rw [List.map_cons, e]; rfl, fun u hu => ?_⟩
    rcases List.mem_cons.1 hu with rfl | hu
    · exact hk
    · exact hall u hu
theorem toks_in {l : List UInt8} {x : Nat} {S : List (Tk × Nat)} (h : Toks l x S) : x ≤ l.length → ∀ (l2 : List UInt8) (P n : Nat), (∀ j, j ≤ l.length → l2.drop (P + j) = l.drop j ++ shuL n) → ∃ S', Toks l2 (P + x) S' ∧ S'.map (·.1) = (S.map (·.1)).dropLast ++ (List.replicate n tShu ++ [tEnd]) := by
  induction h with
  | done x t k hf hk =>
    intro hx l2 P n h2
    have e := (first_end hx hf hk).1
    have hb : blank false (l.drop x) = (l.drop x).length := by unfold skip at e; rw [List.length_drop]; omega
    obtain ⟨S', h', hm⟩ := toks_shu n (l.drop x) l2 (P + x) (h2 x hx) hb
    exact ⟨S', h', by rw [hm]; rfl⟩
  | more x t k S hf hk hS ih =>
    intro hx l2 P n h2
    have hin := first_in hx hf hk
    have hb : blank false (l.drop x) < (l.drop x).length := by have := hin.2; rw [List.length_drop]; unfold skip at this; omega
    have e1 : skip l2 (P + x) = P + skip l x := by unfold skip; rw [h2 x hx, blank_part _ _ hb]; omega
    have e2 : l2.drop (skip l2 (P + x)) = l.drop (skip l x) ++ shuL n := by rw [e1]; exact h2 _ (by omega)
    have hne : l.drop (skip l x) ≠ [] := fun e => by have := congrArg List.length e; rw [List.length_drop] at this; simp at this; omega
    obtain ⟨S', h', hm⟩ := ih hin.2.2 l2 P n h2
    refine ⟨_, Toks.more (P + x) t k S' (by rw [e2]; exact first_shu hne hf n) hk (by rw [e1, Nat.add_assoc]; exact h'), ?_⟩
    rw [List.map_cons, hm, List.map_cons, List.dropLast_cons_of_ne_nil (fun e => hS.ne (List.map_eq_nil_iff.1 e))]
    rfl
theorem skip_sp {l r : List UInt8} {x : Nat} (h : l.drop x = 32 :: r) : skip l x = skip l (x + 1) := by
  have e : l.drop (x + 1) = r := by rw [← List.drop_drop, h]; rfl
  unfold skip
  rw [h, e]
  simp [blank]
  omega
theorem toks_sp {l r : List UInt8} {x : Nat} {S : List (Tk × Nat)} (h : l.drop x = 32 :: r) (hS : Toks l (x + 1) S) : Toks l x S := by
  have e := skip_sp h
  cases hS with
  | done _ t n hf hk =>
    have := Toks.done (l := l) x t n (by rw [e]; exact hf) hk
    rw [e] at this; exact this
  | more _ t n S hf hk hS =>
    have := Toks.more (l := l) x t n S (by rw [e]; exact hf) hk (by rw [e]; exact hS)
    rw [e] at this; exact this
theorem skip_opn {l z : List UInt8} {y : Nat} (h : l.drop y = 40 :: z) : skip l y = y := by
  unfold skip; rw [h]; simp [blank]
theorem first_opn (z : List UInt8) : first (40 :: 32 :: z) = some (tOpn, 1) := first_app (x := [40]) (.inl rfl) (by simp) (by rfl)
theorem toks_opn : ∀ (n : Nat) (l z : List UInt8) (y : Nat) (S : List (Tk × Nat)), l.drop y = opnL n ++ z → Toks l (y + 2 * n) S → ∃ S', Toks l y S' ∧ S'.map (·.1) = List.replicate n tOpn ++ S.map (·.1)
  | 0, l, z, y, S, _, hS => ⟨S, hS, rfl⟩
  | n + 1, l, z, y, S, h, hS => by
    have h : l.drop y = 40 :: 32 :: (opnL n ++ z) := h
    have e1 : l.drop (y + 1) = 32 :: (opnL n ++ z) := by rw [← List.drop_drop, h]; rfl
    have e2 : l.drop (y + 1 + 1) = opnL n ++ z := by rw [← List.drop_drop, e1]; rfl
    obtain ⟨S', h', hm⟩ := toks_opn n l z (y + 1 + 1) S e2 (by rw [show y + 1 + 1 + 2 * n = y + 2 * (n + 1) by omega]; exact hS)
    have hs := skip_opn h
    refine ⟨_, Toks.more y tOpn 1 S' (by rw [hs, h]; exact first_opn _) (by decide) (by rw [hs]; exact toks_sp e1 h'), ?_⟩
    rw [List.map_cons, hm]
    rfl
theorem err_in {l : List UInt8} (l2 : List UInt8) (P n : Nat) (h2 : ∀ j, j ≤ l.length → l2.drop (P + j) = l.drop j ++ shuL n) : ∀ (f x : Nat) (ts : List (Tk × Nat)) (a : Nat), scanF l f x ts = ([], a, 20) → x ≤ l.length → ∀ (f' : Nat) (ts' : List (Tk × Nat)), f ≤ f' → ¬ (scanF l2 f' (P + x) ts').2.2 = 0
  | 0, x, ts, a, h, _, _, _, _ => by rw [scanF] at h; cases h
  | f + 1, x, ts, a, h, hx, 0, _, hf => by omega
  | f + 1, x, ts, a, h, hx, f' + 1, ts', hf => by
    rw [scanF] at h ⊢
    have hs := skip_le l x hx
    by_cases c0 : skip l x = l.length
    · have e : l.drop (skip l x) = [] := by rw [c0]; simp
      rw [e] at h
      have h : (if ts.length = 4000 then ([], skip l x, 2) else if (⟨0, [], 0⟩ : Tk).kind = 0 then (ts ++ [((⟨0, [], 0⟩ : Tk), skip l x)], 0, 0) else scanF l f (skip l x + 0) (ts ++ [((⟨0, [], 0⟩ : Tk), skip l x)])) = ([], a, 20) := h
      by_cases c1 : ts.length = 4000
      · rw [if_pos c1] at h; cases h
      · rw [if_neg c1, if_pos rfl] at h; have := congrArg (fun x => x.2.2) h; simp at this
    · have hb : blank false (l.drop x) < (l.drop x).length := by rw [List.length_drop]; unfold skip at c0 hs; omega
      have e1 : skip l2 (P + x) = P + skip l x := by unfold skip; rw [h2 x hx, blank_part _ _ hb]; omega
      have e2 : l2.drop (skip l2 (P + x)) = l.drop (skip l x) ++ shuL n := by rw [e1]; exact h2 _ (by omega)
      have hne : l.drop (skip l x) ≠ [] := fun e => by have := congrArg List.length e; rw [List.length_drop] at this; simp at this; omega
      cases hf0 : first (l.drop (skip l x)) with
      | none => rw [e2, first_shu_none hne hf0 n]; exact fun e => absurd (show (20 : Int) = 0 from e) (by decide)
      | some w =>
        obtain ⟨t, k⟩ := w
        rw [hf0] at h
        rw [e2, first_shu hne hf0 n]
        simp only at h ⊢
        by_cases c1 : ts.length = 4000
        · rw [if_pos c1] at h; cases h
        rw [if_neg c1] at h
        by_cases c2 : t.kind = 0
        · rw [if_pos c2] at h; have := congrArg (fun x => x.2.2) h; simp at this
        rw [if_neg c2] at h
        by_cases c3 : ts'.length = 4000
        · rw [if_pos c3]; exact fun e => absurd (show (2 : Int) = 0 from e) (by decide)
        · rw [if_neg c3, if_neg c2, e1, Nat.add_assoc]
          exact err_in l2 P n h2 f _ _ a h (first_in hx hf0 c2).2.2 f' _ (by omega)
theorem scanF_sp {l r : List UInt8} {x : Nat} (h : l.drop x = 32 :: r) (f : Nat) (ts : List (Tk × Nat)) : scanF l (f + 1) x ts = scanF l (f + 1) (x + 1) ts := by
  rw [scanF, scanF, skip_sp h]
theorem err_opn : ∀ (n f : Nat) (l z : List UInt8) (y : Nat) (ts : List (Tk × Nat)), l.drop y = opnL n ++ z → (∀ ts', ¬ (scanF l (f + 1) (y + 2 * n) ts').2.2 = 0) → ¬ (scanF l (f + 1 + n) y ts).2.2 = 0
  | 0, f, l, z, y, ts, _, hS => hS ts
  | n + 1, f, l, z, y, ts, h, hS => by
    have h : l.drop y = 40 :: 32 :: (opnL n ++ z) := h
    have e1 : l.drop (y + 1) = 32 :: (opnL n ++ z) := by rw [← List.drop_drop, h]; rfl
    have e2 : l.drop (y + 1 + 1) = opnL n ++ z := by rw [← List.drop_drop, e1]; rfl
    have hs := skip_opn h
    rw [show f + 1 + (n + 1) = f + n + 1 + 1 by omega, scanF, hs, h, first_opn]
    simp only
    by_cases c3 : ts.length = 4000
    · rw [if_pos c3]; exact fun e => absurd (show (2 : Int) = 0 from e) (by decide)
    · rw [if_neg c3, if_neg (by decide), scanF_sp e1, show f + n + 1 = f + 1 + n by omega]
      exact err_opn n f l z (y + 1 + 1) _ e2 (fun ts' => by rw [show y + 1 + 1 + 2 * n = y + 2 * (n + 1) by omega]; exact hS ts')
theorem drop_mid (n : Nat) (l : List UInt8) (j : Nat) (hj : j ≤ l.length) : (opnL n ++ l ++ shuL n).drop (2 * n + j) = l.drop j ++ shuL n := by
  rw [List.append_assoc, ← List.drop_drop, ← opnL_len n, List.drop_left, List.drop_append_of_le_length hj]
theorem len_mid (n : Nat) (l : List UInt8) : (opnL n ++ l ++ shuL n).length = 2 * n + l.length + 2 * n := by
  rw [List.length_append, List.length_append, opnL_len, shuL_len]
/-- Brackets around a text that has tokens. -/
theorem scan_nest {l : List UInt8} {R : List (Tk × Nat)} (h : scan l = (R, 0, 0)) (n : Nat) (hl : l.length ≤ 2000) (hn : n ≤ 100) :
    ∃ R2 S0, scan (opnL n ++ l ++ shuL n) = (R2, 0, 0) ∧ R.map (·.1) = S0 ++ [tEnd] ∧ (∀ t ∈ S0, ¬ t.kind = 0) ∧ R2.map (·.1) = List.replicate n tOpn ++ (S0 ++ (List.replicate n tShu ++ [tEnd])) := by
  have hT := (scan_toks h).1
  obtain ⟨S0, hS0, hall⟩ := hT.last (by omega)
  obtain ⟨S1, h1, m1⟩ := toks_in hT (by omega) (opnL n ++ l ++ shuL n) (2 * n) n (fun j hj => drop_mid n l j hj)
  obtain ⟨S2, h2, m2⟩ := toks_opn n (opnL n ++ l ++ shuL n) (l ++ shuL n) 0 S1 (by rw [List.append_assoc]; rfl) (by rw [Nat.zero_add]; exact h1)
  have hm : S2.map (·.1) = List.replicate n tOpn ++ (S0 ++ (List.replicate n tShu ++ [tEnd])) := by rw [m2, m1, hS0, List.dropLast_concat]
  have hlen := h2.len (by omega)
  rw [len_mid] at hlen
  exact ⟨S2, S0, toks_scan (by rw [len_mid]; omega) h2 (by omega), hS0, hall, hm⟩
/-- Brackets around a text that has an error. -/
theorem scan_nest_err {l : List UInt8} {a : Nat} (h : scan l = ([], a, 20)) (n : Nat) (hl : l.length ≤ 2000) (hn : n ≤ 100) : ¬ (scan (opnL n ++ l ++ shuL n)).2.2 = 0 := by
  unfold scan at h ⊢
  rw [if_neg (by omega)] at h
  rw [if_neg (by rw [len_mid]; omega), len_mid]
  rw [show 2 * n + l.length + 2 * n + 1 = (3 * n + l.length) + 1 + n by omega]
  refine err_opn n _ _ (l ++ shuL n) 0 [] (by rw [List.append_assoc]; rfl) fun ts' => ?_
  rw [Nat.zero_add]
  exact err_in _ (2 * n) n (fun j hj => drop_mid n l j hj) (l.length + 1) 0 [] a h (by omega) _ ts' (by omega)
end Go.Proofs.YtlhklpnkelcnbaaGreatDoor.Lx
