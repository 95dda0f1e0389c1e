/- Layer 15, plain: the program's hunks are the document's. -/
import Derived.Test.YthglhcabdadlpaaDoorAlPm
namespace Go.Proofs.YthglhcabdadlpaaDoor.Al
set_option linter.unusedVariables false
set_option linter.unusedSimpArgs false
/-- A region with pairs about it, as the program reckons it. -/
def wd (c ah : Int) (r : Rg) (be : Int) : Rg := ⟨r.fa - min c (r.fa - ah), r.ta + min c (be - r.ta), r.fb - min c (r.fa - ah), r.tb + min c (be - r.ta)⟩
def beh (n : Int) : List Rg → Int
  | [] => n
  | r :: _ => r.fa
/-- The last region ends where another does. -/
def setL : List Rg → Rg → List Rg
  | [], _ => []
  | [x], r => [⟨x.fa, r.ta, x.fb, r.tb⟩]
  | x :: y :: l, r => x :: setL (y :: l) r
theorem setL_app (x r : Rg) : ∀ A : List Rg, setL (A ++ [x]) r = A ++ [⟨x.fa, r.ta, x.fb, r.tb⟩]
  | [] => rfl
  | [a] => rfl
  | a :: b :: A => by
    have := setL_app x r (b :: A)
    show a :: setL (b :: (A ++ [x])) r = _
    rw [show b :: (A ++ [x]) = (b :: A) ++ [x] from rfl, this]
    rfl
def hk (n c : Int) : Int → List Rg → List Rg → List Rg
  | _, acc, [] => acc
  | ah, acc, r :: l => hk n c r.ta (if acc ≠ [] ∧ r.fa - ah - c ≤ c then setL acc (wd c ah r (beh n l)) else acc ++ [wd c ah r (beh n l)]) l
/-- As the document reckons it. -/
def wR (n m c : Int) (r : Rg) : Rg := ⟨r.fa - min c (min r.fa r.fb), r.ta + min c (min (n - r.ta) (m - r.tb)), r.fb - min c (min r.fa r.fb), r.tb + min c (min (n - r.ta) (m - r.tb))⟩
def hR (n m c : Int) : Int → List Rg → List Rg → List Rg
  | _, acc, [] => acc
  | pt, acc, r :: l => hR n m c r.ta (if acc ≠ [] ∧ r.fa - pt ≤ 2 * c then setL acc (wR n m c r) else acc ++ [wR n m c r]) l
/-- Between regions are pairs alone. -/
def ch (n m : Int) : Int → Int → List Rg → Prop
  | pa, pb, [] => n - pa = m - pb ∧ pa ≤ n ∧ 0 ≤ pa ∧ 0 ≤ pb
  | pa, pb, r :: l => r.fa - pa = r.fb - pb ∧ 0 ≤ pa ∧ 0 ≤ pb ∧ pa ≤ r.fa ∧ r.fa ≤ r.ta ∧ r.fb ≤ r.tb ∧ ch n m r.ta r.tb l
theorem ch_le {n m : Int} : ∀ {pa pb : Int} {l : List Rg}, ch n m pa pb l → pa ≤ n ∧ pb ≤ m ∧ 0 ≤ pa ∧ 0 ≤ pb
  | _, _, [], h => by
    obtain ⟨h1, h2, h3, h4⟩ := h
    omega
  | pa, pb, r :: l, h => by
    obtain ⟨h1, h2, h3, h4, h5, h6, h7⟩ := h
    have := ch_le h7
    omega
theorem ch_gaps {n m : Int} : ∀ (pa pb : Int) (q : Ev) (l : List Ev), rise n m q l = true → (q.1 + 1) - pa = (q.2 + 1) - pb → 0 ≤ pa → 0 ≤ pb → pa ≤ q.1 + 1 → q.1 + 1 ≤ n → q.2 + 1 ≤ m → ch n m pa pb (gaps n m (q.1 + 1) (q.2 + 1) l)
  | pa, pb, q, [], _, h1, h2, h3, h4, h5, h6 => by
    simp only [gaps, one]
    split
    · exact ⟨h1, h2, h3, h4, h5, h6, by simp, Int.le_refl _, by simp only; omega, by simp only; omega⟩
    · exact ⟨by omega, by omega, h2, h3⟩
  | pa, pb, q, p :: l, h, h1, h2, h3, h4, h5, h6 => by
    obtain ⟨e1, e2, e3, e4, e5⟩ := rise_cons h
    simp only [gaps, one]
    split
    · rename_i c
      refine ⟨h1, h2, h3, h4, by simp only; omega, by simp only; omega, ?_⟩
      exact ch_gaps p.1 p.2 p l e5 (by omega) (by omega) (by omega) (by omega) (by omega) (by omega)
    · rename_i c
      exact ch_gaps pa pb p l e5 (by omega) h2 h3 (by omega) (by omega) (by omega)
/-- How far the two are alike. -/
def Rl (cR pa : Int) (acc accR l : List Rg) : Prop := acc = accR ∨ ∃ A x y, acc = A ++ [x] ∧ accR = A ++ [y] ∧ x.fa = y.fa ∧ x.fb = y.fb ∧ ∃ r l', l = r :: l' ∧ r.fa - pa ≤ 2 * cR
theorem rl_last {n m c cR : Int} (hc : 0 ≤ c) (hcR : cR = min c n) {A : List Rg} {x y : Rg} {ta tb : Int} (hfa : x.fa = y.fa) (hfb : x.fb = y.fb) (l : List Rg) (hch : ch n m ta tb l)
    (hx : x.ta = ta + min c (beh n l - ta)) (hx2 : x.tb = tb + min c (beh n l - ta)) (hy : y.ta = ta + min cR (min (n - ta) (m - tb))) (hy2 : y.tb = tb + min cR (min (n - ta) (m - tb))) : Rl cR ta (A ++ [x]) (A ++ [y]) l := by
  cases l with
  | nil =>
    obtain ⟨h1, h2, h3, h4⟩ := hch
    simp only [beh] at hx hx2
    have e1 : x.ta = y.ta := by omega
    have e2 : x.tb = y.tb := by omega
    left
    cases x; cases y; simp_all
  | cons r l =>
    obtain ⟨h1, h2, h3, h4, h5, h6, h7⟩ := hch
    have h8 := ch_le h7
    simp only [beh] at hx hx2
    by_cases c2 : r.fa - ta ≤ 2 * cR
    · right
      exact ⟨A, x, y, rfl, rfl, hfa, hfb, r, l, rfl, c2⟩
    · have e1 : x.ta = y.ta := by omega
      have e2 : x.tb = y.tb := by omega
      left
      cases x; cases y; simp_all
theorem ne_app {A : List Rg} {x : Rg} : A ++ [x] ≠ [] := by simp
theorem split_last : ∀ {l : List Rg}, l ≠ [] → ∃ A x, l = A ++ [x]
  | [], h => absurd rfl h
  | [a], _ => ⟨[], a, rfl⟩
  | a :: b :: l, _ => by
    obtain ⟨A, x, h⟩ := split_last (l := b :: l) (List.cons_ne_nil _ _)
    exact ⟨a :: A, x, by rw [h]; rfl⟩
theorem hk_eq {n m c : Int} (hc : 0 ≤ c) (hn : 0 ≤ n) : ∀ (l : List Rg) (pa pb : Int) (acc accR : List Rg), ch n m pa pb l → (acc = [] → pa = 0 ∧ pb = 0) → Rl (min c n) pa acc accR l → hk n c pa acc l = hR n m (min c n) pa accR l
  | [], pa, pb, acc, accR, _, _, hr => by
    rcases hr with rfl | ⟨A, x, y, -, -, -, -, r, l', h, -⟩
    · rfl
    · cases h
  | r :: l, pa, pb, acc, accR, hch, h0, hr => by
    obtain ⟨h1, h2, h3, h4, h5, h6, h7⟩ := hch
    have h8 := ch_le h7
    obtain ⟨cR, hcR⟩ : ∃ cR, cR = min c n := ⟨_, rfl⟩
    simp only [hk, hR]
    rw [← hcR] at hr ⊢
    by_cases e : acc = []
    · obtain ⟨rfl, rfl⟩ := h0 e
      have e2 : accR = [] := by
        rcases hr with rfl | ⟨A, x, y, ha, _⟩
        · exact e
        · rw [ha] at e; exact absurd e ne_app
      subst e e2
      rw [if_neg (fun h => h.1 rfl), if_neg (fun h => h.1 rfl), hcR]
      refine hk_eq hc hn l r.ta r.tb _ _ h7 (fun h => absurd h ne_app) ?_
      rw [← hcR]
      refine rl_last hc hcR ?_ ?_ l h7 rfl rfl rfl rfl
      · simp only [wd, wR]; omega
      · simp only [wd, wR]; omega
    · have hne : accR ≠ [] := by
        rcases hr with rfl | ⟨A, x, y, _, ha, _⟩
        · exact e
        · rw [ha]; exact ne_app
      have hiff : r.fa - pa - c ≤ c ↔ r.fa - pa ≤ 2 * cR := by omega
      by_cases g : r.fa - pa ≤ 2 * cR
      · rw [if_pos ⟨e, hiff.2 g⟩, if_pos ⟨hne, g⟩]
        obtain ⟨A, x, y, ha, hb, hfa, hfb⟩ : ∃ A x y, acc = A ++ [x] ∧ accR = A ++ [y] ∧ x.fa = y.fa ∧ x.fb = y.fb := by
          rcases hr with rfl | ⟨A, x, y, h1, h2, h3, h4, _⟩
          · obtain ⟨A, x, h⟩ : ∃ A x, acc = A ++ [x] := split_last e
            exact ⟨A, x, x, h, h, rfl, rfl⟩
          · exact ⟨A, x, y, h1, h2, h3, h4⟩
        rw [ha, hb, setL_app, setL_app, hcR]
        refine hk_eq hc hn l r.ta r.tb _ _ h7 (fun h => absurd h ne_app) ?_
        rw [← hcR]
        refine rl_last hc hcR ?_ ?_ l h7 ?_ ?_ ?_ ?_ <;> simp only [hcR, hfa, hfb, wd, wR]
      · rw [if_neg (fun h => g (hiff.1 h.2)), if_neg (fun h => g h.2)]
        have he : acc = accR := by
          rcases hr with h | ⟨A, x, y, _, _, _, _, r2, l2, hl, hg⟩
          · exact h
          · cases hl; exact absurd hg g
        subst he
        rw [hcR]
        refine hk_eq hc hn l r.ta r.tb _ _ h7 (fun h => absurd h ne_app) ?_
        rw [← hcR]
        refine rl_last hc hcR ?_ ?_ l h7 rfl rfl rfl rfl
        · simp only [wd, wR]; omega
        · simp only [wd, wR]; omega
/-- Hunks, or what is wrong. -/
def hunks (n m : Int) (l : List Ev) (c : Int) : List Rg × Int := if n < 0 ∨ m < 0 ∨ c < 0 then ([], 1) else if rise n m (-1, -1) l then (hk n c 0 [] (gaps n m 0 0 l), 0) else ([], 90)
theorem hunks_eq {n m c : Int} {l : List Ev} (hn : 0 ≤ n) (hm : 0 ≤ m) (hc : 0 ≤ c) (hr : rise n m (-1, -1) l = true) : hk n c 0 [] (gaps n m 0 0 l) = hR n m (min c n) 0 [] (gaps n m 0 0 l) :=
  hk_eq hc hn _ 0 0 [] [] (ch_gaps 0 0 (-1, -1) l hr (by decide) (by decide) (by decide) (by decide) hn hm) (fun _ => ⟨rfl, rfl⟩) (.inl rfl)
end Go.Proofs.YthglhcabdadlpaaDoor.Al
