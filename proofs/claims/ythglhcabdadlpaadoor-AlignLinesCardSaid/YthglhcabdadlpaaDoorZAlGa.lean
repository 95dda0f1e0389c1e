/- Layer 15, plain: lines of a region. -/
import Derived.Test.YthglhcabdadlpaaDoorZAlO
namespace Go.Proofs.YthglhcabdadlpaaDoor.Al
set_option linter.unusedVariables false
set_option linter.unusedSimpArgs false
/-- An event's line behind a sign. -/
def ln (s : UInt8) (x : Ev) : ByteArray := ⟨(s :: 32 :: tx x).toArray⟩
/-- The lines of events from one index up to another. -/
def seg (s : UInt8) (l : List Ev) (i j : Nat) : List ByteArray := ((l.drop i).take (j - i)).map (ln s)
theorem seg_self (s : UInt8) (l : List Ev) (i : Nat) : seg s l i i = [] := by simp [seg]
theorem seg_snoc (s : UInt8) {l : List Ev} {i j : Nat} {x : Ev} (h : i ≤ j) (hx : l[j]? = some x) : seg s l i (j + 1) = seg s l i j ++ [ln s x] := by
  unfold seg
  have h1 : (l.drop i)[j - i]? = some x := by rw [List.getElem?_drop, show i + (j - i) = j from by omega]; exact hx
  rw [show j + 1 - i = (j - i) + 1 from by omega, List.take_add_one, h1, List.map_append]
  rfl
theorem seg_len (s : UInt8) (l : List Ev) (i j : Nat) : (seg s l i j).length ≤ j - i := by
  unfold seg
  rw [List.length_map]
  exact List.length_take_le _ _
/-- The lines between and at pairs. -/
def lnsP (a b : List Ev) (ta tb : Nat) : Nat → Nat → List (Nat × Nat) → List ByteArray
  | i, j, [] => seg 45 a i ta ++ seg 43 b j tb
  | i, j, p :: l => seg 45 a i p.1 ++ (seg 43 b j p.2 ++ (seg 32 a p.1 (p.1 + 1) ++ lnsP a b ta tb (p.1 + 1) (p.2 + 1) l))
/-- Pairs that rise from two indices on, up to two others. -/
def chn (ta tb : Nat) : Nat → Nat → List (Nat × Nat) → Prop
  | i, j, [] => i ≤ ta ∧ j ≤ tb
  | i, j, p :: l => i ≤ p.1 ∧ j ≤ p.2 ∧ p.1 < ta ∧ p.2 < tb ∧ chn ta tb (p.1 + 1) (p.2 + 1) l
theorem chn_le {ta tb : Nat} : ∀ {i j : Nat} {l : List (Nat × Nat)}, chn ta tb i j l → i ≤ ta ∧ j ≤ tb
  | _, _, [], h => h
  | i, j, p :: l, h => by
    obtain ⟨h1, h2, h3, h4, -⟩ := h
    omega
theorem lnsP_len {a b : List Ev} {ta tb : Nat} : ∀ {i j : Nat} {l : List (Nat × Nat)}, chn ta tb i j l → (lnsP a b ta tb i j l).length ≤ (ta - i) + (tb - j)
  | i, j, [], h => by
    have h1 := seg_len 45 a i ta
    have h2 := seg_len 43 b j tb
    simp only [lnsP, List.length_append]
    omega
  | i, j, p :: l, h => by
    obtain ⟨h1, h2, h3, h4, h5⟩ := h
    have ih := lnsP_len (a := a) (b := b) h5
    have s1 := seg_len 45 a i p.1
    have s2 := seg_len 43 b j p.2
    have s3 := seg_len 32 a p.1 (p.1 + 1)
    simp only [lnsP, List.length_append]
    omega
/-- The pairs of which both indices are in a region. -/
def inR (r : Rg) (p : Ev) : Bool := (decide (r.fa ≤ p.1) && decide (p.1 < r.ta)) && decide (r.fb ≤ p.2) && decide (p.2 < r.tb)
def insd (r : Rg) (l : List Ev) : List Ev := l.filter (inR r)
theorem insd_chn {n m : Int} {fa ta fb tb : Nat} : ∀ (x : Ev) (l : List Ev) (i j : Nat), rise n m x l = true → -1 ≤ x.1 → -1 ≤ x.2 → i ≤ ta → j ≤ tb → ((i : Int) ≤ fa ∨ (i : Int) ≤ x.1 + 1) → ((j : Int) ≤ fb ∨ (j : Int) ≤ x.2 + 1) → ∃ q, insd ⟨fa, ta, fb, tb⟩ l = prs q ∧ chn ta tb i j q
  | x, [], i, j, _, _, _, h1, h2, _, _ => ⟨[], rfl, h1, h2⟩
  | x, p :: l, i, j, h, hx1, hx2, h1, h2, h3, h4 => by
    obtain ⟨k1, k2, k3, k4, k5⟩ := rise_cons h
    unfold insd
    by_cases c : inR ⟨fa, ta, fb, tb⟩ p = true
    · have c0 := c
      unfold inR at c
      simp only [Bool.and_eq_true, decide_eq_true_eq] at c
      obtain ⟨⟨⟨c1, c2⟩, c3⟩, c4⟩ := c
      obtain ⟨q, hq, hc⟩ := insd_chn (fa := fa) (ta := ta) (fb := fb) (tb := tb) p l (p.1.toNat + 1) (p.2.toNat + 1) k5 (by omega) (by omega) (by omega) (by omega) (.inr (by omega)) (.inr (by omega))
      refine ⟨(p.1.toNat, p.2.toNat) :: q, ?_, by simp only; omega, by simp only; omega, by simp only; omega, by simp only; omega, hc⟩
      rw [List.filter_cons_of_pos c0, prs_cons]
      have e : p = (((p.1.toNat : Nat) : Int), ((p.2.toNat : Nat) : Int)) := by
        apply Prod.ext
        · simp only; omega
        · simp only; omega
      unfold insd at hq
      rw [hq]
      rw [← e]
    · obtain ⟨q, hq, hc⟩ := insd_chn (fa := fa) (ta := ta) (fb := fb) (tb := tb) p l i j k5 (by omega) (by omega) h1 h2 (by omega) (by omega)
      exact ⟨q, by rw [List.filter_cons_of_neg c]; exact hq, hc⟩
/-- Whether a region lies in both rows. -/
def rok (n m : Int) (r : Rg) : Bool := (decide (0 ≤ r.fa) && (decide (r.fa ≤ r.ta) && decide (r.ta ≤ n))) && (decide (0 ≤ r.fb) && (decide (r.fb ≤ r.tb) && decide (r.tb ≤ m)))
end Go.Proofs.YthglhcabdadlpaaDoor.Al
