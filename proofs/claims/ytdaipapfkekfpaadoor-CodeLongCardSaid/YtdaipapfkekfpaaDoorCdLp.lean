/- CodeLong, plain: long codes that are sound, or too long. -/
import Derived.Test.YtdaipapfkekfpaaDoorCdPl
namespace Go.Proofs.YtdaipapfkekfpaaDoor.Cd
open Go.RowKit
set_option linter.unusedSimpArgs false

def clr : In := ⟨6, 0, 1⟩
def lve : In := ⟨20, 0, 0⟩
def jmp (n : Nat) : In := ⟨17, (n : Int), 0⟩
/-- m clears and a leave. -/
def lnA (m : Nat) : Co := ⟨List.replicate m clr ++ [lve], 1, 0, false⟩
/-- A jump to the end, m clears, a leave. -/
def lnB (m : Nat) : Co := ⟨jmp (m + 1) :: List.replicate m clr ++ [lve], 1, 0, false⟩
theorem lnA_len (m : Nat) : (lnA m).ins.length = m + 1 := by simp [lnA]
theorem lnB_len (m : Nat) : (lnB m).ins.length = m + 2 := by simp [lnB]
theorem lnA_get (m p : Nat) (i : In) (h : (lnA m).ins[p]? = some i) : (p < m ∧ i = clr) ∨ (p = m ∧ i = lve) := by
  have hp : p < m + 1 := by rw [← lnA_len m]; exact (List.getElem?_eq_some_iff.1 h).1
  unfold lnA at h
  dsimp only at h
  by_cases e : p < m
  · rw [List.getElem?_append_left (by simpa using e), List.getElem?_replicate, if_pos e] at h
    exact .inl ⟨e, (Option.some.inj h).symm⟩
  · have : p = m := by omega
    subst this
    rw [List.getElem?_append_right (by simp)] at h
    simp at h
    exact .inr ⟨rfl, h.symm⟩
theorem lnA_at (m p : Nat) (h : p < m) : (lnA m).ins[p]? = some clr := by
  unfold lnA
  dsimp only
  rw [List.getElem?_append_left (by simpa using h), List.getElem?_replicate, if_pos h]
theorem lnB_get (m p : Nat) (i : In) (h : (lnB m).ins[p]? = some i) : (p = 0 ∧ i = jmp (m + 1)) ∨ (0 < p ∧ p < m + 1 ∧ i = clr) ∨ (p = m + 1 ∧ i = lve) := by
  match p, h with
  | 0, h => simp [lnB] at h; exact .inl ⟨rfl, h.symm⟩
  | p + 1, h =>
    have : (lnA m).ins[p]? = some i := by simpa [lnB, lnA] using h
    rcases lnA_get m p i this with ⟨a, b⟩ | ⟨a, b⟩
    · exact .inr (.inl ⟨by omega, by omega, b⟩)
    · exact .inr (.inr ⟨by omega, b⟩)
theorem lnA_rc (m : Nat) : ∀ p : Nat, p ≤ m → Rc [lnA m] (lnA m) p 0
  | 0, _ => .zero
  | p + 1, h => by
    have := Rc.one (l := [lnA m]) (c := lnA m) p 0 clr (lnA_rc m p (by omega)) (by omega) (by rw [Int.toNat_natCast]; exact lnA_at m p (by omega)) (by decide)
    exact this
theorem lnA_cl (m : Nat) : Cl [lnA m] (lnA m) (List.replicate (m + 1) 0) := by
  refine ⟨by rw [lnA_len]; simp, by simp [List.getElem?_replicate], fun p h e => ?_, fun p h i e n ei => ?_⟩
  · rw [List.getElem?_replicate] at e
    split at e
    · cases e
      exact .inr (lnA_rc m p (by omega))
    · cases e
  · rw [List.getElem?_replicate] at e
    split at e
    · cases e
      rcases lnA_get m p i ei with ⟨a, rfl⟩ | ⟨a, rfl⟩
      · refine ⟨by decide, by decide, fun _ => by decide, fun _ => ?_⟩
        have e1 : n1 clr p = p + 1 := rfl
        have e2 : n2 clr p = p + 1 := rfl
        rw [e1, e2]
        have e3 : ((p : Int) + 1).toNat = p + 1 := by omega
        rw [e3, List.getElem?_replicate, if_pos (by omega)]
        exact ⟨by omega, by omega, rfl, rfl, (show (0 : Int) ≤ 0 from by decide)⟩
      · exact ⟨by decide, by decide, fun _ => by decide, fun h => absurd rfl h⟩
    · cases e
theorem lnB_hts (m : Nat) : ∀ (p : Nat) (h : Int), (0 :: List.replicate m (-1) ++ [0] : List Int)[p]? = some h → (p = 0 ∧ h = 0) ∨ (p = m + 1 ∧ h = 0) ∨ h = -1
  | 0, h, e => by simp at e; exact .inl ⟨rfl, e.symm⟩
  | p + 1, h, e => by
    have e' : (List.replicate m (-1) ++ [0] : List Int)[p]? = some h := by simpa using e
    by_cases q : p < m
    · rw [List.getElem?_append_left (by simpa using q), List.getElem?_replicate, if_pos q] at e'
      exact .inr (.inr (Option.some.inj e').symm)
    · rw [List.getElem?_append_right (by simp; omega)] at e'
      have hp : p - m = 0 := by
        have := (List.getElem?_eq_some_iff.1 e').1
        simp at this
        omega
      simp [hp] at e'
      exact .inr (.inl ⟨by omega, e'.symm⟩)
theorem lnB_cl (m : Nat) : Cl [lnB m] (lnB m) (0 :: List.replicate m (-1) ++ [0]) := by
  have r1 : Rc [lnB m] (lnB m) ((m + 1 : Nat) : Int) 0 := Rc.one (l := [lnB m]) (c := lnB m) 0 0 (jmp (m + 1)) .zero (by omega) rfl (by show (17 : Int) ≠ 20; decide)
  have last : (0 :: List.replicate m (-1) ++ [0] : List Int)[m + 1]? = some 0 := by simp
  refine ⟨by rw [lnB_len]; simp, rfl, fun p h e => ?_, fun p h i e n ei => ?_⟩
  · rcases lnB_hts m p h e with ⟨rfl, rfl⟩ | ⟨rfl, rfl⟩ | rfl
    · exact .inr .zero
    · exact .inr r1
    · exact .inl rfl
  · rcases lnB_hts m p h e with ⟨rfl, rfl⟩ | ⟨rfl, rfl⟩ | rfl
    · rcases lnB_get m 0 i ei with ⟨_, rfl⟩ | ⟨a, _⟩ | ⟨a, _⟩
      · have t : tk (jmp (m + 1)) = 0 := rfl
        have v : lv [lnB m] (jmp (m + 1)) = 0 := rfl
        refine ⟨by rw [t]; decide, by decide, fun _ => by rw [t], fun _ => ?_⟩
        have e1 : n1 (jmp (m + 1)) ((0 : Nat) : Int) = ((m + 1 : Nat) : Int) := rfl
        have e2 : n2 (jmp (m + 1)) ((0 : Nat) : Int) = ((m + 1 : Nat) : Int) := rfl
        rw [e1, e2, t, v, Int.toNat_natCast, last]
        exact ⟨by omega, by omega, rfl, rfl, by decide⟩
      · omega
      · omega
    · rcases lnB_get m (m + 1) i ei with ⟨a, _⟩ | ⟨_, a, _⟩ | ⟨_, rfl⟩
      · omega
      · omega
      · exact ⟨by decide, by decide, fun _ => by decide, fun h => absurd rfl h⟩
    · exact absurd rfl n
theorem lnA_al (B : Int) (m : Nat) (i : In) (h : i ∈ (lnA m).ins) : hl i = true ∧ al B [lnA m] (lnA m) i = true := by
  unfold lnA at h
  simp only [List.mem_append, List.mem_replicate, List.mem_singleton] at h
  rcases h with ⟨_, rfl⟩ | rfl
  · exact ⟨by decide, rfl⟩
  · exact ⟨by decide, rfl⟩
theorem lnB_al (B : Int) (m : Nat) (i : In) (h : i ∈ (lnB m).ins) : hl i = true ∧ al B [lnB m] (lnB m) i = true := by
  obtain ⟨p, hp⟩ := List.getElem?_of_mem h
  rcases lnB_get m p i hp with ⟨_, rfl⟩ | ⟨_, _, rfl⟩ | ⟨_, rfl⟩
  · refine ⟨by simp [hl, jmp, nm, numsL], ?_⟩
    have : al B [lnB m] (lnB m) (jmp (m + 1)) = (decide (0 ≤ ((m + 1 : Nat) : Int)) && decide (((m + 1 : Nat) : Int) < ((lnB m).ins.length : Nat))) := rfl
    rw [this, lnB_len, decide_eq_true (by omega), decide_eq_true (by omega)]
    rfl
  · exact ⟨by decide, rfl⟩
  · exact ⟨by decide, rfl⟩
theorem ln_snd {B : Int} {c : Co} {H : List Int} (hc : Cl [c] c H) (ha : ∀ i, i ∈ c.ins → hl i = true ∧ al B [c] c i = true) (h1 : 1 ≤ c.ins.length) (hq : c.cells = 1 ∧ c.params = 0 ∧ c.ans = false) : Snd B [c] 0 ↔ c.ins.length ≤ 65536 := by
  obtain ⟨q1, q2, q3⟩ := hq
  have hs : sz c = true ↔ c.ins.length ≤ 65536 := by
    unfold sz
    rw [q1, q2]
    simp
    omega
  constructor
  · rintro ⟨_, _, _, h⟩
    exact hs.1 (h c (List.mem_cons_self ..)).sz
  · intro h
    exact ⟨by simp, by omega, ⟨c, rfl, q2, q3⟩, fun d hd => by
      simp at hd
      subst hd
      exact hc.fit (hs.2 h) ha⟩
theorem lnA_snd (B : Int) (m : Nat) : Snd B [lnA m] 0 ↔ m + 1 ≤ 65536 := by
  have := ln_snd (B := B) (lnA_cl m) (lnA_al B m) (by rw [lnA_len]; omega) ⟨rfl, rfl, rfl⟩
  rw [lnA_len] at this
  exact this
theorem lnB_snd (B : Int) (m : Nat) : Snd B [lnB m] 0 ↔ m + 2 ≤ 65536 := by
  have := ln_snd (B := B) (lnB_cl m) (lnB_al B m) (by rw [lnB_len]; omega) ⟨rfl, rfl, rfl⟩
  rw [lnB_len] at this
  exact this
end Go.Proofs.YtdaipapfkekfpaaDoor.Cd
