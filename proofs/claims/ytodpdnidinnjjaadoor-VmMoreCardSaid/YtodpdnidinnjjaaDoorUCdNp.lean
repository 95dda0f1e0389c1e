/- Layer 8, plain: the heights of a code, found round by round (the document's way). No Go in sight. -/
import Derived.Test.YtodpdnidinnjjaaDoorUCdCl
namespace Go.Proofs.YtodpdnidinnjjaaDoor.Cd
open Go.RowKit

/-- The places that come next of a place. -/
def fl (i : In) (p : Int) : List Int := if i.op = 20 then [] else if i.op = 17 then [i.n] else if i.op = 18 then [p + 1, i.n] else [p + 1]
theorem fl_n1 {i : In} {p : Int} (h : i.op ≠ 20) : n1 i p ∈ fl i p := by
  unfold fl n1
  rw [if_neg h]
  split
  · simp
  · split <;> simp
theorem fl_n2 {i : In} {p : Int} (h : i.op ≠ 20) : n2 i p ∈ fl i p := by
  unfold fl n2
  rw [if_neg h]
  split
  · simp [*]
  · split
    · simp [*]
    · simp [*]
theorem fl_rc {l : List Co} {c : Co} {p : Nat} {h : Int} {i : In} (r : Rc l c p h) (e : c.ins[p]? = some i) {q : Int} (hq : q ∈ fl i p) : Rc l c q (h - tk i + lv l i) := by
  unfold fl at hq
  by_cases h20 : i.op = 20
  · rw [if_pos h20] at hq; cases hq
  · rw [if_neg h20] at hq
    have r1 := Rc.one _ h i r (by omega) (by rw [Int.toNat_natCast]; exact e) h20
    have r2 := Rc.two _ h i r (by omega) (by rw [Int.toNat_natCast]; exact e) h20
    unfold n1 at r1
    unfold n2 at r2
    by_cases h17 : i.op = 17
    · rw [if_pos h17] at hq r1
      rw [List.mem_singleton.1 hq]; exact r1
    · rw [if_neg h17] at hq r1
      by_cases h18 : i.op = 18
      · rw [if_pos h18] at hq
        rw [if_pos (.inr h18)] at r2
        simp only [List.mem_cons, List.not_mem_nil, or_false] at hq
        rcases hq with rfl | rfl
        · exact r1
        · exact r2
      · rw [if_neg h18] at hq
        rw [List.mem_singleton.1 hq]; exact r1
theorem fl_bd {B : Int} {l : List Co} {c : Co} {i : In} (h : al B l c i = true) (p : Nat) {q : Int} (hq : q ∈ fl i p) : 0 ≤ q ∧ (q < c.ins.length ∨ q = p + 1) := by
  unfold fl at hq
  by_cases h20 : i.op = 20
  · rw [if_pos h20] at hq; cases hq
  · rw [if_neg h20] at hq
    by_cases h17 : i.op = 17
    · rw [if_pos h17] at hq
      rw [List.mem_singleton.1 hq]
      simp [al, h17] at h
      omega
    · rw [if_neg h17] at hq
      by_cases h18 : i.op = 18
      · rw [if_pos h18] at hq
        simp [al, h18] at h
        simp only [List.mem_cons, List.not_mem_nil, or_false] at hq
        rcases hq with rfl | rfl
        · omega
        · omega
      · rw [if_neg h18] at hq
        rw [List.mem_singleton.1 hq]
        omega
/-- What is asked at a place holds, and all that comes next has its height. -/
def Gd (l : List Co) (c : Co) (hs : List Int) (p : Nat) : Prop := ∀ h i, hs[p]? = some h → h ≠ -1 → c.ins[p]? = some i → tk i ≤ h ∧ h ≤ 4096 ∧ (bare i = true → h = tk i) ∧ ∀ q, q ∈ fl i p → 0 ≤ q ∧ hs[q.toNat]? = some (h - tk i + lv l i)
/-- What holds all the time. -/
structure RI (l : List Co) (c : Co) (hs : List Int) : Prop where
  len : hs.length = c.ins.length
  ok : ∀ (p : Nat) h, hs[p]? = some h → h = -1 ∨ (0 ≤ h ∧ h ≤ 4097 ∧ Rc l c p h)
  zero : hs[0]? = some 0
theorem RI.set {l : List Co} {c : Co} {hs : List Int} (H : RI l c hs) {q : Nat} {h : Int} (e : hs[q]? = some (-1)) (r : Rc l c q h) (h0 : 0 ≤ h) (h1 : h ≤ 4097) : RI l c (hs.set q h) := by
  have ql := (List.getElem?_eq_some_iff.1 e).1
  refine ⟨by simp [H.len], fun p x ex => ?_, ?_⟩
  · by_cases hp : q = p
    · subst hp
      rw [List.getElem?_set_self ql] at ex
      cases ex
      exact .inr ⟨h0, h1, r⟩
    · rw [List.getElem?_set_ne hp] at ex
      exact H.ok p x ex
  · have : q ≠ 0 := fun e0 => by subst e0; rw [H.zero] at e; cases e
    rw [List.getElem?_set_ne this]
    exact H.zero
theorem set_keep {hs : List Int} {q p : Nat} {h x : Int} (e : hs[q]? = some (-1)) (e2 : hs[p]? = some x) (n : x ≠ -1) : (hs.set q h)[p]? = some x := by
  have : q ≠ p := fun e3 => by subst e3; rw [e2] at e; exact n (Option.some.inj e)
  rw [List.getElem?_set_ne this]
  exact e2
theorem RI.begin {l : List Co} {c : Co} (h : 0 < c.ins.length) : RI l c ((List.replicate c.ins.length (-1)).set 0 0) := by
  refine ⟨by simp, fun p x e => ?_, by rw [List.getElem?_set_self (by simpa using h)]⟩
  by_cases hp : 0 = p
  · subst hp
    rw [List.getElem?_set_self (by simpa using h)] at e
    cases e
    exact .inr ⟨by omega, by omega, .zero⟩
  · rw [List.getElem?_set_ne hp, List.getElem?_replicate] at e
    split at e
    · exact .inl (Option.some.inj e).symm
    · cases e
theorem RI.cl {l : List Co} {c : Co} {hs : List Int} (H : RI l c hs) (hl0 : ∀ i, i ∈ c.ins → 0 ≤ lv l i) (G : ∀ p, p < c.ins.length → Gd l c hs p) : Cl l c hs := by
  refine ⟨H.len, H.zero, fun p h e => ?_, fun p h i e n ei => ?_⟩
  · rcases H.ok p h e with a | a
    · exact .inl a
    · exact .inr a.2.2
  · obtain ⟨g1, g2, g3, g4⟩ := G p (List.getElem?_eq_some_iff.1 ei).1 h i e n ei
    refine ⟨g1, g2, g3, fun ho => ?_⟩
    have a := g4 _ (fl_n1 ho)
    have b := g4 _ (fl_n2 ho)
    have := hl0 i (List.mem_of_getElem? ei)
    exact ⟨a.1, b.1, a.2, b.2, by omega⟩
/-- Before a height is checked. -/
theorem Gd.leave {l : List Co} {c : Co} {hs : List Int} {p : Nat} (e : hs[p]? = some (-1)) : Gd l c hs p := fun h i eh n _ => by
  rw [e] at eh
  exact absurd (Option.some.inj eh).symm n
theorem Gd.mk {l : List Co} {c : Co} {hs : List Int} {p : Nat} {h : Int} {i : In} (e : hs[p]? = some h) (ei : c.ins[p]? = some i) (h1 : tk i ≤ h) (h2 : h ≤ 4096) (h3 : bare i = true → h = tk i) (h4 : ∀ q, q ∈ fl i p → 0 ≤ q ∧ hs[q.toNat]? = some (h - tk i + lv l i)) : Gd l c hs p := fun h' i' eh n ei' => by
  rw [e] at eh; cases eh
  rw [ei] at ei'; cases ei'
  exact ⟨h1, h2, h3, h4⟩
theorem bad_at {B : Int} {l : List Co} {c : Co} {p : Nat} {h : Int} {i : In} (r : Rc l c p h) (ei : c.ins[p]? = some i) (n : ¬ (tk i ≤ h ∧ h ≤ 4096 ∧ (bare i = true → h = tk i))) : HR B l c none := by
  refine no_lo r fun lo => ?_
  obtain ⟨_, i', e', a, b, d⟩ := lo
  rw [Int.toNat_natCast, ei] at e'
  cases e'
  exact n ⟨a, b, d⟩
end Go.Proofs.YtodpdnidinnjjaaDoor.Cd
