/- Layer 8, plain: sound codes with one more behind them. -/
import Derived.Test.YtdaipapfkekfpaaDoorCdPl
namespace Go.Proofs.YtdaipapfkekfpaaDoor.Cd
open Go.RowKit

theorem get_more {l : List Co} {x d : Co} {k : Nat} (h : l[k]? = some d) : (l ++ [x])[k]? = some d := by
  have := (List.getElem?_eq_some_iff.1 h).1
  rw [List.getElem?_append_left this, h]
theorem mc_more {B : Int} {l : List Co} {x : Co} {i : In} (h : mc B l i = true) : mc B (l ++ [x]) i = true ∧ ∃ d, l[i.n.toNat]? = some d := by
  unfold mc at h ⊢
  cases e : l[i.n.toNat]? with
  | none => rw [e] at h; simp at h
  | some d =>
    rw [e] at h
    rw [get_more e]
    exact ⟨h, d, rfl⟩
theorem al_more {B : Int} {l : List Co} {c x : Co} {i : In} (h : al B l c i = true) : al B (l ++ [x]) c i = true ∧ lv (l ++ [x]) i = lv l i := by
  unfold al at h ⊢
  unfold lv
  by_cases h19 : i.op = 19
  · have e1 : ¬ (i.op = 2 ∨ i.op = 3) := by omega
    have e2 : ¬ (i.op = 4 ∨ i.op = 5 ∨ i.op = 6) := by omega
    have e3 : ¬ (i.op = 17 ∨ i.op = 18) := by omega
    rw [if_neg e1, if_neg e2, if_neg e3, if_pos h19] at h ⊢
    obtain ⟨a, d, e⟩ := mc_more (x := x) h
    refine ⟨a, ?_⟩
    rw [if_pos h19, if_pos h19, e, get_more e]
  · rw [if_neg h19, if_neg h19]
    rw [if_neg h19] at h
    rw [if_neg h19]
    exact ⟨h, rfl⟩
theorem Rc.less {B : Int} {l : List Co} {c x : Co} (ha : ∀ i, i ∈ c.ins → hl i = true ∧ Cd.al B l c i = true) {p h : Int} (r : Rc (l ++ [x]) c p h) : Rc l c p h := by
  induction r with
  | zero => exact .zero
  | one p h i r hp e ho ih =>
    have := (al_more (x := x) (ha i (List.mem_of_getElem? e)).2).2
    rw [this]
    exact .one p h i ih hp e ho
  | two p h i r hp e ho ih =>
    have := (al_more (x := x) (ha i (List.mem_of_getElem? e)).2).2
    rw [this]
    exact .two p h i ih hp e ho
theorem Fit.more {B : Int} {l : List Co} {c x : Co} (h : Fit B l c) : Fit B (l ++ [x]) c :=
  ⟨h.sz, fun i hi => ⟨(h.al i hi).1, (al_more (h.al i hi).2).1⟩, fun p y r => h.lo p y (r.less h.al), fun p y y' r r' => h.eq p y y' (r.less h.al) (r'.less h.al)⟩
theorem snd_more {B : Int} {l : List Co} {x : Co} {main : Int} (h : Snd B l main) (hl : l.length + 1 ≤ 40) : Snd B (l ++ [x]) main ↔ Fit B (l ++ [x]) x := by
  obtain ⟨_, h1, ⟨c, h2, h3⟩, h4⟩ := h
  constructor
  · exact fun g => g.2.2.2 x (by simp)
  · intro g
    refine ⟨by simp; omega, h1, ⟨c, get_more h2, h3⟩, fun d hd => ?_⟩
    rcases List.mem_append.1 hd with e | e
    · exact (h4 d e).more
    · simp at e
      subst e
      exact g
theorem hk_more {B : Int} {l : List Co} {x : Co} {r : Option (List Int)} (h : HK B (l ++ [x]) (l.length : Nat) r) : r.isSome = true ↔ Fit B (l ++ [x]) x := by
  rcases h with ⟨_, c, e, h⟩ | ⟨h, _⟩
  · rw [Int.toNat_natCast, List.getElem?_append_right (Nat.le_refl _)] at e
    simp at e
    subst e
    cases r with
    | none => exact ⟨(fun e => by cases e), fun f => absurd f h⟩
    | some H => exact ⟨fun _ => h.2, fun _ => rfl⟩
  · exact absurd ⟨by omega, by rw [Int.toNat_natCast]; simp⟩ h
end Go.Proofs.YtdaipapfkekfpaaDoor.Cd
