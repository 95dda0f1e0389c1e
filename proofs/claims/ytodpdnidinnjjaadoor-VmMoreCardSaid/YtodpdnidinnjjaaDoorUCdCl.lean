/- Layer 8, plain: how the heights of a code are found, place by place. No Go in sight. -/
import Derived.Test.YtodpdnidinnjjaaDoorUCdPl
namespace Go.Proofs.YtodpdnidinnjjaaDoor.Cd
open Go.RowKit

/-- From a place all that comes next has its height. -/
def Dn (l : List Co) (hs : List Int) (p : Int) (h : Int) (i : In) : Prop :=
  tk i ≤ h ∧ (bare i = true → h = tk i) ∧ (i.op ≠ 20 → 0 ≤ h - tk i + lv l i ∧ 0 ≤ n1 i p ∧ 0 ≤ n2 i p ∧ hs[(n1 i p).toNat]? = some (h - tk i + lv l i) ∧ hs[(n2 i p).toNat]? = some (h - tk i + lv l i))
/-- What holds while places wait; pe: the place from which one goes on just now, or -1. -/
structure CI (l : List Co) (c : Co) (hs : List Int) (ws : List Int) (pe : Int) : Prop where
  len : hs.length = c.ins.length
  ok : ∀ (p : Nat) h, hs[p]? = some h → h = -1 ∨ (0 ≤ h ∧ h ≤ 4096 ∧ Rc l c p h)
  zero : hs[0]? = some 0
  done : ∀ (p : Nat) h i, hs[p]? = some h → h ≠ -1 → c.ins[p]? = some i → (p : Int) ∈ ws ∨ (p : Int) = pe ∨ Dn l hs p h i
  wt : ∀ q, q ∈ ws → ∃ p : Nat, q = p ∧ ∃ h, hs[p]? = some h ∧ h ≠ -1
/-- What comes of reaching a place. -/
def rhs (hs : List Int) (q : Nat) (h : Int) : List Int := if hs[q]? = some (-1) then hs.set q h else hs
def rws (hs ws : List Int) (q : Nat) : List Int := if hs[q]? = some (-1) then ws ++ [(q : Int)] else ws
theorem rhs_len (hs : List Int) (q : Nat) (h : Int) : (rhs hs q h).length = hs.length := by unfold rhs; split <;> simp
theorem rhs_keep {hs : List Int} {q : Nat} {h : Int} {p : Nat} {x : Int} (e : hs[p]? = some x) (n : x ≠ -1) : (rhs hs q h)[p]? = some x := by
  unfold rhs
  split
  · rename_i hq
    have : q ≠ p := fun e2 => by subst e2; rw [e] at hq; exact n (Option.some.inj hq)
    rw [List.getElem?_set_ne this]
    exact e
  · exact e
theorem rhs_at {hs : List Int} {q : Nat} {h : Int} {p : Nat} {x : Int} (e : (rhs hs q h)[p]? = some x) : hs[p]? = some x ∨ (p = q ∧ x = h ∧ hs[q]? = some (-1)) := by
  unfold rhs at e
  split at e
  · rename_i hq
    by_cases hp : q = p
    · subst hp
      obtain ⟨hl, _⟩ := List.getElem?_eq_some_iff.1 hq
      rw [List.getElem?_set_self hl] at e
      exact .inr ⟨rfl, (Option.some.inj e).symm, hq⟩
    · rw [List.getElem?_set_ne hp] at e
      exact .inl e
  · exact .inl e
theorem Dn.keep {l : List Co} {hs : List Int} {p h : Int} {i : In} {q : Nat} {x : Int} (d : Dn l hs p h i) : Dn l (rhs hs q x) p h i := by
  obtain ⟨d1, d2, d3⟩ := d
  refine ⟨d1, d2, fun ho => ?_⟩
  obtain ⟨e0, e1, e2, e3, e4⟩ := d3 ho
  exact ⟨e0, e1, e2, rhs_keep e3 (by omega), rhs_keep e4 (by omega)⟩
theorem CI.reach {l : List Co} {c : Co} {hs ws : List Int} {pe : Int} (H : CI l c hs ws pe) {q : Nat} {h : Int} (r : Rc l c q h) (h0 : 0 ≤ h) (h1 : h ≤ 4096) (hv : (rhs hs q h)[q]? = some h) : CI l c (rhs hs q h) (rws hs ws q) pe := by
  refine ⟨by rw [rhs_len]; exact H.len, fun p x e => ?_, rhs_keep H.zero (by omega), fun p x i e n ei => ?_, fun x hx => ?_⟩
  · rcases rhs_at e with e | ⟨rfl, rfl, _⟩
    · exact H.ok p x e
    · exact .inr ⟨h0, h1, r⟩
  · rcases rhs_at e with e | ⟨rfl, rfl, e'⟩
    · rcases H.done p x i e n ei with a | a | a
      · refine .inl ?_
        unfold rws
        split
        · exact List.mem_append.2 (.inl a)
        · exact a
      · exact .inr (.inl a)
      · exact .inr (.inr a.keep)
    · refine .inl ?_
      unfold rws
      rw [if_pos e']
      exact List.mem_append.2 (.inr (List.mem_singleton.2 rfl))
  · unfold rws at hx
    have old : ∀ x, x ∈ ws → ∃ p : Nat, x = p ∧ ∃ y, (rhs hs q h)[p]? = some y ∧ y ≠ -1 := fun x hx => by
      obtain ⟨p, e, y, e1, e2⟩ := H.wt x hx
      exact ⟨p, e, y, rhs_keep e1 e2, e2⟩
    split at hx
    · rcases List.mem_append.1 hx with a | a
      · exact old x a
      · exact ⟨q, List.mem_singleton.1 a, h, hv, by omega⟩
    · exact old x hx
/-- How much is left to do. -/
def lft (hs ws : List Int) : Nat := 2 * hs.count (-1) + ws.length
theorem count_set (hs : List Int) (q : Nat) (h : Int) (e : hs[q]? = some (-1)) (n : h ≠ -1) : (hs.set q h).count (-1) + 1 = hs.count (-1) := by
  induction hs generalizing q with
  | nil => cases e
  | cons a r ih =>
    cases q with
    | zero =>
      simp at e
      subst e
      simp [n]
    | succ q =>
      simp at e
      have := ih q e
      simp only [List.set_cons_succ, List.count_cons]
      omega
theorem lft_reach (hs ws : List Int) (q : Nat) (h : Int) (h0 : 0 ≤ h) : lft (rhs hs q h) (rws hs ws q) ≤ lft hs ws := by
  unfold lft rhs rws
  split
  · rename_i e
    have := count_set hs q h e (by omega)
    simp
    omega
  · exact Nat.le_refl _
/-- At the end. -/
theorem CI.cl {l : List Co} {c : Co} {hs : List Int} (H : CI l c hs [] (-1)) : Cl l c hs := by
  refine ⟨H.len, H.zero, fun p h e => ?_, fun p h i e n ei => ?_⟩
  · rcases H.ok p h e with a | a
    · exact .inl a
    · exact .inr a.2.2
  · rcases H.done p h i e n ei with a | a | a
    · cases a
    · omega
    · rcases H.ok p h e with b | b
      · exact absurd b n
      · refine ⟨a.1, b.2.1, a.2.1, fun ho => ?_⟩
        obtain ⟨e0, e1, e2, e3, e4⟩ := a.2.2 ho
        exact ⟨e1, e2, e3, e4, e0⟩
/-- The last place that waits is taken. -/
theorem CI.take {l : List Co} {c : Co} {hs ws : List Int} {q : Int} (H : CI l c hs (ws ++ [q]) (-1)) : CI l c hs ws q ∧ ∃ (p : Nat) (h : Int) (i : In), q = p ∧ hs[p]? = some h ∧ c.ins[p]? = some i ∧ 0 ≤ h ∧ h ≤ 4096 ∧ Rc l c q h := by
  obtain ⟨p, e, h, e1, e2⟩ := H.wt q (List.mem_append.2 (.inr (List.mem_singleton.2 rfl)))
  refine ⟨⟨H.len, H.ok, H.zero, fun p x i ex n ei => ?_, fun x hx => H.wt x (List.mem_append.2 (.inl hx))⟩, p, h, ?_⟩
  · rcases H.done p x i ex n ei with a | a | a
    · rcases List.mem_append.1 a with a | a
      · exact .inl a
      · exact .inr (.inl (List.mem_singleton.1 a))
    · omega
    · exact .inr (.inr a)
  · obtain ⟨hl, _⟩ := List.getElem?_eq_some_iff.1 e1
    rw [H.len] at hl
    refine ⟨c.ins[p], e, e1, List.getElem?_eq_getElem hl, ?_⟩
    rcases H.ok p h e1 with b | b
    · exact absurd b e2
    · rw [e]; exact b
/-- One has gone on from a place. -/
theorem CI.put {l : List Co} {c : Co} {hs ws : List Int} {q : Int} (H : CI l c hs ws q) {p : Nat} {h : Int} {i : In} (eq : q = p) (e : hs[p]? = some h) (ei : c.ins[p]? = some i) (d : Dn l hs q h i) : CI l c hs ws (-1) := by
  refine ⟨H.len, H.ok, H.zero, fun p' x i' ex n ei' => ?_, H.wt⟩
  rcases H.done p' x i' ex n ei' with a | a | a
  · exact .inl a
  · refine .inr (.inr ?_)
    have : p' = p := by omega
    subst this
    rw [e] at ex
    cases ex
    rw [ei] at ei'
    cases ei'
    rw [← eq]
    exact d
  · exact .inr (.inr a)
/-- What is found out at a place that is not as it must be. -/
theorem bad_here {B : Int} {l : List Co} {c : Co} {p : Nat} {q h : Int} {i : In} (r : Rc l c q h) (eq : q = p) (ei : c.ins[p]? = some i) (n : ¬ (tk i ≤ h ∧ (bare i = true → h = tk i))) : HR B l c none := by
  refine no_lo r fun lo => ?_
  obtain ⟨_, i', e', a, _, b⟩ := lo
  have : q.toNat = p := by omega
  rw [this, ei] at e'
  cases e'
  exact n ⟨a, b⟩
theorem bad_far {B : Int} {l : List Co} {c : Co} {q h : Int} (r : Rc l c q h) (n : (c.ins.length : Int) ≤ q ∨ 4096 < h) : HR B l c none := by
  refine no_lo r fun lo => ?_
  obtain ⟨h0, i', e', a, b, _⟩ := lo
  obtain ⟨hl, _⟩ := List.getElem?_eq_some_iff.1 e'
  omega
theorem bad_two {B : Int} {l : List Co} {c : Co} {hs ws : List Int} {pe : Int} (H : CI l c hs ws pe) {q : Nat} {h x : Int} (r : Rc l c q h) (e : hs[q]? = some x) (n1 : x ≠ -1) (n2 : x ≠ h) : HR B l c none := by
  rcases H.ok q x e with b | b
  · exact absurd b n1
  · exact no_eq b.2.2 r n2
/-- The beginning. -/
theorem CI.begin {l : List Co} {c : Co} (h : 0 < c.ins.length) : CI l c (rhs (List.replicate c.ins.length (-1)) 0 0) (rws (List.replicate c.ins.length (-1)) [] 0) (-1) := by
  have e0 : (List.replicate c.ins.length (-1 : Int))[0]? = some (-1) := by rw [List.getElem?_replicate, if_pos h]
  have e1 : (rhs (List.replicate c.ins.length (-1)) 0 0)[0]? = some 0 := by
    unfold rhs
    rw [if_pos e0, List.getElem?_set_self (by simpa using h)]
  have hw : rws (List.replicate c.ins.length (-1)) [] 0 = [0] := by unfold rws; rw [if_pos e0]; rfl
  rw [hw]
  refine ⟨by rw [rhs_len]; simp, fun p x e => ?_, e1, fun p x i e n ei => ?_, fun q hq => ?_⟩
  · rcases rhs_at e with e | ⟨rfl, rfl, _⟩
    · rw [List.getElem?_replicate] at e
      split at e
      · exact .inl (Option.some.inj e).symm
      · cases e
    · exact .inr ⟨by omega, by omega, .zero⟩
  · rcases rhs_at e with e | ⟨rfl, rfl, _⟩
    · rw [List.getElem?_replicate] at e
      split at e
      · exact absurd (Option.some.inj e).symm n
      · cases e
    · exact .inl (by simp)
  · simp at hq
    exact ⟨0, hq, 0, e1, by omega⟩
end Go.Proofs.YtodpdnidinnjjaaDoor.Cd
