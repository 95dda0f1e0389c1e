/- Scan's tokens, as a row that is built token by token (plain); blanks put in at a token's place change only places. -/
import Derived.Test.YtlhklpnkelcnbaaGreatDoorScanCut
namespace Go.Proofs.YtlhklpnkelcnbaaGreatDoor.Lx
open Go.RowKit

/-- S: the tokens of l from the place x on, with their places. -/
inductive Toks (l : List UInt8) : Nat → List (Tk × Nat) → Prop
  | done (x : Nat) (t : Tk) (n : Nat) (hf : first (l.drop (skip l x)) = some (t, n)) (hk : t.kind = 0) : Toks l x [(t, skip l x)]
  | more (x : Nat) (t : Tk) (n : Nat) (S : List (Tk × Nat)) (hf : first (l.drop (skip l x)) = some (t, n)) (hk : ¬ t.kind = 0) (h : Toks l (skip l x + n) S) : Toks l x ((t, skip l x) :: S)

theorem first_in {l : List UInt8} {x n : Nat} {t : Tk} (hx : x ≤ l.length) (hf : first (l.drop (skip l x)) = some (t, n)) (hk : ¬ t.kind = 0) : x ≤ skip l x ∧ 1 ≤ n ∧ skip l x + n ≤ l.length := by
  have h1 := skip_le l x hx
  refine ⟨Nat.le_add_right _ _, ?_⟩
  rcases first_len hf with ⟨_, h, _⟩ | ⟨_, h, h'⟩
  · exact absurd (by rw [h]) hk
  · rw [List.length_drop] at h'; exact ⟨h, by omega⟩
theorem first_end {l : List UInt8} {x n : Nat} {t : Tk} (hx : x ≤ l.length) (hf : first (l.drop (skip l x)) = some (t, n)) (hk : t.kind = 0) : skip l x = l.length ∧ t = ⟨0, [], 0⟩ := by
  have h1 := skip_le l x hx
  rcases first_len hf with ⟨h, h2, _⟩ | ⟨h, _⟩
  · have := congrArg List.length h
    rw [List.length_drop] at this
    simp at this
    exact ⟨by omega, h2⟩
  · exact absurd hk h
theorem Toks.len {l : List UInt8} {x : Nat} {S : List (Tk × Nat)} (h : Toks l x S) : x ≤ l.length → S.length + x ≤ l.length + 1 := by
  induction h with
  | done x t n hf hk => intro hx; simp; omega
  | more x t n S hf hk h ih =>
    intro hx
    have := first_in hx hf hk
    have := ih (by omega)
    simp; omega
theorem Toks.ne {l : List UInt8} {x : Nat} {S : List (Tk × Nat)} (h : Toks l x S) : S ≠ [] := by cases h <;> simp
theorem Toks.ge {l : List UInt8} {x : Nat} {S : List (Tk × Nat)} (h : Toks l x S) : x ≤ l.length → ∀ y ∈ S, x ≤ y.2 ∧ y.2 ≤ l.length := by
  induction h with
  | done x t n hf hk =>
    intro hx y hy
    simp at hy; subst hy
    exact ⟨Nat.le_add_right _ _, skip_le l x hx⟩
  | more x t n S hf hk h ih =>
    intro hx y hy
    have h1 := first_in hx hf hk
    rcases List.mem_cons.1 hy with rfl | hy
    · exact ⟨h1.1, by omega⟩
    · have := ih (by omega) y hy
      omega
theorem toks_of_scan (l : List UInt8) : ∀ (f x : Nat) (ts R : List (Tk × Nat)), x ≤ l.length → l.length < f + x → ts.length ≤ 4000 → scanF l f x ts = (R, 0, 0) → ∃ S, R = ts ++ S ∧ Toks l x S ∧ ts.length + S.length ≤ 4000
  | 0, x, ts, R, h1, h2, _, _ => absurd h2 (by omega)
  | f + 1, x, ts, R, h1, h2, h3, h => by
    rw [scanF] at h
    cases hF : first (l.drop (skip l x)) with
    | none => rw [hF] at h; simp at h
    | some y =>
      obtain ⟨t, n⟩ := y
      rw [hF] at h
      simp only at h
      by_cases h4 : ts.length = 4000
      · rw [if_pos h4] at h; simp at h
      · rw [if_neg h4] at h
        by_cases hk : t.kind = 0
        · rw [if_pos hk] at h
          refine ⟨[(t, skip l x)], (Prod.ext_iff.1 h).1.symm, .done x t n hF hk, by simp; omega⟩
        · rw [if_neg hk] at h
          have := first_in h1 hF hk
          obtain ⟨S, hS, hT, hl⟩ := toks_of_scan l f _ _ R (by omega) (by omega) (by simp; omega) h
          refine ⟨(t, skip l x) :: S, by rw [hS]; simp, .more x t n S hF hk hT, ?_⟩
          simp at hl ⊢; omega
theorem scan_of_toks {l : List UInt8} {x : Nat} {S : List (Tk × Nat)} (h : Toks l x S) : ∀ (f : Nat) (ts : List (Tk × Nat)), S.length ≤ f → ts.length + S.length ≤ 4000 → scanF l f x ts = (ts ++ S, 0, 0) := by
  induction h with
  | done x t n hf hk =>
    intro f ts h1 h2
    simp at h1 h2
    obtain ⟨f, rfl⟩ : ∃ g, f = g + 1 := ⟨f - 1, by omega⟩
    rw [scanF, hf]
    simp only
    rw [if_neg (by omega), if_pos hk]
  | more x t n S hf hk h ih =>
    intro f ts h1 h2
    simp at h1 h2
    obtain ⟨f, rfl⟩ : ∃ g, f = g + 1 := ⟨f - 1, by omega⟩
    rw [scanF, hf]
    simp only
    rw [if_neg (by omega), if_neg hk, ih f _ (by omega) (by simp; omega)]
    simp
theorem scan_toks {l : List UInt8} {R : List (Tk × Nat)} (h : scan l = (R, 0, 0)) : Toks l 0 R ∧ R.length ≤ 4000 := by
  unfold scan at h
  split at h
  · simp at h
  · obtain ⟨S, hS, hT, hl⟩ := toks_of_scan l _ 0 [] R (by omega) (by omega) (by simp) h
    rw [List.nil_append] at hS
    subst hS
    exact ⟨hT, by simpa using hl⟩
theorem toks_scan {l : List UInt8} {S : List (Tk × Nat)} (hl : l.length ≤ 16384) (h : Toks l 0 S) (h4 : S.length ≤ 4000) : scan l = (S, 0, 0) := by
  have := h.len (Nat.zero_le _)
  unfold scan
  rw [if_neg (by omega), scan_of_toks h _ [] (by omega) (by simpa using h4)]
  simp

/-- A byte that ends any token. -/
def cutB (c : UInt8) : Prop := c = 32 ∨ c = 10 ∨ c = 35
theorem cutB.inn {c : UInt8} (h : cutB c) : inn1 c.toNat = false := by rcases h with rfl | rfl | rfl <;> decide
theorem cutB.dig {c : UInt8} (h : cutB c) : dig1 c.toNat = false := by rcases h with rfl | rfl | rfl <;> decide
theorem cutB.lett {c : UInt8} (h : cutB c) : let1 c.toNat = false := by rcases h with rfl | rfl | rfl <;> decide
theorem run_app {p : Nat → Bool} {c : UInt8} {y : List UInt8} (hc : p c.toNat = false) : ∀ x : List UInt8, run p (x ++ c :: y) = run p x
  | [] => by simp [run, hc]
  | d :: x => by
    rw [List.cons_append]
    unfold run
    rw [run_app hc x]
theorem take_app {x y : List UInt8} {n : Nat} (h : n ≤ x.length) : (x ++ y).take n = x.take n := by
  rw [List.take_append_of_le_length h]
theorem letAt_app {c : UInt8} {y : List UInt8} (hc : let1 c.toNat = false) {x : List UInt8} {k : Nat} (hk : k ≤ x.length) (h : letAt x k = false) : letAt (x ++ c :: y) k = false := by
  unfold letAt at *
  by_cases e : k < x.length
  · rw [List.getElem?_append_left e]; exact h
  · obtain rfl : k = x.length := by omega
    rw [List.getElem?_append_right (Nat.le_refl _), Nat.sub_self]
    exact hc
theorem two_ok : ∀ g ∈ signs, ∀ c : UInt8, cutB c → ¬ c ∈ g := by
  intro g hg c hc hm
  rcases hc with rfl | rfl | rfl <;> revert hm <;> revert g <;> decide
theorem pref_app {g x y : List UInt8} {c : UInt8} (hg : g ∈ signs) (hc : cutB c) : g.isPrefixOf (x ++ c :: y) = g.isPrefixOf x := by
  rw [Bool.eq_iff_iff, List.isPrefixOf_iff_prefix, List.isPrefixOf_iff_prefix]
  constructor
  · intro hp
    by_cases hl : g.length ≤ x.length
    · exact List.prefix_of_prefix_length_le hp (List.prefix_append _ _) hl
    · exfalso
      refine two_ok g hg c hc ?_
      have h1 : (x ++ [c]) <+: g := by
        refine List.prefix_of_prefix_length_le (l₃ := x ++ c :: y) ?_ hp (by simp; omega)
        exact ⟨y, by simp⟩
      exact h1.subset (by simp)
  · exact fun hp => hp.trans (List.prefix_append _ _)
theorem find_congr {α : Type} {p q : α → Bool} : ∀ {L : List α}, (∀ a ∈ L, p a = q a) → L.find? p = L.find? q
  | [], _ => rfl
  | a :: L, h => by
    rw [List.find?_cons, List.find?_cons, h a (by simp), find_congr (fun b hb => h b (by simp [hb]))]
theorem signBy_app {x y : List UInt8} {c : UInt8} (hc : cutB c) (n : Nat) : signBy n (x ++ c :: y) = signBy n x := by
  unfold signBy
  exact find_congr fun g hg => by rw [pref_app hg hc]
theorem first_app {x y : List UInt8} {c : UInt8} {t : Tk} {n : Nat} (hc : cutB c) (hx : x ≠ []) (h : first x = some (t, n)) : first (x ++ c :: y) = some (t, n) := by
  cases x with
  | nil => exact absurd rfl hx
  | cons d r =>
    have h' : (if let1 d.toNat then fword (d :: r) else if dig1 d.toNat then fint (d :: r) else fsign (d :: r)) = some (t, n) := h
    rw [List.cons_append]
    show (if let1 d.toNat then fword (d :: (r ++ c :: y)) else if dig1 d.toNat then fint (d :: (r ++ c :: y)) else fsign (d :: (r ++ c :: y))) = some (t, n)
    rw [← List.cons_append]
    by_cases c1 : let1 d.toNat
    · rw [if_pos c1] at h' ⊢
      unfold fword at h' ⊢
      rw [run_app hc.inn, take_app (run_le _ _)]
      exact h'
    · rw [if_neg c1] at h' ⊢
      by_cases c2 : dig1 d.toNat
      · rw [if_pos c2] at h' ⊢
        unfold fint at h' ⊢
        rw [run_app hc.dig, take_app (run_le _ _)]
        cases hp : Pl.parse ((d :: r).take (run dig1 (d :: r))) with
        | none => rw [hp] at h'; cases h'
        | some v =>
          rw [hp] at h'
          simp only at h' ⊢
          cases hl : letAt (d :: r) (run dig1 (d :: r)) with
          | true => rw [hl] at h'; simp at h'
          | false => rw [hl] at h'; rw [letAt_app hc.lett (run_le _ _) hl]; exact h'
      · rw [if_neg c2] at h' ⊢
        unfold fsign at h' ⊢
        rw [signBy_app hc, signBy_app hc]
        exact h'

theorem blank_part {y : List UInt8} : ∀ (x : List UInt8) (rem : Bool), blank rem x < x.length → blank rem (x ++ y) = blank rem x
  | [], _, h => by simp at h
  | c :: x, rem, h => by
    rw [List.cons_append]
    unfold blank at h ⊢
    split
    · rename_i h1
      rw [if_pos h1] at h
      rw [blank_part x false (by simpa using h)]
    · rename_i h1
      rw [if_neg h1] at h
      split
      · rename_i h2
        rw [if_pos h2] at h
        rw [blank_part x true (by simpa using h)]
      · rename_i h2
        rw [if_neg h2] at h
        split
        · rfl
        · rename_i h3
          rw [if_neg h3] at h
          rw [blank_part x rem (by simpa using h)]
theorem blank_all : ∀ (x : List UInt8) (rem : Bool), blank rem x = x.length → ∃ r, ∀ z, blank rem (x ++ z) = x.length + blank r z
  | [], rem, _ => ⟨rem, fun z => by simp⟩
  | c :: x, rem, h => by
    unfold blank at h
    split at h
    · rename_i h1
      obtain ⟨r, hr⟩ := blank_all x false (by simpa using h)
      refine ⟨r, fun z => ?_⟩
      rw [List.cons_append, blank, if_pos h1, hr, List.length_cons]; omega
    · rename_i h1
      split at h
      · rename_i h2
        obtain ⟨r, hr⟩ := blank_all x true (by simpa using h)
        refine ⟨r, fun z => ?_⟩
        rw [List.cons_append, blank, if_neg h1, if_pos h2, hr, List.length_cons]; omega
      · rename_i h2
        split at h
        · simp at h
        · rename_i h3
          obtain ⟨r, hr⟩ := blank_all x rem (by simpa using h)
          refine ⟨r, fun z => ?_⟩
          rw [List.cons_append, blank, if_neg h1, if_neg h2, if_neg h3, hr, List.length_cons]; omega
theorem blank_nil (r : Bool) : blank r [] = 0 := rfl
theorem blank_zero {r : Bool} {z : List UInt8} (h : blank r z = 0) : blank false z = 0 := by
  cases z with
  | nil => rfl
  | cons c t =>
    unfold blank at h ⊢
    split at h
    · simp at h
    · rename_i h1
      split at h
      · simp at h
      · rename_i h2
        split at h
        · rename_i h3
          rw [if_neg h1, if_neg h2, if_pos ⟨h3.1, rfl⟩]
        · simp at h

/-- What may be put in: blanks, whole remarks. -/
structure More (m : List UInt8) : Prop where
  blanks : ∀ r z, blank r z = 0 → blank r (m ++ z) = m.length
  head : ∃ c t, m = c :: t ∧ cutB c
theorem more0 : More [32] := ⟨fun r z h => by cases r <;> simp [blank, h], _, _, rfl, .inl rfl⟩
theorem more1 : More [10] := ⟨fun r z h => by cases r <;> simp [blank, blank_zero h], _, _, rfl, .inr (.inl rfl)⟩
theorem more2 : More [32, 32, 10, 32] := ⟨fun r z h => by cases r <;> simp [blank, blank_zero h], _, _, rfl, .inl rfl⟩
theorem more3 : More [32, 35, 32, 97, 32, 34, 98, 34, 32, 49, 32, 64, 10] := ⟨fun r z h => by cases r <;> simp [blank, blank_zero h], _, _, rfl, .inl rfl⟩
theorem more4 : More [35, 10] := ⟨fun r z h => by cases r <;> simp [blank, blank_zero h], _, _, rfl, .inr (.inr rfl)⟩

section
variable {l m : List UInt8} {p : Nat}
theorem put_late (hp : p ≤ l.length) {x : Nat} (hx : p ≤ x) : (l.take p ++ (m ++ l.drop p)).drop (x + m.length) = l.drop x := by
  rw [List.drop_append, List.drop_eq_nil_of_le (by simp; omega), List.nil_append, List.length_take, List.drop_append, List.drop_eq_nil_of_le (by omega), List.nil_append, List.drop_drop]
  congr 1
  omega
theorem put_early (hp : p ≤ l.length) {x : Nat} (hx : x ≤ p) : (l.take p ++ (m ++ l.drop p)).drop x = (l.drop x).take (p - x) ++ (m ++ l.drop p) := by
  rw [List.drop_append, List.length_take, show x - min p l.length = 0 by omega, List.drop_zero, List.drop_take]
theorem skip_late (hp : p ≤ l.length) {x : Nat} (hx : p ≤ x) : skip (l.take p ++ (m ++ l.drop p)) (x + m.length) = skip l x + m.length := by
  unfold skip
  rw [put_late hp hx]; omega
theorem toks_late (hp : p ≤ l.length) {x : Nat} {S : List (Tk × Nat)} (h : Toks l x S) : p ≤ x → ∃ S', Toks (l.take p ++ (m ++ l.drop p)) (x + m.length) S' ∧ S'.map (·.1) = S.map (·.1) := by
  induction h with
  | done x t n hf hk =>
    intro hx
    have e := skip_late (m := m) hp hx
    have hx2 : p ≤ skip l x := Nat.le_trans hx (Nat.le_add_right _ _)
    refine ⟨_, .done _ t n ?_ hk, rfl⟩
    rw [e, put_late hp hx2]
    exact hf
  | more x t n S hf hk h ih =>
    intro hx
    have e := skip_late (m := m) hp hx
    have hx2 : p ≤ skip l x := Nat.le_trans hx (Nat.le_add_right _ _)
    obtain ⟨S', h1, h2⟩ := ih (by omega)
    refine ⟨_, .more _ t n S' ?_ hk ?_, by simp [h2]⟩
    · rw [e, put_late hp hx2]; exact hf
    · rw [e, show skip l x + m.length + n = skip l x + n + m.length by omega]; exact h1
theorem skip_at (hm : More m) (hp : p ≤ l.length) {x : Nat} (hx : x ≤ p) (h : skip l x = p) : skip (l.take p ++ (m ++ l.drop p)) x = p + m.length := by
  have hl : ((l.drop x).take (p - x)).length = p - x := by simp; omega
  have hb : blank false ((l.drop x).take (p - x)) = p - x := by rw [blank_take]; unfold skip at h; omega
  obtain ⟨r, hr⟩ := blank_all _ false (hb.trans hl.symm)
  have h0 : blank r (l.drop p) = 0 := by
    have h1 := hr (l.drop p)
    have e : (l.drop x).take (p - x) ++ l.drop p = l.drop x := by
      have := List.take_append_drop (p - x) (l.drop x)
      rw [List.drop_drop, show x + (p - x) = p by omega] at this
      exact this
    rw [e, hl] at h1
    unfold skip at h
    omega
  unfold skip
  rw [put_early hp hx, hr, hl, hm.blanks r _ h0]
  omega
theorem skip_before (hp : p ≤ l.length) {x : Nat} (hx : x ≤ p) (h : skip l x < p) : skip (l.take p ++ (m ++ l.drop p)) x = skip l x := by
  have hl : ((l.drop x).take (p - x)).length = p - x := by simp; omega
  have hb : blank false ((l.drop x).take (p - x)) = blank false (l.drop x) := by rw [blank_take]; unfold skip at h; omega
  unfold skip at h ⊢
  rw [put_early hp hx, blank_part _ false (by rw [hb, hl]; omega), hb]
/-- Blanks put in at the place of a token change only places. -/
theorem toks_put (hm : More m) (hp : p ≤ l.length) {x : Nat} {S : List (Tk × Nat)} (h : Toks l x S) : x ≤ p → (∃ y ∈ S, y.2 = p) → ∃ S', Toks (l.take p ++ (m ++ l.drop p)) x S' ∧ S'.map (·.1) = S.map (·.1) := by
  obtain ⟨c, mt, hm1, hc⟩ := hm.head
  induction h with
  | done x t n hf hk =>
    intro hx ⟨y, hy, e⟩
    simp at hy
    subst hy
    have e : skip l x = p := e
    have e1 := skip_at hm hp hx e
    refine ⟨_, .done _ t n ?_ hk, rfl⟩
    rw [e1, put_late hp (Nat.le_refl _)]
    rw [e] at hf; exact hf
  | more x t n S hf hk h ih =>
    intro hx ⟨y, hy, e⟩
    have hi := first_in (by omega) hf hk
    by_cases hs : skip l x = p
    · have e1 := skip_at hm hp hx hs
      rw [hs] at hf h
      obtain ⟨S', h1, h2⟩ := toks_late (m := m) hp h (by omega)
      refine ⟨_, .more _ t n S' ?_ hk ?_, by simp [h2]⟩
      · rw [e1, put_late hp (Nat.le_refl _)]; exact hf
      · rw [e1, show p + m.length + n = p + n + m.length by omega]; exact h1
    · rcases List.mem_cons.1 hy with rfl | hy
      · exact absurd e hs
      · have hge := (h.ge (by omega) y hy).1
        rw [e] at hge
        have e1 := skip_before (m := m) hp hx (show skip l x < p by omega)
        obtain ⟨S', h1, h2⟩ := ih (by omega) ⟨y, hy, e⟩
        refine ⟨_, .more _ t n S' ?_ hk ?_, by simp [h2]⟩
        · rw [e1, put_early hp (by omega), hm1, List.cons_append]
          refine first_app hc ?_ (first_take hf hk (by omega))
          intro e2
          have := congrArg List.length e2
          simp at this
          omega
        · rw [e1]; exact h1
end
end Go.Proofs.YtlhklpnkelcnbaaGreatDoor.Lx
