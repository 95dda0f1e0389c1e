/- The reference tells of a token what the program tells (plain); its Text, for every token. -/
import Derived.Test.YtdjpjoipdlfooaaDoorLexU
namespace Go.Proofs.YtdjpjoipdlfooaaDoor
open Go.RowKit

theorem rfirst_kind (l : List UInt8) : ((rfirst l).2 = 0 ∧ (rfirst l).1.kind = 0) ∨ (0 < (rfirst l).2 ∧ ((rfirst l).1.kind = 2 ∨ ((rfirst l).1.kind = 3 ∧ Lx.isKey (l.take (rfirst l).2) = true) ∨ ((rfirst l).1.kind = 1 ∧ Lx.isName (l.take (rfirst l).2) = true) ∨ ((rfirst l).1.kind = 4 ∧ Lx.isSign (l.take (rfirst l).2) = true))) := by
  unfold rfirst
  split
  · rename_i h0
    split
    · split
      · exact .inl ⟨rfl, rfl⟩
      · exact .inr ⟨h0, .inl rfl⟩
    · split
      · rename_i h
        exact .inr ⟨h0, .inr (.inl ⟨rfl, h⟩)⟩
      · split
        · rename_i h
          exact .inr ⟨h0, .inr (.inr (.inl ⟨rfl, h⟩))⟩
        · exact .inl ⟨rfl, rfl⟩
  · split
    · rename_i h
      exact .inr ⟨by simp, .inr (.inr (.inr ⟨rfl, h.2⟩))⟩
    · split
      · rename_i h
        exact .inr ⟨by simp, .inr (.inr (.inr ⟨rfl, h.2⟩))⟩
      · exact .inl ⟨rfl, rfl⟩
theorem rfirst_keys : ∀ l ∈ Lx.keys, (rfirst l).2 = l.length ∧ (rfirst l).1.kind = 3 ∧ 0 < l.length := by decide +kernel
theorem rfirst_signs : ∀ l ∈ Lx.signs, (rfirst l).2 = l.length ∧ (rfirst l).1.kind = 4 ∧ 0 < l.length := by decide +kernel
theorem let_not_dig {c : Nat} (h : Lx.let1 c = true) : Lx.dig1 c = false := by
  unfold Lx.let1 at h
  unfold Lx.dig1
  simp at h ⊢
  omega
theorem rfirst_names {l : List UInt8} (h : Lx.isName l = true) : (rfirst l).2 = l.length ∧ (rfirst l).1.kind = 1 ∧ 0 < l.length := by
  have hn := h
  unfold Lx.isName at h
  simp only [Bool.and_eq_true, Bool.not_eq_true', decide_eq_true_eq] at h
  obtain ⟨⟨⟨⟨h1, h2⟩, h3⟩, _⟩, h5⟩ := h
  have h0 : 0 < l.length := by cases l with | nil => simp at h1 | cons a b => simp
  have e : l.take (Lx.run Lx.inn1 l) = l := by rw [h3, List.take_length]
  have : rfirst l = (⟨1, l, 0⟩, l.length) := by
    unfold rfirst
    rw [if_pos (by omega), if_neg (by rw [let_not_dig h2]; exact Bool.false_ne_true), e, if_neg (by rw [h5]; exact Bool.false_ne_true), if_pos hn, h3]
  rw [this]
  exact ⟨rfl, rfl, h0⟩
theorem rok_mid (t : Lx.Tk) (p : Int) : rok t = midTk (t, p) := by
  obtain ⟨k, l, n⟩ := t
  unfold rok midTk rtk
  simp only
  have hf := rfirst_kind l
  have ht : (rfirst l).2 = l.length → l.take (rfirst l).2 = l := fun e => by rw [e, List.take_length]
  by_cases k2 : k = 2
  · subst k2
    rw [if_pos rfl, if_neg (by decide), if_neg (by decide), if_neg (by decide), if_pos rfl, Bool.and_comm]
    simp
  · rw [if_neg k2]
    by_cases k0 : k = 0
    · subst k0
      rw [if_pos rfl, Bool.eq_iff_iff]
      simp only [Bool.and_eq_true, decide_eq_true_eq, not_true_eq_false, false_and, iff_false]
      rintro ⟨⟨⟨h1, h2⟩, h3⟩, h4⟩
      omega
    · rw [if_neg k0]
      by_cases k1 : k = 1
      · subst k1
        rw [if_pos rfl, Bool.eq_iff_iff]
        simp only [Bool.and_eq_true, decide_eq_true_eq]
        constructor
        · rintro ⟨⟨⟨h1, h2⟩, h3⟩, h4⟩
          rw [ht h3] at hf
          rcases hf with h | ⟨_, h | h | h | h⟩
          · omega
          · omega
          · omega
          · exact ⟨by decide, h.2, h1⟩
          · omega
        · rintro ⟨_, h1, h2⟩
          have := rfirst_names h1
          exact ⟨⟨⟨h2, by omega⟩, this.1⟩, this.2.1⟩
      · rw [if_neg k1]
        by_cases k3 : k = 3
        · subst k3
          rw [if_pos rfl, Bool.eq_iff_iff]
          simp only [Bool.and_eq_true, decide_eq_true_eq]
          constructor
          · rintro ⟨⟨⟨h1, h2⟩, h3⟩, h4⟩
            rw [ht h3] at hf
            rcases hf with h | ⟨_, h | h | h | h⟩
            · omega
            · omega
            · exact ⟨by decide, h.2, h1⟩
            · omega
            · omega
          · rintro ⟨_, h1, h2⟩
            have := rfirst_keys l (by unfold Lx.isKey at h1; simpa using h1)
            exact ⟨⟨⟨h2, by omega⟩, this.1⟩, this.2.1⟩
        · rw [if_neg k3, if_neg k2]
          by_cases k4 : k = 4
          · subst k4
            rw [if_pos rfl, Bool.eq_iff_iff]
            simp only [Bool.and_eq_true, decide_eq_true_eq]
            constructor
            · rintro ⟨⟨⟨h1, h2⟩, h3⟩, h4⟩
              rw [ht h3] at hf
              rcases hf with h | ⟨_, h | h | h | h⟩
              · omega
              · omega
              · omega
              · omega
              · exact ⟨by decide, h.2, h1⟩
            · rintro ⟨_, h1, h2⟩
              have := rfirst_signs l (by unfold Lx.isSign at h1; simpa using h1)
              exact ⟨⟨⟨h2, by omega⟩, this.1⟩, this.2.1⟩
          · rw [if_neg k4, Bool.eq_iff_iff]
            simp only [Bool.and_eq_true, decide_eq_true_eq, Bool.false_eq_true, and_false, iff_false]
            rintro ⟨⟨⟨h1, h2⟩, h3⟩, h4⟩
            rcases hf with h | ⟨_, h | h | h | h⟩ <;> omega
/-- The reference's Text, for every token. -/
theorem rtxt_any (x : Tok) (w : World) (hs : x.1.text.length ≤ 1000000) (h0 : -9223372036854775808 ≤ x.1.num) (h1 : x.1.num ≤ 9223372036854775807) :
    Calls Tryd.prog 16 #[.agg #[.int .i64 x.1.kind, .string ⟨x.1.text.toArray⟩, .int .i64 x.1.num, .int .i64 x.2]] w fun e w' => e = .returned (.tuple #[.string ⟨(txt x).toArray⟩, .bool (midTk x)]) ∧ Below w.heap.size w w' := by
  obtain ⟨t, p⟩ := x
  rw [← rok_mid t p]
  by_cases hk : t.kind = 2
  · obtain ⟨k, l, n⟩ := t
    obtain rfl : k = 2 := hk
    exact rtxt_int l n p w h0 h1
  · have := rtxt_other t p w hk hs
    unfold txt
    rw [if_neg hk]
    exact this
end Go.Proofs.YtdjpjoipdlfooaaDoor
