/- Layer 5: a folded expression is worth, at all values, what it was worth (plain). -/
/- Layer 5: folded is worth the same (plain), by the rules. -/
import Derived.Test.YthadpkmbbimleaaZFolZ
import Derived.Test.YthadpkmbbimleaaZFomI
namespace Go.Proofs.Ythadpkmbbimleaa
open Go.RowKit

namespace Fo
open Sx
/-- What a unary sign makes of what its operand is worth. -/
def U (n : List UInt8) (p : Int × Int) : Int × Int := if ¬ p.2 = 0 then (0, p.2) else if n = [33] then (bI (decide (p.1 = 0)), 0) else (wrap64 (-p.1), 0)
/-- What a sign makes of what its operands are worth. -/
def Bn (n : List UInt8) (p q : Int × Int) : Int × Int := if ¬ p.2 = 0 then (0, p.2) else if (n = [38, 38] ∧ p.1 = 0) ∨ (n = [124, 124] ∧ ¬ p.1 = 0) then (bI (decide (¬ p.1 = 0)), 0) else if ¬ q.2 = 0 then (0, q.2) else re p.1 n q.1
theorem wo_un (T : List UInt8 → Int × List Int) {n : List UInt8} (m : Int) (a : Ex) (h : isUn n = true) : wo T (.mk 5 n m [a]) = U n (wo T a) := by
  rw [wo, if_neg (by unfold built; simp [h]), if_neg (by decide), if_neg (by decide), if_neg (by decide), if_neg (by decide : ¬ (5 : Int) = 4)]
  rfl
theorem wo_bin (T : List UInt8 → Int × List Int) {n : List UInt8} (m : Int) (a b : Ex) (h : (isRe n || isTe n) = true) : wo T (.mk 6 n m [a, b]) = Bn n (wo T a) (wo T b) := by
  rw [wo, if_neg (by unfold built; simp [h]), if_neg (by decide), if_neg (by decide), if_neg (by decide)]
  rfl
theorem re_zero {a b : Int} {s : List UInt8} (h : ¬ (re a s b).2 = 0) : (re a s b).1 = 0 := by
  unfold re at h ⊢
  repeat' split
  all_goals first | rfl | (exfalso; apply h; simp_all; done)
theorem U_zero {n : List UInt8} {p : Int × Int} (h : ¬ (U n p).2 = 0) : (U n p).1 = 0 := by
  unfold U at h ⊢
  repeat' split
  all_goals first | rfl | (exfalso; apply h; simp_all; done)
theorem Bn_zero {n : List UInt8} {p q : Int × Int} (h : ¬ (Bn n p q).2 = 0) : (Bn n p q).1 = 0 := by
  unfold Bn at h ⊢
  by_cases h1 : ¬ p.2 = 0
  · rw [if_pos h1]
  · rw [if_neg h1] at h ⊢
    by_cases h2 : (n = [38, 38] ∧ p.1 = 0) ∨ (n = [124, 124] ∧ ¬ p.1 = 0)
    · rw [if_pos h2] at h; exact absurd rfl h
    · rw [if_neg h2] at h ⊢
      by_cases h3 : ¬ q.2 = 0
      · rw [if_pos h3]
      · rw [if_neg h3] at h ⊢; exact re_zero h
theorem len_one {α : Type} {l : List α} (h : l.length = 1) : ∃ a, l = [a] := by
  match l, h with
  | [a], _ => exact ⟨a, rfl⟩
theorem built_5 {n : List UInt8} {l : List Ex} (h : built 5 n l.length = true) : (∃ a, l = [a]) ∧ isUn n = true := by
  have h' : (decide (l.length = 1) && isUn n) = true := h
  rw [Bool.and_eq_true] at h'
  exact ⟨len_one (of_decide_eq_true h'.1), h'.2⟩
theorem built_6 {n : List UInt8} {l : List Ex} (h : built 6 n l.length = true) : (∃ a b, l = [a, b]) ∧ (isRe n || isTe n) = true := by
  have h' : (decide (l.length = 2) && (isRe n || isTe n)) = true := h
  rw [Bool.and_eq_true] at h'
  exact ⟨len_two (of_decide_eq_true h'.1), h'.2⟩
theorem built_4 {n : List UInt8} {l : List Ex} (h : built 4 n l.length = true) : ∃ a, l = [a] := by
  have h' : decide (l.length = 1) = true := h
  exact len_one (of_decide_eq_true h')
/-- What traps is worth 0 besides. -/
theorem wo_zero (T : List UInt8 → Int × List Int) (x : Ex) (h : ¬ (wo T x).2 = 0) : (wo T x).1 = 0 := by
  obtain ⟨k, n, m, l⟩ := x
  cases hb : built k n l.length with
  | false => rw [wo_no hb]
  | true =>
    have hb' : ¬ built k n l.length = false := by rw [hb]; simp
    by_cases k1 : k = 1
    · subst k1; rw [wo_int hb'] at h; exact absurd rfl h
    by_cases k2 : k = 2
    · subst k2; rw [wo_bool hb'] at h; exact absurd rfl h
    by_cases k3 : k = 3
    · subst k3; rw [wo_var hb'] at h; exact absurd rfl h
    by_cases k4 : k = 4
    · subst k4
      obtain ⟨a, rfl⟩ := built_4 hb
      rw [wo, if_neg hb', if_neg k1, if_neg k2, if_neg k3] at h ⊢
      by_cases h1 : ¬ (wo T a).2 = 0
      · rw [if_pos h1]
      · rw [if_neg h1, if_pos rfl] at h ⊢
        split at h
        · exact absurd rfl h
        · rename_i c; rw [if_neg c]
    by_cases k5 : k = 5
    · subst k5
      obtain ⟨⟨a, rfl⟩, hu⟩ := built_5 hb
      rw [wo_un T m a hu] at h ⊢
      exact U_zero h
    by_cases k6 : k = 6
    · subst k6
      obtain ⟨⟨a, b, rfl⟩, hu⟩ := built_6 hb
      rw [wo_bin T m a b hu] at h ⊢
      exact Bn_zero h
    · unfold built at hb
      rw [if_neg k1, if_neg k2, if_neg k3, if_neg k4, if_neg k5, if_neg k6] at hb
      cases hb
theorem bI_bit (b : Bool) : bI b = 0 ∨ bI b = 1 := by cases b <;> simp [bI]
theorem re_bit {a b : Int} {s : List UInt8} (h : isTe s = true) : (re a s b).1 = 0 ∨ (re a s b).1 = 1 := by
  unfold isTe at h
  simp only [Bool.or_eq_true, decide_eq_true_eq] at h
  rcases h with ((((rfl | rfl) | rfl) | rfl) | rfl) | rfl <;> exact bI_bit _
theorem Bn_bit {n : List UInt8} {p q : Int × Int} (h : isTe n = true) : (Bn n p q).1 = 0 ∨ (Bn n p q).1 = 1 := by
  unfold Bn
  split
  · exact .inl rfl
  · split
    · exact bI_bit _
    · split
      · exact .inl rfl
      · exact re_bit h
/-- What is true or false by its form is worth 0 or 1. -/
theorem tof_bit (T : List UInt8 → Int × List Int) {x : Ex} (h : tof x = true) : (wo T x).1 = 0 ∨ (wo T x).1 = 1 := by
  obtain ⟨k, n, m, l⟩ := x
  unfold tof bu kd nm at h
  rw [Bool.and_eq_true] at h
  obtain ⟨hb, h⟩ := h
  have hb : built k n l.length = true := hb
  have hb' : ¬ built k n l.length = false := by rw [hb]; simp
  rw [Bool.or_eq_true, Bool.or_eq_true] at h
  rcases h with (h | h) | h
  · have k2 : k = 2 := by simpa using h
    subst k2
    rw [wo_bool hb']
    exact bI_bit _
  · unfold isU kd nm at h
    rw [Bool.and_eq_true, Bool.and_eq_true] at h
    have k5 : k = 5 := by simpa using h.1.2
    have hn : n = [33] := by simpa using h.2
    subst k5 hn
    obtain ⟨⟨a, rfl⟩, hu⟩ := built_5 hb
    rw [wo_un T m a hu]
    unfold U
    split
    · exact .inl rfl
    · rw [if_pos rfl]; exact bI_bit _
  · rw [Bool.and_eq_true] at h
    have k6 : k = 6 := by simpa using h.1
    subst k6
    obtain ⟨⟨a, b, rfl⟩, hu⟩ := built_6 hb
    rw [wo_bin T m a b hu]
    exact Bn_bit h.2
theorem isU_shape {s : List UInt8} {x : Ex} (h : isU s x = true) : ∃ m a, x = .mk 5 s m [a] ∧ isUn s = true := by
  obtain ⟨k, n, m, l⟩ := x
  unfold isU bu kd nm at h
  rw [Bool.and_eq_true, Bool.and_eq_true] at h
  have k5 : k = 5 := by simpa using h.1.2
  have hn : n = s := by simpa using h.2
  subst k5 hn
  obtain ⟨⟨a, rfl⟩, hu⟩ := built_5 h.1.1
  exact ⟨m, a, rfl, hu⟩
theorem isT_shape {s : List UInt8} {x : Ex} (h : isT s x = true) : ∃ m a b, x = .mk 6 s m [a, b] ∧ (isRe s || isTe s) = true := by
  obtain ⟨k, n, m, l⟩ := x
  unfold isT bu kd nm at h
  rw [Bool.and_eq_true, Bool.and_eq_true] at h
  have k6 : k = 6 := by simpa using h.1.2
  have hn : n = s := by simpa using h.2
  subst k6 hn
  obtain ⟨⟨a, b, rfl⟩, hu⟩ := built_6 h.1.1
  exact ⟨m, a, b, rfl, hu⟩
theorem isW_worth (T : List UInt8 → Int × List Int) {v : Int} {x : Ex} (h : isW v x = true) : wo T x = (v, 0) := by
  obtain ⟨k, n, m, l⟩ := x
  unfold isW bu kd nu at h
  rw [Bool.and_eq_true, Bool.and_eq_true] at h
  have k1 : k = 1 := by simpa using h.1.2
  have hm : m = v := by simpa using h.2
  subst k1 hm
  exact wo_int (by rw [show built 1 n l.length = true from h.1.1]; simp)
theorem isB_worth (T : List UInt8 → Int × List Int) {v : Int} {x : Ex} (h : isB v x = true) : wo T x = (bI (decide (v = 1)), 0) ∧ nu x = v := by
  obtain ⟨k, n, m, l⟩ := x
  unfold isB bu kd nu at h
  rw [Bool.and_eq_true, Bool.and_eq_true] at h
  have k2 : k = 2 := by simpa using h.1.2
  have hm : m = v := by simpa using h.2
  subst k2 hm
  exact ⟨wo_bool (by rw [show built 2 n l.length = true from h.1.1]; simp), rfl⟩
theorem above_worth (T : List UInt8 → Int × List Int) {x : Ex} (h : above x = true) : wo T x = (nu x, 0) := by
  obtain ⟨k, n, m, l⟩ := x
  unfold above at h
  rw [Bool.and_eq_true, Bool.and_eq_true] at h
  have k1 : k = 1 := of_decide_eq_true h.1.2
  subst k1
  exact wo_int (by rw [h.1.1]; simp)
/-- Constants are worth the same at all values. -/
theorem cn_worth (T : List UInt8 → Int × List Int) {x : Ex} (h : cn x = true) : wo T x = wo T0 x := by
  unfold cn at h
  rw [Bool.or_eq_true, Bool.or_eq_true] at h
  have bel : ∀ y, isBel y = true → wo T y = wo T0 y := by
    intro y hy
    unfold isBel at hy
    rw [Bool.and_eq_true] at hy
    obtain ⟨m, a, rfl, hu⟩ := isU_shape hy.1
    have ha : above a = true := hy.2
    rw [wo_un T m a hu, wo_un T0 m a hu, above_worth T ha, above_worth T0 ha]
  rcases h with (h | h) | h
  · obtain ⟨k, n, m, l⟩ := x
    unfold isP bu kd at h
    rw [Bool.and_eq_true, Bool.or_eq_true] at h
    have hb' : ¬ built k n l.length = false := by rw [show built k n l.length = true from h.1]; simp
    rcases h.2 with h | h
    · have k1 : k = 1 := by simpa using h
      subst k1
      rw [wo_int hb', wo_int hb']
    · have k2 : k = 2 := by simpa using h
      subst k2
      rw [wo_bool hb', wo_bool hb']
  · exact bel x h
  · unfold isLe at h
    rw [Bool.and_eq_true, Bool.and_eq_true, Bool.and_eq_true] at h
    obtain ⟨m, a, b, rfl, hu⟩ := isT_shape h.1
    have h1 : isBel a = true := h.2.1.1
    have h2 : isW 1 b = true := h.2.2
    rw [wo_bin T m a b hu, wo_bin T0 m a b hu, bel a h1, isW_worth T h2, isW_worth T0 h2]
theorem lit_worth (T : List UInt8 → Int × List Int) (n : Int) (h : I64 n) : wo T (lit n) = (n, 0) := by
  unfold lit
  split
  · rename_i e
    subst e
    rw [wo_bin T 0 _ _ (by decide), wo_un T 0 _ (by decide), wo_int (by decide), wo_int (by decide)]
    kernel_rfl
  · split
    · rename_i e0 e
      rw [wo_un T 0 _ (by decide), wo_int (by decide)]
      have hw : wrap64 (-(-n)) = n := by rw [Int.neg_neg]; exact Pl.w_id n h.1 h.2
      unfold U
      rw [if_neg (by simp), if_neg (by decide)]
      show (wrap64 (-(-n)), (0 : Int)) = _
      rw [hw]
    · exact wo_int (by decide)
theorem U_same {n : List UInt8} {p : Int × Int} : U n p = U n p := rfl
end Fo
end Go.Proofs.Ythadpkmbbimleaa

namespace Go.Proofs.Ythadpkmbbimleaa
open Go.RowKit

namespace Fo
open Sx
theorem pair_trap {T : List UInt8 → Int × List Int} {x : Ex} (h : ¬ (wo T x).2 = 0) : ((0 : Int), (wo T x).2) = wo T x := by
  rw [← wo_zero T x h]
theorem pair_ok {T : List UInt8 → Int × List Int} {x : Ex} (h : (wo T x).2 = 0) : ((wo T x).1, (0 : Int)) = wo T x := by
  rw [← h]
theorem kn_worth {T : List UInt8 → Int × List Int} {k : Int} {n : List UInt8} {m : Int} {l : List Ex} {y : Ex} (hb : built k n l.length = true) (hk : k = 5 ∨ k = 6) (hr : Rg (.mk k n m l)) (e : kn (.mk k n m l) = some y) : wo T y = wo T (.mk k n m l) := by
  unfold kn at e
  split at e
  · rename_i c
    injection e with e
    obtain ⟨c1, c2⟩ := c
    have hall : ∀ a, a ∈ l → wo T a = wo T0 a := fun a ha => cn_worth T (List.all_eq_true.1 c1 a ha)
    have hsame : wo T (.mk k n m l) = wo T0 (.mk k n m l) := by
      rcases hk with rfl | rfl
      · obtain ⟨⟨a, rfl⟩, hu⟩ := built_5 hb
        rw [wo_un T m a hu, wo_un T0 m a hu, hall a (by simp)]
      · obtain ⟨⟨a, b, rfl⟩, hu⟩ := built_6 hb
        rw [wo_bin T m a b hu, wo_bin T0 m a b hu, hall a (by simp), hall b (by simp)]
    rw [hsame, ← e]
    split
    · rename_i ht
      rw [wo_bool (by decide)]
      have hbit := tof_bit T0 ht
      rw [← pair_ok c2]
      rcases hbit with h | h <;> rw [h] <;> rfl
    · rw [lit_worth T _ ⟨wo_rg hr, wo_top hr⟩]
      exact pair_ok c2
  · cases e
theorem su_worth {T : List UInt8 → Int × List Int} (hT : T64 T) {n : List UInt8} {m : Int} {l : List Ex} (hb : built 5 n l.length = true) (hr : Rg (.mk 5 n m l)) : wo T (su (.mk 5 n m l)) = wo T (.mk 5 n m l) := by
  obtain ⟨⟨a, rfl⟩, hu⟩ := built_5 hb
  unfold su
  split
  · rename_i c
    show wo T ((pa a).getD 0 e0) = _
    rw [Bool.or_eq_true] at c
    rcases c with c | c
    · rw [Bool.and_eq_true] at c
      have hn : n = [45] := by
        have := c.1
        unfold isU nm at this
        rw [Bool.and_eq_true] at this
        simpa using this.2
      subst hn
      obtain ⟨m', b, rfl, hu'⟩ := isU_shape (show isU [45] a = true from c.2)
      show wo T b = _
      rw [wo_un T m _ hu, wo_un T m' b hu']
      have hb64 := wo_64 hT (show Rg b from by
        cases hr with
        | mk _ _ _ _ _ _ hp =>
          have := hp _ (List.mem_singleton.2 rfl)
          cases this with
          | mk _ _ _ _ _ _ hp => exact hp _ (List.mem_singleton.2 rfl))
      by_cases h : (wo T b).2 = 0
      · have e1 : U [45] (wo T b) = (wrap64 (-(wo T b).1), 0) := by unfold U; rw [if_neg (by rw [h]; simp), if_neg (by decide)]
        rw [e1]
        unfold U
        rw [if_neg (by simp), if_neg (by decide)]
        show _ = (wrap64 (-(wrap64 (-(wo T b).1))), (0 : Int))
        have e2 : wrap64 (-(wrap64 (-(wo T b).1))) = (wo T b).1 := by
          have := hb64.1
          have := hb64.2
          unfold wrap64
          omega
        rw [e2]
        exact (pair_ok h).symm
      · have e1 : U [45] (wo T b) = (0, (wo T b).2) := by unfold U; rw [if_pos h]
        rw [e1]
        unfold U
        rw [if_pos h]
        exact (pair_trap h).symm
    · rw [Bool.and_eq_true, Bool.and_eq_true] at c
      have hn : n = [33] := by
        have := c.1.1
        unfold isU nm at this
        rw [Bool.and_eq_true] at this
        simpa using this.2
      subst hn
      obtain ⟨m', b, rfl, hu'⟩ := isU_shape (show isU [33] a = true from c.1.2)
      show wo T b = _
      have ht : tof b = true := c.2
      rw [wo_un T m _ hu, wo_un T m' b hu']
      by_cases h : (wo T b).2 = 0
      · have e1 : U [33] (wo T b) = (bI (decide ((wo T b).1 = 0)), 0) := by unfold U; rw [if_neg (by rw [h]; simp), if_pos rfl]
        rw [e1]
        unfold U
        rw [if_neg (by simp), if_pos rfl]
        rw [← pair_ok h]
        rcases tof_bit T ht with e | e <;> rw [e] <;> rfl
      · have e1 : U [33] (wo T b) = (0, (wo T b).2) := by unfold U; rw [if_pos h]
        rw [e1]
        unfold U
        rw [if_pos h]
        exact (pair_trap h).symm
  · rfl
theorem Bn_trap {n : List UInt8} {p q : Int × Int} (h : ¬ p.2 = 0) : Bn n p q = (0, p.2) := by unfold Bn; rw [if_pos h]
theorem Bn_go {n : List UInt8} {p q : Int × Int} (h : p.2 = 0) (h1 : ¬ ((n = [38, 38] ∧ p.1 = 0) ∨ (n = [124, 124] ∧ ¬ p.1 = 0))) : Bn n p q = if ¬ q.2 = 0 then (0, q.2) else re p.1 n q.1 := by unfold Bn; rw [if_neg (by rw [h]; simp), if_neg h1]
theorem Bn_hit {n : List UInt8} {p q : Int × Int} (h : p.2 = 0) (h1 : (n = [38, 38] ∧ p.1 = 0) ∨ (n = [124, 124] ∧ ¬ p.1 = 0)) : Bn n p q = (bI (decide (¬ p.1 = 0)), 0) := by unfold Bn; rw [if_neg (by rw [h]; simp), if_pos h1]
/-- The left operand is the whole: what a sign that reckons makes of it and a number that changes nothing. -/
theorem left_same {T : List UInt8 → Int × List Int} {n : List UInt8} {a : Ex} {v : Int} (hn : ¬ n = [38, 38] ∧ ¬ n = [124, 124]) (h : re (wo T a).1 n v = ((wo T a).1, 0)) : wo T a = Bn n (wo T a) (v, 0) := by
  by_cases c : (wo T a).2 = 0
  · rw [Bn_go c (by rintro (⟨e, _⟩ | ⟨e, _⟩); exact hn.1 e; exact hn.2 e), if_neg (by simp)]
    show _ = re (wo T a).1 n v
    rw [h]
    exact (pair_ok c).symm
  · rw [Bn_trap c]
    exact (pair_trap c).symm
theorem right_same {T : List UInt8 → Int × List Int} {n : List UInt8} {b : Ex} {v : Int} (hn : ¬ n = [38, 38] ∧ ¬ n = [124, 124]) (h : re v n (wo T b).1 = ((wo T b).1, 0)) : wo T b = Bn n (v, 0) (wo T b) := by
  rw [Bn_go rfl (by rintro (⟨e, _⟩ | ⟨e, _⟩); exact hn.1 e; exact hn.2 e)]
  by_cases c : (wo T b).2 = 0
  · rw [if_neg (by rw [c]; simp)]
    show _ = re v n (wo T b).1
    rw [h]
    exact (pair_ok c).symm
  · rw [if_pos c]
    exact (pair_trap c).symm
theorem st_worth {T : List UInt8 → Int × List Int} (hT : T64 T) {n : List UInt8} {m : Int} {l : List Ex} (hb : built 6 n l.length = true) (hr : Rg (.mk 6 n m l)) : wo T (st (.mk 6 n m l)) = wo T (.mk 6 n m l) := by
  obtain ⟨⟨a, b, rfl⟩, hu⟩ := built_6 hb
  have hpp : Rg a ∧ Rg b := by
    cases hr with
    | mk _ _ _ _ _ _ hp => exact ⟨hp _ (by simp), hp _ (by simp)⟩
  have ha := wo_64 hT hpp.1
  have hb6 := wo_64 hT hpp.2
  rw [wo_bin T m a b hu]
  have r0 : (pa (.mk 6 n m [a, b])).getD 0 e0 = a := rfl
  have r1 : (pa (.mk 6 n m [a, b])).getD 1 e0 = b := rfl
  have rn : nm (.mk 6 n m [a, b]) = n := rfl
  have rx : wo T (.mk 6 n m [a, b]) = Bn n (wo T a) (wo T b) := wo_bin T m a b hu
  unfold st
  rw [r0, r1, rn]
  by_cases n1 : n = [38, 38]
  · subst n1
    rw [if_pos rfl]
    by_cases c1 : isB 0 a = true
    · obtain ⟨e1, e2⟩ := isB_worth T c1
      rw [if_pos c1, e2, wo_bool (by decide), Bn_hit (by rw [e1]) (.inl ⟨rfl, by rw [e1]; rfl⟩), e1]
      rfl
    · rw [if_neg c1]
      by_cases c2 : (isB 1 a && tof b) = true
      · rw [if_pos c2]
        rw [Bool.and_eq_true] at c2
        have e1 : wo T a = (1, 0) := (isB_worth T c2.1).1
        rw [e1, Bn_go rfl (by rintro (⟨_, e⟩ | ⟨e, _⟩); exact absurd e (by decide); exact absurd e (by decide))]
        by_cases c : (wo T b).2 = 0
        · rw [if_neg (by rw [c]; simp), ← pair_ok c]
          rcases tof_bit T c2.2 with e | e <;> rw [e] <;> rfl
        · rw [if_pos c]; exact (pair_trap c).symm
      · rw [if_neg c2]
        by_cases c3 : (isB 1 b && tof a) = true
        · rw [if_pos c3]
          rw [Bool.and_eq_true] at c3
          have e1 : wo T b = (1, 0) := (isB_worth T c3.1).1
          rw [e1]
          by_cases c : (wo T a).2 = 0
          · rcases tof_bit T c3.2 with e | e
            · rw [Bn_hit c (.inl ⟨rfl, e⟩), ← pair_ok c, e]; rfl
            · rw [Bn_go c (by rintro (⟨_, e'⟩ | ⟨e', _⟩); rw [e] at e'; exact absurd e' (by decide); exact absurd e' (by decide)), if_neg (by simp), ← pair_ok c, e]; rfl
          · rw [Bn_trap c]; exact (pair_trap c).symm
        · rw [if_neg c3]; exact rx
  rw [if_neg n1]
  by_cases n2 : n = [124, 124]
  · subst n2
    rw [if_pos rfl]
    by_cases c1 : isB 1 a = true
    · obtain ⟨e1, e2⟩ := isB_worth T c1
      rw [if_pos c1, e2, wo_bool (by decide), Bn_hit (by rw [e1]) (.inr ⟨rfl, by rw [e1]; decide⟩), e1]
      rfl
    · rw [if_neg c1]
      by_cases c2 : (isB 0 a && tof b) = true
      · rw [if_pos c2]
        rw [Bool.and_eq_true] at c2
        have e1 : wo T a = (0, 0) := (isB_worth T c2.1).1
        rw [e1, Bn_go rfl (by rintro (⟨e, _⟩ | ⟨_, e⟩); exact absurd e (by decide); exact absurd rfl e)]
        by_cases c : (wo T b).2 = 0
        · rw [if_neg (by rw [c]; simp), ← pair_ok c]
          rcases tof_bit T c2.2 with e | e <;> rw [e] <;> rfl
        · rw [if_pos c]; exact (pair_trap c).symm
      · rw [if_neg c2]
        by_cases c3 : (isB 0 b && tof a) = true
        · rw [if_pos c3]
          rw [Bool.and_eq_true] at c3
          have e1 : wo T b = (0, 0) := (isB_worth T c3.1).1
          rw [e1]
          by_cases c : (wo T a).2 = 0
          · rcases tof_bit T c3.2 with e | e
            · rw [Bn_go c (by rintro (⟨e', _⟩ | ⟨_, e'⟩); exact absurd e' (by decide); exact e' e), if_neg (by simp), ← pair_ok c, e]; rfl
            · rw [Bn_hit c (.inr ⟨rfl, by rw [e]; decide⟩), ← pair_ok c, e]; rfl
          · rw [Bn_trap c]; exact (pair_trap c).symm
        · rw [if_neg c3]; exact rx
  rw [if_neg n2]
  by_cases n3 : n = [43]
  · subst n3
    rw [if_pos rfl]
    by_cases c1 : isW 0 b = true
    · rw [if_pos c1, isW_worth T c1]
      exact left_same ⟨n1, n2⟩ (by show (wrap64 ((wo T a).1 + 0), (0 : Int)) = _; rw [Int.add_zero, Pl.w_id _ ha.1 ha.2])
    · rw [if_neg c1]
      by_cases c2 : isW 0 a = true
      · rw [if_pos c2, isW_worth T c2]
        exact right_same ⟨n1, n2⟩ (by show (wrap64 (0 + (wo T b).1), (0 : Int)) = _; rw [Int.zero_add, Pl.w_id _ hb6.1 hb6.2])
      · rw [if_neg c2]; exact rx
  rw [if_neg n3]
  by_cases n4 : n = [45]
  · subst n4
    rw [if_pos rfl]
    by_cases c1 : isW 0 b = true
    · rw [if_pos c1, isW_worth T c1]
      exact left_same ⟨n1, n2⟩ (by show (wrap64 ((wo T a).1 - 0), (0 : Int)) = _; rw [Int.sub_zero, Pl.w_id _ ha.1 ha.2])
    · rw [if_neg c1]; exact rx
  rw [if_neg n4]
  by_cases n5 : n = [42]
  · subst n5
    rw [if_pos rfl]
    by_cases c1 : isW 1 b = true
    · rw [if_pos c1, isW_worth T c1]
      exact left_same ⟨n1, n2⟩ (by show (wrap64 ((wo T a).1 * 1), (0 : Int)) = _; rw [Int.mul_one, Pl.w_id _ ha.1 ha.2])
    · rw [if_neg c1]
      by_cases c2 : isW 1 a = true
      · rw [if_pos c2, isW_worth T c2]
        exact right_same ⟨n1, n2⟩ (by show (wrap64 (1 * (wo T b).1), (0 : Int)) = _; rw [Int.one_mul, Pl.w_id _ hb6.1 hb6.2])
      · rw [if_neg c2]; exact rx
  rw [if_neg n5]
  by_cases n6 : n = [47]
  · subst n6
    rw [if_pos rfl]
    by_cases c1 : isW 1 b = true
    · rw [if_pos c1, isW_worth T c1]
      exact left_same ⟨n1, n2⟩ (by show (wrap64 ((wo T a).1.tdiv 1), (0 : Int)) = _; rw [Int.tdiv_one, Pl.w_id _ ha.1 ha.2])
    · rw [if_neg c1]; exact rx
  rw [if_neg n6]
  exact rx
theorem sm_worth {T : List UInt8 → Int × List Int} (hT : T64 T) {k : Int} {n : List UInt8} {m : Int} {l : List Ex} (hb : built k n l.length = true) (hr : Rg (.mk k n m l)) : wo T (sm (.mk k n m l)) = wo T (.mk k n m l) := by
  by_cases h5 : k = 5
  · subst h5
    rw [sm_un]
    cases e : kn (.mk 5 n m l) with
    | some y => exact kn_worth hb (.inl rfl) hr e
    | none => exact su_worth hT hb hr
  · by_cases h6 : k = 6
    · subst h6
      rw [sm_bin]
      cases e : kn (.mk 6 n m l) with
      | some y => exact kn_worth hb (.inr rfl) hr e
      | none => exact st_worth hT hb hr
    · rw [sm_other h5 h6]
/-- What an expression is worth hangs on what its parts are worth. -/
theorem wo_map (T : List UInt8 → Int × List Int) {f : Ex → Ex} {k : Int} {n : List UInt8} {m : Int} {l : List Ex} (hb : built k n l.length = true) (h : ∀ x, x ∈ l → wo T (f x) = wo T x) : wo T (.mk k n m (l.map f)) = wo T (.mk k n m l) := by
  have hl : (l.map f).length = l.length := List.length_map _
  have hb' : ¬ built k n l.length = false := by rw [hb]; simp
  have hb2 : ¬ built k n (l.map f).length = false := by rw [hl, hb]; simp
  by_cases k1 : k = 1
  · subst k1; rw [wo_int hb', wo_int hb2]
  by_cases k2 : k = 2
  · subst k2; rw [wo_bool hb', wo_bool hb2]
  by_cases k3 : k = 3
  · subst k3; rw [wo_var hb', wo_var hb2]
  by_cases k4 : k = 4
  · subst k4
    obtain ⟨a, rfl⟩ := built_4 hb
    have ea := h a (by simp)
    show wo T (.mk 4 n m [f a]) = _
    rw [wo, wo, if_neg (by exact hb2), if_neg hb', ea]
  by_cases k5 : k = 5
  · subst k5
    obtain ⟨⟨a, rfl⟩, hu⟩ := built_5 hb
    show wo T (.mk 5 n m [f a]) = _
    rw [wo_un T m _ hu, wo_un T m _ hu, h a (by simp)]
  by_cases k6 : k = 6
  · subst k6
    obtain ⟨⟨a, b, rfl⟩, hu⟩ := built_6 hb
    show wo T (.mk 6 n m [f a, f b]) = _
    rw [wo_bin T m _ _ hu, wo_bin T m _ _ hu, h a (by simp), h b (by simp)]
  · unfold built at hb
    rw [if_neg k1, if_neg k2, if_neg k3, if_neg k4, if_neg k5, if_neg k6] at hb
    cases hb
/-- A folded expression is worth what it was worth. -/
theorem fo_worth {T : List UInt8 → Int × List Int} (hT : T64 T) {x : Ex} (h : Rg x) : wo T (fo x) = wo T x := by
  induction h with
  | mk k n m l h0 h1 hp ih =>
    rw [fo]
    split
    · rename_i hb
      rw [fos_map]
      have hl : (l.map fo).length = l.length := List.length_map _
      rw [sm_worth hT (by rw [hl]; exact hb) (.mk _ _ _ _ h0 h1 fun y hy => by
        obtain ⟨z, hz, rfl⟩ := List.mem_map.1 hy
        exact fo_rg (hp z hz))]
      exact wo_map T hb ih
    · rfl
end Fo
end Go.Proofs.Ythadpkmbbimleaa
