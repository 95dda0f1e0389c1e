/- Texts of numbers: what is read is what was written, and the other way round. Plain mathematics. -/
import Derived.Test.YtdjpjoipdlfooaaDoorPlain
namespace Go.Proofs.YtdjpjoipdlfooaaDoor.Pl
open Go.RowKit

theorem dec_small {u : Nat} (h : u < 10) : Lib.decDigits u = [UInt8.ofNat (48 + u)] := by rw [Lib.decDigits, dif_pos h]
theorem dec_big {u : Nat} (h : ¬ u < 10) : Lib.decDigits u = Lib.decDigits (u / 10) ++ [UInt8.ofNat (48 + u % 10)] := by rw [Lib.decDigits, dif_neg h]
theorem dig_toNat {d : Nat} (h : d < 10) : (UInt8.ofNat (48 + d)).toNat = 48 + d := by
  rw [UInt8.toNat_ofNat']; omega
theorem dig_of {c : UInt8} (h1 : 48 ≤ c.toNat) : UInt8.ofNat (48 + (c.toNat - 48)) = c := by
  rw [show 48 + (c.toNat - 48) = c.toNat by omega]; exact UInt8.ofNat_toNat

theorem dec_digit : ∀ (u : Nat) (c : UInt8), c ∈ Lib.decDigits u → 48 ≤ c.toNat ∧ c.toNat ≤ 57 := by
  intro u
  induction u using Nat.strongRecOn with
  | _ u ih =>
    intro c hc
    by_cases h : u < 10
    · rw [dec_small h] at hc
      simp only [List.mem_singleton] at hc
      rw [hc, dig_toNat h]; omega
    · rw [dec_big h, List.mem_append] at hc
      rcases hc with hc | hc
      · exact ih (u / 10) (by omega) c hc
      · simp only [List.mem_singleton] at hc
        rw [hc, dig_toNat (by omega)]; omega

theorem mag_dec (L : Nat) (h9 : 9 ≤ L) : ∀ (u : Nat), u ≤ L → ∀ t, mag L (Lib.decDigits u ++ t) 0 0 = mag L t (Lib.nDigits u) u := by
  intro u
  induction u using Nat.strongRecOn with
  | _ u ih =>
    intro hu t
    by_cases h : u < 10
    · rw [dec_small h, Lib.nDigits_small h]
      rw [List.singleton_append, mag_go (by rw [dig_toNat h]; omega) (by rw [dig_toNat h]; omega) (by omega) (by omega), dig_toNat h]
      rw [show 0 * 10 + (48 + u - 48) = u by omega]
    · rw [dec_big h, Lib.nDigits_big h, List.append_assoc, ih (u / 10) (by omega) (by omega), List.singleton_append]
      have hd : u % 10 < 10 := by omega
      rw [mag_go (by rw [dig_toNat hd]; omega) (by rw [dig_toNat hd]; omega) (by omega) (by rw [dig_toNat hd]; omega), dig_toNat hd]
      rw [show u / 10 * 10 + (48 + u % 10 - 48) = u by omega]
theorem mag_dec' (L : Nat) (h9 : 9 ≤ L) (u : Nat) (hu : u ≤ L) : mag L (Lib.decDigits u) 0 0 = some u := by
  have := mag_dec L h9 u hu []
  rw [List.append_nil] at this
  rw [this, mag_nil, if_neg (by have := Lib.nDigits_pos u; omega)]

theorem mag_back (L : Nat) : ∀ (l p : List UInt8) (r n m : Nat), mag L l r n = some m → ((r = 0 ∧ p = [] ∧ n = 0) ∨ (0 < r ∧ p = Lib.decDigits n)) → p ++ l = Lib.decDigits m
  | [], p, r, n, m, h, hp => by
    rw [mag_nil] at h
    rcases hp with ⟨rfl, _⟩ | ⟨hr, rfl⟩
    · simp at h
    · rw [if_neg (by omega)] at h
      cases h
      simp
  | c :: t, p, r, n, m, h, hp => by
    rw [mag] at h
    split at h
    · rename_i hc
      obtain ⟨h1, h2, h3, h4⟩ := hc
      have hd : c.toNat - 48 < 10 := by omega
      have := mag_back L t (p ++ [c]) (r + 1) (n * 10 + (c.toNat - 48)) m h (.inr ⟨by omega, by
        rcases hp with ⟨rfl, rfl, rfl⟩ | ⟨hr, rfl⟩
        · rw [show 0 * 10 + (c.toNat - 48) = c.toNat - 48 by omega, dec_small hd, dig_of h1]; rfl
        · have hn : ¬ n = 0 := by omega
          rw [dec_big (u := n * 10 + (c.toNat - 48)) (by omega), show (n * 10 + (c.toNat - 48)) / 10 = n by omega, show (n * 10 + (c.toNat - 48)) % 10 = c.toNat - 48 by omega, dig_of h1]⟩)
      rw [List.append_assoc] at this
      exact this
    · cases h

theorem lim_true : (lim true).toNat = 9223372036854775808 := rfl
theorem lim_false : (lim false).toNat = 9223372036854775807 := rfl

theorem parse_itoa (a : Int) (h0 : -9223372036854775808 ≤ a) (h1 : a ≤ 9223372036854775807) : parse (Lib.itoa a) = some a := by
  unfold Lib.itoa
  by_cases h : a < 0
  · rw [if_pos h, parse_neg, lim_true, mag_dec' _ (by decide) _ (by omega)]
    simp only [Option.bind_some]
    rw [if_neg (by omega)]
    congr 1
    omega
  · rw [if_neg h, parse_pos _ (fun t ht => by
      have := dec_digit a.toNat 45 (by rw [ht]; simp)
      exact absurd this.1 (by decide)), lim_false, mag_dec' _ (by decide) _ (by omega)]
    simp only [Option.map_some]
    congr 1
    omega
theorem itoa_parse {l : List UInt8} {n : Int} (h : parse l = some n) : Lib.itoa n = l := by
  by_cases hl : ∃ t, l = 45 :: t
  · obtain ⟨t, rfl⟩ := hl
    rw [parse_neg] at h
    cases hm : mag (lim true).toNat t 0 0 with
    | none => rw [hm] at h; cases h
    | some m =>
      rw [hm] at h
      simp only [Option.bind_some] at h
      split at h
      · cases h
      · rename_i h0
        cases h
        have := mag_back _ t [] 0 0 m hm (.inl ⟨rfl, rfl, rfl⟩)
        unfold Lib.itoa
        rw [if_pos (by omega), show (-(m : Int)).natAbs = m by omega, ← this]
        rfl
  · have hne : ∀ t, l ≠ 45 :: t := fun t ht => hl ⟨t, ht⟩
    rw [parse_pos l hne] at h
    cases hm : mag (lim false).toNat l 0 0 with
    | none => rw [hm] at h; cases h
    | some m =>
      rw [hm] at h
      simp only [Option.map_some, Option.some.injEq] at h
      subst h
      have := mag_back _ l [] 0 0 m hm (.inl ⟨rfl, rfl, rfl⟩)
      unfold Lib.itoa
      rw [if_neg (by omega), Int.toNat_natCast, ← this]
      rfl
theorem parse_bd {l : List UInt8} {n : Int} (h : parse l = some n) : -9223372036854775808 ≤ n ∧ n ≤ 9223372036854775807 := by
  by_cases hl : ∃ t, l = 45 :: t
  · obtain ⟨t, rfl⟩ := hl
    rw [parse_neg] at h
    cases hm : mag (lim true).toNat t 0 0 with
    | none => rw [hm] at h; cases h
    | some m =>
      rw [hm] at h
      simp only [Option.bind_some] at h
      split at h
      · cases h
      · cases h
        have := mag_le _ (by decide) t 0 0 m (Nat.zero_le _) hm
        rw [lim_true] at this
        omega
  · have hne : ∀ t, l ≠ 45 :: t := fun t ht => hl ⟨t, ht⟩
    rw [parse_pos l hne] at h
    cases hm : mag (lim false).toNat l 0 0 with
    | none => rw [hm] at h; cases h
    | some m =>
      rw [hm] at h
      simp only [Option.map_some, Option.some.injEq] at h
      subst h
      have := mag_le _ (by decide) l 0 0 m (Nat.zero_le _) hm
      rw [lim_false] at this
      omega
theorem nd_le : ∀ (k u : Nat), 1 ≤ k → u < 10 ^ k → Lib.nDigits u ≤ k
  | 0, _, h, _ => by omega
  | k + 1, u, _, h => by
    by_cases hu : u < 10
    · rw [Lib.nDigits_small hu]; omega
    · rw [Lib.nDigits_big hu]
      rw [Nat.pow_succ] at h
      have hk : 1 ≤ k := by
        rcases Nat.eq_zero_or_pos k with e | e
        · subst e; omega
        · exact e
      have := nd_le k (u / 10) hk (by omega)
      omega
theorem itoa_len (a : Int) (h0 : -9223372036854775808 ≤ a) (h1 : a ≤ 9223372036854775807) : (Lib.itoa a).length ≤ 21 := by
  unfold Lib.itoa
  have e : (10 : Nat) ^ 20 = 100000000000000000000 := by decide
  split
  · have := nd_le 20 a.natAbs (by decide) (by omega)
    rw [List.length_cons, Lib.decDigits_length]; omega
  · have := nd_le 20 a.toNat (by decide) (by omega)
    rw [Lib.decDigits_length]; omega
/-- The digits that are still to be written: none of 0. -/
def pre (n : Nat) : List UInt8 := if n = 0 then [] else Lib.decDigits n
theorem dec_pre (n : Nat) : Lib.decDigits n = pre (n / 10) ++ [UInt8.ofNat (48 + n % 10)] := by
  by_cases h : n < 10
  · rw [dec_small h, show n / 10 = 0 by omega, show n % 10 = n by omega]; rfl
  · rw [dec_big h]
    unfold pre
    rw [if_neg (by omega)]
/-- Where the writing of N's digits stands: s is written, n is left. -/
def Wr (N n : Nat) (s : List UInt8) : Prop := (s = [] ∧ n = N) ∨ (s ≠ [] ∧ Lib.decDigits N = pre n ++ s)
theorem Wr.step {N n : Nat} {s : List UInt8} (h : Wr N n s) (hn : s = [] ∨ 0 < n) : Wr N (n / 10) (UInt8.ofNat (48 + n % 10) :: s) := by
  right
  refine ⟨by simp, ?_⟩
  rcases h with ⟨rfl, rfl⟩ | ⟨h1, h2⟩
  · exact dec_pre _
  · have hn0 : 0 < n := by rcases hn with h | h; exact absurd h h1; exact h
    rw [h2]
    unfold pre
    rw [if_neg (by omega), dec_pre n]
    unfold pre
    simp
theorem Wr.done {N n : Nat} {s : List UInt8} (h : Wr N n s) (h0 : n = 0) (hs : s ≠ []) : s = Lib.decDigits N := by
  rcases h with ⟨h1, _⟩ | ⟨_, h2⟩
  · exact absurd h1 hs
  · rw [h2, h0]; rfl
theorem Wr.len {N n : Nat} {s : List UInt8} (h : Wr N n s) (hN : N < 100000000000000000000) : s.length ≤ 20 := by
  rcases h with ⟨rfl, _⟩ | ⟨_, h2⟩
  · simp
  · have h3 := congrArg List.length h2
    rw [List.length_append, Lib.decDigits_length] at h3
    have := nd_le 20 N (by decide) (by rw [show (10 : Nat) ^ 20 = 100000000000000000000 from by decide]; exact hN)
    omega
/-- One byte more is read: a digit counts, another byte does not. -/
def fd (n : Int) (c : UInt8) : Int := if 48 ≤ c.toNat ∧ c.toNat ≤ 57 then wrap64 (wrap64 (n * 10) + ((c.toNat : Int) - 48)) else n
def fds (l : List UInt8) : Int := l.foldl fd 0
theorem fds_snoc (l : List UInt8) (c : UInt8) : fds (l ++ [c]) = fd (fds l) c := by unfold fds; rw [List.foldl_append]; rfl
theorem fd_yes {n : Int} {c : UInt8} (h1 : 48 ≤ (c.toNat : Int)) (h2 : (c.toNat : Int) ≤ 57) : fd n c = wrap64 (wrap64 (n * 10) + ((c.toNat : Int) - 48)) := by unfold fd; rw [if_pos (by omega)]
theorem fd_no {n : Int} {c : UInt8} (h : ¬ (48 ≤ (c.toNat : Int) ∧ (c.toNat : Int) ≤ 57)) : fd n c = n := by unfold fd; rw [if_neg (by omega)]
theorem fds_dec (u : Nat) : (Lib.decDigits u).foldl fd 0 = wrap64 (u : Int) := by
  induction u using Nat.strongRecOn with
  | _ u ih =>
    by_cases h : u < 10
    · rw [dec_small h]
      simp only [List.foldl_cons, List.foldl_nil]
      rw [fd_yes (by rw [dig_toNat h]; omega) (by rw [dig_toNat h]; omega), dig_toNat h]
      unfold wrap64
      omega
    · have hd : u % 10 < 10 := by omega
      rw [dec_big h, List.foldl_append, ih (u / 10) (by omega)]
      simp only [List.foldl_cons, List.foldl_nil]
      rw [fd_yes (by rw [dig_toNat hd]; omega) (by rw [dig_toNat hd]; omega), dig_toNat hd]
      unfold wrap64
      omega
/-- The number that the reference makes of a text. -/
def made (l : List UInt8) : Int := if l.head? = some 45 then wrap64 (-fds (l.take 25)) else fds (l.take 25)
theorem made_parse {l : List UInt8} {m : Int} (h : parse l = some m) : made l = m := by
  have hb := parse_bd h
  have hl := itoa_parse h
  have hlen := itoa_len m hb.1 hb.2
  rw [hl] at hlen
  unfold made
  rw [List.take_of_length_le (by omega), ← hl]
  unfold Lib.itoa fds
  by_cases hm : m < 0
  · rw [if_pos hm, List.head?_cons, if_pos rfl, List.foldl_cons, show fd 0 45 = 0 from rfl, fds_dec]
    unfold wrap64
    omega
  · rw [if_neg hm]
    have hh : ¬ (Lib.decDigits m.toNat).head? = some 45 := by
      intro e
      have := dec_digit m.toNat 45 (List.mem_of_mem_head? e)
      exact absurd this.1 (by decide)
    rw [if_neg hh, fds_dec]
    unfold wrap64
    omega
theorem made_bd (l : List UInt8) : -9223372036854775808 ≤ made l ∧ made l ≤ 9223372036854775807 := by
  have hf : ∀ (t : List UInt8) (n : Int), -9223372036854775808 ≤ n → n ≤ 9223372036854775807 → -9223372036854775808 ≤ t.foldl fd n ∧ t.foldl fd n ≤ 9223372036854775807 := by
    intro t
    induction t with
    | nil => intro n h0 h1; exact ⟨h0, h1⟩
    | cons c t ih =>
      intro n h0 h1
      rw [List.foldl_cons]
      have : -9223372036854775808 ≤ fd n c ∧ fd n c ≤ 9223372036854775807 := by
        unfold fd
        split
        · exact w_bd _
        · exact ⟨h0, h1⟩
      exact ih _ this.1 this.2
  unfold made
  split
  · exact w_bd _
  · exact hf _ 0 (by decide) (by decide)
theorem made_none {l : List UInt8} (h : parse l = none) : Lib.itoa (made l) ≠ l := by
  intro e
  have hb := made_bd l
  have := parse_itoa (made l) hb.1 hb.2
  rw [e, h] at this
  cases this
end Go.Proofs.YtdjpjoipdlfooaaDoor.Pl
