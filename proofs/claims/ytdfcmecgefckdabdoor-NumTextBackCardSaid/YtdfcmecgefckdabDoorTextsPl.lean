/- Texts of numbers: what is read is what was written, and the other way round. Plain mathematics. -/
import Derived.Test.YtdfcmecgefckdabDoorPlain
namespace Go.Proofs.YtdfcmecgefckdabDoor.Pl
open Go.RowKit

theorem dec_small {u : Nat} (h : u < 10) : Lib.decDigits u = [UInt8.ofNat (48 + u)] := by rw [Lib.decDigits, dif_pos h]
theorem dec_big {u : Nat} (h : ¬ u < 10) : Lib.decDigits u = Lib.decDigits (u / 10) ++ [UInt8.ofNat (48 + u % 10)] := by rw [Lib.decDigits, dif_neg h]
theorem dig_toNat {d : Nat} (h : d < 10) : (UInt8.ofNat (48 + d)).toNat = 48 + d := by
  rw [UInt8.toNat_ofNat']; omega
theorem dig_of {c : UInt8} (h1 : 48 ≤ c.toNat) : UInt8.ofNat (48 + (c.toNat - 48)) = c := by
  rw [show 48 + (c.toNat - 48) = c.toNat by omega]; exact UInt8.ofNat_toNat

theorem dec_digit : ∀ (u : Nat) (c : UInt8), c ∈ Lib.decDigits u → 48 ≤ c.toNat ∧ c.toNat ≤ 57 := by
  intro u
  induction u using Nat.strongRecOn with
  | _ u ih =>
    intro c hc
    by_cases h : u < 10
    · rw [dec_small h] at hc
      simp only [List.mem_singleton] at hc
      rw [hc, dig_toNat h]; omega
    · rw [dec_big h, List.mem_append] at hc
      rcases hc with hc | hc
      · exact ih (u / 10) (by omega) c hc
      · simp only [List.mem_singleton] at hc
        rw [hc, dig_toNat (by omega)]; omega

theorem mag_dec (L : Nat) (h9 : 9 ≤ L) : ∀ (u : Nat), u ≤ L → ∀ t, mag L (Lib.decDigits u ++ t) 0 0 = mag L t (Lib.nDigits u) u := by
  intro u
  induction u using Nat.strongRecOn with
  | _ u ih =>
    intro hu t
    by_cases h : u < 10
    · rw [dec_small h, Lib.nDigits_small h]
      rw [List.singleton_append, mag_go (by rw [dig_toNat h]; omega) (by rw [dig_toNat h]; omega) (by omega) (by omega), dig_toNat h]
      rw [show 0 * 10 + (48 + u - 48) = u by omega]
    · rw [dec_big h, Lib.nDigits_big h, List.append_assoc, ih (u / 10) (by omega) (by omega), List.singleton_append]
      have hd : u % 10 < 10 := by omega
      rw [mag_go (by rw [dig_toNat hd]; omega) (by rw [dig_toNat hd]; omega) (by omega) (by rw [dig_toNat hd]; omega), dig_toNat hd]
      rw [show u / 10 * 10 + (48 + u % 10 - 48) = u by omega]
theorem mag_dec' (L : Nat) (h9 : 9 ≤ L) (u : Nat) (hu : u ≤ L) : mag L (Lib.decDigits u) 0 0 = some u := by
  have := mag_dec L h9 u hu []
  rw [List.append_nil] at this
  rw [this, mag_nil, if_neg (by have := Lib.nDigits_pos u; omega)]

theorem mag_back (L : Nat) : ∀ (l p : List UInt8) (r n m : Nat), mag L l r n = some m → ((r = 0 ∧ p = [] ∧ n = 0) ∨ (0 < r ∧ p = Lib.decDigits n)) → p ++ l = Lib.decDigits m
  | [], p, r, n, m, h, hp => by
    rw [mag_nil] at h
    rcases hp with ⟨rfl, _⟩ | ⟨hr, rfl⟩
    · simp at h
    · rw [if_neg (by omega)] at h
      cases h
      simp
  | c :: t, p, r, n, m, h, hp => by
    rw [mag] at h
    split at h
    · rename_i hc
      obtain ⟨h1, h2, h3, h4⟩ := hc
      have hd : c.toNat - 48 < 10 := by omega
      have := mag_back L t (p ++ [c]) (r + 1) (n * 10 + (c.toNat - 48)) m h (.inr ⟨by omega, by
        rcases hp with ⟨rfl, rfl, rfl⟩ | ⟨hr, rfl⟩
        · rw [show 0 * 10 + (c.toNat - 48) = c.toNat - 48 by omega, dec_small hd, dig_of h1]; rfl
        · have hn : ¬ n = 0 := by omega
          rw [dec_big (u := n * 10 + (c.toNat - 48)) (by omega), show (n * 10 + (c.toNat - 48)) / 10 = n by omega, show (n * 10 + (c.toNat - 48)) % 10 = c.toNat - 48 by omega, dig_of h1]⟩)
      rw [List.append_assoc] at this
      exact this
    · cases h

theorem lim_true : (lim true).toNat = 9223372036854775808 := rfl
theorem lim_false : (lim false).toNat = 9223372036854775807 := rfl

theorem parse_itoa (a : Int) (h0 : -9223372036854775808 ≤ a) (h1 : a ≤ 9223372036854775807) : parse (Lib.itoa a) = some a := by
  unfold Lib.itoa
  by_cases h : a < 0
  · rw [if_pos h, parse_neg, lim_true, mag_dec' _ (by decide) _ (by omega)]
    simp only [Option.bind_some]
    rw [if_neg (by omega)]
    congr 1
    omega
  · rw [if_neg h, parse_pos _ (fun t ht => by
      have := dec_digit a.toNat 45 (by rw [ht]; simp)
      exact absurd this.1 (by decide)), lim_false, mag_dec' _ (by decide) _ (by omega)]
    simp only [Option.map_some]
    congr 1
    omega
theorem itoa_parse {l : List UInt8} {n : Int} (h : parse l = some n) : Lib.itoa n = l := by
  by_cases hl : ∃ t, l = 45 :: t
  · obtain ⟨t, rfl⟩ := hl
    rw [parse_neg] at h
    cases hm : mag (lim true).toNat t 0 0 with
    | none => rw [hm] at h; cases h
    | some m =>
      rw [hm] at h
      simp only [Option.bind_some] at h
      split at h
      · cases h
      · rename_i h0
        cases h
        have := mag_back _ t [] 0 0 m hm (.inl ⟨rfl, rfl, rfl⟩)
        unfold Lib.itoa
        rw [if_pos (by omega), show (-(m : Int)).natAbs = m by omega, ← this]
        rfl
  · have hne : ∀ t, l ≠ 45 :: t := fun t ht => hl ⟨t, ht⟩
    rw [parse_pos l hne] at h
    cases hm : mag (lim false).toNat l 0 0 with
    | none => rw [hm] at h; cases h
    | some m =>
      rw [hm] at h
      simp only [Option.map_some, Option.some.injEq] at h
      subst h
      have := mag_back _ l [] 0 0 m hm (.inl ⟨rfl, rfl, rfl⟩)
      unfold Lib.itoa
      rw [if_neg (by omega), Int.toNat_natCast, ← this]
      rfl
theorem parse_bd {l : List UInt8} {n : Int} (h : parse l = some n) : -9223372036854775808 ≤ n ∧ n ≤ 9223372036854775807 := by
  by_cases hl : ∃ t, l = 45 :: t
  · obtain ⟨t, rfl⟩ := hl
    rw [parse_neg] at h
    cases hm : mag (lim true).toNat t 0 0 with
    | none => rw [hm] at h; cases h
    | some m =>
      rw [hm] at h
      simp only [Option.bind_some] at h
      split at h
      · cases h
      · cases h
        have := mag_le _ (by decide) t 0 0 m (Nat.zero_le _) hm
        rw [lim_true] at this
        omega
  · have hne : ∀ t, l ≠ 45 :: t := fun t ht => hl ⟨t, ht⟩
    rw [parse_pos l hne] at h
    cases hm : mag (lim false).toNat l 0 0 with
    | none => rw [hm] at h; cases h
    | some m =>
      rw [hm] at h
      simp only [Option.map_some, Option.some.injEq] at h
      subst h
      have := mag_le _ (by decide) l 0 0 m (Nat.zero_le _) hm
      rw [lim_false] at this
      omega
theorem nd_le : ∀ (k u : Nat), 1 ≤ k → u < 10 ^ k → Lib.nDigits u ≤ k
  | 0, _, h, _ => by omega
  | k + 1, u, _, h => by
    by_cases hu : u < 10
    · rw [Lib.nDigits_small hu]; omega
    · rw [Lib.nDigits_big hu]
      rw [Nat.pow_succ] at h
      have hk : 1 ≤ k := by
        rcases Nat.eq_zero_or_pos k with e | e
        · subst e; omega
        · exact e
      have := nd_le k (u / 10) hk (by omega)
      omega
theorem itoa_len (a : Int) (h0 : -9223372036854775808 ≤ a) (h1 : a ≤ 9223372036854775807) : (Lib.itoa a).length ≤ 21 := by
  unfold Lib.itoa
  have e : (10 : Nat) ^ 20 = 100000000000000000000 := by decide
  split
  · have := nd_le 20 a.natAbs (by decide) (by omega)
    rw [List.length_cons, Lib.decDigits_length]; omega
  · have := nd_le 20 a.toNat (by decide) (by omega)
    rw [Lib.decDigits_length]; omega
end Go.Proofs.YtdfcmecgefckdabDoor.Pl
