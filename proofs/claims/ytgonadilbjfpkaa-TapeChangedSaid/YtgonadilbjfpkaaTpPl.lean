/- Layer 13, plain: the bytes of numbers, sums of bytes, tapes of inputs. No Go in sight. -/
import Derived.RowKit
import Derived.Laws.Bits64
namespace Go.Proofs.Ytgonadilbjfpkaa.Tp
open Go.RowKit
set_option linter.unusedVariables false

/-- The bytes of a count. -/
def dgF : Nat → Nat → List Int
  | 0, z => [(z : Int)]
  | k + 1, z => if z < 128 then [(z : Int)] else ((z % 128 + 128 : Nat) : Int) :: dgF k (z / 128)
def dg (z : Nat) : List Int := dgF 9 z
/-- What is written of a number; the number of what was written. -/
def zg (n : Int) : Nat := if n < 0 then (-2 * n - 1).toNat else (2 * n).toNat
def zag (z : Nat) : Int := if z % 2 = 0 then ((z / 2 : Nat) : Int) else -((z / 2 : Nat) : Int) - 1
/-- Reading a count: from the byte of number i on, z being what the bytes ahead say. -/
def rdF (i z : Nat) : List Int → (Nat × Nat) ⊕ Int
  | [] => .inr 112
  | c :: l => if (i = 9 ∧ 1 < c) ∨ (0 < i ∧ c = 0) then .inr 110 else if c < 128 then .inl (z + c.toNat * 128 ^ i, i + 1) else rdF (i + 1) (z + (c.toNat - 128) * 128 ^ i) l
/-- Bytes. -/
def Byt (l : List Int) : Prop := ∀ c ∈ l, 0 ≤ c ∧ c ≤ 255

theorem zag_zg (n : Int) : zag (zg n) = n := by unfold zag zg; split <;> split <;> omega
theorem zg_lt (n : Int) (h0 : -9223372036854775808 ≤ n) (h1 : n ≤ 9223372036854775807) : zg n < 18446744073709551616 := by unfold zg; split <;> omega
theorem zg_zag (z : Nat) : zg (zag z) = z := by unfold zag zg; split <;> split <;> omega
theorem zag_bd (z : Nat) (h : z < 18446744073709551616) : -9223372036854775808 ≤ zag z ∧ zag z ≤ 9223372036854775807 := by unfold zag; split <;> omega
theorem dgF_pos (k z : Nat) : 0 < (dgF k z).length := by
  cases k with
  | zero => simp [dgF]
  | succ k => unfold dgF; split <;> simp
theorem dgF_len (k z : Nat) : (dgF k z).length ≤ k + 1 := by
  induction k generalizing z with
  | zero => simp [dgF]
  | succ k ih => unfold dgF; split <;> simp; exact ih _
theorem dg_len (z : Nat) : (dg z).length ≤ 10 := dgF_len 9 z
theorem dgF_byt (k z : Nat) (h : z < 128 ^ (k + 1)) : Byt (dgF k z) := by
  induction k generalizing z with
  | zero => intro c hc; simp [dgF] at hc; subst hc; omega
  | succ k ih =>
    unfold dgF
    split
    · intro c hc; simp at hc; subst hc; omega
    · intro c hc
      simp only [List.mem_cons] at hc
      rcases hc with rfl | hc
      · omega
      · exact ih (z / 128) (by rw [Nat.div_lt_iff_lt_mul (by decide)]; rwa [← Nat.pow_succ]) c hc
theorem dg_byt (z : Nat) (h : z < 18446744073709551616) : Byt (dg z) := dgF_byt 9 z (Nat.lt_of_lt_of_le h (by decide))
theorem Byt.app {a b : List Int} (ha : Byt a) (hb : Byt b) : Byt (a ++ b) := fun c hc => by
  rcases List.mem_append.1 hc with h | h
  · exact ha c h
  · exact hb c h
theorem Byt.take {a : List Int} (ha : Byt a) (n : Nat) : Byt (a.take n) := fun c hc => ha c (List.mem_of_mem_take hc)
theorem Byt.drop {a : List Int} (ha : Byt a) (n : Nat) : Byt (a.drop n) := fun c hc => ha c (List.mem_of_mem_drop hc)
theorem Byt.nil : Byt [] := fun c hc => by cases hc

/-- What is written is read. -/
theorem rdF_dgF (k i a z : Nat) (r : List Int) (hk : i + k = 9) (hz : z * 128 ^ i < 18446744073709551616) (hp : 0 < i → 0 < z) :
    rdF i a (dgF k z ++ r) = .inl (a + z * 128 ^ i, i + (dgF k z).length) := by
  induction k generalizing i a z with
  | zero =>
    have hi : i = 9 := by omega
    subst hi
    have h1 : z ≤ 1 := by omega
    have h0 := hp (by decide)
    have : z = 1 := by omega
    subst this
    simp [dgF, rdF]
  | succ k ih =>
    have hi : i ≤ 8 := by omega
    unfold dgF
    split
    · rename_i hlt
      rw [List.singleton_append, rdF, if_neg (by omega), if_pos (by omega)]
      simp
    · rename_i hge
      rw [List.cons_append, rdF, if_neg (by omega), if_neg (by omega)]
      have hd : z / 128 * 128 ^ (i + 1) ≤ z * 128 ^ i := by
        rw [Nat.pow_succ, Nat.mul_comm (128 ^ i) 128, ← Nat.mul_assoc]
        exact Nat.mul_le_mul_right _ (Nat.div_mul_le_self z 128)
      rw [ih (i + 1) _ (z / 128) (by omega) (by omega) (fun _ => by omega)]
      have e : (((z % 128 + 128 : Nat) : Int).toNat - 128) = z % 128 := by omega
      rw [e]
      have e2 : a + z % 128 * 128 ^ i + z / 128 * 128 ^ (i + 1) = a + z * 128 ^ i := by
        rw [Nat.pow_succ, Nat.mul_comm (128 ^ i) 128, ← Nat.mul_assoc, Nat.add_assoc, ← Nat.add_mul, Nat.mod_add_div' z 128]
      rw [e2]
      simp
      omega
theorem rd_dg (z : Nat) (r : List Int) (hz : z < 18446744073709551616) : rdF 0 0 (dg z ++ r) = .inl (z, (dg z).length) := by
  have := rdF_dgF 9 0 0 z r rfl (by simpa using hz) (fun h => absurd h (by decide))
  simpa [dg] using this
/-- What is read was written so. -/
theorem rdF_back (l : List Int) (i a z u : Nat) (hb : Byt l) (hi : i ≤ 9) (h : rdF i a l = .inl (z, u)) :
    ∃ y, z = a + y * 128 ^ i ∧ i < u ∧ u - i ≤ l.length ∧ dgF (9 - i) y = l.take (u - i) ∧ y * 128 ^ i < 18446744073709551616 ∧ (0 < i → 0 < y) := by
  induction l generalizing i a with
  | nil => simp [rdF] at h
  | cons c l ih =>
    have hc := hb c (by simp)
    rw [rdF] at h
    split at h
    · cases h
    · rename_i hn
      split at h
      · rename_i hlt
        simp only [Sum.inl.injEq, Prod.mk.injEq] at h
        obtain ⟨rfl, rfl⟩ := h
        refine ⟨c.toNat, rfl, by omega, by simp, ?_, ?_, fun h0 => by omega⟩
        · have e : i + 1 - i = 1 := by omega
          rw [e]
          have ec : ((c.toNat : Nat) : Int) = c := by omega
          cases hk : 9 - i with
          | zero => simp [dgF, ec]
          | succ k => simp [dgF, ec]; omega
        · by_cases h9 : i = 9
          · subst h9
            have : c.toNat ≤ 1 := by omega
            exact Nat.lt_of_le_of_lt (Nat.mul_le_mul_right _ this) (by decide)
          · have h1 : 128 ^ i ≤ 128 ^ 8 := Nat.pow_le_pow_right (by decide) (by omega)
            have h2 : c.toNat ≤ 127 := by omega
            exact Nat.lt_of_le_of_lt (Nat.mul_le_mul h2 h1) (by decide)
      · rename_i hge
        have h9 : i ≠ 9 := by omega
        obtain ⟨y, rfl, hu, hl, he, hy, hp⟩ := ih (i + 1) _ (fun x hx => hb x (by simp [hx])) (by omega) h
        have hy0 := hp (by omega)
        have e0 : (c.toNat - 128) + y * 128 = c.toNat - 128 + y * 128 := rfl
        refine ⟨(c.toNat - 128) + y * 128, ?_, by omega, by simp; omega, ?_, ?_, fun _ => by omega⟩
        · rw [Nat.pow_succ, Nat.mul_comm (128 ^ i) 128, ← Nat.mul_assoc, Nat.add_assoc, ← Nat.add_mul]
        · have e : u - i = (u - (i + 1)) + 1 := by omega
          have ek : 9 - i = (9 - (i + 1)) + 1 := by omega
          rw [e, ek, dgF, if_neg (by omega), List.take_succ_cons]
          have e1 : (c.toNat - 128 + y * 128) / 128 = y := by omega
          rw [e1, he]
          congr 1
          omega
        · rw [Nat.pow_succ, Nat.mul_comm (128 ^ i) 128, ← Nat.mul_assoc] at hy
          have h1 : 128 ^ i ≤ 128 ^ 8 := Nat.pow_le_pow_right (by decide) (by omega)
          have hcl : c.toNat - 128 ≤ 127 := by omega
          have hpos : 0 < 128 ^ i := Nat.pow_pos (by decide)
          rw [Nat.add_mul]
          -- y * 128 * 128^i is a multiple of 128^(i+1), below 2^64
          have hdvd : 18446744073709551616 = 128 ^ i * 128 * (18446744073709551616 / (128 ^ (i + 1))) ∨ i = 9 := by
            have : i = 0 ∨ i = 1 ∨ i = 2 ∨ i = 3 ∨ i = 4 ∨ i = 5 ∨ i = 6 ∨ i = 7 ∨ i = 8 := by omega
            rcases this with rfl | rfl | rfl | rfl | rfl | rfl | rfl | rfl | rfl <;> exact .inl (by decide)
          rcases hdvd with hd | hd
          · generalize 18446744073709551616 / (128 ^ (i + 1)) = q at hd
            have hyq : y < q := by
              rw [hd, Nat.mul_comm (y * 128), ← Nat.mul_comm 128 (128 ^ i), Nat.mul_comm 128 (128 ^ i)] at hy
              have : 128 ^ i * 128 * y < 128 ^ i * 128 * q := by
                rw [Nat.mul_assoc (128 ^ i) 128 y, Nat.mul_comm 128 y]; exact hy
              exact Nat.lt_of_mul_lt_mul_left this
            have h2 : (y + 1) * (128 ^ i * 128) ≤ q * (128 ^ i * 128) := Nat.mul_le_mul_right _ hyq
            rw [hd, Nat.mul_comm (128 ^ i * 128) q]
            have h3 : (c.toNat - 128) * 128 ^ i ≤ 127 * 128 ^ i := Nat.mul_le_mul_right _ hcl
            have h4 : y * 128 * 128 ^ i = y * (128 ^ i * 128) := by rw [Nat.mul_assoc, Nat.mul_comm 128]
            have h5 : (y + 1) * (128 ^ i * 128) = y * (128 ^ i * 128) + 128 ^ i * 128 := by rw [Nat.add_mul, Nat.one_mul]
            omega
          · omega
theorem rd_back (l : List Int) (z u : Nat) (hb : Byt l) (h : rdF 0 0 l = .inl (z, u)) : 0 < u ∧ u ≤ l.length ∧ dg z = l.take u ∧ z < 18446744073709551616 := by
  obtain ⟨y, rfl, hu, hl, he, hy, _⟩ := rdF_back l 0 0 z u hb (by decide) h
  simp only [Nat.pow_zero, Nat.mul_one, Nat.zero_add, Nat.sub_zero] at *
  exact ⟨hu, hl, he, hy⟩
theorem rdF_err (l : List Int) (i a : Nat) (e : Int) (h : rdF i a l = .inr e) : e = 110 ∨ e = 112 := by
  induction l generalizing i a with
  | nil => simp [rdF] at h; exact .inr h.symm
  | cons c l ih =>
    rw [rdF] at h
    split at h
    · simp at h; exact .inl h.symm
    · split at h
      · cases h
      · exact ih _ _ h

/-- The sum of bytes. -/
def smS (p : Int × Int) (c : Int) : Int × Int := ((p.1 + c) % 65521, (p.2 + (p.1 + c) % 65521) % 65521)
def sm (l : List Int) : Int × Int := l.foldl smS (1, 0)
def sum (l : List Int) : Int := (sm l).2 * 65536 + (sm l).1
def sl4 (s : Int) : List Int := [s / 16777216, s / 65536 % 256, s / 256 % 256, s % 256]
theorem sm_app (l : List Int) (c : Int) : sm (l ++ [c]) = smS (sm l) c := by unfold sm; rw [List.foldl_append]; rfl
theorem sm_bd (l : List Int) : 0 ≤ (sm l).1 ∧ (sm l).1 < 65521 ∧ 0 ≤ (sm l).2 ∧ (sm l).2 < 65521 := by
  have : ∀ (l : List Int) (p : Int × Int), (0 ≤ p.1 ∧ p.1 < 65521 ∧ 0 ≤ p.2 ∧ p.2 < 65521) → (0 ≤ (l.foldl smS p).1 ∧ (l.foldl smS p).1 < 65521 ∧ 0 ≤ (l.foldl smS p).2 ∧ (l.foldl smS p).2 < 65521) := by
    intro l
    induction l with
    | nil => intro p h; exact h
    | cons c l ih =>
      intro p h
      rw [List.foldl_cons]
      refine ih _ ?_
      unfold smS
      refine ⟨?_, ?_, ?_, ?_⟩ <;> dsimp only <;> omega
  exact this l (1, 0) (by decide)
theorem sum_bd (l : List Int) : 0 ≤ sum l ∧ sum l < 4294967296 := by have := sm_bd l; unfold sum; omega
theorem sm_fst (l : List Int) : (sm l).1 = (1 + l.sum) % 65521 := by
  have : ∀ (l : List Int) (p : Int × Int), (l.foldl smS p).1 % 65521 = (p.1 + l.sum) % 65521 := by
    intro l
    induction l with
    | nil => intro p; simp
    | cons c l ih =>
      intro p
      rw [List.foldl_cons, ih, List.sum_cons]
      show ((p.1 + c) % 65521 + l.sum) % 65521 = _
      omega
  have h := this l (1, 0)
  have b := sm_bd l
  have e : (sm l).1 % 65521 = (sm l).1 := Int.emod_eq_of_lt b.1 b.2.1
  rw [← e]
  exact h
theorem sl4_byt (l : List Int) : Byt (sl4 (sum l)) := by
  have := sum_bd l
  generalize sum l = s at *
  intro c hc
  simp only [sl4, List.mem_cons, List.not_mem_nil, or_false] at hc
  rcases hc with rfl | rfl | rfl | rfl <;> omega
theorem sl4_inj (s t : Int) (hs : 0 ≤ s ∧ s < 4294967296) (ht : 0 ≤ t ∧ t < 4294967296) (h : sl4 s = sl4 t) : s = t := by
  simp only [sl4, List.cons.injEq, and_true] at h
  omega

/-- What is read, and the place behind it; or what is wrong, and where. -/
inductive Res (α : Type) where
  | good (a : α) (k : Nat)
  | bad (k : Nat) (e : Int)
def rdAt (b : List Int) (k : Nat) : Res Nat := match rdF 0 0 (b.drop k) with
  | .inl (z, u) => .good z (k + u)
  | .inr e => .bad k e
/-- The first bytes. -/
def hd (i : Nat) : List Int → List Int → Option (Nat × Int)
  | [], _ => none
  | _ :: _, [] => some (i, 112)
  | x :: xs, c :: cs => if c = x then hd (i + 1) xs cs else some (i, 110)
def head (k : Int) : List Int := [80, 76, 88, 49, k]
/-- The last bytes, from the place k on. -/
def ends (b : List Int) (k : Nat) : Option (Nat × Int) :=
  if b.length < k + 4 then some (k, 112) else if (b.drop k).take 4 ≠ sl4 (sum (b.take k)) then some (k, 111) else if k + 4 < b.length then some (k + 4, 110) else none
def nums (b : List Int) : Nat → Nat → List Int → Res (List Int)
  | 0, k, acc => .good acc k
  | n + 1, k, acc => match rdAt b k with
    | .good z j => nums b n j (acc ++ [zag z])
    | .bad j e => .bad j e
/-- An input's tape, written and read. -/
def body (l : List Int) : List Int := head 1 ++ dg l.length ++ l.flatMap (fun n => dg (zg n))
def wi (l : List Int) : List Int := body l ++ sl4 (sum (body l))
def ri (b : List Int) : Res (List Int) :=
  if 4194304 < b.length then .bad 0 2 else match hd 0 (head 1) b with
  | some (i, e) => .bad i e
  | none => match rdAt b 5 with
    | .bad k e => .bad k e
    | .good n k => if 1000 < n then .bad 5 2 else match nums b n k [] with
      | .bad j e => .bad j e
      | .good l j => match ends b j with
        | some (i, e) => .bad i e
        | none => .good l 0
end Go.Proofs.Ytgonadilbjfpkaa.Tp
