/- Layer 13, plain: a count read from behind, as the document does. -/
import Derived.Test.YtgonadilbjfpkaaTpPl
namespace Go.Proofs.Ytgonadilbjfpkaa.Tp
open Go.RowKit
set_option linter.unusedVariables false
/-- How many bytes go on, at most so many. -/
def cn : Nat → List Int → Nat
  | 0, _ => 0
  | f + 1, [] => 0
  | f + 1, c :: l => if 128 ≤ c then cn f l + 1 else 0
def vl : List Int → Nat
  | [] => 0
  | c :: l => c.toNat % 128 + 128 * vl l
theorem cn_le (f : Nat) (l : List Int) : cn f l ≤ f := by
  induction f generalizing l with
  | zero => cases l <;> simp [cn]
  | succ f ih =>
    cases l with
    | nil => simp [cn]
    | cons c l => unfold cn; split; have := ih l; omega; omega
theorem cn_len (f : Nat) (l : List Int) : cn f l ≤ l.length := by
  induction f generalizing l with
  | zero => cases l <;> simp [cn]
  | succ f ih =>
    cases l with
    | nil => simp [cn]
    | cons c l => unfold cn; split <;> simp; exact ih l
theorem rdF_cn (l : List Int) (i a : Nat) (hi : i ≤ 9) (hb : Byt l) :
    (i + cn (10 - i) l = 10 → rdF i a l = .inr 110) ∧
    (i + cn (10 - i) l ≤ 9 → (l[cn (10 - i) l]? = none → rdF i a l = .inr 112) ∧
      ∀ x, l[cn (10 - i) l]? = some x → ((i + cn (10 - i) l = 9 ∧ 1 < x) ∨ (0 < i + cn (10 - i) l ∧ x = 0) → rdF i a l = .inr 110) ∧
        (¬ ((i + cn (10 - i) l = 9 ∧ 1 < x) ∨ (0 < i + cn (10 - i) l ∧ x = 0)) → rdF i a l = .inl (a + vl (l.take (cn (10 - i) l + 1)) * 128 ^ i, i + cn (10 - i) l + 1))) := by
  induction l generalizing i a with
  | nil =>
    have e : cn (10 - i) [] = 0 := by cases 10 - i <;> rfl
    rw [e]
    exact ⟨fun h => by omega, fun _ => ⟨fun _ => rfl, fun x hx => by simp at hx⟩⟩
  | cons c l ih =>
    have hc := hb c (by simp)
    have hb' : Byt l := fun x hx => hb x (by simp [hx])
    obtain ⟨f, hf⟩ : ∃ f, 10 - i = f + 1 := ⟨9 - i, by omega⟩
    have hf' : f = 10 - (i + 1) := by omega
    rw [hf]
    by_cases h128 : 128 ≤ c
    · have e : cn (f + 1) (c :: l) = cn f l + 1 := by simp [cn, h128]
      rw [e]
      by_cases h9 : i = 9
      · subst h9
        have f0 : f = 0 := by omega
        subst f0
        have e0 : cn 0 l = 0 := by cases l <;> rfl
        rw [e0]
        refine ⟨fun _ => ?_, fun h => by omega⟩
        rw [rdF, if_pos (by omega)]
      · have hr : rdF i a (c :: l) = rdF (i + 1) (a + (c.toNat - 128) * 128 ^ i) l := by
          rw [rdF, if_neg (by omega), if_neg (by omega)]
        rw [hr]
        obtain ⟨i1, i2⟩ := ih (i + 1) (a + (c.toNat - 128) * 128 ^ i) (by omega) hb'
        rw [← hf'] at i1 i2
        have en : i + (cn f l + 1) = i + 1 + cn f l := by omega
        rw [en]
        refine ⟨i1, fun h => ?_⟩
        obtain ⟨j1, j2⟩ := i2 h
        refine ⟨fun hx => j1 (by simpa using hx), fun x hx => ?_⟩
        obtain ⟨k1, k2⟩ := j2 x (by simpa using hx)
        refine ⟨k1, fun hn => ?_⟩
        rw [k2 hn]
        congr 1
        rw [List.take_succ_cons, vl]
        have ec : c.toNat % 128 = c.toNat - 128 := by omega
        rw [ec, Nat.add_mul, Nat.pow_succ, Nat.mul_comm (128 ^ i) 128, ← Nat.mul_assoc, Nat.mul_comm (vl _) 128, Nat.add_assoc]
    · have e : cn (f + 1) (c :: l) = 0 := by simp [cn, h128]
      rw [e]
      refine ⟨fun h => by omega, fun _ => ⟨fun hx => by simp at hx, fun x hx => ?_⟩⟩
      simp at hx
      subst hx
      refine ⟨fun h => by rw [rdF, if_pos (by omega)], fun h => ?_⟩
      rw [rdF, if_neg (by omega), if_pos (by omega)]
      have ec : c.toNat % 128 = c.toNat := by omega
      simp [vl, ec]
theorem vl_drop (l : List Int) (j : Nat) : vl (l.drop j) ≤ vl l := by
  induction l generalizing j with
  | nil => simp
  | cons c l ih =>
    cases j with
    | zero => simp
    | succ j => rw [List.drop_succ_cons]; have := ih j; simp only [vl]; omega
end Go.Proofs.Ytgonadilbjfpkaa.Tp
