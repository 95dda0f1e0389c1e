/- Layer 13: arrays of bytes held against each other. -/
import Derived.Test.YtgonadilbjfpkaaTpL
import Derived.ChangeKeysEq
namespace Go.Proofs.Ytgonadilbjfpkaa
open Go.RowKit
set_option linter.unusedVariables false
theorem plU : Try.prog.plainKey 5 = true := by kernel_rfl
theorem ceU : Try.prog.cellsOf 5 = 1 := by kernel_rfl
theorem eqIt (w : World) (d : Nat) (l m : List Int) (hl : l.length = m.length) : ∀ (n s : Nat), s + n = l.length → (Op.eqItems (d + 1) 5 1 (byC l).toArray (byC m).toArray (List.range' s n)).run Try.prog w = .ok (decide (l.drop s = m.drop s)) w
  | 0, s, h => by
    rw [List.drop_eq_nil_of_le (by omega), List.drop_eq_nil_of_le (by omega)]
    simp [Op.eqItems]
  | n + 1, s, h => by
    obtain ⟨x, hx⟩ : ∃ x, l[s]? = some x := ⟨_, List.getElem?_eq_getElem (by omega)⟩
    obtain ⟨y, hy⟩ : ∃ y, m[s]? = some y := ⟨_, List.getElem?_eq_getElem (by omega)⟩
    have ih := eqIt w d l m hl n (s + 1) (by omega)
    have p1 : (part 5 (byC l).toArray (s * 1)).run Try.prog w = .ok (.int .u8 x) w := run_part_plain w plU (by rw [Nat.mul_one]; simpa using byC_get hx)
    have p2 : (part 5 (byC m).toArray (s * 1)).run Try.prog w = .ok (.int .u8 y) w := run_part_plain w plU (by rw [Nat.mul_one]; simpa using byC_get hy)
    have p3 := run_equalIn_int (P := Try.prog) w d 5 .u8 .u8 x y Try.underlying5
    have dl : l.drop s = x :: l.drop (s + 1) := by
      obtain ⟨h1, h2⟩ := List.getElem?_eq_some_iff.1 hx
      rw [← h2, List.drop_eq_getElem_cons h1]
    have dm : m.drop s = y :: m.drop (s + 1) := by
      obtain ⟨h1, h2⟩ := List.getElem?_eq_some_iff.1 hy
      rw [← h2, List.drop_eq_getElem_cons h1]
    rw [List.range'_succ]
    simp only [Op.eqItems, Sem.run_bind, p1, p2, p3, Result.andThen_ok]
    by_cases hxy : x = y
    · subst hxy
      simp only [BEq.rfl, Bool.not_true, Bool.false_eq_true, if_false]
      rw [ih, dl, dm]
      simp
    · have q : (x == y) = false := by simpa using hxy
      simp only [q, Bool.not_false, if_true, Sem.run_pure]
      rw [dl, dm]
      simp [hxy]
theorem eqAr (w : World) (l m : List Int) (t : TypeId) (n : Nat) (hu : Try.prog.underlying t = some (.array n 5)) (hl : l.length = n) (hm : m.length = n) : (Op.equalIn 10000 t (.agg (byC l).toArray) (.agg (byC m).toArray)).run Try.prog w = .ok (decide (l = m)) w := by
  obtain ⟨i0, hi, _, _, _⟩ := infoB'
  rw [show (10000 : Nat) = 9999 + 1 from rfl, run_equalIn_array w 9999 _ _ hu hi, ceU, List.range_eq_range', show (9999 : Nat) = 9998 + 1 from rfl, eqIt w 9998 l m (by omega) n 0 (by omega)]
  rfl
theorem shutT {P : Program} {n : FuncId} {args : Array Value} {w : World} {R C : Ending → World → Prop} (hc : Calls P n args w C) (hp : ∀ e w', C e w' → R e w') (v : Value) (_hf : Hid (∀ q : Prop, q) → R (.returned v) w) : Calls P n args w R := hc.mono hp
end Go.Proofs.Ytgonadilbjfpkaa
