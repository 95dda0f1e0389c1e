/- What the rows' own condition on the listed tables gives: the table of powers of ten is as the library lays it; and a world in which the tables lie so. -/
/- What the rows of layer 2 are given by their own condition on the listed tables: the powers of ten, the key words, the signs. -/
import Derived.Test.YtlhklpnkelcnbaaGreatDoorKnown
import Derived.ProofKit
import Derived.LaidMore
import Derived.OpenShut
import Derived.Stop.Joined
import Derived.Stop.LaidErr
import Derived.Lib.LaidTab
import Derived.ShutString
import Derived.ChangeOld
import Derived.Below
import Derived.Test.YtlhklpnkelcnbaaGreatDoorLexA
namespace Go.Proofs.YtlhklpnkelcnbaaGreatDoor
open Go.ChangeShapes Go.WideShapes Go.ChangeAt Go.RowKit
set_option maxRecDepth 100000

theorem own : ownKnob Tryz.prog.godebug = none := by kernel_rfl
theorem laidOut : laidOutB Tryz.prog = true := by kernel_rfl
def L3 : List (String × DataW Unit) := [("math/bits.deBruijn32tab", Rows.laid_math_bits_deBruijn32tab), ("math/bits.deBruijn64tab", Rows.laid_math_bits_deBruijn64tab), ("internal/strconv.uint64pow10", Rows.laid_internal_strconv_uint64pow10)]
theorem door3 (os : Os) (args : Array Value) : laidMetH Tryz.prog L3 ((World.doorLaid Tryz.prog 60 os).forCall (fun _ _ => 0) ⟨#[], args, []⟩).memory :=
  laidMetH_of_parts3 (fuel := 8) (laidMet_of_run' 8 (by kernel_rfl) (by kernel_rfl)) (by kernel_rfl) (by kernel_rfl)

theorem powData : (Rows.laid_internal_strconv_uint64pow10 : DataW Unit) = Lib.tabData .u64 Lib.pow10Tab := by kernel_rfl
theorem tPow : (Tryz.prog.globals[2]?).map (·.type) = some 164 := by kernel_rfl
theorem cE : Tryz.prog.cellsOf 128 = 1 := by kernel_rfl
theorem cT : Tryz.prog.cellsOf 164 = 20 := by kernel_rfl

theorem lt_of_var {P : Program} {w : World} {n : String} {g : Nat} {cs : Array Value} (hg : P.globalNamed n = some g) (hv : w.var? P n = some cs) : g < w.heap.size := by
  unfold World.var? at hv
  rw [hg] at hv
  simp only [Option.bind_some] at hv
  rcases Nat.lt_or_ge g w.heap.size with h | h
  · exact h
  · rw [Array.getElem?_eq_none h] at hv
    cases hv

theorem tab_of_head {r : List (String × DataW Unit)} {W : World} (h : laidMet Tryz.prog (("internal/strconv.uint64pow10", Rows.laid_internal_strconv_uint64pow10) :: r) W) : Tab W := by
  rw [powData] at h
  have ht := Lib.tabIs_of_head gPow tPow Tryz.underlying164 Tryz.underlying128 cE cT h
  exact ⟨ht, lt_of_var gPow ht⟩

theorem tab_of_L3 {W : World} (h : laidMetH Tryz.prog L3 W) : Tab W := by
  rw [MakeChecks.laidMetH_plain _ _ _ (by kernel_rfl)] at h
  exact tab_of_head (laidMet.tail (laidMet.tail h))
end Go.Proofs.YtlhklpnkelcnbaaGreatDoor

namespace Go.Proofs.YtlhklpnkelcnbaaGreatDoor
open Go.ChangeShapes Go.WideShapes Go.ChangeAt Go.RowKit
set_option maxRecDepth 100000

/-- An array of texts as a row lists it. -/
def textData {H : Type} (ls : List (List UInt8)) : DataW H := .agg (ls.map fun l => .lit (.string l))
theorem cells_of_texts {H : Type} {enc : TypeId × Value → H} {P : Program} {w : World} {base : Nat} {sp : Nat → Bool} {held : Bool} {fuel : Nat} {t e : TypeId} {n : Nat} {cs : List Value} {ls : List (List UInt8)} {p : List MemPlace}
    (ht : P.underlying t = some (.array n e)) (he : P.underlying e = some .string) (hce : P.cellsOf e = 1) (hct : P.cellsOf t = n)
    (h : DataW.trod enc P w base sp held fuel t cs = some (textData ls, p)) : cs = ls.map fun l => Value.string ⟨l.toArray⟩ := by
  cases fuel with
  | zero => simp [DataW.trod] at h
  | succ fuel =>
    simp only [DataW.trod, ht, hce, hct, Nat.mul_one] at h
    split at h
    · rename_i hl
      obtain ⟨xs, hm, hx⟩ := Option.map_eq_some_iff.1 h
      have hxs : xs.map (·.1) = ls.map fun l => (DataW.lit (.string l) : DataW H) := by
        have := congrArg Prod.fst hx
        simpa [textData] using this
      have hxl : xs.length = n := by simpa using Lib.mapM_length hm
      have hzl : ls.length = n := by
        have := congrArg List.length hxs
        simp at this
        omega
      apply List.ext_getElem?
      intro i
      by_cases hi : i < n
      · obtain ⟨b, hb, hf⟩ := Lib.mapM_at hm i i (by simp [hi])
        obtain ⟨s, hc, rfl, _⟩ := DataW.trod_string he hf
        have h1 : cs[i]? = some (.string s) := by
          have := congrArg (·[0]?) hc
          simpa [List.getElem?_take, List.getElem?_drop] using this
        have h2 : (xs.map (·.1))[i]? = some (DataW.lit (.string s.data.toList) : DataW H) := by simp [hb]
        rw [hxs] at h2
        simp only [List.getElem?_map, Option.map_eq_some_iff, DataW.lit.injEq, Lit.string.injEq] at h2
        obtain ⟨z', hz', rfl⟩ := h2
        simp [h1, hz']
      · rw [List.getElem?_eq_none (by omega), List.getElem?_eq_none (by simp; omega)]
    · cases h
theorem texts_of_head {P : Program} {W : World} {name : String} {ls : List (List UInt8)} {rest : List (String × DataW Unit)} {g : Nat} {t e : TypeId} {n : Nat}
    (hg : P.globalNamed name = some g) (hty : (P.globals[g]?).map (·.type) = some t) (ht : P.underlying t = some (.array n e)) (he : P.underlying e = some .string) (hce : P.cellsOf e = 1) (hct : P.cellsOf t = n)
    (h : laidMet P ((name, textData ls) :: rest) W) : ∃ t' fr, W.heap[g]? = some (.cells (ls.map fun l => Value.string ⟨l.toArray⟩).toArray t' fr) := by
  obtain ⟨ps, ⟨g', t', cs, fuel, p, q, hg', ht', hvar, hd, _, _⟩, _⟩ := h
  obtain rfl := Option.some.inj (hg.symm.trans hg')
  obtain rfl := Option.some.inj (hty.symm.trans ht')
  have hc := cells_of_texts ht he hce hct hd
  unfold World.var? at hvar
  rw [hg] at hvar
  simp only [Option.bind_some] at hvar
  split at hvar
  · rename_i cs' t2 fr hh
    refine ⟨t2, fr, ?_⟩
    obtain rfl := Option.some.inj hvar
    rw [hh, ← hc]
  · cases hvar

def L5 : List (String × DataW Unit) := [("math/bits.deBruijn32tab", Rows.laid_math_bits_deBruijn32tab), ("math/bits.deBruijn64tab", Rows.laid_math_bits_deBruijn64tab), ("internal/strconv.uint64pow10", Rows.laid_internal_strconv_uint64pow10), ("parallax/lex.keyWords", Rows.laid_parallax_lex_keyWords), ("parallax/lex.signs", Rows.laid_parallax_lex_signs)]
theorem door5 (os : Os) (args : Array Value) : laidMetH Tryz.prog L5 ((World.doorLaid Tryz.prog 60 os).forCall (fun _ _ => 0) ⟨#[], args, []⟩).memory :=
  laidMetH_of_parts3 (fuel := 8) (laidMet_of_run' 8 (by kernel_rfl) (by kernel_rfl)) (by kernel_rfl) (by kernel_rfl)
theorem gKeys : Tryz.prog.globalNamed "parallax/lex.keyWords" = some 1 := by kernel_rfl
theorem gSigns : Tryz.prog.globalNamed "parallax/lex.signs" = some 0 := by kernel_rfl
theorem tKeys : (Tryz.prog.globals[1]?).map (·.type) = some 118 := by kernel_rfl
theorem tSigns : (Tryz.prog.globals[0]?).map (·.type) = some 115 := by kernel_rfl
theorem cS : Tryz.prog.cellsOf 9 = 1 := by kernel_rfl
theorem c13 : Tryz.prog.cellsOf 118 = 13 := by kernel_rfl
theorem c21 : Tryz.prog.cellsOf 115 = 21 := by kernel_rfl
theorem keysData : (Rows.laid_parallax_lex_keyWords : DataW Unit) = textData Lx.keys := by kernel_rfl
theorem signsData : (Rows.laid_parallax_lex_signs : DataW Unit) = textData Lx.signs := by kernel_rfl
theorem tab_of_L5 {W : World} (h : laidMetH Tryz.prog L5 W) : Kw W ∧ Tab W := by
  rw [MakeChecks.laidMetH_plain _ _ _ (by kernel_rfl)] at h
  have h3 := laidMet.tail (laidMet.tail h)
  have h4 := laidMet.tail h3
  have h5 := laidMet.tail h4
  rw [keysData] at h4
  rw [signsData] at h5
  exact ⟨⟨texts_of_head gKeys tKeys Tryz.underlying118 Tryz.underlying9 cS c13 h4, texts_of_head gSigns tSigns Tryz.underlying115 Tryz.underlying9 cS c21 h5⟩, tab_of_head h3⟩
end Go.Proofs.YtlhklpnkelcnbaaGreatDoor
