/- Layer 8: what the rows are given by their own condition on the listed tables; arguments that are instructions and codes. -/
import Derived.Test.YtodpdnidinnjjaaDoorTCdB
import Derived.Test.YtodpdnidinnjjaaDoorTCdPl
import Derived.Test.YtodpdnidinnjjaaDoorTPlain
import Derived.Lib.Split
import Derived.Lib.IndexBytes
import Derived.Lib.Join
import Derived.Test.YtodpdnidinnjjaaDoorTGrN
import Derived.Test.YtodpdnidinnjjaaDoorRows
import Derived.WalkKit
import Derived.WalkMore
import Derived.WalkSpells
import Derived.WalkLawsBesides
import Derived.Shelf.Small.Wraps
import Derived.Shelf.Strings.Prefix
import Derived.Test.YtodpdnidinnjjaaDoorProg
import Derived.Lib.AppendIntMem
import Derived.Deep.QuietTactic
import Derived.BigQuiet
import Derived.Shelf.Strings.Builder1
import Derived.RowKit
import Derived.KernelRfl
import Derived.Test.YtodpdnidinnjjaaDoorTCdG
import Derived.Test.YtodpdnidinnjjaaDoorTCdL
import Derived.ProofKit
import Derived.LaidMore
import Derived.OpenShut
import Derived.Stop.Joined
import Derived.Stop.LaidErr
import Derived.Lib.LaidTab
import Derived.ShutString
import Derived.ChangeOld
import Derived.Below
import Derived.Lay
import Derived.SizedLaws
import Derived.Shelf.Vars
namespace Go.Proofs.YtodpdnidinnjjaaDoor
open Go.ChangeShapes Go.WideShapes Go.ChangeAt Go.RowKit
set_option maxRecDepth 100000

theorem own : ownKnob Tryd.prog.godebug = none := by kernel_rfl
theorem laidOut : laidOutB Tryd.prog = true := by kernel_rfl
theorem lt_of_var {P : Program} {w : World} {n : String} {g : Nat} {cs : Array Value} (hg : P.globalNamed n = some g) (hv : w.var? P n = some cs) : g < w.heap.size := by
  unfold World.var? at hv
  rw [hg] at hv
  simp only [Option.bind_some] at hv
  rcases Nat.lt_or_ge g w.heap.size with h | h
  · exact h
  · rw [Array.getElem?_eq_none h] at hv
    cases hv
theorem cE : Tryd.prog.cellsOf 122 = 1 := by kernel_rfl
theorem cS1 : Tryd.prog.cellsOf 9 = 1 := by kernel_rfl
theorem cI1 : Tryd.prog.cellsOf 3 = 1 := by kernel_rfl
theorem cI4 : Tryd.prog.cellsOf 2 = 1 := by kernel_rfl
theorem cB1 : Tryd.prog.cellsOf 4 = 1 := by kernel_rfl
theorem c26I : Tryd.prog.cellsOf 134 = 26 := by kernel_rfl
theorem c26P : Tryd.prog.cellsOf 137 = 52 := by kernel_rfl
theorem c2I : Tryd.prog.cellsOf 130 = 2 := by kernel_rfl
theorem gNums : Tryd.prog.globalNamed "parallax/code.numbers" = some 0 := by kernel_rfl
theorem gMoves : Tryd.prog.globalNamed "parallax/code.moves" = some 1 := by kernel_rfl
theorem tNums : (Tryd.prog.globals[0]?).map (·.type) = some 134 := by kernel_rfl
theorem tMoves : (Tryd.prog.globals[1]?).map (·.type) = some 137 := by kernel_rfl
/-- An array of texts as a row lists it. -/
def textData {H : Type} (ls : List (List UInt8)) : DataW H := .agg (ls.map fun l => .lit (.string l))
def pairData {H : Type} (ls : List (List Int)) : DataW H := .agg (ls.map fun l => Lib.tabData .i64 l)
theorem numsData : (Rows.laid_parallax_code_numbers : DataW Unit) = Lib.tabData .i64 Cd.numsL := by kernel_rfl
/-- What is taken and left, in pairs. -/
def pairsL : List (List Int) := (List.range 26).map fun k => [Cd.takesL.getD k 0, Cd.leavesL.getD k 0]
theorem movesData : (Rows.laid_parallax_code_moves : DataW Unit) = pairData pairsL := by kernel_rfl
theorem cells_of_texts {H : Type} {enc : TypeId × Value → H} {P : Program} {w : World} {base : Nat} {sp : Nat → Bool} {held : Bool} {fuel : Nat} {t e : TypeId} {n : Nat} {cs : List Value} {ls : List (List UInt8)} {p : List MemPlace}
    (ht : P.underlying t = some (.array n e)) (he : P.underlying e = some .string) (hce : P.cellsOf e = 1) (hct : P.cellsOf t = n)
    (h : DataW.trod enc P w base sp held fuel t cs = some (textData ls, p)) : cs = ls.map fun l => Value.string ⟨l.toArray⟩ := by
  cases fuel with
  | zero => simp [DataW.trod] at h
  | succ fuel =>
    simp only [DataW.trod, ht, hce, hct, Nat.mul_one] at h
    split at h
    · rename_i hl
      obtain ⟨xs, hm, hx⟩ := Option.map_eq_some_iff.1 h
      have hxs : xs.map (·.1) = ls.map fun l => (DataW.lit (.string l) : DataW H) := by
        have := congrArg Prod.fst hx
        simpa [textData] using this
      have hxl : xs.length = n := by simpa using Lib.mapM_length hm
      have hzl : ls.length = n := by
        have := congrArg List.length hxs
        simp at this
        omega
      apply List.ext_getElem?
      intro i
      by_cases hi : i < n
      · obtain ⟨b, hb, hf⟩ := Lib.mapM_at hm i i (by simp [hi])
        obtain ⟨s, hc, rfl, _⟩ := DataW.trod_string he hf
        have h1 : cs[i]? = some (.string s) := by
          have := congrArg (·[0]?) hc
          simpa [List.getElem?_take, List.getElem?_drop] using this
        have h2 : (xs.map (·.1))[i]? = some (DataW.lit (.string s.data.toList) : DataW H) := by simp [hb]
        rw [hxs] at h2
        simp only [List.getElem?_map, Option.map_eq_some_iff, DataW.lit.injEq, Lit.string.injEq] at h2
        obtain ⟨z', hz', rfl⟩ := h2
        simp [h1, hz']
      · rw [List.getElem?_eq_none (by omega), List.getElem?_eq_none (by simp; omega)]
    · cases h
/-- An array of arrays of two numbers: each number's cell. -/
theorem cells_of_pairs {H : Type} {enc : TypeId × Value → H} {P : Program} {w : World} {base : Nat} {sp : Nat → Bool} {held : Bool} {fuel : Nat} {t e f : TypeId} {n : Nat} {cs : List Value} {ls : List (List Int)} {p : List MemPlace}
    (ht : P.underlying t = some (.array n e)) (he : P.underlying e = some (.array 2 f)) (hf : P.underlying f = some (.int .i64)) (hcf : P.cellsOf f = 1) (hce : P.cellsOf e = 2) (hct : P.cellsOf t = n * 2)
    (h : DataW.trod enc P w base sp held fuel t cs = some (pairData ls, p)) : ∀ i l, i < n → ls[i]? = some l → (cs.drop (i * 2)).take 2 = l.map fun z => Value.int .i64 z := by
  intro i l hi hl'
  cases fuel with
  | zero => simp [DataW.trod] at h
  | succ fuel =>
    simp only [DataW.trod, ht, hce, hct] at h
    split at h
    · rename_i hl
      obtain ⟨xs, hm, hx⟩ := Option.map_eq_some_iff.1 h
      have hxs : xs.map (·.1) = ls.map fun l => (Lib.tabData .i64 l : DataW H) := by
        have := congrArg Prod.fst hx
        simpa [pairData] using this
      obtain ⟨b, hb, hg⟩ := Lib.mapM_at hm i i (by simp [hi])
      have h2 : (xs.map (·.1))[i]? = some b.1 := by simp [hb]
      rw [hxs, List.getElem?_map, hl'] at h2
      have e1 : b.1 = Lib.tabData .i64 l := (Option.some.inj h2).symm
      have hg' : DataW.trod enc P w base sp held fuel e ((cs.drop (i * 2)).take 2) = some (Lib.tabData .i64 l, b.2) := by rw [← e1]; exact hg
      exact Lib.cells_of_tab he hf hcf hce hg'
    · cases h
theorem var_cell {W : World} {n : String} {g : Nat} {cs : Array Value} (hg : Tryd.prog.globalNamed n = some g) (hv : W.var? Tryd.prog n = some cs) (i : Nat) : W.cell? ⟨g, i, none⟩ = cs[i]? := World.var?_cell hg hv i
/-- The wrap of a row that lists tables, the world's shape kept for the contract. -/
theorem of_listed_shaped {H : Type} {enc : TypeId × Value → H} {a : Assume} {C : Checked} {os : Os} {f : FuncId} {fn : Func} {s : ChangeSpec} {conds : List PathCond} {apart fresh handsOn again : Bool} {X : World → Array Value → Prop}
    (hX : ∀ (w w' : World) (args : Array Value), w.heap = w'.heap → X w args → X w' args)
    (ow : ownKnob C.prog.godebug = none) (started : os.Started) (noInit : C.prog.inits.idxOf? f = none) (hfn : C.prog.funcs[f]? = some fn)
    (witness : ∃ (w : World) (tape : Tape) (i : Input), w.os = os ∧ (w.forCall tape i).Shaped C.prog ∧ i.vars = [] ∧ Input.okWide C.prog (w.forCall tape i) .any w.heap.size f i ∧
      ((s.pre enc C.prog fn conds apart (w.forCall tape i).memory i.args ∧ X (w.forCall tape i).memory i.args) ∧ sizedMet enc C.prog fn (OpenSpec.ofChange s) apart (w.forCall tape i).memory i.args) ∧ a.holds C.prog (lone (Frame.enter C.prog f i.args .normal) [] (w.forCall tape i)))
    (contract : ∀ (W : World) (base : Nat) (args : Array Value) (ds gs : List (DataW H)) (before : List MemPlace),
      (∀ (j : Nat) t v, fn.params[j]? = some t → args[j]? = some v → Value.okWide C.prog W .any base t v) →
      DataW.Whole enc C.prog fn.params.toList s.vars apart W args.toList ds gs before →
      (DataW.weightsEach C.prog (fn.params.toList ++ s.plain.varTypes C.prog) (ds ++ gs)).all (· ≤ reachBytes) = true → X W args → W.ShapedOpen C.prog →
      Calls C.prog f args W fun e W' => ∃ v, e = .returned v ∧ s.post enc C.prog fn apart fresh handsOn again W args v W') :
    ReturnsInHanded a C os f .any (fun w args => (s.pre enc C.prog fn conds apart w args ∧ X w args) ∧ sizedMet enc C.prog fn (OpenSpec.ofChange s) apart w args) (s.post enc C.prog fn apart fresh handsOn again) := by
  refine returnsInHanded_of_calls ow started noInit witness ?_
  intro w tape i _ hsh _ hok hpre _
  obtain ⟨_, _, _, fn', hfn', _, _, _, _, hval⟩ := hok
  have e : fn' = fn := Option.some.inj (hfn'.symm.trans hfn)
  subst e
  obtain ⟨⟨⟨ds, gs, before, hw, _⟩, hx⟩, hz⟩ := hpre
  have hw' := DataW.Whole.of_heap (w' := w.forCall tape i) (by rfl) hw
  refine (contract (w.forCall tape i) w.heap.size i.args ds gs before hval hw' (hz.weights hw) (hX _ _ _ (by rfl) hx) hsh).mono fun e W' ⟨v, he, hp⟩ => ?_
  subst he
  exact ChangeSpec.post_blind hp
theorem cIn3 : Tryd.prog.cellsOf 57 = 3 := by kernel_rfl
theorem i6_wf {m : Int} (h : (Lit.int .i64 m).wf = true) : Cd.I6 m := Pl.bd_of_wf h
theorem in_cells {H : Type} {enc : TypeId × Value → H} {W : World} {n : Nat} {cs : List Value} {y : DataW H × List MemPlace} (hl : cs.length = 3) (h2 : DataW.trod enc Tryd.prog W 0 (fun _ => true) true n 57 cs = some y) : ∃ i : Cd.In, cs = [.int .i64 i.op, .int .i64 i.n, .int .i64 i.m] ∧ i.Ok := by
  obtain ⟨xs, k, hk, hxy, _, hxl, hf⟩ := DataW.trod_struct Tryd.underlying57 h2
  match xs, hxl, cs, hl with
  | [y0, y1, y2], _, [v0, v1, v2], _ =>
    have g0 := hf 0 _ rfl
    have g1 := hf 1 _ rfl
    have g2 := hf 2 _ rfl
    simp [cI1, cI4] at g0 g1 g2
    obtain ⟨a0, b0, d0, wf0⟩ := DataW.trod_int Tryd.underlying3 g0
    obtain ⟨a1, b1, d1, wf1⟩ := DataW.trod_int Tryd.underlying2 g1
    obtain ⟨a2, b2, d2, wf2⟩ := DataW.trod_int Tryd.underlying2 g2
    simp at b0 b1 b2
    subst b0 b1 b2
    exact ⟨⟨a0, a1, a2⟩, rfl, i6_wf wf0, i6_wf wf1, i6_wf wf2⟩
/-- An argument that is an instruction. -/
theorem arg_in {H : Type} {enc : TypeId × Value → H} {W : World} {v : Value} {d : DataW H} {p : List MemPlace} {base : Nat}
    (hv : Value.okWide Tryd.prog W .any base 57 v)
    (h : ∃ fuel, DataW.trod enc Tryd.prog W 0 (fun _ => true) true fuel 57 v.cells.toList = some (d, p)) : ∃ i : Cd.In, v = inV i ∧ i.Ok := by
  obtain ⟨cs, rfl, hc⟩ := okWide_struct Tryd.underlying57 hv
  rw [cIn3] at hc
  obtain ⟨fuel, hf⟩ := h
  have e0 : (Value.agg cs).cells.toList = cs.toList := by simp [Value.cells]
  rw [e0] at hf
  obtain ⟨i, hi, ok⟩ := in_cells (by simpa using hc) hf
  refine ⟨i, ?_, ok⟩
  have : cs = #[.int .i64 i.op, .int .i64 i.n, .int .i64 i.m] := by
    cases cs with | mk l => simp at hi; rw [hi]
  rw [this]
end Go.Proofs.YtodpdnidinnjjaaDoor
