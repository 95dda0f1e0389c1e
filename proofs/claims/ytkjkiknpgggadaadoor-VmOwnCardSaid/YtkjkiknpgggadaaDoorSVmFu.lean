/- Layer 8: what the rows are given by their own condition on the listed tables; arguments that are instructions and codes. -/
/- Layer 9: what the rows are given by their own condition on the listed tables. -/
/- Layer 8: arguments that are codes, and slices of codes: what their readings give. -/
/- Layer 9: arguments that are slices of numbers: the numbers are of 64 bits. -/
/- Layer 9: an argument that is a slice of codes: how long it and its codes are. -/
import Derived.Test.YtkjkiknpgggadaaDoorSCdI
import Derived.Test.YtkjkiknpgggadaaDoorRows
import Derived.Test.YtkjkiknpgggadaaDoorSCdA
import Derived.WalkKit
import Derived.WalkMore
import Derived.WalkSpells
import Derived.WalkLawsBesides
import Derived.Shelf.Small.Wraps
import Derived.Shelf.Strings.Prefix
import Derived.Test.YtkjkiknpgggadaaDoorProg
import Derived.Test.YtkjkiknpgggadaaDoorSVmM
import Derived.ProofKit
import Derived.LaidMore
import Derived.OpenShut
import Derived.Stop.Joined
import Derived.Stop.LaidErr
import Derived.Lib.LaidTab
import Derived.ShutString
import Derived.ChangeOld
import Derived.Below
import Derived.Lay
import Derived.SizedLaws
import Derived.Shelf.Vars
import Derived.Test.YtkjkiknpgggadaaDoorSWordsPl
import Derived.Test.YtkjkiknpgggadaaDoorSVmQu
namespace Go.Proofs.YtkjkiknpgggadaaDoor
open Go.ChangeShapes Go.WideShapes Go.ChangeAt Go.RowKit
set_option maxRecDepth 100000

theorem own : ownKnob Tryd.prog.godebug = none := by kernel_rfl
theorem laidOut : laidOutB Tryd.prog = true := by kernel_rfl
theorem lt_of_var {P : Program} {w : World} {n : String} {g : Nat} {cs : Array Value} (hg : P.globalNamed n = some g) (hv : w.var? P n = some cs) : g < w.heap.size := by
  unfold World.var? at hv
  rw [hg] at hv
  simp only [Option.bind_some] at hv
  rcases Nat.lt_or_ge g w.heap.size with h | h
  · exact h
  · rw [Array.getElem?_eq_none h] at hv
    cases hv
theorem cI1 : Tryd.prog.cellsOf 3 = 1 := by kernel_rfl
theorem cI4 : Tryd.prog.cellsOf 2 = 1 := by kernel_rfl
theorem cB1 : Tryd.prog.cellsOf 4 = 1 := by kernel_rfl
theorem c26I : Tryd.prog.cellsOf 132 = 26 := by kernel_rfl
theorem c26P : Tryd.prog.cellsOf 135 = 52 := by kernel_rfl
theorem c2I : Tryd.prog.cellsOf 126 = 2 := by kernel_rfl
theorem gNums : Tryd.prog.globalNamed "parallax/code.numbers" = some 0 := by kernel_rfl
theorem gMoves : Tryd.prog.globalNamed "parallax/code.moves" = some 1 := by kernel_rfl
theorem tNums : (Tryd.prog.globals[0]?).map (·.type) = some 132 := by kernel_rfl
theorem tMoves : (Tryd.prog.globals[1]?).map (·.type) = some 135 := by kernel_rfl
def pairData {H : Type} (ls : List (List Int)) : DataW H := .agg (ls.map fun l => Lib.tabData .i64 l)
theorem numsData : (Rows.laid_parallax_code_numbers : DataW Unit) = Lib.tabData .i64 Cd.numsL := by kernel_rfl
def pairsL : List (List Int) := (List.range 26).map fun k => [Cd.takesL.getD k 0, Cd.leavesL.getD k 0]
theorem movesData : (Rows.laid_parallax_code_moves : DataW Unit) = pairData pairsL := by kernel_rfl
theorem cells_of_pairs {H : Type} {enc : TypeId × Value → H} {P : Program} {w : World} {base : Nat} {sp : Nat → Bool} {held : Bool} {fuel : Nat} {t e f : TypeId} {n : Nat} {cs : List Value} {ls : List (List Int)} {p : List MemPlace}
    (ht : P.underlying t = some (.array n e)) (he : P.underlying e = some (.array 2 f)) (hf : P.underlying f = some (.int .i64)) (hcf : P.cellsOf f = 1) (hce : P.cellsOf e = 2) (hct : P.cellsOf t = n * 2)
    (h : DataW.trod enc P w base sp held fuel t cs = some (pairData ls, p)) : ∀ i l, i < n → ls[i]? = some l → (cs.drop (i * 2)).take 2 = l.map fun z => Value.int .i64 z := by
  intro i l hi hl'
  cases fuel with
  | zero => simp [DataW.trod] at h
  | succ fuel =>
    simp only [DataW.trod, ht, hce, hct] at h
    split at h
    · rename_i hl
      obtain ⟨xs, hm, hx⟩ := Option.map_eq_some_iff.1 h
      have hxs : xs.map (·.1) = ls.map fun l => (Lib.tabData .i64 l : DataW H) := by
        have := congrArg Prod.fst hx
        simpa [pairData] using this
      obtain ⟨b, hb, hg⟩ := Lib.mapM_at hm i i (by simp [hi])
      have h2 : (xs.map (·.1))[i]? = some b.1 := by simp [hb]
      rw [hxs, List.getElem?_map, hl'] at h2
      have e1 : b.1 = Lib.tabData .i64 l := (Option.some.inj h2).symm
      have hg' : DataW.trod enc P w base sp held fuel e ((cs.drop (i * 2)).take 2) = some (Lib.tabData .i64 l, b.2) := by rw [← e1]; exact hg
      exact Lib.cells_of_tab he hf hcf hce hg'
    · cases h
theorem var_cell {W : World} {n : String} {g : Nat} {cs : Array Value} (hg : Tryd.prog.globalNamed n = some g) (hv : W.var? Tryd.prog n = some cs) (i : Nat) : W.cell? ⟨g, i, none⟩ = cs[i]? := World.var?_cell hg hv i
theorem of_listed_shaped {H : Type} {enc : TypeId × Value → H} {a : Assume} {C : Checked} {os : Os} {f : FuncId} {fn : Func} {s : ChangeSpec} {conds : List PathCond} {apart fresh handsOn again : Bool} {X : World → Array Value → Prop}
    (hX : ∀ (w w' : World) (args : Array Value), w.heap = w'.heap → X w args → X w' args)
    (ow : ownKnob C.prog.godebug = none) (started : os.Started) (noInit : C.prog.inits.idxOf? f = none) (hfn : C.prog.funcs[f]? = some fn)
    (witness : ∃ (w : World) (tape : Tape) (i : Input), w.os = os ∧ (w.forCall tape i).Shaped C.prog ∧ i.vars = [] ∧ Input.okWide C.prog (w.forCall tape i) .any w.heap.size f i ∧
      ((s.pre enc C.prog fn conds apart (w.forCall tape i).memory i.args ∧ X (w.forCall tape i).memory i.args) ∧ sizedMet enc C.prog fn (OpenSpec.ofChange s) apart (w.forCall tape i).memory i.args) ∧ a.holds C.prog (lone (Frame.enter C.prog f i.args .normal) [] (w.forCall tape i)))
    (contract : ∀ (W : World) (base : Nat) (args : Array Value) (ds gs : List (DataW H)) (before : List MemPlace),
      (∀ (j : Nat) t v, fn.params[j]? = some t → args[j]? = some v → Value.okWide C.prog W .any base t v) →
      DataW.Whole enc C.prog fn.params.toList s.vars apart W args.toList ds gs before →
      (DataW.weightsEach C.prog (fn.params.toList ++ s.plain.varTypes C.prog) (ds ++ gs)).all (· ≤ reachBytes) = true → X W args → W.ShapedOpen C.prog →
      Calls C.prog f args W fun e W' => ∃ v, e = .returned v ∧ s.post enc C.prog fn apart fresh handsOn again W args v W') :
    ReturnsInHanded a C os f .any (fun w args => (s.pre enc C.prog fn conds apart w args ∧ X w args) ∧ sizedMet enc C.prog fn (OpenSpec.ofChange s) apart w args) (s.post enc C.prog fn apart fresh handsOn again) := by
  refine returnsInHanded_of_calls ow started noInit witness ?_
  intro w tape i _ hsh _ hok hpre _
  obtain ⟨_, _, _, fn', hfn', _, _, _, _, hval⟩ := hok
  have e : fn' = fn := Option.some.inj (hfn'.symm.trans hfn)
  subst e
  obtain ⟨⟨⟨ds, gs, before, hw, _⟩, hx⟩, hz⟩ := hpre
  have hw' := DataW.Whole.of_heap (w' := w.forCall tape i) (by rfl) hw
  refine (contract (w.forCall tape i) w.heap.size i.args ds gs before hval hw' (hz.weights hw) (hX _ _ _ (by rfl) hx) hsh).mono fun e W' ⟨v, he, hp⟩ => ?_
  subst he
  exact ChangeSpec.post_blind hp
theorem cIn3 : Tryd.prog.cellsOf 47 = 3 := by kernel_rfl
theorem i6_wf {m : Int} (h : (Lit.int .i64 m).wf = true) : Cd.I6 m := Pl.bd_of_wf h
theorem in_cells {H : Type} {enc : TypeId × Value → H} {W : World} {n : Nat} {cs : List Value} {y : DataW H × List MemPlace} (hl : cs.length = 3) (h2 : DataW.trod enc Tryd.prog W 0 (fun _ => true) true n 47 cs = some y) : ∃ i : Cd.In, cs = [.int .i64 i.op, .int .i64 i.n, .int .i64 i.m] ∧ i.Ok := by
  obtain ⟨xs, k, hk, hxy, _, hxl, hf⟩ := DataW.trod_struct Tryd.underlying47 h2
  match xs, hxl, cs, hl with
  | [y0, y1, y2], _, [v0, v1, v2], _ =>
    have g0 := hf 0 _ rfl
    have g1 := hf 1 _ rfl
    have g2 := hf 2 _ rfl
    simp [cI1, cI4] at g0 g1 g2
    obtain ⟨a0, b0, d0, wf0⟩ := DataW.trod_int Tryd.underlying3 g0
    obtain ⟨a1, b1, d1, wf1⟩ := DataW.trod_int Tryd.underlying2 g1
    obtain ⟨a2, b2, d2, wf2⟩ := DataW.trod_int Tryd.underlying2 g2
    simp at b0 b1 b2
    subst b0 b1 b2
    exact ⟨⟨a0, a1, a2⟩, rfl, i6_wf wf0, i6_wf wf1, i6_wf wf2⟩
end Go.Proofs.YtkjkiknpgggadaaDoor

namespace Go.Proofs.YtkjkiknpgggadaaDoor
open Go.ChangeShapes Go.WideShapes Go.ChangeAt Go.RowKit
set_option maxRecDepth 100000

abbrev L9 : List (String × DataW Unit) := [("parallax/code.numbers", Rows.laid_parallax_code_numbers), ("parallax/code.moves", Rows.laid_parallax_code_moves)]
theorem t9_of {W : World} (h : laidMetH Tryd.prog L9 W) : Tn W.heap.size W ∧ Tm W.heap.size W := by
  rw [MakeChecks.laidMetH_plain _ _ _ (by kernel_rfl)] at h
  have h6 := laidMet.tail h
  have tn : Tn W.heap.size W := by
    have h' : laidMet Tryd.prog [("parallax/code.numbers", Rows.laid_parallax_code_numbers), ("parallax/code.moves", Rows.laid_parallax_code_moves)] W := h
    rw [numsData] at h'
    have ht := Lib.tabIs_of_head gNums tNums Tryd.underlying132 Tryd.underlying3 cI1 c26I h'
    exact ⟨lt_of_var gNums ht, fun k hk => ht.cell gNums k hk⟩
  have tm : Tm W.heap.size W := by
    rw [movesData] at h6
    obtain ⟨ps, ⟨g', t', cs, fuel, p, q, hg', ht', hvar, hd, _, _⟩, _⟩ := h6
    obtain rfl := Option.some.inj (gMoves.symm.trans hg')
    obtain rfl := Option.some.inj (tMoves.symm.trans ht')
    have hc := cells_of_pairs Tryd.underlying135 Tryd.underlying126 Tryd.underlying3 cI1 c2I c26P hd
    have key : ∀ k : Nat, k < 26 → cs[k * 2]? = some (.int .i64 (Cd.takesL.getD k 0)) ∧ cs[k * 2 + 1]? = some (.int .i64 (Cd.leavesL.getD k 0)) := fun k hk => by
      have := hc k [Cd.takesL.getD k 0, Cd.leavesL.getD k 0] hk (by simp [pairsL, hk])
      have a := congrArg (·[0]?) this
      have b := congrArg (·[1]?) this
      simp [List.getElem?_drop] at a b
      exact ⟨by simpa using a, by simpa using b⟩
    exact ⟨lt_of_var gMoves hvar, fun k hk => (var_cell gMoves hvar _).trans (key k hk).1, fun k hk => (var_cell gMoves hvar _).trans (key k hk).2⟩
  exact ⟨tn, tm⟩
end Go.Proofs.YtkjkiknpgggadaaDoor

namespace Go.Proofs.YtkjkiknpgggadaaDoor
open Go.ChangeShapes Go.WideShapes Go.ChangeAt Go.RowKit
set_option maxRecDepth 100000

theorem add_plain6 {b o n : Nat} : (⟨b, o, none⟩ : Addr).add n = ⟨b, o + n, none⟩ := by unfold Addr.add; split <;> simp_all
theorem in_weightsAll {H : Type} {P : Program} {e : TypeId} {n : Nat} {d : DataW H} : ∀ {ds : List (DataW H)}, d ∈ ds → n ∈ d.weights P e → n ∈ DataW.weightsAll P e ds
  | [], h, _ => by cases h
  | x :: r, h, hn => by
    rw [DataW.weightsAll, List.mem_append]
    rcases List.mem_cons.1 h with rfl | h
    · exact .inl hn
    · exact .inr (in_weightsAll h hn)
theorem short_of {H : Type} {P : Program} {t e : TypeId} {elems rest : List (DataW H)} (ht : P.underlying t = some (.slice e)) (hb : 0 < P.bytesOf e) (hw : ∀ q, q ∈ (DataW.slice elems rest : DataW H).weights P t → q ≤ reachBytes) : elems.length ≤ 1000000000000000 := by
  rw [DataW.weights, ht] at hw
  have h := hw _ (List.mem_cons_self ..)
  have h2 : elems.length ≤ (elems.length + rest.length) * P.bytesOf e := Nat.le_trans (Nat.le_add_right _ _) (Nat.le_mul_of_pos_right _ hb)
  have h3 : reachBytes ≤ 1000000000000000 := by decide
  omega
theorem list_of_each {α : Type} {Q : Nat → α → Prop} : ∀ n, (∀ i, i < n → ∃ y, Q i y) → ∃ l : List α, l.length = n ∧ ∀ i y, l[i]? = some y → Q i y
  | 0, _ => ⟨[], rfl, fun i y h => by simp at h⟩
  | n + 1, h => by
    obtain ⟨l, hl, hq⟩ := list_of_each n fun i hi => h i (by omega)
    obtain ⟨y, hy⟩ := h n (by omega)
    refine ⟨l ++ [y], by simp [hl], fun i z hz => ?_⟩
    by_cases c : i < n
    · rw [List.getElem?_append_left (by omega)] at hz
      exact hq i z hz
    · have hi : i < n + 1 := by
        have := (List.getElem?_eq_some_iff.1 hz).1
        simp [hl] at this
        omega
      obtain rfl : i = n := by omega
      rw [List.getElem?_append_right (by omega)] at hz
      simp [hl] at hz
      subst hz
      exact hy
theorem sln_open {H : Type} {enc : TypeId × Value → H} {P : Program} {W : World} {t e : TypeId} {fuel c : Nat} {v : Value} {z : DataW H × List MemPlace} (ht : P.underlying t = some (.slice e)) (he : P.cellsOf e = c)
    (hf : DataW.trod enc P W 0 (fun _ => true) true fuel t [v] = some z) : v = .slice none 0 0 ∨ ∃ (x : Addr) (cap : Nat) (elems rest : List (DataW H × List MemPlace)) (n : Nat), fuel = n + 1 ∧ v = .slice (some x) elems.length cap ∧ elems.length ≤ cap ∧ z.1 = .slice (elems.map (·.1)) (rest.map (·.1)) ∧
      ∀ i, (hi : i < elems.length) → ∃ cs, cs.length = c ∧ (∀ j, (hj : j < cs.length) → W.cell? ((x.add (i * c)).add j) = some cs[j]) ∧ DataW.trod enc P W 0 (fun _ => true) true n e cs = some elems[i] := by
  rcases DataW.trod_slice ht hf with ⟨hcs, _⟩ | ⟨x, len, cp, elems, rest, n, hn, hcs, hx, _, hl, hm, hlen, hel, _, _⟩
  · simp at hcs
    exact .inl hcs
  · simp at hcs
    subst hcs
    subst hlen
    refine .inr ⟨x, cp, elems, rest, n, hn, rfl, hl, (Prod.ext_iff.1 hx).1, fun i hi => ?_⟩
    have h1 := hel i hi
    rw [List.getElem?_eq_getElem hi, he, Option.bind_eq_some_iff] at h1
    obtain ⟨cs', h2, h3⟩ := h1
    obtain ⟨_, hlen', hcell⟩ := World.cells?_some h2
    refine ⟨cs', hlen', fun j hj => ?_, h3⟩
    have := hcell j (by omega)
    rw [this]
    exact List.getElem?_eq_getElem hj
theorem part_weights {H : Type} {P : Program} {t e : TypeId} {elems rest : List (DataW H)} {d : DataW H} {B : Nat} (ht : P.underlying t = some (.slice e)) (hw : ∀ q, q ∈ (DataW.slice elems rest : DataW H).weights P t → q ≤ B) (hd : d ∈ elems) : ∀ q, q ∈ d.weights P e → q ≤ B := by
  intro q hq
  refine hw q ?_
  rw [DataW.weights, ht]
  exact List.mem_cons_of_mem _ (List.mem_append.2 (.inl (in_weightsAll hd hq)))
theorem cCo4 : Tryd.prog.cellsOf 41 = 4 := by kernel_rfl
theorem cInL : Tryd.prog.cellsOf 39 = 1 := by kernel_rfl
theorem bIn3 : 0 < Tryd.prog.bytesOf 47 := of_decide_eq_true (by kernel_rfl)
theorem bCo4 : 0 < Tryd.prog.bytesOf 41 := of_decide_eq_true (by kernel_rfl)
def SlI (W : World) (v : Value) (l : List Cd.In) : Prop := ∃ a c, v = .slice a l.length c ∧ l.length ≤ c ∧ InS W.heap.size W a l ∧ ∀ i, i ∈ l → i.Ok
theorem ins_open {H : Type} {enc : TypeId × Value → H} {W : World} (fuel : Nat) (v : Value) (z : DataW H × List MemPlace) (hf : DataW.trod enc Tryd.prog W 0 (fun _ => true) true fuel 39 [v] = some z) (hw : ∀ q, q ∈ z.1.weights Tryd.prog 39 → q ≤ reachBytes) : ∃ l, SlI W v l := by
  rcases sln_open Tryd.underlying39 cIn3 hf with rfl | ⟨x, cap, elems, rest, n, hn, rfl, hcap, hz, hel⟩
  · exact ⟨[], _, _, rfl, by simp, ⟨by simp, fun h => absurd h (Nat.lt_irrefl 0)⟩, fun i h => (by cases h)⟩
  · rw [hz] at hw
    have hlen := short_of Tryd.underlying39 bIn3 hw
    rw [List.length_map] at hlen
    have each : ∀ i, i < elems.length → ∃ y : Cd.In, y.Ok ∧ W.cell? ((x.add (i * 3)).add 0) = some (.int .i64 y.op) ∧ W.cell? ((x.add (i * 3)).add 1) = some (.int .i64 y.n) ∧ W.cell? ((x.add (i * 3)).add 2) = some (.int .i64 y.m) := by
      intro i hi
      obtain ⟨cs, hcl, hcell, htr⟩ := hel i hi
      obtain ⟨y, rfl, ok⟩ := in_cells hcl htr
      exact ⟨y, ok, hcell 0 (by simp), hcell 1 (by simp), hcell 2 (by simp)⟩
    obtain ⟨l, hll, hQ⟩ := list_of_each elems.length each
    refine ⟨l, some x, cap, by rw [hll], by omega, ⟨by omega, fun h0 => ?_⟩, fun i hi => ?_⟩
    · obtain ⟨_, _, e0, _⟩ := each 0 (by omega)
      have hsp : ∃ b o, x = ⟨b, o, none⟩ := by
        obtain ⟨bb, oo, ss⟩ := x
        have : ss = none := by simpa [Addr.add] using World.cell?_spot e0
        exact ⟨bb, oo, by rw [this]⟩
      obtain ⟨g, off, rfl⟩ := hsp
      simp only [add_plain6, Nat.add_zero] at hQ e0
      refine ⟨g, off, rfl, World.block_lt_of_cell? W _ e0, fun j i hj => ?_⟩
      have q := hQ j i hj
      exact ⟨q.2.1, q.2.2.1, q.2.2.2⟩
    · obtain ⟨j, hj⟩ := List.getElem?_of_mem hi
      exact (hQ j i hj).1
end Go.Proofs.YtkjkiknpgggadaaDoor

namespace Go.Proofs.YtkjkiknpgggadaaDoor
open Go.ChangeShapes Go.WideShapes Go.ChangeAt Go.RowKit
set_option maxRecDepth 100000

theorem nums_open6 {H : Type} {enc : TypeId × Value → H} {W : World} (fuel : Nat) (v : Value) (z : DataW H × List MemPlace) (hf : DataW.trod enc Tryd.prog W 0 (fun _ => true) true fuel 23 [v] = some z) : ∃ (a : Option Addr) (l : List Int) (c : Nat), v = .slice a l.length c ∧ NuS W.heap.size W a l ∧ (a = none → c = 0) ∧ Vm.A6 l := by
  rcases sln_open Tryd.underlying23 cI4 hf with rfl | ⟨x, cap, elems, rest, n, hn, rfl, hcap, hz, hel⟩
  · exact ⟨none, [], 0, rfl, (fun h => absurd h (Nat.lt_irrefl 0)), fun _ => rfl, Vm.A6.nil⟩
  · have each : ∀ i, i < elems.length → ∃ y : Int, W.cell? ((x.add (i * 1)).add 0) = some (.int .i64 y) ∧ Cd.I6 y := by
      intro i hi
      obtain ⟨cs, hcl, hcell, htr⟩ := hel i hi
      match cs, hcl with
      | [v0], _ =>
        obtain ⟨a0, b0, d0, wf0⟩ := DataW.trod_int Tryd.underlying2 htr
        simp at b0
        subst b0
        exact ⟨a0, hcell 0 (by simp), i6_wf wf0⟩
    obtain ⟨l, hll, hQ⟩ := list_of_each elems.length each
    refine ⟨some x, l, cap, by rw [hll], fun h0 => ?_, (fun h => by cases h), fun y hy => ?_⟩
    · obtain ⟨_, e0, _⟩ := each 0 (by omega)
      have hsp : ∃ b o, x = ⟨b, o, none⟩ := by
        obtain ⟨bb, oo, ss⟩ := x
        have : ss = none := by simpa [Addr.add] using World.cell?_spot e0
        exact ⟨bb, oo, by rw [this]⟩
      obtain ⟨g, off, rfl⟩ := hsp
      simp only [add_plain6, Nat.add_zero, Nat.mul_one] at hQ e0
      exact ⟨g, off, rfl, World.block_lt_of_cell? W _ e0, fun j i hj => (hQ j i hj).1⟩
    · obtain ⟨i, hi⟩ := List.getElem?_of_mem hy
      exact (hQ i y hi).2
theorem arg_nums6 {H : Type} {enc : TypeId × Value → H} {W : World} {v : Value} {d : DataW H} {p : List MemPlace} {base : Nat}
    (hv : Value.okWide Tryd.prog W .any base 23 v)
    (h : ∃ fuel, DataW.trod enc Tryd.prog W 0 (fun _ => true) true fuel 23 v.cells.toList = some (d, p)) : ∃ (a : Option Addr) (l : List Int) (c : Nat), v = .slice a l.length c ∧ NuS W.heap.size W a l ∧ (a = none → c = 0) ∧ Vm.A6 l := by
  obtain ⟨a, len, cap, rfl⟩ := okWide_slice Tryd.underlying23 hv
  obtain ⟨fuel, hf⟩ := h
  exact nums_open6 fuel _ (d, p) (by simpa [Value.cells] using hf)
end Go.Proofs.YtkjkiknpgggadaaDoor

namespace Go.Proofs.YtkjkiknpgggadaaDoor
open Go.ChangeShapes Go.WideShapes Go.ChangeAt Go.RowKit
set_option maxRecDepth 100000
set_option linter.unusedVariables false
set_option linter.unusedSimpArgs false

theorem bCo48' : Tryd.prog.bytesOf 41 = 48 := by kernel_rfl
theorem bIn24' : Tryd.prog.bytesOf 47 = 24 := by kernel_rfl
theorem ins_short {H : Type} {enc : TypeId × Value → H} {W : World} (fuel : Nat) (v : Value) (z : DataW H × List MemPlace) (hf : DataW.trod enc Tryd.prog W 0 (fun _ => true) true fuel 39 [v] = some z) (hw : ∀ q, q ∈ z.1.weights Tryd.prog 39 → q ≤ reachBytes) {a : Option Addr} {n c : Nat} (e : v = .slice a n c) : n * 24 ≤ 140737488351232 := by
  rcases sln_open Tryd.underlying39 cIn3 hf with h | ⟨x, cap, elems, rest, m, hn, h, hcap, hz, hel⟩
  · rw [h] at e
    cases e
    omega
  · rw [h] at e
    cases e
    rw [hz, DataW.weights, Tryd.underlying39] at hw
    have h := hw _ (List.mem_cons_self ..)
    rw [bIn24', List.length_map] at h
    have h3 : reachBytes = 140737488351232 := rfl
    rw [h3] at h
    omega
theorem cos_short3 {H : Type} {enc : TypeId × Value → H} {W : World} (fuel : Nat) (v : Value) (z : DataW H × List MemPlace) (hf : DataW.trod enc Tryd.prog W 0 (fun _ => true) true fuel 22 [v] = some z) (hw : ∀ q, q ∈ z.1.weights Tryd.prog 22 → q ≤ reachBytes) {a : Option Addr} {n c : Nat} (e : v = .slice a n c) : n * 48 ≤ 140737488351232 := by
  rcases sln_open Tryd.underlying22 cCo4 hf with h | ⟨x, cap, elems, rest, m, hn, h, hcap, hz, hel⟩
  · rw [h] at e
    cases e
    omega
  · rw [h] at e
    cases e
    rw [hz, DataW.weights, Tryd.underlying22] at hw
    have h := hw _ (List.mem_cons_self ..)
    rw [bCo48', List.length_map] at h
    have h3 : reachBytes = 140737488351232 := rfl
    rw [h3] at h
    omega
theorem co_cells3 {H : Type} {enc : TypeId × Value → H} {W : World} {n : Nat} {cs : List Value} {y : DataW H × List MemPlace} (hl : cs.length = 4) (h2 : DataW.trod enc Tryd.prog W 0 (fun _ => true) true n 41 cs = some y) (hw : ∀ q, q ∈ y.1.weights Tryd.prog 41 → q ≤ reachBytes) :
    ∃ (c : Cd.Co) (a : Option Addr) (ic : Nat), cs = [.slice a c.ins.length ic, .int .i64 c.cells, .int .i64 c.params, .bool c.ans] ∧ c.ins.length ≤ ic ∧ InS W.heap.size W a c.ins ∧ c.Ok ∧ c.ins.length * 24 ≤ 140737488351232 := by
  obtain ⟨xs, k, hk, hxy, _, hxl, hf⟩ := DataW.trod_struct Tryd.underlying41 h2
  match xs, hxl, cs, hl with
  | [y0, y1, y2, y3], _, [v0, v1, v2, v3], _ =>
    have g0 := hf 0 _ rfl
    have g1 := hf 1 _ rfl
    have g2 := hf 2 _ rfl
    have g3 := hf 3 _ rfl
    simp [cI1, cInL, cB1] at g0 g1 g2 g3
    obtain ⟨a1, b1, d1, wf1⟩ := DataW.trod_int Tryd.underlying3 g1
    obtain ⟨a2, b2, d2, wf2⟩ := DataW.trod_int Tryd.underlying3 g2
    obtain ⟨a3, b3, d3⟩ := DataW.trod_bool Tryd.underlying4 g3
    simp at b1 b2 b3
    subst b1 b2 b3
    have hd' : y.1 = .agg [y0.1, y1.1, y2.1, y3.1] := (Prod.ext_iff.1 hxy).1
    rw [hd', DataW.weights, Tryd.underlying41] at hw
    simp [DataW.weightsEach] at hw
    obtain ⟨l, a, ic, rfl, hc, hi, ok⟩ := ins_open k v0 y0 g0 (fun q hq => hw q (.inl hq))
    exact ⟨⟨l, a1, a2, a3⟩, a, ic, rfl, hc, hi, ⟨ok, i6_wf wf1, i6_wf wf2⟩, ins_short (enc := enc) (W := W) k _ y0 g0 (fun q hq => hw q (.inl hq)) rfl⟩
theorem cos_open3 {H : Type} {enc : TypeId × Value → H} {W : World} (fuel : Nat) (v : Value) (z : DataW H × List MemPlace) (hf : DataW.trod enc Tryd.prog W 0 (fun _ => true) true fuel 22 [v] = some z) (hw : ∀ q, q ∈ z.1.weights Tryd.prog 22 → q ≤ reachBytes) : ∃ (a : Option Addr) (l : List Cd.Co) (c : Nat), v = .slice a l.length c ∧ CoS W.heap.size W a l ∧ (∀ d, d ∈ l → d.Ok) ∧ ∀ d ∈ l, d.ins.length * 24 ≤ 140737488351232 := by
  rcases sln_open Tryd.underlying22 cCo4 hf with rfl | ⟨x, cap, elems, rest, n, hn, rfl, hcap, hz, hel⟩
  · exact ⟨none, [], 0, rfl, ⟨by simp, fun h => absurd h (Nat.lt_irrefl 0)⟩, (fun s h => by cases h), fun s h => by cases h⟩
  · rw [hz] at hw
    have hlen := short_of Tryd.underlying22 bCo4 hw
    rw [List.length_map] at hlen
    have each : ∀ i, i < elems.length → ∃ y : Cd.Co, (y.Ok ∧ y.ins.length * 24 ≤ 140737488351232) ∧ ∃ ia ic, W.cell? ((x.add (i * 4)).add 0) = some (.slice ia y.ins.length ic) ∧ W.cell? ((x.add (i * 4)).add 1) = some (.int .i64 y.cells) ∧ W.cell? ((x.add (i * 4)).add 2) = some (.int .i64 y.params) ∧ W.cell? ((x.add (i * 4)).add 3) = some (.bool y.ans) ∧ InS W.heap.size W ia y.ins ∧ y.ins.length ≤ ic := by
      intro i hi
      obtain ⟨cs, hcl, hcell, htr⟩ := hel i hi
      have key := part_weights Tryd.underlying22 hw (List.mem_map.2 ⟨elems[i], List.getElem_mem _, rfl⟩)
      obtain ⟨y, ia, ic, rfl, hc, hI, ok, ht⟩ := co_cells3 hcl htr key
      exact ⟨y, ⟨ok, ht⟩, ia, ic, hcell 0 (by simp), hcell 1 (by simp), hcell 2 (by simp), hcell 3 (by simp), hI, hc⟩
    obtain ⟨l, hll, hQ⟩ := list_of_each elems.length each
    refine ⟨some x, l, cap, by rw [hll], ⟨by omega, fun h0 => ?_⟩, fun s hs => ?_, fun s hs => ?_⟩
    · obtain ⟨_, _, _, _, e0, _⟩ := each 0 (by omega)
      have hsp : ∃ b o, x = ⟨b, o, none⟩ := by
        obtain ⟨bb, oo, ss⟩ := x
        have : ss = none := by simpa [Addr.add] using World.cell?_spot e0
        exact ⟨bb, oo, by rw [this]⟩
      obtain ⟨g, off, rfl⟩ := hsp
      simp only [add_plain6, Nat.add_zero] at hQ e0
      refine ⟨g, off, rfl, World.block_lt_of_cell? W _ e0, fun j c hj => ?_⟩
      obtain ⟨_, ia, ic, c0, c1, c2, c3, hI, hc⟩ := hQ j c hj
      exact ⟨ia, ic, c0, c1, c2, c3, hI, hc⟩
    · obtain ⟨i, hi⟩ := List.getElem?_of_mem hs
      exact (hQ i s hi).1.1
    · obtain ⟨i, hi⟩ := List.getElem?_of_mem hs
      exact (hQ i s hi).1.2
theorem arg_cos3 {H : Type} {enc : TypeId × Value → H} {W : World} {v : Value} {d : DataW H} {p : List MemPlace} {ts : List TypeId} {ds : List (DataW H)} {j base : Nat}
    (hv : Value.okWide Tryd.prog W .any base 22 v)
    (h : ∃ fuel, DataW.trod enc Tryd.prog W 0 (fun _ => true) true fuel 22 v.cells.toList = some (d, p))
    (hsz : (DataW.weightsEach Tryd.prog ts ds).all (· ≤ reachBytes) = true) (ht : ts[j]? = some 22) (hd : ds[j]? = some d) :
    ∃ (a : Option Addr) (l : List Cd.Co) (c : Nat), v = .slice a l.length c ∧ CoS W.heap.size W a l ∧ (∀ d, d ∈ l → d.Ok) ∧ l.length * 48 ≤ 140737488351232 ∧ ∀ d ∈ l, d.ins.length * 24 ≤ 140737488351232 := by
  obtain ⟨a, len, cap, rfl⟩ := okWide_slice Tryd.underlying22 hv
  obtain ⟨fuel, hf⟩ := h
  have key : ∀ q, q ∈ d.weights Tryd.prog 22 → q ≤ reachBytes := fun q hq => of_decide_eq_true (List.all_eq_true.1 hsz _ (DataW.weights_mem_each ht hd _ hq))
  have hf' : DataW.trod enc Tryd.prog W 0 (fun _ => true) true fuel 22 [.slice a len cap] = some (d, p) := by simpa [Value.cells] using hf
  obtain ⟨a', l, c, e, h1, h2, h3⟩ := cos_open3 fuel _ (d, p) hf' key
  exact ⟨a', l, c, e, h1, h2, cos_short3 (enc := enc) (W := W) fuel _ (d, p) hf' key e, h3⟩
end Go.Proofs.YtkjkiknpgggadaaDoor

