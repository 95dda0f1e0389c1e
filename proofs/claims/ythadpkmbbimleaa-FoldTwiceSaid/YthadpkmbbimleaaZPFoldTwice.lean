/- Layer 5: an argument that is an expression: what its reading gives. -/
/- FoldTwice: at every expression, whatever it is built of, the call answers true and leaves the expression as it was. No condition. -/
import Derived.Test.YthadpkmbbimleaaZFolT
import Derived.Test.YthadpkmbbimleaaZFolM
import Derived.SizedLaws
import Derived.Test.YthadpkmbbimleaaZFomA
import Derived.Test.YthadpkmbbimleaaZGrF
import Derived.Test.YthadpkmbbimleaaRows
namespace Go.Proofs.Ythadpkmbbimleaa
open Go.ChangeShapes Go.WideShapes Go.ChangeAt Go.RowKit
set_option maxRecDepth 100000

theorem list_of_each {α : Type} {Q : Nat → α → Prop} : ∀ n, (∀ i, i < n → ∃ y, Q i y) → ∃ l : List α, l.length = n ∧ ∀ i y, l[i]? = some y → Q i y
  | 0, _ => ⟨[], rfl, fun i y h => by simp at h⟩
  | n + 1, h => by
    obtain ⟨l, hl, hq⟩ := list_of_each n fun i hi => h i (by omega)
    obtain ⟨y, hy⟩ := h n (by omega)
    refine ⟨l ++ [y], by simp [hl], fun i z hz => ?_⟩
    by_cases c : i < n
    · rw [List.getElem?_append_left (by omega)] at hz
      exact hq i z hz
    · have hi : i < n + 1 := by
        have := (List.getElem?_eq_some_iff.1 hz).1
        simp [hl] at this
        omega
      obtain rfl : i = n := by omega
      rw [List.getElem?_append_right (by omega)] at hz
      simp [hl] at hz
      subst hz
      exact hy
theorem cEx4 : Try.prog.cellsOf 24 = 4 := by kernel_rfl
theorem cExI : Try.prog.cellsOf 3 = 1 := by kernel_rfl
theorem cExL : Try.prog.cellsOf 2 = 1 := by kernel_rfl
theorem cExS : Try.prog.cellsOf 9 = 1 := by kernel_rfl
theorem cExR : Try.prog.cellsOf 22 = 1 := by kernel_rfl
theorem ex_open {H : Type} {enc : TypeId × Value → H} {P : Program} {w : World} {base : Nat} {sp : Nat → Bool} {held : Bool} {e : TypeId} {f0 f1 f2 f3 : Field} {n : Nat} {cs : List Value} {y : DataW H × List MemPlace}
    (he : P.underlying e = some (.struct #[f0, f1, f2, f3])) (o0 : f0.offset = 0) (o1 : f1.offset = 1) (o2 : f2.offset = 2) (o3 : f3.offset = 3)
    (c0 : P.cellsOf f0.type = 1) (c1 : P.cellsOf f1.type = 1) (c2 : P.cellsOf f2.type = 1) (c3 : P.cellsOf f3.type = 1)
    (u0 : P.underlying f0.type = some (.int .i64)) (u1 : P.underlying f1.type = some .string) (u2 : P.underlying f2.type = some (.int .i64)) (hl : cs.length = 4)
    (h2 : DataW.trod enc P w base sp held n e cs = some y) :
    ∃ (k : Int) (s : List UInt8) (m : Int) (v : Value) (z : DataW H × List MemPlace) (n' : Nat), cs = [.int .i64 k, .string ⟨s.toArray⟩, .int .i64 m, v] ∧
      y.1 = .agg [.lit (.int .i64 k), .lit (.string s), .lit (.int .i64 m), z.1] ∧ (Lit.int .i64 k).wf = true ∧ (Lit.int .i64 m).wf = true ∧ n = n' + 1 ∧ DataW.trod enc P w base sp held n' f3.type [v] = some z := by
  obtain ⟨xs, k, hk, hxy, _, hxl, hf⟩ := DataW.trod_struct he h2
  match xs, hxl, cs, hl with
  | [y0, y1, y2, y3], _, [v0, v1, v2, v3], _ =>
    have g0 := hf 0 f0 rfl
    have g1 := hf 1 f1 rfl
    have g2 := hf 2 f2 rfl
    have g3 := hf 3 f3 rfl
    simp [o0, o1, o2, o3, c0, c1, c2, c3] at g0 g1 g2 g3
    obtain ⟨a0, b0, d0, wf0⟩ := DataW.trod_int u0 g0
    obtain ⟨a1, b1, d1, _⟩ := DataW.trod_string u1 g1
    obtain ⟨a2, b2, d2, wf2⟩ := DataW.trod_int u2 g2
    simp at b0 b1 b2
    subst b0 b1 b2
    refine ⟨a0, a1.data.toList, a2, v3, y3, k, rfl, ?_, wf0, wf2, hk, g3⟩
    rw [hxy]
    simp [d0, d1, d2]
/-- What the reading of a slice of expressions gives. -/
def SlE {H : Type} (W : World) (v : Value) (d : DataW H) (l : List Sx.Ex) : Prop :=
  (∃ a cap, v = .slice a l.length cap) ∧ ExS (fun _ => True) W v l ∧ (∀ x, x ∈ l → Fo.Rg x) ∧ ((∀ q, q ∈ d.weights Try.prog 22 → q ≤ reachBytes) → ∀ x, x ∈ l → Fo.Nl x)
theorem wf_rg {m : Int} (h : (Lit.int .i64 m).wf = true) : -9223372036854775808 ≤ m ∧ m ≤ 9223372036854775807 := Pl.bd_of_wf h
theorem reach_le {n : Nat} (h : n ≤ reachBytes) : n ≤ 9223372036854775807 := Nat.le_trans h (by decide)
theorem weights_expr {H : Type} (k : Int) (s : List UInt8) (m : Int) (d : DataW H) : (DataW.agg [.lit (.int .i64 k), .lit (.string s), .lit (.int .i64 m), d] : DataW H).weights Try.prog 24 = s.length :: d.weights Try.prog 22 := by
  rw [DataW.weights, Try.underlying24]
  simp [DataW.weightsEach, DataW.weights]
theorem sl_open {H : Type} {enc : TypeId × Value → H} {W : World} : ∀ (fuel : Nat) (v : Value) (z : DataW H × List MemPlace), DataW.trod enc Try.prog W 0 (fun _ => true) true fuel 22 [v] = some z → ∃ l, SlE W v z.1 l := by
  intro fuel
  induction fuel using Nat.strongRecOn with
  | _ fuel ih =>
  intro v z hf
  rcases DataW.trod_slice Try.underlying22 hf with ⟨hcs, _⟩ | ⟨x, len, c, elems, rest, n, hn, hcs, hx, _, hl, hm, hlen, hel, _, _⟩
  · simp at hcs
    subst hcs
    exact ⟨[], ⟨_, _, rfl⟩, .nil _ _, fun x h => by simp at h, fun _ x h => by simp at h⟩
  · simp at hcs
    subst hcs
    have hxd : z.1 = .slice (elems.map (·.1)) (rest.map (·.1)) := (Prod.ext_iff.1 hx).1
    have each : ∀ i, i < len → ∃ y : Sx.Ex, ∃ k s m u ll, y = .mk k s m ll ∧ W.cell? ((x.add (i * 4)).add 0) = some (.int .i64 k) ∧ W.cell? ((x.add (i * 4)).add 1) = some (.string ⟨(s : List UInt8).toArray⟩) ∧ W.cell? ((x.add (i * 4)).add 2) = some (.int .i64 m) ∧ W.cell? ((x.add (i * 4)).add 3) = some u ∧ ExS (fun _ => True) W u ll ∧ Fo.Rg y ∧ ((∀ q, q ∈ z.1.weights Try.prog 22 → q ≤ reachBytes) → Fo.Nl y) := by
      intro i hi
      have h1 := hel i hi
      rw [List.getElem?_eq_getElem (by omega), cEx4, Option.bind_eq_some_iff] at h1
      obtain ⟨cs', h2, h3⟩ := h1
      obtain ⟨_, hlen', hcell⟩ := World.cells?_some h2
      obtain ⟨k, s, m, u, z', n', rfl, hy, wk, wm, hn', hz⟩ := ex_open Try.underlying24 rfl rfl rfl rfl cExI cExS cExL cExR Try.underlying3 Try.underlying9 Try.underlying2 hlen' h3
      obtain ⟨ll, ⟨a', cap', hu⟩, hs, hr, hw⟩ := ih n' (by omega) u z' hz
      refine ⟨.mk k s m ll, k, s, m, u, ll, rfl, by simpa using hcell 0 (by omega), by simpa using hcell 1 (by omega), by simpa using hcell 2 (by omega), by simpa using hcell 3 (by omega), hs, .mk _ _ _ _ (wf_rg wm).1 (wf_rg wm).2 hr, fun hq => ?_⟩
      have key : ∀ q, q ∈ (DataW.agg [.lit (.int .i64 k), .lit (.string s), .lit (.int .i64 m), z'.1] : DataW H).weights Try.prog 24 → q ≤ reachBytes := by
        intro q hq'
        refine hq q ?_
        rw [hxd, DataW.weights, Try.underlying22]
        refine List.mem_cons_of_mem _ (List.mem_append.2 (.inl (in_weightsAll (d := elems[i].1) ?_ (by rw [hy]; exact hq'))))
        exact List.mem_map.2 ⟨elems[i], List.getElem_mem _, rfl⟩
      rw [weights_expr] at key
      exact .mk _ _ _ _ (reach_le (key _ (List.mem_cons_self ..))) (hw fun q hq' => key q (List.mem_cons_of_mem _ hq'))
    obtain ⟨l, hll, hQ⟩ := list_of_each len each
    have hrg : ∀ y, y ∈ l → Fo.Rg y := fun y hy => by
      obtain ⟨i, hi⟩ := List.getElem?_of_mem hy
      obtain ⟨_, _, _, _, _, _, _, _, _, _, _, h, _⟩ := hQ i y hi
      exact h
    have hnl : (∀ q, q ∈ z.1.weights Try.prog 22 → q ≤ reachBytes) → ∀ y, y ∈ l → Fo.Nl y := fun hq y hy => by
      obtain ⟨i, hi⟩ := List.getElem?_of_mem hy
      obtain ⟨_, _, _, _, _, _, _, _, _, _, _, _, h⟩ := hQ i y hi
      exact h hq
    refine ⟨l, ⟨_, _, by rw [hll]⟩, ?_, hrg, hnl⟩
    by_cases h0 : len = 0
    · subst h0
      have : l = [] := List.length_eq_zero_iff.1 hll
      subst this
      exact .nil _ _
    · obtain ⟨b, off, spot⟩ := x
      have hspot : spot = none := by
        obtain ⟨_, k, s, m, u, ll, _, e0, _⟩ := each 0 (by omega)
        simpa [Addr.add] using World.cell?_spot e0
      subst hspot
      simp only [add_plain6, Nat.add_zero] at each hQ
      refine .some b off c len l hll.symm (by omega) (by omega) trivial ?_ (ExC.of_cells l off fun q hq => ?_)
      · obtain ⟨_, k, s, m, u, ll, _, e0, _⟩ := each 0 (by omega)
        exact World.block_lt_of_cell? W _ e0
      · obtain ⟨k, s, m, u, ll, e, c0, c1, c2, c3, hs, _, _⟩ := hQ q l[q] (List.getElem?_eq_getElem hq)
        exact ⟨k, s, m, u, ll, by rw [List.getElem?_eq_getElem hq, e], c0, c1, c2, c3, hs⟩
/-- An argument that is an expression. -/
theorem arg_ex {H : Type} {enc : TypeId × Value → H} {W : World} {v : Value} {d : DataW H} {p : List MemPlace} {ts : List TypeId} {ds : List (DataW H)} {j base : Nat}
    (hv : Value.okWide Try.prog W .any base 24 v)
    (h : ∃ fuel, DataW.trod enc Try.prog W 0 (fun _ => true) true fuel 24 v.cells.toList = some (d, p))
    (hsz : (DataW.weightsEach Try.prog ts ds).all (· ≤ reachBytes) = true) (ht : ts[j]? = some 24) (hd : ds[j]? = some d) :
    ∃ k n m l sa sc, v = .agg #[.int .i64 k, .string ⟨(n : List UInt8).toArray⟩, .int .i64 m, .slice sa (l : List Sx.Ex).length sc] ∧ ExS (fun _ => True) W (.slice sa l.length sc) l ∧ Fo.Rg (.mk k n m l) ∧ Fo.Nl (.mk k n m l) := by
  obtain ⟨cs, rfl, hc⟩ := okWide_struct Try.underlying24 hv
  rw [cEx4] at hc
  obtain ⟨fuel, hf⟩ := h
  have e0 : (Value.agg cs).cells.toList = cs.toList := by simp [Value.cells]
  rw [e0] at hf
  obtain ⟨k, s, m, u, z, n', hcs, hy, wk, wm, hn', hz⟩ := ex_open Try.underlying24 rfl rfl rfl rfl cExI cExS cExL cExR Try.underlying3 Try.underlying9 Try.underlying2 (by simpa using hc) hf
  obtain ⟨l, ⟨a', cap', hu⟩, hs, hr, hw⟩ := sl_open n' u z hz
  subst hu
  have hcs' : cs = #[.int .i64 k, .string ⟨s.toArray⟩, .int .i64 m, .slice a' l.length cap'] := by cases cs; simp_all
  have key : ∀ q, q ∈ d.weights Try.prog 24 → q ≤ reachBytes := fun q hq => of_decide_eq_true (List.all_eq_true.1 hsz _ (DataW.weights_mem_each ht hd _ hq))
  have hy' : d = .agg [.lit (.int .i64 k), .lit (.string s), .lit (.int .i64 m), z.1] := hy
  rw [hy', weights_expr] at key
  exact ⟨k, s, m, l, a', cap', by rw [hcs'], hs, .mk _ _ _ _ (wf_rg wm).1 (wf_rg wm).2 hr, .mk _ _ _ _ (reach_le (key _ (List.mem_cons_self ..))) (hw fun q hq => key q (List.mem_cons_of_mem _ hq))⟩
end Go.Proofs.Ythadpkmbbimleaa

namespace Go.Proofs.Ythadpkmbbimleaa.FoldTwice
open Go.ChangeShapes Go.WideShapes Go.ChangeAt Go.RowKit
set_option linter.unusedVariables false

set_option maxRecDepth 100000 in
theorem lifted (os : Os) (started : os.Started) (H : Type) (enc : TypeId × Value → H) :
    ReturnsInHanded {} Try.checked os 5 .any (Rows.foldTwiceSpec.pre6 enc Try.prog Try.f5 Rows.foldTwiceRow.domain false)
      (Rows.foldTwiceSpec.post enc Try.prog Try.f5 false true false false) := by
  refine returnsInHanded_of_change_sized (C := Try.checked) own started (by kernel_rfl) Try.func5
    (ChangeSpec.witness6 (enc := enc) (C := Try.checked) false ⟨#[], #[.agg #[.int .i64 0, .string ⟨#[]⟩, .int .i64 0, .slice none 0 0]], []⟩ 8 (by kernel_rfl) (by kernel_rfl) (by kernel_rfl) (by kernel_rfl)) ?_
  intro W base args ds gs before hval0 hW _ hsz0 _
  have hval : ∀ (j : Nat) t v, Try.f5.params[j]? = some t → args[j]? = some v → Value.okWide Try.prog W .any base t v := hval0
  have hW' := hW
  obtain ⟨p, q, hA0, hV, rfl, hfz, hnd⟩ := hW
  have hA : DataW.TrodAll enc Try.prog W 0 (fun _ => true) true Try.f5.params.toList args.toList ds p := hA0
  have hsz : (DataW.weightsEach Try.prog (Try.f5.params.toList ++ Rows.foldTwiceSpec.plain.varTypes Try.prog) (ds ++ gs)).all (· ≤ reachBytes) = true := hsz0
  rw [Try.params5] at hA hval hsz
  obtain ⟨v0, vs0, d0, ds0, p0, q0, hargs, rfl, rfl, h0, r0⟩ := trodAll_cons hA
  obtain ⟨rfl, rfl, rfl⟩ := trodAll_nil r0
  obtain rfl : args = #[v0] := by cases args; simp_all
  obtain ⟨rfl, rfl⟩ := trodVars_none hV
  have k0 := h0
  have lt0 : ∀ x ∈ p0, x.block < W.heap.size := by obtain ⟨m, hm⟩ := k0; exact DataW.trod_lt m _ _ _ hm
  obtain ⟨k, n, m, l, sa, sc, rfl, hs, hr, hn⟩ := arg_ex (j := 0) (hval 0 24 v0 rfl rfl) h0 hsz rfl rfl
  clear hA0 hval0
  simp only [List.append_nil] at hW'
  refine (twice_walk _ k n m l sa sc W hr hn hs).mono fun e W' ⟨he, bel⟩ => ?_
  subst he
  exact ⟨_, rfl, _, _, _, [], _, [], hW', trodAll_mk1 (shut_bool Try.underlying4 _), (trodAll_cons_mk (Below.trod laidOut (by kernel_rfl) (of_decide_eq_true (by kernel_rfl)) k0 bel lt0) trodAll_mk0), rfl, bel.frame _, fun h => by cases h⟩

end Go.Proofs.Ythadpkmbbimleaa.FoldTwice
namespace Go.Proofs.Ythadpkmbbimleaa
open Go.RowKit
set_option maxRecDepth 100000 in
theorem foldTwice_holds : Rows.FoldTwiceSaid :=
  OpenClaim.holds_of_wide 5 Try.f5 rfl rfl rfl rfl rfl rfl rfl ⟨rfl, rfl, rfl, rfl, rfl⟩ rfl rfl rfl rfl rfl (by kernel_rfl) Try.func5 (by kernel_rfl)
    (of_decide_eq_true (by kernel_rfl)) (by unfold Func.isWrapper; first | (rw [if_pos (by decide +kernel)]; kernel_rfl) | (rw [if_neg (by decide +kernel)]; exact ⟨rfl, rfl⟩))
    (fun os started H enc _ => FoldTwice.lifted os started H enc)
#print axioms foldTwice_holds
end Go.Proofs.Ythadpkmbbimleaa
