/- Layer 13: an argument that is a trace: what its reading gives. -/
import Derived.Test.YtgonadilbjfpkaaTpFr
import Derived.Test.YtgonadilbjfpkaaTtA
namespace Go.Proofs.Ytgonadilbjfpkaa
open Go.ChangeShapes Go.WideShapes Go.ChangeAt Go.RowKit
set_option maxRecDepth 100000
set_option linter.unusedVariables false
set_option linter.unusedSimpArgs false
theorem cIt1 : Try.prog.cellsOf 3 = 1 := by kernel_rfl
theorem bIt8 : 0 < Try.prog.bytesOf 3 := of_decide_eq_true (by kernel_rfl)
theorem cTk4 : Try.prog.cellsOf 80 = 4 := by kernel_rfl
theorem cEv2 : Try.prog.cellsOf 96 = 2 := by kernel_rfl
theorem cTr3 : Try.prog.cellsOf 43 = 3 := by kernel_rfl
theorem cTkL : Try.prog.cellsOf 39 = 1 := by kernel_rfl
theorem cItL : Try.prog.cellsOf 40 = 1 := by kernel_rfl
theorem cEvL : Try.prog.cellsOf 41 = 1 := by kernel_rfl
theorem bTk : 0 < Try.prog.bytesOf 80 := of_decide_eq_true (by kernel_rfl)
theorem bEv : 0 < Try.prog.bytesOf 96 := of_decide_eq_true (by kernel_rfl)
theorem tk_cells {H : Type} {enc : TypeId × Value → H} {W : World} {n : Nat} {cs : List Value} {y : DataW H × List MemPlace} (hl : cs.length = 4) (h2 : DataW.trod enc Try.prog W 0 (fun _ => true) true n 80 cs = some y) : ∃ i : Tp.Tk, cs = [.int .i64 i.kind, .int .i64 i.proc, .int .i64 i.mark, .int .i64 i.depth] ∧ (I64 i.kind ∧ I64 i.proc ∧ I64 i.mark ∧ I64 i.depth) := by
  obtain ⟨xs, k, hk, hxy, _, hxl, hf⟩ := DataW.trod_struct Try.underlying80 h2
  match xs, hxl, cs, hl with
  | [y0, y1, y2, y3], _, [v0, v1, v2, v3], _ =>
    have g0 := hf 0 _ rfl
    have g1 := hf 1 _ rfl
    have g2 := hf 2 _ rfl
    have g3 := hf 3 _ rfl
    simp [cIt1, cI4] at g0 g1 g2 g3
    obtain ⟨a0, b0, d0, wf0⟩ := DataW.trod_int Try.underlying3 g0
    obtain ⟨a1, b1, d1, wf1⟩ := DataW.trod_int Try.underlying3 g1
    obtain ⟨a2, b2, d2, wf2⟩ := DataW.trod_int Try.underlying3 g2
    obtain ⟨a3, b3, d3, wf3⟩ := DataW.trod_int Try.underlying3 g3
    simp at b0 b1 b2 b3
    subst b0 b1 b2 b3
    exact ⟨⟨a0, a1, a2, a3⟩, rfl, bdW wf0, bdW wf1, bdW wf2, bdW wf3⟩
theorem ev_cells {H : Type} {enc : TypeId × Value → H} {W : World} {n : Nat} {cs : List Value} {y : DataW H × List MemPlace} (hl : cs.length = 2) (h2 : DataW.trod enc Try.prog W 0 (fun _ => true) true n 96 cs = some y) : ∃ i : Tp.Ev, cs = [.int .i64 i.kind, .int .i64 i.n] ∧ (I64 i.kind ∧ I64 i.n) := by
  obtain ⟨xs, k, hk, hxy, _, hxl, hf⟩ := DataW.trod_struct Try.underlying96 h2
  match xs, hxl, cs, hl with
  | [y0, y1], _, [v0, v1], _ =>
    have g0 := hf 0 _ rfl
    have g1 := hf 1 _ rfl
    simp [cIt1, cI4] at g0 g1
    obtain ⟨a0, b0, d0, wf0⟩ := DataW.trod_int Try.underlying3 g0
    obtain ⟨a1, b1, d1, wf1⟩ := DataW.trod_int Try.underlying2 g1
    simp at b0 b1
    subst b0 b1
    exact ⟨⟨a0, a1⟩, rfl, bdW wf0, bdW wf1⟩
theorem tks_open {H : Type} {enc : TypeId × Value → H} {W : World} (fuel : Nat) (v : Value) (z : DataW H × List MemPlace) (hf : DataW.trod enc Try.prog W 0 (fun _ => true) true fuel 39 [v] = some z) (hw : ∀ q, q ∈ z.1.weights Try.prog 39 → q ≤ reachBytes) : ∃ (a : Option Addr) (l : List Tp.Tk) (c : Nat), v = .slice a l.length c ∧ TkS W.heap.size W a l ∧ l.length ≤ 1000000000000000 ∧ ∀ x ∈ l, I64 x.kind ∧ I64 x.proc ∧ I64 x.mark ∧ I64 x.depth := by
  rcases sln_open Try.underlying39 cTk4 hf with rfl | ⟨x, cap, elems, rest, n, hn, rfl, hcap, hz, hel⟩
  · exact ⟨none, [], 0, rfl, fun h => absurd h (Nat.lt_irrefl 0), by decide, fun i h => (by cases h)⟩
  · rw [hz] at hw
    have hlen := short_of Try.underlying39 bTk hw
    rw [List.length_map] at hlen
    have each : ∀ i, i < elems.length → ∃ y : Tp.Tk, (I64 y.kind ∧ I64 y.proc ∧ I64 y.mark ∧ I64 y.depth) ∧ W.cell? ((x.add (i * 4)).add 0) = some (.int .i64 y.kind) ∧ W.cell? ((x.add (i * 4)).add 1) = some (.int .i64 y.proc) ∧ W.cell? ((x.add (i * 4)).add 2) = some (.int .i64 y.mark) ∧ W.cell? ((x.add (i * 4)).add 3) = some (.int .i64 y.depth) := by
      intro i hi
      obtain ⟨cs, hcl, hcell, htr⟩ := hel i hi
      obtain ⟨y, rfl, ok⟩ := tk_cells hcl htr
      exact ⟨y, ok, hcell 0 (by simp), hcell 1 (by simp), hcell 2 (by simp), hcell 3 (by simp)⟩
    obtain ⟨l, hll, hQ⟩ := list_of_each elems.length each
    refine ⟨some x, l, cap, by rw [hll], fun h0 => ?_, by omega, fun i hi => ?_⟩
    · obtain ⟨_, _, e0, _⟩ := each 0 (by omega)
      have hsp : ∃ b o, x = ⟨b, o, none⟩ := by
        obtain ⟨bb, oo, ss⟩ := x
        have : ss = none := by simpa [Addr.add] using World.cell?_spot e0
        exact ⟨bb, oo, by rw [this]⟩
      obtain ⟨g, off, rfl⟩ := hsp
      simp only [addT, Nat.add_zero] at hQ e0
      refine ⟨g, off, rfl, World.block_lt_of_cell? W _ e0, fun j i hj => ?_⟩
      exact (hQ j i hj).2
    · obtain ⟨j, hj⟩ := List.getElem?_of_mem hi
      exact (hQ j i hj).1
theorem evs_open {H : Type} {enc : TypeId × Value → H} {W : World} (fuel : Nat) (v : Value) (z : DataW H × List MemPlace) (hf : DataW.trod enc Try.prog W 0 (fun _ => true) true fuel 41 [v] = some z) (hw : ∀ q, q ∈ z.1.weights Try.prog 41 → q ≤ reachBytes) : ∃ (a : Option Addr) (l : List Tp.Ev) (c : Nat), v = .slice a l.length c ∧ EvS W.heap.size W a l ∧ l.length ≤ c ∧ l.length ≤ 1000000000000000 ∧ ∀ x ∈ l, I64 x.kind ∧ I64 x.n := by
  rcases sln_open Try.underlying41 cEv2 hf with rfl | ⟨x, cap, elems, rest, n, hn, rfl, hcap, hz, hel⟩
  · exact ⟨none, [], 0, rfl, fun h => absurd h (Nat.lt_irrefl 0), Nat.le_refl _, by decide, fun i h => (by cases h)⟩
  · rw [hz] at hw
    have hlen := short_of Try.underlying41 bEv hw
    rw [List.length_map] at hlen
    have each : ∀ i, i < elems.length → ∃ y : Tp.Ev, (I64 y.kind ∧ I64 y.n) ∧ W.cell? ((x.add (i * 2)).add 0) = some (.int .i64 y.kind) ∧ W.cell? ((x.add (i * 2)).add 1) = some (.int .i64 y.n) := by
      intro i hi
      obtain ⟨cs, hcl, hcell, htr⟩ := hel i hi
      obtain ⟨y, rfl, ok⟩ := ev_cells hcl htr
      exact ⟨y, ok, hcell 0 (by simp), hcell 1 (by simp)⟩
    obtain ⟨l, hll, hQ⟩ := list_of_each elems.length each
    refine ⟨some x, l, cap, by rw [hll], fun h0 => ?_, by omega, by omega, fun i hi => ?_⟩
    · obtain ⟨_, _, e0, _⟩ := each 0 (by omega)
      have hsp : ∃ b o, x = ⟨b, o, none⟩ := by
        obtain ⟨bb, oo, ss⟩ := x
        have : ss = none := by simpa [Addr.add] using World.cell?_spot e0
        exact ⟨bb, oo, by rw [this]⟩
      obtain ⟨g, off, rfl⟩ := hsp
      simp only [addT, Nat.add_zero] at hQ e0
      refine ⟨g, off, rfl, World.block_lt_of_cell? W _ e0, fun j i hj => ?_⟩
      exact (hQ j i hj).2
    · obtain ⟨j, hj⟩ := List.getElem?_of_mem hi
      exact (hQ j i hj).1
theorem tr_cells {H : Type} {enc : TypeId × Value → H} {W : World} {n : Nat} {cs : List Value} {y : DataW H × List MemPlace} (hl : cs.length = 3) (h2 : DataW.trod enc Try.prog W 0 (fun _ => true) true n 43 cs = some y) (hw : ∀ q, q ∈ y.1.weights Try.prog 43 → q ≤ reachBytes) :
    ∃ (ta ca ea : Option Addr) (tc cc ec : Nat) (t : Tp.Tr), cs = [.slice ta t.ticks.length tc, .slice ca t.counts.length cc, .slice ea t.events.length ec] ∧ TrS W.heap.size W ta ca ea tc cc ec t := by
  obtain ⟨xs, k, hk, hxy, _, hxl, hf⟩ := DataW.trod_struct Try.underlying43 h2
  match xs, hxl, cs, hl with
  | [y0, y1, y2], _, [v0, v1, v2], _ =>
    have g0 := hf 0 _ rfl
    have g1 := hf 1 _ rfl
    have g2 := hf 2 _ rfl
    simp [cTkL, cItL, cEvL] at g0 g1 g2
    have hd' : y.1 = .agg [y0.1, y1.1, y2.1] := (Prod.ext_iff.1 hxy).1
    rw [hd', DataW.weights, Try.underlying43] at hw
    simp [DataW.weightsEach] at hw
    obtain ⟨ta, tl, tc, rfl, t1, t2, t3⟩ := tks_open k v0 y0 g0 (fun q hq => hw q (.inl hq))
    obtain ⟨ca, cl, cc, rfl, c1, c2, c3, c4, _⟩ := ints_open Try.underlying40 cIt1 Try.underlying3 bIt8 k v1 y1 g1 (fun q hq => hw q (.inr (.inl hq)))
    obtain ⟨ea, el, ec, rfl, e1, e2, e3, e4⟩ := evs_open k v2 y2 g2 (fun q hq => hw q (.inr (.inr hq)))
    exact ⟨ta, ca, ea, tc, cc, ec, ⟨tl, cl, el⟩, rfl, t1, c1, e1, e2, t2, c4, e3, t3, fun x hx => bdW (c2 x hx), e4⟩
theorem arg_tr {H : Type} {enc : TypeId × Value → H} {W : World} {v : Value} {d : DataW H} {p : List MemPlace} {ts : List TypeId} {ds : List (DataW H)} {j base : Nat}
    (hv : Value.okWide Try.prog W .any base 43 v)
    (h : ∃ fuel, DataW.trod enc Try.prog W 0 (fun _ => true) true fuel 43 v.cells.toList = some (d, p))
    (hsz : (DataW.weightsEach Try.prog ts ds).all (· ≤ reachBytes) = true) (ht : ts[j]? = some 43) (hd : ds[j]? = some d) :
    ∃ (ta ca ea : Option Addr) (tc cc ec : Nat) (t : Tp.Tr), v = trV ta ca ea tc cc ec t ∧ TrS W.heap.size W ta ca ea tc cc ec t := by
  obtain ⟨cs, rfl, hc⟩ := okWide_struct Try.underlying43 hv
  rw [cTr3] at hc
  obtain ⟨fuel, hf⟩ := h
  have e0 : (Value.agg cs).cells.toList = cs.toList := by simp [Value.cells]
  rw [e0] at hf
  have key : ∀ q, q ∈ d.weights Try.prog 43 → q ≤ reachBytes := fun q hq => of_decide_eq_true (List.all_eq_true.1 hsz _ (DataW.weights_mem_each ht hd _ hq))
  obtain ⟨ta, ca, ea, tc, cc, ec, t, hcs, ok⟩ := tr_cells (by simpa using hc) hf key
  refine ⟨ta, ca, ea, tc, cc, ec, t, ?_, ok⟩
  have : cs = #[.slice ta t.ticks.length tc, .slice ca t.counts.length cc, .slice ea t.events.length ec] := by
    cases cs with | mk l => simp at hcs; rw [hcs]
  rw [this]
  rfl
end Go.Proofs.Ytgonadilbjfpkaa
