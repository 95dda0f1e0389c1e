/- Layer 13: arguments that are bytes and numbers: what their readings give. -/
/- Layer 13: an argument that is a trace: what its reading gives. -/
/- Layer 13: beginnings of slices; what TapeCut wants of each call. -/
import Derived.Test.YtneefpblfiedbaaZTpF
import Derived.ProofKit
import Derived.OpenShut
import Derived.ChangeOld
import Derived.Below
import Derived.Lay
import Derived.SizedLaws
import Derived.Test.YtneefpblfiedbaaZTtT
import Derived.Test.YtneefpblfiedbaaZTwB
namespace Go.Proofs.Ytneefpblfiedbaa
open Go.ChangeShapes Go.WideShapes Go.ChangeAt Go.RowKit
set_option maxRecDepth 100000
set_option linter.unusedVariables false

theorem own : ownKnob Try.prog.godebug = none := by kernel_rfl
theorem laidOut : laidOutB Try.prog = true := by kernel_rfl
theorem bdW {n : Int} (h : (Lit.int .i64 n).wf = true) : -9223372036854775808 ≤ n ∧ n ≤ 9223372036854775807 := by
  simp only [Lit.wf, IntKind.min, IntKind.max, IntKind.signed, IntKind.bits, Bool.and_eq_true, decide_eq_true_eq, if_true] at h
  omega
theorem bdU {n : Int} (h : (Lit.int .u8 n).wf = true) : 0 ≤ n ∧ n ≤ 255 := by
  simp [Lit.wf, IntKind.min, IntKind.max, IntKind.signed, IntKind.bits, Bool.and_eq_true, decide_eq_true_eq] at h
  omega
theorem cU1 : Try.prog.cellsOf 5 = 1 := by kernel_rfl
theorem cI4 : Try.prog.cellsOf 2 = 1 := by kernel_rfl
theorem bU1 : 0 < Try.prog.bytesOf 5 := of_decide_eq_true (by kernel_rfl)
theorem bI8 : 0 < Try.prog.bytesOf 2 := of_decide_eq_true (by kernel_rfl)
theorem short_of {H : Type} {P : Program} {t e : TypeId} {elems rest : List (DataW H)} (ht : P.underlying t = some (.slice e)) (hb : 0 < P.bytesOf e) (hw : ∀ q, q ∈ (DataW.slice elems rest : DataW H).weights P t → q ≤ reachBytes) : elems.length ≤ 1000000000000000 := by
  rw [DataW.weights, ht] at hw
  have h := hw _ (List.mem_cons_self ..)
  have h2 : elems.length ≤ (elems.length + rest.length) * P.bytesOf e := Nat.le_trans (Nat.le_add_right _ _) (Nat.le_mul_of_pos_right _ hb)
  have h3 : reachBytes ≤ 1000000000000000 := by decide
  omega
theorem list_of_each {α : Type} {Q : Nat → α → Prop} : ∀ n, (∀ i, i < n → ∃ y, Q i y) → ∃ l : List α, l.length = n ∧ ∀ i y, l[i]? = some y → Q i y
  | 0, _ => ⟨[], rfl, fun i y h => by simp at h⟩
  | n + 1, h => by
    obtain ⟨l, hl, hq⟩ := list_of_each n fun i hi => h i (by omega)
    obtain ⟨y, hy⟩ := h n (by omega)
    refine ⟨l ++ [y], by simp [hl], fun i z hz => ?_⟩
    by_cases c : i < n
    · rw [List.getElem?_append_left (by omega)] at hz
      exact hq i z hz
    · have hi : i < n + 1 := by
        have := (List.getElem?_eq_some_iff.1 hz).1
        simp [hl] at this
        omega
      obtain rfl : i = n := by omega
      rw [List.getElem?_append_right (by omega)] at hz
      simp [hl] at hz
      subst hz
      exact hy
theorem sln_open {H : Type} {enc : TypeId × Value → H} {P : Program} {W : World} {t e : TypeId} {fuel c : Nat} {v : Value} {z : DataW H × List MemPlace} (ht : P.underlying t = some (.slice e)) (he : P.cellsOf e = c)
    (hf : DataW.trod enc P W 0 (fun _ => true) true fuel t [v] = some z) : v = .slice none 0 0 ∨ ∃ (x : Addr) (cap : Nat) (elems rest : List (DataW H × List MemPlace)) (n : Nat), fuel = n + 1 ∧ v = .slice (some x) elems.length cap ∧ elems.length ≤ cap ∧ z.1 = .slice (elems.map (·.1)) (rest.map (·.1)) ∧
      ∀ i, (hi : i < elems.length) → ∃ cs, cs.length = c ∧ (∀ j, (hj : j < cs.length) → W.cell? ((x.add (i * c)).add j) = some cs[j]) ∧ DataW.trod enc P W 0 (fun _ => true) true n e cs = some elems[i] := by
  rcases DataW.trod_slice ht hf with ⟨hcs, _⟩ | ⟨x, len, cp, elems, rest, n, hn, hcs, hx, _, hl, hm, hlen, hel, _, _⟩
  · simp at hcs
    exact .inl hcs
  · simp at hcs
    subst hcs
    subst hlen
    refine .inr ⟨x, cp, elems, rest, n, hn, rfl, hl, (Prod.ext_iff.1 hx).1, fun i hi => ?_⟩
    have h1 := hel i hi
    rw [List.getElem?_eq_getElem hi, he, Option.bind_eq_some_iff] at h1
    obtain ⟨cs', h2, h3⟩ := h1
    obtain ⟨_, hlen', hcell⟩ := World.cells?_some h2
    refine ⟨cs', hlen', fun j hj => ?_, h3⟩
    have := hcell j (by omega)
    rw [this]
    exact List.getElem?_eq_getElem hj
theorem addT {b o n : Nat} : (⟨b, o, none⟩ : Addr).add n = ⟨b, o + n, none⟩ := by unfold Addr.add; split <;> simp_all
/-- What the reading of a slice of integers of one cell gives. -/
theorem ints_open {H : Type} {enc : TypeId × Value → H} {W : World} {t e : TypeId} {q : IntKind} (ht : Try.prog.underlying t = some (.slice e)) (he : Try.prog.cellsOf e = 1) (hu : Try.prog.underlying e = some (.int q)) (hb : 0 < Try.prog.bytesOf e) (fuel : Nat) (v : Value) (z : DataW H × List MemPlace) (hf : DataW.trod enc Try.prog W 0 (fun _ => true) true fuel t [v] = some z) (hw : ∀ q, q ∈ z.1.weights Try.prog t → q ≤ reachBytes) : ∃ (a : Option Addr) (l : List Int) (c : Nat), v = .slice a l.length c ∧ (0 < l.length → ∃ g o, a = some ⟨g, o, none⟩ ∧ g < W.heap.size ∧ ∀ j x, l[j]? = some x → W.cell? ⟨g, o + j, none⟩ = some (.int q x)) ∧ (∀ x ∈ l, (Lit.int q x).wf = true) ∧ l.length ≤ c ∧ l.length ≤ 1000000000000000 ∧ (a = none → c = 0) := by
  rcases sln_open ht he hf with rfl | ⟨x, cap, elems, rest, n, hn, rfl, hcap, hz, hel⟩
  · exact ⟨none, [], 0, rfl, (fun h => absurd h (Nat.lt_irrefl 0)), fun x hx => (by cases hx), Nat.le_refl _, by decide, fun _ => rfl⟩
  · have each : ∀ i, i < elems.length → ∃ y : Int, W.cell? ((x.add (i * 1)).add 0) = some (.int q y) ∧ (Lit.int q y).wf = true := by
      intro i hi
      obtain ⟨cs, hcl, hcell, htr⟩ := hel i hi
      match cs, hcl with
      | [v0], _ =>
        obtain ⟨a0, b0, d0, wf0⟩ := DataW.trod_int hu htr
        simp at b0
        subst b0
        exact ⟨a0, hcell 0 (by simp), wf0⟩
    obtain ⟨l, hll, hQ⟩ := list_of_each elems.length each
    have hsh : elems.length ≤ 1000000000000000 := by
      rw [hz] at hw
      have := short_of (elems := elems.map (·.1)) ht hb hw
      simpa using this
    refine ⟨some x, l, cap, by rw [hll], fun h0 => ?_, fun y hy => ?_, by omega, by omega, fun h => by cases h⟩
    · obtain ⟨_, e0, _⟩ := each 0 (by omega)
      have hsp : ∃ b o, x = ⟨b, o, none⟩ := by
        obtain ⟨bb, oo, ss⟩ := x
        have : ss = none := by simpa [Addr.add] using World.cell?_spot e0
        exact ⟨bb, oo, by rw [this]⟩
      obtain ⟨g, off, rfl⟩ := hsp
      simp only [addT, Nat.add_zero, Nat.mul_one] at hQ e0
      exact ⟨g, off, rfl, World.block_lt_of_cell? W _ e0, fun j i hj => (hQ j i hj).1⟩
    · obtain ⟨i, hi⟩ := List.getElem?_of_mem hy
      exact (hQ i y hi).2
theorem arg_by {H : Type} {enc : TypeId × Value → H} {W : World} {v : Value} {d : DataW H} {p : List MemPlace} {ts : List TypeId} {ds : List (DataW H)} {j base : Nat}
    (hv : Value.okWide Try.prog W .any base 27 v)
    (h : ∃ fuel, DataW.trod enc Try.prog W 0 (fun _ => true) true fuel 27 v.cells.toList = some (d, p))
    (hsz : (DataW.weightsEach Try.prog ts ds).all (· ≤ reachBytes) = true) (ht : ts[j]? = some 27) (hd : ds[j]? = some d) :
    ∃ (a : Option Addr) (l : List Int) (c : Nat), v = .slice a l.length c ∧ ByS W.heap.size W a l ∧ Tp.Byt l ∧ l.length ≤ c ∧ l.length ≤ 1000000000000000 := by
  obtain ⟨a, len, cap, rfl⟩ := okWide_slice Try.underlying27 hv
  obtain ⟨fuel, hf⟩ := h
  have key : ∀ q, q ∈ d.weights Try.prog 27 → q ≤ reachBytes := fun q hq => of_decide_eq_true (List.all_eq_true.1 hsz _ (DataW.weights_mem_each ht hd _ hq))
  obtain ⟨a, l, c, e, h1, h2, h3, h4, _⟩ := ints_open Try.underlying27 cU1 Try.underlying5 bU1 fuel _ (d, p) (by simpa [Value.cells] using hf) key
  exact ⟨a, l, c, e, h1, fun x hx => bdU (h2 x hx), h3, h4⟩
theorem arg_nm {H : Type} {enc : TypeId × Value → H} {W : World} {v : Value} {d : DataW H} {p : List MemPlace} {ts : List TypeId} {ds : List (DataW H)} {j base : Nat}
    (hv : Value.okWide Try.prog W .any base 38 v)
    (h : ∃ fuel, DataW.trod enc Try.prog W 0 (fun _ => true) true fuel 38 v.cells.toList = some (d, p))
    (hsz : (DataW.weightsEach Try.prog ts ds).all (· ≤ reachBytes) = true) (ht : ts[j]? = some 38) (hd : ds[j]? = some d) :
    ∃ (a : Option Addr) (l : List Int) (c : Nat), v = .slice a l.length c ∧ NmS W.heap.size W a l ∧ (∀ x ∈ l, -9223372036854775808 ≤ x ∧ x ≤ 9223372036854775807) ∧ l.length ≤ c ∧ l.length ≤ 1000000000000000 := by
  obtain ⟨a, len, cap, rfl⟩ := okWide_slice Try.underlying38 hv
  obtain ⟨fuel, hf⟩ := h
  have key : ∀ q, q ∈ d.weights Try.prog 38 → q ≤ reachBytes := fun q hq => of_decide_eq_true (List.all_eq_true.1 hsz _ (DataW.weights_mem_each ht hd _ hq))
  obtain ⟨a, l, c, e, h1, h2, h3, h4, _⟩ := ints_open Try.underlying38 cI4 Try.underlying2 bI8 fuel _ (d, p) (by simpa [Value.cells] using hf) key
  exact ⟨a, l, c, e, h1, fun x hx => bdW (h2 x hx), h3, h4⟩
end Go.Proofs.Ytneefpblfiedbaa

namespace Go.Proofs.Ytneefpblfiedbaa
open Go.ChangeShapes Go.WideShapes Go.ChangeAt Go.RowKit
set_option maxRecDepth 100000
set_option linter.unusedVariables false
set_option linter.unusedSimpArgs false
theorem cIt1 : Try.prog.cellsOf 3 = 1 := by kernel_rfl
theorem bIt8 : 0 < Try.prog.bytesOf 3 := of_decide_eq_true (by kernel_rfl)
theorem cTk4 : Try.prog.cellsOf 62 = 4 := by kernel_rfl
theorem cEv2 : Try.prog.cellsOf 69 = 2 := by kernel_rfl
theorem cTr3 : Try.prog.cellsOf 26 = 3 := by kernel_rfl
theorem cTkL : Try.prog.cellsOf 22 = 1 := by kernel_rfl
theorem cItL : Try.prog.cellsOf 23 = 1 := by kernel_rfl
theorem cEvL : Try.prog.cellsOf 24 = 1 := by kernel_rfl
theorem bTk : 0 < Try.prog.bytesOf 62 := of_decide_eq_true (by kernel_rfl)
theorem bEv : 0 < Try.prog.bytesOf 69 := of_decide_eq_true (by kernel_rfl)
theorem tk_cells {H : Type} {enc : TypeId × Value → H} {W : World} {n : Nat} {cs : List Value} {y : DataW H × List MemPlace} (hl : cs.length = 4) (h2 : DataW.trod enc Try.prog W 0 (fun _ => true) true n 62 cs = some y) : ∃ i : Tp.Tk, cs = [.int .i64 i.kind, .int .i64 i.proc, .int .i64 i.mark, .int .i64 i.depth] ∧ (I64 i.kind ∧ I64 i.proc ∧ I64 i.mark ∧ I64 i.depth) := by
  obtain ⟨xs, k, hk, hxy, _, hxl, hf⟩ := DataW.trod_struct Try.underlying62 h2
  match xs, hxl, cs, hl with
  | [y0, y1, y2, y3], _, [v0, v1, v2, v3], _ =>
    have g0 := hf 0 _ rfl
    have g1 := hf 1 _ rfl
    have g2 := hf 2 _ rfl
    have g3 := hf 3 _ rfl
    simp [cIt1, cI4] at g0 g1 g2 g3
    obtain ⟨a0, b0, d0, wf0⟩ := DataW.trod_int Try.underlying3 g0
    obtain ⟨a1, b1, d1, wf1⟩ := DataW.trod_int Try.underlying3 g1
    obtain ⟨a2, b2, d2, wf2⟩ := DataW.trod_int Try.underlying3 g2
    obtain ⟨a3, b3, d3, wf3⟩ := DataW.trod_int Try.underlying3 g3
    simp at b0 b1 b2 b3
    subst b0 b1 b2 b3
    exact ⟨⟨a0, a1, a2, a3⟩, rfl, bdW wf0, bdW wf1, bdW wf2, bdW wf3⟩
theorem ev_cells {H : Type} {enc : TypeId × Value → H} {W : World} {n : Nat} {cs : List Value} {y : DataW H × List MemPlace} (hl : cs.length = 2) (h2 : DataW.trod enc Try.prog W 0 (fun _ => true) true n 69 cs = some y) : ∃ i : Tp.Ev, cs = [.int .i64 i.kind, .int .i64 i.n] ∧ (I64 i.kind ∧ I64 i.n) := by
  obtain ⟨xs, k, hk, hxy, _, hxl, hf⟩ := DataW.trod_struct Try.underlying69 h2
  match xs, hxl, cs, hl with
  | [y0, y1], _, [v0, v1], _ =>
    have g0 := hf 0 _ rfl
    have g1 := hf 1 _ rfl
    simp [cIt1, cI4] at g0 g1
    obtain ⟨a0, b0, d0, wf0⟩ := DataW.trod_int Try.underlying3 g0
    obtain ⟨a1, b1, d1, wf1⟩ := DataW.trod_int Try.underlying2 g1
    simp at b0 b1
    subst b0 b1
    exact ⟨⟨a0, a1⟩, rfl, bdW wf0, bdW wf1⟩
theorem tks_open {H : Type} {enc : TypeId × Value → H} {W : World} (fuel : Nat) (v : Value) (z : DataW H × List MemPlace) (hf : DataW.trod enc Try.prog W 0 (fun _ => true) true fuel 22 [v] = some z) (hw : ∀ q, q ∈ z.1.weights Try.prog 22 → q ≤ reachBytes) : ∃ (a : Option Addr) (l : List Tp.Tk) (c : Nat), v = .slice a l.length c ∧ TkS W.heap.size W a l ∧ l.length ≤ 1000000000000000 ∧ ∀ x ∈ l, I64 x.kind ∧ I64 x.proc ∧ I64 x.mark ∧ I64 x.depth := by
  rcases sln_open Try.underlying22 cTk4 hf with rfl | ⟨x, cap, elems, rest, n, hn, rfl, hcap, hz, hel⟩
  · exact ⟨none, [], 0, rfl, fun h => absurd h (Nat.lt_irrefl 0), by decide, fun i h => (by cases h)⟩
  · rw [hz] at hw
    have hlen := short_of Try.underlying22 bTk hw
    rw [List.length_map] at hlen
    have each : ∀ i, i < elems.length → ∃ y : Tp.Tk, (I64 y.kind ∧ I64 y.proc ∧ I64 y.mark ∧ I64 y.depth) ∧ W.cell? ((x.add (i * 4)).add 0) = some (.int .i64 y.kind) ∧ W.cell? ((x.add (i * 4)).add 1) = some (.int .i64 y.proc) ∧ W.cell? ((x.add (i * 4)).add 2) = some (.int .i64 y.mark) ∧ W.cell? ((x.add (i * 4)).add 3) = some (.int .i64 y.depth) := by
      intro i hi
      obtain ⟨cs, hcl, hcell, htr⟩ := hel i hi
      obtain ⟨y, rfl, ok⟩ := tk_cells hcl htr
      exact ⟨y, ok, hcell 0 (by simp), hcell 1 (by simp), hcell 2 (by simp), hcell 3 (by simp)⟩
    obtain ⟨l, hll, hQ⟩ := list_of_each elems.length each
    refine ⟨some x, l, cap, by rw [hll], fun h0 => ?_, by omega, fun i hi => ?_⟩
    · obtain ⟨_, _, e0, _⟩ := each 0 (by omega)
      have hsp : ∃ b o, x = ⟨b, o, none⟩ := by
        obtain ⟨bb, oo, ss⟩ := x
        have : ss = none := by simpa [Addr.add] using World.cell?_spot e0
        exact ⟨bb, oo, by rw [this]⟩
      obtain ⟨g, off, rfl⟩ := hsp
      simp only [addT, Nat.add_zero] at hQ e0
      refine ⟨g, off, rfl, World.block_lt_of_cell? W _ e0, fun j i hj => ?_⟩
      exact (hQ j i hj).2
    · obtain ⟨j, hj⟩ := List.getElem?_of_mem hi
      exact (hQ j i hj).1
theorem evs_open {H : Type} {enc : TypeId × Value → H} {W : World} (fuel : Nat) (v : Value) (z : DataW H × List MemPlace) (hf : DataW.trod enc Try.prog W 0 (fun _ => true) true fuel 24 [v] = some z) (hw : ∀ q, q ∈ z.1.weights Try.prog 24 → q ≤ reachBytes) : ∃ (a : Option Addr) (l : List Tp.Ev) (c : Nat), v = .slice a l.length c ∧ EvS W.heap.size W a l ∧ l.length ≤ c ∧ l.length ≤ 1000000000000000 ∧ ∀ x ∈ l, I64 x.kind ∧ I64 x.n := by
  rcases sln_open Try.underlying24 cEv2 hf with rfl | ⟨x, cap, elems, rest, n, hn, rfl, hcap, hz, hel⟩
  · exact ⟨none, [], 0, rfl, fun h => absurd h (Nat.lt_irrefl 0), Nat.le_refl _, by decide, fun i h => (by cases h)⟩
  · rw [hz] at hw
    have hlen := short_of Try.underlying24 bEv hw
    rw [List.length_map] at hlen
    have each : ∀ i, i < elems.length → ∃ y : Tp.Ev, (I64 y.kind ∧ I64 y.n) ∧ W.cell? ((x.add (i * 2)).add 0) = some (.int .i64 y.kind) ∧ W.cell? ((x.add (i * 2)).add 1) = some (.int .i64 y.n) := by
      intro i hi
      obtain ⟨cs, hcl, hcell, htr⟩ := hel i hi
      obtain ⟨y, rfl, ok⟩ := ev_cells hcl htr
      exact ⟨y, ok, hcell 0 (by simp), hcell 1 (by simp)⟩
    obtain ⟨l, hll, hQ⟩ := list_of_each elems.length each
    refine ⟨some x, l, cap, by rw [hll], fun h0 => ?_, by omega, by omega, fun i hi => ?_⟩
    · obtain ⟨_, _, e0, _⟩ := each 0 (by omega)
      have hsp : ∃ b o, x = ⟨b, o, none⟩ := by
        obtain ⟨bb, oo, ss⟩ := x
        have : ss = none := by simpa [Addr.add] using World.cell?_spot e0
        exact ⟨bb, oo, by rw [this]⟩
      obtain ⟨g, off, rfl⟩ := hsp
      simp only [addT, Nat.add_zero] at hQ e0
      refine ⟨g, off, rfl, World.block_lt_of_cell? W _ e0, fun j i hj => ?_⟩
      exact (hQ j i hj).2
    · obtain ⟨j, hj⟩ := List.getElem?_of_mem hi
      exact (hQ j i hj).1
theorem tr_cells {H : Type} {enc : TypeId × Value → H} {W : World} {n : Nat} {cs : List Value} {y : DataW H × List MemPlace} (hl : cs.length = 3) (h2 : DataW.trod enc Try.prog W 0 (fun _ => true) true n 26 cs = some y) (hw : ∀ q, q ∈ y.1.weights Try.prog 26 → q ≤ reachBytes) :
    ∃ (ta ca ea : Option Addr) (tc cc ec : Nat) (t : Tp.Tr), cs = [.slice ta t.ticks.length tc, .slice ca t.counts.length cc, .slice ea t.events.length ec] ∧ TrS W.heap.size W ta ca ea tc cc ec t := by
  obtain ⟨xs, k, hk, hxy, _, hxl, hf⟩ := DataW.trod_struct Try.underlying26 h2
  match xs, hxl, cs, hl with
  | [y0, y1, y2], _, [v0, v1, v2], _ =>
    have g0 := hf 0 _ rfl
    have g1 := hf 1 _ rfl
    have g2 := hf 2 _ rfl
    simp [cTkL, cItL, cEvL] at g0 g1 g2
    have hd' : y.1 = .agg [y0.1, y1.1, y2.1] := (Prod.ext_iff.1 hxy).1
    rw [hd', DataW.weights, Try.underlying26] at hw
    simp [DataW.weightsEach] at hw
    obtain ⟨ta, tl, tc, rfl, t1, t2, t3⟩ := tks_open k v0 y0 g0 (fun q hq => hw q (.inl hq))
    obtain ⟨ca, cl, cc, rfl, c1, c2, c3, c4, _⟩ := ints_open Try.underlying23 cIt1 Try.underlying3 bIt8 k v1 y1 g1 (fun q hq => hw q (.inr (.inl hq)))
    obtain ⟨ea, el, ec, rfl, e1, e2, e3, e4⟩ := evs_open k v2 y2 g2 (fun q hq => hw q (.inr (.inr hq)))
    exact ⟨ta, ca, ea, tc, cc, ec, ⟨tl, cl, el⟩, rfl, t1, c1, e1, e2, t2, c4, e3, t3, fun x hx => bdW (c2 x hx), e4⟩
theorem arg_tr {H : Type} {enc : TypeId × Value → H} {W : World} {v : Value} {d : DataW H} {p : List MemPlace} {ts : List TypeId} {ds : List (DataW H)} {j base : Nat}
    (hv : Value.okWide Try.prog W .any base 26 v)
    (h : ∃ fuel, DataW.trod enc Try.prog W 0 (fun _ => true) true fuel 26 v.cells.toList = some (d, p))
    (hsz : (DataW.weightsEach Try.prog ts ds).all (· ≤ reachBytes) = true) (ht : ts[j]? = some 26) (hd : ds[j]? = some d) :
    ∃ (ta ca ea : Option Addr) (tc cc ec : Nat) (t : Tp.Tr), v = trV ta ca ea tc cc ec t ∧ TrS W.heap.size W ta ca ea tc cc ec t := by
  obtain ⟨cs, rfl, hc⟩ := okWide_struct Try.underlying26 hv
  rw [cTr3] at hc
  obtain ⟨fuel, hf⟩ := h
  have e0 : (Value.agg cs).cells.toList = cs.toList := by simp [Value.cells]
  rw [e0] at hf
  have key : ∀ q, q ∈ d.weights Try.prog 26 → q ≤ reachBytes := fun q hq => of_decide_eq_true (List.all_eq_true.1 hsz _ (DataW.weights_mem_each ht hd _ hq))
  obtain ⟨ta, ca, ea, tc, cc, ec, t, hcs, ok⟩ := tr_cells (by simpa using hc) hf key
  refine ⟨ta, ca, ea, tc, cc, ec, t, ?_, ok⟩
  have : cs = #[.slice ta t.ticks.length tc, .slice ca t.counts.length cc, .slice ea t.events.length ec] := by
    cases cs with | mk l => simp at hcs; rw [hcs]
  rw [this]
  rfl
end Go.Proofs.Ytneefpblfiedbaa

namespace Go.Proofs.Ytneefpblfiedbaa
open Go.RowKit
set_option linter.unusedVariables false
set_option linter.unusedSimpArgs false
/-- The beginning of a slice: its address is hidden. -/
theorem slP {P : Program} {t et : TypeId} (hu : P.underlying t = some (.slice et)) (he : P.elem t = et) {i : TypeInfo} (hi : P.info? et = some i) (a : Option Addr) {n ca U : Nat} (hU : U ≤ ca) :
    ∃ AD, (∀ w, (Instr.slice t (.slice a n ca) none (some (.int .i64 (U : Int))) none).run P w = .ok (.slice AD U ca) w) ∧ ∀ g o, a = some ⟨g, o, none⟩ → AD = some ⟨g, o, none⟩ := by
  have hu' : P.underlying t = some (.slice (P.elem t)) := by rw [he]; exact hu
  refine ⟨if ca = 0 then a else a.map (·.add (0 * i.size)), fun w => ?_, fun g o h => ?_⟩
  · rw [run_slice_h w t a n ca hu' .i64 (U : Int) (Int.natCast_nonneg _) (by omega)]
    rw [he]
    have hz : (sizeOf et).run P w = .ok i.size w := by simp [go_sem, sizeOf, run_typeInfo w hi]
    rw [hz]
    simp [Result.andThen, sliced]
  · subst h
    split
    · rfl
    · rw [Option.map_some, Nat.zero_mul, addTu, Nat.add_zero]
theorem getTk {α : Type} {l : List α} {n j : Nat} {x : α} (h : (l.take n)[j]? = some x) : l[j]? = some x := by
  rw [List.getElem?_take] at h
  split at h
  · exact h
  · cases h
theorem TrS.cut {B : Nat} {w : World} {ta ca ea ta' ca' ea' : Option Addr} {tc cc ec : Nat} {t : Tp.Tr} (h : TrS B w ta ca ea tc cc ec t) (h1 : ∀ g o, ta = some ⟨g, o, none⟩ → ta' = some ⟨g, o, none⟩) (h2 : ∀ g o, ca = some ⟨g, o, none⟩ → ca' = some ⟨g, o, none⟩) (h3 : ∀ g o, ea = some ⟨g, o, none⟩ → ea' = some ⟨g, o, none⟩) (j1 j2 e : Nat) :
    TrS B w ta' ca' ea' tc cc ec ⟨t.ticks.take j1, t.counts.take j2, t.events.take e⟩ := by
  refine ⟨fun h0 => ?_, fun h0 => ?_, fun h0 => ?_, ?_, ?_, ?_, ?_, fun x hx => h.rt x (List.mem_of_mem_take hx), fun x hx => h.rc x (List.mem_of_mem_take hx), fun x hx => h.re x (List.mem_of_mem_take hx)⟩
  · dsimp only at h0
    rw [List.length_take] at h0
    obtain ⟨g, o, e1, hg, hc⟩ := h.tk (by omega)
    exact ⟨g, o, h1 g o e1, hg, fun j x hx => hc j x (getTk hx)⟩
  · dsimp only at h0
    rw [List.length_take] at h0
    obtain ⟨g, o, e1, hg, hc⟩ := h.ct (by omega)
    exact ⟨g, o, h2 g o e1, hg, fun j x hx => hc j x (getTk hx)⟩
  · dsimp only at h0
    rw [List.length_take] at h0
    obtain ⟨g, o, e1, hg, hc⟩ := h.ev (by omega)
    exact ⟨g, o, h3 g o e1, hg, fun j x hx => hc j x (getTk hx)⟩
  · have := h.ce; dsimp only; rw [List.length_take]; omega
  · have := h.l1; dsimp only; rw [List.length_take]; omega
  · have := h.l2; dsimp only; rw [List.length_take]; omega
  · have := h.l3; dsimp only; rw [List.length_take]; omega
theorem Tp.right_min {t : Tp.Tr} {j e : Nat} (ht : Tp.rightT t = true) (h : Tp.rightT (Tp.cutV t j e) = true) (he : e ≤ t.events.length) : Tp.rightT (Tp.cutV t j (min t.events.length (e + 1))) = true := by
  by_cases c : e < t.events.length
  · obtain ⟨y, hy⟩ : ∃ y, t.events[e]? = some y := ⟨_, List.getElem?_eq_getElem c⟩
    have h4 := (right_rg ht).e y (List.mem_of_getElem? hy)
    rw [show min t.events.length (e + 1) = e + 1 by omega]
    exact (Tp.rightV_ev h hy h4).1
  · rw [show min t.events.length (e + 1) = e by omega]
    exact h
theorem sgTr {w : World} {e : Ending} {w' : World} {t : Tp.Tr} {s x : Int} (hb : TrB t) (h : SgR w e w' t s x) : ∃ ta tc ca cc ea ec, e = .returned (.tuple #[.agg #[.slice ta t.ticks.length tc, .slice ca t.counts.length cc, .slice ea t.events.length ec], .int .i64 s, .int .i64 x]) ∧ TrS w'.heap.size w' ta ca ea tc cc ec t ∧ Below w.heap.size w w' := by
  obtain ⟨tv, cv, ev, rfl, o1, o2, o3, k⟩ := h
  obtain ⟨ta, tc, ca, cc, ea, ec, rfl, rfl, rfl, ts⟩ := trs_of hb o1 o2 o3
  exact ⟨ta, tc, ca, cc, ea, ec, rfl, ts, k⟩
theorem tr_caps {H : Type} {enc : TypeId × Value → H} {W : World} {n : Nat} {a0 a1 : Option Addr} {n0 n1 c0 c1 : Nat} {v2 : Value} {y : DataW H × List MemPlace} (h2 : DataW.trod enc Try.prog W 0 (fun _ => true) true n 26 [.slice a0 n0 c0, .slice a1 n1 c1, v2] = some y) : n0 ≤ c0 ∧ n1 ≤ c1 := by
  obtain ⟨xs, k, hk, hxy, _, hxl, hf⟩ := DataW.trod_struct Try.underlying26 h2
  match xs, hxl with
  | [y0, y1, y2], _ =>
    have g0 := hf 0 _ rfl
    have g1 := hf 1 _ rfl
    simp [cTkL, cItL, cEvL] at g0 g1
    refine ⟨?_, ?_⟩
    · rcases sln_open Try.underlying22 cTk4 g0 with h | ⟨x, cap, elems, rest, n, hn, h, hcap, _⟩
      · injection h with q1 q2 q3; omega
      · injection h with q1 q2 q3; omega
    · rcases sln_open Try.underlying23 cIt1 g1 with h | ⟨x, cap, elems, rest, n, hn, h, hcap, _⟩
      · injection h with q1 q2 q3; omega
      · injection h with q1 q2 q3; omega
end Go.Proofs.Ytneefpblfiedbaa
