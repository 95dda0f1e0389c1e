/- Layer 8: arguments that are codes, and slices of codes: what their readings give. -/
import Derived.Test.YtdllgbhdodjdbaaDoorCdF
namespace Go.Proofs.YtdllgbhdodjdbaaDoor
open Go.ChangeShapes Go.WideShapes Go.ChangeAt Go.RowKit
set_option maxRecDepth 100000

theorem add_plain6 {b o n : Nat} : (⟨b, o, none⟩ : Addr).add n = ⟨b, o + n, none⟩ := by unfold Addr.add; split <;> simp_all
theorem in_weightsAll {H : Type} {P : Program} {e : TypeId} {n : Nat} {d : DataW H} : ∀ {ds : List (DataW H)}, d ∈ ds → n ∈ d.weights P e → n ∈ DataW.weightsAll P e ds
  | [], h, _ => by cases h
  | x :: r, h, hn => by
    rw [DataW.weightsAll, List.mem_append]
    rcases List.mem_cons.1 h with rfl | h
    · exact .inl hn
    · exact .inr (in_weightsAll h hn)
theorem short_of {H : Type} {P : Program} {t e : TypeId} {elems rest : List (DataW H)} (ht : P.underlying t = some (.slice e)) (hb : 0 < P.bytesOf e) (hw : ∀ q, q ∈ (DataW.slice elems rest : DataW H).weights P t → q ≤ reachBytes) : elems.length ≤ 1000000000000000 := by
  rw [DataW.weights, ht] at hw
  have h := hw _ (List.mem_cons_self ..)
  have h2 : elems.length ≤ (elems.length + rest.length) * P.bytesOf e := Nat.le_trans (Nat.le_add_right _ _) (Nat.le_mul_of_pos_right _ hb)
  have h3 : reachBytes ≤ 1000000000000000 := by decide
  omega
theorem list_of_each {α : Type} {Q : Nat → α → Prop} : ∀ n, (∀ i, i < n → ∃ y, Q i y) → ∃ l : List α, l.length = n ∧ ∀ i y, l[i]? = some y → Q i y
  | 0, _ => ⟨[], rfl, fun i y h => by simp at h⟩
  | n + 1, h => by
    obtain ⟨l, hl, hq⟩ := list_of_each n fun i hi => h i (by omega)
    obtain ⟨y, hy⟩ := h n (by omega)
    refine ⟨l ++ [y], by simp [hl], fun i z hz => ?_⟩
    by_cases c : i < n
    · rw [List.getElem?_append_left (by omega)] at hz
      exact hq i z hz
    · have hi : i < n + 1 := by
        have := (List.getElem?_eq_some_iff.1 hz).1
        simp [hl] at this
        omega
      obtain rfl : i = n := by omega
      rw [List.getElem?_append_right (by omega)] at hz
      simp [hl] at hz
      subst hz
      exact hy
theorem sln_open {H : Type} {enc : TypeId × Value → H} {P : Program} {W : World} {t e : TypeId} {fuel c : Nat} {v : Value} {z : DataW H × List MemPlace} (ht : P.underlying t = some (.slice e)) (he : P.cellsOf e = c)
    (hf : DataW.trod enc P W 0 (fun _ => true) true fuel t [v] = some z) : v = .slice none 0 0 ∨ ∃ (x : Addr) (cap : Nat) (elems rest : List (DataW H × List MemPlace)) (n : Nat), fuel = n + 1 ∧ v = .slice (some x) elems.length cap ∧ elems.length ≤ cap ∧ z.1 = .slice (elems.map (·.1)) (rest.map (·.1)) ∧
      ∀ i, (hi : i < elems.length) → ∃ cs, cs.length = c ∧ (∀ j, (hj : j < cs.length) → W.cell? ((x.add (i * c)).add j) = some cs[j]) ∧ DataW.trod enc P W 0 (fun _ => true) true n e cs = some elems[i] := by
  rcases DataW.trod_slice ht hf with ⟨hcs, _⟩ | ⟨x, len, cp, elems, rest, n, hn, hcs, hx, _, hl, hm, hlen, hel, _, _⟩
  · simp at hcs
    exact .inl hcs
  · simp at hcs
    subst hcs
    subst hlen
    refine .inr ⟨x, cp, elems, rest, n, hn, rfl, hl, (Prod.ext_iff.1 hx).1, fun i hi => ?_⟩
    have h1 := hel i hi
    rw [List.getElem?_eq_getElem hi, he, Option.bind_eq_some_iff] at h1
    obtain ⟨cs', h2, h3⟩ := h1
    obtain ⟨_, hlen', hcell⟩ := World.cells?_some h2
    refine ⟨cs', hlen', fun j hj => ?_, h3⟩
    have := hcell j (by omega)
    rw [this]
    exact List.getElem?_eq_getElem hj
theorem part_weights {H : Type} {P : Program} {t e : TypeId} {elems rest : List (DataW H)} {d : DataW H} {B : Nat} (ht : P.underlying t = some (.slice e)) (hw : ∀ q, q ∈ (DataW.slice elems rest : DataW H).weights P t → q ≤ B) (hd : d ∈ elems) : ∀ q, q ∈ d.weights P e → q ≤ B := by
  intro q hq
  refine hw q ?_
  rw [DataW.weights, ht]
  exact List.mem_cons_of_mem _ (List.mem_append.2 (.inl (in_weightsAll hd hq)))
theorem cCo4 : Tryd.prog.cellsOf 55 = 4 := by kernel_rfl
theorem cInL : Tryd.prog.cellsOf 53 = 1 := by kernel_rfl
theorem bIn3 : 0 < Tryd.prog.bytesOf 59 := of_decide_eq_true (by kernel_rfl)
theorem bCo4 : 0 < Tryd.prog.bytesOf 55 := of_decide_eq_true (by kernel_rfl)
/-- What the reading of a slice of instructions gives. -/
def SlI (W : World) (v : Value) (l : List Cd.In) : Prop := ∃ a c, v = .slice a l.length c ∧ l.length ≤ c ∧ InS W.heap.size W a l ∧ ∀ i, i ∈ l → i.Ok
theorem ins_open {H : Type} {enc : TypeId × Value → H} {W : World} (fuel : Nat) (v : Value) (z : DataW H × List MemPlace) (hf : DataW.trod enc Tryd.prog W 0 (fun _ => true) true fuel 53 [v] = some z) (hw : ∀ q, q ∈ z.1.weights Tryd.prog 53 → q ≤ reachBytes) : ∃ l, SlI W v l := by
  rcases sln_open Tryd.underlying53 cIn3 hf with rfl | ⟨x, cap, elems, rest, n, hn, rfl, hcap, hz, hel⟩
  · exact ⟨[], _, _, rfl, by simp, ⟨by simp, fun h => absurd h (Nat.lt_irrefl 0)⟩, fun i h => (by cases h)⟩
  · rw [hz] at hw
    have hlen := short_of Tryd.underlying53 bIn3 hw
    rw [List.length_map] at hlen
    have each : ∀ i, i < elems.length → ∃ y : Cd.In, y.Ok ∧ W.cell? ((x.add (i * 3)).add 0) = some (.int .i64 y.op) ∧ W.cell? ((x.add (i * 3)).add 1) = some (.int .i64 y.n) ∧ W.cell? ((x.add (i * 3)).add 2) = some (.int .i64 y.m) := by
      intro i hi
      obtain ⟨cs, hcl, hcell, htr⟩ := hel i hi
      obtain ⟨y, rfl, ok⟩ := in_cells hcl htr
      exact ⟨y, ok, hcell 0 (by simp), hcell 1 (by simp), hcell 2 (by simp)⟩
    obtain ⟨l, hll, hQ⟩ := list_of_each elems.length each
    refine ⟨l, some x, cap, by rw [hll], by omega, ⟨by omega, fun h0 => ?_⟩, fun i hi => ?_⟩
    · obtain ⟨_, _, e0, _⟩ := each 0 (by omega)
      have hsp : ∃ b o, x = ⟨b, o, none⟩ := by
        obtain ⟨bb, oo, ss⟩ := x
        have : ss = none := by simpa [Addr.add] using World.cell?_spot e0
        exact ⟨bb, oo, by rw [this]⟩
      obtain ⟨g, off, rfl⟩ := hsp
      simp only [add_plain6, Nat.add_zero] at hQ e0
      refine ⟨g, off, rfl, World.block_lt_of_cell? W _ e0, fun j i hj => ?_⟩
      have q := hQ j i hj
      exact ⟨q.2.1, q.2.2.1, q.2.2.2⟩
    · obtain ⟨j, hj⟩ := List.getElem?_of_mem hi
      exact (hQ j i hj).1
theorem co_cells {H : Type} {enc : TypeId × Value → H} {W : World} {n : Nat} {cs : List Value} {y : DataW H × List MemPlace} (hl : cs.length = 4) (h2 : DataW.trod enc Tryd.prog W 0 (fun _ => true) true n 55 cs = some y) (hw : ∀ q, q ∈ y.1.weights Tryd.prog 55 → q ≤ reachBytes) :
    ∃ (c : Cd.Co) (a : Option Addr) (ic : Nat), cs = [.slice a c.ins.length ic, .int .i64 c.cells, .int .i64 c.params, .bool c.ans] ∧ c.ins.length ≤ ic ∧ InS W.heap.size W a c.ins ∧ c.Ok := by
  obtain ⟨xs, k, hk, hxy, _, hxl, hf⟩ := DataW.trod_struct Tryd.underlying55 h2
  match xs, hxl, cs, hl with
  | [y0, y1, y2, y3], _, [v0, v1, v2, v3], _ =>
    have g0 := hf 0 _ rfl
    have g1 := hf 1 _ rfl
    have g2 := hf 2 _ rfl
    have g3 := hf 3 _ rfl
    simp [cI1, cInL, cB1] at g0 g1 g2 g3
    obtain ⟨a1, b1, d1, wf1⟩ := DataW.trod_int Tryd.underlying3 g1
    obtain ⟨a2, b2, d2, wf2⟩ := DataW.trod_int Tryd.underlying3 g2
    obtain ⟨a3, b3, d3⟩ := DataW.trod_bool Tryd.underlying4 g3
    simp at b1 b2 b3
    subst b1 b2 b3
    have hd' : y.1 = .agg [y0.1, y1.1, y2.1, y3.1] := (Prod.ext_iff.1 hxy).1
    rw [hd', DataW.weights, Tryd.underlying55] at hw
    simp [DataW.weightsEach] at hw
    obtain ⟨l, a, ic, rfl, hc, hi, ok⟩ := ins_open k v0 y0 g0 (fun q hq => hw q (.inl hq))
    exact ⟨⟨l, a1, a2, a3⟩, a, ic, rfl, hc, hi, ok, i6_wf wf1, i6_wf wf2⟩
/-- An argument that is a code. -/
theorem arg_co {H : Type} {enc : TypeId × Value → H} {W : World} {v : Value} {d : DataW H} {p : List MemPlace} {ts : List TypeId} {ds : List (DataW H)} {j base : Nat}
    (hv : Value.okWide Tryd.prog W .any base 55 v)
    (h : ∃ fuel, DataW.trod enc Tryd.prog W 0 (fun _ => true) true fuel 55 v.cells.toList = some (d, p))
    (hsz : (DataW.weightsEach Tryd.prog ts ds).all (· ≤ reachBytes) = true) (ht : ts[j]? = some 55) (hd : ds[j]? = some d) :
    ∃ (a : Option Addr) (c : Cd.Co) (ic : Nat), v = coV a ic c ∧ InS W.heap.size W a c.ins ∧ c.Ok := by
  obtain ⟨cs, rfl, hc⟩ := okWide_struct Tryd.underlying55 hv
  rw [cCo4] at hc
  obtain ⟨fuel, hf⟩ := h
  have e0 : (Value.agg cs).cells.toList = cs.toList := by simp [Value.cells]
  rw [e0] at hf
  have key : ∀ q, q ∈ d.weights Tryd.prog 55 → q ≤ reachBytes := fun q hq => of_decide_eq_true (List.all_eq_true.1 hsz _ (DataW.weights_mem_each ht hd _ hq))
  obtain ⟨c, a, ic, hcs, _, hi, ok⟩ := co_cells (by simpa using hc) hf key
  refine ⟨a, c, ic, ?_, hi, ok⟩
  have : cs = #[.slice a c.ins.length ic, .int .i64 c.cells, .int .i64 c.params, .bool c.ans] := by
    cases cs with | mk l => simp at hcs; rw [hcs]
  rw [this]
theorem cos_open {H : Type} {enc : TypeId × Value → H} {W : World} (fuel : Nat) (v : Value) (z : DataW H × List MemPlace) (hf : DataW.trod enc Tryd.prog W 0 (fun _ => true) true fuel 22 [v] = some z) (hw : ∀ q, q ∈ z.1.weights Tryd.prog 22 → q ≤ reachBytes) : ∃ (a : Option Addr) (l : List Cd.Co) (c : Nat), v = .slice a l.length c ∧ CoS W.heap.size W a l ∧ ∀ d, d ∈ l → d.Ok := by
  rcases sln_open Tryd.underlying22 cCo4 hf with rfl | ⟨x, cap, elems, rest, n, hn, rfl, hcap, hz, hel⟩
  · exact ⟨none, [], 0, rfl, ⟨by simp, fun h => absurd h (Nat.lt_irrefl 0)⟩, fun s h => (by cases h)⟩
  · rw [hz] at hw
    have hlen := short_of Tryd.underlying22 bCo4 hw
    rw [List.length_map] at hlen
    have each : ∀ i, i < elems.length → ∃ y : Cd.Co, y.Ok ∧ ∃ ia ic, W.cell? ((x.add (i * 4)).add 0) = some (.slice ia y.ins.length ic) ∧ W.cell? ((x.add (i * 4)).add 1) = some (.int .i64 y.cells) ∧ W.cell? ((x.add (i * 4)).add 2) = some (.int .i64 y.params) ∧ W.cell? ((x.add (i * 4)).add 3) = some (.bool y.ans) ∧ InS W.heap.size W ia y.ins ∧ y.ins.length ≤ ic := by
      intro i hi
      obtain ⟨cs, hcl, hcell, htr⟩ := hel i hi
      have key := part_weights Tryd.underlying22 hw (List.mem_map.2 ⟨elems[i], List.getElem_mem _, rfl⟩)
      obtain ⟨y, ia, ic, rfl, hc, hI, ok⟩ := co_cells hcl htr key
      exact ⟨y, ok, ia, ic, hcell 0 (by simp), hcell 1 (by simp), hcell 2 (by simp), hcell 3 (by simp), hI, hc⟩
    obtain ⟨l, hll, hQ⟩ := list_of_each elems.length each
    refine ⟨some x, l, cap, by rw [hll], ⟨by omega, fun h0 => ?_⟩, fun s hs => ?_⟩
    · obtain ⟨_, _, _, _, e0, _⟩ := each 0 (by omega)
      have hsp : ∃ b o, x = ⟨b, o, none⟩ := by
        obtain ⟨bb, oo, ss⟩ := x
        have : ss = none := by simpa [Addr.add] using World.cell?_spot e0
        exact ⟨bb, oo, by rw [this]⟩
      obtain ⟨g, off, rfl⟩ := hsp
      simp only [add_plain6, Nat.add_zero] at hQ e0
      refine ⟨g, off, rfl, World.block_lt_of_cell? W _ e0, fun j c hj => ?_⟩
      obtain ⟨_, ia, ic, c0, c1, c2, c3, hI, hc⟩ := hQ j c hj
      exact ⟨ia, ic, c0, c1, c2, c3, hI, hc⟩
    · obtain ⟨i, hi⟩ := List.getElem?_of_mem hs
      exact (hQ i s hi).1
/-- An argument that is a slice of codes. -/
theorem arg_cos {H : Type} {enc : TypeId × Value → H} {W : World} {v : Value} {d : DataW H} {p : List MemPlace} {ts : List TypeId} {ds : List (DataW H)} {j base : Nat}
    (hv : Value.okWide Tryd.prog W .any base 22 v)
    (h : ∃ fuel, DataW.trod enc Tryd.prog W 0 (fun _ => true) true fuel 22 v.cells.toList = some (d, p))
    (hsz : (DataW.weightsEach Tryd.prog ts ds).all (· ≤ reachBytes) = true) (ht : ts[j]? = some 22) (hd : ds[j]? = some d) :
    ∃ (a : Option Addr) (l : List Cd.Co) (c : Nat), v = .slice a l.length c ∧ CoS W.heap.size W a l ∧ ∀ d, d ∈ l → d.Ok := by
  obtain ⟨a, len, cap, rfl⟩ := okWide_slice Tryd.underlying22 hv
  obtain ⟨fuel, hf⟩ := h
  have key : ∀ q, q ∈ d.weights Tryd.prog 22 → q ≤ reachBytes := fun q hq => of_decide_eq_true (List.all_eq_true.1 hsz _ (DataW.weights_mem_each ht hd _ hq))
  exact cos_open fuel _ (d, p) (by simpa [Value.cells] using hf) key
end Go.Proofs.YtdllgbhdodjdbaaDoor
