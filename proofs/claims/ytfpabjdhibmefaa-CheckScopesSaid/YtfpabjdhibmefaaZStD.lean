/- Layer 4: an argument that is a program: what its reading gives. -/
import Derived.Test.YtfpabjdhibmefaaZFolT
namespace Go.Proofs.Ytfpabjdhibmefaa
open Go.ChangeShapes Go.WideShapes Go.ChangeAt Go.RowKit
set_option maxRecDepth 100000

theorem cPa2 : Try.prog.cellsOf 81 = 2 := by kernel_rfl
theorem cPc4 : Try.prog.cellsOf 25 = 4 := by kernel_rfl
theorem cPaL : Try.prog.cellsOf 22 = 1 := by kernel_rfl
theorem cPcL : Try.prog.cellsOf 27 = 1 := by kernel_rfl
theorem cPg1 : Try.prog.cellsOf 29 = 1 := by kernel_rfl
theorem bPa2 : 0 < Try.prog.bytesOf 81 := of_decide_eq_true (by kernel_rfl)
theorem bPc4 : 0 < Try.prog.bytesOf 25 := of_decide_eq_true (by kernel_rfl)
theorem pa_cells {H : Type} {enc : TypeId × Value → H} {W : World} {n : Nat} {cs : List Value} {y : DataW H × List MemPlace} (hl : cs.length = 2) (h2 : DataW.trod enc Try.prog W 0 (fun _ => true) true n 81 cs = some y) :
    ∃ (s : List UInt8) (m : Int), cs = [.string ⟨s.toArray⟩, .int .i64 m] ∧ y.1 = .agg [.lit (.string s), .lit (.int .i64 m)] ∧ I64 m := by
  obtain ⟨xs, k, hk, hxy, _, hxl, hf⟩ := DataW.trod_struct Try.underlying81 h2
  match xs, hxl, cs, hl with
  | [y0, y1], _, [v0, v1], _ =>
    have g0 := hf 0 _ rfl
    have g1 := hf 1 _ rfl
    simp [cExI, cExS] at g0 g1
    obtain ⟨a0, b0, d0, _⟩ := DataW.trod_string Try.underlying9 g0
    obtain ⟨a1, b1, d1, wf1⟩ := DataW.trod_int Try.underlying3 g1
    simp at b0 b1
    subst b0 b1
    refine ⟨a0.data.toList, a1, rfl, ?_, wf_rg wf1⟩
    rw [hxy]
    simp [d0, d1]
theorem weights_param {H : Type} (s : List UInt8) (m : Int) : (DataW.agg [.lit (.string s), .lit (.int .i64 m)] : DataW H).weights Try.prog 81 = [s.length] := by
  rw [DataW.weights, Try.underlying81]
  simp [DataW.weightsEach, DataW.weights]
/-- What the reading of a slice of parameters gives. -/
def SlP (W : World) (v : Value) (l : List Sy.Pa) : Prop := (∃ a c, v = .slice a l.length c) ∧ PaS (fun _ => True) W v l ∧ (∀ s, s ∈ l → s.Ok) ∧ l.length ≤ 1000000000000000
theorem pas_open {H : Type} {enc : TypeId × Value → H} {W : World} (fuel : Nat) (v : Value) (z : DataW H × List MemPlace) (hf : DataW.trod enc Try.prog W 0 (fun _ => true) true fuel 22 [v] = some z) (hw : ∀ q, q ∈ z.1.weights Try.prog 22 → q ≤ reachBytes) : ∃ l, SlP W v l := by
  rcases sln_open Try.underlying22 cPa2 hf with rfl | ⟨x, cap, elems, rest, n, hn, rfl, hcap, hz, hel⟩
  · exact ⟨[], ⟨_, _, rfl⟩, ⟨_, _, rfl, fun h => absurd h (Nat.lt_irrefl 0)⟩, fun s h => (by cases h), by simp⟩
  · rw [hz] at hw
    have hlen := short_of Try.underlying22 bPa2 hw
    rw [List.length_map] at hlen
    have each : ∀ i, i < elems.length → ∃ y : Sy.Pa, y.Ok ∧ W.cell? ((x.add (i * 2)).add 0) = some (.string ⟨y.name.toArray⟩) ∧ W.cell? ((x.add (i * 2)).add 1) = some (.int .i64 y.type) := by
      intro i hi
      obtain ⟨cs, hcl, hcell, htr⟩ := hel i hi
      obtain ⟨s, m, rfl, hy, hm⟩ := pa_cells hcl htr
      have key := part_weights Try.underlying22 hw (List.mem_map.2 ⟨elems[i], List.getElem_mem _, rfl⟩)
      rw [hy, weights_param] at key
      exact ⟨⟨s, m⟩, ⟨reach_15 (key _ (List.mem_cons_self ..)), hm⟩, hcell 0 (by simp), hcell 1 (by simp)⟩
    obtain ⟨l, hll, hQ⟩ := list_of_each elems.length each
    refine ⟨l, ⟨_, _, by rw [hll]⟩, ⟨_, _, by rw [hll], fun h0 => ?_⟩, fun s hs => ?_, by omega⟩
    · obtain ⟨_, _, e0, _⟩ := each 0 (by omega)
      have hsp : ∃ b o, x = ⟨b, o, none⟩ := by
        obtain ⟨bb, oo, ss⟩ := x
        have : ss = none := by simpa [Addr.add] using World.cell?_spot e0
        exact ⟨bb, oo, by rw [this]⟩
      obtain ⟨g, off, rfl⟩ := hsp
      simp only [add_plain6, Nat.add_zero] at hQ e0
      refine ⟨g, off, rfl, trivial, World.block_lt_of_cell? W _ e0, fun j hj => ?_⟩
      have q := hQ j l[j] (List.getElem?_eq_getElem hj)
      exact ⟨l[j], List.getElem?_eq_getElem hj, q.2.1, q.2.2⟩
    · obtain ⟨i, hi⟩ := List.getElem?_of_mem hs
      exact (hQ i s hi).1
theorem pc_cells {H : Type} {enc : TypeId × Value → H} {W : World} {n : Nat} {cs : List Value} {y : DataW H × List MemPlace} (hl : cs.length = 4) (h2 : DataW.trod enc Try.prog W 0 (fun _ => true) true n 25 cs = some y) :
    ∃ (s : List UInt8) (m : Int) (v0 v1 : Value) (z0 z1 : DataW H × List MemPlace) (n' : Nat), cs = [.string ⟨s.toArray⟩, v0, .int .i64 m, v1] ∧ y.1 = .agg [.lit (.string s), z0.1, .lit (.int .i64 m), z1.1] ∧ I64 m ∧ DataW.trod enc Try.prog W 0 (fun _ => true) true n' 22 [v0] = some z0 ∧ DataW.trod enc Try.prog W 0 (fun _ => true) true n' 23 [v1] = some z1 := by
  obtain ⟨xs, k, hk, hxy, _, hxl, hf⟩ := DataW.trod_struct Try.underlying25 h2
  match xs, hxl, cs, hl with
  | [y0, y1, y2, y3], _, [v0, v1, v2, v3], _ =>
    have g0 := hf 0 _ rfl
    have g1 := hf 1 _ rfl
    have g2 := hf 2 _ rfl
    have g3 := hf 3 _ rfl
    simp [cExI, cExS, cPaL, cStL] at g0 g1 g2 g3
    obtain ⟨a0, b0, d0, _⟩ := DataW.trod_string Try.underlying9 g0
    obtain ⟨a2, b2, d2, wf2⟩ := DataW.trod_int Try.underlying3 g2
    simp at b0 b2
    subst b0 b2
    refine ⟨a0.data.toList, a2, v1, v3, y1, y3, k, rfl, ?_, wf_rg wf2, g1, g3⟩
    rw [hxy]
    simp [d0, d2]
theorem weights_proc {H : Type} (s : List UInt8) (m : Int) (d0 d1 : DataW H) : (DataW.agg [.lit (.string s), d0, .lit (.int .i64 m), d1] : DataW H).weights Try.prog 25 = s.length :: (d0.weights Try.prog 22 ++ d1.weights Try.prog 23) := by
  rw [DataW.weights, Try.underlying25]
  simp [DataW.weightsEach, DataW.weights]
/-- What the reading of a slice of procedures gives. -/
def SlC (W : World) (v : Value) (l : List Sy.Pc) : Prop := (∃ a c, v = .slice a l.length c) ∧ PcS (fun _ => True) W v l ∧ (∀ s, s ∈ l → s.Ok) ∧ l.length ≤ 1000000000000000
theorem pcs_open {H : Type} {enc : TypeId × Value → H} {W : World} (fuel : Nat) (v : Value) (z : DataW H × List MemPlace) (hf : DataW.trod enc Try.prog W 0 (fun _ => true) true fuel 27 [v] = some z) (hw : ∀ q, q ∈ z.1.weights Try.prog 27 → q ≤ reachBytes) : ∃ l, SlC W v l := by
  rcases sln_open Try.underlying27 cPc4 hf with rfl | ⟨x, cap, elems, rest, n, hn, rfl, hcap, hz, hel⟩
  · exact ⟨[], ⟨_, _, rfl⟩, ⟨_, _, rfl, fun h => absurd h (Nat.lt_irrefl 0)⟩, fun s h => (by cases h), by simp⟩
  · rw [hz] at hw
    have hlen := short_of Try.underlying27 bPc4 hw
    rw [List.length_map] at hlen
    have each : ∀ i, i < elems.length → ∃ y : Sy.Pc, y.Ok ∧ ∃ pa pc ba bc, W.cell? ((x.add (i * 4)).add 0) = some (.string ⟨y.name.toArray⟩) ∧ W.cell? ((x.add (i * 4)).add 1) = some (.slice pa y.params.length pc) ∧ W.cell? ((x.add (i * 4)).add 2) = some (.int .i64 y.type) ∧ W.cell? ((x.add (i * 4)).add 3) = some (.slice ba y.body.length bc) ∧ PaS (fun _ => True) W (.slice pa y.params.length pc) y.params ∧ SmS (fun _ => True) W (.slice ba y.body.length bc) y.body := by
      intro i hi
      obtain ⟨cs, hcl, hcell, htr⟩ := hel i hi
      obtain ⟨s, m, v0, v1, z0, z1, n', rfl, hy, hm, t0, t1⟩ := pc_cells hcl htr
      have key := part_weights Try.underlying27 hw (List.mem_map.2 ⟨elems[i], List.getElem_mem _, rfl⟩)
      rw [hy, weights_proc] at key
      obtain ⟨ps, ⟨pa, pc, rfl⟩, hp, op, lp⟩ := pas_open n' v0 z0 t0 (fun q hq => key q (List.mem_cons_of_mem _ (List.mem_append.2 (.inl hq))))
      obtain ⟨b, ⟨ba, bc, rfl⟩, hb, ob, lb⟩ := sts_open n' v1 z1 t1 (fun q hq => key q (List.mem_cons_of_mem _ (List.mem_append.2 (.inr hq))))
      exact ⟨⟨s, ps, m, b⟩, ⟨reach_15 (key _ (List.mem_cons_self ..)), hm, op, lp, ob, lb⟩, pa, pc, ba, bc, hcell 0 (by simp), hcell 1 (by simp), hcell 2 (by simp), hcell 3 (by simp), hp, hb⟩
    obtain ⟨l, hll, hQ⟩ := list_of_each elems.length each
    refine ⟨l, ⟨_, _, by rw [hll]⟩, ⟨_, _, by rw [hll], fun h0 => ?_⟩, fun s hs => ?_, by omega⟩
    · obtain ⟨_, _, _, _, _, _, e0, _⟩ := each 0 (by omega)
      have hsp : ∃ b o, x = ⟨b, o, none⟩ := by
        obtain ⟨bb, oo, ss⟩ := x
        have : ss = none := by simpa [Addr.add] using World.cell?_spot e0
        exact ⟨bb, oo, by rw [this]⟩
      obtain ⟨g, off, rfl⟩ := hsp
      simp only [add_plain6, Nat.add_zero] at hQ e0
      refine ⟨g, off, rfl, trivial, World.block_lt_of_cell? W _ e0, fun j hj => ?_⟩
      obtain ⟨_, pa, pc, ba, bc, c0, c1, c2, c3, hp, hb⟩ := hQ j l[j] (List.getElem?_eq_getElem hj)
      exact ⟨l[j], pa, pc, ba, bc, List.getElem?_eq_getElem hj, c0, c1, c2, c3, hp, hb⟩
    · obtain ⟨i, hi⟩ := List.getElem?_of_mem hs
      exact (hQ i s hi).1
/-- An argument that is a program. -/
theorem arg_pg {H : Type} {enc : TypeId × Value → H} {W : World} {v : Value} {d : DataW H} {p : List MemPlace} {ts : List TypeId} {ds : List (DataW H)} {j base : Nat}
    (hv : Value.okWide Try.prog W .any base 29 v)
    (h : ∃ fuel, DataW.trod enc Try.prog W 0 (fun _ => true) true fuel 29 v.cells.toList = some (d, p))
    (hsz : (DataW.weightsEach Try.prog ts ds).all (· ≤ reachBytes) = true) (ht : ts[j]? = some 29) (hd : ds[j]? = some d) :
    ∃ sa l sc, v = .agg #[.slice sa (l : List Sy.Pc).length sc] ∧ PcS (fun _ => True) W (.slice sa l.length sc) l ∧ (∀ x, x ∈ l → x.Ok) ∧ l.length ≤ 1000000000000000 := by
  obtain ⟨cs, rfl, hc⟩ := okWide_struct Try.underlying29 hv
  rw [cPg1] at hc
  obtain ⟨fuel, hf⟩ := h
  have e0 : (Value.agg cs).cells.toList = cs.toList := by simp [Value.cells]
  rw [e0] at hf
  have key : ∀ q, q ∈ d.weights Try.prog 29 → q ≤ reachBytes := fun q hq => of_decide_eq_true (List.all_eq_true.1 hsz _ (DataW.weights_mem_each ht hd _ hq))
  obtain ⟨xs, k, hk, hxy, _, hxl, hg⟩ := DataW.trod_struct Try.underlying29 hf
  match xs, hxl, cs, hc with
  | [y0], _, ⟨[u]⟩, _ =>
    have g0 := hg 0 _ rfl
    simp [cPcL] at g0
    have hd' : d = .agg [y0.1] := (Prod.ext_iff.1 hxy).1
    rw [hd', DataW.weights, Try.underlying29] at key
    simp [DataW.weightsEach] at key
    obtain ⟨l, ⟨a, c, rfl⟩, hp, ho, hl⟩ := pcs_open k u y0 g0 key
    exact ⟨a, l, c, rfl, hp, ho, hl⟩
end Go.Proofs.Ytfpabjdhibmefaa
