/- What the rows over slices of tokens are given: the tokens of the argument, the reach of each text. -/
import Derived.Test.YtdjpjoipdlfooaaDoorFrame5
import Derived.Test.YtdjpjoipdlfooaaDoorLexZ
import Derived.SizedLaws
import Derived.ChangeSame
namespace Go.Proofs.YtdjpjoipdlfooaaDoor
open Go.ChangeShapes Go.WideShapes Go.ChangeAt Go.RowKit
set_option maxRecDepth 100000

theorem add_plain6 {b o n : Nat} : (⟨b, o, none⟩ : Addr).add n = ⟨b, o + n, none⟩ := by unfold Addr.add; split <;> simp_all
theorem in_weightsAll {H : Type} {P : Program} {e : TypeId} {n : Nat} {d : DataW H} : ∀ {ds : List (DataW H)}, d ∈ ds → n ∈ d.weights P e → n ∈ DataW.weightsAll P e ds
  | [], h, _ => by cases h
  | x :: r, h, hn => by
    rw [DataW.weightsAll, List.mem_append]
    rcases List.mem_cons.1 h with rfl | h
    · exact .inl hn
    · exact .inr (in_weightsAll h hn)
/-- A token's datum, read. -/
def tokOf {H : Type} : DataW H → Tok
  | .agg [.lit (.int _ k), .lit (.string s), .lit (.int _ m), .lit (.int _ p)] => (⟨k, s, m⟩, p)
  | _ => tok0
theorem tok_open {H : Type} {enc : TypeId × Value → H} {P : Program} {w : World} {base : Nat} {sp : Nat → Bool} {held : Bool} {e : TypeId} {f0 f1 f2 f3 : Field} {n : Nat} {a : Addr} {cs : List Value} {y : DataW H × List MemPlace}
    (he : P.underlying e = some (.struct #[f0, f1, f2, f3])) (o0 : f0.offset = 0) (o1 : f1.offset = 1) (o2 : f2.offset = 2) (o3 : f3.offset = 3)
    (c0 : P.cellsOf f0.type = 1) (c1 : P.cellsOf f1.type = 1) (c2 : P.cellsOf f2.type = 1) (c3 : P.cellsOf f3.type = 1)
    (u0 : P.underlying f0.type = some (.int .i64)) (u1 : P.underlying f1.type = some .string) (u2 : P.underlying f2.type = some (.int .i64)) (u3 : P.underlying f3.type = some (.int .i64))
    (h1 : w.cells? base a 4 = some cs) (h2 : DataW.trod enc P w base sp held n e cs = some y) :
    ∃ k s m p, w.cell? (a.add 0) = some (.int .i64 k) ∧ w.cell? (a.add 1) = some (.string s) ∧ w.cell? (a.add 2) = some (.int .i64 m) ∧ w.cell? (a.add 3) = some (.int .i64 p) ∧
      y.1 = .agg [.lit (.int .i64 k), .lit (.string s.data.toList), .lit (.int .i64 m), .lit (.int .i64 p)] ∧ (Lit.int .i64 m).wf = true := by
  obtain ⟨_, hlen, hcell⟩ := World.cells?_some h1
  obtain ⟨xs, k, _, hxy, _, hxl, hf⟩ := DataW.trod_struct he h2
  match xs, hxl, cs, hlen with
  | [y0, y1, y2, y3], _, [v0, v1, v2, v3], _ =>
    have g0 := hf 0 f0 rfl
    have g1 := hf 1 f1 rfl
    have g2 := hf 2 f2 rfl
    have g3 := hf 3 f3 rfl
    simp [o0, o1, o2, o3, c0, c1, c2, c3] at g0 g1 g2 g3
    obtain ⟨a0, b0, d0, _⟩ := DataW.trod_int u0 g0
    obtain ⟨a1, b1, d1, _⟩ := DataW.trod_string u1 g1
    obtain ⟨a2, b2, d2, wf2⟩ := DataW.trod_int u2 g2
    obtain ⟨a3, b3, d3, _⟩ := DataW.trod_int u3 g3
    simp at b0 b1 b2 b3
    subst b0 b1 b2 b3
    refine ⟨a0, a1, a2, a3, by simpa using hcell 0 (by omega), by simpa using hcell 1 (by omega), by simpa using hcell 2 (by omega), by simpa using hcell 3 (by omega), ?_, wf2⟩
    rw [hxy]
    simp [d0, d1, d2, d3]
theorem cTok : Tryd.prog.cellsOf 33 = 4 := by kernel_rfl
theorem cTokI : Tryd.prog.cellsOf 3 = 1 := by kernel_rfl
theorem cTokL : Tryd.prog.cellsOf 2 = 1 := by kernel_rfl
theorem cTokS : Tryd.prog.cellsOf 9 = 1 := by kernel_rfl

/-- An argument that is a slice of tokens. -/
theorem arg_tok {H : Type} {enc : TypeId × Value → H} {W : World} {a : Option Addr} {len cap : Nat} {d : DataW H} {p : List MemPlace} {ts : List TypeId} {ds : List (DataW H)} {j : Nat}
    (h : ∃ fuel, DataW.trod enc Tryd.prog W 0 (fun _ => true) true fuel 22 (Value.slice a len cap).cells.toList = some (d, p))
    (hsz : (DataW.weightsEach Tryd.prog ts ds).all (· ≤ reachBytes) = true) (ht : ts[j]? = some 22) (hd : ds[j]? = some d) : ∃ tks, ArgT W (.slice a len cap) tks := by
  obtain ⟨fuel, hf⟩ := h
  rcases DataW.trod_slice Tryd.underlying22 hf with ⟨hcs, _⟩ | ⟨x, l, c, elems, rest, n, _, hcs, hx, _, hl, hm, hlen, hel, _, _⟩
  · simp [Value.cells] at hcs
    obtain ⟨rfl, rfl, rfl⟩ := hcs
    exact ⟨[], .inl ⟨rfl, none, 0, rfl⟩, fun j hj => by simp at hj, fun j hj => by simp at hj⟩
  · simp [Value.cells] at hcs
    obtain ⟨rfl, rfl, rfl⟩ := hcs
    have hxd : d = .slice (elems.map (·.1)) (rest.map (·.1)) := (Prod.ext_iff.1 hx).1
    have each : ∀ i, i < elems.length → ∃ k s m q, W.cell? ((x.add (i * 4)).add 0) = some (.int .i64 k) ∧ W.cell? ((x.add (i * 4)).add 1) = some (.string s) ∧ W.cell? ((x.add (i * 4)).add 2) = some (.int .i64 m) ∧ W.cell? ((x.add (i * 4)).add 3) = some (.int .i64 q) ∧
        (elems.map (·.1))[i]? = some (.agg [.lit (.int .i64 k), .lit (.string s.data.toList), .lit (.int .i64 m), .lit (.int .i64 q)]) ∧ (Lit.int .i64 m).wf = true := by
      intro i hi
      have h1 := hel i (by omega)
      rw [List.getElem?_eq_getElem hi, cTok, Option.bind_eq_some_iff] at h1
      obtain ⟨cs', h2, h3⟩ := h1
      obtain ⟨k, s, m, q, e0, e1, e2, e3, e4, e5⟩ := tok_open Tryd.underlying33 rfl rfl rfl rfl cTokI cTokS cTokL cTokI Tryd.underlying3 Tryd.underlying9 Tryd.underlying2 Tryd.underlying3 h2 h3
      refine ⟨k, s, m, q, e0, e1, e2, e3, ?_, e5⟩
      rw [List.getElem?_map, List.getElem?_eq_getElem hi, Option.map_some, e4]
    have htok : ∀ i k s m q, (elems.map (·.1))[i]? = some (.agg [.lit (.int .i64 k), .lit (.string s), .lit (.int .i64 m), .lit (.int .i64 q)]) → (elems.map fun y => tokOf y.1).getD i tok0 = (⟨k, s, m⟩, q) := by
      intro i k s m q hi
      rw [List.getElem?_map] at hi
      obtain ⟨y, hy, hy2⟩ := Option.map_eq_some_iff.1 hi
      rw [List.getD_eq_getElem?_getD, List.getElem?_map, hy, Option.map_some, hy2]
      rfl
    by_cases h0 : elems.length = 0
    · have e : len = 0 := by omega
      subst e
      exact ⟨[], .inl ⟨rfl, _, _, rfl⟩, fun j hj => by simp at hj, fun j hj => by simp at hj⟩
    · obtain ⟨b, off, spot⟩ := x
      have hspot : spot = none := by
        obtain ⟨k, s, m, q, e0, _⟩ := each 0 (by omega)
        simpa [Addr.add] using World.cell?_spot e0
      subst hspot
      simp only [add_plain6, Nat.add_zero] at each
      refine ⟨elems.map fun y => tokOf y.1, .inr ⟨by simp; omega, b, off, cap, by rw [List.length_map, hlen], by rw [List.length_map, hlen]; exact hl, ?_⟩, ?_, ?_⟩
      · refine ⟨?_, ?_, ?_, ?_, ?_⟩
        · obtain ⟨k, s, m, q, e0, _⟩ := each 0 (by omega)
          exact World.block_lt_of_cell? W _ e0
        · intro i hi
          rw [List.length_map] at hi
          obtain ⟨k, s, m, q, e0, e1, e2, e3, e4, e5⟩ := each i hi
          rw [htok i _ _ _ _ e4]; exact e0
        · intro i hi
          rw [List.length_map] at hi
          obtain ⟨k, s, m, q, e0, e1, e2, e3, e4, e5⟩ := each i hi
          rw [htok i _ _ _ _ e4]; exact e1
        · intro i hi
          rw [List.length_map] at hi
          obtain ⟨k, s, m, q, e0, e1, e2, e3, e4, e5⟩ := each i hi
          rw [htok i _ _ _ _ e4]; exact e2
        · intro i hi
          rw [List.length_map] at hi
          obtain ⟨k, s, m, q, e0, e1, e2, e3, e4, e5⟩ := each i hi
          rw [htok i _ _ _ _ e4]; exact e3
      · intro i hi
        rw [List.length_map] at hi
        obtain ⟨k, s, m, q, e0, e1, e2, e3, e4, e5⟩ := each i hi
        rw [htok i _ _ _ _ e4]
        have m1 : (DataW.agg [.lit (.int .i64 k), .lit (.string s.data.toList), .lit (.int .i64 m), .lit (.int .i64 q)] : DataW H) ∈ elems.map (·.1) := List.mem_of_getElem? e4
        have m2 : s.data.toList.length ∈ (DataW.agg [.lit (.int .i64 k), .lit (.string s.data.toList), .lit (.int .i64 m), .lit (.int .i64 q)] : DataW H).weights Tryd.prog 33 := by
          rw [DataW.weights, Tryd.underlying33]
          simp [DataW.weightsEach, DataW.weights]
        have m3 : s.data.toList.length ∈ (DataW.slice (elems.map (·.1)) (rest.map (·.1)) : DataW H).weights Tryd.prog 22 := by
          rw [DataW.weights, Tryd.underlying22]
          exact List.mem_cons_of_mem _ (List.mem_append.2 (.inl (in_weightsAll m1 m2)))
        rw [hxd] at hd
        have := List.all_eq_true.1 hsz _ (DataW.weights_mem_each ht hd _ m3)
        exact of_decide_eq_true this
      · intro i hi
        rw [List.length_map] at hi
        obtain ⟨k, s, m, q, e0, e1, e2, e3, e4, e5⟩ := each i hi
        rw [htok i _ _ _ _ e4]
        exact Pl.bd_of_wf e5
end Go.Proofs.YtdjpjoipdlfooaaDoor
