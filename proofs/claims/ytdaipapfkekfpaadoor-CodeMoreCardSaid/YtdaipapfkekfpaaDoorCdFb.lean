/- The frame of CodeMore: what an argument's reach says of how long it is. -/
import Derived.Test.YtdaipapfkekfpaaDoorCdFa
import Derived.Test.YtdaipapfkekfpaaDoorCdMv
namespace Go.Proofs.YtdaipapfkekfpaaDoor
open Go.ChangeShapes Go.WideShapes Go.ChangeAt Go.RowKit
set_option maxRecDepth 100000
set_option linter.unusedVariables false
set_option linter.unusedSimpArgs false

theorem bCo48 : Tryd.prog.bytesOf 33 = 48 := by kernel_rfl
theorem cos_short {H : Type} {enc : TypeId × Value → H} {W : World} (fuel : Nat) (v : Value) (z : DataW H × List MemPlace) (hf : DataW.trod enc Tryd.prog W 0 (fun _ => true) true fuel 36 [v] = some z) (hw : ∀ q, q ∈ z.1.weights Tryd.prog 36 → q ≤ reachBytes) {a : Option Addr} {n c : Nat} (e : v = .slice a n c) : n * 48 ≤ 140737488351232 := by
  rcases sln_open Tryd.underlying36 cCo4 hf with h | ⟨x, cap, elems, rest, m, hn, h, hcap, hz, hel⟩
  · rw [h] at e
    cases e
    omega
  · rw [h] at e
    cases e
    rw [hz, DataW.weights, Tryd.underlying36] at hw
    have h := hw _ (List.mem_cons_self ..)
    rw [bCo48, List.length_map] at h
    have h3 : reachBytes = 140737488351232 := rfl
    rw [h3] at h
    omega
theorem arg_cos2 {H : Type} {enc : TypeId × Value → H} {W : World} {v : Value} {d : DataW H} {p : List MemPlace} {ts : List TypeId} {ds : List (DataW H)} {j base : Nat}
    (hv : Value.okWide Tryd.prog W .any base 36 v)
    (h : ∃ fuel, DataW.trod enc Tryd.prog W 0 (fun _ => true) true fuel 36 v.cells.toList = some (d, p))
    (hsz : (DataW.weightsEach Tryd.prog ts ds).all (· ≤ reachBytes) = true) (ht : ts[j]? = some 36) (hd : ds[j]? = some d) :
    ∃ (a : Option Addr) (l : List Cd.Co) (c : Nat), v = .slice a l.length c ∧ (CoS W.heap.size W a l ∧ l.length * 48 ≤ 140737488351232) ∧ ∀ d, d ∈ l → d.Ok := by
  obtain ⟨a, l, c, e, h1, h2⟩ := arg_cos hv h hsz ht hd
  obtain ⟨fuel, hf⟩ := h
  have key : ∀ q, q ∈ d.weights Tryd.prog 36 → q ≤ reachBytes := fun q hq => of_decide_eq_true (List.all_eq_true.1 hsz _ (DataW.weights_mem_each ht hd _ hq))
  refine ⟨a, l, c, e, ⟨h1, cos_short (enc := enc) (W := W) fuel v (d, p) ?_ key e⟩, h2⟩
  rw [e] at hf ⊢
  simpa [Value.cells] using hf
theorem arg_co2 {H : Type} {enc : TypeId × Value → H} {W : World} {v : Value} {d : DataW H} {p : List MemPlace} {ts : List TypeId} {ds : List (DataW H)} {j base : Nat}
    (hv : Value.okWide Tryd.prog W .any base 33 v)
    (h : ∃ fuel, DataW.trod enc Tryd.prog W 0 (fun _ => true) true fuel 33 v.cells.toList = some (d, p))
    (hsz : (DataW.weightsEach Tryd.prog ts ds).all (· ≤ reachBytes) = true) (ht : ts[j]? = some 33) (hd : ds[j]? = some d) :
    ∃ (a : Option Addr) (c : Cd.Co) (ic : Nat), v = coV a ic c ∧ (InS W.heap.size W a c.ins ∧ c.ins.length ≤ ic) ∧ c.Ok := by
  obtain ⟨cs, rfl, hc⟩ := okWide_struct Tryd.underlying33 hv
  rw [cCo4] at hc
  obtain ⟨fuel, hf⟩ := h
  have e0 : (Value.agg cs).cells.toList = cs.toList := by simp [Value.cells]
  rw [e0] at hf
  have key : ∀ q, q ∈ d.weights Tryd.prog 33 → q ≤ reachBytes := fun q hq => of_decide_eq_true (List.all_eq_true.1 hsz _ (DataW.weights_mem_each ht hd _ hq))
  obtain ⟨c, a, ic, hcs, hcc, hi, ok⟩ := co_cells (by simpa using hc) hf key
  refine ⟨a, c, ic, ?_, ⟨hi, hcc⟩, ok⟩
  have : cs = #[.slice a c.ins.length ic, .int .i64 c.cells, .int .i64 c.params, .bool c.ans] := by
    cases cs with | mk l => simp at hcs; rw [hcs]
  rw [this]
theorem more8_walk (la : Option Addr) (l : List Cd.Co) (lc : Nat) (main : Int) (ia : Option Addr) (c : Cd.Co) (ic : Nat) (B : Nat) (w : World) (ht : Tt B w) (hm : Tm B w) (hl : CoS B w la l ∧ l.length * 48 ≤ 140737488351232) (hok : ∀ d, d ∈ l → d.Ok) (hmain : (Lit.int .i64 main).wf = true) (hc : InS B w ia c.ins ∧ c.ins.length ≤ ic) (ok : c.Ok) : Calls Tryd.prog 7 #[.slice la l.length lc, .int .i64 main, coV ia ic c] w fun e w' => e = .returned (.bool true) ∧ Below w.heap.size w w' := by
  by_cases h0 : 0 < l.length
  · obtain ⟨g, o, ps, rfl, hg, hp⟩ := hl.1.lcm h0
    exact more8_some g o lc l ps main ia ic c B w ht ⟨ht.hB, hl.1, hok, ht.tn, hm⟩ hp hg h0 hl.2 hc.1 hc.2 ok
  · obtain rfl : l = [] := List.length_eq_zero_iff.1 (by omega)
    cases la with
    | none => exact more8_nil lc main ia ic c B w ht hm hc.1 hc.2 ok
    | some ad => exact more8_emp ad lc main ia ic c B w ht hm hc.1 hc.2 ok
end Go.Proofs.YtdaipapfkekfpaaDoor
