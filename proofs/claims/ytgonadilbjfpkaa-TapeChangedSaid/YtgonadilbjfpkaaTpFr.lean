/- Layer 13: arguments that are bytes and numbers: what their readings give. -/
import Derived.Test.YtgonadilbjfpkaaTpM
import Derived.ProofKit
import Derived.OpenShut
import Derived.ChangeOld
import Derived.Below
import Derived.Lay
import Derived.SizedLaws
namespace Go.Proofs.Ytgonadilbjfpkaa
open Go.ChangeShapes Go.WideShapes Go.ChangeAt Go.RowKit
set_option maxRecDepth 100000
set_option linter.unusedVariables false

theorem own : ownKnob Try.prog.godebug = none := by kernel_rfl
theorem laidOut : laidOutB Try.prog = true := by kernel_rfl
theorem bdW {n : Int} (h : (Lit.int .i64 n).wf = true) : -9223372036854775808 ≤ n ∧ n ≤ 9223372036854775807 := by
  simp only [Lit.wf, IntKind.min, IntKind.max, IntKind.signed, IntKind.bits, Bool.and_eq_true, decide_eq_true_eq, if_true] at h
  omega
theorem bdU {n : Int} (h : (Lit.int .u8 n).wf = true) : 0 ≤ n ∧ n ≤ 255 := by
  simp [Lit.wf, IntKind.min, IntKind.max, IntKind.signed, IntKind.bits, Bool.and_eq_true, decide_eq_true_eq] at h
  omega
theorem cU1 : Try.prog.cellsOf 5 = 1 := by kernel_rfl
theorem cI4 : Try.prog.cellsOf 2 = 1 := by kernel_rfl
theorem bU1 : 0 < Try.prog.bytesOf 5 := of_decide_eq_true (by kernel_rfl)
theorem bI8 : 0 < Try.prog.bytesOf 2 := of_decide_eq_true (by kernel_rfl)
theorem short_of {H : Type} {P : Program} {t e : TypeId} {elems rest : List (DataW H)} (ht : P.underlying t = some (.slice e)) (hb : 0 < P.bytesOf e) (hw : ∀ q, q ∈ (DataW.slice elems rest : DataW H).weights P t → q ≤ reachBytes) : elems.length ≤ 1000000000000000 := by
  rw [DataW.weights, ht] at hw
  have h := hw _ (List.mem_cons_self ..)
  have h2 : elems.length ≤ (elems.length + rest.length) * P.bytesOf e := Nat.le_trans (Nat.le_add_right _ _) (Nat.le_mul_of_pos_right _ hb)
  have h3 : reachBytes ≤ 1000000000000000 := by decide
  omega
theorem list_of_each {α : Type} {Q : Nat → α → Prop} : ∀ n, (∀ i, i < n → ∃ y, Q i y) → ∃ l : List α, l.length = n ∧ ∀ i y, l[i]? = some y → Q i y
  | 0, _ => ⟨[], rfl, fun i y h => by simp at h⟩
  | n + 1, h => by
    obtain ⟨l, hl, hq⟩ := list_of_each n fun i hi => h i (by omega)
    obtain ⟨y, hy⟩ := h n (by omega)
    refine ⟨l ++ [y], by simp [hl], fun i z hz => ?_⟩
    by_cases c : i < n
    · rw [List.getElem?_append_left (by omega)] at hz
      exact hq i z hz
    · have hi : i < n + 1 := by
        have := (List.getElem?_eq_some_iff.1 hz).1
        simp [hl] at this
        omega
      obtain rfl : i = n := by omega
      rw [List.getElem?_append_right (by omega)] at hz
      simp [hl] at hz
      subst hz
      exact hy
theorem sln_open {H : Type} {enc : TypeId × Value → H} {P : Program} {W : World} {t e : TypeId} {fuel c : Nat} {v : Value} {z : DataW H × List MemPlace} (ht : P.underlying t = some (.slice e)) (he : P.cellsOf e = c)
    (hf : DataW.trod enc P W 0 (fun _ => true) true fuel t [v] = some z) : v = .slice none 0 0 ∨ ∃ (x : Addr) (cap : Nat) (elems rest : List (DataW H × List MemPlace)) (n : Nat), fuel = n + 1 ∧ v = .slice (some x) elems.length cap ∧ elems.length ≤ cap ∧ z.1 = .slice (elems.map (·.1)) (rest.map (·.1)) ∧
      ∀ i, (hi : i < elems.length) → ∃ cs, cs.length = c ∧ (∀ j, (hj : j < cs.length) → W.cell? ((x.add (i * c)).add j) = some cs[j]) ∧ DataW.trod enc P W 0 (fun _ => true) true n e cs = some elems[i] := by
  rcases DataW.trod_slice ht hf with ⟨hcs, _⟩ | ⟨x, len, cp, elems, rest, n, hn, hcs, hx, _, hl, hm, hlen, hel, _, _⟩
  · simp at hcs
    exact .inl hcs
  · simp at hcs
    subst hcs
    subst hlen
    refine .inr ⟨x, cp, elems, rest, n, hn, rfl, hl, (Prod.ext_iff.1 hx).1, fun i hi => ?_⟩
    have h1 := hel i hi
    rw [List.getElem?_eq_getElem hi, he, Option.bind_eq_some_iff] at h1
    obtain ⟨cs', h2, h3⟩ := h1
    obtain ⟨_, hlen', hcell⟩ := World.cells?_some h2
    refine ⟨cs', hlen', fun j hj => ?_, h3⟩
    have := hcell j (by omega)
    rw [this]
    exact List.getElem?_eq_getElem hj
theorem addT {b o n : Nat} : (⟨b, o, none⟩ : Addr).add n = ⟨b, o + n, none⟩ := by unfold Addr.add; split <;> simp_all
/-- What the reading of a slice of integers of one cell gives. -/
theorem ints_open {H : Type} {enc : TypeId × Value → H} {W : World} {t e : TypeId} {q : IntKind} (ht : Try.prog.underlying t = some (.slice e)) (he : Try.prog.cellsOf e = 1) (hu : Try.prog.underlying e = some (.int q)) (hb : 0 < Try.prog.bytesOf e) (fuel : Nat) (v : Value) (z : DataW H × List MemPlace) (hf : DataW.trod enc Try.prog W 0 (fun _ => true) true fuel t [v] = some z) (hw : ∀ q, q ∈ z.1.weights Try.prog t → q ≤ reachBytes) : ∃ (a : Option Addr) (l : List Int) (c : Nat), v = .slice a l.length c ∧ (0 < l.length → ∃ g o, a = some ⟨g, o, none⟩ ∧ g < W.heap.size ∧ ∀ j x, l[j]? = some x → W.cell? ⟨g, o + j, none⟩ = some (.int q x)) ∧ (∀ x ∈ l, (Lit.int q x).wf = true) ∧ l.length ≤ c ∧ l.length ≤ 1000000000000000 ∧ (a = none → c = 0) := by
  rcases sln_open ht he hf with rfl | ⟨x, cap, elems, rest, n, hn, rfl, hcap, hz, hel⟩
  · exact ⟨none, [], 0, rfl, (fun h => absurd h (Nat.lt_irrefl 0)), fun x hx => (by cases hx), Nat.le_refl _, by decide, fun _ => rfl⟩
  · have each : ∀ i, i < elems.length → ∃ y : Int, W.cell? ((x.add (i * 1)).add 0) = some (.int q y) ∧ (Lit.int q y).wf = true := by
      intro i hi
      obtain ⟨cs, hcl, hcell, htr⟩ := hel i hi
      match cs, hcl with
      | [v0], _ =>
        obtain ⟨a0, b0, d0, wf0⟩ := DataW.trod_int hu htr
        simp at b0
        subst b0
        exact ⟨a0, hcell 0 (by simp), wf0⟩
    obtain ⟨l, hll, hQ⟩ := list_of_each elems.length each
    have hsh : elems.length ≤ 1000000000000000 := by
      rw [hz] at hw
      have := short_of (elems := elems.map (·.1)) ht hb hw
      simpa using this
    refine ⟨some x, l, cap, by rw [hll], fun h0 => ?_, fun y hy => ?_, by omega, by omega, fun h => by cases h⟩
    · obtain ⟨_, e0, _⟩ := each 0 (by omega)
      have hsp : ∃ b o, x = ⟨b, o, none⟩ := by
        obtain ⟨bb, oo, ss⟩ := x
        have : ss = none := by simpa [Addr.add] using World.cell?_spot e0
        exact ⟨bb, oo, by rw [this]⟩
      obtain ⟨g, off, rfl⟩ := hsp
      simp only [addT, Nat.add_zero, Nat.mul_one] at hQ e0
      exact ⟨g, off, rfl, World.block_lt_of_cell? W _ e0, fun j i hj => (hQ j i hj).1⟩
    · obtain ⟨i, hi⟩ := List.getElem?_of_mem hy
      exact (hQ i y hi).2
theorem arg_by {H : Type} {enc : TypeId × Value → H} {W : World} {v : Value} {d : DataW H} {p : List MemPlace} {ts : List TypeId} {ds : List (DataW H)} {j base : Nat}
    (hv : Value.okWide Try.prog W .any base 22 v)
    (h : ∃ fuel, DataW.trod enc Try.prog W 0 (fun _ => true) true fuel 22 v.cells.toList = some (d, p))
    (hsz : (DataW.weightsEach Try.prog ts ds).all (· ≤ reachBytes) = true) (ht : ts[j]? = some 22) (hd : ds[j]? = some d) :
    ∃ (a : Option Addr) (l : List Int) (c : Nat), v = .slice a l.length c ∧ ByS W.heap.size W a l ∧ Tp.Byt l ∧ l.length ≤ c ∧ l.length ≤ 1000000000000000 := by
  obtain ⟨a, len, cap, rfl⟩ := okWide_slice Try.underlying22 hv
  obtain ⟨fuel, hf⟩ := h
  have key : ∀ q, q ∈ d.weights Try.prog 22 → q ≤ reachBytes := fun q hq => of_decide_eq_true (List.all_eq_true.1 hsz _ (DataW.weights_mem_each ht hd _ hq))
  obtain ⟨a, l, c, e, h1, h2, h3, h4, _⟩ := ints_open Try.underlying22 cU1 Try.underlying5 bU1 fuel _ (d, p) (by simpa [Value.cells] using hf) key
  exact ⟨a, l, c, e, h1, fun x hx => bdU (h2 x hx), h3, h4⟩
theorem arg_nm {H : Type} {enc : TypeId × Value → H} {W : World} {v : Value} {d : DataW H} {p : List MemPlace} {ts : List TypeId} {ds : List (DataW H)} {j base : Nat}
    (hv : Value.okWide Try.prog W .any base 32 v)
    (h : ∃ fuel, DataW.trod enc Try.prog W 0 (fun _ => true) true fuel 32 v.cells.toList = some (d, p))
    (hsz : (DataW.weightsEach Try.prog ts ds).all (· ≤ reachBytes) = true) (ht : ts[j]? = some 32) (hd : ds[j]? = some d) :
    ∃ (a : Option Addr) (l : List Int) (c : Nat), v = .slice a l.length c ∧ NmS W.heap.size W a l ∧ (∀ x ∈ l, -9223372036854775808 ≤ x ∧ x ≤ 9223372036854775807) ∧ l.length ≤ c ∧ l.length ≤ 1000000000000000 := by
  obtain ⟨a, len, cap, rfl⟩ := okWide_slice Try.underlying32 hv
  obtain ⟨fuel, hf⟩ := h
  have key : ∀ q, q ∈ d.weights Try.prog 32 → q ≤ reachBytes := fun q hq => of_decide_eq_true (List.all_eq_true.1 hsz _ (DataW.weights_mem_each ht hd _ hq))
  obtain ⟨a, l, c, e, h1, h2, h3, h4, _⟩ := ints_open Try.underlying32 cI4 Try.underlying2 bI8 fuel _ (d, p) (by simpa [Value.cells] using hf) key
  exact ⟨a, l, c, e, h1, fun x hx => bdW (h2 x hx), h3, h4⟩
end Go.Proofs.Ytgonadilbjfpkaa
