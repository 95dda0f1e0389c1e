/- Layer 5: an argument that is an expression: what its reading gives. -/
/- Layer 5: an argument that is values: what its reading gives. -/
import Derived.Test.YthadpkmbbimleaaZFolT
import Derived.Test.YthadpkmbbimleaaZFolM
import Derived.SizedLaws
import Derived.Test.YthadpkmbbimleaaZFomE
namespace Go.Proofs.Ythadpkmbbimleaa
open Go.ChangeShapes Go.WideShapes Go.ChangeAt Go.RowKit
set_option maxRecDepth 100000

theorem list_of_each {α : Type} {Q : Nat → α → Prop} : ∀ n, (∀ i, i < n → ∃ y, Q i y) → ∃ l : List α, l.length = n ∧ ∀ i y, l[i]? = some y → Q i y
  | 0, _ => ⟨[], rfl, fun i y h => by simp at h⟩
  | n + 1, h => by
    obtain ⟨l, hl, hq⟩ := list_of_each n fun i hi => h i (by omega)
    obtain ⟨y, hy⟩ := h n (by omega)
    refine ⟨l ++ [y], by simp [hl], fun i z hz => ?_⟩
    by_cases c : i < n
    · rw [List.getElem?_append_left (by omega)] at hz
      exact hq i z hz
    · have hi : i < n + 1 := by
        have := (List.getElem?_eq_some_iff.1 hz).1
        simp [hl] at this
        omega
      obtain rfl : i = n := by omega
      rw [List.getElem?_append_right (by omega)] at hz
      simp [hl] at hz
      subst hz
      exact hy
theorem cEx4 : Try.prog.cellsOf 24 = 4 := by kernel_rfl
theorem cExI : Try.prog.cellsOf 3 = 1 := by kernel_rfl
theorem cExL : Try.prog.cellsOf 2 = 1 := by kernel_rfl
theorem cExS : Try.prog.cellsOf 9 = 1 := by kernel_rfl
theorem cExR : Try.prog.cellsOf 22 = 1 := by kernel_rfl
theorem ex_open {H : Type} {enc : TypeId × Value → H} {P : Program} {w : World} {base : Nat} {sp : Nat → Bool} {held : Bool} {e : TypeId} {f0 f1 f2 f3 : Field} {n : Nat} {cs : List Value} {y : DataW H × List MemPlace}
    (he : P.underlying e = some (.struct #[f0, f1, f2, f3])) (o0 : f0.offset = 0) (o1 : f1.offset = 1) (o2 : f2.offset = 2) (o3 : f3.offset = 3)
    (c0 : P.cellsOf f0.type = 1) (c1 : P.cellsOf f1.type = 1) (c2 : P.cellsOf f2.type = 1) (c3 : P.cellsOf f3.type = 1)
    (u0 : P.underlying f0.type = some (.int .i64)) (u1 : P.underlying f1.type = some .string) (u2 : P.underlying f2.type = some (.int .i64)) (hl : cs.length = 4)
    (h2 : DataW.trod enc P w base sp held n e cs = some y) :
    ∃ (k : Int) (s : List UInt8) (m : Int) (v : Value) (z : DataW H × List MemPlace) (n' : Nat), cs = [.int .i64 k, .string ⟨s.toArray⟩, .int .i64 m, v] ∧
      y.1 = .agg [.lit (.int .i64 k), .lit (.string s), .lit (.int .i64 m), z.1] ∧ (Lit.int .i64 k).wf = true ∧ (Lit.int .i64 m).wf = true ∧ n = n' + 1 ∧ DataW.trod enc P w base sp held n' f3.type [v] = some z := by
  obtain ⟨xs, k, hk, hxy, _, hxl, hf⟩ := DataW.trod_struct he h2
  match xs, hxl, cs, hl with
  | [y0, y1, y2, y3], _, [v0, v1, v2, v3], _ =>
    have g0 := hf 0 f0 rfl
    have g1 := hf 1 f1 rfl
    have g2 := hf 2 f2 rfl
    have g3 := hf 3 f3 rfl
    simp [o0, o1, o2, o3, c0, c1, c2, c3] at g0 g1 g2 g3
    obtain ⟨a0, b0, d0, wf0⟩ := DataW.trod_int u0 g0
    obtain ⟨a1, b1, d1, _⟩ := DataW.trod_string u1 g1
    obtain ⟨a2, b2, d2, wf2⟩ := DataW.trod_int u2 g2
    simp at b0 b1 b2
    subst b0 b1 b2
    refine ⟨a0, a1.data.toList, a2, v3, y3, k, rfl, ?_, wf0, wf2, hk, g3⟩
    rw [hxy]
    simp [d0, d1, d2]
/-- What the reading of a slice of expressions gives. -/
def SlE {H : Type} (W : World) (v : Value) (d : DataW H) (l : List Sx.Ex) : Prop :=
  (∃ a cap, v = .slice a l.length cap) ∧ ExS (fun _ => True) W v l ∧ (∀ x, x ∈ l → Fo.Rg x) ∧ ((∀ q, q ∈ d.weights Try.prog 22 → q ≤ reachBytes) → ∀ x, x ∈ l → Fo.Nl x)
theorem wf_rg {m : Int} (h : (Lit.int .i64 m).wf = true) : -9223372036854775808 ≤ m ∧ m ≤ 9223372036854775807 := Pl.bd_of_wf h
theorem reach_le {n : Nat} (h : n ≤ reachBytes) : n ≤ 9223372036854775807 := Nat.le_trans h (by decide)
theorem weights_expr {H : Type} (k : Int) (s : List UInt8) (m : Int) (d : DataW H) : (DataW.agg [.lit (.int .i64 k), .lit (.string s), .lit (.int .i64 m), d] : DataW H).weights Try.prog 24 = s.length :: d.weights Try.prog 22 := by
  rw [DataW.weights, Try.underlying24]
  simp [DataW.weightsEach, DataW.weights]
theorem sl_open {H : Type} {enc : TypeId × Value → H} {W : World} : ∀ (fuel : Nat) (v : Value) (z : DataW H × List MemPlace), DataW.trod enc Try.prog W 0 (fun _ => true) true fuel 22 [v] = some z → ∃ l, SlE W v z.1 l := by
  intro fuel
  induction fuel using Nat.strongRecOn with
  | _ fuel ih =>
  intro v z hf
  rcases DataW.trod_slice Try.underlying22 hf with ⟨hcs, _⟩ | ⟨x, len, c, elems, rest, n, hn, hcs, hx, _, hl, hm, hlen, hel, _, _⟩
  · simp at hcs
    subst hcs
    exact ⟨[], ⟨_, _, rfl⟩, .nil _ _, fun x h => by simp at h, fun _ x h => by simp at h⟩
  · simp at hcs
    subst hcs
    have hxd : z.1 = .slice (elems.map (·.1)) (rest.map (·.1)) := (Prod.ext_iff.1 hx).1
    have each : ∀ i, i < len → ∃ y : Sx.Ex, ∃ k s m u ll, y = .mk k s m ll ∧ W.cell? ((x.add (i * 4)).add 0) = some (.int .i64 k) ∧ W.cell? ((x.add (i * 4)).add 1) = some (.string ⟨(s : List UInt8).toArray⟩) ∧ W.cell? ((x.add (i * 4)).add 2) = some (.int .i64 m) ∧ W.cell? ((x.add (i * 4)).add 3) = some u ∧ ExS (fun _ => True) W u ll ∧ Fo.Rg y ∧ ((∀ q, q ∈ z.1.weights Try.prog 22 → q ≤ reachBytes) → Fo.Nl y) := by
      intro i hi
      have h1 := hel i hi
      rw [List.getElem?_eq_getElem (by omega), cEx4, Option.bind_eq_some_iff] at h1
      obtain ⟨cs', h2, h3⟩ := h1
      obtain ⟨_, hlen', hcell⟩ := World.cells?_some h2
      obtain ⟨k, s, m, u, z', n', rfl, hy, wk, wm, hn', hz⟩ := ex_open Try.underlying24 rfl rfl rfl rfl cExI cExS cExL cExR Try.underlying3 Try.underlying9 Try.underlying2 hlen' h3
      obtain ⟨ll, ⟨a', cap', hu⟩, hs, hr, hw⟩ := ih n' (by omega) u z' hz
      refine ⟨.mk k s m ll, k, s, m, u, ll, rfl, by simpa using hcell 0 (by omega), by simpa using hcell 1 (by omega), by simpa using hcell 2 (by omega), by simpa using hcell 3 (by omega), hs, .mk _ _ _ _ (wf_rg wm).1 (wf_rg wm).2 hr, fun hq => ?_⟩
      have key : ∀ q, q ∈ (DataW.agg [.lit (.int .i64 k), .lit (.string s), .lit (.int .i64 m), z'.1] : DataW H).weights Try.prog 24 → q ≤ reachBytes := by
        intro q hq'
        refine hq q ?_
        rw [hxd, DataW.weights, Try.underlying22]
        refine List.mem_cons_of_mem _ (List.mem_append.2 (.inl (in_weightsAll (d := elems[i].1) ?_ (by rw [hy]; exact hq'))))
        exact List.mem_map.2 ⟨elems[i], List.getElem_mem _, rfl⟩
      rw [weights_expr] at key
      exact .mk _ _ _ _ (reach_le (key _ (List.mem_cons_self ..))) (hw fun q hq' => key q (List.mem_cons_of_mem _ hq'))
    obtain ⟨l, hll, hQ⟩ := list_of_each len each
    have hrg : ∀ y, y ∈ l → Fo.Rg y := fun y hy => by
      obtain ⟨i, hi⟩ := List.getElem?_of_mem hy
      obtain ⟨_, _, _, _, _, _, _, _, _, _, _, h, _⟩ := hQ i y hi
      exact h
    have hnl : (∀ q, q ∈ z.1.weights Try.prog 22 → q ≤ reachBytes) → ∀ y, y ∈ l → Fo.Nl y := fun hq y hy => by
      obtain ⟨i, hi⟩ := List.getElem?_of_mem hy
      obtain ⟨_, _, _, _, _, _, _, _, _, _, _, _, h⟩ := hQ i y hi
      exact h hq
    refine ⟨l, ⟨_, _, by rw [hll]⟩, ?_, hrg, hnl⟩
    by_cases h0 : len = 0
    · subst h0
      have : l = [] := List.length_eq_zero_iff.1 hll
      subst this
      exact .nil _ _
    · obtain ⟨b, off, spot⟩ := x
      have hspot : spot = none := by
        obtain ⟨_, k, s, m, u, ll, _, e0, _⟩ := each 0 (by omega)
        simpa [Addr.add] using World.cell?_spot e0
      subst hspot
      simp only [add_plain6, Nat.add_zero] at each hQ
      refine .some b off c len l hll.symm (by omega) (by omega) trivial ?_ (ExC.of_cells l off fun q hq => ?_)
      · obtain ⟨_, k, s, m, u, ll, _, e0, _⟩ := each 0 (by omega)
        exact World.block_lt_of_cell? W _ e0
      · obtain ⟨k, s, m, u, ll, e, c0, c1, c2, c3, hs, _, _⟩ := hQ q l[q] (List.getElem?_eq_getElem hq)
        exact ⟨k, s, m, u, ll, by rw [List.getElem?_eq_getElem hq, e], c0, c1, c2, c3, hs⟩
/-- An argument that is an expression. -/
theorem arg_ex {H : Type} {enc : TypeId × Value → H} {W : World} {v : Value} {d : DataW H} {p : List MemPlace} {ts : List TypeId} {ds : List (DataW H)} {j base : Nat}
    (hv : Value.okWide Try.prog W .any base 24 v)
    (h : ∃ fuel, DataW.trod enc Try.prog W 0 (fun _ => true) true fuel 24 v.cells.toList = some (d, p))
    (hsz : (DataW.weightsEach Try.prog ts ds).all (· ≤ reachBytes) = true) (ht : ts[j]? = some 24) (hd : ds[j]? = some d) :
    ∃ k n m l sa sc, v = .agg #[.int .i64 k, .string ⟨(n : List UInt8).toArray⟩, .int .i64 m, .slice sa (l : List Sx.Ex).length sc] ∧ ExS (fun _ => True) W (.slice sa l.length sc) l ∧ Fo.Rg (.mk k n m l) ∧ Fo.Nl (.mk k n m l) := by
  obtain ⟨cs, rfl, hc⟩ := okWide_struct Try.underlying24 hv
  rw [cEx4] at hc
  obtain ⟨fuel, hf⟩ := h
  have e0 : (Value.agg cs).cells.toList = cs.toList := by simp [Value.cells]
  rw [e0] at hf
  obtain ⟨k, s, m, u, z, n', hcs, hy, wk, wm, hn', hz⟩ := ex_open Try.underlying24 rfl rfl rfl rfl cExI cExS cExL cExR Try.underlying3 Try.underlying9 Try.underlying2 (by simpa using hc) hf
  obtain ⟨l, ⟨a', cap', hu⟩, hs, hr, hw⟩ := sl_open n' u z hz
  subst hu
  have hcs' : cs = #[.int .i64 k, .string ⟨s.toArray⟩, .int .i64 m, .slice a' l.length cap'] := by cases cs; simp_all
  have key : ∀ q, q ∈ d.weights Try.prog 24 → q ≤ reachBytes := fun q hq => of_decide_eq_true (List.all_eq_true.1 hsz _ (DataW.weights_mem_each ht hd _ hq))
  have hy' : d = .agg [.lit (.int .i64 k), .lit (.string s), .lit (.int .i64 m), z.1] := hy
  rw [hy', weights_expr] at key
  exact ⟨k, s, m, l, a', cap', by rw [hcs'], hs, .mk _ _ _ _ (wf_rg wm).1 (wf_rg wm).2 hr, .mk _ _ _ _ (reach_le (key _ (List.mem_cons_self ..))) (hw fun q hq => key q (List.mem_cons_of_mem _ hq))⟩
end Go.Proofs.Ythadpkmbbimleaa

namespace Go.Proofs.Ythadpkmbbimleaa
open Go.ChangeShapes Go.WideShapes Go.ChangeAt Go.RowKit
set_option maxRecDepth 100000

/-- A slice whose elements have one cell each. -/
theorem sl1_open {H : Type} {enc : TypeId × Value → H} {P : Program} {W : World} {t e : TypeId} {fuel : Nat} {v : Value} {z : DataW H × List MemPlace} (ht : P.underlying t = some (.slice e)) (he : P.cellsOf e = 1)
    (hf : DataW.trod enc P W 0 (fun _ => true) true fuel t [v] = some z) : v = .slice none 0 0 ∨ ∃ (x : Addr) (cap : Nat) (elems rest : List (DataW H × List MemPlace)) (n : Nat), v = .slice (some x) elems.length cap ∧ z.1 = .slice (elems.map (·.1)) (rest.map (·.1)) ∧
      (0 < elems.length → ∃ b o, x = ⟨b, o, none⟩ ∧ b < W.heap.size ∧ ∀ i, (hi : i < elems.length) → ∃ c, W.cell? ⟨b, o + i, none⟩ = some c ∧ DataW.trod enc P W 0 (fun _ => true) true n e [c] = some elems[i]) := by
  rcases DataW.trod_slice ht hf with ⟨hcs, _⟩ | ⟨x, len, c, elems, rest, n, hn, hcs, hx, _, hl, hm, hlen, hel, _, _⟩
  · simp at hcs
    exact .inl hcs
  · simp at hcs
    subst hcs
    subst hlen
    refine .inr ⟨x, c, elems, rest, n, rfl, (Prod.ext_iff.1 hx).1, fun h0 => ?_⟩
    have each : ∀ i, (hi : i < elems.length) → ∃ c, W.cell? (x.add i) = some c ∧ DataW.trod enc P W 0 (fun _ => true) true n e [c] = some elems[i] := by
      intro i hi
      have h1 := hel i hi
      rw [List.getElem?_eq_getElem hi, he, Nat.mul_one, Option.bind_eq_some_iff] at h1
      obtain ⟨cs', h2, h3⟩ := h1
      obtain ⟨_, hlen', hcell⟩ := World.cells?_some h2
      match cs', hlen' with
      | [u], _ =>
        refine ⟨u, ?_, h3⟩
        have := hcell 0 (by omega)
        obtain ⟨b, o, s⟩ := x
        simp [Addr.add] at this ⊢
        exact this
    obtain ⟨b, o, s⟩ := x
    have hs : s = none := by
      obtain ⟨u, e0, _⟩ := each 0 h0
      simpa [Addr.add] using World.cell?_spot e0
    subst hs
    simp only [add_plain6] at each
    obtain ⟨u, e0, _⟩ := each 0 h0
    exact ⟨b, o, rfl, World.block_lt_of_cell? W _ e0, each⟩
theorem short_of {H : Type} {P : Program} {t e : TypeId} {elems rest : List (DataW H)} (ht : P.underlying t = some (.slice e)) (hb : 0 < P.bytesOf e) (hw : ∀ q, q ∈ (DataW.slice elems rest : DataW H).weights P t → q ≤ reachBytes) : elems.length ≤ 1000000000000000 := by
  rw [DataW.weights, ht] at hw
  have h := hw _ (List.mem_cons_self ..)
  have h2 : elems.length ≤ (elems.length + rest.length) * P.bytesOf e := Nat.le_trans (Nat.le_add_right _ _) (Nat.le_mul_of_pos_right _ hb)
  have h3 : reachBytes ≤ 1000000000000000 := by decide
  omega
theorem bInt : 0 < Try.prog.bytesOf 2 := of_decide_eq_true (by kernel_rfl)
theorem bStr : 0 < Try.prog.bytesOf 9 := of_decide_eq_true (by kernel_rfl)
theorem bSlI : 0 < Try.prog.bytesOf 26 := of_decide_eq_true (by kernel_rfl)
theorem cSlI : Try.prog.cellsOf 26 = 1 := by kernel_rfl
theorem cSlS : Try.prog.cellsOf 25 = 1 := by kernel_rfl
theorem cSlL : Try.prog.cellsOf 27 = 1 := by kernel_rfl
theorem cEnv : Try.prog.cellsOf 29 = 3 := by kernel_rfl
/-- A number of 64 bits. -/
def I64 (m : Int) : Prop := -9223372036854775808 ≤ m ∧ m ≤ 9223372036854775807
theorem getD_of {α : Type} {l : List α} {j : Nat} {d : α} {Q : Nat → α → Prop} (h : ∀ i y, l[i]? = some y → Q i y) (hj : j < l.length) : Q j (l.getD j d) := by
  rw [List.getD_eq_getElem?_getD, List.getElem?_eq_getElem hj]
  exact h j _ (List.getElem?_eq_getElem hj)
theorem sl_ints {H : Type} {enc : TypeId × Value → H} {W : World} {fuel : Nat} {v : Value} {z : DataW H × List MemPlace} (hf : DataW.trod enc Try.prog W 0 (fun _ => true) true fuel 26 [v] = some z)
    (hw : ∀ q, q ∈ z.1.weights Try.prog 26 → q ≤ reachBytes) : ∃ (l : List Int) (a : Option Addr) (c : Nat), v = .slice a l.length c ∧ Li W a l.length l ∧ l.length ≤ 1000000000000000 ∧ (∀ m, m ∈ l → I64 m) ∧ (a = none → v = .slice none 0 0) := by
  rcases sl1_open Try.underlying26 cExL hf with rfl | ⟨x, cap, elems, rest, n, rfl, hz, hc⟩
  · exact ⟨[], none, 0, rfl, ⟨rfl, fun h => absurd h (Nat.lt_irrefl 0)⟩, by simp, fun m h => (by cases h), fun _ => rfl⟩
  · rw [hz] at hw
    have hs := short_of Try.underlying26 bInt hw
    rw [List.length_map] at hs
    by_cases h0 : 0 < elems.length
    · obtain ⟨b, o, rfl, hb, hc⟩ := hc h0
      obtain ⟨l, hl, hQ⟩ := list_of_each (Q := fun i (m : Int) => W.cell? ⟨b, o + i, none⟩ = some (.int .i64 m) ∧ I64 m) elems.length (fun i hi => by
        obtain ⟨c, e0, e1⟩ := hc i hi
        obtain ⟨m, q0, _, q2⟩ := DataW.trod_int Try.underlying2 e1
        simp at q0
        subst q0
        exact ⟨m, e0, wf_rg q2⟩)
      refine ⟨l, some ⟨b, o, none⟩, cap, by rw [hl], ⟨rfl, fun _ => ⟨b, o, rfl, hb, fun j hj => (getD_of hQ hj).1⟩⟩, by omega, fun m hm => ?_, fun h => by cases h⟩
      obtain ⟨i, hi⟩ := List.getElem?_of_mem hm
      exact (hQ i m hi).2
    · have e : elems = [] := List.length_eq_zero_iff.1 (by omega)
      subst e
      exact ⟨[], some x, cap, rfl, ⟨rfl, fun h => absurd h (Nat.lt_irrefl 0)⟩, by simp, fun m h => (by cases h), fun h => by cases h⟩
theorem sl_texts {H : Type} {enc : TypeId × Value → H} {W : World} {fuel : Nat} {v : Value} {z : DataW H × List MemPlace} (hf : DataW.trod enc Try.prog W 0 (fun _ => true) true fuel 25 [v] = some z)
    (hw : ∀ q, q ∈ z.1.weights Try.prog 25 → q ≤ reachBytes) : ∃ (l : List (List UInt8)) (a : Option Addr) (c : Nat), v = .slice a l.length c ∧ Tx W a l := by
  rcases sl1_open Try.underlying25 cExS hf with rfl | ⟨x, cap, elems, rest, n, rfl, hz, hc⟩
  · exact ⟨[], none, 0, rfl, by simp, fun h => absurd h (Nat.lt_irrefl 0)⟩
  · rw [hz] at hw
    have hs := short_of Try.underlying25 bStr hw
    rw [List.length_map] at hs
    by_cases h0 : 0 < elems.length
    · obtain ⟨b, o, rfl, hb, hc⟩ := hc h0
      obtain ⟨l, hl, hQ⟩ := list_of_each (Q := fun i (m : List UInt8) => W.cell? ⟨b, o + i, none⟩ = some (.string ⟨m.toArray⟩)) elems.length (fun i hi => by
        obtain ⟨c, e0, e1⟩ := hc i hi
        obtain ⟨m, q0, _, q2⟩ := DataW.trod_string Try.underlying9 e1
        simp at q0
        subst q0
        exact ⟨m.data.toList, e0⟩)
      exact ⟨l, some ⟨b, o, none⟩, cap, by rw [hl], by omega, fun _ => ⟨b, o, rfl, hb, fun j hj => getD_of hQ hj⟩⟩
    · have e : elems = [] := List.length_eq_zero_iff.1 (by omega)
      subst e
      exact ⟨[], some x, cap, rfl, by simp, fun h => absurd h (Nat.lt_irrefl 0)⟩
theorem sl_lists {H : Type} {enc : TypeId × Value → H} {W : World} {fuel : Nat} {v : Value} {z : DataW H × List MemPlace} (hf : DataW.trod enc Try.prog W 0 (fun _ => true) true fuel 27 [v] = some z)
    (hw : ∀ q, q ∈ z.1.weights Try.prog 27 → q ≤ reachBytes) : ∃ (l : List (Option (List Int))) (a : Option Addr) (c : Nat), v = .slice a l.length c ∧ Ls W a l ∧ (∀ q, some q ∈ l → ∀ m, m ∈ q → I64 m) := by
  rcases sl1_open Try.underlying27 cSlI hf with rfl | ⟨x, cap, elems, rest, n, rfl, hz, hc⟩
  · exact ⟨[], none, 0, rfl, ⟨by simp, fun h => absurd h (Nat.lt_irrefl 0)⟩, fun q h => by cases h⟩
  · rw [hz] at hw
    have hs := short_of Try.underlying27 bSlI hw
    rw [List.length_map] at hs
    by_cases h0 : 0 < elems.length
    · obtain ⟨b, o, rfl, hb, hc⟩ := hc h0
      obtain ⟨l, hl, hQ⟩ := list_of_each (Q := fun i (m : Option (List Int)) => ((m = none ∧ W.cell? ⟨b, o + i, none⟩ = some (.slice none 0 0)) ∨ ∃ q a sn sc, m = some q ∧ W.cell? ⟨b, o + i, none⟩ = some (.slice (some a) sn sc) ∧ Li W (some a) sn q ∧ q.length ≤ 1000000000000000) ∧ ∀ q, m = some q → ∀ u, u ∈ q → I64 u) elems.length (fun i hi => by
        obtain ⟨c, e0, e1⟩ := hc i hi
        obtain ⟨q, a, cc, rfl, hli, hq, hr, hn⟩ := sl_ints e1 (fun q hq => hw q (by
          rw [DataW.weights, Try.underlying27]
          refine List.mem_cons_of_mem _ (List.mem_append.2 (.inl (in_weightsAll (d := elems[i].1) ?_ hq)))
          exact List.mem_map.2 ⟨elems[i], List.getElem_mem _, rfl⟩))
        cases a with
        | none =>
          rw [hn rfl] at e0
          exact ⟨none, .inl ⟨rfl, e0⟩, fun q h => by cases h⟩
        | some a => exact ⟨some q, .inr ⟨q, a, _, _, rfl, e0, hli, hq⟩, fun q' h => by injection h with h; subst h; exact hr⟩)
      refine ⟨l, some ⟨b, o, none⟩, cap, by rw [hl], ⟨by omega, fun _ => ⟨b, o, rfl, hb, fun j hj => (getD_of hQ hj).1⟩⟩, fun q hq => ?_⟩
      obtain ⟨i, hi⟩ := List.getElem?_of_mem hq
      exact (hQ i _ hi).2 q rfl
    · have e : elems = [] := List.length_eq_zero_iff.1 (by omega)
      subst e
      exact ⟨[], some x, cap, rfl, ⟨by simp, fun h => absurd h (Nat.lt_irrefl 0)⟩, fun q h => by cases h⟩
/-- Values of 64 bits. -/
def En.Rg (E : En) : Prop := (∀ m, m ∈ E.vals → I64 m) ∧ ∀ q, some q ∈ E.lists → ∀ m, m ∈ q → I64 m
theorem weights_env {H : Type} (d0 d1 d2 : DataW H) : (DataW.agg [d0, d1, d2] : DataW H).weights Try.prog 29 = d0.weights Try.prog 25 ++ (d1.weights Try.prog 26 ++ d2.weights Try.prog 27) := by
  rw [DataW.weights, Try.underlying29]
  simp [DataW.weightsEach]
/-- An argument that is values. -/
theorem arg_env {H : Type} {enc : TypeId × Value → H} {W : World} {v : Value} {d : DataW H} {p : List MemPlace} {ts : List TypeId} {ds : List (DataW H)} {j base : Nat}
    (hv : Value.okWide Try.prog W .any base 29 v)
    (h : ∃ fuel, DataW.trod enc Try.prog W 0 (fun _ => true) true fuel 29 v.cells.toList = some (d, p))
    (hsz : (DataW.weightsEach Try.prog ts ds).all (· ≤ reachBytes) = true) (ht : ts[j]? = some 29) (hd : ds[j]? = some d) :
    ∃ s0 s1 s2 E, v = .agg #[s0, s1, s2] ∧ EnM W s0 s1 s2 E ∧ E.Rg := by
  obtain ⟨cs, rfl, hc⟩ := okWide_struct Try.underlying29 hv
  rw [cEnv] at hc
  obtain ⟨fuel, hf⟩ := h
  have e0 : (Value.agg cs).cells.toList = cs.toList := by simp [Value.cells]
  rw [e0] at hf
  have key : ∀ q, q ∈ d.weights Try.prog 29 → q ≤ reachBytes := fun q hq => of_decide_eq_true (List.all_eq_true.1 hsz _ (DataW.weights_mem_each ht hd _ hq))
  obtain ⟨xs, n, hn, hxy, _, hxl, hf⟩ := DataW.trod_struct Try.underlying29 hf
  obtain ⟨cl⟩ := cs
  match xs, hxl, cl, hc with
  | [y0, y1, y2], _, [v0, v1, v2], _ =>
    have g0 := hf 0 _ rfl
    have g1 := hf 1 _ rfl
    have g2 := hf 2 _ rfl
    simp [cSlS, cSlI, cSlL] at g0 g1 g2
    have hd' : d = .agg [y0.1, y1.1, y2.1] := (Prod.ext_iff.1 hxy).1
    rw [hd', weights_env] at key
    obtain ⟨l0, a0, c0, rfl, t0⟩ := sl_texts g0 fun q hq => key q (List.mem_append.2 (.inl hq))
    obtain ⟨l1, a1, c1, rfl, t1, s1, r1, _⟩ := sl_ints g1 fun q hq => key q (List.mem_append.2 (.inr (List.mem_append.2 (.inl hq))))
    obtain ⟨l2, a2, c2, rfl, t2, r2⟩ := sl_lists g2 fun q hq => key q (List.mem_append.2 (.inr (List.mem_append.2 (.inr hq))))
    exact ⟨_, _, _, ⟨l0, l1, l2⟩, rfl, ⟨⟨a0, c0, rfl, t0⟩, ⟨a1, c1, rfl, t1⟩, ⟨a2, c2, rfl, t2⟩, s1⟩, r1, r2⟩
end Go.Proofs.Ythadpkmbbimleaa
