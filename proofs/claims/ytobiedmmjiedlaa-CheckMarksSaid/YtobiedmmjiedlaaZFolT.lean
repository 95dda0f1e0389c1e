/- Layer 5: the constant that a sign makes of constants (the program's known). -/
/- Layer 5: an argument that is an expression: what its reading gives. -/
/- Layer 5: values in memory, and what they tell of a name. -/
/- Layer 5: values in memory: what the program's and the document's look-ups tell. -/
/- Layer 5: an argument that is values: what its reading gives. -/
/- Arguments that are statements, procedures, programs: what their readings give. -/
/- Layer 5: the same expression twice (the document's SameExpr), however long its lists; expressions that are not great. -/
import Derived.Test.YtobiedmmjiedlaaZFolL
import Derived.SizedLaws
import Derived.Test.YtobiedmmjiedlaaZLexK
namespace Go.Proofs.Ytobiedmmjiedlaa
open Go.RowKit

namespace Fo
open Sx
/-- Numbers of 64 bits. -/
inductive Rg : Ex → Prop
  | mk (k : Int) (n : List UInt8) (m : Int) (l : List Ex) (h0 : -9223372036854775808 ≤ m) (h1 : m ≤ 9223372036854775807) (h : ∀ x, x ∈ l → Rg x) : Rg (.mk k n m l)
theorem bI_rg (b : Bool) : -9223372036854775808 ≤ bI b := by cases b <;> decide
theorem rest_rg (a b : Int) (h : -9223372036854775808 ≤ a) : -9223372036854775808 ≤ Pl.rest a b := by
  unfold Pl.rest
  by_cases c : 0 ≤ a
  · have := Int.tmod_nonneg b c; omega
  · have h1 := Int.natAbs_tmod a b
    have h2 := Nat.mod_le a.natAbs b.natAbs
    omega
theorem re_rg (a : Int) (s : List UInt8) (b : Int) (ha : -9223372036854775808 ≤ a) : -9223372036854775808 ≤ (re a s b).1 := by
  unfold re
  repeat' split
  all_goals first | exact (Pl.w_bd _).1 | exact bI_rg _ | exact rest_rg _ _ ha | decide
theorem wo_rg {x : Ex} (h : Rg x) : -9223372036854775808 ≤ (wo T0 x).1 := by
  induction h with
  | mk k n m l h0 h1 _ ih =>
    match l, ih with
    | [], ih =>
      rw [wo]
      repeat' split
      all_goals first | exact h0 | exact bI_rg _ | exact (by decide : (-9223372036854775808 : Int) ≤ 0)
    | [a], ih =>
      have ia := ih a (by simp)
      rw [wo]
      repeat' split
      all_goals first | exact h0 | exact bI_rg _ | exact (Pl.w_bd _).1 | exact (by decide : (-9223372036854775808 : Int) ≤ 0)
    | a :: b :: r, ih =>
      have ia := ih a (by simp)
      rw [wo]
      repeat' split
      all_goals first | exact h0 | exact bI_rg _ | exact re_rg _ _ _ ia | exact (by decide : (-9223372036854775808 : Int) ≤ 0)
/-- The constant that a sign makes of constants. -/
def kn (x : Ex) : Option Ex := if (pa x).all cn = true ∧ (wo T0 x).2 = 0 then some (if tof x then .mk 2 [] (wo T0 x).1 [] else lit (wo T0 x).1) else none
end Fo
/-- What known answers. -/
def KN (w : World) : Option Sx.Ex → Ending → World → Prop
  | some y, e, w' => ∃ kk nn mm sa sc ll, y = .mk kk nn mm ll ∧ e = .returned (.tuple #[.agg #[.int .i64 kk, .string ⟨(nn : List UInt8).toArray⟩, .int .i64 mm, .slice sa ll.length sc], .bool true]) ∧ ExS (fun g => w.heap.size ≤ g) w' (.slice sa ll.length sc) ll ∧ Below w.heap.size w w'
  | none, e, w' => e = .returned (.tuple #[.agg #[.int .i64 0, .string ⟨#[]⟩, .int .i64 0, .slice none 0 0], .bool false]) ∧ Below w.heap.size w w'
/-- The loop over the parts. -/
def KLoop (l : List Sx.Ex) (W : World) (i : Value) (wr : World) : Prop := ∃ j : Nat, j ≤ l.length ∧ i = .int .i64 j ∧ Below W.heap.size W wr ∧ Hid (∀ (q : Nat) (x : Sx.Ex), q < j → l[q]? = some x → Fo.cn x = true)
theorem all_of {l : List Sx.Ex} (h : ∀ (q : Nat) (x : Sx.Ex), q < l.length → l[q]? = some x → Fo.cn x = true) : l.all Fo.cn = true := by
  rw [List.all_eq_true]
  intro x hx
  obtain ⟨q, hq, e⟩ := List.getElem_of_mem hx
  exact h q x hq (by rw [List.getElem?_eq_getElem hq, e])
theorem not_all {l : List Sx.Ex} {q : Nat} {x : Sx.Ex} (h : l[q]? = some x) (hx : Fo.cn x = false) : ¬ l.all Fo.cn = true := by
  intro e
  have := List.all_eq_true.1 e x (List.mem_of_getElem? h)
  rw [hx] at this
  cases this
end Go.Proofs.Ytobiedmmjiedlaa

namespace Go.Proofs.Ytobiedmmjiedlaa
open Go.ChangeShapes Go.WideShapes Go.ChangeAt Go.RowKit
set_option maxRecDepth 100000

theorem list_of_each {α : Type} {Q : Nat → α → Prop} : ∀ n, (∀ i, i < n → ∃ y, Q i y) → ∃ l : List α, l.length = n ∧ ∀ i y, l[i]? = some y → Q i y
  | 0, _ => ⟨[], rfl, fun i y h => by simp at h⟩
  | n + 1, h => by
    obtain ⟨l, hl, hq⟩ := list_of_each n fun i hi => h i (by omega)
    obtain ⟨y, hy⟩ := h n (by omega)
    refine ⟨l ++ [y], by simp [hl], fun i z hz => ?_⟩
    by_cases c : i < n
    · rw [List.getElem?_append_left (by omega)] at hz
      exact hq i z hz
    · have hi : i < n + 1 := by
        have := (List.getElem?_eq_some_iff.1 hz).1
        simp [hl] at this
        omega
      obtain rfl : i = n := by omega
      rw [List.getElem?_append_right (by omega)] at hz
      simp [hl] at hz
      subst hz
      exact hy
theorem cEx4 : Try.prog.cellsOf 54 = 4 := by kernel_rfl
theorem cExI : Try.prog.cellsOf 3 = 1 := by kernel_rfl
theorem cExL : Try.prog.cellsOf 2 = 1 := by kernel_rfl
theorem cExS : Try.prog.cellsOf 9 = 1 := by kernel_rfl
theorem cExR : Try.prog.cellsOf 31 = 1 := by kernel_rfl
theorem ex_open {H : Type} {enc : TypeId × Value → H} {P : Program} {w : World} {base : Nat} {sp : Nat → Bool} {held : Bool} {e : TypeId} {f0 f1 f2 f3 : Field} {n : Nat} {cs : List Value} {y : DataW H × List MemPlace}
    (he : P.underlying e = some (.struct #[f0, f1, f2, f3])) (o0 : f0.offset = 0) (o1 : f1.offset = 1) (o2 : f2.offset = 2) (o3 : f3.offset = 3)
    (c0 : P.cellsOf f0.type = 1) (c1 : P.cellsOf f1.type = 1) (c2 : P.cellsOf f2.type = 1) (c3 : P.cellsOf f3.type = 1)
    (u0 : P.underlying f0.type = some (.int .i64)) (u1 : P.underlying f1.type = some .string) (u2 : P.underlying f2.type = some (.int .i64)) (hl : cs.length = 4)
    (h2 : DataW.trod enc P w base sp held n e cs = some y) :
    ∃ (k : Int) (s : List UInt8) (m : Int) (v : Value) (z : DataW H × List MemPlace) (n' : Nat), cs = [.int .i64 k, .string ⟨s.toArray⟩, .int .i64 m, v] ∧
      y.1 = .agg [.lit (.int .i64 k), .lit (.string s), .lit (.int .i64 m), z.1] ∧ (Lit.int .i64 k).wf = true ∧ (Lit.int .i64 m).wf = true ∧ n = n' + 1 ∧ DataW.trod enc P w base sp held n' f3.type [v] = some z := by
  obtain ⟨xs, k, hk, hxy, _, hxl, hf⟩ := DataW.trod_struct he h2
  match xs, hxl, cs, hl with
  | [y0, y1, y2, y3], _, [v0, v1, v2, v3], _ =>
    have g0 := hf 0 f0 rfl
    have g1 := hf 1 f1 rfl
    have g2 := hf 2 f2 rfl
    have g3 := hf 3 f3 rfl
    simp [o0, o1, o2, o3, c0, c1, c2, c3] at g0 g1 g2 g3
    obtain ⟨a0, b0, d0, wf0⟩ := DataW.trod_int u0 g0
    obtain ⟨a1, b1, d1, _⟩ := DataW.trod_string u1 g1
    obtain ⟨a2, b2, d2, wf2⟩ := DataW.trod_int u2 g2
    simp at b0 b1 b2
    subst b0 b1 b2
    refine ⟨a0, a1.data.toList, a2, v3, y3, k, rfl, ?_, wf0, wf2, hk, g3⟩
    rw [hxy]
    simp [d0, d1, d2]
/-- What the reading of a slice of expressions gives. -/
def SlE {H : Type} (W : World) (v : Value) (d : DataW H) (l : List Sx.Ex) : Prop :=
  (∃ a cap, v = .slice a l.length cap) ∧ ExS (fun _ => True) W v l ∧ (∀ x, x ∈ l → Fo.Rg x) ∧ ((∀ q, q ∈ d.weights Try.prog 31 → q ≤ reachBytes) → ∀ x, x ∈ l → Fo.Nl x)
theorem wf_rg {m : Int} (h : (Lit.int .i64 m).wf = true) : -9223372036854775808 ≤ m ∧ m ≤ 9223372036854775807 := Pl.bd_of_wf h
theorem reach_le {n : Nat} (h : n ≤ reachBytes) : n ≤ 9223372036854775807 := Nat.le_trans h (by decide)
theorem weights_expr {H : Type} (k : Int) (s : List UInt8) (m : Int) (d : DataW H) : (DataW.agg [.lit (.int .i64 k), .lit (.string s), .lit (.int .i64 m), d] : DataW H).weights Try.prog 54 = s.length :: d.weights Try.prog 31 := by
  rw [DataW.weights, Try.underlying54]
  simp [DataW.weightsEach, DataW.weights]
theorem sl_open {H : Type} {enc : TypeId × Value → H} {W : World} : ∀ (fuel : Nat) (v : Value) (z : DataW H × List MemPlace), DataW.trod enc Try.prog W 0 (fun _ => true) true fuel 31 [v] = some z → ∃ l, SlE W v z.1 l := by
  intro fuel
  induction fuel using Nat.strongRecOn with
  | _ fuel ih =>
  intro v z hf
  rcases DataW.trod_slice Try.underlying31 hf with ⟨hcs, _⟩ | ⟨x, len, c, elems, rest, n, hn, hcs, hx, _, hl, hm, hlen, hel, _, _⟩
  · simp at hcs
    subst hcs
    exact ⟨[], ⟨_, _, rfl⟩, .nil _ _, fun x h => by simp at h, fun _ x h => by simp at h⟩
  · simp at hcs
    subst hcs
    have hxd : z.1 = .slice (elems.map (·.1)) (rest.map (·.1)) := (Prod.ext_iff.1 hx).1
    have each : ∀ i, i < len → ∃ y : Sx.Ex, ∃ k s m u ll, y = .mk k s m ll ∧ W.cell? ((x.add (i * 4)).add 0) = some (.int .i64 k) ∧ W.cell? ((x.add (i * 4)).add 1) = some (.string ⟨(s : List UInt8).toArray⟩) ∧ W.cell? ((x.add (i * 4)).add 2) = some (.int .i64 m) ∧ W.cell? ((x.add (i * 4)).add 3) = some u ∧ ExS (fun _ => True) W u ll ∧ Fo.Rg y ∧ ((∀ q, q ∈ z.1.weights Try.prog 31 → q ≤ reachBytes) → Fo.Nl y) := by
      intro i hi
      have h1 := hel i hi
      rw [List.getElem?_eq_getElem (by omega), cEx4, Option.bind_eq_some_iff] at h1
      obtain ⟨cs', h2, h3⟩ := h1
      obtain ⟨_, hlen', hcell⟩ := World.cells?_some h2
      obtain ⟨k, s, m, u, z', n', rfl, hy, wk, wm, hn', hz⟩ := ex_open Try.underlying54 rfl rfl rfl rfl cExI cExS cExL cExR Try.underlying3 Try.underlying9 Try.underlying2 hlen' h3
      obtain ⟨ll, ⟨a', cap', hu⟩, hs, hr, hw⟩ := ih n' (by omega) u z' hz
      refine ⟨.mk k s m ll, k, s, m, u, ll, rfl, by simpa using hcell 0 (by omega), by simpa using hcell 1 (by omega), by simpa using hcell 2 (by omega), by simpa using hcell 3 (by omega), hs, .mk _ _ _ _ (wf_rg wm).1 (wf_rg wm).2 hr, fun hq => ?_⟩
      have key : ∀ q, q ∈ (DataW.agg [.lit (.int .i64 k), .lit (.string s), .lit (.int .i64 m), z'.1] : DataW H).weights Try.prog 54 → q ≤ reachBytes := by
        intro q hq'
        refine hq q ?_
        rw [hxd, DataW.weights, Try.underlying31]
        refine List.mem_cons_of_mem _ (List.mem_append.2 (.inl (in_weightsAll (d := elems[i].1) ?_ (by rw [hy]; exact hq'))))
        exact List.mem_map.2 ⟨elems[i], List.getElem_mem _, rfl⟩
      rw [weights_expr] at key
      exact .mk _ _ _ _ (reach_le (key _ (List.mem_cons_self ..))) (hw fun q hq' => key q (List.mem_cons_of_mem _ hq'))
    obtain ⟨l, hll, hQ⟩ := list_of_each len each
    have hrg : ∀ y, y ∈ l → Fo.Rg y := fun y hy => by
      obtain ⟨i, hi⟩ := List.getElem?_of_mem hy
      obtain ⟨_, _, _, _, _, _, _, _, _, _, _, h, _⟩ := hQ i y hi
      exact h
    have hnl : (∀ q, q ∈ z.1.weights Try.prog 31 → q ≤ reachBytes) → ∀ y, y ∈ l → Fo.Nl y := fun hq y hy => by
      obtain ⟨i, hi⟩ := List.getElem?_of_mem hy
      obtain ⟨_, _, _, _, _, _, _, _, _, _, _, _, h⟩ := hQ i y hi
      exact h hq
    refine ⟨l, ⟨_, _, by rw [hll]⟩, ?_, hrg, hnl⟩
    by_cases h0 : len = 0
    · subst h0
      have : l = [] := List.length_eq_zero_iff.1 hll
      subst this
      exact .nil _ _
    · obtain ⟨b, off, spot⟩ := x
      have hspot : spot = none := by
        obtain ⟨_, k, s, m, u, ll, _, e0, _⟩ := each 0 (by omega)
        simpa [Addr.add] using World.cell?_spot e0
      subst hspot
      simp only [add_plain6, Nat.add_zero] at each hQ
      refine .some b off c len l hll.symm (by omega) (by omega) trivial ?_ (ExC.of_cells l off fun q hq => ?_)
      · obtain ⟨_, k, s, m, u, ll, _, e0, _⟩ := each 0 (by omega)
        exact World.block_lt_of_cell? W _ e0
      · obtain ⟨k, s, m, u, ll, e, c0, c1, c2, c3, hs, _, _⟩ := hQ q l[q] (List.getElem?_eq_getElem hq)
        exact ⟨k, s, m, u, ll, by rw [List.getElem?_eq_getElem hq, e], c0, c1, c2, c3, hs⟩
/-- An argument that is an expression. -/
theorem arg_ex {H : Type} {enc : TypeId × Value → H} {W : World} {v : Value} {d : DataW H} {p : List MemPlace} {ts : List TypeId} {ds : List (DataW H)} {j base : Nat}
    (hv : Value.okWide Try.prog W .any base 54 v)
    (h : ∃ fuel, DataW.trod enc Try.prog W 0 (fun _ => true) true fuel 54 v.cells.toList = some (d, p))
    (hsz : (DataW.weightsEach Try.prog ts ds).all (· ≤ reachBytes) = true) (ht : ts[j]? = some 54) (hd : ds[j]? = some d) :
    ∃ k n m l sa sc, v = .agg #[.int .i64 k, .string ⟨(n : List UInt8).toArray⟩, .int .i64 m, .slice sa (l : List Sx.Ex).length sc] ∧ ExS (fun _ => True) W (.slice sa l.length sc) l ∧ Fo.Rg (.mk k n m l) ∧ Fo.Nl (.mk k n m l) := by
  obtain ⟨cs, rfl, hc⟩ := okWide_struct Try.underlying54 hv
  rw [cEx4] at hc
  obtain ⟨fuel, hf⟩ := h
  have e0 : (Value.agg cs).cells.toList = cs.toList := by simp [Value.cells]
  rw [e0] at hf
  obtain ⟨k, s, m, u, z, n', hcs, hy, wk, wm, hn', hz⟩ := ex_open Try.underlying54 rfl rfl rfl rfl cExI cExS cExL cExR Try.underlying3 Try.underlying9 Try.underlying2 (by simpa using hc) hf
  obtain ⟨l, ⟨a', cap', hu⟩, hs, hr, hw⟩ := sl_open n' u z hz
  subst hu
  have hcs' : cs = #[.int .i64 k, .string ⟨s.toArray⟩, .int .i64 m, .slice a' l.length cap'] := by cases cs; simp_all
  have key : ∀ q, q ∈ d.weights Try.prog 54 → q ≤ reachBytes := fun q hq => of_decide_eq_true (List.all_eq_true.1 hsz _ (DataW.weights_mem_each ht hd _ hq))
  have hy' : d = .agg [.lit (.int .i64 k), .lit (.string s), .lit (.int .i64 m), z.1] := hy
  rw [hy', weights_expr] at key
  exact ⟨k, s, m, l, a', cap', by rw [hcs'], hs, .mk _ _ _ _ (wf_rg wm).1 (wf_rg wm).2 hr, .mk _ _ _ _ (reach_le (key _ (List.mem_cons_self ..))) (hw fun q hq => key q (List.mem_cons_of_mem _ hq))⟩
end Go.Proofs.Ytobiedmmjiedlaa

namespace Go.Proofs.Ytobiedmmjiedlaa
open Go.RowKit

/-- A slice of texts. -/
def Tx (w : World) (sa : Option Addr) (l : List (List UInt8)) : Prop := l.length ≤ 1000000000000000 ∧ (0 < l.length → ∃ b o, sa = some ⟨b, o, none⟩ ∧ b < w.heap.size ∧ ∀ j, j < l.length → w.cell? ⟨b, o + j, none⟩ = some (.string ⟨(l.getD j []).toArray⟩))
theorem Tx.later {w w' : World} {sa : Option Addr} {l : List (List UInt8)} (h : Tx w sa l) (b : Below w.heap.size w w') : Tx w' sa l :=
  ⟨h.1, fun h0 => by
    obtain ⟨g, o, e, hg, hc⟩ := h.2 h0
    exact ⟨g, o, e, Nat.lt_of_lt_of_le hg b.size, fun j hj => (b.cell (p := ⟨g, o + j, none⟩) hg).trans (hc j hj)⟩⟩
/-- Where a name stands first. -/
def ixn : List (List UInt8) → List UInt8 → Nat → Int
  | [], _, _ => -1
  | a :: r, n, k => if a = n then k else ixn r n (k + 1)
theorem ixn_is : ∀ (l : List (List UInt8)) (n : List UInt8) (k : Nat), ixn l n k = -1 ∨ ∃ j : Nat, ixn l n k = ((k + j : Nat) : Int) ∧ j < l.length
  | [], n, k => .inl rfl
  | a :: r, n, k => by
    unfold ixn
    split
    · exact .inr ⟨0, by simp, by simp⟩
    · rcases ixn_is r n (k + 1) with h | ⟨j, h, hj⟩
      · exact .inl h
      · exact .inr ⟨j + 1, by rw [h]; congr 1; omega, by simp; omega⟩
theorem drop_getD {α : Type} {l : List α} {k : Nat} {d : α} (h : k < l.length) : l.drop k = l.getD k d :: l.drop (k + 1) := by
  rw [List.drop_eq_getElem_cons h, List.getD_eq_getElem?_getD, List.getElem?_eq_getElem h]
  rfl
theorem ixn_hit {l : List (List UInt8)} {n : List UInt8} {k : Nat} (h : k < l.length) (e : l.getD k [] = n) : ixn (l.drop k) n k = k := by
  rw [drop_getD (d := []) h, ixn, if_pos e]
theorem ixn_miss {l : List (List UInt8)} {n : List UInt8} {k : Nat} (h : k < l.length) (e : ¬ l.getD k [] = n) : ixn (l.drop k) n k = ixn (l.drop (k + 1)) n (k + 1) := by
  rw [drop_getD (d := []) h, ixn, if_neg e]
theorem ixn_end (l : List (List UInt8)) (n : List UInt8) : ixn (l.drop l.length) n l.length = -1 := by
  rw [List.drop_length, ixn]

set_option maxRecDepth 100000 in
set_option maxHeartbeats 1000000 in
theorem index_any (sa : Option Addr) (c : Nat) (l : List (List UInt8)) (n : List UInt8) (w : World) (h : Tx w sa l) : Calls Try.prog 62 #[.slice sa l.length c, .string ⟨n.toArray⟩] w fun e w' => e = .returned (.int .i64 (ixn l n 0)) ∧ w' = w := by
  by_cases h0 : 0 < l.length
  · obtain ⟨g, o, rfl, hg, hc⟩ := h.2 h0
    have HC : Hid _ := hc
    have HL : Hid _ := h.1
    clear hc h h0
    go_enter Try.func62, Try.ntmps62
    go_wp2
    go_loop [8] (fun i => ∃ k : Nat, k ≤ l.length ∧ i = .int .i64 k ∧ Hid (ixn (l.drop k) n k = ixn l n 0)) (fun i => l.length - (intOf i).toNat)
    case atStart => exact ⟨0, by omega, rfl, rfl⟩
    case round =>
      obtain ⟨k, hk, rfl, N⟩ := hrel
      by_cases hlt : k < l.length
      · have hc := HC.out k hlt
        have E1 : Hid (l.getD k [] = n → ixn (l.drop k) n k = k) := ixn_hit hlt
        have E2 : Hid (¬ l.getD k [] = n → ixn (l.drop k) n k = ixn (l.drop (k + 1)) n (k + 1)) := ixn_miss hlt
        generalize l.getD k [] = x at hc E1 E2
        have hkl : Hid (l.length ≤ 1000000000000000) := HL
        by_cases he : x = n
        · have heb : (n == x) = true := by rw [he]; exact beq_self_eq_true _
          have H : Hid (ixn l n 0 = k) := N.out.symm.trans (E1.out he)
          clear he
          go_wp2
          go_ret
          rw [H.out]
          exact ⟨rfl, rfl⟩
        · have heb : (n == x) = false := by simpa using fun e : n = x => he e.symm
          have N' : Hid (ixn (l.drop (k + 1)) n (k + 1) = ixn l n 0) := (E2.out he).symm.trans N.out
          clear he
          have hl2 := hkl.out
          go_wp2
          exact ⟨⟨k + 1, by omega, by go_num, N'⟩, by simp [intOf]; omega⟩
      · obtain rfl : k = l.length := by omega
        have H : Hid (ixn l n 0 = -1) := N.out.symm.trans (ixn_end l n)
        go_wp2
        go_ret
        rw [H.out]
        exact ⟨rfl, rfl⟩
  · have : l = [] := List.length_eq_zero_iff.1 (by omega)
    subst this
    exact index_none sa c n w
end Go.Proofs.Ytobiedmmjiedlaa

namespace Go.Proofs.Ytobiedmmjiedlaa
open Go.RowKit

/-- A slice of lists; some of them none (nil). -/
def Ls (w : World) (sa : Option Addr) (l : List (Option (List Int))) : Prop := l.length ≤ 1000000000000000 ∧ (0 < l.length → ∃ b o, sa = some ⟨b, o, none⟩ ∧ b < w.heap.size ∧
  ∀ j, j < l.length → (l.getD j none = none ∧ w.cell? ⟨b, o + j, none⟩ = some (.slice none 0 0)) ∨ ∃ q a sn sc, l.getD j none = some q ∧ w.cell? ⟨b, o + j, none⟩ = some (.slice (some a) sn sc) ∧ Li w (some a) sn q ∧ q.length ≤ 1000000000000000)
theorem Li.later {w w' : World} {sa : Option Addr} {sn : Nat} {l : List Int} (h : Li w sa sn l) (b : Below w.heap.size w w') : Li w' sa sn l :=
  ⟨h.1, fun h0 => by
    obtain ⟨g, o, e, hg, hc⟩ := h.2 h0
    exact ⟨g, o, e, Nat.lt_of_lt_of_le hg b.size, fun j hj => (b.cell (p := ⟨g, o + j, none⟩) hg).trans (hc j hj)⟩⟩
theorem Ls.later {w w' : World} {sa : Option Addr} {l : List (Option (List Int))} (h : Ls w sa l) (b : Below w.heap.size w w') : Ls w' sa l :=
  ⟨h.1, fun h0 => by
    obtain ⟨g, o, e, hg, hc⟩ := h.2 h0
    refine ⟨g, o, e, Nat.lt_of_lt_of_le hg b.size, fun j hj => ?_⟩
    rcases hc j hj with ⟨e1, e2⟩ | ⟨q, a, sn, sc, e1, e2, e3, e4⟩
    · exact .inl ⟨e1, (b.cell (p := ⟨g, o + j, none⟩) hg).trans e2⟩
    · exact .inr ⟨q, a, sn, sc, e1, (b.cell (p := ⟨g, o + j, none⟩) hg).trans e2, e3.later b, e4⟩⟩
/-- Values. -/
structure En where
  names : List (List UInt8)
  vals : List Int
  lists : List (Option (List Int))
/-- The value is these values, in memory. -/
structure EnM (w : World) (s0 s1 s2 : Value) (E : En) : Prop where
  names : ∃ a c, s0 = .slice a E.names.length c ∧ Tx w a E.names
  vals : ∃ a c, s1 = .slice a E.vals.length c ∧ Li w a E.vals.length E.vals
  lists : ∃ a c, s2 = .slice a E.lists.length c ∧ Ls w a E.lists
  short : E.vals.length ≤ 1000000000000000
theorem EnM.later {w w' : World} {s0 s1 s2 : Value} {E : En} (h : EnM w s0 s1 s2 E) (b : Below w.heap.size w w') : EnM w' s0 s1 s2 E := by
  obtain ⟨a, c, e, h0⟩ := h.names
  obtain ⟨a1, c1, e1, h1⟩ := h.vals
  obtain ⟨a2, c2, e2, h2⟩ := h.lists
  exact ⟨⟨a, c, e, h0.later b⟩, ⟨a1, c1, e1, h1.later b⟩, ⟨a2, c2, e2, h2.later b⟩, h.short⟩
/-- What values tell of a name: its number, its list. -/
def En.T (E : En) (n : List UInt8) : Int × List Int :=
  if ixn E.names n 0 < 0 then (0, []) else match E.lists.getD (ixn E.names n 0).toNat none with
    | some q => (0, q)
    | none => (E.vals.getD (ixn E.names n 0).toNat 0, [])
theorem En.T_no {E : En} {n : List UInt8} (h : ixn E.names n 0 = -1) : E.T n = (0, []) := by unfold En.T; rw [h]; rfl
theorem En.T_at {E : En} {n : List UInt8} {j : Nat} (h : ixn E.names n 0 = (j : Int)) : E.T n = match E.lists.getD j none with
    | some q => (0, q)
    | none => (E.vals.getD j 0, []) := by
  unfold En.T
  rw [h, if_neg (by omega)]
  rfl

end Go.Proofs.Ytobiedmmjiedlaa

namespace Go.Proofs.Ytobiedmmjiedlaa
open Go.ChangeShapes Go.WideShapes Go.ChangeAt Go.RowKit
set_option maxRecDepth 100000

/-- A slice whose elements have one cell each. -/
theorem sl1_open {H : Type} {enc : TypeId × Value → H} {P : Program} {W : World} {t e : TypeId} {fuel : Nat} {v : Value} {z : DataW H × List MemPlace} (ht : P.underlying t = some (.slice e)) (he : P.cellsOf e = 1)
    (hf : DataW.trod enc P W 0 (fun _ => true) true fuel t [v] = some z) : v = .slice none 0 0 ∨ ∃ (x : Addr) (cap : Nat) (elems rest : List (DataW H × List MemPlace)) (n : Nat), v = .slice (some x) elems.length cap ∧ z.1 = .slice (elems.map (·.1)) (rest.map (·.1)) ∧
      (0 < elems.length → ∃ b o, x = ⟨b, o, none⟩ ∧ b < W.heap.size ∧ ∀ i, (hi : i < elems.length) → ∃ c, W.cell? ⟨b, o + i, none⟩ = some c ∧ DataW.trod enc P W 0 (fun _ => true) true n e [c] = some elems[i]) := by
  rcases DataW.trod_slice ht hf with ⟨hcs, _⟩ | ⟨x, len, c, elems, rest, n, hn, hcs, hx, _, hl, hm, hlen, hel, _, _⟩
  · simp at hcs
    exact .inl hcs
  · simp at hcs
    subst hcs
    subst hlen
    refine .inr ⟨x, c, elems, rest, n, rfl, (Prod.ext_iff.1 hx).1, fun h0 => ?_⟩
    have each : ∀ i, (hi : i < elems.length) → ∃ c, W.cell? (x.add i) = some c ∧ DataW.trod enc P W 0 (fun _ => true) true n e [c] = some elems[i] := by
      intro i hi
      have h1 := hel i hi
      rw [List.getElem?_eq_getElem hi, he, Nat.mul_one, Option.bind_eq_some_iff] at h1
      obtain ⟨cs', h2, h3⟩ := h1
      obtain ⟨_, hlen', hcell⟩ := World.cells?_some h2
      match cs', hlen' with
      | [u], _ =>
        refine ⟨u, ?_, h3⟩
        have := hcell 0 (by omega)
        obtain ⟨b, o, s⟩ := x
        simp [Addr.add] at this ⊢
        exact this
    obtain ⟨b, o, s⟩ := x
    have hs : s = none := by
      obtain ⟨u, e0, _⟩ := each 0 h0
      simpa [Addr.add] using World.cell?_spot e0
    subst hs
    simp only [add_plain6] at each
    obtain ⟨u, e0, _⟩ := each 0 h0
    exact ⟨b, o, rfl, World.block_lt_of_cell? W _ e0, each⟩
theorem short_of {H : Type} {P : Program} {t e : TypeId} {elems rest : List (DataW H)} (ht : P.underlying t = some (.slice e)) (hb : 0 < P.bytesOf e) (hw : ∀ q, q ∈ (DataW.slice elems rest : DataW H).weights P t → q ≤ reachBytes) : elems.length ≤ 1000000000000000 := by
  rw [DataW.weights, ht] at hw
  have h := hw _ (List.mem_cons_self ..)
  have h2 : elems.length ≤ (elems.length + rest.length) * P.bytesOf e := Nat.le_trans (Nat.le_add_right _ _) (Nat.le_mul_of_pos_right _ hb)
  have h3 : reachBytes ≤ 1000000000000000 := by decide
  omega
theorem bInt : 0 < Try.prog.bytesOf 2 := of_decide_eq_true (by kernel_rfl)
theorem bStr : 0 < Try.prog.bytesOf 9 := of_decide_eq_true (by kernel_rfl)
theorem cSlS : Try.prog.cellsOf 110 = 1 := by kernel_rfl
/-- A number of 64 bits. -/
def I64 (m : Int) : Prop := -9223372036854775808 ≤ m ∧ m ≤ 9223372036854775807
theorem getD_of {α : Type} {l : List α} {j : Nat} {d : α} {Q : Nat → α → Prop} (h : ∀ i y, l[i]? = some y → Q i y) (hj : j < l.length) : Q j (l.getD j d) := by
  rw [List.getD_eq_getElem?_getD, List.getElem?_eq_getElem hj]
  exact h j _ (List.getElem?_eq_getElem hj)
theorem sl_texts {H : Type} {enc : TypeId × Value → H} {W : World} {fuel : Nat} {v : Value} {z : DataW H × List MemPlace} (hf : DataW.trod enc Try.prog W 0 (fun _ => true) true fuel 110 [v] = some z)
    (hw : ∀ q, q ∈ z.1.weights Try.prog 110 → q ≤ reachBytes) : ∃ (l : List (List UInt8)) (a : Option Addr) (c : Nat), v = .slice a l.length c ∧ Tx W a l := by
  rcases sl1_open Try.underlying110 cExS hf with rfl | ⟨x, cap, elems, rest, n, rfl, hz, hc⟩
  · exact ⟨[], none, 0, rfl, by simp, fun h => absurd h (Nat.lt_irrefl 0)⟩
  · rw [hz] at hw
    have hs := short_of Try.underlying110 bStr hw
    rw [List.length_map] at hs
    by_cases h0 : 0 < elems.length
    · obtain ⟨b, o, rfl, hb, hc⟩ := hc h0
      obtain ⟨l, hl, hQ⟩ := list_of_each (Q := fun i (m : List UInt8) => W.cell? ⟨b, o + i, none⟩ = some (.string ⟨m.toArray⟩)) elems.length (fun i hi => by
        obtain ⟨c, e0, e1⟩ := hc i hi
        obtain ⟨m, q0, _, q2⟩ := DataW.trod_string Try.underlying9 e1
        simp at q0
        subst q0
        exact ⟨m.data.toList, e0⟩)
      exact ⟨l, some ⟨b, o, none⟩, cap, by rw [hl], by omega, fun _ => ⟨b, o, rfl, hb, fun j hj => getD_of hQ hj⟩⟩
    · have e : elems = [] := List.length_eq_zero_iff.1 (by omega)
      subst e
      exact ⟨[], some x, cap, rfl, by simp, fun h => absurd h (Nat.lt_irrefl 0)⟩
/-- Values of 64 bits. -/
def En.Rg (E : En) : Prop := (∀ m, m ∈ E.vals → I64 m) ∧ ∀ q, some q ∈ E.lists → ∀ m, m ∈ q → I64 m
end Go.Proofs.Ytobiedmmjiedlaa

namespace Go.Proofs.Ytobiedmmjiedlaa
open Go.ChangeShapes Go.WideShapes Go.ChangeAt Go.RowKit
set_option maxRecDepth 100000

namespace Sy
/-- Numbers of 64 bits, texts and lists that are not too long. -/
inductive Ok : St → Prop
  | mk (k : Int) (n p : List UInt8) (m : Int) (e : List Sx.Ex) (b l : List St) (hk : I64 k) (hn : n.length ≤ 1000000000000000) (hp : p.length ≤ 1000000000000000) (hm : I64 m) (hr : ∀ x, x ∈ e → Fo.Rg x) (hnl : ∀ x, x ∈ e → Fo.Nl x) (le : e.length ≤ 1000000000000000) (lb : b.length ≤ 1000000000000000) (ll : l.length ≤ 1000000000000000) (hb : ∀ s, s ∈ b → Ok s) (hl : ∀ s, s ∈ l → Ok s) : Ok (.mk k n p m e b l)
def Pa.Ok (x : Pa) : Prop := x.name.length ≤ 1000000000000000 ∧ I64 x.type
structure Pc.Ok (x : Pc) : Prop where
  name : x.name.length ≤ 1000000000000000
  type : I64 x.type
  params : ∀ y, y ∈ x.params → y.Ok
  lp : x.params.length ≤ 1000000000000000
  body : ∀ s, s ∈ x.body → Sy.Ok s
  lb : x.body.length ≤ 1000000000000000
end Sy
theorem reach_15 {n : Nat} (h : n ≤ reachBytes) : n ≤ 1000000000000000 := Nat.le_trans h (by decide)
theorem cSt7 : Try.prog.cellsOf 33 = 7 := by kernel_rfl
theorem cStL : Try.prog.cellsOf 23 = 1 := by kernel_rfl
theorem bSt7 : 0 < Try.prog.bytesOf 33 := of_decide_eq_true (by kernel_rfl)
theorem bEx4 : 0 < Try.prog.bytesOf 54 := of_decide_eq_true (by kernel_rfl)
/-- A slice of structs of several cells. -/
theorem sln_open {H : Type} {enc : TypeId × Value → H} {P : Program} {W : World} {t e : TypeId} {fuel c : Nat} {v : Value} {z : DataW H × List MemPlace} (ht : P.underlying t = some (.slice e)) (he : P.cellsOf e = c)
    (hf : DataW.trod enc P W 0 (fun _ => true) true fuel t [v] = some z) : v = .slice none 0 0 ∨ ∃ (x : Addr) (cap : Nat) (elems rest : List (DataW H × List MemPlace)) (n : Nat), fuel = n + 1 ∧ v = .slice (some x) elems.length cap ∧ elems.length ≤ cap ∧ z.1 = .slice (elems.map (·.1)) (rest.map (·.1)) ∧
      ∀ i, (hi : i < elems.length) → ∃ cs, cs.length = c ∧ (∀ j, (hj : j < cs.length) → W.cell? ((x.add (i * c)).add j) = some cs[j]) ∧ DataW.trod enc P W 0 (fun _ => true) true n e cs = some elems[i] := by
  rcases DataW.trod_slice ht hf with ⟨hcs, _⟩ | ⟨x, len, cp, elems, rest, n, hn, hcs, hx, _, hl, hm, hlen, hel, _, _⟩
  · simp at hcs
    exact .inl hcs
  · simp at hcs
    subst hcs
    subst hlen
    refine .inr ⟨x, cp, elems, rest, n, hn, rfl, hl, (Prod.ext_iff.1 hx).1, fun i hi => ?_⟩
    have h1 := hel i hi
    rw [List.getElem?_eq_getElem hi, he, Option.bind_eq_some_iff] at h1
    obtain ⟨cs', h2, h3⟩ := h1
    obtain ⟨_, hlen', hcell⟩ := World.cells?_some h2
    refine ⟨cs', hlen', fun j hj => ?_, h3⟩
    have := hcell j (by omega)
    rw [this]
    exact List.getElem?_eq_getElem hj
theorem part_weights {H : Type} {P : Program} {t e : TypeId} {elems rest : List (DataW H)} {d : DataW H} {B : Nat} (ht : P.underlying t = some (.slice e)) (hw : ∀ q, q ∈ (DataW.slice elems rest : DataW H).weights P t → q ≤ B) (hd : d ∈ elems) : ∀ q, q ∈ d.weights P e → q ≤ B := by
  intro q hq
  refine hw q ?_
  rw [DataW.weights, ht]
  exact List.mem_cons_of_mem _ (List.mem_append.2 (.inl (in_weightsAll hd hq)))
/-- A slice of expressions is not too long. -/
theorem sl_short {H : Type} {enc : TypeId × Value → H} {W : World} {fuel : Nat} {a : Option Addr} {n c : Nat} {z : DataW H × List MemPlace} (hf : DataW.trod enc Try.prog W 0 (fun _ => true) true fuel 31 [.slice a n c] = some z) (hw : ∀ q, q ∈ z.1.weights Try.prog 31 → q ≤ reachBytes) : n ≤ 1000000000000000 := by
  rcases sln_open Try.underlying31 cEx4 hf with h | ⟨x, cap, elems, rest, m, _, h, _, hz, _⟩
  · injection h with _ h _; omega
  · injection h with _ h _
    rw [hz] at hw
    have := short_of Try.underlying31 bEx4 hw
    rw [List.length_map] at this
    omega
/-- What the reading of a slice of statements gives. -/
def SlS (W : World) (v : Value) (l : List Sy.St) : Prop := (∃ a c, v = .slice a l.length c) ∧ SmS (fun _ => True) W v l ∧ (∀ s, s ∈ l → Sy.Ok s) ∧ l.length ≤ 1000000000000000
theorem weights_stmt {H : Type} (k : Int) (n p : List UInt8) (m : Int) (d0 d1 d2 : DataW H) : (DataW.agg [.lit (.int .i64 k), .lit (.string n), .lit (.string p), .lit (.int .i64 m), d0, d1, d2] : DataW H).weights Try.prog 33 = n.length :: p.length :: (d0.weights Try.prog 31 ++ (d1.weights Try.prog 23 ++ d2.weights Try.prog 23)) := by
  rw [DataW.weights, Try.underlying33]
  simp [DataW.weightsEach, DataW.weights]
theorem st_cells {H : Type} {enc : TypeId × Value → H} {W : World} {n : Nat} {cs : List Value} {y : DataW H × List MemPlace} (hl : cs.length = 7) (h2 : DataW.trod enc Try.prog W 0 (fun _ => true) true n 33 cs = some y) :
    ∃ (k : Int) (s p : List UInt8) (m : Int) (v0 v1 v2 : Value) (z0 z1 z2 : DataW H × List MemPlace) (n' : Nat), cs = [.int .i64 k, .string ⟨s.toArray⟩, .string ⟨p.toArray⟩, .int .i64 m, v0, v1, v2] ∧
      y.1 = .agg [.lit (.int .i64 k), .lit (.string s), .lit (.string p), .lit (.int .i64 m), z0.1, z1.1, z2.1] ∧ I64 k ∧ I64 m ∧ n = n' + 1 ∧ DataW.trod enc Try.prog W 0 (fun _ => true) true n' 31 [v0] = some z0 ∧ DataW.trod enc Try.prog W 0 (fun _ => true) true n' 23 [v1] = some z1 ∧ DataW.trod enc Try.prog W 0 (fun _ => true) true n' 23 [v2] = some z2 := by
  obtain ⟨xs, k, hk, hxy, _, hxl, hf⟩ := DataW.trod_struct Try.underlying33 h2
  match xs, hxl, cs, hl with
  | [y0, y1, y2, y3, y4, y5, y6], _, [v0, v1, v2, v3, v4, v5, v6], _ =>
    have g0 := hf 0 _ rfl
    have g1 := hf 1 _ rfl
    have g2 := hf 2 _ rfl
    have g3 := hf 3 _ rfl
    have g4 := hf 4 _ rfl
    have g5 := hf 5 _ rfl
    have g6 := hf 6 _ rfl
    simp [cExI, cExS, cExL, cExR, cStL] at g0 g1 g2 g3 g4 g5 g6
    obtain ⟨a0, b0, d0, wf0⟩ := DataW.trod_int Try.underlying3 g0
    obtain ⟨a1, b1, d1, _⟩ := DataW.trod_string Try.underlying9 g1
    obtain ⟨a2, b2, d2, _⟩ := DataW.trod_string Try.underlying9 g2
    obtain ⟨a3, b3, d3, wf3⟩ := DataW.trod_int Try.underlying2 g3
    simp at b0 b1 b2 b3
    subst b0 b1 b2 b3
    refine ⟨a0, a1.data.toList, a2.data.toList, a3, v4, v5, v6, y4, y5, y6, k, rfl, ?_, wf_rg wf0, wf_rg wf3, hk, g4, g5, g6⟩
    rw [hxy]
    simp [d0, d1, d2, d3]
theorem sts_open {H : Type} {enc : TypeId × Value → H} {W : World} : ∀ (fuel : Nat) (v : Value) (z : DataW H × List MemPlace), DataW.trod enc Try.prog W 0 (fun _ => true) true fuel 23 [v] = some z → (∀ q, q ∈ z.1.weights Try.prog 23 → q ≤ reachBytes) → ∃ l, SlS W v l := by
  intro fuel
  induction fuel using Nat.strongRecOn with
  | _ fuel ih =>
  intro v z hf hw
  rcases sln_open Try.underlying23 cSt7 hf with rfl | ⟨x, cap, elems, rest, n, hn, rfl, hcap, hz, hel⟩
  · exact ⟨[], ⟨_, _, rfl⟩, .nil _ _, fun s h => (by cases h), by simp⟩
  · rw [hz] at hw
    have hlen := short_of Try.underlying23 bSt7 hw
    rw [List.length_map] at hlen
    have each : ∀ i, i < elems.length → ∃ y : Sy.St, Sy.Ok y ∧ ∃ k s p m sa sc ba bc la lc e b ll, y = .mk k s p m e b ll ∧ W.cell? ((x.add (i * 7)).add 0) = some (.int .i64 k) ∧ W.cell? ((x.add (i * 7)).add 1) = some (.string ⟨(s : List UInt8).toArray⟩) ∧ W.cell? ((x.add (i * 7)).add 2) = some (.string ⟨(p : List UInt8).toArray⟩) ∧ W.cell? ((x.add (i * 7)).add 3) = some (.int .i64 m) ∧
        W.cell? ((x.add (i * 7)).add 4) = some (.slice sa (e : List Sx.Ex).length sc) ∧ W.cell? ((x.add (i * 7)).add 5) = some (.slice ba (b : List Sy.St).length bc) ∧ W.cell? ((x.add (i * 7)).add 6) = some (.slice la (ll : List Sy.St).length lc) ∧ ExS (fun _ => True) W (.slice sa e.length sc) e ∧ SmS (fun _ => True) W (.slice ba b.length bc) b ∧ SmS (fun _ => True) W (.slice la ll.length lc) ll := by
      intro i hi
      obtain ⟨cs, hcl, hcell, htr⟩ := hel i hi
      obtain ⟨k, s, p, m, v0, v1, v2, z0, z1, z2, n', rfl, hy, hk, hm, hn', t0, t1, t2⟩ := st_cells hcl htr
      have key := part_weights Try.underlying23 hw (List.mem_map.2 ⟨elems[i], List.getElem_mem _, rfl⟩)
      rw [hy, weights_stmt] at key
      have w0 : ∀ q, q ∈ z0.1.weights Try.prog 31 → q ≤ reachBytes := fun q hq => key q (List.mem_cons_of_mem _ (List.mem_cons_of_mem _ (List.mem_append.2 (.inl hq))))
      have w1 : ∀ q, q ∈ z1.1.weights Try.prog 23 → q ≤ reachBytes := fun q hq => key q (List.mem_cons_of_mem _ (List.mem_cons_of_mem _ (List.mem_append.2 (.inr (List.mem_append.2 (.inl hq))))))
      have w2 : ∀ q, q ∈ z2.1.weights Try.prog 23 → q ≤ reachBytes := fun q hq => key q (List.mem_cons_of_mem _ (List.mem_cons_of_mem _ (List.mem_append.2 (.inr (List.mem_append.2 (.inr hq))))))
      obtain ⟨e, ⟨sa, sc, rfl⟩, he, hr, hnl⟩ := sl_open n' v0 z0 t0
      have le := sl_short t0 w0
      obtain ⟨b, ⟨ba, bc, rfl⟩, hb, ob, lb⟩ := ih n' (by omega) v1 z1 t1 w1
      obtain ⟨ll, ⟨la, lc, rfl⟩, hl, ol, lll⟩ := ih n' (by omega) v2 z2 t2 w2
      refine ⟨.mk k s p m e b ll, .mk _ _ _ _ _ _ _ hk (reach_15 (key _ (List.mem_cons_self ..))) (reach_15 (key _ (List.mem_cons_of_mem _ (List.mem_cons_self ..)))) hm hr (hnl w0) le lb lll ob ol, k, s, p, m, sa, sc, ba, bc, la, lc, e, b, ll, rfl, ?_⟩
      exact ⟨hcell 0 (by simp), hcell 1 (by simp), hcell 2 (by simp), hcell 3 (by simp), hcell 4 (by simp), hcell 5 (by simp), hcell 6 (by simp), he, hb, hl⟩
    obtain ⟨l, hll, hQ⟩ := list_of_each elems.length each
    refine ⟨l, ⟨_, _, by rw [hll]⟩, ?_, fun s hs => ?_, by omega⟩
    · by_cases h0 : elems.length = 0
      · have : l = [] := List.length_eq_zero_iff.1 (by omega)
        subst this
        rw [h0]
        exact .nil _ _
      · obtain ⟨_, _, k, s, p, m, sa, sc, ba, bc, la, lc, e, b, ll, _, e0, _⟩ := each 0 (by omega)
        have hsp : ∃ b o, x = ⟨b, o, none⟩ := by
          obtain ⟨bb, oo, ss⟩ := x
          have : ss = none := by simpa [Addr.add] using World.cell?_spot e0
          exact ⟨bb, oo, by rw [this]⟩
        obtain ⟨g, off, rfl⟩ := hsp
        simp only [add_plain6, Nat.add_zero] at hQ e0
        refine .some g off cap elems.length l hll.symm (by omega) (by omega) trivial (World.block_lt_of_cell? W _ e0) (SmC.of_cells l off fun q hq => ?_)
        obtain ⟨_, k, s, p, m, sa, sc, ba, bc, la, lc, e, b, ll, ey, c0, c1, c2, c3, c4, c5, c6, he, hb, hl⟩ := hQ q l[q] (List.getElem?_eq_getElem hq)
        exact ⟨k, s, p, m, sa, sc, ba, bc, la, lc, e, b, ll, by rw [List.getElem?_eq_getElem hq, ey], ⟨c0, c1, c2, c3, c4, c5, c6, he, hb, hl⟩⟩
    · obtain ⟨i, hi⟩ := List.getElem?_of_mem hs
      exact (hQ i s hi).1
end Go.Proofs.Ytobiedmmjiedlaa

namespace Go.Proofs.Ytobiedmmjiedlaa
open Go.RowKit

/-- What is asked of SameExpr. -/
def SCb (x : Sx.Ex) : Prop := ∀ (A B : Nat → Prop) (k : Int) (n : List UInt8) (m : Int) (l : List Sx.Ex) (sa sb : Option Addr) (sn sc tn tc : Nat) (w : World), x = .mk k n m l → ExS A w (.slice sa sn sc) l → ExS B w (.slice sb tn tc) l →
  Calls Try.prog 30 #[.agg #[.int .i64 k, .string ⟨n.toArray⟩, .int .i64 m, .slice sa sn sc], .agg #[.int .i64 k, .string ⟨n.toArray⟩, .int .i64 m, .slice sb tn tc]] w fun e w' => e = .returned (.bool true) ∧ Below w.heap.size w w'
set_option maxRecDepth 100000 in
set_option maxHeartbeats 1000000 in
theorem sameExprs_bnd (A B : Nat → Prop) (l : List Sx.Ex) (hR : ∀ x, x ∈ l → SCb x) (sa sb : Option Addr) (sn sc tn tc : Nat) (w : World) (hs : ExS A w (.slice sa sn sc) l) (ht : ExS B w (.slice sb tn tc) l) (hl : l.length ≤ 1000000) :
    Calls Try.prog 18 #[.slice sa sn sc, .slice sb tn tc] w fun e w' => e = .returned (.bool true) ∧ Below w.heap.size w w' := by
  have hn := hs.len
  subst hn
  have hn := ht.len
  subst hn
  have HR : Hid (∀ x, x ∈ l → SCb x) := hR
  have HS : Hid (ExS A w (.slice sa l.length sc) l) := hs
  have HT : Hid (ExS B w (.slice sb l.length tc) l) := ht
  clear hR hs ht
  go_enter Try.func18, Try.ntmps18
  go_wp2_with fail
  go_loopw [5] (fun i wr => ∃ k : Nat, k ≤ l.length ∧ i = .int .i64 k ∧ Below w.heap.size w wr) (fun i _ => l.length - (intOf i).toNat)
  case atStart => exact ⟨0, by omega, rfl, Below.refl _ _⟩
  case round =>
    obtain ⟨j, hj, rfl, hnx⟩ := hrel
    by_cases hlt : j < l.length
    · have HS' := HS.out.later hnx (Nat.le_refl _)
      have HT' := HT.out.later hnx (Nat.le_refl _)
      obtain ⟨g, o, cap, esl, hc, ha, hg, h⟩ := HS'.inv (by omega)
      cases esl
      obtain ⟨g', o', cap', esl', hc', ha', hg', h'⟩ := HT'.inv (by omega)
      cases esl'
      obtain ⟨k, n, m, sa', sn', sc', ll, el, c0, c1, c2, c3, hs'⟩ := h.get j hlt
      obtain ⟨k2, n2, m2, sb', tn', tc', ll2, el2, d0, d1, d2, d3, ht'⟩ := h'.get j hlt
      obtain ⟨rfl, rfl, rfl, rfl⟩ : k2 = k ∧ n2 = n ∧ m2 = m ∧ ll2 = ll := by
        have e := Option.some.inj (el.symm.trans el2)
        injection e with q1 q2 q3 q4
        exact ⟨q1.symm, q2.symm, q3.symm, q4.symm⟩
      have E1 : Hid (∀ W, Below wr.heap.size wr W → Calls Try.prog 30 #[.agg #[.int .i64 k2, .string ⟨n2.toArray⟩, .int .i64 m2, .slice sa' sn' sc'], .agg #[.int .i64 k2, .string ⟨n2.toArray⟩, .int .i64 m2, .slice sb' tn' tc']] W fun e w' => e = .returned (.bool true) ∧ Below W.heap.size W w') := by
        intro W hW
        exact HR.out _ (List.mem_of_getElem? el) A B k2 n2 m2 ll2 sa' sb' sn' sc' tn' tc' W rfl (hs'.later hW (Nat.le_refl _)) (ht'.later hW (Nat.le_refl _))
      clear h hs' el ha h' ht' el2 ha'
      have NX : Hid _ := hnx
      clear hnx
      go_wp2_with fail
      go_region_with (go_at_call 30; refine Calls.mono (E1.out _ (by go_grown)) ?_; rintro e w1 ⟨rfl, b1⟩)
      all_goals
        have b2 : Below wr.heap.size wr w1 := Below.trans (by go_grown) (b1.mono (by go_size))
        have B1 : Hid (Below w.heap.size w w1) := NX.out.trans (b2.mono NX.out.size)
        clear b1 b2
        go_wp2_with fail
        go_roundw
        case rel => exact ⟨j + 1, by omega, by go_num, B1.out⟩
        case measure => simp [intOf]; omega
    · obtain rfl : j = l.length := by omega
      go_wp2_with fail
      go_ret
      exact ⟨rfl, hnx⟩
set_option maxRecDepth 100000 in
set_option maxHeartbeats 1000000 in
theorem sameExpr_bnd {x : Sx.Ex} (h : Fo.Bnd x) : SCb x := by
  induction h with
  | mk k n m l hl _ ih =>
    intro A B k' n' m' l' sa sb sn sc tn tc w hx hs ht
    injection hx with q1 q2 q3 q4
    subst q1 q2 q3 q4
    have E1 : Hid (∀ W, Below w.heap.size w W → Calls Try.prog 18 #[.slice sa sn sc, .slice sb tn tc] W fun e w' => e = .returned (.bool true) ∧ Below W.heap.size W w') := fun W hW => sameExprs_bnd A B l ih sa sb sn sc tn tc W (hs.later hW (Nat.le_refl _)) (ht.later hW (Nat.le_refl _)) hl
    clear ih hs ht hl
    go_enter Try.func30, Try.ntmps30
    go_wp2_with fail
    refine Calls.mono (E1.out _ (by go_grown)) ?_
    rintro e w1 ⟨rfl, b1⟩
    have B1 : Hid (Below w.heap.size w w1) := Below.trans (by go_grown) (b1.mono (by go_size))
    clear b1
    go_wp2_with fail
    go_ret
    exact ⟨rfl, B1.out⟩
end Go.Proofs.Ytobiedmmjiedlaa
