/- Layer 15: the document's Regions. -/
import Derived.Test.YthglhcabdadlpaaDoorAlDa
import Derived.Test.YthglhcabdadlpaaDoorAlX
import Derived.Test.YthglhcabdadlpaaDoorAlO
namespace Go.Proofs.YthglhcabdadlpaaDoor
open Go.RowKit
set_option linter.unusedVariables false
set_option linter.unusedSimpArgs false
set_option maxRecDepth 100000
theorem prC_allB : ∀ (l : List Al.Ev), ∀ u ∈ prC l, u.oneCell' = true
  | [], u, h => by cases h
  | e :: l, u, h => by
    rw [prC_cons] at h
    simp only [List.mem_cons] at h
    rcases h with rfl | rfl | h
    · rfl
    · rfl
    · exact prC_allB l u h
theorem addAB {b o n : Nat} : (⟨b, o, none⟩ : Addr).add n = ⟨b, o + n, none⟩ := by unfold Addr.add; split <;> simp_all
theorem prC_atB {V : World} {g : Nat} : ∀ {l : List Al.Ev} {o : Nat} (cs : ∀ j e, l[j]? = some e → EvC V g (o + j * 2) e) {j : Nat} {u : Value}, (prC l)[j]? = some u → V.cell? ((⟨g, o, none⟩ : Addr).add j) = some u
  | [], o, cs, j, u, h => by cases h
  | e :: l, o, cs, 0, u, h => by
    have := (cs 0 e rfl).1
    simp [prC_cons] at h
    subst h
    simpa [Addr.add] using this
  | e :: l, o, cs, 1, u, h => by
    have := (cs 0 e rfl).2
    simp [prC_cons] at h
    subst h
    simpa [Addr.add] using this
  | e :: l, o, cs, j + 2, u, h => by
    rw [prC_cons] at h
    have := prC_atB (V := V) (g := g) (o := o + 2) (l := l) (fun i x hx => by have := cs (i + 1) x (by simpa using hx); rw [show o + (i + 1) * 2 = o + 2 + i * 2 from by omega] at this; exact this) (j := j) (u := u) (by simpa using h)
    rw [addAB] at this ⊢
    rw [show o + (j + 2) = o + 2 + j from by omega]
    exact this
/-- A whole row behind a row. -/
theorem wp_app_more {P : Program} {V : World} {o : Oper} {a : Act} {K : Act → World → Prop} {Q : Exit → Act → World → Prop} (s x : Operand) (t : TypeId)
    (ho : o.op = .call { callee := .builtin .append, args := #[s, x], argTypes := #[t, t] })
    (base : Nat) (e : TypeId) (i : TypeInfo) (z : Value) (bytes : Nat) (ht : P.underlying t = some (.slice e)) (hi : P.info? e = some i) (hz : i.zero = some z)
    (hsize : i.size = 2) (hby : i.bytes = bytes) (hzs : z.cells.size = 2) (sa : Option Addr) (k kc : Nat) (hkc : k ≤ kc) (ys : List Al.Ev) (hs : a.eval s = .slice sa k kc) (hys : k = ys.length) (hown : OwP V base e (.slice sa k kc) ys)
    (ad : Option Addr) (n c : Nat) (l : List Al.Ev) (hx : a.eval x = .slice ad n c) (hl : n = l.length) {B : Nat} (he : EvR B V ad l)
    (h63 : k + n ≤ maxLen) (hbytes : (k + n) * bytes ≤ 140737488355328) (hbase : base ≤ V.heap.size)
    (h : ∀ v' w', OwP w' base e v' (ys ++ l) → Below base V w' → K (a.put o.dst v') w') : o.wp P a V K Q := by
  by_cases h0 : n = 0
  · subst h0
    have hl0 : l = [] := List.eq_nil_of_length_eq_zero hl.symm
    subst hl0
    have hr : (Builtin.append_ #[t, t] o.type #[.slice sa k kc, .slice ad 0 c]).run P V = .ok (.slice sa k kc) V := by
      cases ad <;> cases sa <;> simp [Builtin.append_, run_underlying ht, sizeOf, run_typeInfo V hi, storeCells, go_sem, hkc]
    unfold Oper.wp execOp
    simp only [ho, resolve, invoke, builtin, Sem.run_bind, Sem.run_pure, Result.andThen_ok, List.map_toArray, List.map_cons, List.map_nil, hs, hx, hr]
    exact h _ _ (by rw [List.append_nil]; exact hown) (Below.refl _ _)
  · obtain ⟨g, of, rfl, hg, cs⟩ := he (by omega)
    have ho2 : V.ownsRow base e 2 (.slice sa k kc) k (prC ys) := by
      have h : V.ownsRow base e 2 (.slice sa k kc) ys.length (prC ys) := hown
      rw [← hys] at h
      exact h
    refine wp_append_tolA s x t ho base e i z 2 bytes ht hi hz hsize hby hzs (by decide) (.slice sa k kc) k (prC ys) hs ho2 ⟨g, of, none⟩ n c (prC l) hx (by rw [prC_len, hl]) (fun j u hu => ?_) (prC_allB l) h63 hbytes hbase (by omega) ?_
    · exact prC_atB cs hu
    · intro v' w' h1 h2 h3
      refine h v' w' ?_ ⟨h2.os, h2.tape, h2.output, h2.size, fun k hk => h2.block k (by omega) (fun e => by have := (World.ownsRow.lt ho2 _ e.symm).1; omega)⟩
      unfold OwP
      rw [prC_app, List.length_append, ← hys, ← hl]
      exact h1
namespace Al
/-- The pair that stands at an index, with one ahead of all and one behind. -/
def allP (n m : Int) (l : List Ev) : List Ev := (-1, -1) :: (l ++ [(n, m)])
theorem allP_len (n m : Int) (l : List Ev) : (allP n m l).length = l.length + 2 := by simp [allP]
/-- The regions from the k-th pair on. -/
def tl (n m : Int) (l : List Ev) (k : Nat) : List Rg := match (allP n m l)[k]? with
  | some q => if k ≤ l.length then gaps n m (q.1 + 1) (q.2 + 1) (l.drop k) else []
  | none => []
theorem tl_zero (n m : Int) (l : List Ev) : tl n m l 0 = gaps n m 0 0 l := by
  unfold tl allP
  simp
theorem tl_end (n m : Int) (l : List Ev) : tl n m l (l.length + 1) = [] := by
  unfold tl
  split
  · rw [if_neg (by omega)]
  · rfl
theorem tl_step {n m : Int} {l : List Ev} {k : Nat} {q x : Ev} (hk : k ≤ l.length) (hq : (allP n m l)[k]? = some q) (hx : (allP n m l)[k + 1]? = some x) : tl n m l k = one (q.1 + 1) x.1 (q.2 + 1) x.2 ++ tl n m l (k + 1) := by
  have e1 : tl n m l k = gaps n m (q.1 + 1) (q.2 + 1) (l.drop k) := by unfold tl; rw [hq]; simp only; rw [if_pos hk]
  rw [e1]
  have hx' : (l ++ [(n, m)])[k]? = some x := by simpa [allP] using hx
  rcases Nat.lt_or_ge k l.length with c | c
  · rw [List.getElem?_append_left c] at hx'
    obtain ⟨h1, h2⟩ := List.getElem?_eq_some_iff.1 hx'
    rw [List.drop_eq_getElem_cons h1, h2, gaps]
    congr 1
    unfold tl
    rw [hx]
    simp only
    rw [if_pos (by omega)]
  · obtain rfl : k = l.length := by omega
    rw [List.getElem?_append_right (Nat.le_refl _)] at hx'
    simp at hx'
    subst hx'
    rw [List.drop_length, tl_end, List.append_nil]
    rfl
theorem allP_at {n m : Int} {l : List Ev} {k : Nat} (hr : rise n m (-1, -1) l = true) (hn : 0 ≤ n) (hm : 0 ≤ m) (hk : k ≤ l.length) : ∃ q x : Ev, (allP n m l)[k]? = some q ∧ (allP n m l)[k + 1]? = some x ∧ -1 ≤ q.1 ∧ -1 ≤ q.2 ∧ (q.1 < n ∨ q.1 = -1) ∧ (q.2 < m ∨ q.2 = -1) := by
  obtain ⟨x, hx⟩ : ∃ x, (allP n m l)[k + 1]? = some x := ⟨_, List.getElem?_eq_getElem (by rw [allP_len]; omega)⟩
  cases k with
  | zero => exact ⟨(-1, -1), x, rfl, hx, by decide, by decide, .inr rfl, .inr rfl⟩
  | succ k =>
    obtain ⟨q, hq⟩ : ∃ q, l[k]? = some q := ⟨_, List.getElem?_eq_getElem (by omega)⟩
    obtain ⟨h1, h2, h3, h4⟩ := rise_mem hr q (List.mem_of_getElem? hq)
    refine ⟨q, x, ?_, hx, by simp only at h1; omega, by simp only at h3; omega, .inl h2, .inl h4⟩
    show ((-1, -1) :: (l ++ [(n, m)]))[k + 1]? = some q
    rw [List.getElem?_cons_succ, List.getElem?_append_left (by omega)]
    exact hq
end Al
theorem wrJ (x n : Int) (h0 : -1 ≤ x) (h : x < n ∨ x = -1) (hn : n ≤ 9223372036854775807) : wrap64 (x + 1) = x + 1 ∧ IntKind.i64.wrap (x + 1) = x + 1 := by
  refine ⟨by unfold wrap64; omega, by rw [IntKind.wrap_i64]; omega⟩
end Go.Proofs.YthglhcabdadlpaaDoor
