/- Appends, told where the row lies behind them; a row of two numbers each that grows beside others (layer 15). -/
import Derived.Test.YthglhcabdadlpaaDoorAlG
namespace Go.Proofs.YthglhcabdadlpaaDoor
open Go.RowKit
set_option linter.unusedVariables false
theorem own_tellA {P : Program} {w : World} {base : Nat} {t ty e : TypeId} {i : TypeInfo} {z : Value} {size bytes : Nat} (ht : P.underlying t = some (.slice e)) (hi : P.info? e = some i) (hz : i.zero = some z)
    (hsize : i.size = size) (hby : i.bytes = bytes) {v : Value} {n : Nat} {xs : List Value} (hown : w.ownsRow base e size v n xs)
    {a : Addr} {m c : Nat} {news : List Value} (hl : news.length = m * size) (hnews : ∀ j u, news[j]? = some u → w.cell? (a.add j) = some u) (h1 : ∀ u ∈ news, u.oneCell' = true)
    (h63 : n + m ≤ maxLen) (hbytes : (n + m) * bytes ≤ 140737488355328) (hm : 0 < m) {v' : Value} {w' : World} (hr : (Builtin.append_ #[t, t] ty #[v, .slice (some a) m c]).run P w = .ok v' w') :
    v'.ownBlock = v.ownBlock ∨ ∃ g, v'.ownBlock = some g ∧ w.heap.size ≤ g := by
  subst hsize
  subst hby
  have hsmall : n + m ≤ 9223372036854775807 := by simp only [maxLen] at h63; omega
  rcases hown.2 with ⟨rfl, rfl⟩ | ⟨g, cap, cur, rfl, hbg, hg, hnc, hcm, hcs, htake⟩
  · have hx := run_append_nil (P := P) w t ty e i z ht hi hz a m c news hl hnews (by omega) (by omega) (by have hb := hbytes; simp only [Nat.zero_add] at hb; omega)
    rw [hr] at hx
    cases hx
    exact .inr ⟨_, rfl, Nat.le_refl _⟩
  · by_cases hroom : n + m ≤ cap
    · have hfit : n * i.size + news.length ≤ cur.size := by rw [hl, hcs, ← Nat.add_mul]; exact Nat.mul_le_mul_right _ hroom
      have hx := run_append_room (P := P) w t ty e i ht hi g n cap cur hg a m c news hl hnews h1 hroom hfit
      rw [hr] at hx
      cases hx
      exact .inl rfl
    · have holds : ∀ j u, xs[j]? = some u → w.cell? ((⟨g, 0, none⟩ : Addr).add j) = some u := hown.cells (g := g) rfl
      have hx := run_append_grow (P := P) w t ty e i z ht hi hz ⟨g, 0, none⟩ n cap xs hown.1 holds a m c news hl hnews (by omega) (by omega) (growslice_fits (by omega) hbytes)
      rw [hr] at hx
      cases hx
      exact .inr ⟨_, rfl, Nat.le_refl _⟩
theorem wp_append_tolA {P : Program} {w : World} {o : Oper} {a : Act} {K : Act → World → Prop} {Q : Exit → Act → World → Prop} (s x : Operand) (t : TypeId)
    (ho : o.op = .call { callee := .builtin .append, args := #[s, x], argTypes := #[t, t] })
    (base : Nat) (e : TypeId) (i : TypeInfo) (z : Value) (size bytes : Nat) (ht : P.underlying t = some (.slice e)) (hi : P.info? e = some i) (hz : i.zero = some z)
    (hsize : i.size = size) (hby : i.bytes = bytes) (hzs : z.cells.size = size) (hsz : 0 < size)
    (v : Value) (n : Nat) (xs : List Value) (hs : a.eval s = v) (hown : w.ownsRow base e size v n xs)
    (ad : Addr) (m c : Nat) (news : List Value) (hx : a.eval x = .slice (some ad) m c) (hl : news.length = m * size) (hnews : ∀ j u, news[j]? = some u → w.cell? (ad.add j) = some u) (h1 : ∀ u ∈ news, u.oneCell' = true)
    (h63 : n + m ≤ maxLen) (hbytes : (n + m) * bytes ≤ 140737488355328) (hbase : base ≤ w.heap.size) (hm : 0 < m)
    (h : ∀ v' w', w'.ownsRow base e size v' (n + m) (xs ++ news) → w.grownBy w' v.ownBlock → (v'.ownBlock = v.ownBlock ∨ ∃ g, v'.ownBlock = some g ∧ w.heap.size ≤ g) → K (a.put o.dst v') w') : o.wp P a w K Q := by
  obtain ⟨v', w', hr, h2, h3, _⟩ := run_append_own (P := P) w base t o.type e i z size bytes ht hi hz hsize hby hzs hsz v n xs hown ad m c news hl hnews h1 h63 hbytes hbase
  have h5 := own_tellA ht hi hz hsize hby hown hl hnews h1 h63 hbytes hm hr
  unfold Oper.wp execOp
  simp only [ho, resolve, invoke, builtin, Sem.run_bind, Sem.run_pure, Result.andThen_ok, List.map_toArray, List.map_cons, List.map_nil, hs, hx, hr]
  exact h v' w' h2 h3 h5
theorem wpList_append_tolA {P : Program} {w : World} {ops : Array Oper} {rest : List Oper} {o : Oper} {a : Act} {Q : Exit → Act → World → Prop} (hgd : o.guard = none) (s x : Operand) (t : TypeId)
    (ho : o.op = .call { callee := .builtin .append, args := #[s, x], argTypes := #[t, t] })
    (base : Nat) (e : TypeId) (i : TypeInfo) (z : Value) (size bytes : Nat) (ht : P.underlying t = some (.slice e)) (hi : P.info? e = some i) (hz : i.zero = some z)
    (hsize : i.size = size) (hby : i.bytes = bytes) (hzs : z.cells.size = size) (hsz : 0 < size)
    (v : Value) (n : Nat) (xs : List Value) (hs : a.eval s = v) (hown : w.ownsRow base e size v n xs)
    (ad : Addr) (m c : Nat) (news : List Value) (hx : a.eval x = .slice (some ad) m c) (hl : news.length = m * size) (hnews : ∀ j u, news[j]? = some u → w.cell? (ad.add j) = some u) (h1 : ∀ u ∈ news, u.oneCell' = true)
    (h63 : n + m ≤ maxLen) (hbytes : (n + m) * bytes ≤ 140737488355328) (hbase : base ≤ w.heap.size) (hm : 0 < m)
    (h : ∀ v' w', w'.ownsRow base e size v' (n + m) (xs ++ news) → w.grownBy w' v.ownBlock → (v'.ownBlock = v.ownBlock ∨ ∃ g, v'.ownBlock = some g ∧ w.heap.size ≤ g) → wpList P ops Q rest (a.put o.dst v') w') : wpList P ops Q (o :: rest) a w :=
  wpList_plain hgd fun _ hK => wp_append_tolA s x t ho base e i z size bytes ht hi hz hsize hby hzs hsz v n xs hs hown ad m c news hx hl hnews h1 h63 hbytes hbase hm fun v' w' h2 h3 h4 => hK _ _ (h v' w' h2 h3 h4)
/-- The row v grew to be v': all else is as it was, and v' lies where v lay, or in a new block. -/
def GwA (w : World) (v v' : Value) (w' : World) : Prop := w.grownBy w' v.ownBlock ∧ (v'.ownBlock = v.ownBlock ∨ ∃ g, v'.ownBlock = some g ∧ w.heap.size ≤ g)
theorem GwA.refl (w : World) (v : Value) : GwA w v v w := ⟨⟨rfl, rfl, rfl, Nat.le_refl _, fun _ _ _ => rfl⟩, .inl rfl⟩
theorem GwA.trans {w w1 w2 : World} {v v1 v2 : Value} (h : GwA w v v1 w1) (k : GwA w1 v1 v2 w2) : GwA w v v2 w2 := by
  refine ⟨⟨k.1.os.trans h.1.os, k.1.tape.trans h.1.tape, k.1.output.trans h.1.output, Nat.le_trans h.1.size k.1.size, fun i hi hn => ?_⟩, ?_⟩
  · refine (k.1.block i (Nat.lt_of_lt_of_le hi h.1.size) (fun e => ?_)).trans (h.1.block i hi hn)
    rcases h.2 with h2 | ⟨g, h2, h3⟩
    · exact hn (e.trans h2)
    · rw [h2] at e
      cases e
      omega
  · rcases k.2 with k2 | ⟨g, k2, k3⟩
    · rcases h.2 with h2 | ⟨g, h2, h3⟩
      · exact .inl (k2.trans h2)
      · exact .inr ⟨g, k2.trans h2, h3⟩
    · exact .inr ⟨g, k2, Nat.le_trans h.1.size k3⟩
theorem GwA.step {wr w8 : World} {u v8 : Value} {o : Obj} (g8 : (wr.alloc o).grownBy w8 u.ownBlock) (o8 : v8.ownBlock = u.ownBlock ∨ ∃ g, v8.ownBlock = some g ∧ wr.heap.size + 1 ≤ g) : GwA wr u v8 w8 := by
  refine ⟨⟨g8.os, g8.tape, g8.output, ?_, fun i hi hn => ?_⟩, o8.imp id fun ⟨g, h, k⟩ => ⟨g, h, ?_⟩⟩
  · have := g8.size; simp at this; omega
  · exact (g8.block i (by simp; omega) hn).trans (((Below.refl wr.heap.size wr).alloc (Nat.le_refl _) o).block i hi)
  · omega
theorem GwA.alloc {w w1 : World} {v v' : Value} (h : GwA w v v' w1) (o : Obj) : GwA w v v' (w1.alloc o) :=
  ⟨⟨h.1.os, h.1.tape, h.1.output, by have := h.1.size; simp; omega, fun i hi hn => (((Below.refl w1.heap.size w1).alloc (Nat.le_refl _) o).block i (Nat.lt_of_lt_of_le hi h.1.size)).trans (h.1.block i hi hn)⟩, h.2⟩
theorem GwA.later {w w1 w2 : World} {v v' : Value} (h : GwA w v v' w1) (b : Below w1.heap.size w1 w2) : GwA w v v' w2 :=
  ⟨⟨b.os.trans h.1.os, b.tape.trans h.1.tape, b.output.trans h.1.output, Nat.le_trans h.1.size b.size, fun i hi hn => (b.block i (Nat.lt_of_lt_of_le hi h.1.size)).trans (h.1.block i hi hn)⟩, h.2⟩
/-- Another block stays: it is not the row's, before or behind. -/
theorem GwA.keep {w w1 : World} {v v' : Value} (h : GwA w v v' w1) {M : Nat} (hM : M < w.heap.size) (hn : some M ≠ v.ownBlock) : w1.heap[M]? = w.heap[M]? ∧ some M ≠ v'.ownBlock ∧ M < w1.heap.size :=
  ⟨h.1.block M hM hn, fun e => by
    rcases h.2 with h2 | ⟨g, h2, h3⟩
    · exact hn (e.trans h2)
    · rw [h2] at e; cases e; omega, Nat.lt_of_lt_of_le hM h.1.size⟩
/-- One more behind a row, its two numbers being in a new block: where it lies is told. -/
theorem OwP.tell {wr w8 : World} {base : Nat} {ty : TypeId} {v v8 : Value} {l : List Al.Ev} {o : Obj} {e : Al.Ev} (ho : OwP wr base ty v l) (hb : base ≤ wr.heap.size) (h8 : w8.ownsRow base ty 2 v8 (l.length + 1) (prC l ++ [.int .i64 e.1, .int .i64 e.2])) (g8 : (wr.alloc o).grownBy w8 v.ownBlock) (o8 : v8.ownBlock = v.ownBlock ∨ ∃ g, v8.ownBlock = some g ∧ wr.heap.size + 1 ≤ g) : OwP w8 base ty v8 (l ++ [e]) ∧ Below base wr w8 ∧ GwA wr v v8 w8 :=
  ⟨(ho.grown hb h8 g8).1, (ho.grown hb h8 g8).2, GwA.step g8 o8⟩
end Go.Proofs.YthglhcabdadlpaaDoor
