/- An append to a row of one's own: where the row lies behind it is told: where it lay, or in a new block. -/
/- Layer 3: the reader of programs: where marks stand. -/
/- Layer 3: the reader of programs: statements that hold one expression. -/
/- Layer 3: the reader of programs: closed; names; types; which tokens begin a statement. -/
/- Layer 3: the reader of programs: types and parameters. -/
/- Layer 3: the reader of programs: a statement that prints. -/
/- Layer 3: the reader of programs: a block of one statement. -/
/- Layer 3: the reader of programs: a procedure (no parameters, no answer, one statement that prints), or one whose second parameter is wrong. -/
/- Layer 3: the reader of programs: a procedure without parameters and answer, whose one statement prints. -/
/- Layer 3: the reader of programs: a program of one procedure. -/
/- Layer 3: the reader of programs: a program of one procedure was read. -/
/- Layer 3: readProg. -/
/- Layer 3: readProg, Read. -/
/- Layer 3: Read and Parse, at a program of one procedure, and where a reading gives up. -/
/- Layer 3: the two fixed texts that the statements parse. -/
/- Layer 3: a program of one procedure, whose one statement prints, is right. -/
/- Layer 3: a program of one procedure, whose one statement prints, is written. -/
/- Layer 3: Print, of a program of one procedure whose one statement prints. -/
/- The fixed calls of layer 3's statements (known) come out true. -/
import Derived.Test.YtfpabjdhibmefaaZSynP
import Derived.OneCell
import Derived.Deep.RegionLaw
namespace Go.Proofs.Ytfpabjdhibmefaa
open Go.RowKit

theorem own_tell {P : Program} {w : World} {base : Nat} {t ty e : TypeId} {i : TypeInfo} {z : Value} {size bytes : Nat} (ht : P.underlying t = some (.slice e)) (hi : P.info? e = some i) (hz : i.zero = some z)
    (hsize : i.size = size) (hby : i.bytes = bytes) {v : Value} {n : Nat} {xs : List Value} (hown : w.ownsRow base e size v n xs)
    {a : Addr} {m c : Nat} {news : List Value} (hl : news.length = m * size) (hnews : ∀ j u, news[j]? = some u → w.cell? (a.add j) = some u) (h1 : ∀ u ∈ news, u.oneCell' = true)
    (h63 : n + m ≤ maxLen) (hbytes : (n + m) * bytes ≤ 140737488355328) (hm : 0 < m) {v' : Value} {w' : World} (hr : (Builtin.append_ #[t, t] ty #[v, .slice (some a) m c]).run P w = .ok v' w') :
    v'.ownBlock = v.ownBlock ∨ ∃ g, v'.ownBlock = some g ∧ w.heap.size ≤ g := by
  subst hsize
  subst hby
  have hsmall : n + m ≤ 9223372036854775807 := by simp only [maxLen] at h63; omega
  rcases hown.2 with ⟨rfl, rfl⟩ | ⟨g, cap, cur, rfl, hbg, hg, hnc, hcm, hcs, htake⟩
  · have hx := run_append_nil (P := P) w t ty e i z ht hi hz a m c news hl hnews (by omega) (by omega) (by have hb := hbytes; simp only [Nat.zero_add] at hb; omega)
    rw [hr] at hx
    cases hx
    exact .inr ⟨_, rfl, Nat.le_refl _⟩
  · by_cases hroom : n + m ≤ cap
    · have hfit : n * i.size + news.length ≤ cur.size := by rw [hl, hcs, ← Nat.add_mul]; exact Nat.mul_le_mul_right _ hroom
      have hx := run_append_room (P := P) w t ty e i ht hi g n cap cur hg a m c news hl hnews h1 hroom hfit
      rw [hr] at hx
      cases hx
      exact .inl rfl
    · have holds : ∀ j u, xs[j]? = some u → w.cell? ((⟨g, 0, none⟩ : Addr).add j) = some u := hown.cells (g := g) rfl
      have hx := run_append_grow (P := P) w t ty e i z ht hi hz ⟨g, 0, none⟩ n cap xs hown.1 holds a m c news hl hnews (by omega) (by omega) (growslice_fits (by omega) hbytes)
      rw [hr] at hx
      cases hx
      exact .inr ⟨_, rfl, Nat.le_refl _⟩
theorem wp_append_told {P : Program} {w : World} {o : Oper} {a : Act} {K : Act → World → Prop} {Q : Exit → Act → World → Prop} (s x : Operand) (t : TypeId)
    (ho : o.op = .call { callee := .builtin .append, args := #[s, x], argTypes := #[t, t] })
    (base : Nat) (e : TypeId) (i : TypeInfo) (z : Value) (size bytes : Nat) (ht : P.underlying t = some (.slice e)) (hi : P.info? e = some i) (hz : i.zero = some z)
    (hsize : i.size = size) (hby : i.bytes = bytes) (hzs : z.cells.size = size) (hsz : 0 < size)
    (v : Value) (n : Nat) (xs : List Value) (hs : a.eval s = v) (hown : w.ownsRow base e size v n xs)
    (ad : Addr) (m c : Nat) (news : List Value) (hx : a.eval x = .slice (some ad) m c) (hl : news.length = m * size) (hnews : ∀ j u, news[j]? = some u → w.cell? (ad.add j) = some u) (h1 : ∀ u ∈ news, u.oneCell' = true)
    (h63 : n + m ≤ maxLen) (hbytes : (n + m) * bytes ≤ 140737488355328) (hbase : base ≤ w.heap.size) (hm : 0 < m)
    (h : ∀ v' w', w'.ownsRow base e size v' (n + m) (xs ++ news) → w.grownBy w' v.ownBlock → (v'.ownBlock = v.ownBlock ∨ ∃ g, v'.ownBlock = some g ∧ w.heap.size ≤ g) → K (a.put o.dst v') w') : o.wp P a w K Q := by
  obtain ⟨v', w', hr, h2, h3, _⟩ := run_append_own (P := P) w base t o.type e i z size bytes ht hi hz hsize hby hzs hsz v n xs hown ad m c news hl hnews h1 h63 hbytes hbase
  have h5 := own_tell ht hi hz hsize hby hown hl hnews h1 h63 hbytes hm hr
  unfold Oper.wp execOp
  simp only [ho, resolve, invoke, builtin, Sem.run_bind, Sem.run_pure, Result.andThen_ok, List.map_toArray, List.map_cons, List.map_nil, hs, hx, hr]
  exact h v' w' h2 h3 h5
theorem wpList_append_told {P : Program} {w : World} {ops : Array Oper} {rest : List Oper} {o : Oper} {a : Act} {Q : Exit → Act → World → Prop} (hgd : o.guard = none) (s x : Operand) (t : TypeId)
    (ho : o.op = .call { callee := .builtin .append, args := #[s, x], argTypes := #[t, t] })
    (base : Nat) (e : TypeId) (i : TypeInfo) (z : Value) (size bytes : Nat) (ht : P.underlying t = some (.slice e)) (hi : P.info? e = some i) (hz : i.zero = some z)
    (hsize : i.size = size) (hby : i.bytes = bytes) (hzs : z.cells.size = size) (hsz : 0 < size)
    (v : Value) (n : Nat) (xs : List Value) (hs : a.eval s = v) (hown : w.ownsRow base e size v n xs)
    (ad : Addr) (m c : Nat) (news : List Value) (hx : a.eval x = .slice (some ad) m c) (hl : news.length = m * size) (hnews : ∀ j u, news[j]? = some u → w.cell? (ad.add j) = some u) (h1 : ∀ u ∈ news, u.oneCell' = true)
    (h63 : n + m ≤ maxLen) (hbytes : (n + m) * bytes ≤ 140737488355328) (hbase : base ≤ w.heap.size) (hm : 0 < m)
    (h : ∀ v' w', w'.ownsRow base e size v' (n + m) (xs ++ news) → w.grownBy w' v.ownBlock → (v'.ownBlock = v.ownBlock ∨ ∃ g, v'.ownBlock = some g ∧ w.heap.size ≤ g) → wpList P ops Q rest (a.put o.dst v') w') : wpList P ops Q (o :: rest) a w :=
  wpList_plain hgd fun _ hK => wp_append_told s x t ho base e i z size bytes ht hi hz hsize hby hzs hsz v n xs hs hown ad m c news hx hl hnews h1 h63 hbytes hbase hm fun v' w' h2 h3 h4 => hK _ _ (h v' w' h2 h3 h4)
end Go.Proofs.Ytfpabjdhibmefaa

namespace Go.Proofs.Ytfpabjdhibmefaa
open Go.RowKit

theorem infoInts : (Try.prog.info? 40).map (fun i => (i.zero, i.size, i.bytes)) = some (some (.slice none 0 0), 1, 24) := by kernel_rfl
theorem infoI : (Try.prog.info? 3).map (fun i => (i.zero, i.size, i.bytes)) = some (some (.int .i64 0), 1, 8) := by kernel_rfl
theorem own_later {w w' : World} {base size n : Nat} {e : TypeId} {v : Value} {xs : List Value} (h : w.ownsRow base e size v n xs) (hb : Below w.heap.size w w') : w'.ownsRow base e size v n xs :=
  World.ownsRow.kept h (row := none) ⟨hb.os, hb.tape, hb.output, hb.size, fun k hk _ => hb.block k hk⟩ (by
    rcases h.2 with ⟨rfl, _⟩ | ⟨g, cap, cur, rfl, _⟩
    · exact .inl rfl
    · exact .inr (by simp [Value.ownBlock]))
theorem own_shape {w : World} {base size n : Nat} {e : TypeId} {v : Value} {xs : List Value} (h : w.ownsRow base e size v n xs) : ∃ ao c, v = .slice ao n c := by
  rcases h.2 with ⟨rfl, h0⟩ | ⟨g, c, cur, rfl, _⟩
  · exact ⟨none, 0, by rw [h0]⟩
  · exact ⟨_, c, rfl⟩
theorem own_put {w : World} {base : Nat} {e : TypeId} {g cap : Nat} {us : List Value} {u : Value} (h : w.ownsRow base e 1 (.slice (some ⟨g, 0, none⟩) (us.length + 1) cap) (us.length + 1) (us ++ [u])) (u' : Value) :
    (w.setCell ⟨g, us.length, none⟩ u').ownsRow base e 1 (.slice (some ⟨g, 0, none⟩) (us.length + 1) cap) (us.length + 1) (us ++ [u']) := by
  rcases h.2 with ⟨h0, _⟩ | ⟨g', cap', cur, hv, hb, hh, hnc, hcm, hcs, ht⟩
  · cases h0
  · cases hv
    refine ⟨by simp, .inr ⟨g, cap, cur.setIfInBounds us.length u', rfl, hb, heap_setCell_same _ _ _ _ _ _ hh, hnc, hcm, by simpa using hcs, ?_⟩⟩
    rw [Array.toList_setIfInBounds, List.take_set, ht]
    simp
/-- Marks are told into the slice v of slices, the last of which is u. -/
structure Mk (w : World) (p : Nat) (v u : Value) (us is : List Value) : Prop where
  c2 : w.cell? ⟨p, 2, none⟩ = some v
  f2 : w.frozen? ⟨p, 2, none⟩ = false
  ov : w.ownsRow (p + 1) 40 1 v (us.length + 1) (us ++ [u])
  ou : w.ownsRow (p + 1) 3 1 u is.length is
  ne : ∀ g, v.ownBlock = some g → ¬ u.ownBlock = some g
  lt : p < w.heap.size
  bd : us.length ≤ 1000000 ∧ is.length ≤ 1000000
/-- What reading programs turns: the reader's own block, and the rows of marks. -/
structure PS (p : Nat) (w : World) (v u : Value) (w' : World) (v' u' : Value) : Prop where
  os : w'.os = w.os
  tape : w'.tape = w.tape
  output : w'.output = w.output
  size : w.heap.size ≤ w'.heap.size
  far : ∀ g, g < w.heap.size → g ≠ p → ¬ v.ownBlock = some g → ¬ u.ownBlock = some g → w'.heap[g]? = w.heap[g]? ∧ ¬ v'.ownBlock = some g ∧ ¬ u'.ownBlock = some g
theorem PS.refl (p : Nat) (w : World) (v u : Value) : PS p w v u w v u := ⟨rfl, rfl, rfl, Nat.le_refl _, fun _ _ _ h1 h2 => ⟨rfl, h1, h2⟩⟩
theorem PS.trans {p : Nat} {w w' w'' : World} {v v' v'' u u' u'' : Value} (h : PS p w v u w' v' u') (k : PS p w' v' u' w'' v'' u'') : PS p w v u w'' v'' u'' :=
  ⟨k.os.trans h.os, k.tape.trans h.tape, k.output.trans h.output, Nat.le_trans h.size k.size, fun g hg h0 h1 h2 => by
    obtain ⟨a, b, c⟩ := h.far g hg h0 h1 h2
    obtain ⟨a', b', c'⟩ := k.far g (Nat.lt_of_lt_of_le hg h.size) h0 b c
    exact ⟨a'.trans a, b', c'⟩⟩
theorem PS.of_mov {p : Nat} {w w' : World} (v u : Value) (m : Mov p w w') : PS p w v u w' v u := ⟨m.os, m.tape, m.output, m.size, fun g hg h0 h1 h2 => ⟨m.block g hg h0, h1, h2⟩⟩
theorem PS.of_below {p : Nat} {w w' : World} (v u : Value) (m : Below w.heap.size w w') : PS p w v u w' v u := .of_mov v u (.of_below m)
theorem one_cell_i (w : World) (x : Value) (t : TypeId) : ∀ (j : Nat) u, [x][j]? = some u → (w.alloc (.cells #[x] t)).cell? ((⟨w.heap.size, 0, none⟩ : Addr).add j) = some u := by
  intro j u hj
  match j, hj with
  | 0, hj => simp at hj; subst hj; simp [Addr.add]
theorem Mk.at_last {w : World} {p : Nat} {v u : Value} {us is : List Value} (h : Mk w p v u us is) : ∃ g cap, v = .slice (some ⟨g, 0, none⟩) (us.length + 1) cap ∧ us.length + 1 ≤ cap ∧ w.cell? ⟨g, us.length, none⟩ = some u ∧ w.frozen? ⟨g, us.length, none⟩ = false ∧ p + 1 ≤ g ∧ g < w.heap.size := by
  have hc := @World.ownsRow.cells _ _ _ _ _ _ _ h.ov
  have hl := World.ownsRow.lt h.ov
  rcases h.ov.2 with ⟨_, h0⟩ | ⟨g, cap, cur, rfl, hb, hh, hnc, _⟩
  · omega
  · have := @hc g rfl us.length u (by simp)
    refine ⟨g, cap, rfl, hnc, ?_, ?_, (hl g rfl).1, (hl g rfl).2⟩
    · cases e : us.length with
      | zero => rw [e] at this; simpa [Addr.add] using this
      | succ j => rw [e] at this; simpa [Addr.add] using this
    · simp [World.frozen?, hh]
theorem mark_post {w W w1 : World} {p gv cap : Nat} {u u1 : Value} {us is : List Value} {a : Value} (H : Mk w p (.slice (some ⟨gv, 0, none⟩) (us.length + 1) cap) u us is) (hb : is.length + 1 ≤ 1000000) (bW : Below w.heap.size w W) (g1 : W.grownBy w1 u.ownBlock)
    (h1 : w1.ownsRow (p + 1) 3 1 u1 (is.length + 1) (is ++ [a])) (o1 : u1.ownBlock = u.ownBlock ∨ ∃ g, u1.ownBlock = some g ∧ W.heap.size ≤ g) :
    Mk (w1.setCell ⟨gv, us.length, none⟩ u1) p (.slice (some ⟨gv, 0, none⟩) (us.length + 1) cap) u1 us (is ++ [a]) ∧ PS p w (.slice (some ⟨gv, 0, none⟩) (us.length + 1) cap) u (w1.setCell ⟨gv, us.length, none⟩ u1) (.slice (some ⟨gv, 0, none⟩) (us.length + 1) cap) u1 ∧ (w1.setCell ⟨gv, us.length, none⟩ u1).heap[p]? = w.heap[p]? := by
  have hgv := World.ownsRow.lt H.ov gv rfl
  have hp := H.lt
  have hz := bW.size
  have hne : ¬ u.ownBlock = some gv := H.ne gv rfl
  have hne1 : ¬ u1.ownBlock = some gv := by
    rcases o1 with e | ⟨g, e, hg⟩
    · rw [e]; exact hne
    · rw [e]; intro e2; cases e2; omega
  have hpu : some p ≠ u.ownBlock := fun e => by have := (World.ownsRow.lt H.ou _ e.symm).1; omega
  have kp : (w1.setCell ⟨gv, us.length, none⟩ u1).heap[p]? = w.heap[p]? := (heap_setCell_other w1 _ p _ (by simp only; omega)).trans ((g1.block p (by omega) hpu).trans (bW.block p hp))
  refine ⟨⟨(World.cell?_of_block (w := w) (a := ⟨p, 2, none⟩) kp).trans H.c2, (World.frozen?_of_block (w := w) (a := ⟨p, 2, none⟩) kp).trans H.f2, own_put (World.ownsRow.kept (own_later H.ov bW) g1 (.inr fun e => hne e.symm)) _, ?_, fun g hg => ?_, ?_, H.bd.1, ?_⟩, ⟨g1.os.trans bW.os, g1.tape.trans bW.tape, g1.output.trans bW.output, ?_, fun g hg h0 h2 h3 => ⟨?_, h2, ?_⟩⟩, kp⟩
  · rw [List.length_append]
    exact ownsRow_setCell_other h1 hne1 _
  · cases hg; exact hne1
  · have := g1.size; simp; omega
  · simp; omega
  · have := g1.size; simp; omega
  · exact (heap_setCell_other w1 _ g _ (fun e => h2 (by rw [e]; rfl))).trans ((g1.block g (by omega) (fun e => h3 e.symm)).trans (bW.block g hg))
  · rcases o1 with e | ⟨g', e, hg'⟩
    · rw [e]; exact h3
    · rw [e]; intro e2; cases e2; omega
end Go.Proofs.Ytfpabjdhibmefaa

namespace Go.Proofs.Ytfpabjdhibmefaa
open Go.RowKit

/-- A box of seven cells. -/
structure B7 (w : World) (g : Nat) (a0 a1 a2 a3 a4 a5 a6 : Value) : Prop where
  c0 : w.cell? ⟨g, 0, none⟩ = some a0
  c1 : w.cell? ⟨g, 1, none⟩ = some a1
  c2 : w.cell? ⟨g, 2, none⟩ = some a2
  c3 : w.cell? ⟨g, 3, none⟩ = some a3
  c4 : w.cell? ⟨g, 4, none⟩ = some a4
  c5 : w.cell? ⟨g, 5, none⟩ = some a5
  c6 : w.cell? ⟨g, 6, none⟩ = some a6
  f0 : w.frozen? ⟨g, 0, none⟩ = false
  f1 : w.frozen? ⟨g, 1, none⟩ = false
  f2 : w.frozen? ⟨g, 2, none⟩ = false
  f3 : w.frozen? ⟨g, 3, none⟩ = false
  f4 : w.frozen? ⟨g, 4, none⟩ = false
  f5 : w.frozen? ⟨g, 5, none⟩ = false
  f6 : w.frozen? ⟨g, 6, none⟩ = false
  lt : g < w.heap.size
theorem B7.kept {w w' : World} {g : Nat} {a0 a1 a2 a3 a4 a5 a6 : Value} (h : B7 w g a0 a1 a2 a3 a4 a5 a6) (e : w'.heap[g]? = w.heap[g]?) (hz : w.heap.size ≤ w'.heap.size) : B7 w' g a0 a1 a2 a3 a4 a5 a6 :=
  ⟨(World.cell?_of_block (w := w) e).trans h.c0, (World.cell?_of_block (w := w) e).trans h.c1, (World.cell?_of_block (w := w) e).trans h.c2, (World.cell?_of_block (w := w) e).trans h.c3, (World.cell?_of_block (w := w) e).trans h.c4, (World.cell?_of_block (w := w) e).trans h.c5, (World.cell?_of_block (w := w) e).trans h.c6,
   (World.frozen?_of_block (w := w) e).trans h.f0, (World.frozen?_of_block (w := w) e).trans h.f1, (World.frozen?_of_block (w := w) e).trans h.f2, (World.frozen?_of_block (w := w) e).trans h.f3, (World.frozen?_of_block (w := w) e).trans h.f4, (World.frozen?_of_block (w := w) e).trans h.f5, (World.frozen?_of_block (w := w) e).trans h.f6, Nat.lt_of_lt_of_le h.lt hz⟩
theorem B7.new (w : World) (t : TypeId) (a0 a1 a2 a3 a4 a5 a6 : Value) : B7 (w.alloc (.cells #[a0, a1, a2, a3, a4, a5, a6] t)) w.heap.size a0 a1 a2 a3 a4 a5 a6 := by
  constructor <;> first | (simp [go_sem]; done) | exact World.frozen?_alloc_at _ _ _ _ rfl
def fill7 (w : World) (g : Nat) (a0 a1 a2 a3 a4 a5 a6 : Value) : World := ((((((w.setCell ⟨g, 0, none⟩ a0).setCell ⟨g, 1, none⟩ a1).setCell ⟨g, 2, none⟩ a2).setCell ⟨g, 3, none⟩ a3).setCell ⟨g, 4, none⟩ a4).setCell ⟨g, 5, none⟩ a5).setCell ⟨g, 6, none⟩ a6
theorem fill7_size (w : World) (g : Nat) (a0 a1 a2 a3 a4 a5 a6 : Value) : (fill7 w g a0 a1 a2 a3 a4 a5 a6).heap.size = w.heap.size := by simp [fill7]
theorem Mov.fill7 {p : Nat} {w w' : World} (h : Mov p w w') {g : Nat} (hg : w.heap.size ≤ g) (a0 a1 a2 a3 a4 a5 a6 : Value) : Mov p w (fill7 w' g a0 a1 a2 a3 a4 a5 a6) :=
  ((((((h.set (a := ⟨g, 0, none⟩) hg _).set (a := ⟨g, 1, none⟩) hg _).set (a := ⟨g, 2, none⟩) hg _).set (a := ⟨g, 3, none⟩) hg _).set (a := ⟨g, 4, none⟩) hg _).set (a := ⟨g, 5, none⟩) hg _).set (a := ⟨g, 6, none⟩) hg _
theorem Rd.fill7 {w : World} {p b o cap : Nat} {ts : List Tok} {k : Nat} (h : Rd w p b o cap ts k) {g : Nat} (hp : g ≠ p) (hb : g ≠ b) (a0 a1 a2 a3 a4 a5 a6 : Value) : Rd (fill7 w g a0 a1 a2 a3 a4 a5 a6) p b o cap ts k :=
  ((((((h.set (a := ⟨g, 0, none⟩) hp hb _).set (a := ⟨g, 1, none⟩) hp hb _).set (a := ⟨g, 2, none⟩) hp hb _).set (a := ⟨g, 3, none⟩) hp hb _).set (a := ⟨g, 4, none⟩) hp hb _).set (a := ⟨g, 5, none⟩) hp hb _).set (a := ⟨g, 6, none⟩) hp hb _
theorem ExS.fill7 {A : Nat → Prop} {w : World} {sl : Value} {l : List Sx.Ex} (h : ExS A w sl l) {g : Nat} (ha : ¬ A g) (a0 a1 a2 a3 a4 a5 a6 : Value) : ExS A (Go.Proofs.Ytfpabjdhibmefaa.fill7 w g a0 a1 a2 a3 a4 a5 a6) sl l :=
  ((((((h.set (a := ⟨g, 0, Option.none⟩) ha _).set (a := ⟨g, 1, Option.none⟩) ha _).set (a := ⟨g, 2, Option.none⟩) ha _).set (a := ⟨g, 3, Option.none⟩) ha _).set (a := ⟨g, 4, Option.none⟩) ha _).set (a := ⟨g, 5, Option.none⟩) ha _).set (a := ⟨g, 6, Option.none⟩) ha _
theorem B7.fill {w : World} {g : Nat} {a0 a1 a2 a3 a4 a5 a6 : Value} (h : B7 w g a0 a1 a2 a3 a4 a5 a6) (b0 b1 b2 b3 b4 b5 b6 : Value) : B7 (fill7 w g b0 b1 b2 b3 b4 b5 b6) g b0 b1 b2 b3 b4 b5 b6 := by
  unfold fill7
  constructor
  all_goals simp [h.c0, h.c1, h.c2, h.c3, h.c4, h.c5, h.c6, h.f0, h.f1, h.f2, h.f3, h.f4, h.f5, h.f6, h.lt, go_sem]
def stV (kind : Int) (sl : Value) : Value := .agg #[.int .i64 kind, .string ⟨#[]⟩, .string ⟨#[]⟩, .int .i64 0, sl, .slice none 0 0, .slice none 0 0]
abbrev zS : Obj := .cells #[.int .i64 0, .string ⟨#[]⟩, .string ⟨#[]⟩, .int .i64 0, .slice none 0 0, .slice none 0 0, .slice none 0 0] 33
/-- A statement with one expression was read. -/
def TOk (p b o cap : Nat) (ts : List Tok) (kind : Int) (w : World) (y : Sx.Ex) (k' : Nat) (e : Ending) (w' : World) : Prop :=
  ∃ sa, e = .returned (stV kind (.slice sa 1 1)) ∧ ExS (fun g => w.heap.size ≤ g) w' (.slice sa 1 1) [y] ∧ Rd w' p b o cap ts k' ∧ k' < ts.length ∧ Mov p w w'
end Go.Proofs.Ytfpabjdhibmefaa

namespace Go.Proofs.Ytfpabjdhibmefaa
open Go.RowKit

end Go.Proofs.Ytfpabjdhibmefaa

namespace Go.Proofs.Ytfpabjdhibmefaa
open Go.RowKit

/-- A box of two cells. -/
structure B2 (w : World) (g : Nat) (a0 a1 : Value) : Prop where
  c0 : w.cell? ⟨g, 0, none⟩ = some a0
  c1 : w.cell? ⟨g, 1, none⟩ = some a1
  f0 : w.frozen? ⟨g, 0, none⟩ = false
  f1 : w.frozen? ⟨g, 1, none⟩ = false
  lt : g < w.heap.size
theorem B2.kept {w w' : World} {g : Nat} {a0 a1 : Value} (h : B2 w g a0 a1) (e : w'.heap[g]? = w.heap[g]?) (hz : w.heap.size ≤ w'.heap.size) : B2 w' g a0 a1 :=
  ⟨(World.cell?_of_block (w := w) e).trans h.c0, (World.cell?_of_block (w := w) e).trans h.c1, (World.frozen?_of_block (w := w) e).trans h.f0, (World.frozen?_of_block (w := w) e).trans h.f1, Nat.lt_of_lt_of_le h.lt hz⟩
theorem B2.new (w : World) (t : TypeId) (a0 a1 : Value) : B2 (w.alloc (.cells #[a0, a1] t)) w.heap.size a0 a1 := by
  constructor <;> first | (simp [go_sem]; done) | exact World.frozen?_alloc_at _ _ _ _ rfl
end Go.Proofs.Ytfpabjdhibmefaa

namespace Go.Proofs.Ytfpabjdhibmefaa
open Go.RowKit

theorem B7.later {w w' : World} {g n : Nat} {a0 a1 a2 a3 a4 a5 a6 : Value} (h : B7 w g a0 a1 a2 a3 a4 a5 a6) (b : Below n w w') (hn : g < n) : B7 w' g a0 a1 a2 a3 a4 a5 a6 := h.kept (b.block g hn) b.size
theorem Mk.mov {w w' : World} {p : Nat} {v u : Value} {us is : List Value} (h : Mk w p v u us is) (m : Mov p w w') : Mk w' p v u us is := by
  have hg : w.grownBy w' (some p) := ⟨m.os, m.tape, m.output, m.size, fun k hk hn => m.block k hk (fun e => hn (by rw [e]))⟩
  have hv : v.ownBlock ≠ some p := fun e => by have := (World.ownsRow.lt h.ov _ e).1; omega
  have hu : u.ownBlock ≠ some p := fun e => by have := (World.ownsRow.lt h.ou _ e).1; omega
  exact ⟨(m.cell _ h.lt (by simp)).trans h.c2, (m.frozen _ h.lt).trans h.f2, World.ownsRow.kept h.ov hg (.inr hv), World.ownsRow.kept h.ou hg (.inr hu), h.ne, Nat.lt_of_lt_of_le h.lt m.size, h.bd⟩
theorem Rd.ps {w w' : World} {p b o cap : Nat} {ts : List Tok} {k : Nat} {v u v' u' : Value} (h : Rd w p b o cap ts k) (s : PS p w v u w' v' u') (hp : w'.heap[p]? = w.heap[p]?) (hb : ¬ v.ownBlock = some b ∧ ¬ u.ownBlock = some b) : Rd w' p b o cap ts k := by
  have e := (s.far b h.ta.lt h.ne hb.1 hb.2).1
  exact ⟨(World.cell?_of_block (w := w) (a := ⟨p, 0, none⟩) hp).trans h.row, (World.cell?_of_block (w := w) (a := ⟨p, 1, none⟩) hp).trans h.nx, (World.frozen?_of_block (w := w) (a := ⟨p, 1, none⟩) hp).trans h.fz,
    ⟨Nat.lt_of_lt_of_le h.ta.lt s.size, fun j hj => (World.cell?_of_block (w := w) (a := ⟨b, _, none⟩) e).trans (h.ta.c0 j hj), fun j hj => (World.cell?_of_block (w := w) (a := ⟨b, _, none⟩) e).trans (h.ta.c1 j hj), fun j hj => (World.cell?_of_block (w := w) (a := ⟨b, _, none⟩) e).trans (h.ta.c2 j hj), fun j hj => (World.cell?_of_block (w := w) (a := ⟨b, _, none⟩) e).trans (h.ta.c3 j hj)⟩, h.ne, Nat.lt_of_lt_of_le h.lt s.size⟩
/-- The first token x was taken, and lies in a box of its own; the box for the answer is empty. -/
def SRel (w : World) (p b o cap : Nat) (ts : List Tok) (k : Nat) (x : Tok) (s : Value) (wc : World) : Prop :=
  ∃ g, s = .pointer (some ⟨g, 0, none⟩) ∧ Bx wc g (.int .i64 x.1.kind) (.string ⟨x.1.text.toArray⟩) (.int .i64 x.1.num) (.int .i64 x.2) ∧ w.heap.size < g ∧
    B7 wc w.heap.size (.int .i64 0) (.string ⟨#[]⟩) (.string ⟨#[]⟩) (.int .i64 0) (.slice none 0 0) (.slice none 0 0) (.slice none 0 0) ∧ Mov p w wc ∧ Rd wc p b o cap ts (k + 1)
theorem fill_other (w : World) (g k : Nat) (b0 b1 b2 b3 : Value) (h : k ≠ g) : (fill w g b0 b1 b2 b3).heap[k]? = w.heap[k]? := by
  unfold fill
  rw [heap_setCell_other _ _ k _ h, heap_setCell_other _ _ k _ h, heap_setCell_other _ _ k _ h, heap_setCell_other _ _ k _ h]
theorem SRel.of {w w3 : World} {p b o cap : Nat} {ts : List Tok} {k g : Nat} {x : Tok} {a0 a1 a2 a3 : Value} (t : Bx w3 g a0 a1 a2 a3) (hg : w.heap.size < g) (hp : p < w.heap.size) (hb : b < w.heap.size) (r : B7 w3 w.heap.size (.int .i64 0) (.string ⟨#[]⟩) (.string ⟨#[]⟩) (.int .i64 0) (.slice none 0 0) (.slice none 0 0) (.slice none 0 0)) (m : Mov p w w3) (rd : Rd w3 p b o cap ts (k + 1)) :
    SRel w p b o cap ts k x (.pointer (some ⟨g, 0, none⟩)) (fill w3 g (.int .i64 x.1.kind) (.string ⟨x.1.text.toArray⟩) (.int .i64 x.1.num) (.int .i64 x.2)) :=
  ⟨g, rfl, t.fill _ _ _ _, hg, r.kept (fill_other _ _ _ _ _ _ _ (by omega)) (by rw [fill_size]; exact Nat.le_refl _), m.fill (by omega) _ _ _ _, rd.fill (by omega) (by omega) _ _ _ _⟩
theorem SRel.of_new {w w3 : World} {p b o cap : Nat} {ts : List Tok} {k : Nat} {x : Tok} (t : TypeId) (r : B7 w3 w.heap.size (.int .i64 0) (.string ⟨#[]⟩) (.string ⟨#[]⟩) (.int .i64 0) (.slice none 0 0) (.slice none 0 0) (.slice none 0 0)) (m : Mov p w w3) (rd : Rd w3 p b o cap ts (k + 1)) :
    SRel w p b o cap ts k x (.pointer (some ⟨w3.heap.size, 0, none⟩)) (w3.alloc (.cells #[.int .i64 x.1.kind, .string ⟨x.1.text.toArray⟩, .int .i64 x.1.num, .int .i64 x.2] t)) :=
  ⟨w3.heap.size, rfl, Bx.new _ _ _ _ _ _, r.lt, r.later (box_below _ _) r.lt, m.alloc _, rd.later (box_below _ _)⟩
theorem Bx.kept {w w' : World} {g : Nat} {a0 a1 a2 a3 : Value} (h : Bx w g a0 a1 a2 a3) (e : w'.heap[g]? = w.heap[g]?) (hz : w.heap.size ≤ w'.heap.size) : Bx w' g a0 a1 a2 a3 :=
  ⟨(World.cell?_of_block (w := w) e).trans h.c0, (World.cell?_of_block (w := w) e).trans h.c1, (World.cell?_of_block (w := w) e).trans h.c2, (World.cell?_of_block (w := w) e).trans h.c3, (World.frozen?_of_block (w := w) e).trans h.f0, (World.frozen?_of_block (w := w) e).trans h.f1, (World.frozen?_of_block (w := w) e).trans h.f2, (World.frozen?_of_block (w := w) e).trans h.f3, Nat.lt_of_lt_of_le h.lt hz⟩
theorem fill7_other (w : World) (g k : Nat) (a0 a1 a2 a3 a4 a5 a6 : Value) (h : k ≠ g) : (fill7 w g a0 a1 a2 a3 a4 a5 a6).heap[k]? = w.heap[k]? := by
  unfold fill7
  rw [heap_setCell_other _ _ k _ h, heap_setCell_other _ _ k _ h, heap_setCell_other _ _ k _ h, heap_setCell_other _ _ k _ h, heap_setCell_other _ _ k _ h, heap_setCell_other _ _ k _ h, heap_setCell_other _ _ k _ h]
theorem fill7_grown (w : World) (g : Nat) (a0 a1 a2 a3 a4 a5 a6 : Value) : w.grownBy (fill7 w g a0 a1 a2 a3 a4 a5 a6) (some g) :=
  ⟨by unfold fill7; simp [World.setCell], by unfold fill7; simp [World.setCell], by unfold fill7; simp [World.setCell], by rw [fill7_size]; exact Nat.le_refl _, fun k _ hn => fill7_other w g k _ _ _ _ _ _ _ (fun e => hn (by rw [e]))⟩
theorem Mk.kept {w w' : World} {p r : Nat} {v u : Value} {us is : List Value} (h : Mk w p v u us is) (hg : w.grownBy w' (some r)) (h1 : r ≠ p) (h2 : ¬ v.ownBlock = some r) (h3 : ¬ u.ownBlock = some r) : Mk w' p v u us is := by
  have e := hg.block p h.lt (fun e => h1 (Option.some.inj e).symm)
  exact ⟨(World.cell?_of_block (w := w) (a := ⟨p, 2, none⟩) e).trans h.c2, (World.frozen?_of_block (w := w) (a := ⟨p, 2, none⟩) e).trans h.f2, World.ownsRow.kept h.ov hg (.inr h2), World.ownsRow.kept h.ou hg (.inr h3), h.ne, Nat.lt_of_lt_of_le h.lt hg.size, h.bd⟩
theorem PS.grown {p : Nat} {w w' w'' : World} {v u v' u' : Value} (h : PS p w v u w' v' u') {r : Nat} (hg : w'.grownBy w'' (some r)) (hr : w.heap.size ≤ r) : PS p w v u w'' v' u' :=
  ⟨hg.os.trans h.os, hg.tape.trans h.tape, hg.output.trans h.output, Nat.le_trans h.size hg.size, fun g hg' h0 h1 h2 => by
    obtain ⟨a, b, c⟩ := h.far g hg' h0 h1 h2
    exact ⟨(hg.block g (Nat.lt_of_lt_of_le hg' h.size) (fun e => by have := Option.some.inj e; omega)).trans a, b, c⟩⟩
end Go.Proofs.Ytfpabjdhibmefaa

namespace Go.Proofs.Ytfpabjdhibmefaa
open Go.RowKit

theorem infoSt : (Try.prog.info? 33).map (fun i => (i.zero, i.size, i.bytes)) = some (some (.agg #[.int .i64 0, .string ⟨#[]⟩, .string ⟨#[]⟩, .int .i64 0, .slice none 0 0, .slice none 0 0, .slice none 0 0]), 7, 120) := by kernel_rfl
/-- One statement, of a kind, with the expressions of the slice sl, lies in block g. -/
structure S1 (w : World) (g : Nat) (kind : Int) (sl : Value) : Prop where
  c0 : w.cell? ⟨g, 0, none⟩ = some (.int .i64 kind)
  c1 : w.cell? ⟨g, 1, none⟩ = some (.string ⟨#[]⟩)
  c2 : w.cell? ⟨g, 2, none⟩ = some (.string ⟨#[]⟩)
  c3 : w.cell? ⟨g, 3, none⟩ = some (.int .i64 0)
  c4 : w.cell? ⟨g, 4, none⟩ = some sl
  c5 : w.cell? ⟨g, 5, none⟩ = some (.slice none 0 0)
  c6 : w.cell? ⟨g, 6, none⟩ = some (.slice none 0 0)
  lt : g < w.heap.size
theorem seven_cells (w : World) (c0 c1 c2 c3 c4 c5 c6 : Value) (t : TypeId) : ∀ (j : Nat) u, [c0, c1, c2, c3, c4, c5, c6][j]? = some u → (w.alloc (.cells #[c0, c1, c2, c3, c4, c5, c6] t)).cell? ((⟨w.heap.size, 0, none⟩ : Addr).add j) = some u := by
  intro j u hj
  match j, hj with
  | 0, hj => simp at hj; subst hj; simp [Addr.add]
  | 1, hj => simp at hj; subst hj; simp [Addr.add]
  | 2, hj => simp at hj; subst hj; simp [Addr.add]
  | 3, hj => simp at hj; subst hj; simp [Addr.add]
  | 4, hj => simp at hj; subst hj; simp [Addr.add]
  | 5, hj => simp at hj; subst hj; simp [Addr.add]
  | 6, hj => simp at hj; subst hj; simp [Addr.add]
  | n + 7, hj => simp at hj
theorem S1.own {w : World} {base : Nat} {v : Value} {kind : Int} {sl : Value} (h : w.ownsRow base 33 7 v 1 [.int .i64 kind, .string ⟨#[]⟩, .string ⟨#[]⟩, .int .i64 0, sl, .slice none 0 0, .slice none 0 0]) : ∃ g cap, v = .slice (some ⟨g, 0, none⟩) 1 cap ∧ 1 ≤ cap ∧ S1 w g kind sl := by
  have hc := @World.ownsRow.cells _ _ _ _ _ _ _ h
  have hl := World.ownsRow.lt h
  rcases h.2 with ⟨_, h0⟩ | ⟨g, cap, cur, rfl, hb, hh, hnc, _⟩
  · cases h0
  · have key : ∀ j u, [Value.int .i64 kind, .string ⟨#[]⟩, .string ⟨#[]⟩, .int .i64 0, sl, .slice none 0 0, .slice none 0 0][j]? = some u → w.cell? ⟨g, j, none⟩ = some u := by
      intro j u hu
      have e := @hc g rfl j u hu
      cases j with
      | zero => simpa [Addr.add] using e
      | succ j => simpa [Addr.add] using e
    exact ⟨g, cap, rfl, hnc, key 0 _ rfl, key 1 _ rfl, key 2 _ rfl, key 3 _ rfl, key 4 _ rfl, key 5 _ rfl, key 6 _ rfl, (hl g rfl).2⟩
theorem PS.below' {p : Nat} {w w' w'' : World} {v u v' u' : Value} (h : PS p w v u w' v' u') (b : Below w'.heap.size w' w'') : PS p w v u w'' v' u' :=
  ⟨b.os.trans h.os, b.tape.trans h.tape, b.output.trans h.output, Nat.le_trans h.size b.size, fun g hg h0 h1 h2 => by
    obtain ⟨a, c, d⟩ := h.far g hg h0 h1 h2
    exact ⟨(b.block g (Nat.lt_of_lt_of_le hg h.size)).trans a, c, d⟩⟩
theorem Mk.later {w w' : World} {p : Nat} {v u : Value} {us is : List Value} (h : Mk w p v u us is) (b : Below w.heap.size w w') : Mk w' p v u us is := h.mov (.of_below b)
theorem Below.of_grown {w w' : World} (h : w.grownBy w' none) : Below w.heap.size w w' := ⟨h.os, h.tape, h.output, h.size, fun k hk => h.block k hk (by simp)⟩
/-- A block of one statement with one expression was read. -/
def BOk (p b o cap : Nat) (ts : List Tok) (w : World) (v u : Value) (us is : List Value) (a : Int) (kind : Int) (y : Sx.Ex) (k' : Nat) (e : Ending) (w' : World) : Prop :=
  ∃ g c sa u', e = .returned (.slice (some ⟨g, 0, none⟩) 1 c) ∧ 1 ≤ c ∧ S1 w' g kind (.slice sa 1 1) ∧ w.heap.size ≤ g ∧ ¬ v.ownBlock = some g ∧ ¬ u'.ownBlock = some g ∧ Mk w' p v u' us (is ++ [.int .i64 a]) ∧ PS p w v u w' v u' ∧ Rd w' p b o cap ts k' ∧ k' < ts.length ∧
    ExS (fun g => w.heap.size ≤ g ∧ ¬ v.ownBlock = some g ∧ ¬ u'.ownBlock = some g) w' (.slice sa 1 1) [y]
end Go.Proofs.Ytfpabjdhibmefaa

namespace Go.Proofs.Ytfpabjdhibmefaa
open Go.RowKit

/-- Marks of the procedures so far, in the slice v of slices. -/
structure Pv (w : World) (p : Nat) (v : Value) (us : List Value) : Prop where
  c2 : w.cell? ⟨p, 2, none⟩ = some v
  f2 : w.frozen? ⟨p, 2, none⟩ = false
  ov : w.ownsRow (p + 1) 40 1 v us.length us
  lt : p < w.heap.size
  bd : us.length + 1 ≤ 1000000
structure PV (p : Nat) (w : World) (v : Value) (w' : World) (v' u' : Value) : Prop where
  os : w'.os = w.os
  tape : w'.tape = w.tape
  output : w'.output = w.output
  size : w.heap.size ≤ w'.heap.size
  far : ∀ g, g < w.heap.size → g ≠ p → ¬ v.ownBlock = some g → w'.heap[g]? = w.heap[g]? ∧ ¬ v'.ownBlock = some g ∧ ¬ u'.ownBlock = some g
theorem PV.trans {p : Nat} {w w' w'' : World} {v v' v'' u' u'' : Value} (h : PV p w v w' v' u') (k : PS p w' v' u' w'' v'' u'') : PV p w v w'' v'' u'' :=
  ⟨k.os.trans h.os, k.tape.trans h.tape, k.output.trans h.output, Nat.le_trans h.size k.size, fun g hg h0 h1 => by
    obtain ⟨a, b, c⟩ := h.far g hg h0 h1
    obtain ⟨a', b', c'⟩ := k.far g (Nat.lt_of_lt_of_le hg h.size) h0 b c
    exact ⟨a'.trans a, b', c'⟩⟩
theorem Pv.later {w w' : World} {p : Nat} {v : Value} {us : List Value} (h : Pv w p v us) (b : Below w.heap.size w w') : Pv w' p v us :=
  ⟨(b.cell (p := ⟨p, 2, none⟩) h.lt).trans h.c2, (b.frozen (p := ⟨p, 2, none⟩) h.lt).trans h.f2, own_later h.ov b, Nat.lt_of_lt_of_le h.lt b.size, h.bd⟩
/-- A new procedure's marks are begun. -/
theorem Pv.begun {w W w1 : World} {p : Nat} {v v1 : Value} {us : List Value} {k b o cap : Nat} {ts : List Tok} (H : Pv w p v us) (RD : Rd w p b o cap ts k) (hbp : b < p) (bW : Below w.heap.size w W) (g1 : W.grownBy w1 v.ownBlock) (h1 : w1.ownsRow (p + 1) 40 1 v1 (us.length + 1) (us ++ [.slice none 0 0])) (o1 : v1.ownBlock = v.ownBlock ∨ ∃ g, v1.ownBlock = some g ∧ W.heap.size ≤ g) :
    Mk (w1.setCell ⟨p, 2, none⟩ v1) p v1 (.slice none 0 0) us [] ∧ PV p w v (w1.setCell ⟨p, 2, none⟩ v1) v1 (.slice none 0 0) ∧ Rd (w1.setCell ⟨p, 2, none⟩ v1) p b o cap ts k := by
  have hp := H.lt
  have hz := bW.size
  have hz1 := g1.size
  have hpv : some p ≠ v.ownBlock := fun e => by have := (World.ownsRow.lt H.ov _ e.symm).1; omega
  have hbv : some b ≠ v.ownBlock := fun e => by have := (World.ownsRow.lt H.ov _ e.symm).1; omega
  have kp : w1.heap[p]? = w.heap[p]? := (g1.block p (by omega) hpv).trans (bW.block p hp)
  have kb : (w1.setCell ⟨p, 2, none⟩ v1).heap[b]? = w.heap[b]? := (heap_setCell_other w1 _ b _ (by simp only; omega)).trans ((g1.block b (by have := RD.ta.lt; omega) hbv).trans (bW.block b RD.ta.lt))
  have cp : ∀ j, j ≠ 2 → (w1.setCell ⟨p, 2, none⟩ v1).cell? ⟨p, j, none⟩ = w.cell? ⟨p, j, none⟩ := fun j hj => (World.cell?_setCell_other _ _ _ _ (fun e => hj (congrArg Addr.off e).symm)).trans (World.cell?_of_block (w := w) (a := ⟨p, j, none⟩) kp)
  refine ⟨⟨World.cell?_setCell_same _ _ _ ((World.cell?_of_block (w := w) (a := ⟨p, 2, none⟩) kp).trans H.c2), by rw [World.frozen?_setCell]; exact (World.frozen?_of_block (w := w) (a := ⟨p, 2, none⟩) kp).trans H.f2, ownsRow_setCell_below h1 (by simp) _, World.ownsRow_nil _ _ _ _, fun g _ e => (by cases e), (by simp; omega), ⟨by have := H.bd; omega, by simp⟩⟩, ⟨g1.os.trans bW.os, g1.tape.trans bW.tape, g1.output.trans bW.output, by simp; omega, fun g hg h0 h2 => ⟨(heap_setCell_other w1 _ g _ h0).trans ((g1.block g (by omega) (fun e => h2 e.symm)).trans (bW.block g hg)), ?_, fun e => (by cases e)⟩⟩,
    ⟨(cp 0 (by omega)).trans RD.row, (cp 1 (by omega)).trans RD.nx, by rw [World.frozen?_setCell]; exact (World.frozen?_of_block (w := w) (a := ⟨p, 1, none⟩) kp).trans RD.fz, ⟨by have := RD.ta.lt; simp; omega, fun j hj => (World.cell?_of_block (w := w) (a := ⟨b, _, none⟩) kb).trans (RD.ta.c0 j hj), fun j hj => (World.cell?_of_block (w := w) (a := ⟨b, _, none⟩) kb).trans (RD.ta.c1 j hj), fun j hj => (World.cell?_of_block (w := w) (a := ⟨b, _, none⟩) kb).trans (RD.ta.c2 j hj), fun j hj => (World.cell?_of_block (w := w) (a := ⟨b, _, none⟩) kb).trans (RD.ta.c3 j hj)⟩, RD.ne, by have := RD.lt; simp; omega⟩⟩
  rcases o1 with e | ⟨g', e, hg'⟩
  · rw [e]; exact h2
  · rw [e]; intro e2; cases e2; omega
end Go.Proofs.Ytfpabjdhibmefaa

namespace Go.Proofs.Ytfpabjdhibmefaa
open Go.RowKit

theorem PV.from {p : Nat} {w w0 w' : World} {v v' u' : Value} (h : PV p w0 v w' v' u') (b : Below w.heap.size w w0) : PV p w v w' v' u' :=
  ⟨h.os.trans b.os, h.tape.trans b.tape, h.output.trans b.output, Nat.le_trans b.size h.size, fun g hg h0 h1 => by
    obtain ⟨a, c, d⟩ := h.far g (Nat.lt_of_lt_of_le hg b.size) h0 h1
    exact ⟨a.trans (b.block g hg), c, d⟩⟩
theorem Mk.pv {w : World} {p : Nat} {v u : Value} {us is : List Value} (h : Mk w p v u us is) (hb : us.length + 2 ≤ 1000000) : Pv w p v (us ++ [u]) :=
  ⟨h.c2, h.f2, by rw [List.length_append]; exact h.ov, h.lt, by simp; omega⟩
theorem S1.kept {w w' : World} {g : Nat} {kind : Int} {sl : Value} (h : S1 w g kind sl) (e : w'.heap[g]? = w.heap[g]?) (hz : w.heap.size ≤ w'.heap.size) : S1 w' g kind sl :=
  ⟨(World.cell?_of_block (w := w) e).trans h.c0, (World.cell?_of_block (w := w) e).trans h.c1, (World.cell?_of_block (w := w) e).trans h.c2, (World.cell?_of_block (w := w) e).trans h.c3, (World.cell?_of_block (w := w) e).trans h.c4, (World.cell?_of_block (w := w) e).trans h.c5, (World.cell?_of_block (w := w) e).trans h.c6, Nat.lt_of_lt_of_le h.lt hz⟩
theorem set_grown (w : World) (a : Addr) (x : Value) : w.grownBy (w.setCell a x) (some a.block) := ⟨rfl, rfl, rfl, by simp, fun k _ hn => heap_setCell_other w _ k _ (fun e => hn (by rw [e]))⟩
theorem Rd.kept {w w' : World} {p b o cap : Nat} {ts : List Tok} {k r : Nat} (h : Rd w p b o cap ts k) (hg : w.grownBy w' (some r)) (hp : r ≠ p) (hb : r ≠ b) : Rd w' p b o cap ts k := by
  have ep := hg.block p h.lt (fun e => hp (Option.some.inj e).symm)
  have eb := hg.block b h.ta.lt (fun e => hb (Option.some.inj e).symm)
  exact ⟨(World.cell?_of_block (w := w) (a := ⟨p, 0, none⟩) ep).trans h.row, (World.cell?_of_block (w := w) (a := ⟨p, 1, none⟩) ep).trans h.nx, (World.frozen?_of_block (w := w) (a := ⟨p, 1, none⟩) ep).trans h.fz,
    ⟨Nat.lt_of_lt_of_le h.ta.lt hg.size, fun j hj => (World.cell?_of_block (w := w) (a := ⟨b, _, none⟩) eb).trans (h.ta.c0 j hj), fun j hj => (World.cell?_of_block (w := w) (a := ⟨b, _, none⟩) eb).trans (h.ta.c1 j hj), fun j hj => (World.cell?_of_block (w := w) (a := ⟨b, _, none⟩) eb).trans (h.ta.c2 j hj), fun j hj => (World.cell?_of_block (w := w) (a := ⟨b, _, none⟩) eb).trans (h.ta.c3 j hj)⟩, h.ne, Nat.lt_of_lt_of_le h.lt hg.size⟩
theorem fill_grown (w : World) (g : Nat) (a0 a1 a2 a3 : Value) : w.grownBy (fill w g a0 a1 a2 a3) (some g) :=
  ⟨by unfold fill; simp [World.setCell], by unfold fill; simp [World.setCell], by unfold fill; simp [World.setCell], by rw [fill_size]; exact Nat.le_refl _, fun k _ hn => fill_other w g k _ _ _ _ (fun e => hn (by rw [e]))⟩
theorem PV.grown {p : Nat} {w w' w'' : World} {v v' u' : Value} (h : PV p w v w' v' u') {r : Nat} (hg : w'.grownBy w'' (some r)) (hr : w.heap.size ≤ r) : PV p w v w'' v' u' :=
  ⟨hg.os.trans h.os, hg.tape.trans h.tape, hg.output.trans h.output, Nat.le_trans h.size hg.size, fun g hg' h0 h1 => by
    obtain ⟨a, b, c⟩ := h.far g hg' h0 h1
    exact ⟨(hg.block g (Nat.lt_of_lt_of_le hg' h.size) (fun e => by have := Option.some.inj e; omega)).trans a, b, c⟩⟩
/-- A procedure was read. -/
def POk (p b o cap : Nat) (ts : List Tok) (w : World) (v : Value) (us : List Value) (nm : List UInt8) (y : Sx.Ex) (k' : Nat) (e : Ending) (w' : World) : Prop :=
  ∃ g c sa v' u', e = .returned (.agg #[.string ⟨nm.toArray⟩, .slice none 0 0, .int .i64 0, .slice (some ⟨g, 0, none⟩) 1 c]) ∧ 1 ≤ c ∧ S1 w' g 8 (.slice sa 1 1) ∧ w.heap.size ≤ g ∧ ¬ v'.ownBlock = some g ∧ ¬ u'.ownBlock = some g ∧ Pv w' p v' (us ++ [u']) ∧ PV p w v w' v' u' ∧ Rd w' p b o cap ts k' ∧ k' < ts.length ∧
    ExS (fun g => w.heap.size ≤ g ∧ ¬ v'.ownBlock = some g ∧ ¬ u'.ownBlock = some g) w' (.slice sa 1 1) [y]
end Go.Proofs.Ytfpabjdhibmefaa

namespace Go.Proofs.Ytfpabjdhibmefaa
open Go.RowKit

theorem infoPc : (Try.prog.info? 25).map (fun i => (i.zero, i.size, i.bytes)) = some (some (.agg #[.string ⟨#[]⟩, .slice none 0 0, .int .i64 0, .slice none 0 0]), 4, 72) := by kernel_rfl
theorem fldK (a0 a1 a2 a3 : Value) (w : World) : (Instr.field 97 (.agg #[a0, a1, a2, a3]) 0).run Try.prog w = .ok a0 w := by kernel_rfl
/-- A box of one cell. -/
structure B1 (w : World) (g : Nat) (a : Value) : Prop where
  c : w.cell? ⟨g, 0, none⟩ = some a
  f : w.frozen? ⟨g, 0, none⟩ = false
  lt : g < w.heap.size
theorem B1.kept {w w' : World} {g : Nat} {a : Value} (h : B1 w g a) (e : w'.heap[g]? = w.heap[g]?) (hz : w.heap.size ≤ w'.heap.size) : B1 w' g a :=
  ⟨(World.cell?_of_block (w := w) (a := ⟨g, 0, none⟩) e).trans h.c, (World.frozen?_of_block (w := w) (a := ⟨g, 0, none⟩) e).trans h.f, Nat.lt_of_lt_of_le h.lt hz⟩
theorem B1.new (w : World) (t : TypeId) (a : Value) : B1 (w.alloc (.cells #[a] t)) w.heap.size a := ⟨by simp [go_sem], World.frozen?_alloc_at _ _ _ _ rfl, by simp⟩
theorem Pv.mov {w w' : World} {p : Nat} {v : Value} {us : List Value} (h : Pv w p v us) (m : Mov p w w') : Pv w' p v us := by
  have hg : w.grownBy w' (some p) := ⟨m.os, m.tape, m.output, m.size, fun k hk hn => m.block k hk (fun e => hn (by rw [e]))⟩
  have hv : v.ownBlock ≠ some p := fun e => by have := (World.ownsRow.lt h.ov _ e).1; omega
  exact ⟨(m.cell _ h.lt (by simp)).trans h.c2, (m.frozen _ h.lt).trans h.f2, World.ownsRow.kept h.ov hg (.inr hv), Nat.lt_of_lt_of_le h.lt m.size, h.bd⟩
end Go.Proofs.Ytfpabjdhibmefaa

namespace Go.Proofs.Ytfpabjdhibmefaa
open Go.RowKit

/-- One procedure of a name, without parameters and answer, whose body is the slice sl, lies in block g. -/
structure P1 (w : World) (g : Nat) (nm : List UInt8) (sl : Value) : Prop where
  c0 : w.cell? ⟨g, 0, none⟩ = some (.string ⟨nm.toArray⟩)
  c1 : w.cell? ⟨g, 1, none⟩ = some (.slice none 0 0)
  c2 : w.cell? ⟨g, 2, none⟩ = some (.int .i64 0)
  c3 : w.cell? ⟨g, 3, none⟩ = some sl
  lt : g < w.heap.size
theorem P1.kept {w w' : World} {g : Nat} {nm : List UInt8} {sl : Value} (h : P1 w g nm sl) (e : w'.heap[g]? = w.heap[g]?) (hz : w.heap.size ≤ w'.heap.size) : P1 w' g nm sl :=
  ⟨(World.cell?_of_block (w := w) e).trans h.c0, (World.cell?_of_block (w := w) e).trans h.c1, (World.cell?_of_block (w := w) e).trans h.c2, (World.cell?_of_block (w := w) e).trans h.c3, Nat.lt_of_lt_of_le h.lt hz⟩
theorem P1.own {w : World} {base : Nat} {v : Value} {nm : List UInt8} {sl : Value} (h : w.ownsRow base 25 4 v 1 [.string ⟨nm.toArray⟩, .slice none 0 0, .int .i64 0, sl]) : ∃ g cap, v = .slice (some ⟨g, 0, none⟩) 1 cap ∧ 1 ≤ cap ∧ P1 w g nm sl := by
  have hc := @World.ownsRow.cells _ _ _ _ _ _ _ h
  have hl := World.ownsRow.lt h
  rcases h.2 with ⟨_, h0⟩ | ⟨g, cap, cur, rfl, hb, hh, hnc, _⟩
  · cases h0
  · have key : ∀ j u, [Value.string ⟨nm.toArray⟩, .slice none 0 0, .int .i64 0, sl][j]? = some u → w.cell? ⟨g, j, none⟩ = some u := by
      intro j u hu
      have e := @hc g rfl j u hu
      cases j with
      | zero => simpa [Addr.add] using e
      | succ j => simpa [Addr.add] using e
    exact ⟨g, cap, rfl, hnc, key 0 _ rfl, key 1 _ rfl, key 2 _ rfl, key 3 _ rfl, (hl g rfl).2⟩
/-- A program of one procedure, whose one statement prints y, lies in memory from block n on. -/
def GProg (n : Nat) (w : World) (val : Value) (nm : List UInt8) (y : Sx.Ex) : Prop :=
  ∃ g c gb cb sa, val = .agg #[.slice (some ⟨g, 0, none⟩) 1 c] ∧ 1 ≤ c ∧ 1 ≤ cb ∧ n ≤ g ∧ n ≤ gb ∧ P1 w g nm (.slice (some ⟨gb, 0, none⟩) 1 cb) ∧ S1 w gb 8 (.slice sa 1 1) ∧ ExS (fun g => n ≤ g) w (.slice sa 1 1) [y]
theorem GProg.below {n m : Nat} {w w' : World} {val : Value} {nm : List UInt8} {y : Sx.Ex} (h : GProg n w val nm y) (hb : ∀ g, n ≤ g → g < w.heap.size → w'.heap[g]? = w.heap[g]?) (hz : w.heap.size ≤ w'.heap.size) (hm : m ≤ n) : GProg m w' val nm y := by
  obtain ⟨g, c, gb, cb, sa, e, h1, h2, h3, h4, hp, hs, hx⟩ := h
  exact ⟨g, c, gb, cb, sa, e, h1, h2, Nat.le_trans hm h3, Nat.le_trans hm h4, hp.kept (hb g h3 hp.lt) hz, hs.kept (hb gb h4 hs.lt) hz, hx.keep (fun _ _ a => Nat.le_trans hm a) (fun q a hq => World.cell?_of_block (w := w) (hb _ a hq)) hz⟩
theorem Pv.kept {w w' : World} {p r : Nat} {v : Value} {us : List Value} (h : Pv w p v us) (hg : w.grownBy w' (some r)) (h1 : r ≠ p) (h2 : ¬ v.ownBlock = some r) : Pv w' p v us := by
  have e := hg.block p h.lt (fun e => h1 (Option.some.inj e).symm)
  exact ⟨(World.cell?_of_block (w := w) (a := ⟨p, 2, none⟩) e).trans h.c2, (World.frozen?_of_block (w := w) (a := ⟨p, 2, none⟩) e).trans h.f2, World.ownsRow.kept h.ov hg (.inr h2), Nat.lt_of_lt_of_le h.lt hg.size, h.bd⟩
theorem PV.below' {p : Nat} {w w' w'' : World} {v v' u' : Value} (h : PV p w v w' v' u') (b : Below w'.heap.size w' w'') : PV p w v w'' v' u' :=
  ⟨b.os.trans h.os, b.tape.trans h.tape, b.output.trans h.output, Nat.le_trans h.size b.size, fun g hg h0 h1 => by
    obtain ⟨a, c, d⟩ := h.far g hg h0 h1
    exact ⟨(b.block g (Nat.lt_of_lt_of_le hg h.size)).trans a, c, d⟩⟩
/-- Behind the first round of prog. -/
structure Mid (w : World) (p b o cap : Nat) (ts : List Tok) (k1 : Nat) (v : Value) (us : List Value) (nm : List UInt8) (y : Sx.Ex) (val : Value) (W : World) : Prop where
  b0 : B1 W w.heap.size (.slice none 0 0)
  b1 : B1 W (w.heap.size + 1) val
  rd : Rd W p b o cap ts k1
  hk : k1 < ts.length
  gp : GProg (w.heap.size + 2) W (.agg #[val]) nm y
  pv : ∃ v' u', Pv W p v' (us ++ [u']) ∧ PV p w v W v' u' ∧ ¬ v'.ownBlock = some w.heap.size
theorem Mid.of {w w1 w2 w3 : World} {p b o cap : Nat} {ts : List Tok} {k1 : Nat} {v v2 u2 : Value} {us : List Value} {nm : List UInt8} {y : Sx.Ex} {gb cb gc cc : Nat} {sa : Option Addr} (W1 : Below w.heap.size w w1) (Q : B1 w1 (w.heap.size + 1) (.slice none 0 0)) (Q' : B1 w1 w.heap.size (.slice none 0 0)) (nv : ¬ v.ownBlock = some (w.heap.size + 1) ∧ ¬ v.ownBlock = some w.heap.size) (np : p < w.heap.size) (nb : b < w.heap.size)
    (hcb : 1 ≤ cb) (S2 : S1 w2 gb 8 (.slice sa 1 1)) (hg2 : w1.heap.size ≤ gb) (V2 : Pv w2 p v2 (us ++ [u2])) (P2 : PV p w1 v w2 v2 u2) (r2 : Rd w2 p b o cap ts k1) (hl2 : k1 < ts.length) (X2 : ExS (fun g => w1.heap.size ≤ g ∧ ¬ v2.ownBlock = some g ∧ ¬ u2.ownBlock = some g) w2 (.slice sa 1 1) [y])
    (bb : Below w2.heap.size w2 w3) (hgc : w2.heap.size ≤ gc) (hcc : 1 ≤ cc) (P3 : P1 w3 gc nm (.slice (some ⟨gb, 0, none⟩) 1 cb)) :
    Mid w p b o cap ts k1 v us nm y (.slice (some ⟨gc, 0, none⟩) 1 cc) (w3.setCell ⟨w.heap.size + 1, 0, none⟩ (.slice (some ⟨gc, 0, none⟩) 1 cc)) := by
  have z1 := Q.lt
  have k2 := P2.far (w.heap.size + 1) Q.lt (by omega) nv.1
  have k2' := P2.far w.heap.size Q'.lt (by omega) nv.2
  have q3 := (Q.kept k2.1 P2.size).kept (bb.block _ (Q.kept k2.1 P2.size).lt) bb.size
  have q3' := (Q'.kept k2'.1 P2.size).kept (bb.block _ (Q'.kept k2'.1 P2.size).lt) bb.size
  have g4 := set_grown w3 ⟨w.heap.size + 1, 0, none⟩ (.slice (some ⟨gc, 0, none⟩) 1 cc)
  have zz := P2.size
  refine ⟨q3'.kept (g4.block _ q3'.lt (fun e => by have := Option.some.inj e; simp only at this; omega)) g4.size, ⟨World.cell?_setCell_same _ _ _ q3.c, by rw [World.frozen?_setCell]; exact q3.f, by simpa using q3.lt⟩, (r2.later bb).kept g4 (by simp only; omega) (by simp only; omega), hl2, ?_, v2, u2, (V2.later bb).kept g4 (by simp only; omega) k2.2.1, ((P2.from W1).below' bb).grown g4 (by simp), k2'.2.1⟩
  refine ⟨gc, cc, gb, cb, sa, rfl, hcc, hcb, by omega, by omega, P3.kept (g4.block _ P3.lt (fun e => by have := Option.some.inj e; simp only at this; omega)) g4.size, (S2.kept (bb.block _ S2.lt) bb.size).kept (g4.block _ (Nat.lt_of_lt_of_le S2.lt bb.size) (fun e => by have := Option.some.inj e; simp only at this; omega)) g4.size, ?_⟩
  exact ((X2.later bb (Nat.le_refl _)).set (a := ⟨w.heap.size + 1, 0, none⟩) (fun e => by have := e.1; simp only at this; omega) _).mono fun g _ hg => by have := hg.1; omega
end Go.Proofs.Ytfpabjdhibmefaa

namespace Go.Proofs.Ytfpabjdhibmefaa
open Go.RowKit

theorem PV.keep {p : Nat} {w w' : World} {v' u' : Value} (h : PV p w (.slice none 0 0) w' v' u') : Keep (fun g => g = p) w w' := ⟨h.os, h.tape, h.output, h.size, fun k hk hn => (h.far k hk hn (fun e => by cases e)).1⟩
/-- The program lies in the box pb. -/
def GRel (n pb : Nat) (nm : List UInt8) (y : Sx.Ex) (w' : World) : Prop := ∃ sl, GProg n w' (.agg #[sl]) nm y ∧ B1 w' pb sl
end Go.Proofs.Ytfpabjdhibmefaa

namespace Go.Proofs.Ytfpabjdhibmefaa
open Go.RowKit

/-- Tokens in memory that lex.Right takes. -/
structure Toks (w : World) (b o cap : Nat) (ts : List Tok) : Prop where
  ta : Ta w b o ts
  gd : Good ts
  cp : ts.length ≤ cap
  rt : rightL ts = true
  tx : ∀ j, j < ts.length → (ts.getD j tok0).1.text.length ≤ maxLen
end Go.Proofs.Ytfpabjdhibmefaa

namespace Go.Proofs.Ytfpabjdhibmefaa
open Go.RowKit

end Go.Proofs.Ytfpabjdhibmefaa

namespace Go.Proofs.Ytfpabjdhibmefaa
open Go.RowKit

def t1 : List UInt8 := [112, 114, 111, 99, 32, 109, 97, 105, 110, 32, 40, 32, 41, 32, 123, 32, 112, 114, 105, 110, 116, 32, 49, 32, 43, 32, 50, 32, 42, 32, 51, 32, 59, 32, 125]
def t2 : List UInt8 := [112, 114, 111, 99, 32, 102, 32, 40, 32, 105, 110, 116, 32, 97, 32, 44, 32, 41, 32, 123, 32, 125]
def r1 : List (Lx.Tk × Nat) := [(⟨3, [112, 114, 111, 99], 0⟩, 0), (⟨1, [109, 97, 105, 110], 0⟩, 5), (⟨4, [40], 0⟩, 10), (⟨4, [41], 0⟩, 12), (⟨4, [123], 0⟩, 14), (⟨3, [112, 114, 105, 110, 116], 0⟩, 16), (⟨2, [], 1⟩, 22), (⟨4, [43], 0⟩, 24), (⟨2, [], 2⟩, 26), (⟨4, [42], 0⟩, 28), (⟨2, [], 3⟩, 30), (⟨4, [59], 0⟩, 32), (⟨4, [125], 0⟩, 34), (⟨0, [], 0⟩, 35)]
def r2 : List (Lx.Tk × Nat) := [(⟨3, [112, 114, 111, 99], 0⟩, 0), (⟨1, [102], 0⟩, 5), (⟨4, [40], 0⟩, 7), (⟨3, [105, 110, 116], 0⟩, 9), (⟨1, [97], 0⟩, 13), (⟨4, [44], 0⟩, 15), (⟨4, [41], 0⟩, 17), (⟨4, [123], 0⟩, 19), (⟨4, [125], 0⟩, 21), (⟨0, [], 0⟩, 22)]
theorem s1 : Lx.scan t1 = (r1, 0, 0) := by kernel_rfl
theorem s2 : Lx.scan t2 = (r2, 0, 0) := by kernel_rfl
theorem rt1 : rightL (r1.map tkI) = true := by kernel_rfl
theorem rt2 : rightL (r2.map tkI) = true := by kernel_rfl
theorem tx1 : ∀ j, j < (r1.map tkI).length → ((r1.map tkI).getD j tok0).1.text.length ≤ maxLen := by decide
theorem tx2 : ∀ j, j < (r2.map tkI).length → ((r2.map tkI).getD j tok0).1.text.length ≤ maxLen := by decide
/-- 1 + 2 * 3. -/
def y1 : Sx.Ex := .mk 6 [43] 0 [.mk 1 [] 1 [], .mk 6 [42] 0 [.mk 1 [] 2 [], .mk 1 [] 3 []]]
theorem bd1 : Sx.bd (r1.map tkI) 60 1 2 6 = some (.ok y1 11) := by kernel_rfl
end Go.Proofs.Ytfpabjdhibmefaa

namespace Go.Proofs.Ytfpabjdhibmefaa
open Go.RowKit

end Go.Proofs.Ytfpabjdhibmefaa

namespace Go.Proofs.Ytfpabjdhibmefaa
open Go.RowKit

theorem three_cell_s (w : World) (x y z : ByteArray) (t : TypeId) : ∀ (j : Nat) u, [Value.string x, Value.string y, Value.string z][j]? = some u → (w.alloc (.cells #[.string x, .string y, .string z] t)).cell? ((⟨w.heap.size, 0, none⟩ : Addr).add j) = some u := by
  intro j u hj
  match j, hj with
  | 0, hj => simp at hj; subst hj; simp [Addr.add]
  | 1, hj => simp at hj; subst hj; simp [Addr.add]
  | 2, hj => simp at hj; subst hj; simp [Addr.add]
theorem S1.ws {q g : Nat} {w w' : World} {v v' : Value} {kind : Int} {sl : Value} (h : S1 w g kind sl) (s : WS q w v w' v') (hg : g < q) : S1 w' g kind sl := h.kept (s.low g hg) s.size
end Go.Proofs.Ytfpabjdhibmefaa

namespace Go.Proofs.Ytfpabjdhibmefaa
open Go.RowKit

/-- The words of such a procedure. -/
def pwords (nm : List UInt8) (ws : List (List UInt8)) : List (List UInt8) := [[112, 114, 111, 99], nm, [40], [41], [123], [112, 114, 105, 110, 116]] ++ ws ++ [[59], [125]]
end Go.Proofs.Ytfpabjdhibmefaa

namespace Go.Proofs.Ytfpabjdhibmefaa
open Go.RowKit

def t3 : List UInt8 := [45, 32, 97, 32, 91, 32, 49, 32, 93, 32, 60, 32, 50, 32, 38, 38, 32, 116, 114, 117, 101]
def r3 : List (Lx.Tk × Nat) := [(⟨4, [45], 0⟩, 0), (⟨1, [97], 0⟩, 2), (⟨4, [91], 0⟩, 4), (⟨2, [], 1⟩, 6), (⟨4, [93], 0⟩, 8), (⟨4, [60], 0⟩, 10), (⟨2, [], 2⟩, 12), (⟨4, [38, 38], 0⟩, 14), (⟨3, [116, 114, 117, 101], 0⟩, 17), (⟨0, [], 0⟩, 21)]
theorem s3 : Lx.scan t3 = (r3, 0, 0) := by kernel_rfl
def y3l : List Sx.Ex := [.mk 6 [60] 0 [.mk 5 [45] 0 [.mk 4 [97] 0 [.mk 1 [] 1 []]], .mk 1 [] 2 []], .mk 2 [] 1 []]
theorem bd3 : Sx.bd (r3.map tkI) 60 1 1 0 = some (.ok (.mk 6 [38, 38] 0 y3l) 9) := by kernel_rfl
theorem rx1 : Sx.rx 20 y1 = true := by kernel_rfl
theorem rx3 : Sx.rx 20 (.mk 6 [38, 38] 0 y3l) = true := by kernel_rfl
def w1l : List (List UInt8) := [[49], [43], [40], [50], [42], [51], [41]]
def w3l : List (List UInt8) := [[40], [45], [97], [91], [49], [93], [60], [50], [41], [38, 38], [116, 114, 117, 101]]
theorem wx1 : Sx.wx 20 y1 2 = some (w1l, 3) := by kernel_rfl
theorem wx3 : Sx.wx 20 (.mk 6 [38, 38] 0 y3l) 1 = some (w3l, 4) := by kernel_rfl
theorem j1 : Lib.join (pwords [109, 97, 105, 110] w1l) [32] = [112, 114, 111, 99, 32, 109, 97, 105, 110, 32, 40, 32, 41, 32, 123, 32, 112, 114, 105, 110, 116, 32, 49, 32, 43, 32, 40, 32, 50, 32, 42, 32, 51, 32, 41, 32, 59, 32, 125] := by kernel_rfl
theorem j3 : Lib.join w3l [32] = [40, 32, 45, 32, 97, 32, 91, 32, 49, 32, 93, 32, 60, 32, 50, 32, 41, 32, 38, 38, 32, 116, 114, 117, 101] := by kernel_rfl
end Go.Proofs.Ytfpabjdhibmefaa
