/- An append to a row of one's own: where the row lies behind it is told: where it lay, or in a new block. -/
/- Layer 3: the reader of programs: where marks stand. -/
/- Layer 3: the reader of programs: statements that hold one expression. -/
/- Layer 3: the reader of programs: closed; names; types; which tokens begin a statement. -/
/- Layer 3: the reader of programs: types and parameters. -/
import Derived.Test.YtlhklpnkelcnbaaGreatDoorSynP
import Derived.OneCell
import Derived.Deep.RegionLaw
namespace Go.Proofs.YtlhklpnkelcnbaaGreatDoor
open Go.RowKit

theorem own_tell {P : Program} {w : World} {base : Nat} {t ty e : TypeId} {i : TypeInfo} {z : Value} {size bytes : Nat} (ht : P.underlying t = some (.slice e)) (hi : P.info? e = some i) (hz : i.zero = some z)
    (hsize : i.size = size) (hby : i.bytes = bytes) {v : Value} {n : Nat} {xs : List Value} (hown : w.ownsRow base e size v n xs)
    {a : Addr} {m c : Nat} {news : List Value} (hl : news.length = m * size) (hnews : ∀ j u, news[j]? = some u → w.cell? (a.add j) = some u) (h1 : ∀ u ∈ news, u.oneCell' = true)
    (h63 : n + m ≤ maxLen) (hbytes : (n + m) * bytes ≤ 140737488355328) (hm : 0 < m) {v' : Value} {w' : World} (hr : (Builtin.append_ #[t, t] ty #[v, .slice (some a) m c]).run P w = .ok v' w') :
    v'.ownBlock = v.ownBlock ∨ ∃ g, v'.ownBlock = some g ∧ w.heap.size ≤ g := by
  subst hsize
  subst hby
  have hsmall : n + m ≤ 9223372036854775807 := by simp only [maxLen] at h63; omega
  rcases hown.2 with ⟨rfl, rfl⟩ | ⟨g, cap, cur, rfl, hbg, hg, hnc, hcm, hcs, htake⟩
  · have hx := run_append_nil (P := P) w t ty e i z ht hi hz a m c news hl hnews (by omega) (by omega) (by have hb := hbytes; simp only [Nat.zero_add] at hb; omega)
    rw [hr] at hx
    cases hx
    exact .inr ⟨_, rfl, Nat.le_refl _⟩
  · by_cases hroom : n + m ≤ cap
    · have hfit : n * i.size + news.length ≤ cur.size := by rw [hl, hcs, ← Nat.add_mul]; exact Nat.mul_le_mul_right _ hroom
      have hx := run_append_room (P := P) w t ty e i ht hi g n cap cur hg a m c news hl hnews h1 hroom hfit
      rw [hr] at hx
      cases hx
      exact .inl rfl
    · have holds : ∀ j u, xs[j]? = some u → w.cell? ((⟨g, 0, none⟩ : Addr).add j) = some u := hown.cells (g := g) rfl
      have hx := run_append_grow (P := P) w t ty e i z ht hi hz ⟨g, 0, none⟩ n cap xs hown.1 holds a m c news hl hnews (by omega) (by omega) (growslice_fits (by omega) hbytes)
      rw [hr] at hx
      cases hx
      exact .inr ⟨_, rfl, Nat.le_refl _⟩
theorem wp_append_told {P : Program} {w : World} {o : Oper} {a : Act} {K : Act → World → Prop} {Q : Exit → Act → World → Prop} (s x : Operand) (t : TypeId)
    (ho : o.op = .call { callee := .builtin .append, args := #[s, x], argTypes := #[t, t] })
    (base : Nat) (e : TypeId) (i : TypeInfo) (z : Value) (size bytes : Nat) (ht : P.underlying t = some (.slice e)) (hi : P.info? e = some i) (hz : i.zero = some z)
    (hsize : i.size = size) (hby : i.bytes = bytes) (hzs : z.cells.size = size) (hsz : 0 < size)
    (v : Value) (n : Nat) (xs : List Value) (hs : a.eval s = v) (hown : w.ownsRow base e size v n xs)
    (ad : Addr) (m c : Nat) (news : List Value) (hx : a.eval x = .slice (some ad) m c) (hl : news.length = m * size) (hnews : ∀ j u, news[j]? = some u → w.cell? (ad.add j) = some u) (h1 : ∀ u ∈ news, u.oneCell' = true)
    (h63 : n + m ≤ maxLen) (hbytes : (n + m) * bytes ≤ 140737488355328) (hbase : base ≤ w.heap.size) (hm : 0 < m)
    (h : ∀ v' w', w'.ownsRow base e size v' (n + m) (xs ++ news) → w.grownBy w' v.ownBlock → (v'.ownBlock = v.ownBlock ∨ ∃ g, v'.ownBlock = some g ∧ w.heap.size ≤ g) → K (a.put o.dst v') w') : o.wp P a w K Q := by
  obtain ⟨v', w', hr, h2, h3, _⟩ := run_append_own (P := P) w base t o.type e i z size bytes ht hi hz hsize hby hzs hsz v n xs hown ad m c news hl hnews h1 h63 hbytes hbase
  have h5 := own_tell ht hi hz hsize hby hown hl hnews h1 h63 hbytes hm hr
  unfold Oper.wp execOp
  simp only [ho, resolve, invoke, builtin, Sem.run_bind, Sem.run_pure, Result.andThen_ok, List.map_toArray, List.map_cons, List.map_nil, hs, hx, hr]
  exact h v' w' h2 h3 h5
theorem wpList_append_told {P : Program} {w : World} {ops : Array Oper} {rest : List Oper} {o : Oper} {a : Act} {Q : Exit → Act → World → Prop} (hgd : o.guard = none) (s x : Operand) (t : TypeId)
    (ho : o.op = .call { callee := .builtin .append, args := #[s, x], argTypes := #[t, t] })
    (base : Nat) (e : TypeId) (i : TypeInfo) (z : Value) (size bytes : Nat) (ht : P.underlying t = some (.slice e)) (hi : P.info? e = some i) (hz : i.zero = some z)
    (hsize : i.size = size) (hby : i.bytes = bytes) (hzs : z.cells.size = size) (hsz : 0 < size)
    (v : Value) (n : Nat) (xs : List Value) (hs : a.eval s = v) (hown : w.ownsRow base e size v n xs)
    (ad : Addr) (m c : Nat) (news : List Value) (hx : a.eval x = .slice (some ad) m c) (hl : news.length = m * size) (hnews : ∀ j u, news[j]? = some u → w.cell? (ad.add j) = some u) (h1 : ∀ u ∈ news, u.oneCell' = true)
    (h63 : n + m ≤ maxLen) (hbytes : (n + m) * bytes ≤ 140737488355328) (hbase : base ≤ w.heap.size) (hm : 0 < m)
    (h : ∀ v' w', w'.ownsRow base e size v' (n + m) (xs ++ news) → w.grownBy w' v.ownBlock → (v'.ownBlock = v.ownBlock ∨ ∃ g, v'.ownBlock = some g ∧ w.heap.size ≤ g) → wpList P ops Q rest (a.put o.dst v') w') : wpList P ops Q (o :: rest) a w :=
  wpList_plain hgd fun _ hK => wp_append_told s x t ho base e i z size bytes ht hi hz hsize hby hzs hsz v n xs hs hown ad m c news hx hl hnews h1 h63 hbytes hbase hm fun v' w' h2 h3 h4 => hK _ _ (h v' w' h2 h3 h4)
end Go.Proofs.YtlhklpnkelcnbaaGreatDoor

namespace Go.Proofs.YtlhklpnkelcnbaaGreatDoor
open Go.RowKit

theorem infoInts : (Tryz.prog.info? 173).map (fun i => (i.zero, i.size, i.bytes)) = some (some (.slice none 0 0), 1, 24) := by kernel_rfl
theorem infoI : (Tryz.prog.info? 3).map (fun i => (i.zero, i.size, i.bytes)) = some (some (.int .i64 0), 1, 8) := by kernel_rfl
theorem own_later {w w' : World} {base size n : Nat} {e : TypeId} {v : Value} {xs : List Value} (h : w.ownsRow base e size v n xs) (hb : Below w.heap.size w w') : w'.ownsRow base e size v n xs :=
  World.ownsRow.kept h (row := none) ⟨hb.os, hb.tape, hb.output, hb.size, fun k hk _ => hb.block k hk⟩ (by
    rcases h.2 with ⟨rfl, _⟩ | ⟨g, cap, cur, rfl, _⟩
    · exact .inl rfl
    · exact .inr (by simp [Value.ownBlock]))
theorem own_shape {w : World} {base size n : Nat} {e : TypeId} {v : Value} {xs : List Value} (h : w.ownsRow base e size v n xs) : ∃ ao c, v = .slice ao n c := by
  rcases h.2 with ⟨rfl, h0⟩ | ⟨g, c, cur, rfl, _⟩
  · exact ⟨none, 0, by rw [h0]⟩
  · exact ⟨_, c, rfl⟩
theorem own_put {w : World} {base : Nat} {e : TypeId} {g cap : Nat} {us : List Value} {u : Value} (h : w.ownsRow base e 1 (.slice (some ⟨g, 0, none⟩) (us.length + 1) cap) (us.length + 1) (us ++ [u])) (u' : Value) :
    (w.setCell ⟨g, us.length, none⟩ u').ownsRow base e 1 (.slice (some ⟨g, 0, none⟩) (us.length + 1) cap) (us.length + 1) (us ++ [u']) := by
  rcases h.2 with ⟨h0, _⟩ | ⟨g', cap', cur, hv, hb, hh, hnc, hcm, hcs, ht⟩
  · cases h0
  · cases hv
    refine ⟨by simp, .inr ⟨g, cap, cur.setIfInBounds us.length u', rfl, hb, heap_setCell_same _ _ _ _ _ _ hh, hnc, hcm, by simpa using hcs, ?_⟩⟩
    rw [Array.toList_setIfInBounds, List.take_set, ht]
    simp
/-- Marks are told into the slice v of slices, the last of which is u. -/
structure Mk (w : World) (p : Nat) (v u : Value) (us is : List Value) : Prop where
  c2 : w.cell? ⟨p, 2, none⟩ = some v
  f2 : w.frozen? ⟨p, 2, none⟩ = false
  ov : w.ownsRow (p + 1) 173 1 v (us.length + 1) (us ++ [u])
  ou : w.ownsRow (p + 1) 3 1 u is.length is
  ne : ∀ g, v.ownBlock = some g → ¬ u.ownBlock = some g
  lt : p < w.heap.size
  bd : us.length ≤ 1000000 ∧ is.length ≤ 1000000
/-- What reading programs turns: the reader's own block, and the rows of marks. -/
structure PS (p : Nat) (w : World) (v u : Value) (w' : World) (v' u' : Value) : Prop where
  os : w'.os = w.os
  tape : w'.tape = w.tape
  output : w'.output = w.output
  size : w.heap.size ≤ w'.heap.size
  far : ∀ g, g < w.heap.size → g ≠ p → ¬ v.ownBlock = some g → ¬ u.ownBlock = some g → w'.heap[g]? = w.heap[g]? ∧ ¬ v'.ownBlock = some g ∧ ¬ u'.ownBlock = some g
theorem PS.refl (p : Nat) (w : World) (v u : Value) : PS p w v u w v u := ⟨rfl, rfl, rfl, Nat.le_refl _, fun _ _ _ h1 h2 => ⟨rfl, h1, h2⟩⟩
theorem PS.trans {p : Nat} {w w' w'' : World} {v v' v'' u u' u'' : Value} (h : PS p w v u w' v' u') (k : PS p w' v' u' w'' v'' u'') : PS p w v u w'' v'' u'' :=
  ⟨k.os.trans h.os, k.tape.trans h.tape, k.output.trans h.output, Nat.le_trans h.size k.size, fun g hg h0 h1 h2 => by
    obtain ⟨a, b, c⟩ := h.far g hg h0 h1 h2
    obtain ⟨a', b', c'⟩ := k.far g (Nat.lt_of_lt_of_le hg h.size) h0 b c
    exact ⟨a'.trans a, b', c'⟩⟩
theorem PS.of_mov {p : Nat} {w w' : World} (v u : Value) (m : Mov p w w') : PS p w v u w' v u := ⟨m.os, m.tape, m.output, m.size, fun g hg h0 h1 h2 => ⟨m.block g hg h0, h1, h2⟩⟩
theorem PS.of_below {p : Nat} {w w' : World} (v u : Value) (m : Below w.heap.size w w') : PS p w v u w' v u := .of_mov v u (.of_below m)
theorem one_cell_i (w : World) (x : Value) (t : TypeId) : ∀ (j : Nat) u, [x][j]? = some u → (w.alloc (.cells #[x] t)).cell? ((⟨w.heap.size, 0, none⟩ : Addr).add j) = some u := by
  intro j u hj
  match j, hj with
  | 0, hj => simp at hj; subst hj; simp [Addr.add]
theorem Mk.at_last {w : World} {p : Nat} {v u : Value} {us is : List Value} (h : Mk w p v u us is) : ∃ g cap, v = .slice (some ⟨g, 0, none⟩) (us.length + 1) cap ∧ us.length + 1 ≤ cap ∧ w.cell? ⟨g, us.length, none⟩ = some u ∧ w.frozen? ⟨g, us.length, none⟩ = false ∧ p + 1 ≤ g ∧ g < w.heap.size := by
  have hc := @World.ownsRow.cells _ _ _ _ _ _ _ h.ov
  have hl := World.ownsRow.lt h.ov
  rcases h.ov.2 with ⟨_, h0⟩ | ⟨g, cap, cur, rfl, hb, hh, hnc, _⟩
  · omega
  · have := @hc g rfl us.length u (by simp)
    refine ⟨g, cap, rfl, hnc, ?_, ?_, (hl g rfl).1, (hl g rfl).2⟩
    · cases e : us.length with
      | zero => rw [e] at this; simpa [Addr.add] using this
      | succ j => rw [e] at this; simpa [Addr.add] using this
    · simp [World.frozen?, hh]
theorem mark_post {w W w1 : World} {p gv cap : Nat} {u u1 : Value} {us is : List Value} {a : Value} (H : Mk w p (.slice (some ⟨gv, 0, none⟩) (us.length + 1) cap) u us is) (hb : is.length + 1 ≤ 1000000) (bW : Below w.heap.size w W) (g1 : W.grownBy w1 u.ownBlock)
    (h1 : w1.ownsRow (p + 1) 3 1 u1 (is.length + 1) (is ++ [a])) (o1 : u1.ownBlock = u.ownBlock ∨ ∃ g, u1.ownBlock = some g ∧ W.heap.size ≤ g) :
    Mk (w1.setCell ⟨gv, us.length, none⟩ u1) p (.slice (some ⟨gv, 0, none⟩) (us.length + 1) cap) u1 us (is ++ [a]) ∧ PS p w (.slice (some ⟨gv, 0, none⟩) (us.length + 1) cap) u (w1.setCell ⟨gv, us.length, none⟩ u1) (.slice (some ⟨gv, 0, none⟩) (us.length + 1) cap) u1 ∧ (w1.setCell ⟨gv, us.length, none⟩ u1).heap[p]? = w.heap[p]? := by
  have hgv := World.ownsRow.lt H.ov gv rfl
  have hp := H.lt
  have hz := bW.size
  have hne : ¬ u.ownBlock = some gv := H.ne gv rfl
  have hne1 : ¬ u1.ownBlock = some gv := by
    rcases o1 with e | ⟨g, e, hg⟩
    · rw [e]; exact hne
    · rw [e]; intro e2; cases e2; omega
  have hpu : some p ≠ u.ownBlock := fun e => by have := (World.ownsRow.lt H.ou _ e.symm).1; omega
  have kp : (w1.setCell ⟨gv, us.length, none⟩ u1).heap[p]? = w.heap[p]? := (heap_setCell_other w1 _ p _ (by simp only; omega)).trans ((g1.block p (by omega) hpu).trans (bW.block p hp))
  refine ⟨⟨(World.cell?_of_block (w := w) (a := ⟨p, 2, none⟩) kp).trans H.c2, (World.frozen?_of_block (w := w) (a := ⟨p, 2, none⟩) kp).trans H.f2, own_put (World.ownsRow.kept (own_later H.ov bW) g1 (.inr fun e => hne e.symm)) _, ?_, fun g hg => ?_, ?_, H.bd.1, ?_⟩, ⟨g1.os.trans bW.os, g1.tape.trans bW.tape, g1.output.trans bW.output, ?_, fun g hg h0 h2 h3 => ⟨?_, h2, ?_⟩⟩, kp⟩
  · rw [List.length_append]
    exact ownsRow_setCell_other h1 hne1 _
  · cases hg; exact hne1
  · have := g1.size; simp; omega
  · simp; omega
  · have := g1.size; simp; omega
  · exact (heap_setCell_other w1 _ g _ (fun e => h2 (by rw [e]; rfl))).trans ((g1.block g (by omega) (fun e => h3 e.symm)).trans (bW.block g hg))
  · rcases o1 with e | ⟨g', e, hg'⟩
    · rw [e]; exact h3
    · rw [e]; intro e2; cases e2; omega
set_option maxRecDepth 100000 in
set_option maxHeartbeats 2000000 in
theorem mark_any (p : Nat) (v u : Value) (us is : List Value) (a : Int) (w : World) (h : Mk w p v u us is) (hi2 : is.length + 1 ≤ 1000000) :
    Calls Tryz.prog 118 #[.pointer (some ⟨p, 0, none⟩), .int .i64 a] w fun e w' => e = .returned (.tuple #[]) ∧ ∃ u', Mk w' p v u' us (is ++ [.int .i64 a]) ∧ PS p w v u w' v u' ∧ w'.heap[p]? = w.heap[p]? := by
  obtain ⟨gv, cap, rfl, hcap, c3, f3, hgv, zgv⟩ := h.at_last
  have H : Hid _ := h
  have c2 := h.c2
  have hp := h.lt
  have hbd := h.bd.1
  have ngv : ¬ p = gv := by omega
  obtain ⟨ao, capu, hu⟩ : ∃ ao c, u = .slice ao is.length c := by
    rcases h.ou.2 with ⟨rfl, h0⟩ | ⟨g, c, cur, rfl, _⟩
    · exact ⟨none, 0, by rw [h0]⟩
    · exact ⟨_, c, rfl⟩
  obtain ⟨i0, hi, hz0, hz1, hz2⟩ := info_parts infoI
  have hwl : IntKind.i64.wrap ((us.length : Int) + 1 - 1) = (us.length : Int) := by rw [IntKind.wrap_i64]; omega
  clear h
  subst hu
  go_enter Tryz.func118, Tryz.ntmps118
  go_wp2_with fail
  have hi0 : (0 : Int) ≤ (us.length : Int) := by omega
  have hi1 : (us.length : Int) < (us.length : Int) + 1 := by omega
  have n1 : ¬ gv = w.heap.size := by omega
  have n2 : ¬ p = w.heap.size := by omega
  have BD : Hid (is.length + 1 ≤ 1000000) := hi2
  clear hi2
  go_region_law (first
    | (rw [if_pos (by rfl)]; refine wp_append_told _ _ 173 rfl (p + 1) 3 i0 (.int .i64 0) 1 8 Tryz.underlying173 hi hz0 hz1 hz2 rfl (by decide) _ _ _ rfl (own_later H.out.ou (by go_grown)) ⟨w.heap.size, 0, none⟩ 1 1 [.int .i64 a] rfl rfl (one_cell_i _ _ _) (by intro x hx; simp at hx; subst hx; rfl) (by have := BD.out; unfold maxLen; omega) (by have := BD.out; omega) (by simp; omega) (by decide) ?_; intro u1 w1 h1 g1 o1; have kp := g1.block p (by simp; omega) (fun e => by have := (World.ownsRow.lt H.out.ou _ e.symm).1; omega); have kg := g1.block gv (by simp; omega) (fun e => H.out.ne gv rfl e.symm); have s2 : w1.cell? ⟨p, 2, none⟩ = some (.slice (some ⟨gv, 0, none⟩) (us.length + 1) cap) := (World.cell?_of_block kp).trans (by simp [go_sem, c2, hp]); have s3 : w1.cell? ⟨gv, us.length, none⟩ = some (.slice ao is.length capu) := (World.cell?_of_block kg).trans (by simp [go_sem, c3, zgv]); have s4 : w1.frozen? ⟨gv, us.length, none⟩ = false := (World.frozen?_of_block kg).trans (by simp [go_sem, f3, zgv]); obtain ⟨ao', cap', hu1⟩ := own_shape h1; subst hu1))
  all_goals (go_end0; exact ⟨rfl, _, mark_post H.out BD.out (by go_grown) g1 h1 o1⟩)
end Go.Proofs.YtlhklpnkelcnbaaGreatDoor

namespace Go.Proofs.YtlhklpnkelcnbaaGreatDoor
open Go.RowKit

/-- A box of seven cells. -/
structure B7 (w : World) (g : Nat) (a0 a1 a2 a3 a4 a5 a6 : Value) : Prop where
  c0 : w.cell? ⟨g, 0, none⟩ = some a0
  c1 : w.cell? ⟨g, 1, none⟩ = some a1
  c2 : w.cell? ⟨g, 2, none⟩ = some a2
  c3 : w.cell? ⟨g, 3, none⟩ = some a3
  c4 : w.cell? ⟨g, 4, none⟩ = some a4
  c5 : w.cell? ⟨g, 5, none⟩ = some a5
  c6 : w.cell? ⟨g, 6, none⟩ = some a6
  f0 : w.frozen? ⟨g, 0, none⟩ = false
  f1 : w.frozen? ⟨g, 1, none⟩ = false
  f2 : w.frozen? ⟨g, 2, none⟩ = false
  f3 : w.frozen? ⟨g, 3, none⟩ = false
  f4 : w.frozen? ⟨g, 4, none⟩ = false
  f5 : w.frozen? ⟨g, 5, none⟩ = false
  f6 : w.frozen? ⟨g, 6, none⟩ = false
  lt : g < w.heap.size
theorem B7.kept {w w' : World} {g : Nat} {a0 a1 a2 a3 a4 a5 a6 : Value} (h : B7 w g a0 a1 a2 a3 a4 a5 a6) (e : w'.heap[g]? = w.heap[g]?) (hz : w.heap.size ≤ w'.heap.size) : B7 w' g a0 a1 a2 a3 a4 a5 a6 :=
  ⟨(World.cell?_of_block (w := w) e).trans h.c0, (World.cell?_of_block (w := w) e).trans h.c1, (World.cell?_of_block (w := w) e).trans h.c2, (World.cell?_of_block (w := w) e).trans h.c3, (World.cell?_of_block (w := w) e).trans h.c4, (World.cell?_of_block (w := w) e).trans h.c5, (World.cell?_of_block (w := w) e).trans h.c6,
   (World.frozen?_of_block (w := w) e).trans h.f0, (World.frozen?_of_block (w := w) e).trans h.f1, (World.frozen?_of_block (w := w) e).trans h.f2, (World.frozen?_of_block (w := w) e).trans h.f3, (World.frozen?_of_block (w := w) e).trans h.f4, (World.frozen?_of_block (w := w) e).trans h.f5, (World.frozen?_of_block (w := w) e).trans h.f6, Nat.lt_of_lt_of_le h.lt hz⟩
theorem B7.new (w : World) (t : TypeId) (a0 a1 a2 a3 a4 a5 a6 : Value) : B7 (w.alloc (.cells #[a0, a1, a2, a3, a4, a5, a6] t)) w.heap.size a0 a1 a2 a3 a4 a5 a6 := by
  constructor <;> first | (simp [go_sem]; done) | exact World.frozen?_alloc_at _ _ _ _ rfl
def fill7 (w : World) (g : Nat) (a0 a1 a2 a3 a4 a5 a6 : Value) : World := ((((((w.setCell ⟨g, 0, none⟩ a0).setCell ⟨g, 1, none⟩ a1).setCell ⟨g, 2, none⟩ a2).setCell ⟨g, 3, none⟩ a3).setCell ⟨g, 4, none⟩ a4).setCell ⟨g, 5, none⟩ a5).setCell ⟨g, 6, none⟩ a6
theorem fill7_size (w : World) (g : Nat) (a0 a1 a2 a3 a4 a5 a6 : Value) : (fill7 w g a0 a1 a2 a3 a4 a5 a6).heap.size = w.heap.size := by simp [fill7]
theorem Mov.fill7 {p : Nat} {w w' : World} (h : Mov p w w') {g : Nat} (hg : w.heap.size ≤ g) (a0 a1 a2 a3 a4 a5 a6 : Value) : Mov p w (fill7 w' g a0 a1 a2 a3 a4 a5 a6) :=
  ((((((h.set (a := ⟨g, 0, none⟩) hg _).set (a := ⟨g, 1, none⟩) hg _).set (a := ⟨g, 2, none⟩) hg _).set (a := ⟨g, 3, none⟩) hg _).set (a := ⟨g, 4, none⟩) hg _).set (a := ⟨g, 5, none⟩) hg _).set (a := ⟨g, 6, none⟩) hg _
theorem Rd.fill7 {w : World} {p b o cap : Nat} {ts : List Tok} {k : Nat} (h : Rd w p b o cap ts k) {g : Nat} (hp : g ≠ p) (hb : g ≠ b) (a0 a1 a2 a3 a4 a5 a6 : Value) : Rd (fill7 w g a0 a1 a2 a3 a4 a5 a6) p b o cap ts k :=
  ((((((h.set (a := ⟨g, 0, none⟩) hp hb _).set (a := ⟨g, 1, none⟩) hp hb _).set (a := ⟨g, 2, none⟩) hp hb _).set (a := ⟨g, 3, none⟩) hp hb _).set (a := ⟨g, 4, none⟩) hp hb _).set (a := ⟨g, 5, none⟩) hp hb _).set (a := ⟨g, 6, none⟩) hp hb _
theorem ExS.fill7 {A : Nat → Prop} {w : World} {sl : Value} {l : List Sx.Ex} (h : ExS A w sl l) {g : Nat} (ha : ¬ A g) (a0 a1 a2 a3 a4 a5 a6 : Value) : ExS A (Go.Proofs.YtlhklpnkelcnbaaGreatDoor.fill7 w g a0 a1 a2 a3 a4 a5 a6) sl l :=
  ((((((h.set (a := ⟨g, 0, Option.none⟩) ha _).set (a := ⟨g, 1, Option.none⟩) ha _).set (a := ⟨g, 2, Option.none⟩) ha _).set (a := ⟨g, 3, Option.none⟩) ha _).set (a := ⟨g, 4, Option.none⟩) ha _).set (a := ⟨g, 5, Option.none⟩) ha _).set (a := ⟨g, 6, Option.none⟩) ha _
theorem B7.fill {w : World} {g : Nat} {a0 a1 a2 a3 a4 a5 a6 : Value} (h : B7 w g a0 a1 a2 a3 a4 a5 a6) (b0 b1 b2 b3 b4 b5 b6 : Value) : B7 (fill7 w g b0 b1 b2 b3 b4 b5 b6) g b0 b1 b2 b3 b4 b5 b6 := by
  unfold fill7
  constructor
  all_goals simp [h.c0, h.c1, h.c2, h.c3, h.c4, h.c5, h.c6, h.f0, h.f1, h.f2, h.f3, h.f4, h.f5, h.f6, h.lt, go_sem]
def stV (kind : Int) (sl : Value) : Value := .agg #[.int .i64 kind, .string ⟨#[]⟩, .string ⟨#[]⟩, .int .i64 0, sl, .slice none 0 0, .slice none 0 0]
abbrev zS : Obj := .cells #[.int .i64 0, .string ⟨#[]⟩, .string ⟨#[]⟩, .int .i64 0, .slice none 0 0, .slice none 0 0, .slice none 0 0] 137
/-- A statement with one expression was read. -/
def TOk (p b o cap : Nat) (ts : List Tok) (kind : Int) (w : World) (y : Sx.Ex) (k' : Nat) (e : Ending) (w' : World) : Prop :=
  ∃ sa, e = .returned (stV kind (.slice sa 1 1)) ∧ ExS (fun g => w.heap.size ≤ g) w' (.slice sa 1 1) [y] ∧ Rd w' p b o cap ts k' ∧ k' < ts.length ∧ Mov p w w'
set_option maxRecDepth 100000 in
set_option maxHeartbeats 1000000 in
theorem told_ok (p b o cap : Nat) (ts : List Tok) (f : Nat) (he : EC p b o cap ts f) (kind : Int) (d k : Nat) (y : Sx.Ex) (k' : Nat) (w : World) (hd : d ≤ 60) (rd : Rd w p b o cap ts k) (hk : k < ts.length) (hr : Sx.bd ts f 1 (d + 1) k = some (.ok y k')) :
    Calls Tryz.prog 155 #[.pointer (some ⟨p, 0, none⟩), .int .i64 kind, .int .i64 (d : Int)] w (TOk p b o cap ts kind w y k') := by
  have hp : Hid (p < w.heap.size) := rd.lt
  have hb : Hid (b < w.heap.size) := rd.ta.lt
  have E1 : Hid (Calls Tryz.prog 32 #[.pointer (some ⟨p, 0, none⟩), .int .i64 ((d : Int) + 1)] (w.alloc zS) (Post p b o cap ts (w.alloc zS) (.ok y k'))) := he (d + 1) k (.ok y k') (w.alloc zS) (by omega) (rd.later (box_below _ _)) hk hr
  have hw1 : IntKind.i64.wrap ((d : Int) + 1) = (d : Int) + 1 := by rw [IntKind.wrap_i64]; omega
  clear rd hk hd hr he
  go_enter Tryz.func155, Tryz.ntmps155
  go_upto_region 1 with fail
  go_cut [] from 7 (fun wc => ∃ sl, B7 wc w.heap.size (.int .i64 kind) (.string ⟨#[]⟩) (.string ⟨#[]⟩) (.int .i64 0) sl (.slice none 0 0) (.slice none 0 0) ∧ TOk p b o cap ts kind w y k' (.returned (stV kind sl)) wc)
  case rest =>
    obtain ⟨sl, B, T⟩ := hcut
    have TT : Hid _ := T
    obtain ⟨c0, c1, c2, c3, c4, c5, c6, -, -, -, -, -, -, -, zt⟩ := B
    clear T
    go_wp2_with fail
    refine bodyPost_ret (v := .agg #[.int .i64 kind, .string ⟨#[]⟩, .string ⟨#[]⟩, .int .i64 0, sl, .slice none 0 0, .slice none 0 0]) (by simp [results, Tryz.results155, go_sem, c0, c1, c2, c3, c4, c5, c6]) rfl ?_
    exact TT.out
  case first =>
    go_wp2_with fail
    refine Calls.mono E1.out ?_
    obtain ⟨kk, nn, mm, ll⟩ := y
    rintro e w1 ⟨⟨v, rfl, sl, rfl, hs⟩, rd1, hk1, m1⟩
    obtain ⟨sa, sn, sc, rfl⟩ := hs.form
    have z1 : w.heap.size < w1.heap.size := Nat.lt_of_lt_of_le (by simp) m1.size
    have nw : ¬ w1.heap.size = w.heap.size := by omega
    have nw' : ¬ w.heap.size = w1.heap.size := by omega
    have R1 := (B7.new w 137 (.int .i64 0) (.string ⟨#[]⟩) (.string ⟨#[]⟩) (.int .i64 0) (.slice none 0 0) (.slice none 0 0) (.slice none 0 0)).kept (m1.block _ (by simp) (by have := hp.out; omega)) m1.size
    have PB : Hid (∀ t : TypeId, ∃ sl, B7 ((fill7 w1 w.heap.size (.int .i64 kind) (.string ⟨#[]⟩) (.string ⟨#[]⟩) (.int .i64 0) (.slice (some ⟨w1.heap.size, 0, none⟩) 1 1) (.slice none 0 0) (.slice none 0 0)).alloc (.cells #[.int .i64 kk, .string ⟨nn.toArray⟩, .int .i64 mm, .slice sa sn sc] t)) w.heap.size (.int .i64 kind) (.string ⟨#[]⟩) (.string ⟨#[]⟩) (.int .i64 0) sl (.slice none 0 0) (.slice none 0 0) ∧ TOk p b o cap ts kind w (.mk kk nn mm ll) k' (.returned (stV kind sl)) ((fill7 w1 w.heap.size (.int .i64 kind) (.string ⟨#[]⟩) (.string ⟨#[]⟩) (.int .i64 0) (.slice (some ⟨w1.heap.size, 0, none⟩) 1 1) (.slice none 0 0) (.slice none 0 0)).alloc (.cells #[.int .i64 kk, .string ⟨nn.toArray⟩, .int .i64 mm, .slice sa sn sc] t))) := by
      intro t
      refine ⟨_, (R1.fill _ _ _ _ _ _ _).kept (by have := (box_below (fill7 w1 w.heap.size (.int .i64 kind) (.string ⟨#[]⟩) (.string ⟨#[]⟩) (.int .i64 0) (.slice (some ⟨w1.heap.size, 0, none⟩) 1 1) (.slice none 0 0) (.slice none 0 0)) (.cells #[.int .i64 kk, .string ⟨nn.toArray⟩, .int .i64 mm, .slice sa sn sc] t)).block w.heap.size (by rw [fill7_size]; exact z1); exact this) (by simp), _, rfl, ?_, (rd1.fill7 (by have := hp.out; omega) (by have := hb.out; omega) _ _ _ _ _ _ _).later (box_below _ _), hk1, (((Mov.of_below (box_below w zS)).trans m1).fill7 (Nat.le_refl _) _ _ _ _ _ _ _).alloc _⟩
      have e := ((hs.mono (A' := fun g => w.heap.size < g) fun g _ hg => by simp at hg; omega).fill7 (g := w.heap.size) (Nat.lt_irrefl _) (.int .i64 kind) (.string ⟨#[]⟩) (.string ⟨#[]⟩) (.int .i64 0) (.slice (some ⟨w1.heap.size, 0, none⟩) 1 1) (.slice none 0 0) (.slice none 0 0)).one (by rw [fill7_size]; exact z1) kk nn mm t
      rw [fill7_size] at e
      exact e.mono fun g _ hg => Nat.le_of_lt hg
    obtain ⟨c0, c1, c2, c3, c4, c5, c6, f0, f1, f2, f3, f4, f5, f6, zt⟩ := R1
    clear hs rd1 hk1 m1 E1
    go_wp2_with fail
    go_meet
    case rel => exact PB.out _
end Go.Proofs.YtlhklpnkelcnbaaGreatDoor

namespace Go.Proofs.YtlhklpnkelcnbaaGreatDoor
open Go.RowKit

set_option maxRecDepth 100000 in
set_option maxHeartbeats 1000000 in
theorem closed_ok (p b o cap : Nat) (ts : List Tok) (gd : Good ts) (k0 : Int) (n1 n2 : List UInt8) (k3 : Int) (s4 s5 s6 : Option Addr) (l4 l5 l6 c4 c5 c6 : Nat) (k : Nat) (w : World) (rd : Rd w p b o cap ts k) (hk : k < ts.length) (ht : Sx.tx ts k = [59]) :
    Calls Tryz.prog 150 #[.pointer (some ⟨p, 0, none⟩), .agg #[.int .i64 k0, .string ⟨n1.toArray⟩, .string ⟨n2.toArray⟩, .int .i64 k3, .slice s4 l4 c4, .slice s5 l5 c5, .slice s6 l6 c6]] w fun e w' =>
      e = .returned (.agg #[.int .i64 k0, .string ⟨n1.toArray⟩, .string ⟨n2.toArray⟩, .int .i64 k3, .slice s4 l4 c4, .slice s5 l5 c5, .slice s6 l6 c6]) ∧ Rd w' p b o cap ts (k + 1) ∧ k + 1 < ts.length ∧ Mov p w w' := by
  have hp : Hid (p < w.heap.size) := rd.lt
  have hb : Hid (b < w.heap.size) := rd.ta.lt
  have hk2 : Hid (k + 1 < ts.length) := gd.next hk (fun e => by unfold Sx.tx at ht; rw [e] at ht; exact absurd ht (by decide))
  let o1 : Obj := .cells #[.int .i64 k0, .string ⟨n1.toArray⟩, .string ⟨n2.toArray⟩, .int .i64 k3, .slice s4 l4 c4, .slice s5 l5 c5, .slice s6 l6 c6] 137
  have bV : Below w.heap.size w ((w.alloc o1).alloc zS) := by go_grown
  have E1 : Hid _ := must_yes ((w.alloc o1).alloc zS) p b o cap ts k (ts.getD k tok0) [59] ⟨rd.later bV, hk, rfl⟩ gd.len ht
  have BV : Hid _ := bV
  have X1 : Hid (B7 ((w.alloc o1).alloc zS) w.heap.size (.int .i64 k0) (.string ⟨n1.toArray⟩) (.string ⟨n2.toArray⟩) (.int .i64 k3) (.slice s4 l4 c4) (.slice s5 l5 c5) (.slice s6 l6 c6)) := (B7.new w 137 _ _ _ _ _ _ _).kept ((box_below (w.alloc o1) zS).block _ (by simp)) (by simp)
  have X2 : Hid (B7 ((w.alloc o1).alloc zS) (w.heap.size + 1) (.int .i64 0) (.string ⟨#[]⟩) (.string ⟨#[]⟩) (.int .i64 0) (.slice none 0 0) (.slice none 0 0) (.slice none 0 0)) := by
    have e := B7.new (w.alloc o1) 137 (.int .i64 0) (.string ⟨#[]⟩) (.string ⟨#[]⟩) (.int .i64 0) (.slice none 0 0) (.slice none 0 0) (.slice none 0 0)
    rw [World.size_alloc] at e
    exact e
  clear rd hk ht gd bV
  go_enter Tryz.func150, Tryz.ntmps150
  go_wp2_with fail
  refine Calls.mono E1.out ?_
  rintro e w1 ⟨rfl, m1, r1⟩
  have z1 : w.heap.size + 1 < w1.heap.size := Nat.lt_of_lt_of_le (by simp) m1.size
  have Y1 := X1.out.kept (m1.block _ (by simp; omega) (by have := hp.out; omega)) m1.size
  have Y2 := X2.out.kept (m1.block _ (by simp) (by have := hp.out; omega)) m1.size
  have M1 : Hid (Mov p w w1) := (Mov.of_below BV.out).trans m1
  have R1 : Hid _ := r1
  have Y2' : Hid _ := Y2
  clear m1 r1 E1 X1 X2 BV
  obtain ⟨x0, x1, x2, x3, x4, x5, x6, -, -, -, -, -, -, -, -⟩ := Y1
  obtain ⟨y0, y1, y2, y3, y4, y5, y6, f0, f1, f2, f3, f4, f5, f6, zt⟩ := Y2
  go_upto_region 2 with fail
  go_cut [] from 5 (fun wc => B7 wc (w.heap.size + 1) (.int .i64 k0) (.string ⟨n1.toArray⟩) (.string ⟨n2.toArray⟩) (.int .i64 k3) (.slice s4 l4 c4) (.slice s5 l5 c5) (.slice s6 l6 c6) ∧ Rd wc p b o cap ts (k + 1) ∧ Mov p w wc)
  case rest =>
    obtain ⟨B, rr, mm⟩ := hcut
    have RR : Hid _ := rr
    have MM : Hid _ := mm
    clear rr mm x0 x1 x2 x3 x4 x5 x6 y0 y1 y2 y3 y4 y5 y6 f0 f1 f2 f3 f4 f5 f6 zt
    obtain ⟨q0, q1, q2, q3, q4, q5, q6, -, -, -, -, -, -, -, zt⟩ := B
    go_wp2_with fail
    refine bodyPost_ret (v := .agg #[.int .i64 k0, .string ⟨n1.toArray⟩, .string ⟨n2.toArray⟩, .int .i64 k3, .slice s4 l4 c4, .slice s5 l5 c5, .slice s6 l6 c6]) (by simp [results, Tryz.results150, go_sem, q0, q1, q2, q3, q4, q5, q6]) rfl ?_
    exact ⟨rfl, RR.out, hk2.out, MM.out⟩
  case first =>
    go_wp2_with fail
    go_meet
    case rel => exact ⟨Y2'.out.fill _ _ _ _ _ _ _, R1.out.fill7 (by have := hp.out; omega) (by have := hb.out; omega) _ _ _ _ _ _ _, M1.out.fill7 (by omega) _ _ _ _ _ _ _⟩
set_option maxRecDepth 100000 in
set_option maxHeartbeats 400000 in
theorem name_ok (w : World) (p b o cap : Nat) (ts : List Tok) (k : Nat) (x : Tok) (h : Rn w p b o cap ts k x) (hl : ts.length ≤ 1000000) (hs : x.1.kind = 1) :
    Calls Tryz.prog 119 #[.pointer (some ⟨p, 0, none⟩)] w fun e w' => e = .returned (.string ⟨x.1.text.toArray⟩) ∧ Mov p w w' ∧ Rd w' p b o cap ts (k + 1) := by
  have H : Hid (Rn w p b o cap ts k x) := h
  have b1 : (x.1.kind != 1) = false := by rw [hs]; rfl
  have hwk : IntKind.i64.wrap ((k : Int) + 1) = (k : Int) + 1 := by have := h.hk; rw [IntKind.wrap_i64]; omega
  have hpw := h.rd.lt
  clear h hs hl
  go_enter Tryz.func119, Tryz.ntmps119
  go_wp2_with fail
  refine (now_any _ p b o cap ts k x H.out).mono ?_
  rintro e w1 ⟨rfl, bl⟩
  unfold tokA
  have H0 := (H.out.later bl).rd
  have r1 := H0.nx
  have f1 := H0.fz
  have hp1 := H0.lt
  have n1 : ¬ p = w1.heap.size := by omega
  have n2 : ¬ w1.heap.size = p := by omega
  have ST : Hid _ := H0.step
  have B1 : Hid _ := bl
  clear bl H0
  go_wp2_with fail
  go_ret
  exact ⟨rfl, ((Mov.of_below B1.out).trans ST.out.2).alloc _, ST.out.1.later (box_below _ _)⟩
end Go.Proofs.YtlhklpnkelcnbaaGreatDoor

namespace Go.Proofs.YtlhklpnkelcnbaaGreatDoor
open Go.RowKit

set_option maxRecDepth 100000 in
set_option maxHeartbeats 400000 in
theorem valueType_int (w : World) (p b o cap : Nat) (ts : List Tok) (k : Nat) (x : Tok) (h : Rn w p b o cap ts k x) (hl : ts.length ≤ 1000000) (hs : x.1.text = [105, 110, 116]) :
    Calls Tryz.prog 122 #[.pointer (some ⟨p, 0, none⟩)] w fun e w' => e = .returned (.int .i64 1) ∧ Mov p w w' ∧ Rd w' p b o cap ts (k + 1) := by
  have E1 : Hid _ := has_yes w p b o cap ts k x [105, 110, 116] h hl hs
  clear h hl hs
  go_enter Tryz.func122, Tryz.ntmps122
  go_wp2_with fail
  refine Calls.mono E1.out ?_
  rintro e w1 ⟨rfl, m1, r1⟩
  have M : Hid _ := (⟨m1, r1⟩ : Mov p w w1 ∧ Rd w1 p b o cap ts (k + 1))
  clear m1 r1
  go_wp2_with fail
  go_ret
  exact ⟨rfl, M.out⟩
set_option maxRecDepth 100000 in
set_option maxHeartbeats 400000 in
theorem valueType_bad (w : World) (p b o cap : Nat) (ts : List Tok) (k : Nat) (x : Tok) (h : Rn w p b o cap ts k x) (hs : ¬ x.1.text = [105, 110, 116]) (hs2 : ¬ x.1.text = [98, 111, 111, 108]) :
    Calls Tryz.prog 122 #[.pointer (some ⟨p, 0, none⟩)] w fun e w' => e = pan x.2 30 ∧ Below w.heap.size w w' := by
  have E1 : Hid _ := has_no w p b o cap ts k x [105, 110, 116] h hs
  have E2 : Hid (∀ W, Below w.heap.size w W → Calls Tryz.prog 107 #[.pointer (some ⟨p, 0, none⟩), .string ⟨#[98, 111, 111, 108]⟩] W fun e w' => e = pan x.2 30 ∧ Below W.heap.size W w') := fun W hW => must_no W p b o cap ts k x [98, 111, 111, 108] (h.later hW) hs2
  clear h hs hs2
  go_enter Tryz.func122, Tryz.ntmps122
  go_wp2_with fail
  refine Calls.mono E1.out ?_
  rintro e w1 ⟨rfl, b1⟩
  have B1 : Hid _ := b1
  clear b1
  go_wp2_with fail
  refine Calls.mono (E2.out _ B1.out) ?_
  rintro e w2 ⟨rfl, b2⟩
  exact ⟨rfl, rfl, B1.out.trans (b2.mono B1.out.size)⟩
/-- A box of two cells. -/
structure B2 (w : World) (g : Nat) (a0 a1 : Value) : Prop where
  c0 : w.cell? ⟨g, 0, none⟩ = some a0
  c1 : w.cell? ⟨g, 1, none⟩ = some a1
  f0 : w.frozen? ⟨g, 0, none⟩ = false
  f1 : w.frozen? ⟨g, 1, none⟩ = false
  lt : g < w.heap.size
theorem B2.kept {w w' : World} {g : Nat} {a0 a1 : Value} (h : B2 w g a0 a1) (e : w'.heap[g]? = w.heap[g]?) (hz : w.heap.size ≤ w'.heap.size) : B2 w' g a0 a1 :=
  ⟨(World.cell?_of_block (w := w) e).trans h.c0, (World.cell?_of_block (w := w) e).trans h.c1, (World.frozen?_of_block (w := w) e).trans h.f0, (World.frozen?_of_block (w := w) e).trans h.f1, Nat.lt_of_lt_of_le h.lt hz⟩
theorem B2.new (w : World) (t : TypeId) (a0 a1 : Value) : B2 (w.alloc (.cells #[a0, a1] t)) w.heap.size a0 a1 := by
  constructor <;> first | (simp [go_sem]; done) | exact World.frozen?_alloc_at _ _ _ _ rfl
set_option maxRecDepth 100000 in
set_option maxHeartbeats 1000000 in
theorem param_int (w : World) (p b o cap : Nat) (ts : List Tok) (gd : Good ts) (k : Nat) (rd : Rd w p b o cap ts k) (hk : k < ts.length) (hs : Sx.tx ts k = [105, 110, 116]) (hn : (ts.getD (k + 1) tok0).1.kind = 1) :
    Calls Tryz.prog 141 #[.pointer (some ⟨p, 0, none⟩)] w fun e w' => e = .returned (.agg #[.string ⟨(Sx.tx ts (k + 1)).toArray⟩, .int .i64 1]) ∧ Rd w' p b o cap ts (k + 2) ∧ k + 2 < ts.length ∧ Mov p w w' := by
  have hp : Hid (p < w.heap.size) := rd.lt
  have hb : Hid (b < w.heap.size) := rd.ta.lt
  have hk1 : k + 1 < ts.length := gd.next hk (fun e => by unfold Sx.tx at hs; rw [e] at hs; exact absurd hs (by decide))
  have hk2 : Hid (k + 2 < ts.length) := gd.next hk1 (fun e => by rw [e] at hn; exact absurd hn (by decide))
  have E1 : Hid (∀ W, Below w.heap.size w W → Calls Tryz.prog 122 #[.pointer (some ⟨p, 0, none⟩)] W fun e w' => e = .returned (.int .i64 1) ∧ Mov p W w' ∧ Rd w' p b o cap ts (k + 1)) := fun W hW => valueType_int W p b o cap ts k _ ⟨rd.later hW, hk, rfl⟩ gd.len hs
  obtain ⟨nm, hnm⟩ : ∃ nm, Sx.tx ts (k + 1) = nm := ⟨_, rfl⟩
  have E2 : Hid (∀ W, Rd W p b o cap ts (k + 1) → Calls Tryz.prog 119 #[.pointer (some ⟨p, 0, none⟩)] W fun e w' => e = .returned (.string ⟨nm.toArray⟩) ∧ Mov p W w' ∧ Rd w' p b o cap ts (k + 2)) := by
    intro W hW
    have e := name_ok W p b o cap ts (k + 1) _ ⟨hW, hk1, rfl⟩ gd.len hn
    unfold Sx.tx at hnm
    rw [hnm] at e
    exact e
  rw [hnm]
  clear rd hk hs hn gd hk1 hnm
  go_enter Tryz.func141, Tryz.ntmps141
  go_wp2_with fail
  refine Calls.mono (E1.out _ (box_below w _)) ?_
  rintro e w1 ⟨rfl, m1, r1⟩
  have R1 : Hid _ := (B2.new w 109 (.string ⟨#[]⟩) (.int .i64 0)).kept (m1.block _ (by simp) (by have := hp.out; omega)) m1.size
  have RD1 : Hid _ := r1
  have M1 : Hid (Mov p w w1) := (Mov.of_below (box_below w _)).trans m1
  clear r1 m1
  go_wp2_with fail
  refine Calls.mono (E2.out _ RD1.out) ?_
  rintro e w2 ⟨rfl, m2, r2⟩
  have R2 := R1.out.kept (m2.block _ R1.out.lt (by have := hp.out; omega)) m2.size
  have M2 : Hid (Mov p w w2) := M1.out.trans m2
  have RD2 : Hid _ := r2
  obtain ⟨c0, c1, f0, f1, zt⟩ := R2
  clear r2 m2
  go_wp2_with fail
  refine bodyPost_ret (v := .agg #[.string ⟨nm.toArray⟩, .int .i64 1]) (by simp [results, Tryz.results141, go_sem, c0, c1]) rfl ?_
  exact ⟨rfl, (RD2.out.set (by have := hp.out; simp only; omega) (by have := hb.out; simp only; omega) _).set (by have := hp.out; simp only; omega) (by have := hb.out; simp only; omega) _, hk2.out, (M2.out.set (by simp) _).set (by simp) _⟩
set_option maxRecDepth 100000 in
set_option maxHeartbeats 1000000 in
theorem param_bad (w : World) (p b o cap : Nat) (ts : List Tok) (k : Nat) (x : Tok) (h : Rn w p b o cap ts k x) (hs : ¬ x.1.text = [105, 110, 116]) (hs2 : ¬ x.1.text = [98, 111, 111, 108]) :
    Calls Tryz.prog 141 #[.pointer (some ⟨p, 0, none⟩)] w fun e w' => e = pan x.2 30 ∧ Below w.heap.size w w' := by
  have E1 : Hid (∀ W, Below w.heap.size w W → Calls Tryz.prog 122 #[.pointer (some ⟨p, 0, none⟩)] W fun e w' => e = pan x.2 30 ∧ Below W.heap.size W w') := fun W hW => valueType_bad W p b o cap ts k x (h.later hW) hs hs2
  clear h hs hs2
  go_enter Tryz.func141, Tryz.ntmps141
  go_wp2_with fail
  refine Calls.mono (E1.out _ (box_below w _)) ?_
  rintro e w1 ⟨rfl, b1⟩
  exact ⟨rfl, rfl, (box_below w _).trans (b1.mono (by simp))⟩
set_option maxRecDepth 100000 in
set_option maxHeartbeats 1000000 in
theorem params_none (w : World) (p b o cap : Nat) (ts : List Tok) (gd : Good ts) (k : Nat) (rd : Rd w p b o cap ts k) (hk : k < ts.length) (h0 : Sx.tx ts k = [40]) (h1 : Sx.tx ts (k + 1) = [41]) :
    Calls Tryz.prog 120 #[.pointer (some ⟨p, 0, none⟩)] w fun e w' => e = .returned (.slice none 0 0) ∧ Rd w' p b o cap ts (k + 2) ∧ k + 2 < ts.length ∧ Mov p w w' := by
  have hk1 : k + 1 < ts.length := gd.next hk (fun e => by unfold Sx.tx at h0; rw [e] at h0; exact absurd h0 (by decide))
  have hk2 : Hid (k + 2 < ts.length) := gd.next hk1 (fun e => by unfold Sx.tx at h1; rw [e] at h1; exact absurd h1 (by decide))
  have E1 : Hid _ := must_yes w p b o cap ts k _ [40] ⟨rd, hk, rfl⟩ gd.len h0
  have E2 : Hid (∀ W, Rd W p b o cap ts (k + 1) → Calls Tryz.prog 132 #[.pointer (some ⟨p, 0, none⟩), .string ⟨#[41]⟩] W fun e w' => e = .returned (.bool true) ∧ Mov p W w' ∧ Rd w' p b o cap ts (k + 2)) := fun W hW => has_yes W p b o cap ts (k + 1) _ [41] ⟨hW, hk1, rfl⟩ gd.len h1
  clear rd hk h0 h1 gd hk1
  go_enter Tryz.func120, Tryz.ntmps120
  go_wp2_with fail
  refine Calls.mono E1.out ?_
  rintro e w1 ⟨rfl, m1, r1⟩
  have M1 : Hid _ := m1
  have R1 : Hid _ := r1
  clear m1 r1
  go_wp2_with fail
  refine Calls.mono (E2.out _ R1.out) ?_
  rintro e w2 ⟨rfl, m2, r2⟩
  have P : Hid _ := (⟨r2, M1.out.trans m2⟩ : Rd w2 p b o cap ts (k + 2) ∧ Mov p w w2)
  clear m2 r2
  go_wp2_with fail
  go_ret
  exact ⟨rfl, P.out.1, hk2.out, P.out.2⟩
set_option maxRecDepth 100000 in
set_option maxHeartbeats 1000000 in
theorem params_bad (w : World) (p b o cap : Nat) (ts : List Tok) (gd : Good ts) (k : Nat) (x : Tok) (rd : Rd w p b o cap ts k) (hk : k < ts.length) (h0 : Sx.tx ts k = [40]) (h1 : Sx.tx ts (k + 1) = [105, 110, 116]) (h2 : (ts.getD (k + 2) tok0).1.kind = 1) (h3 : Sx.tx ts (k + 3) = [44]) (h4 : ts.getD (k + 4) tok0 = x) (hs : ¬ x.1.text = [105, 110, 116]) (hs2 : ¬ x.1.text = [98, 111, 111, 108]) :
    Calls Tryz.prog 120 #[.pointer (some ⟨p, 0, none⟩)] w fun e w' => e = pan x.2 30 ∧ Mov p w w' := by
  have hk1 : k + 1 < ts.length := gd.next hk (fun e => by unfold Sx.tx at h0; rw [e] at h0; exact absurd h0 (by decide))
  have hk2 : k + 2 < ts.length := gd.next hk1 (fun e => by unfold Sx.tx at h1; rw [e] at h1; exact absurd h1 (by decide))
  have hk3 : k + 3 < ts.length := gd.next hk2 (fun e => by rw [e] at h2; exact absurd h2 (by decide))
  have hk4 : k + 4 < ts.length := gd.next hk3 (fun e => by unfold Sx.tx at h3; rw [e] at h3; exact absurd h3 (by decide))
  have E1 : Hid _ := must_yes w p b o cap ts k _ [40] ⟨rd, hk, rfl⟩ gd.len h0
  have E2 : Hid (∀ W, Rd W p b o cap ts (k + 1) → Calls Tryz.prog 132 #[.pointer (some ⟨p, 0, none⟩), .string ⟨#[41]⟩] W fun e w' => e = .returned (.bool false) ∧ Below W.heap.size W w') := fun W hW => has_no W p b o cap ts (k + 1) _ [41] ⟨hW, hk1, rfl⟩ (fun e => by unfold Sx.tx at h1; rw [h1] at e; exact absurd e (by decide))
  have E3 : Hid (∀ W, Rd W p b o cap ts (k + 1) → Calls Tryz.prog 141 #[.pointer (some ⟨p, 0, none⟩)] W fun e w' => (∃ nm : List UInt8, e = .returned (.agg #[.string ⟨nm.toArray⟩, .int .i64 1])) ∧ Rd w' p b o cap ts (k + 3) ∧ Mov p W w') := fun W hW => (param_int W p b o cap ts gd (k + 1) hW hk1 h1 h2).mono fun e w' h => ⟨⟨_, h.1⟩, h.2.1, h.2.2.2⟩
  have E4 : Hid (∀ W, Rd W p b o cap ts (k + 3) → Calls Tryz.prog 132 #[.pointer (some ⟨p, 0, none⟩), .string ⟨#[44]⟩] W fun e w' => e = .returned (.bool true) ∧ Mov p W w' ∧ Rd w' p b o cap ts (k + 4)) := fun W hW => has_yes W p b o cap ts (k + 3) _ [44] ⟨hW, hk3, rfl⟩ gd.len h3
  have E5 : Hid (∀ W, Rd W p b o cap ts (k + 4) → Calls Tryz.prog 141 #[.pointer (some ⟨p, 0, none⟩)] W fun e w' => e = pan x.2 30 ∧ Below W.heap.size W w') := fun W hW => param_bad W p b o cap ts (k + 4) x ⟨hW, hk4, h4⟩ hs hs2
  clear rd hk h0 h1 h2 h3 h4 gd hk1 hk2 hk3 hk4 hs hs2
  go_enter Tryz.func120, Tryz.ntmps120
  go_wp2_with fail
  refine Calls.mono E1.out ?_
  rintro e w1 ⟨rfl, m1, r1⟩
  have M1 : Hid _ := m1
  have R1 : Hid _ := r1
  clear m1 r1
  go_wp2_with fail
  refine Calls.mono (E2.out _ R1.out) ?_
  rintro e w2 ⟨rfl, b2⟩
  have M2 : Hid _ := M1.out.below b2
  have R2 : Hid _ := R1.out.later b2
  clear b2
  go_wp2_with fail
  refine Calls.mono (E3.out _ R2.out) ?_
  rintro e w3 ⟨⟨nm, rfl⟩, r3, m3⟩
  have M3 : Hid _ := M2.out.trans m3
  have R3 : Hid _ := r3
  clear m3 r3
  go_wp2_with fail
  refine wp_loop_rounds 1 ?_
  rw [rounds_succ]
  go_wp2_with fail
  refine Calls.mono (E4.out _ (R3.out.later (box_below _ _))) ?_
  rintro e w4 ⟨rfl, m4, r4⟩
  have M4 : Hid _ := (M3.out.alloc _).trans m4
  have R4 : Hid _ := r4
  clear m4 r4
  go_wp2_with fail
  refine Calls.mono (E5.out _ R4.out) ?_
  rintro e w5 ⟨rfl, b5⟩
  exact ⟨rfl, rfl, M4.out.below b5⟩
end Go.Proofs.YtlhklpnkelcnbaaGreatDoor
