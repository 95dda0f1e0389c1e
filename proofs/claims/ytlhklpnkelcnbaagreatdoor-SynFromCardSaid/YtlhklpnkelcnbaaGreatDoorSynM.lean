/- Layer 3: the writer's small calls. -/
import Derived.Test.YtlhklpnkelcnbaaGreatDoorSynL
namespace Go.Proofs.YtlhklpnkelcnbaaGreatDoor
open Go.RowKit

/-- The writer in block q: its words are xs, in the slice v of its own; the deepest part so far is dp. -/
structure Wr (w : World) (q : Nat) (v : Value) (xs : List ByteArray) (dp : Nat) : Prop where
  c0 : w.cell? ⟨q, 0, none⟩ = some v
  c1 : w.cell? ⟨q, 1, none⟩ = some (.int .i64 (dp : Int))
  f0 : w.frozen? ⟨q, 0, none⟩ = false
  f1 : w.frozen? ⟨q, 1, none⟩ = false
  own : OwnS w (q + 1) v xs
  lt : q < w.heap.size
/-- Block g is none of the writer's. -/
def Frn (q : Nat) (w : World) (v : Value) (g : Nat) : Prop := g ≠ q ∧ ¬ v.ownBlock = some g ∧ ∃ cur t z, ¬ t = 9 ∧ w.heap[g]? = some (.cells cur t z)
/-- What writing turns. -/
structure WS (q : Nat) (w : World) (v : Value) (w' : World) (v' : Value) : Prop where
  os : w'.os = w.os
  tape : w'.tape = w.tape
  output : w'.output = w.output
  size : w.heap.size ≤ w'.heap.size
  low : ∀ k, k < q → w'.heap[k]? = w.heap[k]?
  far : ∀ g, Frn q w v g → w'.heap[g]? = w.heap[g]? ∧ ¬ v'.ownBlock = some g
theorem WS.refl (q : Nat) (w : World) (v : Value) : WS q w v w v := ⟨rfl, rfl, rfl, Nat.le_refl _, fun _ _ => rfl, fun _ h => ⟨rfl, h.2.1⟩⟩
theorem WS.frn {q : Nat} {w w' : World} {v v' : Value} (h : WS q w v w' v') {g : Nat} (hg : Frn q w v g) : Frn q w' v' g := by
  obtain ⟨a, b⟩ := h.far g hg
  obtain ⟨c, _, cur, t, z, ht, hh⟩ := hg
  exact ⟨c, b, cur, t, z, ht, a.trans hh⟩
theorem WS.trans {q : Nat} {w w' w'' : World} {v v' v'' : Value} (h : WS q w v w' v') (k : WS q w' v' w'' v'') : WS q w v w'' v'' :=
  ⟨k.os.trans h.os, k.tape.trans h.tape, k.output.trans h.output, Nat.le_trans h.size k.size, fun i hi => (k.low i hi).trans (h.low i hi), fun g hg => ⟨(k.far g (h.frn hg)).1.trans (h.far g hg).1, (k.far g (h.frn hg)).2⟩⟩
theorem WS.of_below {q : Nat} {w w' : World} {v : Value} (hq : q ≤ w.heap.size) (b : Below w.heap.size w w') : WS q w v w' v :=
  ⟨b.os, b.tape, b.output, b.size, fun k hk => b.block k (by omega), fun g hg => ⟨by
    obtain ⟨_, _, cur, t, z, _, hh⟩ := hg
    have hl : g < w.heap.size := by
      by_cases e : g < w.heap.size
      · exact e
      · rw [Array.getElem?_eq_none (by omega)] at hh; cases hh
    exact b.block g hl, hg.2.1⟩⟩
theorem WS.below {q : Nat} {w w' : World} {v v' : Value} (h : WS q w v w' v') : Below q w w' := ⟨h.os, h.tape, h.output, h.size, h.low⟩
theorem Frn.lt {q : Nat} {w : World} {v : Value} {g : Nat} (h : Frn q w v g) : g < w.heap.size := by
  obtain ⟨_, _, cur, t, z, _, hh⟩ := h
  by_cases e : g < w.heap.size
  · exact e
  · rw [Array.getElem?_eq_none (by omega)] at hh; cases hh
theorem Wr.later {w w' : World} {q : Nat} {v : Value} {xs : List ByteArray} {dp : Nat} (h : Wr w q v xs dp) (b : Below w.heap.size w w') : Wr w' q v xs dp :=
  ⟨(b.cell (p := ⟨q, 0, none⟩) h.lt).trans h.c0, (b.cell (p := ⟨q, 1, none⟩) h.lt).trans h.c1, (b.frozen (p := ⟨q, 0, none⟩) h.lt).trans h.f0, (b.frozen (p := ⟨q, 1, none⟩) h.lt).trans h.f1, h.own.later b, Nat.lt_of_lt_of_le h.lt b.size⟩
/-- A new box is none of the writer's. -/
theorem Wr.frn {w : World} {q : Nat} {v : Value} {xs : List ByteArray} {dp : Nat} (h : Wr w q v xs dp) (cur : Array Value) (t : TypeId) (ht : ¬ t = 9) : Frn q (w.alloc (.cells cur t)) v w.heap.size :=
  ⟨by have := h.lt; omega, fun e => by have := (World.ownsRow.lt h.own _ e).2; omega, cur, t, (0, 0), ht, by show (w.heap.push _)[w.heap.size]? = _; simp⟩
theorem Bx.far {q : Nat} {w w' : World} {v v' : Value} {g : Nat} {a0 a1 a2 a3 : Value} (h : Bx w g a0 a1 a2 a3) (s : WS q w v w' v') (hg : Frn q w v g) : Bx w' g a0 a1 a2 a3 := by
  have e := (s.far g hg).1
  exact ⟨(World.cell?_of_block (w := w) e).trans h.c0, (World.cell?_of_block (w := w) e).trans h.c1, (World.cell?_of_block (w := w) e).trans h.c2, (World.cell?_of_block (w := w) e).trans h.c3, (World.frozen?_of_block (w := w) e).trans h.f0, (World.frozen?_of_block (w := w) e).trans h.f1, (World.frozen?_of_block (w := w) e).trans h.f2, (World.frozen?_of_block (w := w) e).trans h.f3, Nat.lt_of_lt_of_le h.lt s.size⟩
set_option maxRecDepth 100000 in
set_option maxHeartbeats 1000000 in
theorem reach_any (q dp d : Nat) (v : Value) (xs : List ByteArray) (w : World) (h : Wr w q v xs dp) :
    Calls Tryz.prog 37 #[.pointer (some ⟨q, 0, none⟩), .int .i64 (d : Int)] w fun e w' => e = .returned (.tuple #[]) ∧ Wr w' q v xs (max dp d) ∧ WS q w v w' v := by
  have H : Hid _ := h
  have c0 := h.c0
  have c1 := h.c1
  have f1 := h.f1
  clear h
  by_cases hd : dp < d
  · have hi : (dp : Int) < (d : Int) := by omega
    have PB : Hid (Wr (w.setCell ⟨q, 1, none⟩ (.int .i64 (d : Int))) q v xs (max dp d) ∧ WS q w v (w.setCell ⟨q, 1, none⟩ (.int .i64 (d : Int))) v) := by
      rw [show max dp d = d by omega]
      refine ⟨⟨(World.cell?_setCell_other _ _ _ _ (by simp)).trans c0, World.cell?_setCell_same _ _ _ c1, by simpa using H.out.f0, by simpa using f1, ownsRow_setCell_below H.out.own (by simp) _, by simpa using H.out.lt⟩, ⟨rfl, rfl, rfl, by simp, fun k hk => heap_setCell_other w _ k _ (by simp only; omega), fun g hg => ⟨heap_setCell_other w _ g _ hg.1, hg.2.1⟩⟩⟩
    clear hd
    go_enter Tryz.func37, Tryz.ntmps37
    go_wp2_with fail
    go_end0
    exact ⟨rfl, PB.out⟩
  · have hi : ¬ ((dp : Int) < (d : Int)) := by omega
    have e : max dp d = dp := by omega
    rw [e]
    clear hd e
    go_enter Tryz.func37, Tryz.ntmps37
    go_wp2_with fail
    go_end0
    exact ⟨rfl, H.out, WS.refl _ _ _⟩
set_option maxRecDepth 100000 in
set_option maxHeartbeats 1000000 in
theorem boolWord_any (n : Int) (w : World) : Calls Tryz.prog 40 #[.int .i64 n] w fun e w' => e = .returned (.string ⟨(if n = 1 then [116, 114, 117, 101] else [102, 97, 108, 115, 101] : List UInt8).toArray⟩) ∧ w' = w := by
  by_cases h : n = 1
  · subst h
    go_enter Tryz.func40, Tryz.ntmps40
    go_wp2_with fail
    go_ret
    exact ⟨rfl, rfl⟩
  · rw [if_neg h]
    have b : (n == 1) = false := beq_eq_false_iff_ne.2 h
    clear h
    go_enter Tryz.func40, Tryz.ntmps40
    go_wp2_with fail
    go_ret
    exact ⟨rfl, rfl⟩
set_option maxRecDepth 100000 in
set_option maxHeartbeats 1000000 in
theorem put_any (q dp : Nat) (v : Value) (xs news : List ByteArray) (b c : Nat) (w : World) (h : Wr w q v xs dp) (hn : xs.length + news.length ≤ 1000000) (hs : ∀ j u, (news.map Value.string)[j]? = some u → w.cell? ((⟨b, 0, none⟩ : Addr).add j) = some u) :
    Calls Tryz.prog 38 #[.pointer (some ⟨q, 0, none⟩), .slice (some ⟨b, 0, none⟩) news.length c] w fun e w' => e = .returned (.tuple #[]) ∧ ∃ v', Wr w' q v' (xs ++ news) dp ∧ WS q w v w' v' := by
  have H : Hid _ := h
  have c0 := h.c0
  have f0 := h.f0
  have O1 := h.own
  have hl := h.lt
  obtain ⟨i0, hi, hz0, hz1, hz2⟩ := info_parts infoStr
  clear h
  go_enter Tryz.func38, Tryz.ntmps38
  go_wp2_with (at_builtin; refine wpList_append_own _ rfl _ _ 32 rfl (q + 1) 9 i0 (.string ⟨#[]⟩) 1 16 Tryz.underlying32 hi hz0 hz1 hz2 rfl (by decide) _ _ _ rfl O1 ⟨b, 0, none⟩ news.length c (news.map Value.string) rfl (by simp) hs (by intro u hu; obtain ⟨x, -, rfl⟩ := List.mem_map.1 hu; rfl) (by unfold maxLen; omega) (by omega) hl ?_)
  intro v1 w1 h1 g1 _
  have hq : some q ≠ v.ownBlock := fun e => by have := (World.ownsRow.lt H.out.own _ e.symm).1; omega
  have hq1 := g1.block q hl hq
  have c0' : w1.cell? ⟨q, 0, none⟩ = some v := (World.cell?_of_block (w := w) hq1).trans c0
  have f0' : w1.frozen? ⟨q, 0, none⟩ = false := (World.frozen?_of_block (w := w) hq1).trans f0
  have O2 : OwnS w1 (q + 1) v1 (xs ++ news) := by unfold OwnS; rw [List.length_append, List.map_append]; exact h1
  obtain ⟨ao, cap, hv1⟩ := O2.shape
  have PB : Hid (Wr (w1.setCell ⟨q, 0, none⟩ v1) q v1 (xs ++ news) dp ∧ WS q w v (w1.setCell ⟨q, 0, none⟩ v1) v1) := by
    refine ⟨⟨World.cell?_setCell_same _ _ _ c0', (World.cell?_setCell_other _ _ _ _ (by simp)).trans ((World.cell?_of_block (w := w) hq1).trans H.out.c1), by simpa using f0', ?_, ownsRow_setCell_below O2 (by simp) _, by have := g1.size; simp; omega⟩, ⟨g1.os, g1.tape, g1.output, by simpa using g1.size, fun k hk => (heap_setCell_other w1 _ k _ (by simp only; omega)).trans (g1.block k (by omega) (fun e => by have := (World.ownsRow.lt H.out.own _ e.symm).1; omega)), fun g hg => ?_⟩⟩
    · have := (World.frozen?_of_block (w := w) (a := ⟨q, 1, none⟩) hq1).trans H.out.f1
      simpa using this
    · have e1 := g1.block g hg.lt (fun e => hg.2.1 e.symm)
      refine ⟨(heap_setCell_other w1 _ g _ hg.1).trans e1, fun e => ?_⟩
      obtain ⟨_, _, cur, t, z, ht, hh⟩ := hg
      rcases h1.2 with ⟨rfl, _⟩ | ⟨g', cap', cur', rfl, _, hh', _⟩
      · cases e
      · cases e
        rw [e1, hh] at hh'
        cases hh'
        exact ht rfl
  clear h1 g1 hq hq1 O2 O1 hs
  rw [List.length_append] at hv1
  subst hv1
  go_wp2_with fail
  go_end0
  exact ⟨rfl, _, PB.out⟩
end Go.Proofs.YtlhklpnkelcnbaaGreatDoor
