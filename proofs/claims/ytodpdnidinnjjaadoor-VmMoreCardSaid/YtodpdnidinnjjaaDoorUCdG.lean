/- Layer 8: the climber with its heights and the places that wait, in memory; reach. -/
import Derived.Test.YtodpdnidinnjjaaDoorUCdD
import Derived.Test.YtodpdnidinnjjaaDoorUCdCl
import Derived.OneCell
namespace Go.Proofs.YtodpdnidinnjjaaDoor
open Go.RowKit
set_option linter.unusedVariables false

theorem cInt : (Tryd.prog.info? 3).map (fun i => (i.zero, i.size, i.bytes)) = some (some (.int .i64 0), 1, 8) := by kernel_rfl
/-- Numbers as cells. -/
abbrev nC (l : List Int) : List Value := l.map (Value.int .i64 ·)
theorem own_lat {w w' : World} {base size n : Nat} {e : TypeId} {v : Value} {xs : List Value} (h : w.ownsRow base e size v n xs) (hb : Below w.heap.size w w') : w'.ownsRow base e size v n xs :=
  World.ownsRow.kept h (row := none) ⟨hb.os, hb.tape, hb.output, hb.size, fun k hk _ => hb.block k hk⟩ (by
    rcases h.2 with ⟨rfl, _⟩ | ⟨g, cap, cur, rfl, _⟩
    · exact .inl rfl
    · exact .inr (by simp [Value.ownBlock]))
theorem own_shp {w : World} {base size n : Nat} {e : TypeId} {v : Value} {xs : List Value} (h : w.ownsRow base e size v n xs) : ∃ ao c, v = .slice ao n c := by
  rcases h.2 with ⟨rfl, rfl⟩ | ⟨g, cap, cur, rfl, _⟩
  · exact ⟨_, _, rfl⟩
  · exact ⟨_, _, rfl⟩
/-- The climber: its block p, its heights' block gh, the row of places that wait. -/
structure ClS (B : Nat) (w : World) (p gh : Nat) (la : Option Addr) (lc : Nat) (l : List Cd.Co) (ia : Option Addr) (ic : Nat) (c : Cd.Co) (hs ws : List Int) (wv : Value) : Prop where
  a : ClA B w p la lc l ia ic c (.slice (some ⟨gh, 0, none⟩) c.ins.length c.ins.length) wv
  hh : w.heap[gh]? = some (.cells (nC hs).toArray 3 (0, 0))
  hl : hs.length = c.ins.length
  ww : w.ownsRow (gh + 1) 3 1 wv ws.length (nC ws)
  pg : p < gh
  bp : B ≤ p
theorem ClS.later {B : Nat} {w w' : World} {p gh : Nat} {la : Option Addr} {lc : Nat} {l : List Cd.Co} {ia : Option Addr} {ic : Nat} {c : Cd.Co} {hs ws : List Int} {wv : Value} (h : ClS B w p gh la lc l ia ic c hs ws wv) (b : Below w.heap.size w w') : ClS B w' p gh la lc l ia ic c hs ws wv :=
  ⟨h.a.later b, (b.block gh (Array.getElem?_eq_some_iff.1 h.hh).1).trans h.hh, h.hl, own_lat h.ww b, h.pg, h.bp⟩
theorem ClS.ghl {B : Nat} {w : World} {p gh : Nat} {la : Option Addr} {lc : Nat} {l : List Cd.Co} {ia : Option Addr} {ic : Nat} {c : Cd.Co} {hs ws : List Int} {wv : Value} (h : ClS B w p gh la lc l ia ic c hs ws wv) : gh < w.heap.size := (Array.getElem?_eq_some_iff.1 h.hh).1
theorem ClS.hat {B : Nat} {w : World} {p gh : Nat} {la : Option Addr} {lc : Nat} {l : List Cd.Co} {ia : Option Addr} {ic : Nat} {c : Cd.Co} {hs ws : List Int} {wv : Value} (h : ClS B w p gh la lc l ia ic c hs ws wv) {q : Nat} {x : Int} (e : hs[q]? = some x) : w.cell? ⟨gh, q, none⟩ = some (.int .i64 x) ∧ w.frozen? ⟨gh, q, none⟩ = false := by
  constructor
  · simp [World.cell?, h.hh, e]
  · simp [World.frozen?, h.hh]
theorem nC_set (hs : List Int) (q : Nat) (x : Int) : ((nC hs).toArray.setIfInBounds q (.int .i64 x)) = (nC (hs.set q x)).toArray := by
  rw [List.setIfInBounds_toArray]
  simp [nC, List.map_set]
theorem oneB {base : Nat} {w : World} {o : Obj} (h : base ≤ w.heap.size) : Below base w (w.alloc o) := (Below.refl _ _).alloc h _
/-- A height more, and a place more that waits: behind the store, the append and the store. -/
theorem ClS.push {B : Nat} {w w2 : World} {o : Obj} {p gh : Nat} {la : Option Addr} {lc : Nat} {l : List Cd.Co} {ia : Option Addr} {ic : Nat} {c : Cd.Co} {hs ws : List Int} {wv v2 : Value} (h : ClS B w p gh la lc l ia ic c hs ws wv) (q : Nat) (x : Int)
    (h2 : w2.ownsRow (gh + 1) 3 1 v2 (ws.length + 1) (nC ws ++ [.int .i64 (q : Int)])) (g2 : ((w.setCell ⟨gh, q, none⟩ (.int .i64 x)).alloc o).grownBy w2 wv.ownBlock) :
    ClS B (w2.setCell ⟨p, 6, none⟩ v2) p gh la lc l ia ic c (hs.set q x) (ws ++ [(q : Int)]) v2 ∧ Below p w (w2.setCell ⟨p, 6, none⟩ v2) ∧ w2.heap[p]? = w.heap[p]? ∧ w2.heap[gh]? = some (.cells (nC (hs.set q x)).toArray 3 (0, 0)) := by
  have pl := h.a.cl.lt
  have gl := h.ghl
  have hpg := h.pg
  have np : ∀ k, k ≤ gh → ¬ some k = wv.ownBlock := fun k hk e => by have := (World.ownsRow.lt h.ww k e.symm).1; omega
  have kb : ∀ k, k < w.heap.size → k ≤ gh → w2.heap[k]? = (w.setCell ⟨gh, q, none⟩ (.int .i64 x)).heap[k]? := fun k hk hg => by
    have e1 := g2.block k (by simp; omega) (np k hg)
    rw [e1]
    exact (oneB (base := (w.setCell ⟨gh, q, none⟩ (.int .i64 x)).heap.size) (Nat.le_refl _)).block k (by simp; omega)
  have kp : w2.heap[p]? = w.heap[p]? := (kb p pl (by omega)).trans (heap_setCell_other w _ p _ (by simp; omega))
  have kg : w2.heap[gh]? = some (.cells (nC (hs.set q x)).toArray 3 (0, 0)) := by
    rw [kb gh gl (Nat.le_refl _), heap_setCell_same _ _ _ _ _ _ h.hh, nC_set]
  have bp : Below p w (w2.setCell ⟨p, 6, none⟩ v2) := ⟨g2.os, g2.tape, g2.output, by have := g2.size; simp at this ⊢; omega, fun k hk => by
    rw [heap_setCell_other w2 _ k _ (by simp; omega), kb k (by omega) (by omega), heap_setCell_other w _ k _ (by simp; omega)]⟩
  have n2 : ¬ v2.ownBlock = some p := fun e => by have := (World.ownsRow.lt h2 _ e).1; omega
  refine ⟨⟨⟨Nat.le_trans h.a.hB bp.size, ?_, h.a.co.later (bp.mono h.bp), h.a.ok, h.a.tn.later (bp.mono h.bp), h.a.tm.later (bp.mono h.bp), h.a.is.later (bp.mono h.bp), h.a.ck⟩, ?_, by simp [h.hl], ?_, hpg, h.bp⟩, bp, kp, kg⟩
  · have := h.a.cl
    unfold Clm at this ⊢
    exact heap_setCell_same _ _ _ _ _ _ (kp.trans this)
  · rw [heap_setCell_other w2 _ gh _ (by simp; omega)]
    exact kg
  · have e : nC (ws ++ [(q : Int)]) = nC ws ++ [.int .i64 (q : Int)] := by simp [nC]
    rw [e, List.length_append]
    exact ownsRow_setCell_other h2 n2 _
/-- What comes of reaching a place. -/
def RcP (B : Nat) (p gh : Nat) (la : Option Addr) (lc : Nat) (l : List Cd.Co) (ia : Option Addr) (ic : Nat) (c : Cd.Co) (w : World) (b : Bool) (hs ws : List Int) (e : Ending) (w' : World) : Prop :=
  e = .returned (.bool b) ∧ Below p w w' ∧ ∃ wv, ClS B w' p gh la lc l ia ic c hs ws wv
set_option maxRecDepth 100000 in
set_option maxHeartbeats 4000000 in
theorem cdReach_no (q h : Int) (B p gh : Nat) (la : Option Addr) (lc : Nat) (l : List Cd.Co) (ia : Option Addr) (ic : Nat) (c : Cd.Co) (hs ws : List Int) (wv : Value) (w : World) (H : ClS B w p gh la lc l ia ic c hs ws wv) (hn : (c.ins.length : Int) ≤ q ∨ 4096 < h) :
    Calls Tryd.prog 99 #[.pointer (some ⟨p, 0, none⟩), .int .i64 q, .int .i64 h] w (RcP B p gh la lc l ia ic c w false hs ws) := by
  have p1 := H.a.cl.cell.2.1
  have HH : Hid (ClS B w p gh la lc l ia ic c hs ws wv) := H
  clear H
  by_cases h1 : (c.ins.length : Int) ≤ q
  · clear hn
    generalize c.ins.length = n at p1 h1
    go_enter Tryd.func99, Tryd.ntmps99
    go_wp2_with fail
    go_ret
    exact ⟨rfl, Below.refl _ _, _, HH.out⟩
  · have h2 : 4096 < h := by omega
    clear hn
    generalize c.ins.length = n at p1 h1
    go_enter Tryd.func99, Tryd.ntmps99
    go_wp2_with fail
    go_ret
    exact ⟨rfl, Below.refl _ _, _, HH.out⟩
set_option maxRecDepth 100000 in
set_option maxHeartbeats 4000000 in
theorem cdReach_old (q : Nat) (h x : Int) (B p gh : Nat) (la : Option Addr) (lc : Nat) (l : List Cd.Co) (ia : Option Addr) (ic : Nat) (c : Cd.Co) (hs ws : List Int) (wv : Value) (w : World) (H : ClS B w p gh la lc l ia ic c hs ws wv) (hx : hs[q]? = some x) (h1 : h ≤ 4096) (h2 : x ≠ -1) :
    Calls Tryd.prog 99 #[.pointer (some ⟨p, 0, none⟩), .int .i64 q, .int .i64 h] w (RcP B p gh la lc l ia ic c w (x == h) hs ws) := by
  have p1 := H.a.cl.cell.2.1
  have p5 := H.a.cl.cell.2.2.2.2.2.1
  have c0 := (H.hat hx).1
  have ql : q < c.ins.length := by rw [← H.hl]; exact (List.getElem?_eq_some_iff.1 hx).1
  have HH : Hid (ClS B w p gh la lc l ia ic c hs ws wv) := H
  have e1 : (x == -1) = false := beq_eq_false_iff_ne.2 h2
  clear H hx h2
  generalize c.ins.length = n at p1 p5 ql
  have g1 : (q : Int) < (n : Int) := by omega
  have g0 : (0 : Int) ≤ (q : Int) := by omega
  go_enter Tryd.func99, Tryd.ntmps99
  go_wp2_with fail
  go_ret
  exact ⟨rfl, Below.refl _ _, _, HH.out⟩
set_option maxRecDepth 100000 in
set_option maxHeartbeats 4000000 in
theorem cdReach_new (q : Nat) (h : Int) (B p gh : Nat) (la : Option Addr) (lc : Nat) (l : List Cd.Co) (ia : Option Addr) (ic : Nat) (c : Cd.Co) (hs ws : List Int) (wv : Value) (w : World) (H : ClS B w p gh la lc l ia ic c hs ws wv) (hx : hs[q]? = some (-1)) (h1 : h ≤ 4096) (hw : ws.length ≤ 1000000) :
    Calls Tryd.prog 99 #[.pointer (some ⟨p, 0, none⟩), .int .i64 q, .int .i64 h] w (RcP B p gh la lc l ia ic c w true (hs.set q h) (ws ++ [(q : Int)])) := by
  obtain ⟨i0, hi, hz0, hz1, hz2⟩ := info_parts cInt
  have p1 := H.a.cl.cell.2.1
  have p5 := H.a.cl.cell.2.2.2.2.2.1
  have p6 := H.a.cl.cell.2.2.2.2.2.2
  have fp := H.a.cl.frozen 6
  have c0 := (H.hat hx).1
  have f0 := (H.hat hx).2
  have ql : q < c.ins.length := by rw [← H.hl]; exact (List.getElem?_eq_some_iff.1 hx).1
  have pl := H.a.cl.lt
  have gl := H.ghl
  have hpg : ¬ p = gh := by have := H.pg; omega
  have hgp : ¬ gh = p := by have := H.pg; omega
  have HH : Hid (ClS B w p gh la lc l ia ic c hs ws wv) := H
  have HX : Hid (hs[q]? = some (-1)) := hx
  have HO : Hid (w.ownsRow (gh + 1) 3 1 wv ws.length (nC ws)) := H.ww
  have HW : Hid (ws.length ≤ 1000000) := hw
  clear H hx hw
  generalize hnn : c.ins.length = n at p1 p5 ql
  have HNN : Hid (c.ins.length = n) := hnn
  clear hnn
  have g1 : (q : Int) < (n : Int) := by omega
  have g0 : (0 : Int) ≤ (q : Int) := by omega
  obtain ⟨W1, hW1⟩ : ∃ W1, W1 = w.setCell ⟨gh, q, none⟩ (.int .i64 h) := ⟨_, rfl⟩
  have ho1 : W1.ownsRow (gh + 1) 3 1 wv ws.length (nC ws) := by rw [hW1]; exact ownsRow_setCell_below HO.out (by simp) _
  have y6 : W1.cell? ⟨p, 6, none⟩ = some wv := by rw [hW1, World.cell?_setCell_other _ _ _ _ (by simp)]; exact p6
  have y1 : gh < W1.heap.size := by rw [hW1]; simpa using gl
  have HW1 : Hid (W1 = w.setCell ⟨gh, q, none⟩ (.int .i64 h)) := hW1
  go_enter Tryd.func99, Tryd.ntmps99
  go_upto_region 5 with fail
  rw [← hW1]
  clear hW1
  go_wp2_with (at_builtin; refine wpList_append_own _ rfl _ _ 101 rfl (gh + 1) 3 i0 (.int .i64 0) 1 8 Tryd.underlying101 hi hz0 hz1 hz2 rfl (by decide) _ _ _ rfl (World.ownsRow.alloc ho1 _) ⟨W1.heap.size, 0, none⟩ 1 1 [.int .i64 (q : Int)] rfl (by simp) ?c1 ?c2 ?c3 ?c4 ?c5 ?_)
  case c1 =>
    intro j u hj
    match j, hj with
    | 0, hj => simp at hj; subst hj; simp [Addr.add]
  case c2 => intro u hu; simp at hu; subst hu; rfl
  case c3 => have := HW.out; unfold maxLen; omega
  case c4 => have := HW.out; omega
  case c5 => simp; omega
  intro v' w2 hown' hgrow _
  obtain ⟨ao, cc, rfl⟩ := own_shp hown'
  rw [HW1.out] at hgrow
  obtain ⟨R, RB, kp, kg⟩ := HH.out.push q h hown' hgrow
  have z5 : w2.cell? ⟨p, 5, none⟩ = some (.slice (some ⟨gh, 0, none⟩) n n) := (World.cell?_of_block (w := w) (a := ⟨p, 5, none⟩) kp).trans p5
  have z6 : w2.cell? ⟨p, 6, none⟩ = some wv := (World.cell?_of_block (w := w) (a := ⟨p, 6, none⟩) kp).trans p6
  have zf : w2.frozen? ⟨p, 6, none⟩ = false := (World.frozen?_of_block (w := w) (a := ⟨p, 6, none⟩) kp).trans fp
  have zg : w2.cell? ⟨gh, q, none⟩ = some (.int .i64 h) := by
    have ql2 : q < hs.length := (List.getElem?_eq_some_iff.1 HX.out).1
    simp [World.cell?, kg, ql2]
  have RR : Hid _ := R
  have RRB : Hid _ := RB
  have eh : (h == h) = true := beq_self_eq_true _
  clear R RB kp kg hown' hgrow ho1
  go_wp2_with fail
  go_ret
  exact ⟨rfl, RRB.out, _, RR.out⟩
end Go.Proofs.YtodpdnidinnjjaaDoor
