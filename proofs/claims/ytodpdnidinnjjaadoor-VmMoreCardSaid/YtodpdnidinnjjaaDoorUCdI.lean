/- Layer 8: reach, as it is used; the climber's rows. -/
import Derived.Test.YtodpdnidinnjjaaDoorUCdG
import Derived.Test.YtodpdnidinnjjaaDoorUCdH
namespace Go.Proofs.YtodpdnidinnjjaaDoor
open Go.RowKit
set_option linter.unusedVariables false

/-- What comes of reaching a place that can be reached. -/
structure RcQ (B p gh : Nat) (la : Option Addr) (lc : Nat) (l : List Cd.Co) (ia : Option Addr) (ic : Nat) (c : Cd.Co) (hs ws : List Int) (pe : Int) (q : Nat) (h : Int) (w : World) (b : Bool) (hs' ws' : List Int) (w' : World) : Prop where
  bel : Below p w w'
  cls : ∃ wv, ClS B w' p gh la lc l ia ic c hs' ws' wv
  yes : b = true → Cd.CI l c hs' ws' pe ∧ hs'[q]? = some h ∧ (∀ (p : Nat) x, hs[p]? = some x → x ≠ -1 → hs'[p]? = some x) ∧ Cd.lft hs' ws' ≤ Cd.lft hs ws
  no : b = false → Cd.HR Cd.top l c none
theorem cdReach_ci (q : Nat) (h : Int) (B p gh : Nat) (la : Option Addr) (lc : Nat) (l : List Cd.Co) (ia : Option Addr) (ic : Nat) (c : Cd.Co) (hs ws : List Int) (wv : Value) (w : World) (H : ClS B w p gh la lc l ia ic c hs ws wv) (pe : Int) (ci : Cd.CI l c hs ws pe) (r : Cd.Rc l c q h) (h0 : 0 ≤ h) (hw : ws.length ≤ 1000000) :
    Calls Tryd.prog 99 #[.pointer (some ⟨p, 0, none⟩), .int .i64 q, .int .i64 h] w fun e w' => ∃ b hs' ws', e = .returned (.bool b) ∧ RcQ B p gh la lc l ia ic c hs ws pe q h w b hs' ws' w' := by
  by_cases hn : (c.ins.length : Int) ≤ q ∨ 4096 < h
  · refine (cdReach_no q h B p gh la lc l ia ic c hs ws wv w H hn).mono fun e w' ⟨e1, e2, e3⟩ => ?_
    exact ⟨false, hs, ws, e1, e2, e3, (fun h => by cases h), fun _ => Cd.bad_far r hn⟩
  · have ql : q < hs.length := by rw [H.hl]; omega
    obtain ⟨x, hx⟩ : ∃ x, hs[q]? = some x := ⟨_, List.getElem?_eq_getElem ql⟩
    by_cases hx1 : x = -1
    · subst hx1
      have er : Cd.rhs hs q h = hs.set q h := by unfold Cd.rhs; rw [if_pos hx]
      have ew : Cd.rws hs ws q = ws ++ [(q : Int)] := by unfold Cd.rws; rw [if_pos hx]
      have hv : (Cd.rhs hs q h)[q]? = some h := by rw [er, List.getElem?_set_self ql]
      refine (cdReach_new q h B p gh la lc l ia ic c hs ws wv w H hx (by omega) hw).mono fun e w' ⟨e1, e2, e3⟩ => ?_
      have c1 := ci.reach r h0 (by omega) hv
      have c2 := Cd.lft_reach hs ws q h h0
      rw [ew] at c1 c2
      rw [er] at c1 c2 hv
      exact ⟨true, _, _, e1, e2, e3, fun _ => ⟨c1, hv, fun p x a b => by rw [← er]; exact Cd.rhs_keep a b, c2⟩, fun h => by cases h⟩
    · refine (cdReach_old q h x B p gh la lc l ia ic c hs ws wv w H hx (by omega) hx1).mono fun e w' ⟨e1, e2, e3⟩ => ?_
      by_cases hx2 : x = h
      · have eb : (x == h) = true := by rw [hx2]; exact beq_self_eq_true _
        rw [eb] at e1
        exact ⟨true, hs, ws, e1, e2, e3, fun _ => ⟨ci, by rw [hx, hx2], fun p x a b => a, Nat.le_refl _⟩, fun h => by cases h⟩
      · have eb : (x == h) = false := beq_eq_false_iff_ne.2 hx2
        rw [eb] at e1
        exact ⟨false, hs, ws, e1, e2, e3, (fun h => by cases h), fun _ => Cd.bad_two ci r hx hx1 hx2⟩
/-- A place that waits is taken, in memory. -/
theorem ClS.pop {B : Nat} {w : World} {p gh g cap : Nat} {la : Option Addr} {lc : Nat} {l : List Cd.Co} {ia : Option Addr} {ic : Nat} {c : Cd.Co} {hs ws : List Int} {q : Int} (h : ClS B w p gh la lc l ia ic c hs (ws ++ [q]) (.slice (some ⟨g, 0, none⟩) (ws.length + 1) cap)) :
    ClS B (w.setCell ⟨p, 6, none⟩ (.slice (some ⟨g, 0, none⟩) ws.length cap)) p gh la lc l ia ic c hs ws (.slice (some ⟨g, 0, none⟩) ws.length cap) ∧ Below p w (w.setCell ⟨p, 6, none⟩ (.slice (some ⟨g, 0, none⟩) ws.length cap)) := by
  have bp : Below p w (w.setCell ⟨p, 6, none⟩ (.slice (some ⟨g, 0, none⟩) ws.length cap)) := ⟨rfl, rfl, rfl, by simp, fun k hk => heap_setCell_other w _ k _ (by simp; omega)⟩
  have hww := h.ww
  have e : nC (ws ++ [q]) = nC ws ++ [.int .i64 q] := by simp [nC]
  rw [e, List.length_append] at hww
  have w2 := ownsRow_pop (n := ws.length) (size := 1) (by simp [nC]) hww
  have n2 : ¬ (Value.slice (some ⟨g, 0, none⟩) ws.length cap).ownBlock = some p := fun e => by have := (World.ownsRow.lt w2 _ e).1; have := h.pg; omega
  refine ⟨⟨⟨Nat.le_trans h.a.hB bp.size, ?_, h.a.co.later (bp.mono h.bp), h.a.ok, h.a.tn.later (bp.mono h.bp), h.a.tm.later (bp.mono h.bp), h.a.is.later (bp.mono h.bp), h.a.ck⟩, ?_, h.hl, ?_, h.pg, h.bp⟩, bp⟩
  · have := h.a.cl
    unfold Clm at this ⊢
    exact heap_setCell_same _ _ _ _ _ _ this
  · rw [heap_setCell_other w _ gh _ (by have := h.pg; simp; omega)]
    exact h.hh
  · exact ownsRow_setCell_other w2 n2 _
theorem ClS.row {B : Nat} {w : World} {p gh : Nat} {la : Option Addr} {lc : Nat} {l : List Cd.Co} {ia : Option Addr} {ic : Nat} {c : Cd.Co} {hs ws : List Int} {wv : Value} (h : ClS B w p gh la lc l ia ic c hs ws wv) (h0 : 0 < ws.length) : ∃ g cap, wv = .slice (some ⟨g, 0, none⟩) ws.length cap ∧ gh < g ∧ g < w.heap.size ∧ ws.length ≤ cap ∧ ∀ j x, ws[j]? = some x → w.cell? ⟨g, j, none⟩ = some (.int .i64 x) := by
  have hc := @World.ownsRow.cells _ _ _ _ _ _ _ h.ww
  have hl := World.ownsRow.lt h.ww
  rcases h.ww.2 with ⟨_, e⟩ | ⟨g, cap, cur, rfl, hb, hh, hnc, _⟩
  · omega
  · refine ⟨g, cap, rfl, by omega, (hl g rfl).2, hnc, fun j x hx => ?_⟩
    have := @hc g rfl j (.int .i64 x) (by simp [nC, hx])
    have e : (⟨g, 0, none⟩ : Addr).add j = ⟨g, j, none⟩ := by unfold Addr.add; split <;> simp_all
    rw [e] at this
    exact this
theorem ClS.seth {B : Nat} {w : World} {p gh : Nat} {la : Option Addr} {lc : Nat} {l : List Cd.Co} {ia : Option Addr} {ic : Nat} {c : Cd.Co} {hs ws : List Int} {wv : Value} (h : ClS B w p gh la lc l ia ic c hs ws wv) (q : Nat) (x : Int) :
    ClS B (w.setCell ⟨gh, q, none⟩ (.int .i64 x)) p gh la lc l ia ic c (hs.set q x) ws wv ∧ Below gh w (w.setCell ⟨gh, q, none⟩ (.int .i64 x)) := by
  have bg : Below gh w (w.setCell ⟨gh, q, none⟩ (.int .i64 x)) := ⟨rfl, rfl, rfl, by simp, fun k hk => heap_setCell_other w _ k _ (by simp; omega)⟩
  have hBg : B ≤ gh := by have := h.bp; have := h.pg; omega
  refine ⟨⟨⟨Nat.le_trans h.a.hB bg.size, h.a.cl.later bg h.pg, h.a.co.later (bg.mono hBg), h.a.ok, h.a.tn.later (bg.mono hBg), h.a.tm.later (bg.mono hBg), h.a.is.later (bg.mono hBg), h.a.ck⟩, ?_, by simp [h.hl], ownsRow_setCell_below h.ww (by simp) _, h.pg, h.bp⟩, bg⟩
  rw [heap_setCell_same _ _ _ _ _ _ h.hh, nC_set]
theorem rep_set (n k : Nat) (h : k < n) : (List.replicate k (-1 : Int) ++ List.replicate (n - k) 0).set k (-1) = List.replicate (k + 1) (-1) ++ List.replicate (n - (k + 1)) 0 := by
  obtain ⟨m, hm⟩ : ∃ m, n - k = m + 1 := ⟨n - k - 1, by omega⟩
  have e : n - (k + 1) = m := by omega
  rw [hm, e, List.replicate_succ, List.set_append_right _ _ (by simp)]
  simp only [List.length_replicate, Nat.sub_self, List.set_cons_zero]
  rw [List.replicate_succ', List.append_assoc]
  rfl
theorem made_int (n : Nat) : (madeCells (Value.int .i64 0).cells (n * 1)).toList = nC (List.replicate n 0) := by
  apply List.ext_getElem?
  intro k
  by_cases hk : k < n
  · simp [madeCells, Value.cells, nC, hk]
    rw [Nat.mod_one]
    rfl
  · rw [List.getElem?_eq_none (by simp [madeCells]; omega), List.getElem?_eq_none (by simp [nC]; omega)]
/-- The heights are made, and laid into the climber. -/
theorem ClS.make {B : Nat} {w w1 : World} {p : Nat} {la : Option Addr} {lc : Nat} {l : List Cd.Co} {ia : Option Addr} {ic : Nat} {c : Cd.Co} (h : ClA B w p la lc l ia ic c (.slice none 0 0) (.slice none 0 0)) (hbp : B ≤ p)
    (h1 : w1.ownsRow w.heap.size 3 1 (.slice (some ⟨w.heap.size, 0, none⟩) c.ins.length c.ins.length) c.ins.length (madeCells (Value.int .i64 0).cells (c.ins.length * 1)).toList) (g1 : w.grownBy w1 none) :
    ClS B (w1.setCell ⟨p, 5, none⟩ (.slice (some ⟨w.heap.size, 0, none⟩) c.ins.length c.ins.length)) p w.heap.size la lc l ia ic c (List.replicate c.ins.length 0) [] (.slice none 0 0) ∧ Below p w (w1.setCell ⟨p, 5, none⟩ (.slice (some ⟨w.heap.size, 0, none⟩) c.ins.length c.ins.length)) ∧ w1.heap[p]? = w.heap[p]? := by
  have pl := h.cl.lt
  have kb : ∀ k, k < w.heap.size → w1.heap[k]? = w.heap[k]? := fun k hk => g1.block k hk (by simp)
  have bp : Below p w (w1.setCell ⟨p, 5, none⟩ (.slice (some ⟨w.heap.size, 0, none⟩) c.ins.length c.ins.length)) := ⟨g1.os, g1.tape, g1.output, by simpa using g1.size, fun k hk => (heap_setCell_other w1 _ k _ (by simp; omega)).trans (kb k (by omega))⟩
  refine ⟨⟨⟨Nat.le_trans h.hB bp.size, ?_, h.co.later (bp.mono hbp), h.ok, h.tn.later (bp.mono hbp), h.tm.later (bp.mono hbp), h.is.later (bp.mono hbp), h.ck⟩, ?_, by simp, World.ownsRow_nil _ _ _ _, pl, hbp⟩, bp, kb p pl⟩
  · have := h.cl
    unfold Clm at this ⊢
    exact heap_setCell_same _ _ _ _ _ _ ((kb p pl).trans this)
  · rw [heap_setCell_other w1 _ _ _ (by simp; omega)]
    rcases h1.2 with ⟨e, _⟩ | ⟨g, cap, cur, hv, _, hh, _, _, hcs, ht⟩
    · cases e
    · cases hv
      rw [hh, ← made_int, ← ht]
      congr 2
      rw [List.take_of_length_le (by simp [hcs])]
end Go.Proofs.YtodpdnidinnjjaaDoor
