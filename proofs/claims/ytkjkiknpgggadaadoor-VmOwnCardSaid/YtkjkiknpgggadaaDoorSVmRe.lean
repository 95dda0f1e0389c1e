/- Layer 9: the document's machine: begin, with whatever it is given: the walk. -/
import Derived.Test.YtkjkiknpgggadaaDoorSVmRd
import Derived.Test.YtkjkiknpgggadaaDoorSCdI
namespace Go.Proofs.YtkjkiknpgggadaaDoor
open Go.RowKit
set_option linter.unusedVariables false
set_option linter.unusedSimpArgs false

theorem BgI.drew {w : World} {zb fb k p j : Nat} {l : List Int} {wr : World} (h : BgI w zb fb k l p j wr) : BgI w zb fb k l p j wr.drew := ⟨h.b.drew, h.row.drew, h.box, h.ne, h.ge⟩
set_option maxRecDepth 100000 in
set_option maxHeartbeats 16000000 in
theorem rBegin (G : Gh) (r p : Nat) (w : World) (U : RmV) (R : Vm.Rm) (c : Cd.Co) (k : Nat) (aa : Option Addr) (ac : Nat) (l : List Int) (h : RmS G r w U R) (hc : R.codes[p]? = some c) (hk : c.cells = k) (hk2 : k ≤ 65536) (hl : NuS w.heap.size w aa l) (hlk : l.length ≤ k) (hfl : R.frames.length ≤ 1000) :
    Calls Tryd.prog 40 #[.pointer (some ⟨r, 0, none⟩), .int .i64 p, .slice aa l.length ac] w fun e w' => e = .returned (.tuple #[]) ∧ RmQ G r w w' (Vm.rbeg R p k l) := by
  obtain ⟨i0, hi, hz0, hz1, hz2⟩ := info_parts info64
  obtain ⟨j0, ji, jz0, jz1, jz2⟩ := info_parts infoFm
  obtain ⟨g, o, ia, ic, hca, hg, ca⟩ := h.co.at hc
  have cc := ca.c1
  rw [hk] at cc
  have c0 := h.cell.1
  rw [hca] at c0
  have ho : w.ownsRow (r + 1) 60 5 U.fv R.frames.length (rmC R.frames U.fc) := h.rows.own (rfR U R) (by simp)
  obtain ⟨sa, sc, hv⟩ := own_shp ho
  have c1 := h.cell.2.1
  have f1 := h.frozen 1
  rw [hv] at c1 ho
  have hr := h.lt
  have hgl : g < w.heap.size := Nat.lt_trans (Nat.lt_of_lt_of_le hg h.lo) hr
  have hpl : p < R.codes.length := (List.getElem?_eq_some_iff.1 hc).1
  have HH : Hid (RmS G r w U R) := h
  have HV : Hid (U.fv = .slice sa R.frames.length sc) := hv
  have HNU : Hid (NuS w.heap.size w aa l) := hl
  obtain ⟨L, hL⟩ : ∃ L, L = R.codes.length := ⟨_, rfl⟩
  rw [← hL] at c0 hpl
  obtain ⟨nf, hnf⟩ : ∃ nf, nf = R.frames.length := ⟨_, rfl⟩
  have HNF : Hid (nf = R.frames.length) := hnf
  rw [← hnf] at c1 ho hfl
  have HO : Hid (w.ownsRow (r + 1) 60 5 (.slice sa nf sc) nf (rmC R.frames U.fc)) := ho
  obtain ⟨n, hn⟩ : ∃ n, n = l.length := ⟨_, rfl⟩
  have HN : Hid (n = l.length) := hn
  rw [← hn] at hlk ⊢
  have hpi : (p : Int) < (L : Int) := by omega
  have hp0 : (0 : Int) ≤ (p : Int) := by omega
  have H63 : Hid (nf + 1 ≤ maxLen ∧ (nf + 1) * 72 ≤ 140737488355328) := by unfold Hid maxLen; omega
  clear h ca hc hk hL hl hv ho hnf hn hca
  go_enter Tryd.func40, Tryd.ntmps40
  go_wp2_with (at_make; refine wpList_make_full _ rfl _ _ 23 rfl w.heap.size 2 i0 (.int .i64 0) 1 Tryd.underlying23 hi hz0 hz1 .i64 .i64 _ _ k rfl rfl rfl rfl ?c1 ?c2 (Nat.le_refl _) ?_)
  case c1 => rw [hz2]; omega
  case c2 => unfold maxLen; omega
  intro w1 hown1 hgrow1
  have b1 : Below w.heap.size w w1 := grn_none hgrow1
  obtain ⟨W2, hW2⟩ : ∃ W2, W2 = w1.alloc (.cells #[.int .i64 p, .int .i64 0, .int .i64 (-1), .slice (some ⟨w.heap.size, 0, none⟩) k k, .slice none 0 0] 60) := ⟨_, rfl⟩
  obtain ⟨fb, hfb⟩ : ∃ fb, fb = w1.heap.size := ⟨_, rfl⟩
  have x2 : W2.heap[fb]? = some (.cells #[.int .i64 p, .int .i64 0, .int .i64 (-1), .slice (some ⟨w.heap.size, 0, none⟩) k k, .slice none 0 0] 60 (0, 0)) := by rw [hW2, hfb]; exact alloc_at w1 _
  have y2 : Below w1.heap.size w1 W2 := by rw [hW2]; exact (Below.refl _ _).alloc (Nat.le_refl _) _
  have zlt := (World.ownsRow.lt hown1 w.heap.size rfl).2
  have I0 : Hid (BgI w w.heap.size fb k l p 0 W2) := by
    refine ⟨b1.trans (y2.mono b1.size), ?_, x2, by omega, by rw [hfb]; exact b1.size⟩
    have q := own_lat hown1 y2
    rw [Vm.gv, List.take_zero, List.nil_append, Nat.sub_zero, ← made_int, Nat.mul_one]
    exact q
  have FE : Hid (Vm.rbeg R p k l = { R with frames := R.frames ++ [⟨p, 0, -1, Vm.gv l k n, []⟩] }) := by
    unfold Hid Vm.rbeg
    rw [HN.out, Vm.gv_done]
  have GE : Hid ((Vm.gv l k n).length = k) := Vm.gv_len (Nat.le_of_eq HN.out) (by rw [← HN.out]; exact hlk)
  have hr0 := hr
  clear x2 y2 zlt hown1 hgrow1 b1
  go_upto_region 1 with fail
  rw [← hW2, ← hfb]
  clear hW2 hfb c0 cc
  obtain ⟨zb, hzb⟩ : ∃ zb, zb = w.heap.size := ⟨_, rfl⟩
  have HZ : Hid (zb = w.heap.size) := hzb
  rw [← hzb] at I0 ⊢
  clear hzb
  go_wp2_with fail
  go_loopg [7] n (fun gk i wr => ∃ j : Nat, j + gk = n ∧ i = .int .i64 j ∧ Hid (BgI w zb fb k l p j wr))
  case atStart => exact ⟨0, by omega, rfl, I0⟩
  case round =>
    obtain ⟨j, hj, rfl, BI⟩ := hrel
    rcases gk with _ | gO
    · obtain rfl : j = n := by omega
      have hji : ¬ (j : Int) < (j : Int) := by omega
      have dj : decide ((j : Int) < (j : Int)) = false := decide_eq_false hji
      have e1 := (BI.out.b.cell (p := ⟨r, 1, none⟩) hr).trans c1
      have fe1 := (BI.out.b.frozen (p := ⟨r, 1, none⟩) hr).trans f1
      have hr2 : r < wr.heap.size := Nat.lt_of_lt_of_le hr BI.out.b.size
      have x2 := BI.out.box
      have hl2 : fb < wr.heap.size := (Array.getElem?_eq_some_iff.1 x2).1
      have t0 : wr.cell? ⟨fb, 0, none⟩ = some (.int .i64 p) := by simp [World.cell?, x2]
      have t1 : wr.cell? ⟨fb, 1, none⟩ = some (.int .i64 0) := by simp [World.cell?, x2]
      have t2 : wr.cell? ⟨fb, 2, none⟩ = some (.int .i64 (-1)) := by simp [World.cell?, x2]
      have t3 : wr.cell? ⟨fb, 3, none⟩ = some (.slice (some ⟨zb, 0, none⟩) k k) := by simp [World.cell?, x2]
      have t4 : wr.cell? ⟨fb, 4, none⟩ = some (.slice none 0 0) := by simp [World.cell?, x2]
      have HOW : Hid (wr.ownsRow (r + 1) 60 5 (.slice sa nf sc) nf (rmC R.frames U.fc)) := own_lat HO.out BI.out.b
      have ADD : Hid (∀ (X : World) (v8 : Value) (w8 : World), Below wr.heap.size wr X → w8.ownsRow (r + 1) 60 5 v8 (nf + 1) (rmC R.frames U.fc ++ [.int .i64 p, .int .i64 0, .int .i64 (-1), .slice (some ⟨zb, 0, none⟩) k k, .slice none 0 0]) → X.grownBy w8 (Value.slice sa nf sc).ownBlock → (v8.ownBlock = (Value.slice sa nf sc).ownBlock ∨ ∃ g, v8.ownBlock = some g ∧ X.heap.size ≤ g) → RmQ G r w (w8.setCell ⟨r, 1, none⟩ v8) (Vm.rbeg R p k l)) := fun X v8 w8 y h8 g8 o8 => by
        rw [FE.out]
        exact HH.out.begun BI.out.b BI.out.row GE.out y (by rw [← HNF.out]; exact h8) (by rw [HV.out, ← HNF.out]; exact g8) (by rw [HV.out, ← HNF.out]; exact o8)
      have ADB : Hid (∀ (X w8 : World), Below wr.heap.size wr X → X.grownBy w8 (Value.slice sa nf sc).ownBlock → Below (r + 1) wr w8) := fun X w8 y g8 => by
        refine (y.mono hr2).trans ⟨g8.os, g8.tape, g8.output, g8.size, fun q hq => g8.block q (by have := y.size; omega) (fun e => by have := (World.ownsRow.lt HOW.out _ e.symm).1; omega)⟩
      have ONE5 : Hid (∀ u ∈ [Value.int .i64 p, .int .i64 0, .int .i64 (-1), .slice (some ⟨zb, 0, none⟩) k k, .slice none 0 0], u.oneCell' = true) := fun y hy => by
        simp only [List.mem_cons, List.not_mem_nil, or_false] at hy
        rcases hy with rfl | rfl | rfl | rfl | rfl <;> rfl
      have hrn : ¬ r = wr.heap.size := Nat.ne_of_lt hr2
      have hfn : ¬ fb = wr.heap.size := Nat.ne_of_lt hl2
      clear x2 c1 f1
      go_upto_region 5 with fail
      go_region_law (first
        | (rw [if_pos (by rfl)]; refine wp_app_t _ _ 30 rfl (r + 1) 60 j0 (.agg #[.int .i64 0, .int .i64 0, .int .i64 0, .slice none 0 0, .slice none 0 0]) 5 72 Tryd.underlying30 ji jz0 jz1 jz2 rfl (by decide) _ _ _ rfl (own_lat HOW.out (by go_grown)) ⟨wr.heap.size, 0, none⟩ 1 1 [.int .i64 p, .int .i64 0, .int .i64 (-1), .slice (some ⟨zb, 0, none⟩) k k, .slice none 0 0] rfl rfl (cells5 (by first | (simp; done) | (simp [go_sem]; done) | fail) (by first | (simp; done) | (simp [go_sem]; done) | fail) (by first | (simp; done) | (simp [go_sem]; done) | fail) (by first | (simp; done) | (simp [go_sem]; done) | fail) (by first | (simp; done) | (simp [go_sem]; done) | fail)) ONE5.out H63.out.1 H63.out.2 (by simp; omega) (by decide) ?_; intro v8 w8 h8 g8 o8; have A8 : Hid _ := ADD.out _ v8 w8 (by go_grown) h8 g8 o8; have B8 := ADB.out _ w8 (by go_grown) g8; have z1 := (B8.cell (p := ⟨r, 1, none⟩) (Nat.lt_succ_self r)).trans e1; have zf := (B8.frozen (p := ⟨r, 1, none⟩) (Nat.lt_succ_self r)).trans fe1; clear B8; clear g8 o8; obtain ⟨va8, cap8, hv8⟩ := own_shp h8; subst hv8; clear h8))
      all_goals
        go_wp2_with fail
        first
          | (go_end0; exact ⟨rfl, A8.out⟩)
          | (go_ret; exact ⟨rfl, A8.out⟩)
    · have hlt : j < n := by omega
      have hji : (j : Int) < (n : Int) := by omega
      have dj : decide ((j : Int) < (n : Int)) = true := decide_eq_true hji
      have djn : decide (j < n) = true := decide_eq_true hlt
      have hjk : j < k := by omega
      have hjki : (j : Int) < (k : Int) := by omega
      obtain ⟨x, hx⟩ : ∃ x, l[j]? = some x := ⟨_, List.getElem?_eq_getElem (by rw [← HN.out]; omega)⟩
      have NX : Hid (BgI w zb fb k l p (j + 1) (wr.setCell ⟨zb, j, none⟩ (.int .i64 x))) := BI.out.step hx (by rw [← HN.out]; exact hlk)
      obtain ⟨ga, oa, rfl, hga, hcell⟩ := HNU.out (by rw [← HN.out]; omega)
      have xa := (BI.out.b.cell (p := ⟨ga, oa + j, none⟩) hga).trans (hcell j x hx)
      have x2 := BI.out.box
      have t3 : wr.cell? ⟨fb, 3, none⟩ = some (.slice (some ⟨zb, 0, none⟩) k k) := by simp [World.cell?, x2]
      obtain ⟨u, hu, fu⟩ := own_cell BI.out.row (j := j) (by omega)
      clear x2 c1 f1 hcell hx
      go_wp2_with fail
      go_region_law (fail)
      all_goals
        go_wp2_with fail
        go_roundg gO
        case measure => omega
        case rel => exact ⟨j + 1, by omega, by go_num, BgI.drew NX.out⟩
end Go.Proofs.YtkjkiknpgggadaaDoor

