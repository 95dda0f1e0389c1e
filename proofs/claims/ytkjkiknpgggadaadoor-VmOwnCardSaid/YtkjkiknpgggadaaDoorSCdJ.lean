/- Layer 8: climb: the heights of a code that has sizes and forms as it must, or that there are none. -/
import Derived.Test.YtkjkiknpgggadaaDoorSCdI
import Derived.Test.YtkjkiknpgggadaaDoorSCdE
import Derived.Deep.LoopGhost
namespace Go.Proofs.YtkjkiknpgggadaaDoor
open Go.RowKit
set_option linter.unusedVariables false

namespace Cd
theorem tk_all : ∀ k : Nat, k < 26 → 0 ≤ takesL.getD k 0 ∧ 0 ≤ leavesL.getD k 0 ∧ leavesL.getD k 0 ≤ 1 := by decide
theorem an_bd (c : Co) : 0 ≤ an c ∧ an c ≤ 1 := by unfold an; split <;> omega
theorem lv_bd (l : List Co) (i : In) : 0 ≤ lv l i ∧ lv l i ≤ 1 := by
  unfold lv
  split
  · split
    · exact an_bd _
    · omega
  · split
    · omega
    · by_cases h : i.op.toNat < 26
      · exact (tk_all _ h).2
      · rw [List.getD_eq_getElem?_getD, List.getElem?_eq_none (by show 26 ≤ _; omega)]
        simp
theorem al_19 {B : Int} {l : List Co} {c : Co} {i : In} (h : al B l c i = true) (e : i.op = 19) : 0 ≤ i.n ∧ i.n < l.length ∧ 0 ≤ i.m := by
  simp [al, e, mc] at h
  obtain ⟨⟨h1, h2⟩, h3⟩ := h
  refine ⟨h1, ?_, h2⟩
  cases he : l[i.n.toNat]? with
  | none => rw [he] at h3; cases h3
  | some d => have := (List.getElem?_eq_some_iff.1 he).1; omega
theorem tk_bd {B : Int} {l : List Co} {c : Co} {i : In} (h : al B l c i = true) : 0 ≤ tk i := by
  unfold tk
  split
  · rename_i e
    exact (al_19 h e).2.2
  · split
    · rename_i _ e
      simp [al, e] at h
      have := an_bd c
      omega
    · by_cases h : i.op.toNat < 26
      · exact (tk_all _ h).1
      · rw [List.getD_eq_getElem?_getD, List.getElem?_eq_none (by show 26 ≤ _; omega)]
        simp
theorem al_17 {B : Int} {l : List Co} {c : Co} {i : In} (h : al B l c i = true) (e : i.op = 17 ∨ i.op = 18) : 0 ≤ i.n := by
  rcases e with e | e <;> (simp [al, e] at h; exact h.1)
theorem nx_bd {B : Int} {l : List Co} {c : Co} {i : In} (h : al B l c i = true) (p : Nat) : 0 ≤ n1 i p ∧ 0 ≤ n2 i p := by
  unfold n1 n2
  constructor
  · split
    · rename_i e; exact al_17 h (.inl e)
    · omega
  · split
    · rename_i e; exact al_17 h e
    · omega
theorem fm_at {B : Int} {l : List Co} {c : Co} (h : fm B l c = true) {j : Nat} {i : In} (e : c.ins[j]? = some i) : hl i = true ∧ al B l c i = true := by
  have := List.all_eq_true.1 h i (List.mem_of_getElem? e)
  simpa using this
theorem fm_all {B : Int} {l : List Co} {c : Co} (h : fm B l c = true) : ∀ i, i ∈ c.ins → hl i = true ∧ al B l c i = true := fun i hi => by
  have := List.all_eq_true.1 h i hi
  simpa using this
theorem hl_bd {i : In} (h : hl i = true) : 1 ≤ i.op ∧ i.op ≤ 25 := by
  unfold hl at h
  simp only [Bool.and_eq_true, decide_eq_true_eq] at h
  exact ⟨h.1.1.1, h.1.1.2⟩
end Cd
theorem ix0 (a b : Int) (w : World) : (Instr.index 126 (.agg #[.int .i64 a, .int .i64 b]) (.int .i64 0)).run Tryd.prog w = .ok (.int .i64 a) w := by kernel_rfl
theorem ix1 (a b : Int) (w : World) : (Instr.index 126 (.agg #[.int .i64 a, .int .i64 b]) (.int .i64 1)).run Tryd.prog w = .ok (.int .i64 b) w := by kernel_rfl
def CbQ (p : Nat) (l : List Cd.Co) (c : Cd.Co) (w : World) (e : Ending) (w' : World) : Prop :=
  Below p w w' ∧ ((e = .returned (.bool false) ∧ Cd.HR Cd.top l c none) ∨ (e = .returned (.bool true) ∧ ∃ H gh, Cd.HR Cd.top l c (some H) ∧ p < gh ∧ w'.cell? ⟨p, 5, none⟩ = some (.slice (some ⟨gh, 0, none⟩) H.length H.length) ∧ w'.heap[gh]? = some (.cells (nC H).toArray 3 (0, 0))))
def CbA (B p gh : Nat) (la : Option Addr) (lc : Nat) (l : List Cd.Co) (ia : Option Addr) (ic : Nat) (c : Cd.Co) (w : World) (n : Nat) (i : Value) (wr : World) : Prop :=
  ∃ k : Nat, k ≤ n ∧ i = .int .i64 k ∧ Hid (ClS B wr p gh la lc l ia ic c (List.replicate k (-1) ++ List.replicate (n - k) 0) [] (.slice none 0 0)) ∧ Hid (Below p w wr)
def CbL (B p gh : Nat) (la : Option Addr) (lc : Nat) (l : List Cd.Co) (ia : Option Addr) (ic : Nat) (c : Cd.Co) (w : World) (gk : Nat) (f : Value) (wr : World) : Prop :=
  ∃ hs ws wv, f = .bool true ∧ Hid (ClS B wr p gh la lc l ia ic c hs ws wv) ∧ Hid (Cd.CI l c hs ws (-1)) ∧ Hid (Below p w wr) ∧ Hid (gk = Cd.lft hs ws ∧ gk ≤ 200000)
def CbI (B p gh : Nat) (la : Option Addr) (lc : Nat) (l : List Cd.Co) (ia : Option Addr) (ic : Nat) (c : Cd.Co) (w : World) (q h h' : Int) (pp : Nat) (x : Cd.In) (G : Nat) (g2 : Nat) (f : Value) (i : Value) (wr : World) : Prop :=
  ∃ (j : Nat) (hs ws : List Int) (wv : Value), j + g2 = 2 ∧ i = .int .i64 j ∧ f = .bool true ∧ Hid (ClS B wr p gh la lc l ia ic c hs ws wv) ∧ Hid (Cd.CI l c hs ws q) ∧ Hid (Below p w wr) ∧ Hid (Cd.lft hs ws ≤ G) ∧ Hid (hs[pp]? = some h) ∧ Hid (1 ≤ j → hs[(Cd.n1 x q).toNat]? = some h') ∧ Hid (2 ≤ j → hs[(Cd.n2 x q).toNat]? = some h')
set_option maxRecDepth 100000 in
set_option maxHeartbeats 8000000 in
theorem cdClimb_any (B p : Nat) (la : Option Addr) (lc : Nat) (l : List Cd.Co) (ia : Option Addr) (ic : Nat) (c : Cd.Co) (w : World) (h : ClA B w p la lc l ia ic c (.slice none 0 0) (.slice none 0 0)) (hbp : B ≤ p) (hz : Cd.sz c = true) (hf : Cd.fm Cd.top l c = true) :
    Calls Tryd.prog 75 #[.pointer (some ⟨p, 0, none⟩)] w (CbQ p l c w) := by
  obtain ⟨i0, hi, hz0, hz1, hz2⟩ := info_parts cInt
  have p1 := h.cl.cell.2.1
  have p5 := h.cl.cell.2.2.2.2.2.1
  have f5 := h.cl.frozen 5
  have pl := h.cl.lt
  have hpz : ¬ p = w.heap.size := by omega
  have HC : Hid (ClA B w p la lc l ia ic c (.slice none 0 0) (.slice none 0 0)) := h
  have HB : Hid (B ≤ p) := hbp
  have HF : Hid (Cd.fm Cd.top l c = true) := hf
  have HZ : Hid (Cd.sz c = true) := hz
  obtain ⟨n, hn⟩ : ∃ n, n = c.ins.length := ⟨_, rfl⟩
  have hn1 : 1 ≤ n ∧ n ≤ 65536 := by
    unfold Cd.sz at hz
    simp only [Bool.and_eq_true, decide_eq_true_eq] at hz
    rw [hn]
    exact ⟨hz.1.1.1.1.1.1, hz.1.1.1.1.1.2⟩
  rw [← hn] at p1
  have HN : Hid (n = c.ins.length) := hn
  have MK : Hid (∀ w1, w1.ownsRow w.heap.size 3 1 (.slice (some ⟨w.heap.size, 0, none⟩) n n) n (madeCells (Value.int .i64 0).cells (n * 1)).toList → w.grownBy w1 none → ClS B (w1.setCell ⟨p, 5, none⟩ (.slice (some ⟨w.heap.size, 0, none⟩) n n)) p w.heap.size la lc l ia ic c (List.replicate n 0) [] (.slice none 0 0) ∧ Below p w (w1.setCell ⟨p, 5, none⟩ (.slice (some ⟨w.heap.size, 0, none⟩) n n)) ∧ w1.heap[p]? = w.heap[p]?) := by
    unfold Hid
    rw [hn]
    exact fun w1 a b => ClS.make h hbp a b
  obtain ⟨gh, hgh⟩ : ∃ gh, gh = w.heap.size := ⟨_, rfl⟩
  rw [← hgh] at MK
  have HGH : Hid (gh = w.heap.size) := hgh
  clear h hbp hz hf hn
  go_enter Tryd.func75, Tryd.ntmps75
  go_wp2_with fail
  go_step3
  go_wp2_with (at_make; refine wpList_make_full _ rfl _ _ 96 rfl w.heap.size 3 i0 (.int .i64 0) 1 Tryd.underlying96 hi hz0 hz1 .i64 .i64 _ _ n rfl rfl rfl rfl ?c1 ?c2 (Nat.le_refl _) ?_)
  case c1 => rw [hz2]; omega
  case c2 => unfold maxLen; omega
  intro w1 hown1 hgrow1
  rw [← hgh] at hown1 ⊢
  obtain ⟨S1, B1, kp⟩ := MK.out w1 (by rw [Nat.mul_one]; exact hown1) hgrow1
  have z5 : w1.cell? ⟨p, 5, none⟩ = some (.slice none 0 0) := (World.cell?_of_block (w := w) (a := ⟨p, 5, none⟩) kp).trans p5
  have zf : w1.frozen? ⟨p, 5, none⟩ = false := (World.frozen?_of_block (w := w) (a := ⟨p, 5, none⟩) kp).trans f5
  have S1' : Hid (ClS B (w1.setCell ⟨p, 5, none⟩ (.slice (some ⟨gh, 0, none⟩) n n)) p gh la lc l ia ic c (List.replicate n 0) [] (.slice none 0 0)) := S1
  have B1' : Hid (Below p w (w1.setCell ⟨p, 5, none⟩ (.slice (some ⟨gh, 0, none⟩) n n))) := B1
  clear S1 B1 kp hown1 hgrow1 hgh p1 p5 f5 MK
  go_wp2_with fail
  go_loopw [27] (fun i wr => CbA B p gh la lc l ia ic c w n i wr) (fun i _ => n - (intOf i).toNat)
  case atStart => exact ⟨0, by omega, rfl, (by simpa using S1'.out : ClS B _ p gh la lc l ia ic c (List.replicate 0 (-1) ++ List.replicate (n - 0) 0) [] (.slice none 0 0)), B1'⟩
  case round =>
    clear S1' B1' z5 zf
    obtain ⟨k, hk, rfl, S, BR⟩ := hrel
    by_cases hlt : k < n
    · have p5 := S.out.a.cl.cell.2.2.2.2.2.1
      rw [← HN.out] at p5
      have hat := S.out.hat (q := k) (x := 0) (by rw [List.getElem?_append_right (by simp), List.getElem?_replicate, List.length_replicate, if_pos (by omega)])
      have c0 := hat.1
      have f0 := hat.2
      have S2 := S.out.seth k (-1)
      rw [rep_set n k hlt] at S2
      have S3 : Hid _ := S2.1
      have B3 : Hid (Below p w (wr.setCell ⟨gh, k, none⟩ (.int .i64 (-1)))) := BR.out.trans (S2.2.mono (Nat.le_of_lt S.out.pg))
      have hki : (k : Int) < (n : Int) := by omega
      have hk0 : (0 : Int) ≤ (k : Int) := by omega
      clear hat S2 S BR
      go_wp2_with fail
      go_roundw
      case rel => exact ⟨k + 1, by omega, by go_num, S3, B3⟩
      case measure => simp [intOf]; omega
    · obtain rfl : k = n := by omega
      have S2 : ClS B wr p gh la lc l ia ic c (List.replicate k (-1)) [] (.slice none 0 0) := by simpa using S.out
      have hrep : (List.replicate k (-1 : Int))[0]? = some (-1) := by rw [List.getElem?_replicate, if_pos (by omega)]
      have CB := Cd.CI.begin (l := l) (c := c) (by rw [← HN.out]; omega)
      rw [← HN.out] at CB
      have er : Cd.rhs (List.replicate k (-1)) 0 0 = (List.replicate k (-1 : Int)).set 0 0 := by unfold Cd.rhs; rw [if_pos hrep]
      have ew : Cd.rws (List.replicate k (-1)) [] 0 = [] ++ [((0 : Nat) : Int)] := by unfold Cd.rws; rw [if_pos hrep]
      rw [er, ew] at CB
      have CB' : Hid (Cd.CI l c ((List.replicate k (-1 : Int)).set 0 0) ([] ++ [((0 : Nat) : Int)]) (-1)) := CB
      have ER : Hid (Calls Tryd.prog 90 #[.pointer (some ⟨p, 0, none⟩), .int .i64 0, .int .i64 0] wr (RcP B p gh la lc l ia ic c wr true ((List.replicate k (-1)).set 0 0) ([] ++ [((0 : Nat) : Int)]))) := cdReach_new 0 0 B p gh la lc l ia ic c (List.replicate k (-1)) [] (.slice none 0 0) wr S2 hrep (by omega) (by simp)
      clear S2 hrep CB er ew S
      go_wp2_with fail
      refine Calls.mono ER.out ?_
      rintro e2 w2 ⟨rfl, b2, wv2, s2⟩
      have S2 : Hid _ := s2
      have B2 : Hid (Below p w w2) := BR.out.trans b2
      clear s2 b2 ER BR
      go_wp2_with fail
      go_step3
      go_wp2_with fail
      have hcn : Cd.lft ((List.replicate k (-1 : Int)).set 0 0) ([] ++ [((0 : Nat) : Int)]) ≤ 200000 := by
        have e1 := List.count_le_length (a := (-1 : Int)) (l := (List.replicate k (-1 : Int)).set 0 0)
        unfold Cd.lft
        simp at e1 ⊢
        omega
      obtain ⟨G0, hG0⟩ : ∃ G0, G0 = Cd.lft ((List.replicate k (-1 : Int)).set 0 0) ([] ++ [((0 : Nat) : Int)]) := ⟨_, rfl⟩
      rw [← hG0] at hcn
      have HG : Hid (G0 = Cd.lft ((List.replicate k (-1 : Int)).set 0 0) ([] ++ [((0 : Nat) : Int)]) ∧ G0 ≤ 200000) := ⟨hG0, hcn⟩
      clear hG0 hcn
      go_loopg [4] G0 (fun gk f wr => CbL B p gh la lc l ia ic c w gk f wr)
      case atStart => exact ⟨_, _, wv2, rfl, S2, CB', B2, HG⟩
      case round =>
        clear S2 CB' B2 HG
        obtain ⟨hs, ws, wv, rfl, S, CI, BR, GK⟩ := hrel
        rcases List.eq_nil_or_concat ws with rfl | ⟨ws0, q, rfl⟩
        · have p6 := S.out.a.cl.cell.2.2.2.2.2.2
          have p5 := S.out.a.cl.cell.2.2.2.2.2.1
          obtain ⟨ao, cc, rfl⟩ := own_shp S.out.ww
          have FIN : Hid (CbQ p l c w (.returned (.bool true)) wr) := by
            have cl := CI.out.cl
            refine ⟨BR.out, .inr ⟨rfl, hs, gh, ⟨cl, cl.fit HZ.out (Cd.fm_all HF.out)⟩, S.out.pg, ?_, S.out.hh⟩⟩
            rw [cl.len]
            exact p5
          clear S CI BR GK p5
          go_wp2_with fail
          try rw [Exit.noGoto_ret]
          go_ret
          exact FIN.out
        · simp only [List.concat_eq_append] at S CI GK
          obtain ⟨CT, pp, h, x, eq, eh, ex, h0, h1, rc⟩ := CI.out.take
          obtain ⟨g, cap, hwv, hgg, hgl, hncap, hcell⟩ := S.out.row (by simp)
          rw [List.length_append] at hwv
          subst hwv
          have p6 := S.out.a.cl.cell.2.2.2.2.2.2
          have cq := hcell ws0.length q (by simp)
          rw [eq] at cq
          have LL : ws0.length ≤ 200000 := by have := GK.out; unfold Cd.lft at this; simp at this; omega
          have GL : Hid (gk = Cd.lft hs ws0 + 1 ∧ gk ≤ 200000) := by
            have := GK.out
            unfold Hid Cd.lft at *
            simp at this ⊢
            omega
          have hCT : Hid (Cd.CI l c hs ws0 q) := CT
          have hEQ : Hid (q = pp) := eq
          have hEH : Hid (hs[pp]? = some h) := eh
          have hEX : Hid (c.ins[pp]? = some x) := ex
          have hRC : Hid (Cd.Rc l c q h) := rc
          have ppl : pp < k := by rw [HN.out]; exact (List.getElem?_eq_some_iff.1 ex).1
          obtain ⟨LW, hLW⟩ : ∃ LW, LW = ws0.length := ⟨_, rfl⟩
          have HLW : Hid (LW = ws0.length) := hLW
          have e1 : ((LW : Int) + 1 - 1) = LW := by omega
          rw [List.length_singleton, ← hLW] at p6
          rw [← hLW] at cq LL
          clear CT eq eh ex rc hcell hLW CI GK
          go_wp2_with fail
          go_quiet (fail)
          have S9 : Hid (ClS B (wr.drewN nq) p gh la lc l ia ic c hs (ws0 ++ [q]) (.slice (some ⟨g, 0, none⟩) (ws0.length + 1) cap)) := S.out.later (below_drewN (Below.refl _ _) nq)
          have B9 : Hid (Below p w (wr.drewN nq)) := below_drewN BR.out nq
          clear S BR p6 cq hgl
          generalize wr.drewN nq = W9 at S9 B9 ⊢
          have p6 := S9.out.a.cl.cell.2.2.2.2.2.2
          have f6 := S9.out.a.cl.frozen 6
          have POP := S9.out.pop
          have S5 : Hid (ClS B (W9.setCell ⟨p, 6, none⟩ (.slice (some ⟨g, 0, none⟩) LW cap)) p gh la lc l ia ic c hs ws0 (.slice (some ⟨g, 0, none⟩) LW cap)) := by rw [HLW.out]; exact POP.1
          have B5 : Hid (Below p w (W9.setCell ⟨p, 6, none⟩ (.slice (some ⟨g, 0, none⟩) LW cap))) := by rw [HLW.out]; exact B9.out.trans POP.2
          rw [← HLW.out] at p6
          have hcc : (LW : Int) ≤ (cap : Int) := by have := HLW.out; simp at hncap; omega
          clear POP S9 B9 hncap
          go_upto_region 10 with fail
          go_cut [5] from 57 to 70 (fun s wx => s = .int .i64 (pp : Int) ∧ Hid (ClS B wx p gh la lc l ia ic c hs ws0 (.slice (some ⟨g, 0, none⟩) LW cap)) ∧ Hid (Below p w wx))
          case first =>
            go_region
            all_goals
              go_wp2_with fail
              go_meet
              exact ⟨rfl, S5.out.later ⟨rfl, rfl, rfl, Nat.le_refl _, fun _ _ => rfl⟩, B5.out.trans ⟨rfl, rfl, rfl, Nat.le_refl _, fun _ _ => rfl⟩⟩
          case rest =>
            obtain ⟨rfl, S6, B6⟩ := hcut
            have p1 := S6.out.a.cl.cell.2.1
            have p5 := S6.out.a.cl.cell.2.2.2.2.2.1
            rw [← HN.out] at p1 p5
            obtain ⟨gi, oi, hia, hgi, at_⟩ := S6.out.a.is.at hEX.out
            have c0 := at_.c0
            have c1 := at_.c1
            have c2 := at_.c2
            have cH := (S6.out.hat hEH.out).1
            rw [hia] at p1
            have gil : gi < wc.heap.size := Nat.lt_of_lt_of_le hgi S6.out.a.hB
            have pcl := S6.out.a.cl.lt
            have ghl := S6.out.ghl
            have ngi : ¬ gi = wc.heap.size := by omega
            have npc : ¬ p = wc.heap.size := by omega
            have ngh : ¬ gh = wc.heap.size := by omega
            have ppi : (pp : Int) < (k : Int) := by omega
            have pp0 : (0 : Int) ≤ (pp : Int) := by omega
            obtain ⟨t0, t1, t2, b4⟩ := in_box wc x wc.heap.size (wc.alloc (inB x)) rfl rfl
            have T : Hid ((wc.alloc (inB x)).cell? ⟨wc.heap.size, 0, none⟩ = some (.int .i64 x.op) ∧ (wc.alloc (inB x)).cell? ⟨wc.heap.size, 1, none⟩ = some (.int .i64 x.n) ∧ (wc.alloc (inB x)).cell? ⟨wc.heap.size, 2, none⟩ = some (.int .i64 x.m)) := ⟨t0, t1, t2⟩
            have S7 : Hid (ClS B (wc.alloc (inB x)) p gh la lc l ia ic c hs ws0 (.slice (some ⟨g, 0, none⟩) LW cap)) := S6.out.later b4
            have B7 : Hid (Below p w (wc.alloc (inB x))) := B6.out.trans (b4.mono (Nat.le_of_lt pcl))
            have Z7 : Hid (wc.heap.size < (wc.alloc (inB x)).heap.size) := (by simp : wc.heap.size < (wc.alloc (inB x)).heap.size)
            clear at_ t0 t1 t2 b4 S6 B6 S5 B5 hgi p6 f6
            go_upto_region 11 with fail
            go_cut [5, 6, 7] from 71 to 85 (fun s5 s6 s7 wx => s5 = .int .i64 (pp : Int) ∧ ∃ bx, s6 = .pointer (some ⟨bx, 0, none⟩) ∧ s7 = .int .i64 h ∧ Hid (wx.cell? ⟨bx, 0, none⟩ = some (.int .i64 x.op) ∧ wx.cell? ⟨bx, 1, none⟩ = some (.int .i64 x.n) ∧ wx.cell? ⟨bx, 2, none⟩ = some (.int .i64 x.m)) ∧ Hid (bx < wx.heap.size) ∧ Hid (ClS B wx p gh la lc l ia ic c hs ws0 (.slice (some ⟨g, 0, none⟩) LW cap)) ∧ Hid (Below p w wx))
            case first =>
              go_region
              all_goals
                go_wp2_with fail
                go_meet
                exact ⟨rfl, _, rfl, rfl, T.out, Z7.out, S7.out.later ⟨rfl, rfl, rfl, Nat.le_refl _, fun _ _ => rfl⟩, B7.out.trans ⟨rfl, rfl, rfl, Nat.le_refl _, fun _ _ => rfl⟩⟩
            case rest =>
              obtain ⟨rfl, bx, rfl, rfl, TT, ZZ, S8, B8⟩ := hcut
              clear T S7 B7 Z7 c0 c1 c2 cH p1 p5 hia gil pcl ghl ngi npc ngh
              have HXA : Hid (Cd.hl x = true ∧ Cd.al Cd.top l c x = true) := Cd.fm_at HF.out hEX.out
              have EM : Hid _ := cdMv_any x B p la lc l ia ic c _ _ wc S8.out.a (Cd.hl_bd HXA.out.1).1 (Cd.hl_bd HXA.out.1).2 (fun e => ⟨(Cd.al_19 HXA.out.2 e).1, (Cd.al_19 HXA.out.2 e).2.1⟩)
              obtain ⟨T, hT⟩ : ∃ T, Cd.tk x = T := ⟨_, rfl⟩
              obtain ⟨L, hL⟩ : ∃ L, Cd.lv l x = L := ⟨_, rfl⟩
              have hT0 : 0 ≤ T := by rw [← hT]; exact Cd.tk_bd HXA.out.2
              have hL0 : 0 ≤ L ∧ L ≤ 1 := by rw [← hL]; exact Cd.lv_bd l x
              have HT : Hid (Cd.tk x = T) := hT
              have HLv : Hid (Cd.lv l x = L) := hL
              rw [hT, hL] at EM
              obtain ⟨t0, t1, t2⟩ := TT.out
              have hz := ZZ.out
              clear hT hL TT
              go_wp2_with fail
              refine Calls.mono EM.out ?_
              rintro e9 w9 ⟨rfl, b9⟩
              have s0 := (b9.cell (p := ⟨bx, 0, none⟩) hz).trans t0
              have s1 := (b9.cell (p := ⟨bx, 1, none⟩) hz).trans t1
              have s2 := (b9.cell (p := ⟨bx, 2, none⟩) hz).trans t2
              have hz9 : bx < w9.heap.size := Nat.lt_of_lt_of_le hz b9.size
              have S9 : Hid (ClS B w9 p gh la lc l ia ic c hs ws0 (.slice (some ⟨g, 0, none⟩) LW cap)) := S8.out.later b9
              have B9 : Hid (Below p w w9) := B8.out.trans (b9.mono (Nat.le_of_lt S8.out.a.cl.lt))
              clear b9 t0 t1 t2 hz ZZ S8 B8 EM
              by_cases hTh : T ≤ h
              · have EB : Hid _ := cdBare_any x w9
                go_wp2_with fail
                refine Calls.mono EB.out ?_
                rintro e10 w10 ⟨rfl, b10⟩
                have u0 := (b10.cell (p := ⟨bx, 0, none⟩) hz9).trans s0
                have u1 := (b10.cell (p := ⟨bx, 1, none⟩) hz9).trans s1
                have u2 := (b10.cell (p := ⟨bx, 2, none⟩) hz9).trans s2
                have hz10 : bx < w10.heap.size := Nat.lt_of_lt_of_le hz9 b10.size
                have S10 : Hid (ClS B w10 p gh la lc l ia ic c hs ws0 (.slice (some ⟨g, 0, none⟩) LW cap)) := S9.out.later b10
                have B10 : Hid (Below p w w10) := B9.out.trans (b10.mono (Nat.le_of_lt S9.out.a.cl.lt))
                clear b10 s0 s1 s2 hz9 S9 B9 EB
                by_cases hbad : Cd.bare x = true ∧ h ≠ T
                · obtain ⟨hb1, hb2⟩ := hbad
                  have FIN : Hid (CbQ p l c w (.returned (.bool false)) w10) := ⟨B10.out, .inl ⟨rfl, Cd.bad_here hRC.out hEQ.out hEX.out (fun hh => by have := hh.2 hb1; rw [HT.out] at this; exact hb2 this)⟩⟩
                  have hbn : (h == T) = false := beq_eq_false_iff_ne.2 hb2
                  have hbm : (h != T) = true := by simp [bne, hbn]
                  have hbd : decide (h = T) = false := decide_eq_false hb2
                  have hbe : ¬ h = T := hb2
                  rw [hb1]
                  clear B10 S10 hb2
                  go_wp2_with fail
                  try rw [Exit.noGoto_ret]
                  go_ret
                  exact FIN.out
                · have hbare : Cd.bare x = true → h = T := fun hb => by
                    by_cases e : h = T
                    · exact e
                    · exact absurd ⟨hb, e⟩ hbad
                  have HBA : Hid (Cd.bare x = true → h = T) := hbare
                  by_cases ho : x.op = 20
                  · have hob : (x.op == 20) = true := by rw [ho]; rfl
                    have CF : Hid (Cd.CI l c hs ws0 (-1)) := hCT.out.put hEQ.out hEH.out hEX.out ⟨by rw [HT.out]; exact hTh, fun hb => by rw [HT.out]; exact hbare hb, fun hn => absurd ho hn⟩
                    cases hb : Cd.bare x with
                    | false =>
                      clear hbad hbare ho hb
                      go_wp2_with fail
                      go_roundg (Cd.lft hs ws0)
                      case measure => have a2 := GL.out; omega
                      case rel => exact ⟨hs, ws0, _, rfl, S10, CF, B10, rfl, by have a2 := GL.out; omega⟩
                    | true =>
                      have he : h = T := hbare hb
                      have heb : (h == T) = true := by rw [he]; exact beq_self_eq_true _
                      have hem : (h != T) = false := by simp [bne, heb]
                      have hed : decide (h = T) = true := decide_eq_true he
                      clear hbad hbare ho hb he
                      go_wp2_with fail
                      go_roundg (Cd.lft hs ws0)
                      case measure => have a2 := GL.out; omega
                      case rel => exact ⟨hs, ws0, _, rfl, S10, CF, B10, rfl, by have a2 := GL.out; omega⟩
                  · have hob : (x.op == 20) = false := beq_eq_false_iff_ne.2 ho
                    have HOP : Hid (x.op ≠ 20) := ho
                    have hCT2 : Hid (Cd.CI l c hs ws0 pp) := by rw [← hEQ.out]; exact hCT.out
                    have EBh : Hid _ := cdBehind_any x pp (by omega) ((S10.out.a.ck.1 x (List.mem_of_getElem? hEX.out)).2.1) w10
                    have w11 : wrap64 (h - T) = h - T := by unfold wrap64; omega
                    have w12 : wrap64 (h - T + L) = h - T + L := by unfold wrap64; omega
                    cases hb : Cd.bare x with
                    | false =>
                      clear hbad ho hb
                      go_wp2_with fail
                      refine Calls.mono EBh.out ?_
                      rintro e13 w13 ⟨rfl, b13⟩
                      have S13 : Hid (ClS B w13 p gh la lc l ia ic c hs ws0 (.slice (some ⟨g, 0, none⟩) LW cap)) := S10.out.later b13
                      have B13 : Hid (Below p w w13) := B10.out.trans (b13.mono (Nat.le_of_lt S10.out.a.cl.lt))
                      clear b13 S10 B10 EBh u0 u1 u2 hz10
                      go_wp2_with fail
                      go_loopg [4, 110] 2 (fun g2 f i wy => CbI B p gh la lc l ia ic c w pp h (h - T + L) pp x (Cd.lft hs ws0) g2 f i wy)
                      case atStart => exact ⟨0, hs, ws0, _, by omega, rfl, rfl, S13, hCT2, B13, Nat.le_refl _, hEH, (fun h => by omega), (fun h => by omega)⟩
                      case round =>
                        clear S13 B13
                        obtain ⟨j, hs2, ws2, wv2, hj, rfl, rfl, S, CI, BR, GG, EH, N1, N2⟩ := hrel
                        cases gk with
                        | zero =>
                          obtain rfl : j = 2 := by omega
                          have CF : Hid (Cd.CI l c hs2 ws2 (-1)) := CI.out.put rfl EH.out hEX.out ⟨by rw [HT.out]; exact hTh, fun hb => by rw [HT.out]; exact hbare hb, fun ho => by
                            have hx := Cd.nx_bd HXA.out.2 pp
                            rw [HT.out, HLv.out]
                            exact ⟨by omega, hx.1, hx.2, N1.out (by omega), N2.out (by omega)⟩⟩
                          clear N1 N2 EH CI
                          go_wp2_with fail
                          go_roundg (Cd.lft hs2 ws2)
                          case measure => have a1 := GG.out; have a2 := GL.out; omega
                          case rel => exact ⟨hs2, ws2, wv2, rfl, S, CF, BR, rfl, by have a1 := GG.out; have a2 := GL.out; omega⟩
                        | succ g2 =>
                          have hw2 : ws2.length ≤ 1000000 := by
                            have a1 := GG.out; have a2 := GL.out
                            unfold Cd.lft at a1 a2
                            omega
                          have hx := Cd.nx_bd HXA.out.2 pp
                          rcases (by omega : j = 0 ∨ j = 1) with rfl | rfl
                          · obtain ⟨nx, hnx⟩ : ∃ nx : Nat, Cd.n1 x pp = nx := ⟨(Cd.n1 x pp).toNat, by omega⟩
                            have HNX : Hid (Cd.n1 x pp = nx) := hnx
                            have ER : Hid _ := cdReach_ci nx (h - T + L) B p gh la lc l ia ic c hs2 ws2 wv2 wr S.out pp CI.out (by
                              rw [← hnx, ← HT.out, ← HLv.out]
                              exact Cd.Rc.one pp h x (by rw [← hEQ.out]; exact hRC.out) (by omega) (by rw [Int.toNat_natCast]; exact hEX.out) HOP.out) (by omega) hw2
                            rw [← hnx] at ER
                            clear hnx N1 N2 hx CI S
                            have hix0 := ix0
                            have hix1 := ix1
                            go_wp2_with fail
                            refine Calls.mono ER.out ?_
                            rintro e7 w7 ⟨b7, hs7, ws7, rfl, Q7⟩
                            have Q : Hid _ := Q7
                            clear Q7 ER
                            cases b7 with
                            | false =>
                              have FIN : Hid (CbQ p l c w (.returned (.bool false)) w7) := ⟨BR.out.trans Q.out.bel, .inl ⟨rfl, Q.out.no rfl⟩⟩
                              clear Q BR
                              go_wp2_with fail
                              try rw [Exit.noGoto_ret]
                              go_ret
                              exact FIN.out
                            | true =>
                              obtain ⟨wv7, s7⟩ := Q.out.cls
                              obtain ⟨y1, y2, y3, y4⟩ := Q.out.yes rfl
                              have RR : Hid (CbI B p gh la lc l ia ic c w pp h (h - T + L) pp x (Cd.lft hs ws0) g2 (.bool true) (.int .i64 (1 : Nat)) w7) := ⟨1, hs7, ws7, wv7, by omega, rfl, rfl, s7, y1, BR.out.trans Q.out.bel, (Nat.le_trans y4 GG.out : Cd.lft hs7 ws7 ≤ Cd.lft hs ws0), y3 _ _ EH.out (by omega), (fun _ => by rw [HNX.out, Int.toNat_natCast]; exact y2), (fun h => by omega)⟩
                              clear s7 y1 y2 y3 y4 Q BR EH GG
                              go_wp2_with fail
                              go_roundg g2
                              case measure => omega
                              case rel => exact RR.out
                          · obtain ⟨nx, hnx⟩ : ∃ nx : Nat, Cd.n2 x pp = nx := ⟨(Cd.n2 x pp).toNat, by omega⟩
                            have HNX : Hid (Cd.n2 x pp = nx) := hnx
                            have ER : Hid _ := cdReach_ci nx (h - T + L) B p gh la lc l ia ic c hs2 ws2 wv2 wr S.out pp CI.out (by
                              rw [← hnx, ← HT.out, ← HLv.out]
                              exact Cd.Rc.two pp h x (by rw [← hEQ.out]; exact hRC.out) (by omega) (by rw [Int.toNat_natCast]; exact hEX.out) HOP.out) (by omega) hw2
                            rw [← hnx] at ER
                            have N1' : Hid (hs2[(Cd.n1 x pp).toNat]? = some (h - T + L)) := N1.out (by omega)
                            clear hnx N1 N2 hx CI S
                            have hix0 := ix0
                            have hix1 := ix1
                            go_wp2_with fail
                            refine Calls.mono ER.out ?_
                            rintro e7 w7 ⟨b7, hs7, ws7, rfl, Q7⟩
                            have Q : Hid _ := Q7
                            clear Q7 ER
                            cases b7 with
                            | false =>
                              have FIN : Hid (CbQ p l c w (.returned (.bool false)) w7) := ⟨BR.out.trans Q.out.bel, .inl ⟨rfl, Q.out.no rfl⟩⟩
                              clear Q BR
                              go_wp2_with fail
                              try rw [Exit.noGoto_ret]
                              go_ret
                              exact FIN.out
                            | true =>
                              obtain ⟨wv7, s7⟩ := Q.out.cls
                              obtain ⟨y1, y2, y3, y4⟩ := Q.out.yes rfl
                              have RR : Hid (CbI B p gh la lc l ia ic c w pp h (h - T + L) pp x (Cd.lft hs ws0) g2 (.bool true) (.int .i64 (2 : Nat)) w7) := ⟨2, hs7, ws7, wv7, by omega, rfl, rfl, s7, y1, BR.out.trans Q.out.bel, (Nat.le_trans y4 GG.out : Cd.lft hs7 ws7 ≤ Cd.lft hs ws0), y3 _ _ EH.out (by omega), (fun _ => y3 _ _ N1'.out (by omega)), (fun _ => by rw [HNX.out, Int.toNat_natCast]; exact y2)⟩
                              clear s7 y1 y2 y3 y4 Q BR EH GG
                              go_wp2_with fail
                              go_roundg g2
                              case measure => omega
                              case rel => exact RR.out
                    | true =>
                      have he : h = T := hbare hb
                      have heb : (h == T) = true := by rw [he]; exact beq_self_eq_true _
                      have hem : (h != T) = false := by simp [bne, heb]
                      have hed : decide (h = T) = true := decide_eq_true he
                      clear hbad ho hb he
                      go_wp2_with fail
                      refine Calls.mono EBh.out ?_
                      rintro e13 w13 ⟨rfl, b13⟩
                      have S13 : Hid (ClS B w13 p gh la lc l ia ic c hs ws0 (.slice (some ⟨g, 0, none⟩) LW cap)) := S10.out.later b13
                      have B13 : Hid (Below p w w13) := B10.out.trans (b13.mono (Nat.le_of_lt S10.out.a.cl.lt))
                      clear b13 S10 B10 EBh u0 u1 u2 hz10
                      go_wp2_with fail
                      go_loopg [4, 110] 2 (fun g2 f i wy => CbI B p gh la lc l ia ic c w pp h (h - T + L) pp x (Cd.lft hs ws0) g2 f i wy)
                      case atStart => exact ⟨0, hs, ws0, _, by omega, rfl, rfl, S13, hCT2, B13, Nat.le_refl _, hEH, (fun h => by omega), (fun h => by omega)⟩
                      case round =>
                        clear S13 B13
                        obtain ⟨j, hs2, ws2, wv2, hj, rfl, rfl, S, CI, BR, GG, EH, N1, N2⟩ := hrel
                        cases gk with
                        | zero =>
                          obtain rfl : j = 2 := by omega
                          have CF : Hid (Cd.CI l c hs2 ws2 (-1)) := CI.out.put rfl EH.out hEX.out ⟨by rw [HT.out]; exact hTh, fun hb => by rw [HT.out]; exact hbare hb, fun ho => by
                            have hx := Cd.nx_bd HXA.out.2 pp
                            rw [HT.out, HLv.out]
                            exact ⟨by omega, hx.1, hx.2, N1.out (by omega), N2.out (by omega)⟩⟩
                          clear N1 N2 EH CI
                          go_wp2_with fail
                          go_roundg (Cd.lft hs2 ws2)
                          case measure => have a1 := GG.out; have a2 := GL.out; omega
                          case rel => exact ⟨hs2, ws2, wv2, rfl, S, CF, BR, rfl, by have a1 := GG.out; have a2 := GL.out; omega⟩
                        | succ g2 =>
                          have hw2 : ws2.length ≤ 1000000 := by
                            have a1 := GG.out; have a2 := GL.out
                            unfold Cd.lft at a1 a2
                            omega
                          have hx := Cd.nx_bd HXA.out.2 pp
                          rcases (by omega : j = 0 ∨ j = 1) with rfl | rfl
                          · obtain ⟨nx, hnx⟩ : ∃ nx : Nat, Cd.n1 x pp = nx := ⟨(Cd.n1 x pp).toNat, by omega⟩
                            have HNX : Hid (Cd.n1 x pp = nx) := hnx
                            have ER : Hid _ := cdReach_ci nx (h - T + L) B p gh la lc l ia ic c hs2 ws2 wv2 wr S.out pp CI.out (by
                              rw [← hnx, ← HT.out, ← HLv.out]
                              exact Cd.Rc.one pp h x (by rw [← hEQ.out]; exact hRC.out) (by omega) (by rw [Int.toNat_natCast]; exact hEX.out) HOP.out) (by omega) hw2
                            rw [← hnx] at ER
                            clear hnx N1 N2 hx CI S
                            have hix0 := ix0
                            have hix1 := ix1
                            go_wp2_with fail
                            refine Calls.mono ER.out ?_
                            rintro e7 w7 ⟨b7, hs7, ws7, rfl, Q7⟩
                            have Q : Hid _ := Q7
                            clear Q7 ER
                            cases b7 with
                            | false =>
                              have FIN : Hid (CbQ p l c w (.returned (.bool false)) w7) := ⟨BR.out.trans Q.out.bel, .inl ⟨rfl, Q.out.no rfl⟩⟩
                              clear Q BR
                              go_wp2_with fail
                              try rw [Exit.noGoto_ret]
                              go_ret
                              exact FIN.out
                            | true =>
                              obtain ⟨wv7, s7⟩ := Q.out.cls
                              obtain ⟨y1, y2, y3, y4⟩ := Q.out.yes rfl
                              have RR : Hid (CbI B p gh la lc l ia ic c w pp h (h - T + L) pp x (Cd.lft hs ws0) g2 (.bool true) (.int .i64 (1 : Nat)) w7) := ⟨1, hs7, ws7, wv7, by omega, rfl, rfl, s7, y1, BR.out.trans Q.out.bel, (Nat.le_trans y4 GG.out : Cd.lft hs7 ws7 ≤ Cd.lft hs ws0), y3 _ _ EH.out (by omega), (fun _ => by rw [HNX.out, Int.toNat_natCast]; exact y2), (fun h => by omega)⟩
                              clear s7 y1 y2 y3 y4 Q BR EH GG
                              go_wp2_with fail
                              go_roundg g2
                              case measure => omega
                              case rel => exact RR.out
                          · obtain ⟨nx, hnx⟩ : ∃ nx : Nat, Cd.n2 x pp = nx := ⟨(Cd.n2 x pp).toNat, by omega⟩
                            have HNX : Hid (Cd.n2 x pp = nx) := hnx
                            have ER : Hid _ := cdReach_ci nx (h - T + L) B p gh la lc l ia ic c hs2 ws2 wv2 wr S.out pp CI.out (by
                              rw [← hnx, ← HT.out, ← HLv.out]
                              exact Cd.Rc.two pp h x (by rw [← hEQ.out]; exact hRC.out) (by omega) (by rw [Int.toNat_natCast]; exact hEX.out) HOP.out) (by omega) hw2
                            rw [← hnx] at ER
                            have N1' : Hid (hs2[(Cd.n1 x pp).toNat]? = some (h - T + L)) := N1.out (by omega)
                            clear hnx N1 N2 hx CI S
                            have hix0 := ix0
                            have hix1 := ix1
                            go_wp2_with fail
                            refine Calls.mono ER.out ?_
                            rintro e7 w7 ⟨b7, hs7, ws7, rfl, Q7⟩
                            have Q : Hid _ := Q7
                            clear Q7 ER
                            cases b7 with
                            | false =>
                              have FIN : Hid (CbQ p l c w (.returned (.bool false)) w7) := ⟨BR.out.trans Q.out.bel, .inl ⟨rfl, Q.out.no rfl⟩⟩
                              clear Q BR
                              go_wp2_with fail
                              try rw [Exit.noGoto_ret]
                              go_ret
                              exact FIN.out
                            | true =>
                              obtain ⟨wv7, s7⟩ := Q.out.cls
                              obtain ⟨y1, y2, y3, y4⟩ := Q.out.yes rfl
                              have RR : Hid (CbI B p gh la lc l ia ic c w pp h (h - T + L) pp x (Cd.lft hs ws0) g2 (.bool true) (.int .i64 (2 : Nat)) w7) := ⟨2, hs7, ws7, wv7, by omega, rfl, rfl, s7, y1, BR.out.trans Q.out.bel, (Nat.le_trans y4 GG.out : Cd.lft hs7 ws7 ≤ Cd.lft hs ws0), y3 _ _ EH.out (by omega), (fun _ => y3 _ _ N1'.out (by omega)), (fun _ => by rw [HNX.out, Int.toNat_natCast]; exact y2)⟩
                              clear s7 y1 y2 y3 y4 Q BR EH GG
                              go_wp2_with fail
                              go_roundg g2
                              case measure => omega
                              case rel => exact RR.out
              · have FIN : Hid (CbQ p l c w (.returned (.bool false)) w9) := ⟨B9.out, .inl ⟨rfl, Cd.bad_here hRC.out hEQ.out hEX.out (fun hh => by have := hh.1; rw [HT.out] at this; exact hTh this)⟩⟩
                clear B9 S9
                go_wp2_with fail
                try rw [Exit.noGoto_ret]
                go_ret
                exact FIN.out
end Go.Proofs.YtkjkiknpgggadaaDoor

