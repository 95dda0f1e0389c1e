/- Layer 4: a procedure's variables (the program's variables). -/
/- Layer 4: whether names are unlike (the program's unlike). -/
/- Layer 4: what is asked of a procedure's variables as a whole (the program's declarations). -/
/- Layer 4: what is asked of the program as a whole (the program's whole). -/
/- Layer 4: whether each way through statements returns (the program's returns). -/
/- Layer 4: what a checker has found out so far, in memory. -/
import Derived.Test.YtobiedmmjiedlaaZCkV
import Derived.Test.YtobiedmmjiedlaaZCkY
import Derived.Test.YtobiedmmjiedlaaZCkG
import Derived.Test.YtobiedmmjiedlaaZCkU
namespace Go.Proofs.Ytobiedmmjiedlaa
open Go.RowKit

/-- A parameter, as a variable. -/
def paV (tl : Int) (x : Sy.Pa) : CkVa := ⟨x.name, x.type, 0, 0, tl⟩
/-- A procedure's variables. -/
def ckVs (x : Sy.Pc) : List CkVa := x.params.map (paV (Sy.cts x.body + 1)) ++ ckDs x.body 0 (Sy.cts x.body)
/-- Its variables, the first q parameters' scopes closed. -/
def ckVq (x : Sy.Pc) (q : Nat) : List CkVa := (x.params.take q).map (paV (Sy.cts x.body + 1)) ++ ((x.params.drop q).map (paV 0) ++ ckDs x.body 0 (Sy.cts x.body))
theorem ckVq_zero (x : Sy.Pc) : ckVq x 0 = x.params.map (paV 0) ++ ckDs x.body 0 (Sy.cts x.body) := by simp [ckVq]
theorem ckVq_end (x : Sy.Pc) : ckVq x x.params.length = ckVs x := by simp [ckVq, ckVs]
theorem ckVq_len (x : Sy.Pc) (q : Nat) : (ckVq x q).length = x.params.length + (ckDs x.body 0 (Sy.cts x.body)).length := by
  simp [ckVq]; omega
theorem ckVq_step (x : Sy.Pc) {q : Nat} (h : q < x.params.length) : ckTl (Sy.cts x.body + 1) (ckVq x q) q = ckVq x (q + 1) := by
  have e1 : x.params.drop q = x.params[q] :: x.params.drop (q + 1) := List.drop_eq_getElem_cons h
  have e2 : x.params.take (q + 1) = x.params.take q ++ [x.params[q]] := by rw [List.take_add_one, List.getElem?_eq_getElem h]; rfl
  have hl : ((x.params.take q).map (paV (Sy.cts x.body + 1))).length = q := by simp; omega
  unfold ckVq
  rw [e1, e2, List.map_cons, List.cons_append]
  have := ckTl_mid (Sy.cts x.body + 1) ((x.params.take q).map (paV (Sy.cts x.body + 1))) ((x.params.drop (q + 1)).map (paV 0) ++ ckDs x.body 0 (Sy.cts x.body)) (paV 0 x.params[q])
  rw [hl] at this
  rw [this, List.map_append, List.append_assoc]
  rfl
theorem PaS.at {A : Nat → Prop} {w : World} {pa : Option Addr} {pc : Nat} {l : List Sy.Pa} (h : PaS A w (.slice pa l.length pc) l) (j : Nat) (hj : j < l.length) : ∃ g o x, pa = some ⟨g, o, none⟩ ∧ A g ∧ g < w.heap.size ∧ l[j]? = some x ∧ w.cell? ⟨g, o + j * 2, none⟩ = some (.string ⟨x.name.toArray⟩) ∧ w.cell? ⟨g, o + j * 2 + 1, none⟩ = some (.int .i64 x.type) := by
  obtain ⟨a, c, e, h⟩ := h
  cases e
  obtain ⟨g, o, e, ha, hg, h⟩ := h (by omega)
  obtain ⟨x, e1, e2, e3⟩ := h j hj
  exact ⟨g, o, x, e, ha, hg, e1, e2, e3⟩
/-- Parameters are made variables. -/
structure DV (W : World) (p : Nat) (x : Sy.Pc) (j : Nat) (v1 : Value) (wr : World) : Prop where
  d : Dc wr p v1 ((x.params.take j).map (paV 0)) 0
  mv : DM p W (.slice none 0 0) wr v1
theorem DV.step {W wr wA w2 : World} {p : Nat} {x : Sy.Pc} {j : Nat} {v1 v2 : Value} {a : Sy.Pa} (h : DV W p x j v1 wr) (hj : x.params[j]? = some a) (bA : Below wr.heap.size wr wA) (h2 : w2.ownsRow (p + 1) 57 5 v2 (((x.params.take j).map (paV 0)).length + 1) (vaC ((x.params.take j).map (paV 0)) ++ [.string ⟨a.name.toArray⟩, .int .i64 a.type, .int .i64 0, .int .i64 0, .int .i64 0])) (g2 : wA.grownBy w2 v1.ownBlock) (o2 : v2.ownBlock = v1.ownBlock ∨ ∃ g, v2.ownBlock = some g ∧ wA.heap.size ≤ g) : DV W p x (j + 1) v2 (w2.setCell ⟨p, 0, none⟩ v2) := by
  have M := Dc.more (x := paV 0 a) (h.d.later bA) h2 g2 o2
  refine ⟨?_, h.mv.trans ((DM.of_below _ bA).trans M.2)⟩
  have : (x.params.take (j + 1)).map (paV 0) = (x.params.take j).map (paV 0) ++ [paV 0 a] := by rw [List.take_add_one, hj, List.map_append]; rfl
  rw [this]
  exact M.1
/-- The first q parameters' scopes are closed. -/
structure DW (W : World) (p : Nat) (x : Sy.Pc) (q : Nat) (v1 : Value) (wq : World) : Prop where
  d : Dc wq p v1 (ckVq x q) (Sy.cts x.body)
  mv : DM p W (.slice none 0 0) wq v1
theorem DW.step {W wq : World} {p : Nat} {x : Sy.Pc} {q g n cap : Nat} (h : DW W p x q (.slice (some ⟨g, 0, none⟩) n cap) wq) (hn : n = x.params.length + (ckDs x.body 0 (Sy.cts x.body)).length) (hq : q < x.params.length) : DW W p x (q + 1) (.slice (some ⟨g, 0, none⟩) n cap) (wq.setCell ⟨g, q * 5 + 4, none⟩ (.int .i64 (Sy.cts x.body + 1))) := by
  have hl := ckVq_len x q
  rw [← hn] at hl
  subst hl
  have hc := h.d.close (tl := Sy.cts x.body + 1) (i := q) (by omega)
  rw [ckVq_step x hq] at hc
  exact ⟨hc.1, h.mv.trans hc.2⟩
/-- Behind the last parameter. -/
theorem DW.done {W wq w : World} {p : Nat} {x : Sy.Pc} {v1 : Value} (h : DW W p x x.params.length v1 wq) (hl : x.params.length + Sy.cts x.body ≤ 1000000) (hp : w.heap.size ≤ p) : ∃ va vc, v1 = .slice va (ckVs x).length vc ∧ VaS wq va (ckVs x) ∧ (∀ g o, va = some ⟨g, o, none⟩ → w.heap.size ≤ g) := by
  have hd := h.d
  rw [ckVq_end] at hd
  obtain ⟨va, vc, hv⟩ := own_shape hd.row
  have hle : (ckVs x).length ≤ 1000000 := by
    have := ckDs_bound x.body 0 (Sy.cts x.body)
    simp [ckVs]; omega
  refine ⟨va, vc, hv, ⟨by omega, fun h0 => ?_⟩, fun g o e => ?_⟩
  · obtain ⟨g, cap, e, hg1, hg2, hat⟩ := hd.at h0
    rw [hv] at e
    cases e
    refine ⟨g, 0, rfl, hg2, fun j hj => ?_⟩
    have := (hat j hj).1
    rw [Nat.zero_add]
    exact this
  · have := (World.ownsRow.lt hd.row g (by rw [hv, e]; rfl)).1
    omega
set_option maxRecDepth 100000 in
set_option maxHeartbeats 4000000 in
/-- variables of a procedure. -/
theorem ckVars_any (A : Nat → Prop) (x : Sy.Pc) (pa : Option Addr) (pc : Nat) (ba : Option Addr) (bc : Nat) (w : World) (hpa : PaS A w (.slice pa x.params.length pc) x.params) (hb : SmS A w (.slice ba x.body.length bc) x.body) (hl : x.params.length + Sy.cts x.body ≤ 1000000) :
    Calls Try.prog 63 #[pcV x pa pc ba bc] w fun e w' => ∃ va vc, e = .returned (.slice va (ckVs x).length vc) ∧ VaS w' va (ckVs x) ∧ (∀ g o, va = some ⟨g, o, none⟩ → w.heap.size ≤ g) ∧ Below w.heap.size w w' := by
  have HP : Hid (PaS A w (.slice pa x.params.length pc) x.params) := hpa
  have HB : Hid (SmS (fun g => g < w.heap.size) w (.slice ba x.body.length bc) x.body) := hb.mono fun g hg _ => hg
  have HL : Hid (x.params.length + Sy.cts x.body ≤ 1000000) := hl
  obtain ⟨j0, hjj, hy0, hy1, hy2⟩ := info_parts infoVa
  clear hpa hb hl
  unfold pcV
  go_enter Try.func63, Try.ntmps63
  go_upto_region 2 with fail
  obtain ⟨W, hW⟩ : ∃ W, W = (w.alloc (pcB x pa pc ba bc)).alloc (.cells #[.slice none 0 0, .int .i64 0] 130) := ⟨_, rfl⟩
  rw [← hW]
  obtain ⟨p, hp⟩ : ∃ p, p = w.heap.size + 1 := ⟨_, rfl⟩
  have BW : Hid (Below w.heap.size w W) := by rw [hW]; exact (box_below w _).trans ((box_below _ _).mono (by simp))
  have t1 : W.cell? ⟨w.heap.size, 1, none⟩ = some (.slice pa x.params.length pc) := by rw [hW]; simp [go_sem]
  have t3 : W.cell? ⟨w.heap.size, 3, none⟩ = some (.slice ba x.body.length bc) := by rw [hW]; simp [go_sem]
  have zW : W.heap.size = w.heap.size + 2 := by rw [hW]; simp
  have D0 : Hid (Dc W p (.slice none 0 0) [] 0) := by
    rw [hW, hp]
    refine ⟨by simp [go_sem], by simp [go_sem], by simp [go_sem], by simp [go_sem], by simp, ?_⟩
    exact World.ownsRow_nil _ _ _ _
  rw [← hp]
  have HPP : Hid (p = w.heap.size + 1) := hp
  have ZW : Hid (W.heap.size = w.heap.size + 2) := zW
  clear hW hp zW
  go_wp2_with fail
  go_loopw [10] (fun i wr => ∃ (j : Nat) (v1 : Value), j ≤ x.params.length ∧ i = .int .i64 j ∧ DV W p x j v1 wr) (fun i _ => x.params.length - (intOf i).toNat)
  case atStart => exact ⟨0, _, by omega, rfl, by simpa using D0.out, DM.refl _ _ _⟩
  case round =>
    obtain ⟨j, v1, hj, rfl, D⟩ := hrel
    have hpr := D.d.lt
    have hL := HL.out
    by_cases hlt : j < x.params.length
    · obtain ⟨g, o, a, rfl, -, hg, el, c0', c1'⟩ := HP.out.at j hlt
      have kg := (D.mv.far g (by have := ZW.out; omega) (by have := HPP.out; omega) (fun e => by cases e)).1
      have kb := BW.out.block g hg
      have c0 : wr.cell? ⟨g, o + j * 2, none⟩ = some (.string ⟨a.name.toArray⟩) := (World.cell?_of_block (w := W) (a := ⟨g, o + j * 2, none⟩) kg).trans ((World.cell?_of_block (w := w) (a := ⟨g, o + j * 2, none⟩) kb).trans c0')
      have c1 : wr.cell? ⟨g, o + j * 2 + 1, none⟩ = some (.int .i64 a.type) := (World.cell?_of_block (w := W) (a := ⟨g, o + j * 2 + 1, none⟩) kg).trans ((World.cell?_of_block (w := w) (a := ⟨g, o + j * 2 + 1, none⟩) kb).trans c1')
      have p0 := D.d.c0
      have fp0 := D.d.f0
      have hji : (j : Int) < (x.params.length : Int) := by omega
      have hj0 : (0 : Int) ≤ (j : Int) := by omega
      have npz : ¬ p = wr.heap.size := by omega
      obtain ⟨v0, cap, hv1⟩ := own_shape D.d.row
      subst hv1
      have HD : Hid (DV W p x j (.slice v0 ((x.params.take j).map (paV 0)).length cap) wr) := D
      have EL : Hid (x.params[j]? = some a) := el
      obtain ⟨vs4, hvs4⟩ : ∃ vs4, vs4 = (x.params.take j).map (paV 0) := ⟨_, rfl⟩
      have hvl : vs4.length ≤ 1000000 := by rw [hvs4]; simp; omega
      have RW : Hid (∀ W', Below wr.heap.size wr W' → W'.ownsRow (p + 1) 57 5 (.slice v0 vs4.length cap) vs4.length (vaC vs4)) := fun W' hW' => by rw [hvs4]; exact own_later HD.out.d.row hW'
      have VV : Hid (vs4 = (x.params.take j).map (paV 0)) := hvs4
      have HVL : Hid (vs4.length ≤ 1000000) := hvl
      rw [← hvs4] at p0
      clear D el c0' c1' kg kb hvl hvs4
      go_upto_region 5 with fail
      obtain ⟨W2, hW2⟩ : ∃ W2, W2 = wr.alloc (.cells #[.string ⟨a.name.toArray⟩, .int .i64 a.type] 69) := ⟨_, rfl⟩
      rw [← hW2]
      have b2 : Below wr.heap.size wr W2 := by rw [hW2]; exact box_below _ _
      have s0 : W2.cell? ⟨wr.heap.size, 0, none⟩ = some (.string ⟨a.name.toArray⟩) := by rw [hW2]; simp [go_sem]
      have s1 : W2.cell? ⟨wr.heap.size, 1, none⟩ = some (.int .i64 a.type) := by rw [hW2]; simp [go_sem]
      have p2 := (b2.cell (p := ⟨p, 0, none⟩) hpr).trans p0
      have f2 := (b2.frozen (p := ⟨p, 0, none⟩) hpr).trans fp0
      have hp2 : p < W2.heap.size := Nat.lt_of_lt_of_le hpr b2.size
      have B2 : Hid (Below wr.heap.size wr W2) := b2
      clear hW2 b2 c0 c1 p0 fp0
      go_wp2_with (at_builtin; refine wpList_append_told rfl _ _ 55 rfl (p + 1) 57 j0 (.agg #[.string ⟨#[]⟩, .int .i64 0, .int .i64 0, .int .i64 0, .int .i64 0]) 5 48 Try.underlying55 hjj hy0 hy1 hy2 rfl (by decide) _ _ _ rfl (RW.out _ (B2.out.trans ((box_below W2 _).mono B2.out.size))) ⟨W2.heap.size, 0, none⟩ 1 1 [.string ⟨a.name.toArray⟩, .int .i64 a.type, .int .i64 0, .int .i64 0, .int .i64 0] rfl rfl (five_cells _ _ _ _ _ _ _) (by intro y hy; simp only [List.mem_cons, List.not_mem_nil, or_false] at hy; rcases hy with rfl | rfl | rfl | rfl | rfl <;> rfl) (by have := HVL.out; unfold maxLen; omega) (by have := HVL.out; omega) (by simp; omega) (by decide) ?_)
      intro v8 w8 h8 g8 o8
      have kp := g8.block p (by simp; omega) (fun e => by have := (World.ownsRow.lt (RW.out _ (Below.refl _ _)) _ e.symm).1; omega)
      have q8 : w8.cell? ⟨p, 0, none⟩ = some (.slice v0 vs4.length cap) := (World.cell?_of_block kp).trans (by simp [go_sem, p2, hp2])
      have r8 : w8.frozen? ⟨p, 0, none⟩ = false := (World.frozen?_of_block kp).trans (by simp [go_sem, f2, hp2])
      have ST : Hid (DV W p x (j + 1) v8 (w8.setCell ⟨p, 0, none⟩ v8)) := by
        have e4 := VV.out
        subst e4
        exact DV.step HD.out EL.out (B2.out.trans ((box_below W2 _).mono B2.out.size)) h8 g8 (o8.imp id fun ⟨g, h, h3⟩ => ⟨g, h, by simpa using h3⟩)
      obtain ⟨va8, cap8, hv8⟩ := own_shape h8
      subst hv8
      clear h8 g8 o8 kp HD RW
      go_wp2_with fail
      go_roundw
      case rel => exact ⟨j + 1, _, by omega, by go_num, ST.out⟩
      case measure => simp [intOf]; omega
    · obtain rfl : j = x.params.length := by omega
      have hd := D.d
      rw [List.take_length] at hd
      have kb := D.mv.far w.heap.size (by have := ZW.out; omega) (by have := HPP.out; omega) (fun e => by cases e)
      have s1 : wr.cell? ⟨w.heap.size, 1, none⟩ = some (.slice pa x.params.length pc) := (World.cell?_of_block (w := W) (a := ⟨w.heap.size, 1, none⟩) kb.1).trans t1
      have s3 : wr.cell? ⟨w.heap.size, 3, none⟩ = some (.slice ba x.body.length bc) := (World.cell?_of_block (w := W) (a := ⟨w.heap.size, 3, none⟩) kb.1).trans t3
      have hA : ∀ g, g < w.heap.size → g < p := fun g hg => by have := HPP.out; omega
      have EB : Hid _ := ckDeclBlock_any x.body (fun g => g < w.heap.size) ba bc p v1 (x.params.map (paV 0)) 0 wr hd hA ((HB.out.later BW.out (Nat.le_refl _)).dm hA D0.out D.mv) (Int.le_refl _) (by omega) (by rw [List.length_map]; omega)
      have MV : Hid (DM p W (.slice none 0 0) wr v1) := D.mv
      have NB : Hid (¬ v1.ownBlock = some w.heap.size) := kb.2
      have hwz : w.heap.size < wr.heap.size := Nat.lt_of_lt_of_le (by have := ZW.out; omega) D.mv.size
      clear D hd kb hA
      go_wp2_with fail
      refine Calls.mono EB.out ?_
      rintro e5 w5 ⟨rfl, v5, D5', M5⟩
      have D5 : Dc w5 p v5 (ckVq x 0) (Sy.cts x.body) := by
        rw [ckVq_zero]
        simpa using D5'
      have u1 := (World.cell?_of_block (w := wr) (a := ⟨w.heap.size, 1, none⟩) (M5.far w.heap.size hwz (by have := HPP.out; omega) NB.out).1).trans s1
      have DW0 : Hid (DW W p x 0 v5 w5) := ⟨D5, MV.out.trans M5⟩
      clear D5' M5 D5 s1 s3 EB
      go_wp2_with fail
      go_loopw [31] (fun i wq => ∃ (q : Nat), q ≤ x.params.length ∧ i = .int .i64 q ∧ DW W p x q v5 wq) (fun i _ => x.params.length - (intOf i).toNat)
      case atStart => exact ⟨0, by omega, rfl, DW0.out⟩
      case round =>
        obtain ⟨q, hq, rfl, D⟩ := hrel
        by_cases hql : q < x.params.length
        · have hln := ckVq_len x q
          obtain ⟨gv, capv, hv5, hgv1, hgv2, hat⟩ := D.d.at (by rw [hln]; omega)
          have cv := (hat q (by rw [hln]; omega)).1.c4
          have fv := (hat q (by rw [hln]; omega)).2
          obtain ⟨nn, hnn⟩ : ∃ nn, nn = (ckVq x q).length := ⟨_, rfl⟩
          rw [← hnn] at hv5 hln
          subst hv5
          have p0 := D.d.c0
          have p1 := D.d.c1
          obtain ⟨M, hM⟩ : ∃ M : Int, M = (Sy.cts x.body : Int) := ⟨_, rfl⟩
          rw [← hM] at p1
          have wm : wrap64 (M + 1) = M + 1 := by unfold wrap64; omega
          have HM : Hid (M = (Sy.cts x.body : Int)) := hM
          have hqi : (q : Int) < (nn : Int) := by omega
          have hq0 : (0 : Int) ≤ (q : Int) := by omega
          have hqp : (q : Int) < (x.params.length : Int) := by omega
          have npg : ¬ p = gv := by omega
          have DD : Hid (DW W p x q (.slice (some ⟨gv, 0, none⟩) nn capv) wr) := D
          have NN : Hid (nn = x.params.length + (ckDs x.body 0 (Sy.cts x.body)).length) := hln
          clear hat D hnn hln hM
          go_wp2_with fail
          go_roundw
          case rel =>
            refine ⟨q + 1, by omega, by go_num, ?_⟩
            have e := HM.out
            subst e
            exact DW.step DD.out NN.out hql
          case measure => simp [intOf]; omega
        · obtain rfl : q = x.params.length := by omega
          obtain ⟨va, vc, hv, hvs, hge⟩ := D.done (w := w) HL.out (by have := HPP.out; omega)
          subst hv
          have p0 := D.d.c0
          have VS : Hid (VaS wr va (ckVs x)) := hvs
          have BF : Hid (Below w.heap.size w wr) := ⟨D.mv.os.trans BW.out.os, D.mv.tape.trans BW.out.tape, D.mv.output.trans BW.out.output, Nat.le_trans BW.out.size D.mv.size, fun g hg => (D.mv.far g (by have := ZW.out; omega) (by have := HPP.out; omega) (fun e => by cases e)).1.trans (BW.out.block g hg)⟩
          have HG : Hid (∀ g o, va = some ⟨g, o, none⟩ → w.heap.size ≤ g) := hge
          clear D hvs hge
          go_wp2_with fail
          go_ret
          exact ⟨va, vc, rfl, VS.out, HG.out, BF.out⟩
end Go.Proofs.Ytobiedmmjiedlaa

namespace Go.Proofs.Ytobiedmmjiedlaa
open Go.RowKit

set_option maxRecDepth 100000 in
set_option maxHeartbeats 1000000 in
theorem ckHas_any (sa : Option Addr) (c : Nat) (l : List (List UInt8)) (n : List UInt8) (w : World) (h : Tx w sa l) : Calls Try.prog 76 #[.slice sa l.length c, .string ⟨n.toArray⟩] w fun e w' => e = .returned (.bool (decide (0 ≤ ixn l n 0))) ∧ w' = w := by
  have E : Hid _ := index_any sa c l n w h
  clear h
  go_enter Try.func76, Try.ntmps76
  go_wp2_with fail
  refine Calls.mono E.out ?_
  rintro e w1 ⟨rfl, rfl⟩
  go_wp2_with fail
  go_ret
  exact ⟨rfl, rfl⟩
/-- No two names are the same. -/
def ckUq (l : List (List UInt8)) : Prop := ∀ i, i < l.length → ixn (l.take i) (l.getD i []) 0 = -1
instance (l : List (List UInt8)) : Decidable (ckUq l) := inferInstanceAs (Decidable (∀ i, i < l.length → ixn (l.take i) (l.getD i []) 0 = -1))
theorem Tx.take {w : World} {sa : Option Addr} {l : List (List UInt8)} (h : Tx w sa l) (i : Nat) : Tx w sa (l.take i) := by
  have hl : (l.take i).length ≤ l.length := by simp; omega
  refine ⟨Nat.le_trans hl h.1, fun h0 => ?_⟩
  obtain ⟨b, o, e, hb, hc⟩ := h.2 (by omega)
  refine ⟨b, o, e, hb, fun j hj => ?_⟩
  have hj' : j < i ∧ j < l.length := by simp at hj; omega
  rw [hc j hj'.2]
  simp [hj'.1]
set_option maxRecDepth 100000 in
set_option maxHeartbeats 2000000 in
theorem ckUnlike_any (sa : Option Addr) (c : Nat) (l : List (List UInt8)) (hc : l.length ≤ c) (w : World) (h : Tx w sa l) : Calls Try.prog 61 #[.slice sa l.length c] w fun e w' => e = .returned (.bool (decide (ckUq l))) ∧ w' = w := by
  have HT : Hid (Tx w sa l) := h
  have HL : Hid (l.length ≤ 1000000000000000) := h.1
  have HC : Hid (l.length ≤ c) := hc
  clear h hc
  go_enter Try.func61, Try.ntmps61
  go_wp2_with fail
  go_loopw [7] (fun i wr => ∃ k : Nat, k ≤ l.length ∧ i = .int .i64 k ∧ wr = w ∧ Hid (∀ q, q < k → ixn (l.take q) (l.getD q []) 0 = -1)) (fun i _ => l.length - (intOf i).toNat)
  case atStart => exact ⟨0, by omega, rfl, rfl, fun q hq => absurd hq (Nat.not_lt_zero q)⟩
  case round =>
    obtain ⟨k, hk, rfl, rfl, N⟩ := hrel
    by_cases hlt : k < l.length
    · obtain ⟨b, o, rfl, hb, hcell⟩ := HT.out.2 (by omega)
      have ck := hcell k hlt
      have hji : (k : Int) < (l.length : Int) := by omega
      have hj0 : (0 : Int) ≤ (k : Int) := by omega
      have hjc : (k : Int) ≤ (c : Int) := by have := HC.out; omega
      have EH := ckHas_any (some ⟨b, o, none⟩) c (l.take k) (l.getD k []) wr (HT.out.take k)
      have ek : (l.take k).length = k := by simp; omega
      rw [ek] at EH
      have EE : Hid (Calls Try.prog 76 #[.slice (some ⟨b, o, none⟩) k c, .string ⟨(l.getD k []).toArray⟩] wr fun e w' => e = .returned (.bool (decide (0 ≤ ixn (l.take k) (l.getD k []) 0))) ∧ w' = wr) := EH
      have IX : Hid _ := ixn_is (l.take k) (l.getD k []) 0
      have LK : Hid (∀ x, l.getD k [] = x → ∀ q, q < k + 1 → q < k ∨ ixn (l.take q) (l.getD q []) 0 = ixn (l.take k) x 0) := fun x hx q hq => by
        by_cases c : q < k
        · exact .inl c
        · obtain rfl : q = k := by omega
          exact .inr (by rw [hx])
      have UK : Hid (∀ x, l.getD k [] = x → ¬ ixn (l.take k) x 0 = -1 → ¬ ckUq l) := fun x hx hn h => hn (by rw [← hx]; exact h k hlt)
      clear EH hcell ek
      generalize hxx : l.getD k [] = x at ck EE IX
      have HXX : Hid (l.getD k [] = x) := hxx
      clear hxx
      go_wp2_with fail
      refine Calls.mono EE.out ?_
      rintro e w1 ⟨rfl, rfl⟩
      by_cases hx : ixn (l.take k) x 0 = -1
      · have hd : decide (0 ≤ ixn (l.take k) x 0) = false := decide_eq_false (by omega)
        have HX : Hid _ := hx
        clear hx
        rw [hd]
        clear hd
        have hL := HL.out
        go_wp2_with fail
        go_roundw
        case rel =>
          refine ⟨k + 1, by omega, by go_num, by first | trivial | rfl, fun q hq => ?_⟩
          rcases LK.out x HXX.out q hq with c | c
          · exact N.out q c
          · rw [c]; exact HX.out
        case measure => simp [intOf]; omega
      · have hd : decide (0 ≤ ixn (l.take k) x 0) = true := decide_eq_true (by
          rcases IX.out with e | ⟨j, e, _⟩
          · exact absurd e hx
          · rw [e]; omega)
        have G : Hid (false = decide (ckUq l)) := (decide_eq_false (UK.out x HXX.out hx)).symm
        clear hx
        rw [hd]
        go_wp2_with fail
        go_ret
        exact ⟨ret_bool G.out, rfl⟩
    · obtain rfl : k = l.length := by omega
      have G : Hid (true = decide (ckUq l)) := (decide_eq_true fun q hq => N.out q hq).symm
      clear N
      go_wp2_with fail
      go_ret
      exact ⟨ret_bool G.out, rfl⟩
end Go.Proofs.Ytobiedmmjiedlaa

namespace Go.Proofs.Ytobiedmmjiedlaa
open Go.RowKit

def txV (l : List (List UInt8)) : List Value := l.map fun (s : List UInt8) => Value.string ⟨s.toArray⟩
theorem txV_at {l : List (List UInt8)} {j : Nat} (h : j < l.length) : (txV l)[j]? = some (.string ⟨(l.getD j []).toArray⟩) := by simp [txV, h]
/-- The first j names, in a row of their own. -/
structure NL (w : World) (l : List (List UInt8)) (j : Nat) (u : Value) (wr : World) : Prop where
  row : wr.ownsRow w.heap.size 9 1 u (l.take j).length (txV (l.take j))
  b : Below w.heap.size w wr
theorem NL.step {w wr wA w2 : World} {l : List (List UInt8)} {j : Nat} {u u2 : Value} {s : List UInt8} (h : NL w l j u wr) (hj : l[j]? = some s) (bA : Below wr.heap.size wr wA) (h2 : w2.ownsRow w.heap.size 9 1 u2 ((l.take j).length + 1) (txV (l.take j) ++ [.string ⟨s.toArray⟩])) (g2 : wA.grownBy w2 u.ownBlock) : NL w l (j + 1) u2 w2 := by
  have e : l.take (j + 1) = l.take j ++ [s] := by rw [List.take_add_one, hj]; rfl
  refine ⟨?_, ?_⟩
  · rw [e, List.length_append]
    have : txV (l.take j ++ [s]) = txV (l.take j) ++ [.string ⟨s.toArray⟩] := by simp [txV]
    rw [this]
    exact h2
  · have hz := bA.size
    have hz0 := h.b.size
    exact h.b.trans ⟨g2.os.trans bA.os, g2.tape.trans bA.tape, g2.output.trans bA.output, Nat.le_trans bA.size g2.size, fun k hk => (g2.block k (by omega) (fun e => by have := (World.ownsRow.lt h.row _ e.symm).1; omega)).trans (bA.block k (by omega))⟩
theorem NL.done {w wr : World} {l : List (List UInt8)} {u : Value} (h : NL w l l.length u wr) (hl : l.length ≤ 1000000000000000) : ∃ sa c, u = .slice sa l.length c ∧ l.length ≤ c ∧ Tx wr sa l := by
  have hr := h.row
  rw [List.take_length] at hr
  have hc := @World.ownsRow.cells _ _ _ _ _ _ _ hr
  have hlt := World.ownsRow.lt hr
  rcases hr.2 with ⟨rfl, h0⟩ | ⟨g, cap, cur, rfl, hb, hh, hnc, _⟩
  · exact ⟨none, 0, by rw [h0], by omega, hl, fun h1 => absurd h1 (by omega)⟩
  · refine ⟨some ⟨g, 0, none⟩, cap, rfl, hnc, hl, fun _ => ⟨g, 0, rfl, (hlt g rfl).2, fun j hj => ?_⟩⟩
    have := @hc g rfl j _ (txV_at hj)
    have e : (⟨g, 0, none⟩ : Addr).add j = ⟨g, 0 + j, none⟩ := by unfold Addr.add; split <;> simp_all
    rw [e] at this
    exact this
/-- What is wrong with a procedure's variables as a whole. -/
def ckDcl (np : Nat) (vs : List CkVa) : Option Int := if np ≤ 8 ∧ vs.length ≤ 60 then (if ckUq (vs.map CkVa.name) then none else some 40) else some 2
set_option maxRecDepth 100000 in
set_option maxHeartbeats 2000000 in
theorem ckDecls_long (p : Nat) (va : Option Addr) (vc : Nat) (vs : List CkVa) (mk : Int) (x : Sy.Pc) (pa : Option Addr) (pc : Nat) (ba : Option Addr) (bc : Nat) (w : World) (h : Sco w p va vc vs mk) (hn : ¬ (x.params.length ≤ 8 ∧ vs.length ≤ 60)) :
    Calls Try.prog 64 #[.pointer (some ⟨p, 0, none⟩), pcV x pa pc ba bc] w fun e w' => e = ckPan 2 ∧ Below w.heap.size w w' := by
  have c0 := h.c0
  have hp := h.lt
  have npz : ¬ p = w.heap.size := by omega
  clear h
  unfold pcV
  by_cases h8 : x.params.length ≤ 8
  · have d8 : decide ((x.params.length : Int) ≤ 8) = true := decide_eq_true (by omega)
    have d60 : decide ((vs.length : Int) ≤ 60) = false := decide_eq_false (fun c => hn ⟨h8, by omega⟩)
    clear hn h8
    go_enter Try.func64, Try.ntmps64
    go_wp2_with fail
    refine Calls.mono (ckMust_no _ _) ?_
    rintro e2 w2 ⟨rfl, b2⟩
    unfold ckPan
    go_wp2_with fail
    exact ⟨rfl, rfl, Below.trans (by go_grown) (b2.mono (by go_size))⟩
  · have d8 : decide ((x.params.length : Int) ≤ 8) = false := decide_eq_false (by omega)
    clear hn h8
    go_enter Try.func64, Try.ntmps64
    go_wp2_with fail
    refine Calls.mono (ckMust_no _ _) ?_
    rintro e2 w2 ⟨rfl, b2⟩
    unfold ckPan
    go_wp2_with fail
    exact ⟨rfl, rfl, Below.trans (by go_grown) (b2.mono (by go_size))⟩
set_option maxRecDepth 100000 in
set_option maxHeartbeats 4000000 in
theorem ckDecls_names (p : Nat) (va : Option Addr) (vc : Nat) (vs : List CkVa) (mk : Int) (x : Sy.Pc) (pa : Option Addr) (pc : Nat) (ba : Option Addr) (bc : Nat) (w : World) (h : Sco w p va vc vs mk) (h8 : x.params.length ≤ 8) (h60 : vs.length ≤ 60) (post : Ending) (hpost : post = ckEndU (if ckUq (vs.map CkVa.name) then none else some 40)) :
    Calls Try.prog 64 #[.pointer (some ⟨p, 0, none⟩), pcV x pa pc ba bc] w fun e w' => e = post ∧ Below w.heap.size w w' := by
  have c0 := h.c0
  have hp := h.lt
  have npz : ¬ p = w.heap.size := by omega
  have HS : Hid (Sco w p va vc vs mk) := h
  have HL : Hid (vs.length ≤ 60) := h60
  have HPO : Hid (post = ckEndU (if ckUq (vs.map CkVa.name) then none else some 40)) := hpost
  have d8 : decide ((x.params.length : Int) ≤ 8) = true := decide_eq_true (by omega)
  have d60 : decide ((vs.length : Int) ≤ 60) = true := decide_eq_true (by omega)
  obtain ⟨i0, hi, hz0, hz1, hz2⟩ := info_parts infoStr
  clear h h8 h60 hpost
  unfold pcV
  go_enter Try.func64, Try.ntmps64
  go_wp2_with fail
  refine Calls.mono (ckMust_yes _ _) ?_
  rintro e2 w2 ⟨rfl, hw2⟩
  have BW : Hid (Below w.heap.size w w2) := by rw [hw2]; exact box_below w _
  have c0' := (BW.out.cell (p := ⟨p, 0, none⟩) hp).trans c0
  clear hw2 c0 d8 d60
  go_wp2_with fail
  go_loopw [4, 27] (fun u i wr => ∃ (j : Nat) (u1 : Value), u = u1 ∧ j ≤ vs.length ∧ i = .int .i64 j ∧ Hid (NL w (vs.map CkVa.name) j u1 wr)) (fun _ i _ => vs.length - (intOf i).toNat)
  case atStart => exact ⟨0, _, rfl, by omega, rfl, (⟨by simpa [txV] using World.ownsRow_nil _ _ _ _, BW.out⟩ : NL w (vs.map CkVa.name) 0 (.slice none 0 0) w2)⟩
  case round =>
    obtain ⟨j, u1, hu1, hj, rfl, N⟩ := hrel
    have hL := HL.out
    by_cases hlt : j < vs.length
    · obtain ⟨g, o, hva, hg, hc⟩ := (HS.out.vs.later N.out.b).2 (by omega)
      subst hva
      obtain ⟨y0, y1, y2, y3, y4⟩ := hc j hlt
      have el : (vs.map CkVa.name)[j]? = some (vs.getD j ckV0).name := by simp [hlt]
      generalize vs.getD j ckV0 = v at *
      obtain ⟨vn, vt, vz, vf, vl⟩ := v
      dsimp only at y0 y1 y2 y3 y4 el
      have EL : Hid ((vs.map CkVa.name)[j]? = some vn) := el
      have hji : (j : Int) < (vs.length : Int) := by omega
      have hj0 : (0 : Int) ≤ (j : Int) := by omega
      obtain ⟨l4, hl4⟩ : ∃ l4, l4 = (vs.map CkVa.name).take j := ⟨_, rfl⟩
      have LL : Hid (l4 = (vs.map CkVa.name).take j) := hl4
      have L4 : Hid (l4.length ≤ 60) := by rw [hl4]; exact (by simp; omega : ((vs.map CkVa.name).take j).length ≤ 60)
      have RW : Hid (∀ W', Below wr.heap.size wr W' → W'.ownsRow w.heap.size 9 1 u1 l4.length (txV l4)) := fun W' hW' => by rw [hl4]; exact own_later N.out.row hW'
      have hzz : w.heap.size ≤ wr.heap.size := N.out.b.size
      clear hc el hl4
      subst hu1
      go_upto_region 6 with fail
      obtain ⟨W2, hW2⟩ : ∃ W2, W2 = wr.alloc (.cells #[.string ⟨vn.toArray⟩, .int .i64 vt, .int .i64 vz, .int .i64 vf, .int .i64 vl] 57) := ⟨_, rfl⟩
      rw [← hW2]
      have b2 : Below wr.heap.size wr W2 := by rw [hW2]; exact box_below _ _
      have s0 : W2.cell? ⟨wr.heap.size, 0, none⟩ = some (.string ⟨vn.toArray⟩) := by rw [hW2]; simp [go_sem]
      have B2 : Hid (Below wr.heap.size wr W2) := b2
      have hz2' : w.heap.size ≤ W2.heap.size := Nat.le_trans hzz b2.size
      clear hW2 b2 y0 y1 y2 y3 y4
      go_wp2_with (at_builtin; refine wpList_append_told rfl _ _ 110 rfl w.heap.size 9 i0 (.string ⟨#[]⟩) 1 16 Try.underlying110 hi hz0 hz1 hz2 rfl (by decide) _ _ _ rfl (RW.out _ (B2.out.trans ((box_below W2 _).mono B2.out.size))) ⟨W2.heap.size, 0, none⟩ 1 1 [.string ⟨vn.toArray⟩] rfl rfl (one_cell_i _ _ _) (by intro y hy; simp at hy; subst hy; rfl) (by have := L4.out; unfold maxLen; omega) (by have := L4.out; omega) (by simp; omega) (by decide) ?_)
      intro u8 w8 h8 g8 o8
      have ST : Hid (NL w (vs.map CkVa.name) (j + 1) u8 w8) := by
        have e4 := LL.out
        subst e4
        exact NL.step N.out EL.out (B2.out.trans ((box_below W2 _).mono B2.out.size)) h8 g8
      clear h8 g8 o8 RW
      go_wp2_with fail
      go_roundw
      case rel => exact ⟨j + 1, _, rfl, by omega, by go_num, ST⟩
      case measure => simp [intOf]; omega
    · obtain rfl : j = vs.length := by omega
      have N' : NL w (vs.map CkVa.name) (vs.map CkVa.name).length u1 wr := by rw [List.length_map]; exact N.out
      obtain ⟨sa, c, hu, hlc, htx⟩ := N'.done (by simp; omega)
      have EU : Hid _ := ckUnlike_any sa c (vs.map CkVa.name) hlc wr htx
      have BF : Hid (Below w.heap.size w wr) := N.out.b
      rw [hu] at hu1
      subst hu1
      rw [List.length_map] at EU ⊢
      clear N' htx hlc N hu
      by_cases hq : ckUq (vs.map CkVa.name)
      · have hpp : post = .returned (.tuple #[]) := by rw [HPO.out, if_pos hq]; rfl
        have dq : decide (ckUq (vs.map CkVa.name)) = true := decide_eq_true hq
        rw [dq] at EU
        subst hpp
        clear HPO hq dq
        go_wp2_with fail
        refine Calls.mono EU.out ?_
        rintro e5 w5 ⟨rfl, rfl⟩
        go_wp2_with fail
        refine Calls.mono (ckMust_yes _ _) ?_
        rintro e6 w6 ⟨rfl, rfl⟩
        go_wp2_with fail
        go_end0
        exact ⟨rfl, BF.out⟩
      · have hpp : post = ckPan 40 := by rw [HPO.out, if_neg hq]; rfl
        have dq : decide (ckUq (vs.map CkVa.name)) = false := decide_eq_false hq
        rw [dq] at EU
        subst hpp
        clear HPO hq dq
        go_wp2_with fail
        refine Calls.mono EU.out ?_
        rintro e5 w5 ⟨rfl, rfl⟩
        go_wp2_with fail
        refine Calls.mono (ckMust_no _ _) ?_
        rintro e6 w6 ⟨rfl, b6⟩
        have B6 : Hid (Below w.heap.size w w6) := BF.out.trans (b6.mono BF.out.size)
        clear b6
        unfold ckPan
        go_wp2_with fail
        exact ⟨rfl, rfl, B6.out⟩
/-- declarations of a procedure. -/
theorem ckDecls_any (p : Nat) (va : Option Addr) (vc : Nat) (vs : List CkVa) (mk : Int) (x : Sy.Pc) (pa : Option Addr) (pc : Nat) (ba : Option Addr) (bc : Nat) (w : World) (h : Sco w p va vc vs mk) :
    Calls Try.prog 64 #[.pointer (some ⟨p, 0, none⟩), pcV x pa pc ba bc] w fun e w' => e = ckEndU (ckDcl x.params.length vs) ∧ Below w.heap.size w w' := by
  by_cases hn : x.params.length ≤ 8 ∧ vs.length ≤ 60
  · exact ckDecls_names p va vc vs mk x pa pc ba bc w h hn.1 hn.2 _ (by rw [ckDcl, if_pos hn])
  · exact ckCong (ckDecls_long p va vc vs mk x pa pc ba bc w h hn) (by rw [ckDcl, if_neg hn]; rfl)
end Go.Proofs.Ytobiedmmjiedlaa

namespace Go.Proofs.Ytobiedmmjiedlaa
open Go.RowKit

def pc0 : Sy.Pc := ⟨[], [], 0, []⟩
/-- The procedure main is as it must be. -/
def ckMn (ps : List Sy.Pc) : Bool := decide (0 ≤ ixn (ps.map Sy.Pc.name) [109, 97, 105, 110] 0) && (((ps.getD (ixn (ps.map Sy.Pc.name) [109, 97, 105, 110] 0).toNat pc0).params.length == 0) && ((ps.getD (ixn (ps.map Sy.Pc.name) [109, 97, 105, 110] 0).toNat pc0).type == 0))
/-- What is wrong with a program as a whole. -/
def ckWh (ps : List Sy.Pc) : Option Int := if ps.length ≤ 40 then (if ckUq (ps.map Sy.Pc.name) then (if ckMn ps = true then none else some 42) else some 40) else some 2
set_option maxRecDepth 100000 in
set_option maxHeartbeats 2000000 in
theorem ckWhole_long (A : Nat → Prop) (p : Nat) (va : Option Addr) (vc : Nat) (vs : List CkVa) (mk : Int) (qa : Option Addr) (qc : Nat) (ps : List Sy.Pc) (at_ : Nat) (w : World) (h : Ckr A w p va vc vs mk qa qc ps at_) (hn : ¬ ps.length ≤ 40) :
    Calls Try.prog 38 #[.pointer (some ⟨p, 0, none⟩)] w fun e w' => e = ckPan 2 ∧ Below w.heap.size w w' := by
  have c2 := h.c2
  have d : decide ((ps.length : Int) ≤ 40) = false := decide_eq_false (by omega)
  clear h hn
  go_enter Try.func38, Try.ntmps38
  go_wp2_with fail
  refine Calls.mono (ckMust_no _ _) ?_
  rintro e2 w2 ⟨rfl, b2⟩
  unfold ckPan
  go_wp2_with fail
  exact ⟨rfl, rfl, b2⟩
set_option maxRecDepth 100000 in
set_option maxHeartbeats 4000000 in
theorem ckWhole_names (A : Nat → Prop) (p : Nat) (va : Option Addr) (vc : Nat) (vs : List CkVa) (mk : Int) (qa : Option Addr) (qc : Nat) (ps : List Sy.Pc) (at_ : Nat) (w : World) (h : Ckr A w p va vc vs mk qa qc ps at_) (h40 : ps.length ≤ 40) (post : Ending) (hpost : post = ckEndU (if ckUq (ps.map Sy.Pc.name) then (if ckMn ps = true then none else some 42) else some 40)) :
    Calls Try.prog 38 #[.pointer (some ⟨p, 0, none⟩)] w fun e w' => e = post ∧ Below w.heap.size w w' := by
  have c2 := h.c2
  have hp := h.s.lt
  have HC : Hid (Ckr A w p va vc vs mk qa qc ps at_) := h
  have HL : Hid (ps.length ≤ 40) := h40
  have HPO : Hid (post = ckEndU (if ckUq (ps.map Sy.Pc.name) then (if ckMn ps = true then none else some 42) else some 40)) := hpost
  have d40 : decide ((ps.length : Int) ≤ 40) = true := decide_eq_true (by omega)
  obtain ⟨i0, hi, hz0, hz1, hz2⟩ := info_parts infoStr
  clear h h40 hpost
  go_enter Try.func38, Try.ntmps38
  go_wp2_with fail
  refine Calls.mono (ckMust_yes _ _) ?_
  rintro e2 w2 ⟨rfl, rfl⟩
  clear d40
  go_wp2_with fail
  go_loopw [2, 18] (fun u i wr => ∃ (j : Nat) (u1 : Value), u = u1 ∧ j ≤ ps.length ∧ i = .int .i64 j ∧ Hid (NL w2 (ps.map Sy.Pc.name) j u1 wr)) (fun _ i _ => ps.length - (intOf i).toNat)
  case atStart => exact ⟨0, _, rfl, by omega, rfl, (⟨by simpa [txV] using World.ownsRow_nil _ _ _ _, Below.refl _ _⟩ : NL w2 (ps.map Sy.Pc.name) 0 (.slice none 0 0) w2)⟩
  case round =>
    obtain ⟨j, u1, hu1, hj, rfl, N⟩ := hrel
    have hL := HL.out
    by_cases hlt : j < ps.length
    · obtain ⟨g, o, x, pa, pc, ba, bc, hqa, ha, hg, el', a4⟩ := (HC.out.later N.out.b).pr.part j hlt
      subst hqa
      obtain ⟨y0, y1, y2, y3, -, -⟩ := a4
      have EL : Hid ((ps.map Sy.Pc.name)[j]? = some x.name) := (by simp [el'] : (ps.map Sy.Pc.name)[j]? = some x.name)
      have hji : (j : Int) < (ps.length : Int) := by omega
      have hj0 : (0 : Int) ≤ (j : Int) := by omega
      obtain ⟨l4, hl4⟩ : ∃ l4, l4 = (ps.map Sy.Pc.name).take j := ⟨_, rfl⟩
      have LL : Hid (l4 = (ps.map Sy.Pc.name).take j) := hl4
      have L4 : Hid (l4.length ≤ 60) := by rw [hl4]; exact (by simp; omega : ((ps.map Sy.Pc.name).take j).length ≤ 60)
      have RW : Hid (∀ W', Below wr.heap.size wr W' → W'.ownsRow w2.heap.size 9 1 u1 l4.length (txV l4)) := fun W' hW' => by rw [hl4]; exact own_later N.out.row hW'
      have hzz : w2.heap.size ≤ wr.heap.size := N.out.b.size
      clear el' hl4
      subst hu1
      go_upto_region 5 with fail
      obtain ⟨W2, hW2⟩ : ∃ W2, W2 = wr.alloc (pcB x pa pc ba bc) := ⟨_, rfl⟩
      rw [← hW2]
      have b2 : Below wr.heap.size wr W2 := by rw [hW2]; exact box_below _ _
      have s0 : W2.cell? ⟨wr.heap.size, 0, none⟩ = some (.string ⟨x.name.toArray⟩) := by rw [hW2]; simp [go_sem]
      have B2 : Hid (Below wr.heap.size wr W2) := b2
      have hz2' : w2.heap.size ≤ W2.heap.size := Nat.le_trans hzz b2.size
      clear hW2 b2 y0 y1 y2 y3
      go_wp2_with (at_builtin; refine wpList_append_told rfl _ _ 110 rfl w2.heap.size 9 i0 (.string ⟨#[]⟩) 1 16 Try.underlying110 hi hz0 hz1 hz2 rfl (by decide) _ _ _ rfl (RW.out _ (B2.out.trans ((box_below W2 _).mono B2.out.size))) ⟨W2.heap.size, 0, none⟩ 1 1 [.string ⟨x.name.toArray⟩] rfl rfl (one_cell_i _ _ _) (by intro y hy; simp at hy; subst hy; rfl) (by have := L4.out; unfold maxLen; omega) (by have := L4.out; omega) (by simp; omega) (by decide) ?_)
      intro u8 w8 h8 g8 o8
      have ST : Hid (NL w2 (ps.map Sy.Pc.name) (j + 1) u8 w8) := by
        have e4 := LL.out
        subst e4
        exact NL.step N.out EL.out (B2.out.trans ((box_below W2 _).mono B2.out.size)) h8 g8
      clear h8 g8 o8 RW
      go_wp2_with fail
      go_roundw
      case rel => exact ⟨j + 1, _, rfl, by omega, by go_num, ST⟩
      case measure => simp [intOf]; omega
    · obtain rfl : j = ps.length := by omega
      have N' : NL w2 (ps.map Sy.Pc.name) (ps.map Sy.Pc.name).length u1 wr := by rw [List.length_map]; exact N.out
      obtain ⟨sa, c, hu, hlc, htx⟩ := N'.done (by simp; omega)
      have EU : Hid _ := ckUnlike_any sa c (ps.map Sy.Pc.name) hlc wr htx
      have EI : Hid _ := index_any sa c (ps.map Sy.Pc.name) [109, 97, 105, 110] wr htx
      have BF : Hid (Below w2.heap.size w2 wr) := N.out.b
      have q2 := (BF.out.cell (p := ⟨p, 2, none⟩) hp).trans c2
      rw [hu] at hu1
      subst hu1
      rw [List.length_map] at EU EI ⊢
      clear N' htx hlc N hu
      by_cases hq : ckUq (ps.map Sy.Pc.name)
      case neg =>
        have hpp : post = ckPan 40 := by rw [HPO.out, if_neg hq]; rfl
        have dq : decide (ckUq (ps.map Sy.Pc.name)) = false := decide_eq_false hq
        rw [dq] at EU
        subst hpp
        clear HPO hq dq EI
        go_wp2_with fail
        refine Calls.mono EU.out ?_
        rintro e5 w5 ⟨rfl, rfl⟩
        go_wp2_with fail
        refine Calls.mono (ckMust_no _ _) ?_
        rintro e6 w6 ⟨rfl, b6⟩
        have B6 : Hid (Below w2.heap.size w2 w6) := BF.out.trans (b6.mono BF.out.size)
        clear b6
        unfold ckPan
        go_wp2_with fail
        exact ⟨rfl, rfl, B6.out⟩
      case pos =>
        have HPQ : Hid (post = ckEndU (if ckMn ps = true then none else some 42)) := by have := HPO.out; rw [if_pos hq] at this; exact this
        have dq : decide (ckUq (ps.map Sy.Pc.name)) = true := decide_eq_true hq
        rw [dq] at EU
        clear HPO hq dq
        go_wp2_with fail
        refine Calls.mono EU.out ?_
        rintro e5 w5 ⟨rfl, rfl⟩
        go_wp2_with fail
        refine Calls.mono (ckMust_yes _ _) ?_
        rintro e6 w6 ⟨rfl, rfl⟩
        go_wp2_with fail
        refine Calls.mono EI.out ?_
        rintro e7 w7 ⟨rfl, rfl⟩
        clear EU EI
        rcases ixn_is (ps.map Sy.Pc.name) [109, 97, 105, 110] 0 with hx | ⟨j, hx, hjl⟩
        · have hpp : post = ckPan 42 := by
            have : ¬ ckMn ps = true := by unfold ckMn; rw [hx]; simp
            rw [HPQ.out, if_neg this]; rfl
          rw [hx]
          subst hpp
          clear HPQ hx
          go_wp2_with fail
          refine Calls.mono (ckMust_no _ _) ?_
          rintro e6 w6 ⟨rfl, b6⟩
          have B6 : Hid (Below w2.heap.size w2 w6) := BF.out.trans (b6.mono BF.out.size)
          clear b6
          unfold ckPan
          go_wp2_with fail
          exact ⟨rfl, rfl, B6.out⟩
        · rw [Nat.zero_add] at hx
          rw [List.length_map] at hjl
          obtain ⟨g, o, x, pa, pc, ba, bc, hqa, ha, hg, el, a4⟩ := (HC.out.later BF.out).pr.part j hjl
          subst hqa
          obtain ⟨y0, y1, y2, y3, -, -⟩ := a4
          have hgx : ps.getD j pc0 = x := by rw [List.getD, el]; rfl
          have hm : ckMn ps = ((x.params.length == 0) && (x.type == 0)) := by
            unfold ckMn
            rw [hx, Int.toNat_natCast, hgx]
            simp
          have HPR : Hid (post = ckEndU (if ((x.params.length == 0) && (x.type == 0)) = true then none else some 42)) := by have := HPQ.out; rw [hm] at this; exact this
          have hji : (j : Int) < (ps.length : Int) := by omega
          have hj0 : (0 : Int) ≤ (j : Int) := by omega
          rw [hx]
          clear HPQ hx hgx hm el
          by_cases h0 : x.params.length = 0
          · have b0 : ((x.params.length : Int) == 0) = true := beq_iff_eq.2 (by omega)
            by_cases ht : x.type = 0
            · have bt : (x.type == 0) = true := beq_iff_eq.2 ht
              have hpp : post = .returned (.tuple #[]) := by rw [HPR.out, h0, bt]; rfl
              subst hpp
              clear HPR h0 ht
              go_wp2_with fail
              refine Calls.mono (ckMust_yes _ _) ?_
              rintro e6 w6 ⟨rfl, rfl⟩
              go_wp2_with fail
              go_end0
              exact ⟨rfl, BF.out⟩
            · have bt : (x.type == 0) = false := beq_eq_false_iff_ne.2 ht
              have hpp : post = ckPan 42 := by rw [HPR.out, bt, Bool.and_false]; rfl
              subst hpp
              clear HPR h0 ht
              go_wp2_with fail
              refine Calls.mono (ckMust_no _ _) ?_
              rintro e6 w6 ⟨rfl, b6⟩
              have B6 : Hid (Below w2.heap.size w2 w6) := BF.out.trans (b6.mono BF.out.size)
              clear b6
              unfold ckPan
              go_wp2_with fail
              exact ⟨rfl, rfl, B6.out⟩
          · have b0 : ((x.params.length : Int) == 0) = false := beq_eq_false_iff_ne.2 (by omega)
            have hpp : post = ckPan 42 := by
              have : (x.params.length == 0) = false := beq_eq_false_iff_ne.2 h0
              rw [HPR.out, this, Bool.false_and]; rfl
            subst hpp
            clear HPR h0
            go_wp2_with fail
            refine Calls.mono (ckMust_no _ _) ?_
            rintro e6 w6 ⟨rfl, b6⟩
            have B6 : Hid (Below w2.heap.size w2 w6) := BF.out.trans (b6.mono BF.out.size)
            clear b6
            unfold ckPan
            go_wp2_with fail
            exact ⟨rfl, rfl, B6.out⟩
/-- whole. -/
theorem ckWhole_any (A : Nat → Prop) (p : Nat) (va : Option Addr) (vc : Nat) (vs : List CkVa) (mk : Int) (qa : Option Addr) (qc : Nat) (ps : List Sy.Pc) (at_ : Nat) (w : World) (h : Ckr A w p va vc vs mk qa qc ps at_) :
    Calls Try.prog 38 #[.pointer (some ⟨p, 0, none⟩)] w fun e w' => e = ckEndU (ckWh ps) ∧ Below w.heap.size w w' := by
  by_cases hn : ps.length ≤ 40
  · exact ckWhole_names A p va vc vs mk qa qc ps at_ w h hn _ (by rw [ckWh, if_pos hn])
  · exact ckCong (ckWhole_long A p va vc vs mk qa qc ps at_ w h hn) (by rw [ckWh, if_neg hn]; rfl)
end Go.Proofs.Ytobiedmmjiedlaa

namespace Go.Proofs.Ytobiedmmjiedlaa
open Go.RowKit

mutual
def ckR1 : Sy.St → Bool
  | .mk k _ _ _ _ b l => k == 7 || (k == 4 && ckRs b && ckRs l)
/-- Whether each way through statements returns. -/
def ckRs : List Sy.St → Bool
  | [] => false
  | s :: r => ckR1 s || ckRs r
end
def rtC (F : FuncId) (l : List Sy.St) : Prop := ∀ (A : Nat → Prop) (sa : Option Addr) (sc : Nat) (w : World), l.length ≤ 1000000000000000 → SmS A w (.slice sa l.length sc) l → Calls Try.prog F #[.slice sa l.length sc] w fun e w' => e = .returned (.bool (ckRs l)) ∧ Below w.heap.size w w'
def rtP (F : FuncId) (x : Sy.St) : Prop := ∃ k n p m e b l, x = .mk k n p m e b l ∧ b.length ≤ 1000000000000000 ∧ l.length ≤ 1000000000000000 ∧ rtC F b ∧ rtC F l
theorem ckRs_at {l : List Sy.St} {j : Nat} {x : Sy.St} (h : l[j]? = some x) : ckRs (l.drop j) = (ckR1 x || ckRs (l.drop (j + 1))) := by
  obtain ⟨hj, e⟩ := List.getElem?_eq_some_iff.1 h
  rw [List.drop_eq_getElem_cons hj, e, ckRs]
set_option maxRecDepth 100000 in
set_option maxHeartbeats 4000000 in
theorem ckRet_loop (l : List Sy.St) (hP : ∀ x, x ∈ l → rtP 66 x) : rtC 66 l := by
  intro A sa sc w hb hs
  have HS : Hid (SmS A w (.slice sa l.length sc) l) := hs
  have HP : Hid (∀ x, x ∈ l → rtP 66 x) := hP
  have HL : Hid (l.length ≤ 1000000000000000) := hb
  clear hs hP hb
  go_enter Try.func66, Try.ntmps66
  go_wp2_with fail
  go_loopw [7] (fun i wr => ∃ (j : Nat), j ≤ l.length ∧ i = .int .i64 j ∧ Hid (ckRs (l.drop j) = ckRs l) ∧ Hid (Below w.heap.size w wr)) (fun i _ => l.length - (intOf i).toNat)
  case atStart => exact ⟨0, by omega, rfl, (by simp : ckRs (l.drop 0) = ckRs l), Below.refl _ _⟩
  case round =>
    obtain ⟨j, hj, rfl, N, B⟩ := hrel
    by_cases hlt : j < l.length
    · obtain ⟨g, o, k, n, p, m, ea, ec, ba, bc, la, lc, e, b, ll, rfl, ha, hg, el, sat⟩ := (HS.out.later B.out (Nat.le_refl _)).part j hlt
      obtain ⟨k', n', p', m', e', b', l', ex, lb, lll, zb, zl⟩ := HP.out _ (List.mem_of_getElem? el)
      injection ex with x1 x2 x3 x4 x5 x6 x7
      subst x1 x2 x3 x4 x5 x6 x7
      obtain ⟨c0, c1, c2, c3, c4, c5, c6, -, hb, hl⟩ := sat
      have RA := ckRs_at el
      rw [ckR1] at RA
      have E1 : Hid (∀ W, Below wr.heap.size wr W → Calls Try.prog 66 #[.slice ba b.length bc] W fun e w' => e = .returned (.bool (ckRs b)) ∧ Below W.heap.size W w') := fun W hW => zb A ba bc W lb (hb.later hW (Nat.le_refl _))
      have E2 : Hid (∀ W, Below wr.heap.size wr W → Calls Try.prog 66 #[.slice la ll.length lc] W fun e w' => e = .returned (.bool (ckRs ll)) ∧ Below W.heap.size W w') := fun W hW => zl A la lc W lll (hl.later hW (Nat.le_refl _))
      have hji : (j : Int) < (l.length : Int) := by omega
      have hj0 : (0 : Int) ≤ (j : Int) := by omega
      have bx := box_below wr (smB k n p m ea e.length ec ba b.length bc la ll.length lc)
      have BX : Hid (Below wr.heap.size wr (wr.alloc (smB k n p m ea e.length ec ba b.length bc la ll.length lc))) := bx
      have B1 : Hid (Below w.heap.size w (wr.alloc (smB k n p m ea e.length ec ba b.length bc la ll.length lc))) := B.out.trans (bx.mono B.out.size)
      have HR : Hid (ckRs (l.drop j) = ((k == 7 || (k == 4 && ckRs b && ckRs ll)) || ckRs (l.drop (j + 1)))) := RA
      clear zb zl hb hl el RA bx
      by_cases h7 : k = 7
      · subst h7
        have G : Hid (true = ckRs l) := by rw [← N.out, HR.out]; rfl
        clear HR
        go_wp2_with fail
        go_ret
        exact ⟨ret_bool G.out, B1.out⟩
      · have d7 : (k == 7) = false := beq_eq_false_iff_ne.2 h7
        rw [d7] at HR
        by_cases h4 : k = 4
        · subst h4
          go_wp2_with fail
          refine Calls.mono (E1.out _ BX.out) ?_
          rintro e5 w5 ⟨rfl, b5⟩
          have q6 : w5.cell? ⟨wr.heap.size, 6, none⟩ = some (.slice la ll.length lc) := (b5.cell (p := ⟨wr.heap.size, 6, none⟩) (by simp)).trans (by simp [go_sem])
          have B5 : Hid (Below wr.heap.size wr w5) := BX.out.trans (b5.mono BX.out.size)
          have B6 : Hid (Below w.heap.size w w5) := B1.out.trans (b5.mono B1.out.size)
          clear b5
          cases hb1 : ckRs b with
          | false =>
            have G : Hid (ckRs (l.drop j) = ckRs (l.drop (j + 1))) := by rw [HR.out, hb1]; rfl
            clear HR hb1
            have hL := HL.out
            go_wp2_with fail
            go_roundw
            case rel => exact ⟨j + 1, by omega, by go_num, (G.out.symm.trans N.out : ckRs (l.drop (j + 1)) = ckRs l), B6.out⟩
            case measure => simp [intOf]; omega
          | true =>
            rw [hb1] at HR
            go_wp2_with fail
            refine Calls.mono (E2.out _ B5.out) ?_
            rintro e7 w7 ⟨rfl, b7⟩
            have B7 : Hid (Below w.heap.size w w7) := B6.out.trans (b7.mono B6.out.size)
            clear b7
            cases hb2 : ckRs ll with
            | false =>
              have G : Hid (ckRs (l.drop j) = ckRs (l.drop (j + 1))) := by rw [HR.out, hb2]; rfl
              clear HR hb1 hb2
              have hL := HL.out
              go_wp2_with fail
              go_roundw
              case rel => exact ⟨j + 1, by omega, by go_num, (G.out.symm.trans N.out : ckRs (l.drop (j + 1)) = ckRs l), B7.out⟩
              case measure => simp [intOf]; omega
            | true =>
              have G : Hid (true = ckRs l) := by rw [← N.out, HR.out, hb2]; rfl
              clear HR hb1 hb2
              go_wp2_with fail
              go_ret
              exact ⟨ret_bool G.out, B7.out⟩
        · have d4 : (k == 4) = false := beq_eq_false_iff_ne.2 h4
          have G : Hid (ckRs (l.drop j) = ckRs (l.drop (j + 1))) := by rw [HR.out, d4]; rfl
          clear HR
          have hL := HL.out
          go_wp2_with fail
          go_roundw
          case rel => exact ⟨j + 1, by omega, by go_num, (G.out.symm.trans N.out : ckRs (l.drop (j + 1)) = ckRs l), B1.out⟩
          case measure => simp [intOf]; omega
    · obtain rfl : j = l.length := by omega
      have G : Hid (false = ckRs l) := by rw [← N.out, List.drop_length]; rfl
      clear N
      go_wp2_with fail
      go_ret
      exact ⟨ret_bool G.out, B.out⟩
theorem ckRet_st (x : Sy.St) : Sy.Bd x → rtP 66 x := by
  induction x using Sy.ind with
  | h k n p m e b l hb hl =>
    intro ho
    cases ho with
    | mk _ _ _ _ _ _ _ hn hp le he lb ll ob ol =>
      exact ⟨k, n, p, m, e, b, l, rfl, by omega, by omega, ckRet_loop b fun s hs => hb s hs (ob s hs), ckRet_loop l fun s hs => hl s hs (ol s hs)⟩
/-- returns of all statements. -/
theorem ckRet_any (l : List Sy.St) (h : ∀ s, s ∈ l → Sy.Bd s) : rtC 66 l := ckRet_loop l fun x hx => ckRet_st x (h x hx)
end Go.Proofs.Ytobiedmmjiedlaa

namespace Go.Proofs.Ytobiedmmjiedlaa
open Go.RowKit

theorem infoVas : (Try.prog.info? 55).map (fun i => (i.zero, i.size, i.bytes)) = some (some (.slice none 0 0), 1, 24) := by kernel_rfl
/-- Variables that lie apart from the checker and from what it adds to. -/
def VaX (w : World) (p : Nat) (iv im : Value) (va : Option Addr) (l : List CkVa) : Prop := VaS w va l ∧ (0 < l.length → ∀ g o, va = some ⟨g, o, none⟩ → p < g ∧ ¬ iv.ownBlock = some g ∧ ¬ im.ownBlock = some g)
theorem VaX.ps {w w' : World} {p : Nat} {iv im iv' im' : Value} {va : Option Addr} {l : List CkVa} (h : VaX w p iv im va l) (k : PS p w iv im w' iv' im') : VaX w' p iv' im' va l := by
  refine ⟨⟨h.1.1, fun h0 => ?_⟩, fun h0 g o e => ?_⟩
  · obtain ⟨g, o, e, hg, hc⟩ := h.1.2 h0
    obtain ⟨n1, n2, n3⟩ := h.2 h0 g o e
    have kk := (k.far g hg (by omega) n2 n3).1
    exact ⟨g, o, e, Nat.lt_of_lt_of_le hg k.size, fun j hj => ⟨(World.cell?_of_block (w := w) (a := ⟨g, _, none⟩) kk).trans (hc j hj).c0, (World.cell?_of_block (w := w) (a := ⟨g, _, none⟩) kk).trans (hc j hj).c1, (World.cell?_of_block (w := w) (a := ⟨g, _, none⟩) kk).trans (hc j hj).c2, (World.cell?_of_block (w := w) (a := ⟨g, _, none⟩) kk).trans (hc j hj).c3, (World.cell?_of_block (w := w) (a := ⟨g, _, none⟩) kk).trans (hc j hj).c4⟩⟩
  · obtain ⟨g', o', e', hg, hc⟩ := h.1.2 h0
    rw [e] at e'
    cases e'
    obtain ⟨n1, n2, n3⟩ := h.2 h0 g o e
    exact ⟨n1, (k.far g hg (by omega) n2 n3).2⟩
theorem PS.of_keep {p : Nat} {w w' : World} (v u : Value) (k : Keep (fun g => g = p) w w') : PS p w v u w' v u := ⟨k.os, k.tape, k.output, k.size, fun g hg h0 h1 h2 => ⟨k.block g hg h0, h1, h2⟩⟩
def mkV (l : List Sy.Pc) : List Value := l.map fun (x : Sy.Pc) => Value.int .i64 (Sy.cts x.body : Int)
/-- What was found out: of jv procedures the variables, of jm the marks. -/
structure Inf (w : World) (p : Nat) (iv im : Value) (ps : List Sy.Pc) (jv jm : Nat) (vvs : List Value) : Prop where
  rv : w.ownsRow (p + 1) 55 1 iv jv vvs
  vv : ∀ q x, q < jv → ps[q]? = some x → ∃ va vc, vvs[q]? = some (.slice va (ckVs x).length vc) ∧ VaX w p iv im va (ckVs x)
  rm : w.ownsRow (p + 1) 3 1 im jm (mkV (ps.take jm))
  ne : ∀ g, iv.ownBlock = some g → ¬ im.ownBlock = some g
theorem own_keep {w w' : World} {p size n : Nat} {e : TypeId} {v : Value} {xs : List Value} (h : w.ownsRow (p + 1) e size v n xs) (k : Keep (fun g => g = p) w w') : w'.ownsRow (p + 1) e size v n xs := by
  have hl := World.ownsRow.lt h
  rcases h.2 with ⟨rfl, h0⟩ | ⟨g, cap, cur, rfl, hb, hh, hr⟩
  · exact ⟨h.1, .inl ⟨rfl, h0⟩⟩
  · refine ⟨h.1, .inr ⟨g, cap, cur, rfl, hb, ?_, hr⟩⟩
    rw [k.block g (hl g rfl).2 (by omega)]
    exact hh
theorem Inf.kp {w w' : World} {p : Nat} {iv im : Value} {ps : List Sy.Pc} {jv jm : Nat} {vvs : List Value} (h : Inf w p iv im ps jv jm vvs) (k : Keep (fun g => g = p) w w') : Inf w' p iv im ps jv jm vvs :=
  ⟨own_keep h.rv k, fun q x hq hx => by
    obtain ⟨va, vc, e, hv⟩ := h.vv q x hq hx
    exact ⟨va, vc, e, hv.ps (PS.of_keep iv im k)⟩, own_keep h.rm k, h.ne⟩
theorem Cks.addV {A : Nat → Prop} {w WA w2 : World} {p : Nat} {va : Option Addr} {vc : Nat} {x : Sy.Pc} {m : Int} {qa : Option Addr} {qc : Nat} {ps : List Sy.Pc} {j : Nat} {iv im iv' : Value} {vvs : List Value} (C : Cks A w p va vc (ckVs x) m qa qc ps j iv im) (hA : ∀ g, A g → g < p) (I : Inf w p iv im ps j j vvs) (hx : ps[j]? = some x) (hv : VaX w p iv im va (ckVs x)) (bA : Below w.heap.size w WA)
    (h2 : w2.ownsRow (p + 1) 55 1 iv' (j + 1) (vvs ++ [.slice va (ckVs x).length vc])) (g2 : WA.grownBy w2 iv.ownBlock) (o2 : iv'.ownBlock = iv.ownBlock ∨ ∃ g, iv'.ownBlock = some g ∧ WA.heap.size ≤ g) :
    Cks A (w2.setCell ⟨p, 4, none⟩ iv') p va vc (ckVs x) m qa qc ps j iv' im ∧ Inf (w2.setCell ⟨p, 4, none⟩ iv') p iv' im ps (j + 1) j (vvs ++ [.slice va (ckVs x).length vc]) ∧ PS p w iv im (w2.setCell ⟨p, 4, none⟩ iv') iv' im := by
  have hp := C.lt
  have hz := bA.size
  have np : ¬ iv.ownBlock = some p := fun e => by have := (World.ownsRow.lt I.rv _ e).1; omega
  have np2 : ¬ iv'.ownBlock = some p := fun e => by have := (World.ownsRow.lt h2 _ e).1; omega
  have far : ∀ g, g < w.heap.size → g ≠ p → ¬ iv.ownBlock = some g → (w2.setCell ⟨p, 4, none⟩ iv').heap[g]? = w.heap[g]? ∧ ¬ iv'.ownBlock = some g := fun g hg h0 h1 => by
    refine ⟨(heap_setCell_other w2 _ g _ (by simpa using h0)).trans ((g2.block g (by omega) (fun e => h1 e.symm)).trans (bA.block g hg)), ?_⟩
    rcases o2 with e | ⟨g', e, hg'⟩
    · rw [e]; exact h1
    · rw [e]; intro e2; cases e2; omega
  have P : PS p w iv im (w2.setCell ⟨p, 4, none⟩ iv') iv' im := ⟨g2.os.trans bA.os, g2.tape.trans bA.tape, g2.output.trans bA.output, by have := g2.size; simp; omega, fun g hg h0 h1 h3 => ⟨(far g hg h0 h1).1, (far g hg h0 h1).2, h3⟩⟩
  have hb : (w2.setCell ⟨p, 4, none⟩ iv').heap[p]? = some (.cells #[.slice va (ckVs x).length vc, .int .i64 m, .slice qa ps.length qc, .int .i64 (j : Int), iv', im] 78 (0, 0)) := by
    have h1 : w2.heap[p]? = w.heap[p]? := (g2.block p (by omega) (fun e => np e.symm)).trans (bA.block p hp)
    exact heap_setCell_same _ _ _ _ _ _ (h1.trans C.hb)
  have ne' : ∀ g, iv'.ownBlock = some g → ¬ im.ownBlock = some g := fun g e e2 => by
    rcases o2 with e3 | ⟨g', e3, hg'⟩
    · exact I.ne g (e3.symm.trans e) e2
    · rw [e3] at e
      cases e
      have := (World.ownsRow.lt I.rm _ e2).2
      omega
  have rm' : (w2.setCell ⟨p, 4, none⟩ iv').ownsRow (p + 1) 3 1 im j (mkV (ps.take j)) := by
    have hl := World.ownsRow.lt I.rm
    rcases I.rm.2 with ⟨rfl, h0⟩ | ⟨g, cap, cur, rfl, hbb, hh, hr⟩
    · exact ⟨I.rm.1, .inl ⟨rfl, h0⟩⟩
    · refine ⟨I.rm.1, .inr ⟨g, cap, cur, rfl, hbb, ?_, hr⟩⟩
      rw [(far g (hl g rfl).2 (by omega) (fun e => I.ne g e rfl)).1]
      exact hh
  have hle := I.rv.1
  refine ⟨⟨hb, (hv.ps P).1, C.vp, C.pr.keep (fun _ _ a => a) (fun q ha hq => World.cell?_of_block (w := w) (far q.block hq (by have := hA _ ha; omega) (fun e => by have := (World.ownsRow.lt I.rv _ e).1; have := hA _ ha; omega)).1) P.size, C.ln⟩, ⟨ownsRow_setCell_other h2 np2 _, fun q y hq hy => ?_, rm', ne'⟩, P⟩
  by_cases c : q < j
  · obtain ⟨va', vc', e, hv'⟩ := I.vv q y c hy
    refine ⟨va', vc', ?_, hv'.ps P⟩
    rw [List.getElem?_append_left (by omega)]
    exact e
  · obtain rfl : q = j := by omega
    rw [hx] at hy
    cases hy
    refine ⟨va, vc, ?_, hv.ps P⟩
    rw [List.getElem?_append_right (by omega)]
    have : q - vvs.length = 0 := by omega
    rw [this]
    rfl
theorem Cks.addM {A : Nat → Prop} {w WA w2 : World} {p : Nat} {va : Option Addr} {vc : Nat} {x : Sy.Pc} {qa : Option Addr} {qc : Nat} {ps : List Sy.Pc} {j : Nat} {iv im im' : Value} {vvs : List Value} (C : Cks A w p va vc (ckVs x) (Sy.cts x.body) qa qc ps j iv im) (hA : ∀ g, A g → g < p) (I : Inf w p iv im ps (j + 1) j vvs) (hx : ps[j]? = some x) (hv : VaX w p iv im va (ckVs x)) (bA : Below w.heap.size w WA)
    (h2 : w2.ownsRow (p + 1) 3 1 im' (j + 1) (mkV (ps.take j) ++ [.int .i64 (Sy.cts x.body : Int)])) (g2 : WA.grownBy w2 im.ownBlock) (o2 : im'.ownBlock = im.ownBlock ∨ ∃ g, im'.ownBlock = some g ∧ WA.heap.size ≤ g) :
    Cks A (w2.setCell ⟨p, 5, none⟩ im') p va vc (ckVs x) (Sy.cts x.body) qa qc ps j iv im' ∧ Inf (w2.setCell ⟨p, 5, none⟩ im') p iv im' ps (j + 1) (j + 1) vvs ∧ PS p w iv im (w2.setCell ⟨p, 5, none⟩ im') iv im' := by
  have hp := C.lt
  have hz := bA.size
  have np : ¬ im.ownBlock = some p := fun e => by have := (World.ownsRow.lt I.rm _ e).1; omega
  have np2 : ¬ im'.ownBlock = some p := fun e => by have := (World.ownsRow.lt h2 _ e).1; omega
  have far : ∀ g, g < w.heap.size → g ≠ p → ¬ im.ownBlock = some g → (w2.setCell ⟨p, 5, none⟩ im').heap[g]? = w.heap[g]? ∧ ¬ im'.ownBlock = some g := fun g hg h0 h1 => by
    refine ⟨(heap_setCell_other w2 _ g _ (by simpa using h0)).trans ((g2.block g (by omega) (fun e => h1 e.symm)).trans (bA.block g hg)), ?_⟩
    rcases o2 with e | ⟨g', e, hg'⟩
    · rw [e]; exact h1
    · rw [e]; intro e2; cases e2; omega
  have P : PS p w iv im (w2.setCell ⟨p, 5, none⟩ im') iv im' := ⟨g2.os.trans bA.os, g2.tape.trans bA.tape, g2.output.trans bA.output, by have := g2.size; simp; omega, fun g hg h0 h1 h3 => ⟨(far g hg h0 h3).1, h1, (far g hg h0 h3).2⟩⟩
  have hb : (w2.setCell ⟨p, 5, none⟩ im').heap[p]? = some (.cells #[.slice va (ckVs x).length vc, .int .i64 (Sy.cts x.body : Int), .slice qa ps.length qc, .int .i64 (j : Int), iv, im'] 78 (0, 0)) := by
    have h1 : w2.heap[p]? = w.heap[p]? := (g2.block p (by omega) (fun e => np e.symm)).trans (bA.block p hp)
    exact heap_setCell_same _ _ _ _ _ _ (h1.trans C.hb)
  have ne' : ∀ g, iv.ownBlock = some g → ¬ im'.ownBlock = some g := fun g e e2 => by
    rcases o2 with e3 | ⟨g', e3, hg'⟩
    · exact I.ne g e (e3.symm.trans e2)
    · rw [e3] at e2
      cases e2
      have := (World.ownsRow.lt I.rv _ e).2
      omega
  have rv' : (w2.setCell ⟨p, 5, none⟩ im').ownsRow (p + 1) 55 1 iv (j + 1) vvs := by
    have hl := World.ownsRow.lt I.rv
    rcases I.rv.2 with ⟨rfl, h0⟩ | ⟨g, cap, cur, rfl, hbb, hh, hr⟩
    · exact ⟨I.rv.1, .inl ⟨rfl, h0⟩⟩
    · refine ⟨I.rv.1, .inr ⟨g, cap, cur, rfl, hbb, ?_, hr⟩⟩
      rw [(far g (hl g rfl).2 (by omega) (fun e => I.ne g rfl e)).1]
      exact hh
  have e1 : mkV (ps.take (j + 1)) = mkV (ps.take j) ++ [.int .i64 (Sy.cts x.body : Int)] := by rw [List.take_add_one, hx]; simp [mkV]
  refine ⟨⟨hb, (hv.ps P).1, C.vp, C.pr.keep (fun _ _ a => a) (fun q ha hq => World.cell?_of_block (w := w) (far q.block hq (by have := hA _ ha; omega) (fun e => by have := (World.ownsRow.lt I.rm _ e).1; have := hA _ ha; omega)).1) P.size, C.ln⟩, ⟨rv', fun q y hq hy => ?_, ?_, ne'⟩, P⟩
  · obtain ⟨va', vc', e, hv'⟩ := I.vv q y hq hy
    exact ⟨va', vc', e, hv'.ps P⟩
  · rw [e1]
    exact ownsRow_setCell_other h2 np2 _
/-- What comes of a procedure: what is wrong, and the mark that was come to. -/
def ckPr (ps : List Sy.Pc) (x : Sy.Pc) : Option Int × Int :=
  match ckDcl x.params.length (ckVs x) with
  | some er => (some er, 0)
  | none => match ckBs (ckVs x) ps x.type x.body 0 with
    | (some er, m) => (some er, m)
    | (none, m) => if x.type = 0 ∨ ckRs x.body = true then (none, m + 1) else (some 43, m + 1)
end Go.Proofs.Ytobiedmmjiedlaa
