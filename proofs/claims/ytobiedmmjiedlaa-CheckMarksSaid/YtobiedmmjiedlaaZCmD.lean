/- Layer 4: the copy of a statement (the program's). -/
import Derived.Test.YtobiedmmjiedlaaZCmC
namespace Go.Proofs.Ytobiedmmjiedlaa
open Go.RowKit
set_option linter.unusedVariables false
set_option linter.unusedSimpArgs false
theorem Bs.fz {w : World} {g : Nat} {c0 c1 c2 c3 c4 c5 c6 : Value} (h : Bs w g c0 c1 c2 c3 c4 c5 c6) (i : Nat) : w.frozen? ⟨g, i, none⟩ = false := by
  unfold Bs at h
  simp [World.frozen?, h]
theorem Bs.lt {w : World} {g : Nat} {c0 c1 c2 c3 c4 c5 c6 : Value} (h : Bs w g c0 c1 c2 c3 c4 c5 c6) : g < w.heap.size := (Array.getElem?_eq_some_iff.1 h).1
theorem Bs.set456 {w : World} {g : Nat} {c0 c1 c2 c3 c4 c5 c6 : Value} (h : Bs w g c0 c1 c2 c3 c4 c5 c6) (d4 d5 d6 : Value) : Bs (((w.setCell ⟨g, 4, none⟩ d4).setCell ⟨g, 5, none⟩ d5).setCell ⟨g, 6, none⟩ d6) g c0 c1 c2 c3 d4 d5 d6 := by
  have h1 := heap_setCell_same _ g 4 _ _ d4 h
  have h2 := heap_setCell_same _ g 5 _ _ d5 h1
  have h3 := heap_setCell_same _ g 6 _ _ d6 h2
  unfold Bs
  rw [h3]
  simp
theorem Bs.set7 {w : World} {g : Nat} {c0 c1 c2 c3 c4 c5 c6 : Value} (h : Bs w g c0 c1 c2 c3 c4 c5 c6) (d0 d1 d2 d3 d4 d5 d6 : Value) : Bs (((((((w.setCell ⟨g, 0, none⟩ d0).setCell ⟨g, 1, none⟩ d1).setCell ⟨g, 2, none⟩ d2).setCell ⟨g, 3, none⟩ d3).setCell ⟨g, 4, none⟩ d4).setCell ⟨g, 5, none⟩ d5).setCell ⟨g, 6, none⟩ d6) g d0 d1 d2 d3 d4 d5 d6 := by
  have h0 := heap_setCell_same _ g 0 _ _ d0 h
  have h1 := heap_setCell_same _ g 1 _ _ d1 h0
  have h2 := heap_setCell_same _ g 2 _ _ d2 h1
  have h3 := heap_setCell_same _ g 3 _ _ d3 h2
  have h4 := heap_setCell_same _ g 4 _ _ d4 h3
  have h5 := heap_setCell_same _ g 5 _ _ d5 h4
  have h6 := heap_setCell_same _ g 6 _ _ d6 h5
  unfold Bs
  rw [h6]
  simp
theorem sets_below {w w' : World} {g : Nat} (h : Below w.heap.size w w') (hg : w.heap.size ≤ g) (d4 d5 d6 : Value) : Below w.heap.size w (((w'.setCell ⟨g, 4, none⟩ d4).setCell ⟨g, 5, none⟩ d5).setCell ⟨g, 6, none⟩ d6) := ((h.setCell hg _).setCell hg _).setCell hg _
theorem SmS.set1 {A : Nat → Prop} {w : World} {sl : Value} {l : List Sy.St} (h : SmS A w sl l) {a : Addr} (ha : ¬ A a.block) (v : Value) : SmS A (w.setCell a v) sl l :=
  h.keep (fun _ _ x => x) (fun _ hA _ => World.cell?_setCell_other _ _ _ _ (fun e => ha (by rw [e]; exact hA))) (by simp)
theorem sets7_below {w w' : World} {g : Nat} (h : Below w.heap.size w w') (hg : w.heap.size ≤ g) (d0 d1 d2 d3 d4 d5 d6 : Value) : Below w.heap.size w (((((((w'.setCell ⟨g, 0, none⟩ d0).setCell ⟨g, 1, none⟩ d1).setCell ⟨g, 2, none⟩ d2).setCell ⟨g, 3, none⟩ d3).setCell ⟨g, 4, none⟩ d4).setCell ⟨g, 5, none⟩ d5).setCell ⟨g, 6, none⟩ d6) := ((((((h.setCell hg _).setCell hg _).setCell hg _).setCell hg _).setCell hg _).setCell hg _).setCell hg _
theorem ExS.sets7 {A : Nat → Prop} {w : World} {sl : Value} {l : List Sx.Ex} (h : ExS A w sl l) {g : Nat} (ha : ¬ A g) (d0 d1 d2 d3 d4 d5 d6 : Value) : ExS A (((((((w.setCell ⟨g, 0, none⟩ d0).setCell ⟨g, 1, none⟩ d1).setCell ⟨g, 2, none⟩ d2).setCell ⟨g, 3, none⟩ d3).setCell ⟨g, 4, none⟩ d4).setCell ⟨g, 5, none⟩ d5).setCell ⟨g, 6, none⟩ d6) sl l := ((((((h.set (a := ⟨g, 0, none⟩) ha _).set (a := ⟨g, 1, none⟩) ha _).set (a := ⟨g, 2, none⟩) ha _).set (a := ⟨g, 3, none⟩) ha _).set (a := ⟨g, 4, none⟩) ha _).set (a := ⟨g, 5, none⟩) ha _).set (a := ⟨g, 6, none⟩) ha _
theorem SmS.sets7 {A : Nat → Prop} {w : World} {sl : Value} {l : List Sy.St} (h : SmS A w sl l) {g : Nat} (ha : ¬ A g) (d0 d1 d2 d3 d4 d5 d6 : Value) : SmS A (((((((w.setCell ⟨g, 0, none⟩ d0).setCell ⟨g, 1, none⟩ d1).setCell ⟨g, 2, none⟩ d2).setCell ⟨g, 3, none⟩ d3).setCell ⟨g, 4, none⟩ d4).setCell ⟨g, 5, none⟩ d5).setCell ⟨g, 6, none⟩ d6) sl l := ((((((h.set1 (a := ⟨g, 0, none⟩) ha _).set1 (a := ⟨g, 1, none⟩) ha _).set1 (a := ⟨g, 2, none⟩) ha _).set1 (a := ⟨g, 3, none⟩) ha _).set1 (a := ⟨g, 4, none⟩) ha _).set1 (a := ⟨g, 5, none⟩) ha _).set1 (a := ⟨g, 6, none⟩) ha _
structure CpV (w : World) (M : Nat) (k : Int) (n p : List UInt8) (m : Int) (e : List Sx.Ex) (b l : List Sy.St) (sa ba la : Option Addr) (sc bc lc : Nat) (wx : World) : Prop where
  b1 : Bs wx M (.int .i64 k) (.string ⟨n.toArray⟩) (.string ⟨p.toArray⟩) (.int .i64 m) (.slice sa e.length sc) (.slice ba b.length bc) (.slice la l.length lc)
  b2 : Bs wx (M + 1) (.int .i64 0) (.string ⟨#[]⟩) (.string ⟨#[]⟩) (.int .i64 0) (.slice none 0 0) (.slice none 0 0) (.slice none 0 0)
  he : ExS (fun g => M + 2 ≤ g) wx (.slice sa e.length sc) e
  hb : SmS (fun g => M + 2 ≤ g) wx (.slice ba b.length bc) b
  hl : SmS (fun g => M + 2 ≤ g) wx (.slice la l.length lc) l
  bl : Below w.heap.size w wx
  lo : w.heap.size ≤ M
theorem CpV.later {w : World} {M : Nat} {k : Int} {n p : List UInt8} {m : Int} {e : List Sx.Ex} {b l : List Sy.St} {sa ba la : Option Addr} {sc bc lc : Nat} {wx wy : World} (h : CpV w M k n p m e b l sa ba la sc bc lc wx) (q : Below wx.heap.size wx wy) : CpV w M k n p m e b l sa ba la sc bc lc wy :=
  ⟨h.b1.later q (n := 0), h.b2.later q (n := 0), h.he.later q (Nat.le_refl _), h.hb.later q (Nat.le_refl _), h.hl.later q (Nat.le_refl _), h.bl.trans (q.mono h.bl.size), h.lo⟩
set_option maxRecDepth 100000 in
set_option maxHeartbeats 8000000 in
theorem cpS_st (k : Int) (n p : List UInt8) (m : Int) (e : List Sx.Ex) (b l : List Sy.St) (hE : CpE e) (hB : CpT b) (hL : CpT l) : CpS (.mk k n p m e b l) := by
  intro A k2 n2 p2 m2 e2 b2 l2 sa ba la sc bc lc w hx se sb sl
  injection hx with q1 q2 q3 q4 q5 q6 q7
  subst q1 q2 q3 q4 q5 q6 q7
  obtain ⟨M, hM⟩ : ∃ M, M = w.heap.size := ⟨_, rfl⟩
  have HMM := hidC hM
  obtain ⟨W0, hW0⟩ : ∃ W, W = (w.alloc (.cells #[.int .i64 k, .string ⟨n.toArray⟩, .string ⟨p.toArray⟩, .int .i64 m, .slice sa e.length sc, .slice ba b.length bc, .slice la l.length lc] 33)).alloc (.cells #[.int .i64 0, .string ⟨#[]⟩, .string ⟨#[]⟩, .int .i64 0, .slice none 0 0, .slice none 0 0, .slice none 0 0] 33) := ⟨_, rfl⟩
  obtain ⟨z1, z2, z3⟩ := bs_two w (.cells #[.int .i64 k, .string ⟨n.toArray⟩, .string ⟨p.toArray⟩, .int .i64 m, .slice sa e.length sc, .slice ba b.length bc, .slice la l.length lc] 33) (.cells #[.int .i64 0, .string ⟨#[]⟩, .string ⟨#[]⟩, .int .i64 0, .slice none 0 0, .slice none 0 0, .slice none 0 0] 33)
  have K0 : Hid (Below w.heap.size w W0) := by rw [hW0]; exact ⟨z3.os, z3.tape, z3.output, z3.size, z3.block⟩
  have S0 : Hid (W0.heap.size = M + 2) := by rw [hW0, hM]; exact hidC (by simp)
  have B0 : Hid (Bs W0 M (.int .i64 k) (.string ⟨n.toArray⟩) (.string ⟨p.toArray⟩) (.int .i64 m) (.slice sa e.length sc) (.slice ba b.length bc) (.slice la l.length lc)) := by rw [hW0, hM]; exact z1
  have C0 : Hid (Bs W0 (M + 1) (.int .i64 0) (.string ⟨#[]⟩) (.string ⟨#[]⟩) (.int .i64 0) (.slice none 0 0) (.slice none 0 0) (.slice none 0 0)) := by rw [hW0, hM]; exact z2
  have EE := hidC (fun (W : World) (q : Below W0.heap.size W0 W) => hE A sa sc W (se.later (K0.out.trans (q.mono K0.out.size)) (Nat.le_refl _)))
  have EB := hidC (fun (W : World) (q : Below W0.heap.size W0 W) => hB A ba bc W (sb.later (K0.out.trans (q.mono K0.out.size)) (Nat.le_refl _)))
  have ELs := hidC (fun (W : World) (q : Below W0.heap.size W0 W) => hL A la lc W (sl.later (K0.out.trans (q.mono K0.out.size)) (Nat.le_refl _)))
  have FIN : Hid (∀ (W1 W2 W3 : World) (sa' ba' la' : Option Addr) (sc' bc' lc' : Nat), Below W0.heap.size W0 W1 → Below W1.heap.size W1 W2 → Below W2.heap.size W2 W3 → ExS (fun g => W0.heap.size ≤ g) W1 (.slice sa' e.length sc') e → SmS (fun g => W1.heap.size ≤ g) W2 (.slice ba' b.length bc') b → SmS (fun g => W2.heap.size ≤ g) W3 (.slice la' l.length lc') l →
      CpV w M k n p m e b l sa' ba' la' sc' bc' lc' (((W3.setCell ⟨M, 4, none⟩ (.slice sa' e.length sc')).setCell ⟨M, 5, none⟩ (.slice ba' b.length bc')).setCell ⟨M, 6, none⟩ (.slice la' l.length lc'))) := by
    intro W1 W2 W3 sa' ba' la' sc' bc' lc' k1 k2 k3 x1 x2 x3
    have s0 := S0.out
    have s1 := k1.size
    have s2 := k2.size
    have s3 := k3.size
    have k12 := k1.trans (k2.mono k1.size)
    have k13 := k12.trans (k3.mono k12.size)
    have hlo : w.heap.size ≤ M := Nat.le_of_eq HMM.out.symm
    have nM : ∀ i, ¬ (M + 2 ≤ (⟨M, i, none⟩ : Addr).block) := fun i => by simp
    refine ⟨(B0.out.later k13 (n := 0)).set456 _ _ _, ?_, ?_, ?_, ?_, sets_below (K0.out.trans (k13.mono K0.out.size)) hlo _ _ _, hlo⟩
    · have c := C0.out.later k13 (n := 0)
      unfold Bs at c ⊢
      rw [heap_setCell_other _ _ _ _ (by simp), heap_setCell_other _ _ _ _ (by simp), heap_setCell_other _ _ _ _ (by simp)]
      exact c
    · exact ((((x1.mono (A' := fun g => M + 2 ≤ g) fun g _ hg => by omega).later (k2.trans (k3.mono k2.size)) (Nat.le_refl _)).set (nM 4) _).set (nM 5) _).set (nM 6) _
    · exact ((((x2.mono (A' := fun g => M + 2 ≤ g) fun g _ hg => by omega).later k3 (Nat.le_refl _)).set1 (nM 4) _).set1 (nM 5) _).set1 (nM 6) _
    · exact (((x3.mono (A' := fun g => M + 2 ≤ g) fun g _ hg => by omega).set1 (nM 4) _).set1 (nM 5) _).set1 (nM 6) _
  obtain ⟨en, hen⟩ : ∃ n, n = e.length := ⟨_, rfl⟩
  obtain ⟨bn, hbn⟩ : ∃ n, n = b.length := ⟨_, rfl⟩
  obtain ⟨ln, hln⟩ : ∃ n, n = l.length := ⟨_, rfl⟩
  have HEN := hidC hen
  have HBN := hidC hbn
  have HLN := hidC hln
  rw [← hen] at EE B0 FIN hW0
  rw [← hbn] at EB B0 FIN hW0
  rw [← hln] at ELs B0 FIN hW0
  rw [← hen, ← hbn, ← hln]
  clear hE hB hL se sb sl z1 z2 z3 hen hbn hln
  obtain ⟨-, -, -, -, c4, c5, c6⟩ := B0.out.cells
  have y4 := B0.out.fz 4
  have y5 := B0.out.fz 5
  have y6 := B0.out.fz 6
  go_enter Try.func16, Try.ntmps16
  go_upto_region 1 with fail
  rw [← hW0, ← hM]
  clear hW0 hM
  go_cut [] from 3 to 14 (fun wx => ∃ sa' ba' la' sc' bc' lc', CpV w M k n p m e b l sa' ba' la' sc' bc' lc' wx)
  case first =>
    go_region_with (first
      | (have qq := K2; go_at_call 29; refine Calls.mono (ELs.out _ (K1.out.trans ((K2.out.trans ((by go_grown : Below w2.heap.size w2 _).mono K2.out.size)).mono K1.out.size))) ?_; rintro e3 w3 ⟨la', lc', rfl, X3, k3⟩; have F := hidC (FIN.out w1 w2 w3 sa' ba' la' sc' bc' lc' K1.out K2.out (Below.trans (by go_grown : Below w2.heap.size w2 _) (k3.mono (by go_size))) X1.out X2.out (X3.mono fun g _ hg => Nat.le_trans (by go_size : w2.heap.size ≤ _) hg)); have K3 := hidC (K1.out.trans ((K2.out.trans ((Below.trans (by go_grown : Below w2.heap.size w2 _) (k3.mono (by go_size))).mono K2.out.size)).mono K1.out.size)); obtain ⟨-, -, -, -, c4, c5, c6⟩ := (B0.out.later K3.out (n := 0)).cells; have y4 := (B0.out.later K3.out (n := 0)).fz 4; have y5 := (B0.out.later K3.out (n := 0)).fz 5; have y6 := (B0.out.later K3.out (n := 0)).fz 6; clear X3 k3)
      | (have qq := K1; go_at_call 29; refine Calls.mono (EB.out _ (K1.out.trans ((by go_grown : Below w1.heap.size w1 _).mono K1.out.size))) ?_; rintro e2 w2 ⟨ba', bc', rfl, x2, k2⟩; have K2 := hidC (Below.trans (by go_grown : Below w1.heap.size w1 _) (k2.mono (by go_size))); have X2 : Hid (SmS (fun g => w1.heap.size ≤ g) w2 (.slice ba' bn bc') b) := x2.mono fun g _ hg => Nat.le_trans (by go_size : w1.heap.size ≤ _) hg; have K12 := hidC (K1.out.trans (K2.out.mono K1.out.size)); obtain ⟨-, -, -, -, c4, c5, c6⟩ := (B0.out.later K12.out (n := 0)).cells; clear x2 k2)
      | (go_at_call 28; refine Calls.mono (EE.out _ (by go_grown)) ?_; rintro e1 w1 ⟨sa', sc', rfl, x1, k1⟩; have K1 := hidC (Below.trans (by go_grown : Below W0.heap.size W0 _) (k1.mono (by go_size))); have X1 : Hid (ExS (fun g => W0.heap.size ≤ g) w1 (.slice sa' en sc') e) := x1.mono fun g _ hg => Nat.le_trans (by go_size : W0.heap.size ≤ _) hg; obtain ⟨-, -, -, -, c4, c5, c6⟩ := (B0.out.later K1.out (n := 0)).cells; clear x1 k1))
    all_goals go_wp2_with fail
    all_goals go_meet
    all_goals exact ⟨_, _, _, _, _, _, F.out.later ⟨rfl, rfl, rfl, Nat.le_refl _, fun _ _ => rfl⟩⟩
  case rest =>
    obtain ⟨sa', ba', la', sc', bc', lc', R⟩ := hcut
    have HR := hidC R
    have R1 : Hid (Bs wc M (.int .i64 k) (.string ⟨n.toArray⟩) (.string ⟨p.toArray⟩) (.int .i64 m) (.slice sa' en sc') (.slice ba' bn bc') (.slice la' ln lc')) := by rw [HEN.out, HBN.out, HLN.out]; exact R.b1
    have RF := hidC (R.b2.set7 (.int .i64 k) (.string ⟨n.toArray⟩) (.string ⟨p.toArray⟩) (.int .i64 m) (.slice sa' en sc') (.slice ba' bn bc') (.slice la' ln lc'))
    have nM : ¬ (M + 2 ≤ M + 1) := by omega
    have up : ∀ g, M + 2 ≤ g → w.heap.size ≤ g := fun g hg => by have := R.lo; omega
    have HX := hidC ((R.he.sets7 nM (.int .i64 k) (.string ⟨n.toArray⟩) (.string ⟨p.toArray⟩) (.int .i64 m) (.slice sa' en sc') (.slice ba' bn bc') (.slice la' ln lc')).mono (A' := fun g => w.heap.size ≤ g) fun g _ hg => up g hg)
    have HYb := hidC ((R.hb.sets7 nM (.int .i64 k) (.string ⟨n.toArray⟩) (.string ⟨p.toArray⟩) (.int .i64 m) (.slice sa' en sc') (.slice ba' bn bc') (.slice la' ln lc')).mono (A' := fun g => w.heap.size ≤ g) fun g _ hg => up g hg)
    have HZl := hidC ((R.hl.sets7 nM (.int .i64 k) (.string ⟨n.toArray⟩) (.string ⟨p.toArray⟩) (.int .i64 m) (.slice sa' en sc') (.slice ba' bn bc') (.slice la' ln lc')).mono (A' := fun g => w.heap.size ≤ g) fun g _ hg => up g hg)
    have hlo : w.heap.size ≤ M + 1 := by have := R.lo; omega
    have BLW := hidC (sets7_below R.bl hlo (.int .i64 k) (.string ⟨n.toArray⟩) (.string ⟨p.toArray⟩) (.int .i64 m) (.slice sa' en sc') (.slice ba' bn bc') (.slice la' ln lc'))
    have R2 := hidC R.b2
    clear R hlo nM up c4 c5 c6 y4 y5 y6 EE EB ELs FIN
    obtain ⟨c0, c1, c2, c3, c4, c5, c6⟩ := R1.out.cells
    obtain ⟨d0, d1, d2, d3, d4, d5, d6⟩ := R2.out.cells
    have f0 := R2.out.fz 0
    have f1 := R2.out.fz 1
    have f2 := R2.out.fz 2
    have f3 := R2.out.fz 3
    have f4 := R2.out.fz 4
    have f5 := R2.out.fz 5
    have f6 := R2.out.fz 6
    go_upto_region 2 with fail
    go_cut [] from 15 to 15 (fun wx => Hid (Bs wx (M + 1) (.int .i64 k) (.string ⟨n.toArray⟩) (.string ⟨p.toArray⟩) (.int .i64 m) (.slice sa' en sc') (.slice ba' bn bc') (.slice la' ln lc') ∧ ExS (fun g => w.heap.size ≤ g) wx (.slice sa' e.length sc') e ∧ SmS (fun g => w.heap.size ≤ g) wx (.slice ba' b.length bc') b ∧ SmS (fun g => w.heap.size ≤ g) wx (.slice la' l.length lc') l ∧ Below w.heap.size w wx))
    case first =>
      go_wp2_with fail
      go_meet
      exact ⟨RF.out, HX.out, HYb.out, HZl.out, BLW.out⟩
    case rest =>
      have HC := hcut
      clear hcut HX HYb HZl BLW RF R1 R2 c0 c1 c2 c3 c4 c5 c6 d0 d1 d2 d3 d4 d5 d6 f0 f1 f2 f3 f4 f5 f6
      obtain ⟨d0, d1, d2, d3, d4, d5, d6⟩ := HC.out.1.cells
      go_wp2_with fail
      refine bodyPost_ret (v := .agg #[.int .i64 k, .string ⟨n.toArray⟩, .string ⟨p.toArray⟩, .int .i64 m, .slice sa' en sc', .slice ba' bn bc', .slice la' ln lc']) (by simp [results, Try.results16, go_sem, d0, d1, d2, d3, d4, d5, d6]) rfl ?_
      refine ⟨sa', sc', ba', bc', la', lc', rfl, ?_⟩
      have h := HC.out.2
      rw [← HEN.out, ← HBN.out, ← HLN.out] at h
      exact h
end Go.Proofs.Ytobiedmmjiedlaa
