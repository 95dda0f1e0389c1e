/- The document's reader of programs, where it reads on: read, return, var. -/
import Derived.Test.YtobiedmmjiedlaaZRdB
namespace Go.Proofs.Ytobiedmmjiedlaa
open Go.RowKit

set_option maxRecDepth 100000 in
set_option maxHeartbeats 2000000 in
theorem rshort_read (p b o cap : Nat) (ts : List Tok) (d k : Nat) (n : List UInt8) (w : World) (h : Ri w p b o cap ts k 0 0) (t0 : TkA ts k [114, 101, 97, 100]) (t1 : NmA ts (k + 1) n) :
    Calls Try.prog 84 #[.pointer (some ⟨p, 0, none⟩), .int .i64 (d : Int)] w (PostS p b o cap ts w (.mk 9 n [] 0 [] [] []) (k + 1 + 1)) := by
  have hp : Hid (p < w.heap.size) := h.lt
  have hb : Hid (b < w.heap.size) := h.ta.lt
  have H0 : Hid (Ri (w.alloc zS) p b o cap ts k 0 0) := h.later (box_below _ _)
  have R0 : Hid _ := B7.new w 33 (.int .i64 0) (.string ⟨#[]⟩) (.string ⟨#[]⟩) (.int .i64 0) (.slice none 0 0) (.slice none 0 0) (.slice none 0 0)
  have N0 : Hid (¬ (ts.getD k tok0).1.text = [118, 97, 114]) := by unfold Hid; rw [t0.tx]; decide
  have N1 : Hid (¬ (ts.getD k tok0).1.text = [114, 101, 116, 117, 114, 110]) := by unfold Hid; rw [t0.tx]; decide
  have N2 : Hid (¬ (ts.getD k tok0).1.text = [112, 114, 105, 110, 116]) := by unfold Hid; rw [t0.tx]; decide
  have N3 : Hid (¬ (ts.getD k tok0).1.text = [97, 115, 115, 101, 114, 116]) := by unfold Hid; rw [t0.tx]; decide
  have EG : Hid (∀ W, Ri W p b o cap ts k 0 0 → _) := fun W hW => rgot_yes W p b o cap ts k 0 [114, 101, 97, 100] hW t0.tx t0.kd t0.lt
  have EW : Hid (∀ W, Ri W p b o cap ts (k + 1) 0 0 → Calls Try.prog 56 #[.pointer (some ⟨p, 0, none⟩)] W fun e w' => e = .returned (.string ⟨n.toArray⟩) ∧ Ri w' p b o cap ts (k + 1 + 1) 0 0 ∧ Kp p W w') := fun W hW => by
    have e := rword_yes W p b o cap ts (k + 1) 0 hW t1.kd t1.lt
    rw [t1.tx] at e
    exact e
  clear h t0 t1
  go_enter Try.func84, Try.ntmps84
  go_wp2_with fail
  refine Calls.mono (rgot_no _ p b o cap ts k 0 0 [118, 97, 114] (H0.out.later (Below.refl _ _)) (.inr N0.out)) ?_
  rintro e u0 ⟨rfl, bb⟩
  have B0 : Hid (Below (w.alloc zS).heap.size (w.alloc zS) u0) := bb
  clear bb
  go_wp2_with fail
  refine Calls.mono (rgot_no _ p b o cap ts k 0 0 [114, 101, 116, 117, 114, 110] (H0.out.later B0.out) (.inr N1.out)) ?_
  rintro e u1 ⟨rfl, bb⟩
  have B1 : Hid (Below (w.alloc zS).heap.size (w.alloc zS) u1) := B0.out.trans (bb.mono B0.out.size)
  clear bb
  go_wp2_with fail
  refine Calls.mono (rgot_no _ p b o cap ts k 0 0 [112, 114, 105, 110, 116] (H0.out.later B1.out) (.inr N2.out)) ?_
  rintro e u2 ⟨rfl, bb⟩
  have B2 : Hid (Below (w.alloc zS).heap.size (w.alloc zS) u2) := B1.out.trans (bb.mono B1.out.size)
  clear bb
  go_wp2_with fail
  refine Calls.mono (rgot_no _ p b o cap ts k 0 0 [97, 115, 115, 101, 114, 116] (H0.out.later B2.out) (.inr N3.out)) ?_
  rintro e u3 ⟨rfl, bb⟩
  have B3 : Hid (Below (w.alloc zS).heap.size (w.alloc zS) u3) := B2.out.trans (bb.mono B2.out.size)
  clear bb
  go_wp2_with fail
  refine Calls.mono (EG.out _ (H0.out.later B3.out)) ?_
  rintro e v1 ⟨rfl, r1, k1⟩
  have K1 : Hid (Kp p (w.alloc zS) v1) := (Keep.of_below B3.out (Nat.le_refl _) : Kp p (w.alloc zS) u3).trans k1
  have H1 : Hid _ := r1
  clear r1 k1
  go_upto_region 22 with fail
  go_cut [] from 90 (fun wc => B7 wc w.heap.size (.int .i64 9) (.string ⟨n.toArray⟩) (.string ⟨#[]⟩) (.int .i64 0) (.slice none 0 0) (.slice none 0 0) (.slice none 0 0) ∧ PostS p b o cap ts w (.mk 9 n [] 0 [] [] []) (k + 1 + 1) (.returned (.agg #[.int .i64 9, .string ⟨n.toArray⟩, .string ⟨#[]⟩, .int .i64 0, .slice none 0 0, .slice none 0 0, .slice none 0 0])) wc)
  case rest =>
    obtain ⟨B, T⟩ := hcut
    have TT : Hid _ := T
    obtain ⟨c0, c1, c2, c3, c4, c5, c6, -, -, -, -, -, -, -, zt⟩ := B
    clear T
    go_wp2_with fail
    refine bodyPost_ret (v := .agg #[.int .i64 9, .string ⟨n.toArray⟩, .string ⟨#[]⟩, .int .i64 0, .slice none 0 0, .slice none 0 0, .slice none 0 0]) (by simp [results, Try.results84, go_sem, c0, c1, c2, c3, c4, c5, c6]) rfl ?_
    exact TT.out
  case first =>
    go_wp2_with fail
    refine Calls.mono (EW.out _ H1.out) ?_
    rintro e v2 ⟨rfl, r2, k2⟩
    have K2 : Hid (Kp p (w.alloc zS) v2) := K1.out.trans k2
    have R2 : Hid _ := r2
    clear r2 k2
    have z3 : w.heap.size < v2.heap.size := Nat.lt_of_lt_of_le (by simp) K2.out.size
    have Y3 := R0.out.kp K2.out (by have := hp.out; omega)
    have PB : Hid (B7 (fill7 v2 w.heap.size (.int .i64 9) (.string ⟨n.toArray⟩) (.string ⟨#[]⟩) (.int .i64 0) (.slice none 0 0) (.slice none 0 0) (.slice none 0 0)) w.heap.size (.int .i64 9) (.string ⟨n.toArray⟩) (.string ⟨#[]⟩) (.int .i64 0) (.slice none 0 0) (.slice none 0 0) (.slice none 0 0) ∧ PostS p b o cap ts w (.mk 9 n [] 0 [] [] []) (k + 1 + 1) (.returned (.agg #[.int .i64 9, .string ⟨n.toArray⟩, .string ⟨#[]⟩, .int .i64 0, .slice none 0 0, .slice none 0 0, .slice none 0 0])) (fill7 v2 w.heap.size (.int .i64 9) (.string ⟨n.toArray⟩) (.string ⟨#[]⟩) (.int .i64 0) (.slice none 0 0) (.slice none 0 0) (.slice none 0 0))) := by
      have hp' := hp.out
      have hb' := hb.out
      exact ⟨Y3.fill _ _ _ _ _ _ _, _, _, _, _, _, _, _, _, _, _, _, _, _, rfl, rfl, .nil _ _, .nil _ _, .nil _ _, R2.out.fill7 (by omega) (by omega) _ _ _ _ _ _ _, Kp.fill7 ((Keep.of_below (box_below w zS) (Nat.le_refl _) : Kp p w (w.alloc zS)).trans K2.out) (Nat.le_refl _) _ _ _ _ _ _ _⟩
    obtain ⟨c0, c1, c2, c3, c4, c5, c6, f0, f1, f2, f3, f4, f5, f6, zt⟩ := Y3
    go_wp2_with fail
    go_meet
    case rel => exact PB.out
set_option maxRecDepth 100000 in
set_option maxHeartbeats 2000000 in
theorem rshort_ret0 (p b o cap : Nat) (ts : List Tok) (d k : Nat)  (w : World) (h : Ri w p b o cap ts k 0 0) (t0 : TkA ts k [114, 101, 116, 117, 114, 110]) (t1 : TkA ts (k + 1) [59]) :
    Calls Try.prog 84 #[.pointer (some ⟨p, 0, none⟩), .int .i64 (d : Int)] w (PostS p b o cap ts w (.mk 7 [] [] 0 [] [] []) (k + 1)) := by
  have hp : Hid (p < w.heap.size) := h.lt
  have hb : Hid (b < w.heap.size) := h.ta.lt
  have H0 : Hid (Ri (w.alloc zS) p b o cap ts k 0 0) := h.later (box_below _ _)
  have R0 : Hid _ := B7.new w 33 (.int .i64 0) (.string ⟨#[]⟩) (.string ⟨#[]⟩) (.int .i64 0) (.slice none 0 0) (.slice none 0 0) (.slice none 0 0)
  have N0 : Hid (¬ (ts.getD k tok0).1.text = [118, 97, 114]) := by unfold Hid; rw [t0.tx]; decide
  have EG : Hid (∀ W, Ri W p b o cap ts k 0 0 → _) := fun W hW => rgot_yes W p b o cap ts k 0 [114, 101, 116, 117, 114, 110] hW t0.tx t0.kd t0.lt
  have ES : Hid (∀ W, Ri W p b o cap ts (k + 1) 0 0 → _) := fun W hW => ris_yes W p b o cap ts (k + 1) 0 [59] hW t1.tx t1.kd
  clear h t0 t1
  go_enter Try.func84, Try.ntmps84
  go_wp2_with fail
  refine Calls.mono (rgot_no _ p b o cap ts k 0 0 [118, 97, 114] (H0.out.later (Below.refl _ _)) (.inr N0.out)) ?_
  rintro e u0 ⟨rfl, bb⟩
  have B0 : Hid (Below (w.alloc zS).heap.size (w.alloc zS) u0) := bb
  clear bb
  go_wp2_with fail
  refine Calls.mono (EG.out _ (H0.out.later B0.out)) ?_
  rintro e v1 ⟨rfl, r1, k1⟩
  have K1 : Hid (Kp p (w.alloc zS) v1) := (Keep.of_below B0.out (Nat.le_refl _) : Kp p (w.alloc zS) u0).trans k1
  have H1 : Hid _ := r1
  clear r1 k1
  go_wp2_with fail
  refine Calls.mono (ES.out _ H1.out) ?_
  rintro e v2 ⟨rfl, b2⟩
  have R2 : Hid _ := H1.out.later b2
  have K2 : Hid (Kp p (w.alloc zS) v2) := K1.out.trans (Keep.of_below b2 (Nat.le_refl _))
  clear b2
  go_upto_region 15 with fail
  go_cut [] from 68 (fun wc => B7 wc w.heap.size (.int .i64 7) (.string ⟨#[]⟩) (.string ⟨#[]⟩) (.int .i64 0) (.slice none 0 0) (.slice none 0 0) (.slice none 0 0) ∧ PostS p b o cap ts w (.mk 7 [] [] 0 [] [] []) (k + 1) (.returned (.agg #[.int .i64 7, .string ⟨#[]⟩, .string ⟨#[]⟩, .int .i64 0, .slice none 0 0, .slice none 0 0, .slice none 0 0])) wc)
  case rest =>
    obtain ⟨B, T⟩ := hcut
    have TT : Hid _ := T
    obtain ⟨c0, c1, c2, c3, c4, c5, c6, -, -, -, -, -, -, -, zt⟩ := B
    clear T
    go_wp2_with fail
    refine bodyPost_ret (v := .agg #[.int .i64 7, .string ⟨#[]⟩, .string ⟨#[]⟩, .int .i64 0, .slice none 0 0, .slice none 0 0, .slice none 0 0]) (by simp [results, Try.results84, go_sem, c0, c1, c2, c3, c4, c5, c6]) rfl ?_
    exact TT.out
  case first =>
    have z3 : w.heap.size < v2.heap.size := Nat.lt_of_lt_of_le (by simp) K2.out.size
    have Y3 := R0.out.kp K2.out (by have := hp.out; omega)
    have PB : Hid (B7 (fill7 v2 w.heap.size (.int .i64 7) (.string ⟨#[]⟩) (.string ⟨#[]⟩) (.int .i64 0) (.slice none 0 0) (.slice none 0 0) (.slice none 0 0)) w.heap.size (.int .i64 7) (.string ⟨#[]⟩) (.string ⟨#[]⟩) (.int .i64 0) (.slice none 0 0) (.slice none 0 0) (.slice none 0 0) ∧ PostS p b o cap ts w (.mk 7 [] [] 0 [] [] []) (k + 1) (.returned (.agg #[.int .i64 7, .string ⟨#[]⟩, .string ⟨#[]⟩, .int .i64 0, .slice none 0 0, .slice none 0 0, .slice none 0 0])) (fill7 v2 w.heap.size (.int .i64 7) (.string ⟨#[]⟩) (.string ⟨#[]⟩) (.int .i64 0) (.slice none 0 0) (.slice none 0 0) (.slice none 0 0))) := by
      have hp' := hp.out
      have hb' := hb.out
      exact ⟨Y3.fill _ _ _ _ _ _ _, _, _, _, _, _, _, _, _, _, _, _, _, _, rfl, rfl, .nil _ _, .nil _ _, .nil _ _, R2.out.fill7 (by omega) (by omega) _ _ _ _ _ _ _, Kp.fill7 ((Keep.of_below (box_below w zS) (Nat.le_refl _) : Kp p w (w.alloc zS)).trans K2.out) (Nat.le_refl _) _ _ _ _ _ _ _⟩
    obtain ⟨c0, c1, c2, c3, c4, c5, c6, f0, f1, f2, f3, f4, f5, f6, zt⟩ := Y3
    go_wp2_with fail
    go_meet
    case rel => exact PB.out
set_option maxRecDepth 100000 in
set_option maxHeartbeats 2000000 in
theorem rshort_varb (p b o cap : Nat) (ts : List Tok) (d k : Nat) (n : List UInt8) (w : World) (h : Ri w p b o cap ts k 0 0) (t0 : TkA ts k [118, 97, 114]) (tb : TkA ts (k + 1) [98, 111, 111, 108]) (t1 : NmA ts (k + 1 + 1) n) :
    Calls Try.prog 84 #[.pointer (some ⟨p, 0, none⟩), .int .i64 (d : Int)] w (PostS p b o cap ts w (.mk 1 n [] (-1) [] [] []) (k + 1 + 1 + 1)) := by
  have hp : Hid (p < w.heap.size) := h.lt
  have hb : Hid (b < w.heap.size) := h.ta.lt
  have H0 : Hid (Ri (w.alloc zS) p b o cap ts k 0 0) := h.later (box_below _ _)
  have R0 : Hid _ := B7.new w 33 (.int .i64 0) (.string ⟨#[]⟩) (.string ⟨#[]⟩) (.int .i64 0) (.slice none 0 0) (.slice none 0 0) (.slice none 0 0)
  have EG : Hid (∀ W, Ri W p b o cap ts k 0 0 → _) := fun W hW => rgot_yes W p b o cap ts k 0 [118, 97, 114] hW t0.tx t0.kd t0.lt
  have EBo : Hid (∀ W, Ri W p b o cap ts (k + 1) 0 0 → _) := fun W hW => rgot_yes W p b o cap ts (k + 1) 0 [98, 111, 111, 108] hW tb.tx tb.kd tb.lt
  have EW : Hid (∀ W, Ri W p b o cap ts (k + 1 + 1) 0 0 → Calls Try.prog 56 #[.pointer (some ⟨p, 0, none⟩)] W fun e w' => e = .returned (.string ⟨n.toArray⟩) ∧ Ri w' p b o cap ts (k + 1 + 1 + 1) 0 0 ∧ Kp p W w') := fun W hW => by
    have e := rword_yes W p b o cap ts (k + 1 + 1) 0 hW t1.kd t1.lt
    rw [t1.tx] at e
    exact e
  clear h t0 t1 tb
  go_enter Try.func84, Try.ntmps84
  go_wp2_with fail
  refine Calls.mono (EG.out _ (H0.out.later (Below.refl _ _))) ?_
  rintro e v1 ⟨rfl, r1, k1⟩
  have K1 : Hid (Kp p (w.alloc zS) v1) := (Keep.of_below (Below.refl _ _) (Nat.le_refl _) : Kp p (w.alloc zS) (w.alloc zS)).trans k1
  have H1 : Hid _ := r1
  clear r1 k1
  go_wp2_with fail
  refine Calls.mono (EBo.out _ H1.out) ?_
  rintro e v2 ⟨rfl, r2, k2⟩
  have R2 : Hid _ := r2
  have K2 : Hid (Kp p (w.alloc zS) v2) := K1.out.trans k2
  clear r2 k2
  go_upto_region 3 with fail
  go_cut [] from 14 (fun wc => B7 wc w.heap.size (.int .i64 1) (.string ⟨n.toArray⟩) (.string ⟨#[]⟩) (.int .i64 (-1)) (.slice none 0 0) (.slice none 0 0) (.slice none 0 0) ∧ PostS p b o cap ts w (.mk 1 n [] (-1) [] [] []) (k + 1 + 1 + 1) (.returned (.agg #[.int .i64 1, .string ⟨n.toArray⟩, .string ⟨#[]⟩, .int .i64 (-1), .slice none 0 0, .slice none 0 0, .slice none 0 0])) wc)
  case rest =>
    obtain ⟨B, T⟩ := hcut
    have TT : Hid _ := T
    obtain ⟨c0, c1, c2, c3, c4, c5, c6, -, -, -, -, -, -, -, zt⟩ := B
    clear T
    go_wp2_with fail
    refine bodyPost_ret (v := .agg #[.int .i64 1, .string ⟨n.toArray⟩, .string ⟨#[]⟩, .int .i64 (-1), .slice none 0 0, .slice none 0 0, .slice none 0 0]) (by simp [results, Try.results84, go_sem, c0, c1, c2, c3, c4, c5, c6]) rfl ?_
    exact TT.out
  case first =>
    go_wp2_with fail
    refine Calls.mono (EW.out _ R2.out) ?_
    rintro e v3 ⟨rfl, r3, k3⟩
    have K3 : Hid (Kp p (w.alloc zS) v3) := K2.out.trans k3
    have R3 : Hid _ := r3
    clear r3 k3
    have z3 : w.heap.size < v3.heap.size := Nat.lt_of_lt_of_le (by simp) K3.out.size
    have Y3 := R0.out.kp K3.out (by have := hp.out; omega)
    have PB : Hid (B7 (fill7 v3 w.heap.size (.int .i64 1) (.string ⟨n.toArray⟩) (.string ⟨#[]⟩) (.int .i64 (-1)) (.slice none 0 0) (.slice none 0 0) (.slice none 0 0)) w.heap.size (.int .i64 1) (.string ⟨n.toArray⟩) (.string ⟨#[]⟩) (.int .i64 (-1)) (.slice none 0 0) (.slice none 0 0) (.slice none 0 0) ∧ PostS p b o cap ts w (.mk 1 n [] (-1) [] [] []) (k + 1 + 1 + 1) (.returned (.agg #[.int .i64 1, .string ⟨n.toArray⟩, .string ⟨#[]⟩, .int .i64 (-1), .slice none 0 0, .slice none 0 0, .slice none 0 0])) (fill7 v3 w.heap.size (.int .i64 1) (.string ⟨n.toArray⟩) (.string ⟨#[]⟩) (.int .i64 (-1)) (.slice none 0 0) (.slice none 0 0) (.slice none 0 0))) := by
      have hp' := hp.out
      have hb' := hb.out
      exact ⟨Y3.fill _ _ _ _ _ _ _, _, _, _, _, _, _, _, _, _, _, _, _, _, rfl, rfl, .nil _ _, .nil _ _, .nil _ _, R3.out.fill7 (by omega) (by omega) _ _ _ _ _ _ _, Kp.fill7 ((Keep.of_below (box_below w zS) (Nat.le_refl _) : Kp p w (w.alloc zS)).trans K3.out) (Nat.le_refl _) _ _ _ _ _ _ _⟩
    obtain ⟨c0, c1, c2, c3, c4, c5, c6, f0, f1, f2, f3, f4, f5, f6, zt⟩ := Y3
    go_wp2_with fail
    go_meet
    case rel => exact PB.out
set_option maxRecDepth 100000 in
set_option maxHeartbeats 2000000 in
theorem rshort_var (p b o cap : Nat) (ts : List Tok) (d k : Nat) (n : List UInt8) (w : World) (h : Ri w p b o cap ts k 0 0) (t0 : TkA ts k [118, 97, 114]) (tb : ¬ (ts.getD (k + 1) tok0).1.text = [98, 111, 111, 108]) (t1 : NmA ts (k + 1) n) (t2 : ¬ (ts.getD (k + 1 + 1) tok0).1.text = [91]) :
    Calls Try.prog 84 #[.pointer (some ⟨p, 0, none⟩), .int .i64 (d : Int)] w (PostS p b o cap ts w (.mk 1 n [] 0 [] [] []) (k + 1 + 1)) := by
  have hp : Hid (p < w.heap.size) := h.lt
  have hb : Hid (b < w.heap.size) := h.ta.lt
  have H0 : Hid (Ri (w.alloc zS) p b o cap ts k 0 0) := h.later (box_below _ _)
  have R0 : Hid _ := B7.new w 33 (.int .i64 0) (.string ⟨#[]⟩) (.string ⟨#[]⟩) (.int .i64 0) (.slice none 0 0) (.slice none 0 0) (.slice none 0 0)
  have EG : Hid (∀ W, Ri W p b o cap ts k 0 0 → _) := fun W hW => rgot_yes W p b o cap ts k 0 [118, 97, 114] hW t0.tx t0.kd t0.lt
  have EBo : Hid (∀ W, Ri W p b o cap ts (k + 1) 0 0 → _) := fun W hW => rgot_no W p b o cap ts (k + 1) 0 0 [98, 111, 111, 108] hW (.inr tb)
  have EBr : Hid (∀ W, Ri W p b o cap ts (k + 1 + 1) 0 0 → _) := fun W hW => rgot_no W p b o cap ts (k + 1 + 1) 0 0 [91] hW (.inr t2)
  have EW : Hid (∀ W, Ri W p b o cap ts (k + 1) 0 0 → Calls Try.prog 56 #[.pointer (some ⟨p, 0, none⟩)] W fun e w' => e = .returned (.string ⟨n.toArray⟩) ∧ Ri w' p b o cap ts (k + 1 + 1) 0 0 ∧ Kp p W w') := fun W hW => by
    have e := rword_yes W p b o cap ts (k + 1) 0 hW t1.kd t1.lt
    rw [t1.tx] at e
    exact e
  clear h t0 t1 tb t2
  go_enter Try.func84, Try.ntmps84
  go_wp2_with fail
  refine Calls.mono (EG.out _ (H0.out.later (Below.refl _ _))) ?_
  rintro e v1 ⟨rfl, r1, k1⟩
  have K1 : Hid (Kp p (w.alloc zS) v1) := (Keep.of_below (Below.refl _ _) (Nat.le_refl _) : Kp p (w.alloc zS) (w.alloc zS)).trans k1
  have H1 : Hid _ := r1
  clear r1 k1
  go_wp2_with fail
  refine Calls.mono (EBo.out _ H1.out) ?_
  rintro e v2 ⟨rfl, b2⟩
  have R2 : Hid _ := H1.out.later b2
  have K2 : Hid (Kp p (w.alloc zS) v2) := K1.out.trans (Keep.of_below b2 (Nat.le_refl _))
  clear b2
  go_wp2_with fail
  refine Calls.mono (EW.out _ R2.out) ?_
  rintro e v3 ⟨rfl, r3, k3⟩
  have K3 : Hid (Kp p (w.alloc zS) v3) := K2.out.trans k3
  have z3 : w.heap.size < v3.heap.size := Nat.lt_of_lt_of_le (by simp) K3.out.size
  have nz : ¬ v3.heap.size = w.heap.size := by omega
  have nz' : ¬ w.heap.size = v3.heap.size := by omega
  have np : v3.heap.size ≠ p := by have := hp.out; omega
  obtain ⟨V, hV⟩ : ∃ V, V = v3.alloc (.cells #[.int .i64 1, .string ⟨n.toArray⟩, .string ⟨#[]⟩, .int .i64 0, .slice none 0 0, .slice none 0 0, .slice none 0 0] 33) := ⟨_, rfl⟩
  have bV : Below v3.heap.size v3 V := by rw [hV]; exact box_below _ _
  have XV : Hid (B7 V v3.heap.size (.int .i64 1) (.string ⟨n.toArray⟩) (.string ⟨#[]⟩) (.int .i64 0) (.slice none 0 0) (.slice none 0 0) (.slice none 0 0)) := by rw [hV]; exact B7.new v3 _ _ _ _ _ _ _ _
  have RV : Hid _ := r3.later bV
  have KV : Hid (Kp p (w.alloc zS) V) := K3.out.trans (Keep.of_below bV (Nat.le_refl _))
  clear r3 k3 bV
  go_wp2_with fail
  rw [← hV]
  clear hV
  refine Calls.mono (EBr.out _ RV.out) ?_
  rintro e v4 ⟨rfl, b4⟩
  have R4 : Hid _ := RV.out.later b4
  have K4 : Hid (Kp p (w.alloc zS) v4) := KV.out.trans (Keep.of_below b4 (Nat.le_refl _))
  have X4 := XV.out.kept (b4.block _ XV.out.lt) b4.size
  obtain ⟨q0, q1, q2, q3, q4, q5, q6, -, -, -, -, -, -, -, zq⟩ := X4
  clear b4
  go_upto_region 12 with fail
  go_cut [] from 63 (fun wc => B7 wc w.heap.size (.int .i64 1) (.string ⟨n.toArray⟩) (.string ⟨#[]⟩) (.int .i64 0) (.slice none 0 0) (.slice none 0 0) (.slice none 0 0) ∧ PostS p b o cap ts w (.mk 1 n [] 0 [] [] []) (k + 1 + 1) (.returned (.agg #[.int .i64 1, .string ⟨n.toArray⟩, .string ⟨#[]⟩, .int .i64 0, .slice none 0 0, .slice none 0 0, .slice none 0 0])) wc)
  case rest =>
    obtain ⟨B, T⟩ := hcut
    have TT : Hid _ := T
    obtain ⟨c0, c1, c2, c3, c4, c5, c6, -, -, -, -, -, -, -, zt⟩ := B
    clear T
    go_wp2_with fail
    refine bodyPost_ret (v := .agg #[.int .i64 1, .string ⟨n.toArray⟩, .string ⟨#[]⟩, .int .i64 0, .slice none 0 0, .slice none 0 0, .slice none 0 0]) (by simp [results, Try.results84, go_sem, c0, c1, c2, c3, c4, c5, c6]) rfl ?_
    exact TT.out
  case first =>
    have z3 : w.heap.size < v4.heap.size := Nat.lt_of_lt_of_le (by simp) K4.out.size
    have Y3 := R0.out.kp K4.out (by have := hp.out; omega)
    have PB : Hid (B7 (fill7 v4 w.heap.size (.int .i64 1) (.string ⟨n.toArray⟩) (.string ⟨#[]⟩) (.int .i64 0) (.slice none 0 0) (.slice none 0 0) (.slice none 0 0)) w.heap.size (.int .i64 1) (.string ⟨n.toArray⟩) (.string ⟨#[]⟩) (.int .i64 0) (.slice none 0 0) (.slice none 0 0) (.slice none 0 0) ∧ PostS p b o cap ts w (.mk 1 n [] 0 [] [] []) (k + 1 + 1) (.returned (.agg #[.int .i64 1, .string ⟨n.toArray⟩, .string ⟨#[]⟩, .int .i64 0, .slice none 0 0, .slice none 0 0, .slice none 0 0])) (fill7 v4 w.heap.size (.int .i64 1) (.string ⟨n.toArray⟩) (.string ⟨#[]⟩) (.int .i64 0) (.slice none 0 0) (.slice none 0 0) (.slice none 0 0))) := by
      have hp' := hp.out
      have hb' := hb.out
      exact ⟨Y3.fill _ _ _ _ _ _ _, _, _, _, _, _, _, _, _, _, _, _, _, _, rfl, rfl, .nil _ _, .nil _ _, .nil _ _, R4.out.fill7 (by omega) (by omega) _ _ _ _ _ _ _, Kp.fill7 ((Keep.of_below (box_below w zS) (Nat.le_refl _) : Kp p w (w.alloc zS)).trans K4.out) (Nat.le_refl _) _ _ _ _ _ _ _⟩
    obtain ⟨c0, c1, c2, c3, c4, c5, c6, f0, f1, f2, f3, f4, f5, f6, zt⟩ := Y3
    go_wp2_with fail
    go_meet
    case rel => exact PB.out
end Go.Proofs.Ytobiedmmjiedlaa
