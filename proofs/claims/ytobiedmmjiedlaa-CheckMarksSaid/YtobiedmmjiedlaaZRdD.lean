/- The document's reader of programs, where it reads on: =. -/
import Derived.Test.YtobiedmmjiedlaaZRdB
import Derived.BigQuiet
namespace Go.Proofs.Ytobiedmmjiedlaa
open Go.RowKit

set_option maxRecDepth 100000 in
set_option maxHeartbeats 1000000 in
theorem rkind_dr (w : World) (p b o cap : Nat) (ts : List Tok) (k : Nat) (a kd : Int) (h : Ri w p b o cap ts k 0 a) :
    Calls Try.prog 35 #[.pointer (some ⟨p, 0, none⟩), .int .i64 kd] w fun e w' => e = .returned (.bool ((ts.getD k tok0).1.kind == kd)) ∧ ∃ m, w' = w.drewN m := by
  have hk := h.hk
  have r0 := h.row
  have r1 := h.nx
  have r2 := h.ce
  have c0 := h.ta.c0 k hk
  have hki : (k : Int) < (ts.length : Int) := by omega
  have hk0 : (0 : Int) ≤ (k : Int) := by omega
  generalize (ts.getD k tok0).1.kind = K at *
  clear h
  go_enter Try.func35, Try.ntmps35
  go_wp2_with fail
  go_quiet (fail)
  go_wp2_with fail
  go_ret
  exact ⟨rfl, _, rfl⟩
set_option maxRecDepth 100000 in
set_option maxHeartbeats 2000000 in
theorem rshort_set (p b o cap : Nat) (ts : List Tok) (d k : Nat) (f k' : Nat) (x : Sx.Ex) (n : List UInt8) (w : World) (h : Ri w p b o cap ts k 0 0) (he : ECr p b o cap ts f) (hd : d ≤ 61) (t0 : NmA ts k n) (t1 : TkA ts (k + 1) [61]) (t2 : ¬ (ts.getD (k + 1 + 1) tok0).1.kind = 1) (hx : Sx.bd ts f 1 d (k + 1 + 1) = some (.ok x k')) :
    Calls Try.prog 84 #[.pointer (some ⟨p, 0, none⟩), .int .i64 (d : Int)] w (PostS p b o cap ts w (.mk 2 n [] 0 [x] [] []) (k')) := by
  have hp : Hid (p < w.heap.size) := h.lt
  have hb : Hid (b < w.heap.size) := h.ta.lt
  have H0 : Hid (Ri (w.alloc zS) p b o cap ts k 0 0) := h.later (box_below _ _)
  have R0 : Hid _ := B7.new w 33 (.int .i64 0) (.string ⟨#[]⟩) (.string ⟨#[]⟩) (.int .i64 0) (.slice none 0 0) (.slice none 0 0) (.slice none 0 0)
  have N0 : Hid (¬ (ts.getD k tok0).1.text = [118, 97, 114]) := by unfold Hid; intro e; rw [t0.tx] at e; have := t0.key; rw [e] at this; exact absurd this (by decide)
  have N1 : Hid (¬ (ts.getD k tok0).1.text = [114, 101, 116, 117, 114, 110]) := by unfold Hid; intro e; rw [t0.tx] at e; have := t0.key; rw [e] at this; exact absurd this (by decide)
  have N2 : Hid (¬ (ts.getD k tok0).1.text = [112, 114, 105, 110, 116]) := by unfold Hid; intro e; rw [t0.tx] at e; have := t0.key; rw [e] at this; exact absurd this (by decide)
  have N3 : Hid (¬ (ts.getD k tok0).1.text = [97, 115, 115, 101, 114, 116]) := by unfold Hid; intro e; rw [t0.tx] at e; have := t0.key; rw [e] at this; exact absurd this (by decide)
  have N4 : Hid (¬ (ts.getD k tok0).1.text = [114, 101, 97, 100]) := by unfold Hid; intro e; rw [t0.tx] at e; have := t0.key; rw [e] at this; exact absurd this (by decide)
  have EW : Hid (∀ W, Ri W p b o cap ts k 0 0 → Calls Try.prog 56 #[.pointer (some ⟨p, 0, none⟩)] W fun e w' => e = .returned (.string ⟨n.toArray⟩) ∧ Ri w' p b o cap ts (k + 1) 0 0 ∧ Kp p W w') := fun W hW => by
    have e := rword_yes W p b o cap ts k 0 hW t0.kd t0.lt
    rw [t0.tx] at e
    exact e
  have EP : Hid (∀ W, Ri W p b o cap ts (k + 1) 0 0 → _) := fun W hW => ris_no W p b o cap ts (k + 1) 0 0 [40] hW (.inr (by rw [t1.tx]; decide))
  have EQ : Hid (∀ W, Ri W p b o cap ts (k + 1) 0 0 → _) := fun W hW => rgot_no W p b o cap ts (k + 1) 0 0 [91] hW (.inr (by rw [t1.tx]; decide))
  have EE : Hid (∀ W, Ri W p b o cap ts (k + 1) 0 0 → _) := fun W hW => rwant_yes W p b o cap ts (k + 1) 0 [61] hW t1.tx t1.kd t1.lt
  have EK : Hid (∀ W, Ri W p b o cap ts (k + 1 + 1) 0 0 → Calls Try.prog 35 #[.pointer (some ⟨p, 0, none⟩), .int .i64 1] W fun e w' => e = .returned (.bool false) ∧ ∃ m, w' = W.drewN m) := fun W hW => by
    have e := rkind_dr W p b o cap ts (k + 1 + 1) 0 1 hW
    have e0 : ((ts.getD (k + 1 + 1) tok0).1.kind == 1) = false := beq_eq_false_iff_ne.2 t2
    rw [e0] at e
    exact e
  have EX : Hid (∀ W, Ri W p b o cap ts (k + 1 + 1) 0 0 → _) := fun W hW => he d (k + 1 + 1) _ W hd hW hx
  clear h t0 t1 t2 he hd hx
  go_enter Try.func84, Try.ntmps84
  go_wp2_with fail
  refine Calls.mono (rgot_no _ p b o cap ts k 0 0 [118, 97, 114] (H0.out.later (Below.refl _ _)) (.inr N0.out)) ?_
  rintro e u0 ⟨rfl, bb⟩
  have B0 : Hid (Below (w.alloc zS).heap.size (w.alloc zS) u0) := bb
  clear bb
  go_wp2_with fail
  refine Calls.mono (rgot_no _ p b o cap ts k 0 0 [114, 101, 116, 117, 114, 110] (H0.out.later B0.out) (.inr N1.out)) ?_
  rintro e u1 ⟨rfl, bb⟩
  have B1 : Hid (Below (w.alloc zS).heap.size (w.alloc zS) u1) := B0.out.trans (bb.mono B0.out.size)
  clear bb
  go_wp2_with fail
  refine Calls.mono (rgot_no _ p b o cap ts k 0 0 [112, 114, 105, 110, 116] (H0.out.later B1.out) (.inr N2.out)) ?_
  rintro e u2 ⟨rfl, bb⟩
  have B2 : Hid (Below (w.alloc zS).heap.size (w.alloc zS) u2) := B1.out.trans (bb.mono B1.out.size)
  clear bb
  go_wp2_with fail
  refine Calls.mono (rgot_no _ p b o cap ts k 0 0 [97, 115, 115, 101, 114, 116] (H0.out.later B2.out) (.inr N3.out)) ?_
  rintro e u3 ⟨rfl, bb⟩
  have B3 : Hid (Below (w.alloc zS).heap.size (w.alloc zS) u3) := B2.out.trans (bb.mono B2.out.size)
  clear bb
  go_wp2_with fail
  refine Calls.mono (rgot_no _ p b o cap ts k 0 0 [114, 101, 97, 100] (H0.out.later B3.out) (.inr N4.out)) ?_
  rintro e u4 ⟨rfl, bb⟩
  have B4 : Hid (Below (w.alloc zS).heap.size (w.alloc zS) u4) := B3.out.trans (bb.mono B3.out.size)
  clear bb
  go_wp2_with fail
  refine Calls.mono (EW.out _ (H0.out.later B4.out)) ?_
  rintro e v1 ⟨rfl, r1, k1⟩
  have K1 : Hid (Kp p (w.alloc zS) v1) := (Keep.of_below B4.out (Nat.le_refl _) : Kp p (w.alloc zS) u4).trans k1
  have H1 : Hid _ := r1
  clear r1 k1
  go_wp2_with fail
  refine Calls.mono (EP.out _ H1.out) ?_
  rintro e v2 ⟨rfl, b2⟩
  have H2 : Hid _ := H1.out.later b2
  have K2 : Hid (Kp p (w.alloc zS) v2) := K1.out.trans (Keep.of_below b2 (Nat.le_refl _))
  clear b2
  go_wp2_with fail
  refine Calls.mono (EQ.out _ H2.out) ?_
  rintro e v3 ⟨rfl, b3⟩
  have H3 : Hid _ := H2.out.later b3
  have K3 : Hid (Kp p (w.alloc zS) v3) := K2.out.trans (Keep.of_below b3 (Nat.le_refl _))
  clear b3
  go_wp2_with fail
  refine Calls.mono (EE.out _ H3.out) ?_
  rintro e v4 ⟨rfl, r4, k4⟩
  have H4 : Hid _ := r4
  have K4 : Hid (Kp p (w.alloc zS) v4) := K3.out.trans k4
  clear r4 k4
  go_wp2_with fail
  go_quiet (first | (go_at_call 35; exact Calls.quiet_of (EK.out _ (H4.out.later (below_drewN (Below.refl _ _) _)))))
  have b5 : Below v4.heap.size v4 (v4.drewN nq) := below_drewN (Below.refl _ _) _
  have H5 : Hid _ := H4.out.later b5
  have K5 : Hid (Kp p (w.alloc zS) (v4.drewN nq)) := K4.out.trans (Keep.of_below b5 (Nat.le_refl _))
  clear b5
  generalize v4.drewN nq = wc at *
  go_upto_region 36 with fail
  go_cut [] from 174 (fun wd => ∃ sl, B7 wd w.heap.size (.int .i64 2) (.string ⟨n.toArray⟩) (.string ⟨#[]⟩) (.int .i64 0) (sl) (.slice none 0 0) (.slice none 0 0) ∧ PostS p b o cap ts w (.mk 2 n [] 0 [x] [] []) k' (.returned (.agg #[.int .i64 2, .string ⟨n.toArray⟩, .string ⟨#[]⟩, .int .i64 0, sl, .slice none 0 0, .slice none 0 0])) wd)
  case rest =>
    obtain ⟨sl, B, T⟩ := hcut
    have TT : Hid _ := T
    obtain ⟨c0, c1, c2, c3, c4, c5, c6, -, -, -, -, -, -, -, zt⟩ := B
    clear T
    go_wp2_with fail
    refine bodyPost_ret (v := .agg #[.int .i64 2, .string ⟨n.toArray⟩, .string ⟨#[]⟩, .int .i64 0, sl, .slice none 0 0, .slice none 0 0]) (by simp [results, Try.results84, go_sem, c0, c1, c2, c3, c4, c5, c6]) rfl ?_
    exact TT.out
  case first =>
    go_wp2_with fail
    refine Calls.mono (EX.out _ H5.out) ?_
    rintro e v7 ⟨kk, nn, mm, sa, sn, sc, ll, rfl, rfl, hs, r7, k7⟩
    have ln := hs.len
    subst ln
    have K7 : Hid (Kp p (w.alloc zS) v7) := K5.out.trans k7
    have z7 : w.heap.size < v7.heap.size := Nat.lt_of_lt_of_le (by simp) K7.out.size
    have nz : ¬ v7.heap.size = w.heap.size := by omega
    have nz' : ¬ w.heap.size = v7.heap.size := by omega
    have Y7 := R0.out.kp K7.out (by have := hp.out; omega)
    have S7 : Hid (ExS (fun g => w.heap.size < g) v7 (.slice sa ll.length sc) ll) := hs.mono fun g _ hg => by have h1 := K5.out.size; simp at h1; omega
    have R7 : Hid _ := r7
    have PB : Hid (∀ t : TypeId, ∃ sl, B7 ((fill7 v7 w.heap.size (.int .i64 2) (.string ⟨n.toArray⟩) (.string ⟨#[]⟩) (.int .i64 0) (.slice (some ⟨v7.heap.size, 0, none⟩) 1 1) (.slice none 0 0) (.slice none 0 0)).alloc (.cells #[.int .i64 kk, .string ⟨nn.toArray⟩, .int .i64 mm, .slice sa ll.length sc] t)) w.heap.size (.int .i64 2) (.string ⟨n.toArray⟩) (.string ⟨#[]⟩) (.int .i64 0) (sl) (.slice none 0 0) (.slice none 0 0) ∧ PostS p b o cap ts w (.mk 2 n [] 0 [.mk kk nn mm ll] [] []) k' (.returned (.agg #[.int .i64 2, .string ⟨n.toArray⟩, .string ⟨#[]⟩, .int .i64 0, sl, .slice none 0 0, .slice none 0 0])) ((fill7 v7 w.heap.size (.int .i64 2) (.string ⟨n.toArray⟩) (.string ⟨#[]⟩) (.int .i64 0) (.slice (some ⟨v7.heap.size, 0, none⟩) 1 1) (.slice none 0 0) (.slice none 0 0)).alloc (.cells #[.int .i64 kk, .string ⟨nn.toArray⟩, .int .i64 mm, .slice sa ll.length sc] t))) := by
      intro t
      have hp' := hp.out
      have hb' := hb.out
      refine ⟨_, (Y7.fill _ _ _ _ _ _ _).kept ((box_below _ _).block _ (by rw [fill7_size]; exact z7)) (by simp), _, _, _, _, _, _, _, _, _, _, _, _, _, rfl, rfl, ?_, .nil _ _, .nil _ _, ((R7.out.fill7 (by omega) (by omega) _ _ _ _ _ _ _).later (box_below _ _)), ?_⟩
      · have e := (S7.out.fill7 (g := w.heap.size) (Nat.lt_irrefl _) (.int .i64 2) (.string ⟨n.toArray⟩) (.string ⟨#[]⟩) (.int .i64 0) (.slice (some ⟨v7.heap.size, 0, none⟩) 1 1) (.slice none 0 0) (.slice none 0 0)).one (by rw [fill7_size]; exact z7) kk nn mm t
        rw [fill7_size] at e
        exact e.mono fun g _ hg => Nat.le_of_lt hg
      · exact Keep.alloc (Kp.fill7 ((Keep.of_below (box_below w zS) (Nat.le_refl _) : Kp p w (w.alloc zS)).trans K7.out) (Nat.le_refl _) _ _ _ _ _ _ _) _
    obtain ⟨c0, c1, c2, c3, c4, c5, c6, f0, f1, f2, f3, f4, f5, f6, zt⟩ := Y7
    clear hs r7 k7
    go_wp2_with fail
    go_meet
    case rel => exact PB.out _
end Go.Proofs.Ytobiedmmjiedlaa
