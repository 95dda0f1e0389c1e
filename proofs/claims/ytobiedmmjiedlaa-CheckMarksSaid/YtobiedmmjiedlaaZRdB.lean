/- The document's reader of programs, where it reads on: short statements. -/
import Derived.Test.YtobiedmmjiedlaaZRdA
namespace Go.Proofs.Ytobiedmmjiedlaa
open Go.RowKit

/-- A statement was read. -/
def PostS (p b o cap : Nat) (ts : List Tok) (w : World) (s : Sy.St) (k' : Nat) (e : Ending) (w' : World) : Prop :=
  ∃ kk nn pp mm ex bo el sa sc ba bc la lc, s = .mk kk nn pp mm ex bo el ∧ e = .returned (.agg #[.int .i64 kk, .string ⟨(nn : List UInt8).toArray⟩, .string ⟨(pp : List UInt8).toArray⟩, .int .i64 mm, .slice sa (ex : List Sx.Ex).length sc, .slice ba (bo : List Sy.St).length bc, .slice la (el : List Sy.St).length lc]) ∧
    ExS (fun g => w.heap.size ≤ g) w' (.slice sa ex.length sc) ex ∧ SmS (fun g => w.heap.size ≤ g) w' (.slice ba bo.length bc) bo ∧ SmS (fun g => w.heap.size ≤ g) w' (.slice la el.length lc) el ∧ Ri w' p b o cap ts k' 0 0 ∧ Kp p w w'
theorem Kp.fill7 {p : Nat} {w w' : World} (h : Kp p w w') {g : Nat} (hg : w.heap.size ≤ g) (a0 a1 a2 a3 a4 a5 a6 : Value) : Kp p w (Go.Proofs.Ytobiedmmjiedlaa.fill7 w' g a0 a1 a2 a3 a4 a5 a6) :=
  ((((((h.set (a := ⟨g, 0, none⟩) (.inl hg) _).set (a := ⟨g, 1, none⟩) (.inl hg) _).set (a := ⟨g, 2, none⟩) (.inl hg) _).set (a := ⟨g, 3, none⟩) (.inl hg) _).set (a := ⟨g, 4, none⟩) (.inl hg) _).set (a := ⟨g, 5, none⟩) (.inl hg) _).set (a := ⟨g, 6, none⟩) (.inl hg) _
theorem Ri.fill7 {w : World} {p b o cap : Nat} {ts : List Tok} {k : Nat} {er a : Int} (h : Ri w p b o cap ts k er a) {g : Nat} (hp : g ≠ p) (hb : g ≠ b) (a0 a1 a2 a3 a4 a5 a6 : Value) : Ri (Go.Proofs.Ytobiedmmjiedlaa.fill7 w g a0 a1 a2 a3 a4 a5 a6) p b o cap ts k er a :=
  ((((((h.set (q := ⟨g, 0, none⟩) hp hb _).set (q := ⟨g, 1, none⟩) hp hb _).set (q := ⟨g, 2, none⟩) hp hb _).set (q := ⟨g, 3, none⟩) hp hb _).set (q := ⟨g, 4, none⟩) hp hb _).set (q := ⟨g, 5, none⟩) hp hb _).set (q := ⟨g, 6, none⟩) hp hb _
theorem B7.kp {w w' : World} {p g : Nat} {a0 a1 a2 a3 a4 a5 a6 : Value} (h : B7 w g a0 a1 a2 a3 a4 a5 a6) (m : Kp p w w') (hp : g ≠ p) : B7 w' g a0 a1 a2 a3 a4 a5 a6 := h.kept (m.block _ h.lt hp) m.size
set_option maxRecDepth 100000 in
set_option maxHeartbeats 2000000 in
theorem rshort_print (p b o cap : Nat) (ts : List Tok) (f d k k' : Nat) (x : Sx.Ex) (he : ECr p b o cap ts f) (hd : d ≤ 61) (w : World) (h : Ri w p b o cap ts k 0 0) (t0 : TkA ts k [112, 114, 105, 110, 116]) (hx : Sx.bd ts f 1 d (k + 1) = some (.ok x k')) :
    Calls Try.prog 84 #[.pointer (some ⟨p, 0, none⟩), .int .i64 (d : Int)] w (PostS p b o cap ts w (.mk 8 [] [] 0 [x] [] []) k') := by
  have hp : Hid (p < w.heap.size) := h.lt
  have hb : Hid (b < w.heap.size) := h.ta.lt
  have H0 : Hid (Ri (w.alloc zS) p b o cap ts k 0 0) := h.later (box_below _ _)
  have R0 : Hid _ := B7.new w 33 (.int .i64 0) (.string ⟨#[]⟩) (.string ⟨#[]⟩) (.int .i64 0) (.slice none 0 0) (.slice none 0 0) (.slice none 0 0)
  have N0 : Hid (¬ (ts.getD k tok0).1.text = [118, 97, 114]) := by unfold Hid; rw [t0.tx]; decide
  have N1 : Hid (¬ (ts.getD k tok0).1.text = [114, 101, 116, 117, 114, 110]) := by unfold Hid; rw [t0.tx]; decide
  have EG : Hid (∀ W, Ri W p b o cap ts k 0 0 → _) := fun W hW => rgot_yes W p b o cap ts k 0 [112, 114, 105, 110, 116] hW t0.tx t0.kd t0.lt
  have EX : Hid (∀ W, Ri W p b o cap ts (k + 1) 0 0 → _) := fun W hW => he d (k + 1) _ W hd hW hx
  clear h t0 hx he hd
  go_enter Try.func84, Try.ntmps84
  go_wp2_with fail
  refine Calls.mono (rgot_no _ p b o cap ts k 0 0 [118, 97, 114] (H0.out.later (Below.refl _ _)) (.inr N0.out)) ?_
  rintro e u0 ⟨rfl, bb⟩
  have B0 : Hid (Below (w.alloc zS).heap.size (w.alloc zS) u0) := bb
  clear bb
  go_wp2_with fail
  refine Calls.mono (rgot_no _ p b o cap ts k 0 0 [114, 101, 116, 117, 114, 110] (H0.out.later B0.out) (.inr N1.out)) ?_
  rintro e u1 ⟨rfl, bb⟩
  have B1 : Hid (Below (w.alloc zS).heap.size (w.alloc zS) u1) := B0.out.trans (bb.mono B0.out.size)
  clear bb
  go_wp2_with fail
  refine Calls.mono (EG.out _ (H0.out.later B1.out)) ?_
  rintro e v1 ⟨rfl, r1, k1⟩
  have K1 : Hid (Kp p (w.alloc zS) v1) := (Keep.of_below B1.out (Nat.le_refl _) : Kp p (w.alloc zS) u1).trans k1
  have H1 : Hid _ := r1
  clear r1 k1
  have H2 : Hid _ := H1.out
  have K2 : Hid _ := K1.out
  go_upto_region 18 with fail
  go_cut [] from 76 (fun wc => ∃ sl, B7 wc w.heap.size (.int .i64 8) (.string ⟨#[]⟩) (.string ⟨#[]⟩) (.int .i64 0) sl (.slice none 0 0) (.slice none 0 0) ∧ PostS p b o cap ts w (.mk 8 [] [] 0 [x] [] []) k' (.returned (.agg #[.int .i64 8, .string ⟨#[]⟩, .string ⟨#[]⟩, .int .i64 0, sl, .slice none 0 0, .slice none 0 0])) wc)
  case rest =>
    obtain ⟨sl, B, T⟩ := hcut
    have TT : Hid _ := T
    obtain ⟨c0, c1, c2, c3, c4, c5, c6, -, -, -, -, -, -, -, zt⟩ := B
    clear T
    go_wp2_with fail
    refine bodyPost_ret (v := .agg #[.int .i64 8, .string ⟨#[]⟩, .string ⟨#[]⟩, .int .i64 0, sl, .slice none 0 0, .slice none 0 0]) (by simp [results, Try.results84, go_sem, c0, c1, c2, c3, c4, c5, c6]) rfl ?_
    exact TT.out
  case first =>
    go_wp2_with fail
    refine Calls.mono (EX.out _ H2.out) ?_
    rintro e v3 ⟨kk, nn, mm, sa, sn, sc, ll, rfl, rfl, hs, r3, k3⟩
    have ln := hs.len
    subst ln
    have K3 : Hid (Kp p (w.alloc zS) v3) := K2.out.trans k3
    have z3 : w.heap.size < v3.heap.size := Nat.lt_of_lt_of_le (by simp) K3.out.size
    have nz : ¬ v3.heap.size = w.heap.size := by omega
    have nz' : ¬ w.heap.size = v3.heap.size := by omega
    have Y3 := R0.out.kp K3.out (by have := hp.out; omega)
    have S3 : Hid (ExS (fun g => w.heap.size < g) v3 (.slice sa ll.length sc) ll) := hs.mono fun g _ hg => by have h1 := K2.out.size; simp at h1; omega
    have R3 : Hid _ := r3
    have PB : Hid (∀ t : TypeId, ∃ sl, B7 ((fill7 v3 w.heap.size (.int .i64 8) (.string ⟨#[]⟩) (.string ⟨#[]⟩) (.int .i64 0) (.slice (some ⟨v3.heap.size, 0, none⟩) 1 1) (.slice none 0 0) (.slice none 0 0)).alloc (.cells #[.int .i64 kk, .string ⟨nn.toArray⟩, .int .i64 mm, .slice sa ll.length sc] t)) w.heap.size (.int .i64 8) (.string ⟨#[]⟩) (.string ⟨#[]⟩) (.int .i64 0) sl (.slice none 0 0) (.slice none 0 0) ∧ PostS p b o cap ts w (.mk 8 [] [] 0 [.mk kk nn mm ll] [] []) k' (.returned (.agg #[.int .i64 8, .string ⟨#[]⟩, .string ⟨#[]⟩, .int .i64 0, sl, .slice none 0 0, .slice none 0 0])) ((fill7 v3 w.heap.size (.int .i64 8) (.string ⟨#[]⟩) (.string ⟨#[]⟩) (.int .i64 0) (.slice (some ⟨v3.heap.size, 0, none⟩) 1 1) (.slice none 0 0) (.slice none 0 0)).alloc (.cells #[.int .i64 kk, .string ⟨nn.toArray⟩, .int .i64 mm, .slice sa ll.length sc] t))) := by
      intro t
      have hp' := hp.out
      have hb' := hb.out
      refine ⟨_, (Y3.fill _ _ _ _ _ _ _).kept ((box_below _ _).block _ (by rw [fill7_size]; exact z3)) (by simp), _, _, _, _, _, _, _, _, _, _, _, _, _, rfl, rfl, ?_, .nil _ _, .nil _ _, ((R3.out.fill7 (by omega) (by omega) _ _ _ _ _ _ _).later (box_below _ _)), ?_⟩
      · have e := (S3.out.fill7 (g := w.heap.size) (Nat.lt_irrefl _) (.int .i64 8) (.string ⟨#[]⟩) (.string ⟨#[]⟩) (.int .i64 0) (.slice (some ⟨v3.heap.size, 0, none⟩) 1 1) (.slice none 0 0) (.slice none 0 0)).one (by rw [fill7_size]; exact z3) kk nn mm t
        rw [fill7_size] at e
        exact e.mono fun g _ hg => Nat.le_of_lt hg
      · exact Keep.alloc (Kp.fill7 ((Keep.of_below (box_below w zS) (Nat.le_refl _) : Kp p w (w.alloc zS)).trans K3.out) (Nat.le_refl _) _ _ _ _ _ _ _) _
    obtain ⟨c0, c1, c2, c3, c4, c5, c6, f0, f1, f2, f3, f4, f5, f6, zt⟩ := Y3
    clear hs r3 k3
    go_wp2_with fail
    go_meet
    case rel => exact PB.out _
set_option maxRecDepth 100000 in
set_option maxHeartbeats 2000000 in
theorem rshort_assert (p b o cap : Nat) (ts : List Tok) (f d k k' : Nat) (x : Sx.Ex) (he : ECr p b o cap ts f) (hd : d ≤ 61) (w : World) (h : Ri w p b o cap ts k 0 0) (t0 : TkA ts k [97, 115, 115, 101, 114, 116]) (hx : Sx.bd ts f 1 d (k + 1) = some (.ok x k')) :
    Calls Try.prog 84 #[.pointer (some ⟨p, 0, none⟩), .int .i64 (d : Int)] w (PostS p b o cap ts w (.mk 10 [] [] 0 [x] [] []) k') := by
  have hp : Hid (p < w.heap.size) := h.lt
  have hb : Hid (b < w.heap.size) := h.ta.lt
  have H0 : Hid (Ri (w.alloc zS) p b o cap ts k 0 0) := h.later (box_below _ _)
  have R0 : Hid _ := B7.new w 33 (.int .i64 0) (.string ⟨#[]⟩) (.string ⟨#[]⟩) (.int .i64 0) (.slice none 0 0) (.slice none 0 0) (.slice none 0 0)
  have N0 : Hid (¬ (ts.getD k tok0).1.text = [118, 97, 114]) := by unfold Hid; rw [t0.tx]; decide
  have N1 : Hid (¬ (ts.getD k tok0).1.text = [114, 101, 116, 117, 114, 110]) := by unfold Hid; rw [t0.tx]; decide
  have N2 : Hid (¬ (ts.getD k tok0).1.text = [112, 114, 105, 110, 116]) := by unfold Hid; rw [t0.tx]; decide
  have EG : Hid (∀ W, Ri W p b o cap ts k 0 0 → _) := fun W hW => rgot_yes W p b o cap ts k 0 [97, 115, 115, 101, 114, 116] hW t0.tx t0.kd t0.lt
  have EX : Hid (∀ W, Ri W p b o cap ts (k + 1) 0 0 → _) := fun W hW => he d (k + 1) _ W hd hW hx
  clear h t0 hx he hd
  go_enter Try.func84, Try.ntmps84
  go_wp2_with fail
  refine Calls.mono (rgot_no _ p b o cap ts k 0 0 [118, 97, 114] (H0.out.later (Below.refl _ _)) (.inr N0.out)) ?_
  rintro e u0 ⟨rfl, bb⟩
  have B0 : Hid (Below (w.alloc zS).heap.size (w.alloc zS) u0) := bb
  clear bb
  go_wp2_with fail
  refine Calls.mono (rgot_no _ p b o cap ts k 0 0 [114, 101, 116, 117, 114, 110] (H0.out.later B0.out) (.inr N1.out)) ?_
  rintro e u1 ⟨rfl, bb⟩
  have B1 : Hid (Below (w.alloc zS).heap.size (w.alloc zS) u1) := B0.out.trans (bb.mono B0.out.size)
  clear bb
  go_wp2_with fail
  refine Calls.mono (rgot_no _ p b o cap ts k 0 0 [112, 114, 105, 110, 116] (H0.out.later B1.out) (.inr N2.out)) ?_
  rintro e u2 ⟨rfl, bb⟩
  have B2 : Hid (Below (w.alloc zS).heap.size (w.alloc zS) u2) := B1.out.trans (bb.mono B1.out.size)
  clear bb
  go_wp2_with fail
  refine Calls.mono (EG.out _ (H0.out.later B2.out)) ?_
  rintro e v1 ⟨rfl, r1, k1⟩
  have K1 : Hid (Kp p (w.alloc zS) v1) := (Keep.of_below B2.out (Nat.le_refl _) : Kp p (w.alloc zS) u2).trans k1
  have H1 : Hid _ := r1
  clear r1 k1
  have H2 : Hid _ := H1.out
  have K2 : Hid _ := K1.out
  go_upto_region 20 with fail
  go_cut [] from 83 (fun wc => ∃ sl, B7 wc w.heap.size (.int .i64 10) (.string ⟨#[]⟩) (.string ⟨#[]⟩) (.int .i64 0) sl (.slice none 0 0) (.slice none 0 0) ∧ PostS p b o cap ts w (.mk 10 [] [] 0 [x] [] []) k' (.returned (.agg #[.int .i64 10, .string ⟨#[]⟩, .string ⟨#[]⟩, .int .i64 0, sl, .slice none 0 0, .slice none 0 0])) wc)
  case rest =>
    obtain ⟨sl, B, T⟩ := hcut
    have TT : Hid _ := T
    obtain ⟨c0, c1, c2, c3, c4, c5, c6, -, -, -, -, -, -, -, zt⟩ := B
    clear T
    go_wp2_with fail
    refine bodyPost_ret (v := .agg #[.int .i64 10, .string ⟨#[]⟩, .string ⟨#[]⟩, .int .i64 0, sl, .slice none 0 0, .slice none 0 0]) (by simp [results, Try.results84, go_sem, c0, c1, c2, c3, c4, c5, c6]) rfl ?_
    exact TT.out
  case first =>
    go_wp2_with fail
    refine Calls.mono (EX.out _ H2.out) ?_
    rintro e v3 ⟨kk, nn, mm, sa, sn, sc, ll, rfl, rfl, hs, r3, k3⟩
    have ln := hs.len
    subst ln
    have K3 : Hid (Kp p (w.alloc zS) v3) := K2.out.trans k3
    have z3 : w.heap.size < v3.heap.size := Nat.lt_of_lt_of_le (by simp) K3.out.size
    have nz : ¬ v3.heap.size = w.heap.size := by omega
    have nz' : ¬ w.heap.size = v3.heap.size := by omega
    have Y3 := R0.out.kp K3.out (by have := hp.out; omega)
    have S3 : Hid (ExS (fun g => w.heap.size < g) v3 (.slice sa ll.length sc) ll) := hs.mono fun g _ hg => by have h1 := K2.out.size; simp at h1; omega
    have R3 : Hid _ := r3
    have PB : Hid (∀ t : TypeId, ∃ sl, B7 ((fill7 v3 w.heap.size (.int .i64 10) (.string ⟨#[]⟩) (.string ⟨#[]⟩) (.int .i64 0) (.slice (some ⟨v3.heap.size, 0, none⟩) 1 1) (.slice none 0 0) (.slice none 0 0)).alloc (.cells #[.int .i64 kk, .string ⟨nn.toArray⟩, .int .i64 mm, .slice sa ll.length sc] t)) w.heap.size (.int .i64 10) (.string ⟨#[]⟩) (.string ⟨#[]⟩) (.int .i64 0) sl (.slice none 0 0) (.slice none 0 0) ∧ PostS p b o cap ts w (.mk 10 [] [] 0 [.mk kk nn mm ll] [] []) k' (.returned (.agg #[.int .i64 10, .string ⟨#[]⟩, .string ⟨#[]⟩, .int .i64 0, sl, .slice none 0 0, .slice none 0 0])) ((fill7 v3 w.heap.size (.int .i64 10) (.string ⟨#[]⟩) (.string ⟨#[]⟩) (.int .i64 0) (.slice (some ⟨v3.heap.size, 0, none⟩) 1 1) (.slice none 0 0) (.slice none 0 0)).alloc (.cells #[.int .i64 kk, .string ⟨nn.toArray⟩, .int .i64 mm, .slice sa ll.length sc] t))) := by
      intro t
      have hp' := hp.out
      have hb' := hb.out
      refine ⟨_, (Y3.fill _ _ _ _ _ _ _).kept ((box_below _ _).block _ (by rw [fill7_size]; exact z3)) (by simp), _, _, _, _, _, _, _, _, _, _, _, _, _, rfl, rfl, ?_, .nil _ _, .nil _ _, ((R3.out.fill7 (by omega) (by omega) _ _ _ _ _ _ _).later (box_below _ _)), ?_⟩
      · have e := (S3.out.fill7 (g := w.heap.size) (Nat.lt_irrefl _) (.int .i64 10) (.string ⟨#[]⟩) (.string ⟨#[]⟩) (.int .i64 0) (.slice (some ⟨v3.heap.size, 0, none⟩) 1 1) (.slice none 0 0) (.slice none 0 0)).one (by rw [fill7_size]; exact z3) kk nn mm t
        rw [fill7_size] at e
        exact e.mono fun g _ hg => Nat.le_of_lt hg
      · exact Keep.alloc (Kp.fill7 ((Keep.of_below (box_below w zS) (Nat.le_refl _) : Kp p w (w.alloc zS)).trans K3.out) (Nat.le_refl _) _ _ _ _ _ _ _) _
    obtain ⟨c0, c1, c2, c3, c4, c5, c6, f0, f1, f2, f3, f4, f5, f6, zt⟩ := Y3
    clear hs r3 k3
    go_wp2_with fail
    go_meet
    case rel => exact PB.out _
set_option maxRecDepth 100000 in
set_option maxHeartbeats 2000000 in
theorem rshort_return (p b o cap : Nat) (ts : List Tok) (f d k k' : Nat) (x : Sx.Ex) (he : ECr p b o cap ts f) (hd : d ≤ 61) (w : World) (h : Ri w p b o cap ts k 0 0) (t0 : TkA ts k [114, 101, 116, 117, 114, 110]) (hx : Sx.bd ts f 1 d (k + 1) = some (.ok x k')) (t1 : ¬ (ts.getD (k + 1) tok0).1.text = [59]) :
    Calls Try.prog 84 #[.pointer (some ⟨p, 0, none⟩), .int .i64 (d : Int)] w (PostS p b o cap ts w (.mk 7 [] [] 0 [x] [] []) k') := by
  have hp : Hid (p < w.heap.size) := h.lt
  have hb : Hid (b < w.heap.size) := h.ta.lt
  have H0 : Hid (Ri (w.alloc zS) p b o cap ts k 0 0) := h.later (box_below _ _)
  have R0 : Hid _ := B7.new w 33 (.int .i64 0) (.string ⟨#[]⟩) (.string ⟨#[]⟩) (.int .i64 0) (.slice none 0 0) (.slice none 0 0) (.slice none 0 0)
  have N0 : Hid (¬ (ts.getD k tok0).1.text = [118, 97, 114]) := by unfold Hid; rw [t0.tx]; decide
  have EG : Hid (∀ W, Ri W p b o cap ts k 0 0 → _) := fun W hW => rgot_yes W p b o cap ts k 0 [114, 101, 116, 117, 114, 110] hW t0.tx t0.kd t0.lt
  have EX : Hid (∀ W, Ri W p b o cap ts (k + 1) 0 0 → _) := fun W hW => he d (k + 1) _ W hd hW hx
  have ES : Hid (∀ W, Ri W p b o cap ts (k + 1) 0 0 → _) := fun W hW => ris_no W p b o cap ts (k + 1) 0 0 [59] hW (.inr t1)
  clear h t0 hx he hd t1
  go_enter Try.func84, Try.ntmps84
  go_wp2_with fail
  refine Calls.mono (rgot_no _ p b o cap ts k 0 0 [118, 97, 114] (H0.out.later (Below.refl _ _)) (.inr N0.out)) ?_
  rintro e u0 ⟨rfl, bb⟩
  have B0 : Hid (Below (w.alloc zS).heap.size (w.alloc zS) u0) := bb
  clear bb
  go_wp2_with fail
  refine Calls.mono (EG.out _ (H0.out.later B0.out)) ?_
  rintro e v1 ⟨rfl, r1, k1⟩
  have K1 : Hid (Kp p (w.alloc zS) v1) := (Keep.of_below B0.out (Nat.le_refl _) : Kp p (w.alloc zS) u0).trans k1
  have H1 : Hid _ := r1
  clear r1 k1
  go_wp2_with fail
  refine Calls.mono (ES.out _ H1.out) ?_
  rintro e v2 ⟨rfl, b2⟩
  have H2 : Hid _ := H1.out.later b2
  have K2 : Hid (Kp p (w.alloc zS) v2) := K1.out.trans (Keep.of_below b2 (Nat.le_refl _))
  clear b2
  go_upto_region 16 with fail
  go_cut [] from 69 (fun wc => ∃ sl, B7 wc w.heap.size (.int .i64 7) (.string ⟨#[]⟩) (.string ⟨#[]⟩) (.int .i64 0) sl (.slice none 0 0) (.slice none 0 0) ∧ PostS p b o cap ts w (.mk 7 [] [] 0 [x] [] []) k' (.returned (.agg #[.int .i64 7, .string ⟨#[]⟩, .string ⟨#[]⟩, .int .i64 0, sl, .slice none 0 0, .slice none 0 0])) wc)
  case rest =>
    obtain ⟨sl, B, T⟩ := hcut
    have TT : Hid _ := T
    obtain ⟨c0, c1, c2, c3, c4, c5, c6, -, -, -, -, -, -, -, zt⟩ := B
    clear T
    go_wp2_with fail
    refine bodyPost_ret (v := .agg #[.int .i64 7, .string ⟨#[]⟩, .string ⟨#[]⟩, .int .i64 0, sl, .slice none 0 0, .slice none 0 0]) (by simp [results, Try.results84, go_sem, c0, c1, c2, c3, c4, c5, c6]) rfl ?_
    exact TT.out
  case first =>
    go_wp2_with fail
    refine Calls.mono (EX.out _ H2.out) ?_
    rintro e v3 ⟨kk, nn, mm, sa, sn, sc, ll, rfl, rfl, hs, r3, k3⟩
    have ln := hs.len
    subst ln
    have K3 : Hid (Kp p (w.alloc zS) v3) := K2.out.trans k3
    have z3 : w.heap.size < v3.heap.size := Nat.lt_of_lt_of_le (by simp) K3.out.size
    have nz : ¬ v3.heap.size = w.heap.size := by omega
    have nz' : ¬ w.heap.size = v3.heap.size := by omega
    have Y3 := R0.out.kp K3.out (by have := hp.out; omega)
    have S3 : Hid (ExS (fun g => w.heap.size < g) v3 (.slice sa ll.length sc) ll) := hs.mono fun g _ hg => by have h1 := K2.out.size; simp at h1; omega
    have R3 : Hid _ := r3
    have PB : Hid (∀ t : TypeId, ∃ sl, B7 ((fill7 v3 w.heap.size (.int .i64 7) (.string ⟨#[]⟩) (.string ⟨#[]⟩) (.int .i64 0) (.slice (some ⟨v3.heap.size, 0, none⟩) 1 1) (.slice none 0 0) (.slice none 0 0)).alloc (.cells #[.int .i64 kk, .string ⟨nn.toArray⟩, .int .i64 mm, .slice sa ll.length sc] t)) w.heap.size (.int .i64 7) (.string ⟨#[]⟩) (.string ⟨#[]⟩) (.int .i64 0) sl (.slice none 0 0) (.slice none 0 0) ∧ PostS p b o cap ts w (.mk 7 [] [] 0 [.mk kk nn mm ll] [] []) k' (.returned (.agg #[.int .i64 7, .string ⟨#[]⟩, .string ⟨#[]⟩, .int .i64 0, sl, .slice none 0 0, .slice none 0 0])) ((fill7 v3 w.heap.size (.int .i64 7) (.string ⟨#[]⟩) (.string ⟨#[]⟩) (.int .i64 0) (.slice (some ⟨v3.heap.size, 0, none⟩) 1 1) (.slice none 0 0) (.slice none 0 0)).alloc (.cells #[.int .i64 kk, .string ⟨nn.toArray⟩, .int .i64 mm, .slice sa ll.length sc] t))) := by
      intro t
      have hp' := hp.out
      have hb' := hb.out
      refine ⟨_, (Y3.fill _ _ _ _ _ _ _).kept ((box_below _ _).block _ (by rw [fill7_size]; exact z3)) (by simp), _, _, _, _, _, _, _, _, _, _, _, _, _, rfl, rfl, ?_, .nil _ _, .nil _ _, ((R3.out.fill7 (by omega) (by omega) _ _ _ _ _ _ _).later (box_below _ _)), ?_⟩
      · have e := (S3.out.fill7 (g := w.heap.size) (Nat.lt_irrefl _) (.int .i64 7) (.string ⟨#[]⟩) (.string ⟨#[]⟩) (.int .i64 0) (.slice (some ⟨v3.heap.size, 0, none⟩) 1 1) (.slice none 0 0) (.slice none 0 0)).one (by rw [fill7_size]; exact z3) kk nn mm t
        rw [fill7_size] at e
        exact e.mono fun g _ hg => Nat.le_of_lt hg
      · exact Keep.alloc (Kp.fill7 ((Keep.of_below (box_below w zS) (Nat.le_refl _) : Kp p w (w.alloc zS)).trans K3.out) (Nat.le_refl _) _ _ _ _ _ _ _) _
    obtain ⟨c0, c1, c2, c3, c4, c5, c6, f0, f1, f2, f3, f4, f5, f6, zt⟩ := Y3
    clear hs r3 k3
    go_wp2_with fail
    go_meet
    case rel => exact PB.out _
end Go.Proofs.Ytobiedmmjiedlaa
