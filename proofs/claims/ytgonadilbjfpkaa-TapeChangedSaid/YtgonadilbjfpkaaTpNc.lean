/- Layer 13: the end of a tape: it is followed by something, or by nothing. -/
import Derived.Test.YtgonadilbjfpkaaTpN
namespace Go.Proofs.Ytgonadilbjfpkaa
open Go.RowKit
set_option linter.unusedVariables false
set_option maxRecDepth 100000 in
set_option maxHeartbeats 4000000 in
theorem end_more (w : World) (g : Nat) (T : TypeId) (a : Option Addr) (c : Nat) (b : List Int) (k : Nat) (r : List Value) (h : PlB w g T a c b k r) (hs : k + 4 ≤ b.length) (x0 x1 x2 x3 : Int) (hx : (b.drop k).take 4 = [x0, x1, x2, x3]) (hsum : [x0, x1, x2, x3] = Tp.sl4 (Tp.sum (b.take k))) (hmo : k + 4 < b.length) :
    Calls Try.prog 61 #[.pointer (some ⟨g, 0, none⟩)] w fun e w' => e = tpPan 110 ∧ PlQ g T a c b r w (k + 4) w' := by
  have hkl := h.le
  have hln := h.ln
  have hcap := h.cap
  obtain ⟨ga, o, rfl, hga, hce⟩ := h.bs (by omega)
  obtain ⟨n, hn⟩ : ∃ n, n = b.length := ⟨_, rfl⟩
  obtain ⟨W0, hW0⟩ : ∃ W, W = w.alloc (.cells #[.int .u8 0, .int .u8 0, .int .u8 0, .int .u8 0] 86) := ⟨_, rfl⟩
  have B0 : Below w.heap.size w W0 := by rw [hW0]; exact (Below.refl _ _).alloc (Nat.le_refl _) _
  have H0 := hidT (h.later (B0.mono h.lt))
  have a0 := H0.out.c0
  have a1 := H0.out.c1
  have hm0 : W0.heap[w.heap.size]? = some (.cells [.int .u8 0, .int .u8 0, .int .u8 0, .int .u8 0].toArray 86 (0, 0)) := by rw [hW0]; exact heap_alloc_new w _
  obtain ⟨W1, hcp, hm1, g1⟩ := cp_some W0.drew w.heap.size 86 _ 4 hm0 rfl (b.drop k) ga (o + k) (c - k) (fun j x hj => by
    rw [List.getElem?_drop] at hj
    rw [Nat.add_assoc]
    exact (B0.cell (p := ⟨ga, _, none⟩) (Nat.lt_trans hga h.lt)).trans (hce _ x hj))
  have B1 : Below w.heap.size w W1 := B0.trans ⟨g1.os, g1.tape, g1.output, g1.size, fun i hi => g1.block i (by have := B0.size; simp; omega) (by simp; omega)⟩
  have H1 := hidT (h.later (B1.mono h.lt))
  rw [List.length_drop, ← hn] at hcp
  have hmin : Nat.min (n - k) 4 = 4 := Nat.min_eq_right (by omega)
  rw [hmin] at hcp
  rw [List.length_drop, ← hn, hmin, hx] at hm1
  have hm1' : W1.heap[w.heap.size]? = some (.cells #[.int .u8 x0, .int .u8 x1, .int .u8 x2, .int .u8 x3] 86 (0, 0)) := hm1
  have ES := hidT (fun (W : World) (q : Below w.heap.size W1 W) => sumOf_any (b.take k) (some ⟨ga, o, none⟩) c W (h.yt.take k) (B := g) (fun h0 => ⟨ga, o, rfl, hga, fun j x hj => by
    rw [List.getElem?_take] at hj
    split at hj
    · exact ((B1.trans q).cell (p := ⟨ga, _, none⟩) (Nat.lt_trans hga h.lt)).trans (hce _ x hj)
    · cases hj⟩) (by rw [List.length_take]; omega) (by have := (B1.trans q).size; have := h.lt; omega))
  rw [List.length_take, Nat.min_eq_left hkl] at ES
  have b0 := H1.out.c0
  have b1 := H1.out.c1
  have m0 : W1.cell? ⟨w.heap.size, 0, none⟩ = some (.int .u8 x0) := by simp [World.cell?, hm1']
  have m1 : W1.cell? ⟨w.heap.size, 1, none⟩ = some (.int .u8 x1) := by simp [World.cell?, hm1']
  have m2 : W1.cell? ⟨w.heap.size, 2, none⟩ = some (.int .u8 x2) := by simp [World.cell?, hm1']
  have m3 : W1.cell? ⟨w.heap.size, 3, none⟩ = some (.int .u8 x3) := by simp [World.cell?, hm1']
  obtain ⟨S, hS⟩ : ∃ S, S = Tp.sum (b.take k) := ⟨_, rfl⟩
  have hEq : ∀ W : World, (Op.equalIn 10000 86 (.agg #[.int .u8 x0, .int .u8 x1, .int .u8 x2, .int .u8 x3]) (.agg #[.int .u8 (S / 16777216), .int .u8 (S / 65536 % 256), .int .u8 (S / 256 % 256), .int .u8 (S % 256)])).run Try.prog W = .ok (decide ([x0, x1, x2, x3] = Tp.sl4 S)) W := fun W => eqAr W [x0, x1, x2, x3] (Tp.sl4 S) 86 4 Try.underlying86 rfl rfl
  rw [← hS] at ES hsum
  simp only [decide_eq_true hsum] at hEq
  have HN := hidT hn
  rw [← hn] at hkl hln hcap a0 hs b0 hmo
  obtain ⟨L, hL⟩ : ∃ L, n - k = L := ⟨_, rfl⟩
  have hz1 : ¬ c = k := by omega
  have hz2 : (c - k == 0) = false := by simp; omega
  rw [hL] at hcp
  obtain ⟨M, hM⟩ : ∃ M, M = w.heap.size := ⟨_, rfl⟩
  have HM := hidT hM
  rw [← hM] at m0 m1 m2 m3 hcp
  have hMlt : M < W1.heap.size := by rw [hM]; exact (Array.getElem?_eq_some_iff.1 hm1').1
  have hkc : k ≤ c := by omega
  have K1 := hidT B1
  clear B1
  clear hsum
  clear h B0 H0 hce hn hm1 g1 hm0 hmin hm1' hS
  go_enter Try.func61, Try.ntmps61
  go_upto_region 1 with fail
  rw [← hW0, ← hM]
  clear hW0 hM
  go_region
  go_wp2_with fail
  refine (must_yes 112 _).mono ?_
  rintro e w' ⟨rfl, rfl⟩
  clear hcp a0 a1
  have hgW : g + 1 ≤ w'.heap.size := H1.out.lt
  go_upto_region 3 with fail
  have KS : Hid (∀ w3 : World, Below w'.heap.size w' w3 → w3.cell? ⟨g, 0, none⟩ = some (.slice (some ⟨ga, o, none⟩) n c) ∧ w3.cell? ⟨g, 1, none⟩ = some (.int .i64 k) ∧ w3.cell? ⟨M, 0, none⟩ = some (.int .u8 x0) ∧ w3.cell? ⟨M, 1, none⟩ = some (.int .u8 x1) ∧ w3.cell? ⟨M, 2, none⟩ = some (.int .u8 x2) ∧ w3.cell? ⟨M, 3, none⟩ = some (.int .u8 x3)) := fun w3 q => ⟨(q.cell (p := ⟨g, 0, none⟩) hgW).trans b0, (q.cell (p := ⟨g, 1, none⟩) hgW).trans b1, (q.cell (p := ⟨M, 0, none⟩) hMlt).trans m0, (q.cell (p := ⟨M, 1, none⟩) hMlt).trans m1, (q.cell (p := ⟨M, 2, none⟩) hMlt).trans m2, (q.cell (p := ⟨M, 3, none⟩) hMlt).trans m3⟩
  go_region_held3 (fun w3 => w3.cell? ⟨g, 0, none⟩ = some (.slice (some ⟨ga, o, none⟩) n c) ∧ w3.cell? ⟨g, 1, none⟩ = some (.int .i64 k) ∧ w3.cell? ⟨M, 0, none⟩ = some (.int .u8 x0) ∧ w3.cell? ⟨M, 1, none⟩ = some (.int .u8 x1) ∧ w3.cell? ⟨M, 2, none⟩ = some (.int .u8 x2) ∧ w3.cell? ⟨M, 3, none⟩ = some (.int .u8 x3)) (first | (exact s9) | go_keep) (first
    | (go_at_call 56; refine Calls.mono (ES.out _ (by go_grown)) ?_; rintro e w3 ⟨rfl, k3⟩; have KX : Hid (Below w'.heap.size w' w3) := Below.trans (by go_grown) (k3.out.mono (by go_size)); have s9 := KS.out _ KX.out; have HFx := hidT (H1.out.later (Below.mono KX.out hgW)); have GFx : Hid (w.grownBy w3 (some g)) := gbOf (Below.trans K1.out (Below.mono KX.out K1.out.size)); clear k3 KX)
    | (go_at_call 73; refine Calls.mono (must_yes 111 _) ?_; rintro e w4 ⟨rfl, rfl⟩))
  have d0 := HFx.out.c0
  have d1 := HFx.out.c1
  have df := HFx.out.fz 1
  rw [← HN.out] at d0
  have SET := hidT (HFx.out.set (k' := k + 4) (by rw [← HN.out]; exact hs))
  clear m0 m1 m2 m3 b0 b1 s9 KS
  have ek : ((k + 4 : Nat) : Int) = (k : Int) + 4 := by omega
  rw [ek] at SET
  obtain ⟨W5, hW5⟩ : ∃ W, W = w4.setCell ⟨g, 1, none⟩ (.int .i64 ((k : Int) + 4)) := ⟨_, rfl⟩
  rw [← hW5] at SET
  have e0 := SET.out.1.c0
  have e1 := SET.out.1.c1
  rw [← HN.out] at e0
  rw [ek] at e1
  have FIN : Hid (PlQ g T (some ⟨ga, o, none⟩) c b r w (k + 4) W5) := ⟨SET.out.1, gbT GFx.out SET.out.2⟩
  clear SET
  go_upto_region 5 with fail
  rw [← hW5]
  clear hW5 d0 d1 df
  have q5 : ((k : Int) + 4 == (n : Int)) = false := by simp; omega
  go_region_with (first
    | (go_at_call 73; refine shutT (must_no 110 _) ?_ (.tuple #[]) ?_; (unfold tpPan; rintro e w9 ⟨rfl, rfl⟩; exact ⟨rfl, rfl, FIN.out.1.later (Below.mono (by go_grown) FIN.out.1.lt), gbT FIN.out.2 (gbOf (by go_grown))⟩); intro hF; have hz1 : ∀ (W : World) (q : Addr), W.frozen? q = false := fun _ _ => hF.out _; have hz2 : ∀ (W : World) (q : Addr), W.cell? q = some (.int .i64 0) := fun _ _ => hF.out _))
  all_goals exact hF.out _
set_option maxRecDepth 100000 in
set_option maxHeartbeats 4000000 in
theorem end_good (w : World) (g : Nat) (T : TypeId) (a : Option Addr) (c : Nat) (b : List Int) (k : Nat) (r : List Value) (h : PlB w g T a c b k r) (hs : k + 4 ≤ b.length) (x0 x1 x2 x3 : Int) (hx : (b.drop k).take 4 = [x0, x1, x2, x3]) (hsum : [x0, x1, x2, x3] = Tp.sl4 (Tp.sum (b.take k))) (hmo : k + 4 = b.length) :
    Calls Try.prog 61 #[.pointer (some ⟨g, 0, none⟩)] w fun e w' => e = .returned (.tuple #[]) ∧ PlQ g T a c b r w (k + 4) w' := by
  have hkl := h.le
  have hln := h.ln
  have hcap := h.cap
  obtain ⟨ga, o, rfl, hga, hce⟩ := h.bs (by omega)
  obtain ⟨n, hn⟩ : ∃ n, n = b.length := ⟨_, rfl⟩
  obtain ⟨W0, hW0⟩ : ∃ W, W = w.alloc (.cells #[.int .u8 0, .int .u8 0, .int .u8 0, .int .u8 0] 86) := ⟨_, rfl⟩
  have B0 : Below w.heap.size w W0 := by rw [hW0]; exact (Below.refl _ _).alloc (Nat.le_refl _) _
  have H0 := hidT (h.later (B0.mono h.lt))
  have a0 := H0.out.c0
  have a1 := H0.out.c1
  have hm0 : W0.heap[w.heap.size]? = some (.cells [.int .u8 0, .int .u8 0, .int .u8 0, .int .u8 0].toArray 86 (0, 0)) := by rw [hW0]; exact heap_alloc_new w _
  obtain ⟨W1, hcp, hm1, g1⟩ := cp_some W0.drew w.heap.size 86 _ 4 hm0 rfl (b.drop k) ga (o + k) (c - k) (fun j x hj => by
    rw [List.getElem?_drop] at hj
    rw [Nat.add_assoc]
    exact (B0.cell (p := ⟨ga, _, none⟩) (Nat.lt_trans hga h.lt)).trans (hce _ x hj))
  have B1 : Below w.heap.size w W1 := B0.trans ⟨g1.os, g1.tape, g1.output, g1.size, fun i hi => g1.block i (by have := B0.size; simp; omega) (by simp; omega)⟩
  have H1 := hidT (h.later (B1.mono h.lt))
  rw [List.length_drop, ← hn] at hcp
  have hmin : Nat.min (n - k) 4 = 4 := Nat.min_eq_right (by omega)
  rw [hmin] at hcp
  rw [List.length_drop, ← hn, hmin, hx] at hm1
  have hm1' : W1.heap[w.heap.size]? = some (.cells #[.int .u8 x0, .int .u8 x1, .int .u8 x2, .int .u8 x3] 86 (0, 0)) := hm1
  have ES := hidT (fun (W : World) (q : Below w.heap.size W1 W) => sumOf_any (b.take k) (some ⟨ga, o, none⟩) c W (h.yt.take k) (B := g) (fun h0 => ⟨ga, o, rfl, hga, fun j x hj => by
    rw [List.getElem?_take] at hj
    split at hj
    · exact ((B1.trans q).cell (p := ⟨ga, _, none⟩) (Nat.lt_trans hga h.lt)).trans (hce _ x hj)
    · cases hj⟩) (by rw [List.length_take]; omega) (by have := (B1.trans q).size; have := h.lt; omega))
  rw [List.length_take, Nat.min_eq_left hkl] at ES
  have b0 := H1.out.c0
  have b1 := H1.out.c1
  have m0 : W1.cell? ⟨w.heap.size, 0, none⟩ = some (.int .u8 x0) := by simp [World.cell?, hm1']
  have m1 : W1.cell? ⟨w.heap.size, 1, none⟩ = some (.int .u8 x1) := by simp [World.cell?, hm1']
  have m2 : W1.cell? ⟨w.heap.size, 2, none⟩ = some (.int .u8 x2) := by simp [World.cell?, hm1']
  have m3 : W1.cell? ⟨w.heap.size, 3, none⟩ = some (.int .u8 x3) := by simp [World.cell?, hm1']
  obtain ⟨S, hS⟩ : ∃ S, S = Tp.sum (b.take k) := ⟨_, rfl⟩
  have hEq : ∀ W : World, (Op.equalIn 10000 86 (.agg #[.int .u8 x0, .int .u8 x1, .int .u8 x2, .int .u8 x3]) (.agg #[.int .u8 (S / 16777216), .int .u8 (S / 65536 % 256), .int .u8 (S / 256 % 256), .int .u8 (S % 256)])).run Try.prog W = .ok (decide ([x0, x1, x2, x3] = Tp.sl4 S)) W := fun W => eqAr W [x0, x1, x2, x3] (Tp.sl4 S) 86 4 Try.underlying86 rfl rfl
  rw [← hS] at ES hsum
  simp only [decide_eq_true hsum] at hEq
  have HN := hidT hn
  have HMO := hidT hmo
  clear hmo
  rw [← hn] at hkl hln hcap a0 hs b0
  obtain ⟨L, hL⟩ : ∃ L, n - k = L := ⟨_, rfl⟩
  have hz1 : ¬ c = k := by omega
  have hz2 : (c - k == 0) = false := by simp; omega
  rw [hL] at hcp
  obtain ⟨M, hM⟩ : ∃ M, M = w.heap.size := ⟨_, rfl⟩
  have HM := hidT hM
  rw [← hM] at m0 m1 m2 m3 hcp
  have hMlt : M < W1.heap.size := by rw [hM]; exact (Array.getElem?_eq_some_iff.1 hm1').1
  have hkc : k ≤ c := by omega
  have K1 := hidT B1
  clear B1
  clear hsum
  clear h B0 H0 hce hn hm1 g1 hm0 hmin hm1' hS
  go_enter Try.func61, Try.ntmps61
  go_upto_region 1 with fail
  rw [← hW0, ← hM]
  clear hW0 hM
  go_region
  go_wp2_with fail
  refine (must_yes 112 _).mono ?_
  rintro e w' ⟨rfl, rfl⟩
  clear hcp a0 a1
  have hgW : g + 1 ≤ w'.heap.size := H1.out.lt
  go_upto_region 3 with fail
  have KS : Hid (∀ w3 : World, Below w'.heap.size w' w3 → w3.cell? ⟨g, 0, none⟩ = some (.slice (some ⟨ga, o, none⟩) n c) ∧ w3.cell? ⟨g, 1, none⟩ = some (.int .i64 k) ∧ w3.cell? ⟨M, 0, none⟩ = some (.int .u8 x0) ∧ w3.cell? ⟨M, 1, none⟩ = some (.int .u8 x1) ∧ w3.cell? ⟨M, 2, none⟩ = some (.int .u8 x2) ∧ w3.cell? ⟨M, 3, none⟩ = some (.int .u8 x3)) := fun w3 q => ⟨(q.cell (p := ⟨g, 0, none⟩) hgW).trans b0, (q.cell (p := ⟨g, 1, none⟩) hgW).trans b1, (q.cell (p := ⟨M, 0, none⟩) hMlt).trans m0, (q.cell (p := ⟨M, 1, none⟩) hMlt).trans m1, (q.cell (p := ⟨M, 2, none⟩) hMlt).trans m2, (q.cell (p := ⟨M, 3, none⟩) hMlt).trans m3⟩
  go_region_held3 (fun w3 => w3.cell? ⟨g, 0, none⟩ = some (.slice (some ⟨ga, o, none⟩) n c) ∧ w3.cell? ⟨g, 1, none⟩ = some (.int .i64 k) ∧ w3.cell? ⟨M, 0, none⟩ = some (.int .u8 x0) ∧ w3.cell? ⟨M, 1, none⟩ = some (.int .u8 x1) ∧ w3.cell? ⟨M, 2, none⟩ = some (.int .u8 x2) ∧ w3.cell? ⟨M, 3, none⟩ = some (.int .u8 x3)) (first | (exact s9) | go_keep) (first
    | (go_at_call 56; refine Calls.mono (ES.out _ (by go_grown)) ?_; rintro e w3 ⟨rfl, k3⟩; have KX : Hid (Below w'.heap.size w' w3) := Below.trans (by go_grown) (k3.out.mono (by go_size)); have s9 := KS.out _ KX.out; have HFx := hidT (H1.out.later (Below.mono KX.out hgW)); have GFx : Hid (w.grownBy w3 (some g)) := gbOf (Below.trans K1.out (Below.mono KX.out K1.out.size)); clear k3 KX)
    | (go_at_call 73; refine Calls.mono (must_yes 111 _) ?_; rintro e w4 ⟨rfl, rfl⟩))
  have d0 := HFx.out.c0
  have d1 := HFx.out.c1
  have df := HFx.out.fz 1
  rw [← HN.out] at d0
  have SET := hidT (HFx.out.set (k' := k + 4) (by rw [← HN.out]; exact hs))
  clear m0 m1 m2 m3 b0 b1 s9 KS
  have ek : ((k + 4 : Nat) : Int) = (k : Int) + 4 := by omega
  rw [ek] at SET
  obtain ⟨W5, hW5⟩ : ∃ W, W = w4.setCell ⟨g, 1, none⟩ (.int .i64 ((k : Int) + 4)) := ⟨_, rfl⟩
  rw [← hW5] at SET
  have e0 := SET.out.1.c0
  have e1 := SET.out.1.c1
  rw [← HN.out] at e0
  rw [ek] at e1
  have FIN : Hid (PlQ g T (some ⟨ga, o, none⟩) c b r w (k + 4) W5) := ⟨SET.out.1, gbT GFx.out SET.out.2⟩
  clear SET
  go_upto_region 5 with fail
  rw [← hW5]
  clear hW5 d0 d1 df
  have q5 : ((k : Int) + 4 == (n : Int)) = true := by have := HMO.out; have := HN.out; simp; omega
  go_quiet (first | (go_at_call 73; exact Calls.quiet_of_same (must_yes 110 _)))
  have FI2 : Hid (PlQ g T (some ⟨ga, o, none⟩) c b r w (k + 4) (W5.drewN nq)) := ⟨FIN.out.1.later (drN (Below.refl _ _) _), drG FIN.out.2 nq⟩
  generalize W5.drewN nq = W6 at FI2 ⊢
  go_wp2_with fail
  exact ⟨rfl, .tuple #[], by simp [results, Try.results61, go_sem], rfl, FI2.out⟩
end Go.Proofs.Ytgonadilbjfpkaa
