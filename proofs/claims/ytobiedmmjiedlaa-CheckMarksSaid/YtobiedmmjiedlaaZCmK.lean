/- Layer 4: CheckMarks. -/
import Derived.Test.YtobiedmmjiedlaaZCkMw
namespace Go.Proofs.Ytobiedmmjiedlaa
open Go.RowKit
set_option linter.unusedVariables false
set_option linter.unusedSimpArgs false
theorem smOne {W : World} {a : Nat} {k : Int} {n p : List UInt8} {m : Int} {e : List Sx.Ex} {b l : List Sy.St} {sa ba la : Option Addr} {sc bc lc : Nat} (h : Bs W a (.int .i64 k) (.string ⟨n.toArray⟩) (.string ⟨p.toArray⟩) (.int .i64 m) (.slice sa e.length sc) (.slice ba b.length bc) (.slice la l.length lc))
    (he : ExS (fun _ => True) W (.slice sa e.length sc) e) (hb : SmS (fun _ => True) W (.slice ba b.length bc) b) (hl : SmS (fun _ => True) W (.slice la l.length lc) l) : SmS (fun _ => True) W (.slice (some ⟨a, 0, none⟩) 1 1) [.mk k n p m e b l] := by
  obtain ⟨c0, c1, c2, c3, c4, c5, c6⟩ := h.cells
  exact .some a 0 1 1 _ rfl (by simp) (by simp) trivial h.lt1 (.cons a 0 k n p m _ _ _ e b l [] (by simpa using c0) (by simpa using c1) (by simpa using c2) (by simpa using c3) (by simpa using c4) (by simpa using c5) (by simpa using c6) he hb hl (.nil _ _))
theorem drewB (w : World) : Below w.heap.size w w.drew := ⟨rfl, rfl, rfl, Nat.le_refl _, fun _ _ => rfl⟩
structure Cs (w : World) (M P4 P6 : Nat) (x0 x1 x2 x3 s0 s1 s2 s3 s4 s5 s6 t0 t1 t2 t3 t4 t5 t6 : Value) : Prop where
  m : w.cell? ⟨M, 0, none⟩ = some x0 ∧ w.cell? ⟨M, 1, none⟩ = some x1 ∧ w.cell? ⟨M, 2, none⟩ = some x2 ∧ w.cell? ⟨M, 3, none⟩ = some x3
  s : w.cell? ⟨P4, 0, none⟩ = some s0 ∧ w.cell? ⟨P4, 1, none⟩ = some s1 ∧ w.cell? ⟨P4, 2, none⟩ = some s2 ∧ w.cell? ⟨P4, 3, none⟩ = some s3 ∧ w.cell? ⟨P4, 4, none⟩ = some s4 ∧ w.cell? ⟨P4, 5, none⟩ = some s5 ∧ w.cell? ⟨P4, 6, none⟩ = some s6
  t : w.cell? ⟨P6, 0, none⟩ = some t0 ∧ w.cell? ⟨P6, 1, none⟩ = some t1 ∧ w.cell? ⟨P6, 2, none⟩ = some t2 ∧ w.cell? ⟨P6, 3, none⟩ = some t3 ∧ w.cell? ⟨P6, 4, none⟩ = some t4 ∧ w.cell? ⟨P6, 5, none⟩ = some t5 ∧ w.cell? ⟨P6, 6, none⟩ = some t6
theorem four_of {W : World} {M : Nat} {x0 x1 x2 x3 : Value} {T : TypeId} (h : W.heap[M]? = some (.cells #[x0, x1, x2, x3] T (0, 0))) : W.cell? ⟨M, 0, none⟩ = some x0 ∧ W.cell? ⟨M, 1, none⟩ = some x1 ∧ W.cell? ⟨M, 2, none⟩ = some x2 ∧ W.cell? ⟨M, 3, none⟩ = some x3 := by
  refine ⟨?_, ?_, ?_, ?_⟩ <;> simp [World.cell?, h]
set_option maxRecDepth 100000 in
set_option maxHeartbeats 8000000 in
theorem marks_walk (x : Sy.Pc) (pa : Option Addr) (pc : Nat) (ba : Option Addr) (bc : Nat) (q : Int) (w : World) (hxp : PaS (fun _ => True) w (.slice pa x.params.length pc) x.params) (hxb : SmS (fun _ => True) w (.slice ba x.body.length bc) x.body) (hxo : x.Ok) (hq : I64 q) :
    Calls Try.prog 3 #[pcV x pa pc ba bc, .int .i64 q] w fun e w' => e = .returned (.bool true) ∧ Below w.heap.size w w' := by
  have EG2 : Hid (∀ W g, PcS (fun _ => True) W (.slice (some ⟨g, 0, none⟩) 1 1) [x] → Calls Try.prog 4 #[.agg #[.slice (some ⟨g, 0, none⟩) 1 1]] W fun e w' => ∃ b : Bool, e = .returned (.bool b) ∧ Hid (b = false → PcB x) ∧ Hid (Below W.heap.size W w')) := fun W g hW => (pgGreat_any _ [x] (by simp) (fun y hy => by rw [List.mem_singleton.1 hy]; exact hxo) (some ⟨g, 0, none⟩) 1 W hW).mono fun e w' ⟨b, a, c, d⟩ => ⟨b, a, (fun hb => (c hb).2 x (List.mem_singleton.2 rfl)), d⟩
  have EK : Hid (∀ W, Below w.heap.size w W → Calls Try.prog 5 #[] W fun e w' => e = .returned (.bool true) ∧ Hid (Below w.heap.size w w')) := fun W hW => (known4 W).mono fun e w' ⟨a, d⟩ => ⟨a, hW.trans (d.mono hW.size)⟩
  have ES := hidC (fun (hB : PcB x) (W : World) (b : Below w.heap.size w W) => stmtAt_any x pa pc ba bc q W (hxb.later b (Nat.le_refl _)) hB hq.2)
  have ER := hidC (fun (hB : PcB x) (W : World) (b : Below w.heap.size w W) => rStmtAt_any x pa pc ba bc q W (hxb.later b (Nat.le_refl _)) hB hq.2)
  have EC1 := hidC (fun (hB : PcB x) (W : World) (b : Below w.heap.size w W) => ckCountP_any x pa pc ba bc W (hxb.later b (Nat.le_refl _)) hB)
  have EC2 := hidC (fun (hB : PcB x) (W : World) (b : Below w.heap.size w W) => rCountP_any x pa pc ba bc W (hxb.later b (Nat.le_refl _)) hB)
  obtain ⟨pn, hpn⟩ : ∃ n, n = x.params.length := ⟨_, rfl⟩
  obtain ⟨N, hN⟩ : ∃ n, n = x.body.length := ⟨_, rfl⟩
  obtain ⟨M, hM⟩ : ∃ M, M = w.heap.size := ⟨_, rfl⟩
  obtain ⟨W0, hW0⟩ : ∃ W, W = w.alloc (mqB x pa pn pc ba N bc) := ⟨_, rfl⟩
  have K0 : Hid (Below w.heap.size w W0) := by rw [hW0]; exact box_below w _
  have P0 : Hid (W0.heap[M]? = some (mqB x pa pn pc ba N bc) ∧ M < W0.heap.size) := by rw [hW0, hM]; exact ⟨heap_alloc_new w _, by simp⟩
  obtain ⟨W1, hW1⟩ : ∃ W, W = W0.alloc (mqB x pa pn pc ba N bc) := ⟨_, rfl⟩
  have K1 : Hid (Below W0.heap.size W0 W1) := by rw [hW1]; exact box_below W0 _
  have HPC : Hid (PcS (fun _ => True) W1 (.slice (some ⟨W0.heap.size, 0, none⟩) 1 1) [x]) := one_pcs hpn hN hW1 (hxp.later K0.out (Nat.le_refl _)) (hxb.later K0.out (Nat.le_refl _))
  have EG := hidC (EG2.out W1 W0.heap.size HPC.out)
  have HMl : Hid (M < W0.heap.size) := P0.out.2
  have MC : Hid (∀ W, Below W0.heap.size W0 W → W.cell? ⟨M, 0, none⟩ = some (.string ⟨x.name.toArray⟩) ∧ W.cell? ⟨M, 1, none⟩ = some (.slice pa pn pc) ∧ W.cell? ⟨M, 2, none⟩ = some (.int .i64 x.type) ∧ W.cell? ⟨M, 3, none⟩ = some (.slice ba N bc)) := fun W b => four_of ((b.block M P0.out.2).trans P0.out.1)
  have HCB := hidC (fun (hB : PcB x) => Sy.mkAt_bd hB.2 q)
  unfold pcV at ES ER EC1 EC2 ⊢
  rw [← hpn, ← hN] at ES ER EC1 EC2 ⊢
  obtain ⟨nm, hnm⟩ : ∃ n, n = x.name := ⟨_, rfl⟩
  obtain ⟨ty, hty⟩ : ∃ n, n = x.type := ⟨_, rfl⟩
  have HW0 : Hid (W0 = w.alloc (.cells #[.string ⟨nm.toArray⟩, .slice pa pn pc, .int .i64 ty, .slice ba N bc] 25)) := by rw [hnm, hty]; exact hW0
  have HW1 : Hid (W1 = W0.alloc (.cells #[.string ⟨nm.toArray⟩, .slice pa pn pc, .int .i64 ty, .slice ba N bc] 25)) := by rw [hnm, hty]; exact hW1
  rw [← hnm, ← hty] at ES ER EC1 EC2 MC ⊢
  have HMM := hidC hM
  have R0 : Hid (Below W0.heap.size W0 W0) := Below.refl _ _
  clear hpn hN hnm hty hM hW0 hW1 hxp hxb hxo hq EG2 HPC P0
  obtain ⟨p0, p1, p2, p3⟩ := MC.out W0 R0.out
  go_enter Try.func3, Try.ntmps3
  go_upto_region 1 with fail
  rw [← HW0.out, ← HMM.out]
  clear HW0
  go_wp2_with fail
  rw [← HW1.out]
  refine EG.out.mono ?_
  rintro e2 w2 ⟨bv, rfl, hbv, k2⟩
  have K2 : Hid (Below W0.heap.size W0 w2) := K1.out.trans (k2.out.mono K1.out.size)
  have L2 : Hid (Below w.heap.size w w2) := K0.out.trans (K2.out.mono K0.out.size)
  clear k2 EG HW1 K1 p0 p1 p2 p3
  cases bv with
  | true =>
    clear hbv
    go_wp2_with fail
    refine (EK.out _ L2.out).mono ?_
    rintro e3 w3 ⟨rfl, k3⟩
    go_wp2_with fail
    go_ret
    exact ⟨rfl, k3.out⟩
  | false =>
    have hB := hbv.out rfl
    have ES1 := hidC (ES.out hB w2 L2.out)
    have ER1 := hidC (ER.out hB)
    have EC1' := hidC (EC1.out hB)
    have EC2' := hidC (EC2.out hB)
    have HBd := hidC (HCB.out hB)
    clear hB hbv ES ER EC1 EC2 HCB
    obtain ⟨p0, p1, p2, p3⟩ := MC.out w2 K2.out
    go_wp2_with fail
    refine ES1.out.mono ?_
    rintro e3 w3 ⟨k, n, p, m, e, b, ll, sa, sc, ba', bc', la, lc, hat, rfl, x3, y3, l3, k3⟩
    have HAT := hidC hat
    obtain ⟨en, hen⟩ : ∃ n, n = e.length := ⟨_, rfl⟩
    obtain ⟨bn, hbn⟩ : ∃ n, n = b.length := ⟨_, rfl⟩
    obtain ⟨ln, hln⟩ : ∃ n, n = ll.length := ⟨_, rfl⟩
    have HEN := hidC hen
    have HBN := hidC hbn
    have HLN := hidC hln
    rw [← hen] at x3
    rw [← hbn] at y3
    rw [← hln] at l3
    rw [← hen, ← hbn, ← hln]
    obtain ⟨okv, hok⟩ : ∃ o, o = Sy.mkIs x.body q := ⟨_, rfl⟩
    rw [← hok]
    have HOK := hidC hok
    have K3 := hidC (K2.out.trans (k3.mono K2.out.size))
    clear k3 hen hbn hln hok hat ES1
    obtain ⟨P4, hP4⟩ : ∃ P, P = w3.heap.size := ⟨_, rfl⟩
    obtain ⟨W4, hW4⟩ : ∃ W, W = w3.alloc (.cells #[.int .i64 k, .string ⟨n.toArray⟩, .string ⟨p.toArray⟩, .int .i64 m, .slice sa en sc, .slice ba' bn bc', .slice la ln lc] 33) := ⟨_, rfl⟩
    have B34 : Hid (Below w3.heap.size w3 W4) := by rw [hW4]; exact box_below w3 _
    have B4 : Hid (Bs W4 P4 (.int .i64 k) (.string ⟨n.toArray⟩) (.string ⟨p.toArray⟩) (.int .i64 m) (.slice sa en sc) (.slice ba' bn bc') (.slice la ln lc)) := by rw [hW4, hP4]; exact heap_alloc_new w3 _
    have K4 := hidC (K3.out.trans (B34.out.mono K3.out.size))
    have L4 := hidC (K0.out.trans (K4.out.mono K0.out.size))
    have X4 := hidC (x3.later B34.out (Nat.le_refl _))
    have Y4 := hidC (y3.later B34.out (Nat.le_refl _))
    have Z4 := hidC (l3.later B34.out (Nat.le_refl _))
    clear x3 y3 l3 p0 p1 p2 p3
    obtain ⟨p0, p1, p2, p3⟩ := MC.out W4 K4.out
    go_upto_region 4 with fail
    rw [← hW4, ← hP4]
    clear hW4 hP4
    go_wp2_with fail
    refine (ER1.out W4 L4.out).mono ?_
    rintro e5 w5 ⟨k', n', p', m', e', b', l', ta, tc, va, vc, ya, yc, hat2, rfl, x5, y5, l5, k5⟩
    have hat3 := HAT.out.symm.trans hat2
    injection hat3 with r1 r2 r3 r4 r5 r6 r7
    subst r1 r2 r3 r4 r5 r6 r7
    rw [← HEN.out] at x5
    rw [← HBN.out] at y5
    rw [← HLN.out] at l5
    rw [← HEN.out, ← HBN.out, ← HLN.out, ← HOK.out]
    obtain ⟨P6, hP6⟩ : ∃ P, P = w5.heap.size := ⟨_, rfl⟩
    obtain ⟨W6, hW6⟩ : ∃ W, W = w5.alloc (.cells #[.int .i64 k, .string ⟨n.toArray⟩, .string ⟨p.toArray⟩, .int .i64 m, .slice ta en tc, .slice va bn vc, .slice ya ln yc] 33) := ⟨_, rfl⟩
    have B56 : Hid (Below w5.heap.size w5 W6) := by rw [hW6]; exact box_below w5 _
    have B6 : Hid (Bs W6 P6 (.int .i64 k) (.string ⟨n.toArray⟩) (.string ⟨p.toArray⟩) (.int .i64 m) (.slice ta en tc) (.slice va bn vc) (.slice ya ln yc)) := by rw [hW6, hP6]; exact heap_alloc_new w5 _
    have J6 := hidC (k5.trans (B56.out.mono k5.size))
    have B46 := hidC (B4.out.later J6.out (n := 0))
    have K6 := hidC (K4.out.trans (J6.out.mono K4.out.size))
    have L6 := hidC (K0.out.trans (K6.out.mono K0.out.size))
    have X6 := hidC (X4.out.later J6.out (Nat.le_refl _))
    have Y6 := hidC (Y4.out.later J6.out (Nat.le_refl _))
    have Z6 := hidC (Z4.out.later J6.out (Nat.le_refl _))
    have U6 := hidC (x5.later B56.out (Nat.le_refl _))
    have V6 := hidC (y5.later B56.out (Nat.le_refl _))
    have T6 := hidC (l5.later B56.out (Nat.le_refl _))
    have FS : Hid (∀ W, Below W6.heap.size W6 W → (W.cell? ⟨P4, 0, none⟩ = some (.int .i64 k) ∧ W.cell? ⟨P4, 1, none⟩ = some (.string ⟨n.toArray⟩) ∧ W.cell? ⟨P4, 2, none⟩ = some (.string ⟨p.toArray⟩) ∧ W.cell? ⟨P4, 3, none⟩ = some (.int .i64 m) ∧ W.cell? ⟨P4, 4, none⟩ = some (.slice sa en sc) ∧ W.cell? ⟨P4, 5, none⟩ = some (.slice ba' bn bc') ∧ W.cell? ⟨P4, 6, none⟩ = some (.slice la ln lc)) ∧ (W.cell? ⟨P6, 0, none⟩ = some (.int .i64 k) ∧ W.cell? ⟨P6, 1, none⟩ = some (.string ⟨n.toArray⟩) ∧ W.cell? ⟨P6, 2, none⟩ = some (.string ⟨p.toArray⟩) ∧ W.cell? ⟨P6, 3, none⟩ = some (.int .i64 m) ∧ W.cell? ⟨P6, 4, none⟩ = some (.slice ta en tc) ∧ W.cell? ⟨P6, 5, none⟩ = some (.slice va bn vc) ∧ W.cell? ⟨P6, 6, none⟩ = some (.slice ya ln yc)) ∧ (W.cell? ⟨M, 0, none⟩ = some (.string ⟨nm.toArray⟩) ∧ W.cell? ⟨M, 1, none⟩ = some (.slice pa pn pc) ∧ W.cell? ⟨M, 2, none⟩ = some (.int .i64 ty) ∧ W.cell? ⟨M, 3, none⟩ = some (.slice ba N bc))) := fun W b => ⟨(B46.out.later b (n := 0)).cells, (B6.out.later b (n := 0)).cells, MC.out W (K6.out.trans (b.mono K6.out.size))⟩
    have SMT : Hid (SmT [.mk k n p m e b ll]) := sameSts_any [.mk k n p m e b ll] (by simp) (fun y hy => by rw [List.mem_singleton.1 hy, ← HAT.out]; exact HBd.out)
    obtain ⟨Q6, hQ6⟩ : ∃ Q, Q = W6.heap.size := ⟨_, rfl⟩
    have EA : Hid (∀ W, Below ((W6.alloc (.cells #[.int .i64 k, .string ⟨n.toArray⟩, .string ⟨p.toArray⟩, .int .i64 m, .slice sa en sc, .slice ba' bn bc', .slice la ln lc] 33)).alloc (.cells #[.int .i64 k, .string ⟨n.toArray⟩, .string ⟨p.toArray⟩, .int .i64 m, .slice ta en tc, .slice va bn vc, .slice ya ln yc] 33)).heap.size ((W6.alloc (.cells #[.int .i64 k, .string ⟨n.toArray⟩, .string ⟨p.toArray⟩, .int .i64 m, .slice sa en sc, .slice ba' bn bc', .slice la ln lc] 33)).alloc (.cells #[.int .i64 k, .string ⟨n.toArray⟩, .string ⟨p.toArray⟩, .int .i64 m, .slice ta en tc, .slice va bn vc, .slice ya ln yc] 33)) W → Calls Try.prog 8 #[.slice (some ⟨Q6, 0, none⟩) 1 1, .slice (some ⟨Q6 + 1, 0, none⟩) 1 1] W fun e w' => e = .returned (.bool true) ∧ Below W.heap.size W w') := fun W q => by
      obtain ⟨z1, z2, z3⟩ := bs_two W6 (.cells #[.int .i64 k, .string ⟨n.toArray⟩, .string ⟨p.toArray⟩, .int .i64 m, .slice sa en sc, .slice ba' bn bc', .slice la ln lc] 33) (.cells #[.int .i64 k, .string ⟨n.toArray⟩, .string ⟨p.toArray⟩, .int .i64 m, .slice ta en tc, .slice va bn vc, .slice ya ln yc] 33)
      have z3' : Below W6.heap.size W6 ((W6.alloc (.cells #[.int .i64 k, .string ⟨n.toArray⟩, .string ⟨p.toArray⟩, .int .i64 m, .slice sa en sc, .slice ba' bn bc', .slice la ln lc] 33)).alloc (.cells #[.int .i64 k, .string ⟨n.toArray⟩, .string ⟨p.toArray⟩, .int .i64 m, .slice ta en tc, .slice va bn vc, .slice ya ln yc] 33)) := ⟨z3.os, z3.tape, z3.output, z3.size, z3.block⟩
      have qq := z3'.trans (q.mono z3'.size)
      have f1 : Bs W Q6 (.int .i64 k) (.string ⟨n.toArray⟩) (.string ⟨p.toArray⟩) (.int .i64 m) (.slice sa en sc) (.slice ba' bn bc') (.slice la ln lc) := by rw [hQ6]; exact (q.block _ (Array.getElem?_eq_some_iff.1 z1).1).trans z1
      have f2 : Bs W (Q6 + 1) (.int .i64 k) (.string ⟨n.toArray⟩) (.string ⟨p.toArray⟩) (.int .i64 m) (.slice ta en tc) (.slice va bn vc) (.slice ya ln yc) := by rw [hQ6]; exact (q.block _ (Array.getElem?_eq_some_iff.1 z2).1).trans z2
      rw [HEN.out, HBN.out, HLN.out] at f1 f2
      have g1 := smOne f1 (by rw [← HEN.out]; exact X6.out.later qq (Nat.le_refl _)) (by rw [← HBN.out]; exact Y6.out.later qq (Nat.le_refl _)) (by rw [← HLN.out]; exact Z6.out.later qq (Nat.le_refl _))
      have g2 := smOne f2 (by rw [← HEN.out]; exact U6.out.later qq (Nat.le_refl _)) (by rw [← HBN.out]; exact V6.out.later qq (Nat.le_refl _)) (by rw [← HLN.out]; exact T6.out.later qq (Nat.le_refl _))
      exact SMT.out (fun _ => True) (fun _ => True) _ _ 1 1 W g1 g2
    have EBr : Hid (∀ W, Below ((W6.alloc (.cells #[.int .i64 k, .string ⟨n.toArray⟩, .string ⟨p.toArray⟩, .int .i64 m, .slice ta en tc, .slice va bn vc, .slice ya ln yc] 33)).alloc (.cells #[.int .i64 k, .string ⟨n.toArray⟩, .string ⟨p.toArray⟩, .int .i64 m, .slice sa en sc, .slice ba' bn bc', .slice la ln lc] 33)).heap.size ((W6.alloc (.cells #[.int .i64 k, .string ⟨n.toArray⟩, .string ⟨p.toArray⟩, .int .i64 m, .slice ta en tc, .slice va bn vc, .slice ya ln yc] 33)).alloc (.cells #[.int .i64 k, .string ⟨n.toArray⟩, .string ⟨p.toArray⟩, .int .i64 m, .slice sa en sc, .slice ba' bn bc', .slice la ln lc] 33)) W → Calls Try.prog 8 #[.slice (some ⟨Q6 + 1, 0, none⟩) 1 1, .slice (some ⟨Q6, 0, none⟩) 1 1] W fun e w' => e = .returned (.bool true) ∧ Below W.heap.size W w') := fun W q => by
      obtain ⟨z1, z2, z3⟩ := bs_two W6 (.cells #[.int .i64 k, .string ⟨n.toArray⟩, .string ⟨p.toArray⟩, .int .i64 m, .slice ta en tc, .slice va bn vc, .slice ya ln yc] 33) (.cells #[.int .i64 k, .string ⟨n.toArray⟩, .string ⟨p.toArray⟩, .int .i64 m, .slice sa en sc, .slice ba' bn bc', .slice la ln lc] 33)
      have z3' : Below W6.heap.size W6 ((W6.alloc (.cells #[.int .i64 k, .string ⟨n.toArray⟩, .string ⟨p.toArray⟩, .int .i64 m, .slice ta en tc, .slice va bn vc, .slice ya ln yc] 33)).alloc (.cells #[.int .i64 k, .string ⟨n.toArray⟩, .string ⟨p.toArray⟩, .int .i64 m, .slice sa en sc, .slice ba' bn bc', .slice la ln lc] 33)) := ⟨z3.os, z3.tape, z3.output, z3.size, z3.block⟩
      have qq := z3'.trans (q.mono z3'.size)
      have f1 : Bs W (Q6 + 1) (.int .i64 k) (.string ⟨n.toArray⟩) (.string ⟨p.toArray⟩) (.int .i64 m) (.slice sa en sc) (.slice ba' bn bc') (.slice la ln lc) := by rw [hQ6]; exact (q.block _ (Array.getElem?_eq_some_iff.1 z2).1).trans z2
      have f2 : Bs W Q6 (.int .i64 k) (.string ⟨n.toArray⟩) (.string ⟨p.toArray⟩) (.int .i64 m) (.slice ta en tc) (.slice va bn vc) (.slice ya ln yc) := by rw [hQ6]; exact (q.block _ (Array.getElem?_eq_some_iff.1 z1).1).trans z1
      rw [HEN.out, HBN.out, HLN.out] at f1 f2
      have g1 := smOne f1 (by rw [← HEN.out]; exact X6.out.later qq (Nat.le_refl _)) (by rw [← HBN.out]; exact Y6.out.later qq (Nat.le_refl _)) (by rw [← HLN.out]; exact Z6.out.later qq (Nat.le_refl _))
      have g2 := smOne f2 (by rw [← HEN.out]; exact U6.out.later qq (Nat.le_refl _)) (by rw [← HBN.out]; exact V6.out.later qq (Nat.le_refl _)) (by rw [← HLN.out]; exact T6.out.later qq (Nat.le_refl _))
      exact SMT.out (fun _ => True) (fun _ => True) _ _ 1 1 W g1 g2
    have R6 : Hid (Below W6.heap.size W6 W6) := Below.refl _ _
    have h4l := (B46.out).lt1
    have h6l := (B6.out).lt1
    have hMl : M < W6.heap.size := Nat.lt_of_lt_of_le HMl.out K6.out.size
    have qo : (okv == okv) = true := beq_self_eq_true _
    obtain ⟨T, hT⟩ : ∃ T, T = Sy.cts x.body := ⟨_, rfl⟩
    rw [← hT] at EC1' EC2'
    have qT : ((T : Int) == (T : Int)) = true := beq_self_eq_true _
    clear hat2 x5 y5 l5 k5 hT p0 p1 p2 p3 ER1
    obtain ⟨⟨s0, s1, s2, s3, s4, s5, s6⟩, ⟨t0, t1, t2, t3, t4, t5, t6⟩, p0, p1, p2, p3⟩ := FS.out _ R6.out
    go_upto_region 5 with fail
    rw [← hW6, ← hP6]
    rw [hQ6] at EA EBr
    clear hW6 hP6 hQ6
    have EA2 : Hid (Calls Try.prog 8 #[.slice (some ⟨W6.heap.size, 0, none⟩) 1 1, .slice (some ⟨W6.heap.size + 1, 0, none⟩) 1 1] ((W6.alloc (.cells #[.int .i64 k, .string ⟨n.toArray⟩, .string ⟨p.toArray⟩, .int .i64 m, .slice sa en sc, .slice ba' bn bc', .slice la ln lc] 33)).alloc (.cells #[.int .i64 k, .string ⟨n.toArray⟩, .string ⟨p.toArray⟩, .int .i64 m, .slice ta en tc, .slice va bn vc, .slice ya ln yc] 33)).drew fun e w' => e = .returned (.bool true) ∧ Below W6.heap.size W6 w') := (EA.out _ (drewB _)).mono fun e w' h => ⟨h.1, (bs_two W6 (.cells #[.int .i64 k, .string ⟨n.toArray⟩, .string ⟨p.toArray⟩, .int .i64 m, .slice sa en sc, .slice ba' bn bc', .slice la ln lc] 33) (.cells #[.int .i64 k, .string ⟨n.toArray⟩, .string ⟨p.toArray⟩, .int .i64 m, .slice ta en tc, .slice va bn vc, .slice ya ln yc] 33)).2.2.trans (h.2.mono (bs_two W6 (.cells #[.int .i64 k, .string ⟨n.toArray⟩, .string ⟨p.toArray⟩, .int .i64 m, .slice sa en sc, .slice ba' bn bc', .slice la ln lc] 33) (.cells #[.int .i64 k, .string ⟨n.toArray⟩, .string ⟨p.toArray⟩, .int .i64 m, .slice ta en tc, .slice va bn vc, .slice ya ln yc] 33)).2.2.size)⟩
    have EB2 : Hid (Calls Try.prog 8 #[.slice (some ⟨W6.heap.size + 1, 0, none⟩) 1 1, .slice (some ⟨W6.heap.size, 0, none⟩) 1 1] ((W6.alloc (.cells #[.int .i64 k, .string ⟨n.toArray⟩, .string ⟨p.toArray⟩, .int .i64 m, .slice ta en tc, .slice va bn vc, .slice ya ln yc] 33)).alloc (.cells #[.int .i64 k, .string ⟨n.toArray⟩, .string ⟨p.toArray⟩, .int .i64 m, .slice sa en sc, .slice ba' bn bc', .slice la ln lc] 33)).drew fun e w' => e = .returned (.bool true) ∧ Below W6.heap.size W6 w') := (EBr.out _ (drewB _)).mono fun e w' h => ⟨h.1, (bs_two W6 (.cells #[.int .i64 k, .string ⟨n.toArray⟩, .string ⟨p.toArray⟩, .int .i64 m, .slice ta en tc, .slice va bn vc, .slice ya ln yc] 33) (.cells #[.int .i64 k, .string ⟨n.toArray⟩, .string ⟨p.toArray⟩, .int .i64 m, .slice sa en sc, .slice ba' bn bc', .slice la ln lc] 33)).2.2.trans (h.2.mono (bs_two W6 (.cells #[.int .i64 k, .string ⟨n.toArray⟩, .string ⟨p.toArray⟩, .int .i64 m, .slice ta en tc, .slice va bn vc, .slice ya ln yc] 33) (.cells #[.int .i64 k, .string ⟨n.toArray⟩, .string ⟨p.toArray⟩, .int .i64 m, .slice sa en sc, .slice ba' bn bc', .slice la ln lc] 33)).2.2.size)⟩
    clear EA EBr
    go_region_held3 (fun X => (X.cell? ⟨P4, 0, none⟩ = some (.int .i64 k) ∧ X.cell? ⟨P4, 1, none⟩ = some (.string ⟨n.toArray⟩) ∧ X.cell? ⟨P4, 2, none⟩ = some (.string ⟨p.toArray⟩) ∧ X.cell? ⟨P4, 3, none⟩ = some (.int .i64 m) ∧ X.cell? ⟨P4, 4, none⟩ = some (.slice sa en sc) ∧ X.cell? ⟨P4, 5, none⟩ = some (.slice ba' bn bc') ∧ X.cell? ⟨P4, 6, none⟩ = some (.slice la ln lc)) ∧ (X.cell? ⟨P6, 0, none⟩ = some (.int .i64 k) ∧ X.cell? ⟨P6, 1, none⟩ = some (.string ⟨n.toArray⟩) ∧ X.cell? ⟨P6, 2, none⟩ = some (.string ⟨p.toArray⟩) ∧ X.cell? ⟨P6, 3, none⟩ = some (.int .i64 m) ∧ X.cell? ⟨P6, 4, none⟩ = some (.slice ta en tc) ∧ X.cell? ⟨P6, 5, none⟩ = some (.slice va bn vc) ∧ X.cell? ⟨P6, 6, none⟩ = some (.slice ya ln yc)) ∧ (X.cell? ⟨M, 0, none⟩ = some (.string ⟨nm.toArray⟩) ∧ X.cell? ⟨M, 1, none⟩ = some (.slice pa pn pc) ∧ X.cell? ⟨M, 2, none⟩ = some (.int .i64 ty) ∧ X.cell? ⟨M, 3, none⟩ = some (.slice ba N bc))) (first | (exact ⟨⟨s0, s1, s2, s3, s4, s5, s6⟩, ⟨t0, t1, t2, t3, t4, t5, t6⟩, p0, p1, p2, p3⟩) | go_keep) (first
      | (go_at_call 8; have hh := EA2.out; with_reducible refine Calls.mono hh ?_; clear hh; rintro e7 w7 ⟨rfl, k7⟩; have K7 := hidC k7; obtain ⟨⟨s0, s1, s2, s3, s4, s5, s6⟩, ⟨t0, t1, t2, t3, t4, t5, t6⟩, p0, p1, p2, p3⟩ := FS.out _ K7.out; clear k7)
      | (go_at_call 8; have hh := EB2.out; with_reducible refine Calls.mono hh ?_; clear hh; rintro e7 w7 ⟨rfl, k7⟩; have K7 := hidC k7; obtain ⟨⟨s0, s1, s2, s3, s4, s5, s6⟩, ⟨t0, t1, t2, t3, t4, t5, t6⟩, p0, p1, p2, p3⟩ := FS.out _ K7.out; clear k7)
      | (go_at_call 9; refine Calls.mono (EC1'.out _ (L6.out.trans ((K7.out.trans ((by go_grown : Below w7.heap.size w7 _).mono K7.out.size)).mono L6.out.size))) ?_; rintro e8 w8 ⟨rfl, k8⟩; have K8 : Hid (Below W6.heap.size W6 w8) := K7.out.trans ((Below.trans (by go_grown : Below w7.heap.size w7 _) (k8.mono (by go_size))).mono K7.out.size); obtain ⟨⟨s0, s1, s2, s3, s4, s5, s6⟩, ⟨t0, t1, t2, t3, t4, t5, t6⟩, p0, p1, p2, p3⟩ := FS.out _ K8.out; clear k8)
      | (go_at_call 10; refine Calls.mono (EC2'.out _ (L6.out.trans ((K8.out.trans ((by go_grown : Below w8.heap.size w8 _).mono K8.out.size)).mono L6.out.size))) ?_; rintro e9 w9 ⟨rfl, k9⟩; have K9 : Hid (Below W6.heap.size W6 w9) := K8.out.trans ((Below.trans (by go_grown : Below w8.heap.size w8 _) (k9.mono (by go_size))).mono K8.out.size); obtain ⟨⟨s0, s1, s2, s3, s4, s5, s6⟩, ⟨t0, t1, t2, t3, t4, t5, t6⟩, p0, p1, p2, p3⟩ := FS.out _ K9.out; clear k9)
      | (go_at_call 5; refine Calls.mono (known4 _) ?_; rintro e10 w10 ⟨rfl, k10⟩; have K10 : Hid (Below W6.heap.size W6 w10) := K9.out.trans ((Below.trans (by go_grown : Below w9.heap.size w9 _) (k10.mono (by go_size))).mono K9.out.size); obtain ⟨⟨s0, s1, s2, s3, s4, s5, s6⟩, ⟨t0, t1, t2, t3, t4, t5, t6⟩, p0, p1, p2, p3⟩ := FS.out _ K10.out; clear k10))
    all_goals
      go_wp2_with fail
      go_ret
      exact ⟨rfl, L6.out.trans (((K10.out).trans ⟨rfl, rfl, rfl, Nat.le_refl _, fun _ _ => rfl⟩).mono L6.out.size)⟩
end Go.Proofs.Ytobiedmmjiedlaa
