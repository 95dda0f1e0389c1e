/- CodeTexts: the walk. -/
import Derived.Test.YtdaipapfkekfpaaDoorCdW
import Derived.Test.YtdaipapfkekfpaaDoorCdX
import Derived.Test.YtdaipapfkekfpaaDoorCdZ
namespace Go.Proofs.YtdaipapfkekfpaaDoor
open Go.RowKit
set_option linter.unusedVariables false
set_option linter.unusedSimpArgs false

set_option maxRecDepth 100000 in
set_option maxHeartbeats 8000000 in
theorem texts8_long (i : Cd.In) (s : ByteArray) (B : Nat) (w : World) (ht : Tt B w) (hm : Tm B w) (hl : 500 < s.size) : Calls Tryd.prog 3 #[inV i, .string s] w fun e w' => e = .returned (.bool true) ∧ Below w.heap.size w w' := by
  have HK : Hid (∀ W, Below w.heap.size w W → Calls Tryd.prog 9 #[] W fun e w' => e = .returned (.bool true) ∧ Below W.heap.size W w') := fun W hW => known8 B W (ht.later hW) (hm.later (hW.mono ht.hB))
  have hli : (500 : Int) < (s.size : Int) := by omega
  have bw : Below w.heap.size w (w.alloc (inB i)) := (Below.refl _ _).alloc (Nat.le_refl _) _
  have BW : Hid _ := bw
  clear ht hm hl bw
  go_enter Tryd.func3, Tryd.ntmps3
  go_wp2_with fail
  refine Calls.mono (HK.out _ BW.out) ?_
  rintro e1 w1 ⟨rfl, b1⟩
  have B1 : Hid (Below w.heap.size w w1) := BW.out.trans (b1.mono BW.out.size)
  clear b1
  go_wp2_with fail
  go_ret
  exact ⟨rfl, B1.out⟩
theorem txE_is (i : Cd.In) : ∃ t e, txE i = sE t e := by
  unfold txE
  split
  · exact ⟨_, _, rfl⟩
  · exact ⟨_, _, rfl⟩
theorem pzE_is (s : List UInt8) : ∃ i e, pzE s = iE i e := by
  unfold pzE
  split
  · exact ⟨_, _, rfl⟩
  · exact ⟨_, _, rfl⟩
set_option maxRecDepth 100000 in
set_option maxHeartbeats 8000000 in
theorem texts8_short (i : Cd.In) (s : ByteArray) (B : Nat) (w : World) (ht : Tt B w) (hm : Tm B w) (ok : i.Ok) (hl : s.size ≤ 500) : Calls Tryd.prog 3 #[inV i, .string s] w fun e w' => e = .returned (.bool true) ∧ Below w.heap.size w w' := by
  obtain ⟨t, te, ht1⟩ := txE_is i
  obtain ⟨⟨p0, p1, p2⟩, pe, hp1⟩ := pzE_is s.data.toList
  have HK : Hid (∀ W, Below w.heap.size w W → Calls Tryd.prog 9 #[] W fun e w' => e = .returned (.bool true) ∧ Below w.heap.size w w') := fun W hW => (known8 B W (ht.later hW) (hm.later (hW.mono ht.hB))).mono fun e w' h => ⟨h.1, hW.trans (h.2.mono hW.size)⟩
  have HP : Hid (∀ W, Below w.heap.size w W → Calls Tryd.prog 12 #[.string s] W fun e w' => e = .returned (iE ⟨p0, p1, p2⟩ pe) ∧ Below W.heap.size W w') := fun W hW => by
    rw [← hp1]
    exact cdParse_any s B W (ht.later hW) (by omega)
  have HR : Hid (∀ W, Calls Tryd.prog 13 #[.string s] W fun e w' => e = .returned (iE ⟨p0, p1, p2⟩ pe) ∧ Below W.heap.size W w') := fun W => by
    rw [← hp1]
    exact rParse_any s W (by omega)
  have HT : Hid (∀ W, Below w.heap.size w W → Calls Tryd.prog 10 #[inV i] W fun e w' => e = .returned (sE t te) ∧ Below W.heap.size W w') := fun W hW => by
    rw [← ht1]
    exact cdText_any i B W (ht.later hW) ok
  have HU : Hid (∀ W, Calls Tryd.prog 11 #[inV i] W fun e w' => e = .returned (sE t te) ∧ Below W.heap.size W w') := fun W => by
    rw [← ht1]
    exact rText_any i W ok
  clear ht1 hp1
  have hli : ¬ (500 : Int) < (s.size : Int) := by omega
  obtain ⟨W, hW⟩ : ∃ W, W = w.alloc (inB i) := ⟨_, rfl⟩
  obtain ⟨bx, hbx⟩ : ∃ bx, bx = w.heap.size := ⟨_, rfl⟩
  obtain ⟨t0, t1, t2, bw⟩ := in_box w i bx W hbx hW
  have bl : bx < W.heap.size := by rw [hbx, hW]; simp
  have BW : Hid (Below w.heap.size w W) := bw
  clear ht hm ok hl bw
  go_enter Tryd.func3, Tryd.ntmps3
  go_upto_region 1 with fail
  rw [← hW, ← hbx]
  clear hW hbx
  go_wp2_with fail
  refine Calls.mono (HT.out _ BW.out) ?_
  rintro e1 w1 ⟨rfl, b1⟩
  have s0 := (b1.cell (p := ⟨bx, 0, none⟩) bl).trans t0
  have s1 := (b1.cell (p := ⟨bx, 1, none⟩) bl).trans t1
  have s2 := (b1.cell (p := ⟨bx, 2, none⟩) bl).trans t2
  have B1 : Hid (Below w.heap.size w w1) := BW.out.trans (b1.mono BW.out.size)
  clear b1 BW bl t0 t1 t2
  go_wp2_with fail
  refine Calls.mono (HU.out _) ?_
  rintro e2 w2 ⟨rfl, b2⟩
  have B2 : Hid (Below w.heap.size w w2) := B1.out.trans (b2.mono B1.out.size)
  clear b2 s0 s1 s2 B1
  go_wp2_with fail
  refine Calls.mono (HP.out _ B2.out) ?_
  rintro e3 w3 ⟨rfl, b3⟩
  have B3 : Hid (Below w.heap.size w w3) := B2.out.trans (b3.mono B2.out.size)
  clear b3 B2
  obtain ⟨W3, hW3⟩ : ∃ W3, W3 = w3.alloc (inB ⟨p0, p1, p2⟩) := ⟨_, rfl⟩
  obtain ⟨b3, hb3⟩ : ∃ b3, b3 = w3.heap.size := ⟨_, rfl⟩
  obtain ⟨k0, k1, k2, bw3⟩ := in_box w3 ⟨p0, p1, p2⟩ b3 W3 hb3 hW3
  dsimp only at k0 k1 k2
  have bl3 : b3 < W3.heap.size := by rw [hb3, hW3]; simp
  have HB3 : Hid (b3 = w3.heap.size) := hb3
  have HW3 : Hid (W3 = w3.alloc (inB ⟨p0, p1, p2⟩)) := hW3
  clear hb3 hW3
  go_wp2_with fail
  rw [← HW3.out, ← HB3.out]
  refine Calls.mono (HR.out _) ?_
  rintro e4 w4 ⟨rfl, b4⟩
  obtain ⟨W4, hW4⟩ : ∃ W4, W4 = w4.alloc (inB ⟨p0, p1, p2⟩) := ⟨_, rfl⟩
  obtain ⟨c4, hc4⟩ : ∃ c4, c4 = w4.heap.size := ⟨_, rfl⟩
  obtain ⟨l0, l1, l2, bw4⟩ := in_box w4 ⟨p0, p1, p2⟩ c4 W4 hc4 hW4
  dsimp only at l0 l1 l2
  have HB4 : Hid (c4 = w4.heap.size) := hc4
  have HW4 : Hid (W4 = w4.alloc (inB ⟨p0, p1, p2⟩)) := hW4
  have yy := b4.trans (bw4.mono b4.size)
  have m0 := (yy.cell (p := ⟨b3, 0, none⟩) bl3).trans k0
  have m1 := (yy.cell (p := ⟨b3, 1, none⟩) bl3).trans k1
  have m2 := (yy.cell (p := ⟨b3, 2, none⟩) bl3).trans k2
  have bb3 := B3.out.trans (bw3.mono B3.out.size)
  have B4 : Hid (Below w.heap.size w W4) := bb3.trans (yy.mono bb3.size)
  have q0 : (p0 == p0) = true := beq_self_eq_true _
  have q1 : (p1 == p1) = true := beq_self_eq_true _
  have q2 : (p2 == p2) = true := beq_self_eq_true _
  have q3 : (t == t) = true := beq_self_eq_true _
  have q4 : (te == te) = true := beq_self_eq_true _
  have q5 : (pe == pe) = true := beq_self_eq_true _
  clear hc4 hW4 yy bb3 bw4 bw3 k0 k1 k2 b4 bl3 HW3 HB3
  go_upto_region 7 with fail
  rw [← HW4.out, ← HB4.out]
  clear HW4 HB4
  go_wp2_with fail
  refine Calls.mono (HK.out _ B4.out) ?_
  rintro e5 w5 ⟨rfl, b5⟩
  have B5 : Hid (Below w.heap.size w w5) := b5
  clear b5
  go_wp2_with fail
  go_ret
  exact ⟨rfl, B5.out⟩
theorem texts8_walk (i : Cd.In) (s : ByteArray) (B : Nat) (w : World) (ht : Tt B w) (hm : Tm B w) (ok : i.Ok) : Calls Tryd.prog 3 #[inV i, .string s] w fun e w' => e = .returned (.bool true) ∧ Below w.heap.size w w' := by
  by_cases h : 500 < s.size
  · exact texts8_long i s B w ht hm h
  · exact texts8_short i s B w ht hm ok (by omega)
end Go.Proofs.YtdaipapfkekfpaaDoor
