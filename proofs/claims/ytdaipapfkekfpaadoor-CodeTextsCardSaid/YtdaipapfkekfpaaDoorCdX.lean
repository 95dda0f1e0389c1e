/- CodeBack: the walk: whatever instruction and text are handed over, the statement answers true. -/
import Derived.Test.YtdaipapfkekfpaaDoorCdW
namespace Go.Proofs.YtdaipapfkekfpaaDoor
open Go.RowKit
set_option linter.unusedVariables false
set_option linter.unusedSimpArgs false

theorem pz_ok {s : List UInt8} {i : Cd.In} (h : Cd.pz s = some i) : i.Ok := by
  obtain ⟨a, _, b, c, _⟩ := Cd.pz_back h
  obtain ⟨h0, h1, -, -⟩ := Cd.hl_op a
  exact ⟨⟨by omega, by omega⟩, b, c⟩
set_option maxRecDepth 100000 in
set_option maxHeartbeats 8000000 in
theorem back8_long (i : Cd.In) (s : ByteArray) (B : Nat) (w : World) (ht : Tt B w) (hm : Tm B w) (hl : 500 < s.size) : Calls Tryd.prog 6 #[inV i, .string s] w fun e w' => e = .returned (.bool true) ∧ Below w.heap.size w w' := by
  have HK : Hid (∀ W, Below w.heap.size w W → Calls Tryd.prog 9 #[] W fun e w' => e = .returned (.bool true) ∧ Below W.heap.size W w') := fun W hW => known8 B W (ht.later hW) (hm.later (hW.mono ht.hB))
  have hli : (500 : Int) < (s.size : Int) := by omega
  have bw : Below w.heap.size w (w.alloc (inB i)) := (Below.refl _ _).alloc (Nat.le_refl _) _
  have BW : Hid _ := bw
  clear ht hm hl bw
  go_enter Tryd.func6, Tryd.ntmps6
  go_wp2_with fail
  refine Calls.mono (HK.out _ BW.out) ?_
  rintro e1 w1 ⟨rfl, b1⟩
  have B1 : Hid (Below w.heap.size w w1) := BW.out.trans (b1.mono BW.out.size)
  clear b1
  go_wp2_with fail
  go_ret
  exact ⟨rfl, B1.out⟩

set_option maxRecDepth 100000 in
set_option maxHeartbeats 8000000 in
theorem back8_short (i : Cd.In) (s : ByteArray) (B : Nat) (w : World) (ht : Tt B w) (hm : Tm B w) (ok : i.Ok) (hl : s.size ≤ 500) : Calls Tryd.prog 6 #[inV i, .string s] w fun e w' => e = .returned (.bool true) ∧ Below w.heap.size w w' := by
  have HK : Hid (∀ W, Below w.heap.size w W → Calls Tryd.prog 9 #[] W fun e w' => e = .returned (.bool true) ∧ Below W.heap.size W w') := fun W hW => known8 B W (ht.later hW) (hm.later (hW.mono ht.hB))
  have HP : Hid (∀ W, Below w.heap.size w W → Calls Tryd.prog 12 #[.string s] W fun e w' => e = .returned (pzE s.data.toList) ∧ Below W.heap.size W w') := fun W hW => cdParse_any s B W (ht.later hW) (by omega)
  have HT : Hid (∀ (x : Cd.In) W, x.Ok → Below w.heap.size w W → Calls Tryd.prog 10 #[inV x] W fun e w' => e = .returned (txE x) ∧ Below W.heap.size W w') := fun x W hx hW => cdText_any x B W (ht.later hW) hx
  have HQ : Hid (∀ (t : List UInt8) W, t.length ≤ 3000 → Below w.heap.size w W → Calls Tryd.prog 12 #[.string ⟨t.toArray⟩] W fun e w' => e = .returned (pzE t) ∧ Below W.heap.size W w') := fun t W hx hW => by
    have := cdParse_any ⟨t.toArray⟩ B W (ht.later hW) (by simp [ByteArray.size]; omega)
    exact this
  have OK : Hid i.Ok := ok
  have hli : ¬ (500 : Int) < (s.size : Int) := by omega
  obtain ⟨W, hW⟩ : ∃ W, W = w.alloc (inB i) := ⟨_, rfl⟩
  obtain ⟨bx, hbx⟩ : ∃ bx, bx = w.heap.size := ⟨_, rfl⟩
  obtain ⟨t0, t1, t2, bw⟩ := in_box w i bx W hbx hW
  have bl : bx < W.heap.size := by rw [hbx, hW]; simp
  have BW : Hid (Below w.heap.size w W) := bw
  clear ht hm ok hl bw
  go_enter Tryd.func6, Tryd.ntmps6
  go_upto_region 1 with fail
  rw [← hW, ← hbx]
  clear hW hbx
  go_wp2_with fail
  refine Calls.mono (HT.out i _ OK.out BW.out) ?_
  rintro e1 w1 ⟨rfl, b1⟩
  have s0 := (b1.cell (p := ⟨bx, 0, none⟩) bl).trans t0
  have s1 := (b1.cell (p := ⟨bx, 1, none⟩) bl).trans t1
  have s2 := (b1.cell (p := ⟨bx, 2, none⟩) bl).trans t2
  have bl1 : bx < w1.heap.size := Nat.lt_of_lt_of_le bl b1.size
  have B1 : Hid (Below w.heap.size w w1) := BW.out.trans (b1.mono BW.out.size)
  clear b1 BW bl t0 t1 t2
  have REST : Hid (∀ W, Below w.heap.size w W → True) := fun _ _ => trivial
  clear REST
  cases hh : Cd.hl i with
  | true =>
    have HH : Hid (Cd.hl i = true) := hh
    have ev : txE i = sE (Cd.tx i) 0 := by unfold txE; rw [if_pos hh]
    have ep : pzE (Cd.tx i) = iE i 0 := pzE_yes (Cd.pz_tx hh OK.out.2.1 OK.out.2.2)
    have EQ : Hid (Calls Tryd.prog 12 #[.string ⟨(Cd.tx i).toArray⟩] w1 fun e w' => e = .returned (iE i 0) ∧ Below w1.heap.size w1 w') := by
      have := HQ.out (Cd.tx i) w1 (by have := Cd.tx_len hh OK.out; omega) B1.out
      rw [ep] at this
      exact this
    rw [ev]
    clear ev ep hh
    have q0 : (i.op == i.op) = true := beq_self_eq_true _
    have q1 : (i.n == i.n) = true := beq_self_eq_true _
    have q2 : (i.m == i.m) = true := beq_self_eq_true _
    go_wp2_with fail
    refine Calls.mono EQ.out ?_
    rintro e2 w2 ⟨rfl, b2⟩
    have r0 := (b2.cell (p := ⟨bx, 0, none⟩) bl1).trans s0
    have r1 := (b2.cell (p := ⟨bx, 1, none⟩) bl1).trans s1
    have r2 := (b2.cell (p := ⟨bx, 2, none⟩) bl1).trans s2
    have bl2 : bx < w2.heap.size := Nat.lt_of_lt_of_le bl1 b2.size
    have nbx : ¬ bx = w2.heap.size := Nat.ne_of_lt bl2
    have B2 : Hid (Below w.heap.size w w2) := B1.out.trans (b2.mono B1.out.size)
    have BX : Hid (Below w.heap.size w (w2.alloc (inB i))) := B2.out.alloc B2.out.size _
    clear b2 EQ B1 s0 s1 s2
    go_wp2_with fail
    clear r0 r1 r2 q0 q1 q2
    refine Calls.mono (HP.out _ BX.out) ?_
    rintro e3 w3 ⟨rfl, b3⟩
    have B3 : Hid (Below w.heap.size w w3) := BX.out.trans (b3.mono BX.out.size)
    clear b3 BX
    cases hz : Cd.pz s.data.toList with
    | none =>
      rw [pzE_no hz]
      have B4 : Hid (Below w.heap.size w (w3.alloc (inB ⟨0, 0, 0⟩))) := B3.out.alloc B3.out.size _
      clear hz
      go_wp2_with fail
      refine Calls.mono (HK.out _ B4.out) ?_
      rintro e5 w5 ⟨rfl, b5⟩
      have B5 : Hid (Below w.heap.size w w5) := B4.out.trans (b5.mono B4.out.size)
      clear b5
      go_wp2_with fail
      go_ret
      exact ⟨rfl, B5.out⟩
    | some b =>
      have B4 : Hid (Below w.heap.size w (w3.alloc (inB b))) := B3.out.alloc B3.out.size _
      have EB : Hid (∀ W, Below w.heap.size w W → Calls Tryd.prog 10 #[.agg #[.int .i64 b.op, .int .i64 b.n, .int .i64 b.m]] W fun e w' => e = .returned (.tuple #[.string s, .int .i64 0]) ∧ Below W.heap.size W w') := fun W hW => by
        obtain ⟨hb1, hb2, _, _, _⟩ := Cd.pz_back hz
        have := HT.out b W (pz_ok hz) hW
        have ev : txE b = .tuple #[.string s, .int .i64 0] := by unfold txE; rw [if_pos hb1, hb2]
        rw [ev] at this
        exact this
      rw [pzE_yes hz]
      clear hz
      go_wp2_with fail
      refine Calls.mono (EB.out _ B4.out) ?_
      rintro e5 w5 ⟨rfl, b5⟩
      have B5 : Hid (Below w.heap.size w w5) := B4.out.trans (b5.mono B4.out.size)
      have se : (s.toList == s.toList) = true := beq_self_eq_true _
      clear b5 EB
      go_wp2_with fail
      refine Calls.mono (HK.out _ B5.out) ?_
      rintro e6 w6 ⟨rfl, b6⟩
      have B6 : Hid (Below w.heap.size w w6) := B5.out.trans (b6.mono B5.out.size)
      clear b6
      go_wp2_with fail
      go_ret
      exact ⟨rfl, B6.out⟩
  | false =>
    have ev : txE i = sE [] 61 := by unfold txE; rw [if_neg (by rw [hh]; simp)]
    have EQ : Hid (Calls Tryd.prog 12 #[.string ⟨#[]⟩] w1 fun e w' => e = .returned (iE ⟨0, 0, 0⟩ 61) ∧ Below w1.heap.size w1 w') := by
      have := HQ.out [] w1 (by simp) B1.out
      rw [pzE_no (by unfold Cd.pz; rw [if_pos rfl])] at this
      exact this
    rw [ev]
    clear ev hh
    go_wp2_with fail
    refine Calls.mono EQ.out ?_
    rintro e2 w2 ⟨rfl, b2⟩
    have B2 : Hid (Below w.heap.size w w2) := B1.out.trans (b2.mono B1.out.size)
    have BX : Hid (Below w.heap.size w (w2.alloc (inB ⟨0, 0, 0⟩))) := B2.out.alloc B2.out.size _
    clear b2 EQ B1 s0 s1 s2
    go_wp2_with fail
    refine Calls.mono (HP.out _ BX.out) ?_
    rintro e3 w3 ⟨rfl, b3⟩
    have B3 : Hid (Below w.heap.size w w3) := BX.out.trans (b3.mono BX.out.size)
    clear b3 BX
    cases hz : Cd.pz s.data.toList with
    | none =>
      rw [pzE_no hz]
      have B4 : Hid (Below w.heap.size w (w3.alloc (inB ⟨0, 0, 0⟩))) := B3.out.alloc B3.out.size _
      clear hz
      go_wp2_with fail
      refine Calls.mono (HK.out _ B4.out) ?_
      rintro e5 w5 ⟨rfl, b5⟩
      have B5 : Hid (Below w.heap.size w w5) := B4.out.trans (b5.mono B4.out.size)
      clear b5
      go_wp2_with fail
      go_ret
      exact ⟨rfl, B5.out⟩
    | some b =>
      have B4 : Hid (Below w.heap.size w (w3.alloc (inB b))) := B3.out.alloc B3.out.size _
      have EB : Hid (∀ W, Below w.heap.size w W → Calls Tryd.prog 10 #[.agg #[.int .i64 b.op, .int .i64 b.n, .int .i64 b.m]] W fun e w' => e = .returned (.tuple #[.string s, .int .i64 0]) ∧ Below W.heap.size W w') := fun W hW => by
        obtain ⟨hb1, hb2, _, _, _⟩ := Cd.pz_back hz
        have := HT.out b W (pz_ok hz) hW
        have ev : txE b = .tuple #[.string s, .int .i64 0] := by unfold txE; rw [if_pos hb1, hb2]
        rw [ev] at this
        exact this
      rw [pzE_yes hz]
      clear hz
      go_wp2_with fail
      refine Calls.mono (EB.out _ B4.out) ?_
      rintro e5 w5 ⟨rfl, b5⟩
      have B5 : Hid (Below w.heap.size w w5) := B4.out.trans (b5.mono B4.out.size)
      have se : (s.toList == s.toList) = true := beq_self_eq_true _
      clear b5 EB
      go_wp2_with fail
      refine Calls.mono (HK.out _ B5.out) ?_
      rintro e6 w6 ⟨rfl, b6⟩
      have B6 : Hid (Below w.heap.size w w6) := B5.out.trans (b6.mono B5.out.size)
      clear b6
      go_wp2_with fail
      go_ret
      exact ⟨rfl, B6.out⟩
theorem back8_walk (i : Cd.In) (s : ByteArray) (B : Nat) (w : World) (ht : Tt B w) (hm : Tm B w) (ok : i.Ok) : Calls Tryd.prog 6 #[inV i, .string s] w fun e w' => e = .returned (.bool true) ∧ Below w.heap.size w w' := by
  by_cases h : 500 < s.size
  · exact back8_long i s B w ht hm h
  · exact back8_short i s B w ht hm ok (by omega)
end Go.Proofs.YtdaipapfkekfpaaDoor
