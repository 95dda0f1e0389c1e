/- VmNil, walked: a machine that is not there answers so. -/
import Derived.Test.YtodpdnidinnjjaaDoorTVmKn
namespace Go.Proofs.YtodpdnidinnjjaaDoor
open Go.RowKit
set_option linter.unusedVariables false
set_option linter.unusedSimpArgs false

set_option maxRecDepth 100000 in
set_option maxHeartbeats 16000000 in
theorem nil9_walk (k : Int) (B : Nat) (w : World) (hB : B ≤ w.heap.size) (tn : Tn B w) (tm : Tm B w) : Calls Tryd.prog 8 #[.int .i64 k] w fun e w' => e = .returned (.bool true) ∧ Below w.heap.size w w' := by
  have EK : Hid (∀ X, Below w.heap.size w X → Calls Tryd.prog 10 #[] X fun e w' => e = .returned (.bool true) ∧ Below X.heap.size X w') := fun X hX => known9 B X (Nat.le_trans hB hX.size) (tn.later (hX.mono hB)) (tm.later (hX.mono hB))
  clear tn tm
  go_enter Tryd.func8, Tryd.ntmps8
  go_wp2_with fail
  refine Calls.mono (vmTickN _) ?_
  rintro e1 w1 ⟨rfl, b1⟩
  obtain ⟨W2, hW2⟩ : ∃ W2, W2 = w1.alloc (.cells #[.int .i64 0, .int .i64 0, .int .i64 0, .int .i64 0] 32) := ⟨_, rfl⟩
  obtain ⟨tb, htb⟩ : ∃ tb, tb = w1.heap.size := ⟨_, rfl⟩
  have x2 : W2.heap[tb]? = some (.cells #[.int .i64 0, .int .i64 0, .int .i64 0, .int .i64 0] 32 (0, 0)) := by rw [hW2, htb]; exact alloc_at w1 _
  have hl2 : tb < W2.heap.size := (Array.getElem?_eq_some_iff.1 x2).1
  have B2 : Hid (Below w.heap.size w W2) := b1.trans (by rw [hW2]; exact ((Below.refl w1.heap.size w1).alloc (Nat.le_refl _) _).mono b1.size)
  clear b1
  go_upto_region 3 with fail
  rw [← hW2, ← htb]
  clear hW2 htb
  go_wp2_with fail
  refine Calls.mono (vmFrameN k _) ?_
  rintro e3 w3 ⟨rfl, b3⟩
  have x3 := (b3.block tb hl2).trans x2
  have hl3 := Nat.lt_of_lt_of_le hl2 b3.size
  have B3 : Hid (Below w.heap.size w w3) := B2.out.trans (b3.mono B2.out.size)
  clear b3 x2 hl2 B2
  go_wp2_with fail
  refine Calls.mono (vmStepN _) ?_
  rintro e4 w4 ⟨rfl, b4⟩
  have x4 := (b4.block tb hl3).trans x3
  have hl4 := Nat.lt_of_lt_of_le hl3 b4.size
  have B4 : Hid (Below w.heap.size w w4) := B3.out.trans (b4.mono B3.out.size)
  clear b4 x3 hl3 B3
  go_wp2_with fail
  refine Calls.mono (vmEndedN _) ?_
  rintro e5 w5 ⟨rfl, b5⟩
  have x5 := (b5.block tb hl4).trans x4
  have hl5 := Nat.lt_of_lt_of_le hl4 b5.size
  have B5 : Hid (Below w.heap.size w w5) := B4.out.trans (b5.mono B4.out.size)
  clear b5 x4 hl4 B4
  go_wp2_with fail
  refine Calls.mono (vmTicksN _) ?_
  rintro e6 w6 ⟨rfl, b6⟩
  have x6 := (b6.block tb hl5).trans x5
  have hl6 := Nat.lt_of_lt_of_le hl5 b6.size
  have t0 : w6.cell? ⟨tb, 0, none⟩ = some (.int .i64 0) := by simp [World.cell?, x6]
  have t1 : w6.cell? ⟨tb, 1, none⟩ = some (.int .i64 0) := by simp [World.cell?, x6]
  have t2 : w6.cell? ⟨tb, 2, none⟩ = some (.int .i64 0) := by simp [World.cell?, x6]
  have t3 : w6.cell? ⟨tb, 3, none⟩ = some (.int .i64 0) := by simp [World.cell?, x6]
  have B6 : Hid (Below w.heap.size w w6) := B5.out.trans (b6.mono B5.out.size)
  clear b6 x5 hl5 B5 x6
  go_wp2_with fail
  refine Calls.mono (vmEventsN _) ?_
  rintro e7 w7 ⟨rfl, b7⟩
  have B7 : Hid (Below w.heap.size w w7) := B6.out.trans (b7.mono B6.out.size)
  clear b7 t0 t1 t2 t3 hl6 B6
  go_wp2_with fail
  refine Calls.mono (vmCountN _) ?_
  rintro e8 w8 ⟨rfl, b8⟩
  have B8 : Hid (Below w.heap.size w w8) := B7.out.trans (b8.mono B7.out.size)
  clear b8 B7
  go_wp2_with fail
  refine Calls.mono (vmFramesN _) ?_
  rintro e9 w9 ⟨rfl, b9⟩
  have B9 : Hid (Below w.heap.size w w9) := B8.out.trans (b9.mono B8.out.size)
  clear b9 B8
  go_wp2_with fail
  refine Calls.mono (vmCopyN _) ?_
  rintro e10 w10 ⟨rfl, b10⟩
  have B10 : Hid (Below w.heap.size w w10) := B9.out.trans (b10.mono B9.out.size)
  clear b10 B9
  go_wp2_with fail
  refine Calls.mono (EK.out _ B10.out) ?_
  rintro e11 w11 ⟨rfl, b11⟩
  have FIN : Hid (Below w.heap.size w w11) := B10.out.trans (b11.mono B10.out.size)
  clear b11 EK B10
  go_wp2_with fail
  go_ret
  exact ⟨rfl, FIN.out⟩
end Go.Proofs.YtodpdnidinnjjaaDoor
