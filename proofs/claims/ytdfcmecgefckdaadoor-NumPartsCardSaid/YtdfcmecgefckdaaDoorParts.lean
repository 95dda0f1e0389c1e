/- NumParts: for any two integers of 64 bits, num's quotient and rest, or the error at 0, are the reference's, bit by bit; and the fixed calls come out true. -/
import Derived.Test.YtdfcmecgefckdaaDoorRef3
namespace Go.Proofs.YtdfcmecgefckdaaDoor
open Go.RowKit

set_option maxHeartbeats 400000 in
theorem parts_zero (a : Int) (w : World) (ht : Tab w) :
    Calls Tryd.prog 5 #[.int .i64 a, .int .i64 0] w fun e w' => e = .returned (.bool true) ∧ Below w.heap.size w w' := by
  have HT : Hid (Tab w) := ht
  clear ht
  go_enter Tryd.func5, Tryd.ntmps5
  go_wp2_with fail
  refine (div_zero a w).mono ?_
  rintro e w1 ⟨rfl, rfl⟩
  go_wp2_with fail
  refine (mod_zero a _).mono ?_
  rintro e w1 ⟨rfl, rfl⟩
  go_wp2_with fail
  refine (rdiv_zero a _).mono ?_
  rintro e w1 ⟨rfl, rfl⟩
  go_wp2_with fail
  refine (rmod_zero a _).mono ?_
  rintro e w1 ⟨rfl, rfl⟩
  go_wp2_with fail
  refine (known_any _ HT.out).mono ?_
  rintro e w4 ⟨rfl, b4⟩
  go_wp2
  go_ret
  exact ⟨rfl, b4⟩

set_option maxHeartbeats 400000 in
theorem parts_some (a b : Int) (w : World) (ht : Tab w) (h0 : -9223372036854775808 ≤ a) (h1 : a ≤ 9223372036854775807) (h2 : -9223372036854775808 ≤ b) (h3 : b ≤ 9223372036854775807) (hb : ¬ b = 0) :
    Calls Tryd.prog 5 #[.int .i64 a, .int .i64 b] w fun e w' => e = .returned (.bool true) ∧ Below w.heap.size w w' := by
  have HT : Hid (Tab w) := ht
  clear ht
  have hbb : (b == 0) = false := by simpa using hb
  go_enter Tryd.func5, Tryd.ntmps5
  go_wp2_with fail
  refine (div_some a b w hbb hb).mono ?_
  rintro e w1 ⟨rfl, rfl⟩
  go_wp2_with fail
  refine (mod_some a b _ hbb hb).mono ?_
  rintro e w1 ⟨rfl, rfl⟩
  go_wp2_with fail
  refine (rdiv_some a b _ h0 h1 h2 h3 hb).mono ?_
  rintro e w2 ⟨rfl, b2⟩
  go_wp2_with fail
  refine (rmod_some a b _ h0 h1 h2 h3 hb).mono ?_
  rintro e w3 ⟨rfl, b3⟩
  have hbel := b2.trans (b3.mono b2.size)
  have hz := Nat.le_trans b2.size b3.size
  clear b2 b3
  go_wp2_with fail
  refine (known_any _ (HT.out.later hbel (Nat.le_refl _))).mono ?_
  rintro e w4 ⟨rfl, b4⟩
  go_wp2
  go_ret
  exact ⟨rfl, hbel.trans (b4.mono hz)⟩

theorem parts_walk (a b : Int) (w : World) (ht : Tab w) (wa : (Lit.int .i64 a).wf = true) (wb : (Lit.int .i64 b).wf = true) :
    Calls Tryd.prog 5 #[.int .i64 a, .int .i64 b] w fun e w' => e = .returned (.bool true) ∧ Below w.heap.size w w' := by
  by_cases hb : b = 0
  · subst hb; exact parts_zero a w ht
  · exact parts_some a b w ht (Pl.bd_of_wf wa).1 (Pl.bd_of_wf wa).2 (Pl.bd_of_wf wb).1 (Pl.bd_of_wf wb).2 hb
end Go.Proofs.YtdfcmecgefckdaaDoor
