/- Layer 4: great of a program. -/
import Derived.Test.YtfpabjdhibmefaaZCkSz
namespace Go.Proofs.Ytfpabjdhibmefaa
open Go.RowKit

set_option maxRecDepth 100000 in
set_option maxHeartbeats 1000000 in
theorem pgGreat_any (A : Nat → Prop) (l : List Sy.Pc) (hl : l.length ≤ 1000000000000000) (hP : ∀ x, x ∈ l → x.Ok) (sa : Option Addr) (sc : Nat) (w : World) (hs : PcS A w (.slice sa l.length sc) l) :
    Calls Try.prog 6 #[.agg #[.slice sa l.length sc]] w fun e w' => ∃ b : Bool, e = .returned (.bool b) ∧ (b = false → l.length ≤ 1000000 ∧ ∀ x, x ∈ l → PcB x) ∧ Below w.heap.size w w' := by
  have E1 : Hid (∀ W, Below w.heap.size w W → _) := fun W hW => pgSize_any A l hl hP sa sc 1500 W (by decide) (by decide) (hs.later hW (Nat.le_refl _))
  clear hs hl hP
  go_enter Try.func6, Try.ntmps6
  go_wp2_with fail
  refine Calls.mono (E1.out _ (by go_grown)) ?_
  rintro e w1 ⟨r, rfl, z, b1⟩
  have Z : Hid (PSR 1500 l r) := z
  have B1 : Hid (Below w.heap.size w w1) := Below.trans (by go_grown) (b1.mono (by go_size))
  clear b1 z
  go_wp2_with fail
  go_ret
  refine ⟨_, rfl, fun h => ?_, B1.out⟩
  have hr : r ≤ 1500 := by simpa using h
  obtain ⟨z1, z2⟩ := Z.out
  obtain ⟨z3, z4⟩ := z2 hr
  refine ⟨by omega, fun x hx => ?_⟩
  obtain ⟨z5, z6⟩ := z4 x hx
  exact ⟨by omega, z6⟩
end Go.Proofs.Ytfpabjdhibmefaa
