/- Layer 8: the document's Size, and the statements' great, of any codes: they answer. -/
import Derived.Test.YtodpdnidinnjjaaDoorUCdT
import Derived.Test.YtodpdnidinnjjaaDoorRows
import Derived.Test.YtodpdnidinnjjaaDoorUPlain
import Derived.WalkKit
import Derived.WalkMore
import Derived.WalkSpells
import Derived.WalkLawsBesides
import Derived.Shelf.Small.Wraps
import Derived.Shelf.Strings.Prefix
import Derived.Test.YtodpdnidinnjjaaDoorProg
import Derived.Test.YtodpdnidinnjjaaDoorUCdV
import Derived.Test.YtodpdnidinnjjaaDoorUCdL
import Derived.BigQuiet
namespace Go.Proofs.YtodpdnidinnjjaaDoor
open Go.RowKit
set_option linter.unusedVariables false
set_option linter.unusedSimpArgs false

theorem wr_k {k L n : Nat} (h : n ≤ 1000000000000000) (e : L = n) (hk : k < L) : wrap64 ((k : Int) + 1) = ((k + 1 : Nat) : Int) := by unfold wrap64; omega
theorem wr_m {k L : Nat} {M : Int} (e : M = ((k + 1 : Nat) : Int)) (hk : k < L) : L - M.toNat < L - k := by
  subst e
  omega
def IsN (v : Value) : Prop := ∃ n : Int, v = .int .i64 n
set_option maxRecDepth 100000 in
set_option maxHeartbeats 8000000 in
theorem rSize_any (B : Nat) (la : Option Addr) (lc : Nat) (l : List Cd.Co) (most : Int) (w : World) (h : CdH B w la l) : Calls Tryd.prog 50 #[.slice la l.length lc, .int .i64 most] w fun e w' => ∃ v, e = .returned v ∧ IsN v ∧ Below w.heap.size w w' := by
  have HC : Hid (CdH B w la l) := h
  have HL : Hid (l.length ≤ 1000000000000000) := h.co.1
  obtain ⟨L, hL⟩ : ∃ L, L = l.length := ⟨_, rfl⟩
  rw [← hL]
  have HLL : Hid (L = l.length) := hL
  have hLb : L ≤ 1000000000000000 := by rw [hL]; exact h.co.1
  clear h hL
  go_enter Tryd.func50, Tryd.ntmps50
  go_wp2_with fail
  go_loopw [5, 6] (fun n i wr => ∃ (m : Int) (k : Nat), n = .int .i64 m ∧ k ≤ L ∧ i = .int .i64 k ∧ Hid (Below w.heap.size w wr)) (fun _ i _ => L - (intOf i).toNat)
  case atStart => exact ⟨0, 0, rfl, by omega, rfl, Below.refl _ _⟩
  case round =>
    obtain ⟨m, k, rfl, hk, rfl, BW⟩ := hrel
    by_cases hlt : k < L
    · have hki : (k : Int) < (L : Int) := by omega
      have dk : decide ((k : Int) < (L : Int)) = true := decide_eq_true hki
      have dkn : decide (k < L) = true := decide_eq_true hlt
      by_cases hm : m ≤ most
      · have dm : decide (m ≤ most) = true := decide_eq_true hm
        obtain ⟨g, o, ia, ic, rfl, hg, ca⟩ := HC.out.co.at (List.getElem?_eq_getElem (by have := HLL.out; omega : k < l.length))
        have c0 := (ca.later hg (BW.out.mono HC.out.hB)).c0
        clear ca
        go_wp2_with fail
        go_roundw
        case rel => exact ⟨_, k + 1, rfl, by omega, by go_num, BW⟩
        case measure => simp [intOf]; omega
      · have dm : decide (m ≤ most) = false := decide_eq_false hm
        go_wp2_with fail
        go_ret
        exact ⟨_, rfl, ⟨_, rfl⟩, BW.out⟩
    · have hki : ¬ (k : Int) < (L : Int) := by omega
      have dk : decide ((k : Int) < (L : Int)) = false := decide_eq_false hki
      have dkn : decide (k < L) = false := decide_eq_false hlt
      go_wp2_with fail
      go_ret
      exact ⟨_, rfl, ⟨_, rfl⟩, BW.out⟩
def IsBo (v : Value) : Prop := ∃ b : Bool, v = .bool b
end Go.Proofs.YtodpdnidinnjjaaDoor
