/- Layer 8: the document's Size, and the statements' great, of any codes: they answer. -/
import Derived.Test.YtdllgbhdodjdbaaDoorCdW
import Derived.BigQuiet
namespace Go.Proofs.YtdllgbhdodjdbaaDoor
open Go.RowKit
set_option linter.unusedVariables false
set_option linter.unusedSimpArgs false

theorem wr_k {k L n : Nat} (h : n ≤ 1000000000000000) (e : L = n) (hk : k < L) : wrap64 ((k : Int) + 1) = ((k + 1 : Nat) : Int) := by unfold wrap64; omega
theorem wr_m {k L : Nat} {M : Int} (e : M = ((k + 1 : Nat) : Int)) (hk : k < L) : L - M.toNat < L - k := by
  subst e
  omega
def IsN (v : Value) : Prop := ∃ n : Int, v = .int .i64 n
set_option maxRecDepth 100000 in
set_option maxHeartbeats 8000000 in
theorem rSize_any (B : Nat) (la : Option Addr) (lc : Nat) (l : List Cd.Co) (most : Int) (w : World) (h : CdH B w la l) : Calls Tryd.prog 9 #[.slice la l.length lc, .int .i64 most] w fun e w' => ∃ v, e = .returned v ∧ IsN v ∧ Below w.heap.size w w' := by
  have HC : Hid (CdH B w la l) := h
  have HL : Hid (l.length ≤ 1000000000000000) := h.co.1
  obtain ⟨L, hL⟩ : ∃ L, L = l.length := ⟨_, rfl⟩
  rw [← hL]
  have HLL : Hid (L = l.length) := hL
  have hLb : L ≤ 1000000000000000 := by rw [hL]; exact h.co.1
  clear h hL
  go_enter Tryd.func9, Tryd.ntmps9
  go_wp2_with fail
  go_loopw [5, 6] (fun n i wr => ∃ (m : Int) (k : Nat), n = .int .i64 m ∧ k ≤ L ∧ i = .int .i64 k ∧ Hid (Below w.heap.size w wr)) (fun _ i _ => L - (intOf i).toNat)
  case atStart => exact ⟨0, 0, rfl, by omega, rfl, Below.refl _ _⟩
  case round =>
    obtain ⟨m, k, rfl, hk, rfl, BW⟩ := hrel
    by_cases hlt : k < L
    · have hki : (k : Int) < (L : Int) := by omega
      have dk : decide ((k : Int) < (L : Int)) = true := decide_eq_true hki
      have dkn : decide (k < L) = true := decide_eq_true hlt
      by_cases hm : m ≤ most
      · have dm : decide (m ≤ most) = true := decide_eq_true hm
        obtain ⟨g, o, ia, ic, rfl, hg, ca⟩ := HC.out.co.at (List.getElem?_eq_getElem (by have := HLL.out; omega : k < l.length))
        have c0 := (ca.later hg (BW.out.mono HC.out.hB)).c0
        clear ca
        go_wp2_with fail
        go_roundw
        case rel => exact ⟨_, k + 1, rfl, by omega, by go_num, BW⟩
        case measure => simp [intOf]; omega
      · have dm : decide (m ≤ most) = false := decide_eq_false hm
        go_wp2_with fail
        go_ret
        exact ⟨_, rfl, ⟨_, rfl⟩, BW.out⟩
    · have hki : ¬ (k : Int) < (L : Int) := by omega
      have dk : decide ((k : Int) < (L : Int)) = false := decide_eq_false hki
      have dkn : decide (k < L) = false := decide_eq_false hlt
      go_wp2_with fail
      go_ret
      exact ⟨_, rfl, ⟨_, rfl⟩, BW.out⟩
def IsBo (v : Value) : Prop := ∃ b : Bool, v = .bool b
set_option maxRecDepth 100000 in
set_option maxHeartbeats 8000000 in
theorem great8_any (B : Nat) (la : Option Addr) (lc : Nat) (l : List Cd.Co) (w : World) (h : CdH B w la l) : Calls Tryd.prog 8 #[.slice la l.length lc] w fun e w' => ∃ v, e = .returned v ∧ IsBo v ∧ Below w.heap.size w w' := by
  have E1 : Hid (∀ W, Below w.heap.size w W → Calls Tryd.prog 9 #[.slice la l.length lc, .int .i64 1500] W fun e w' => ∃ n : Int, e = .returned (.int .i64 n) ∧ Below w.heap.size w w') := fun W hW => (rSize_any B la lc l 1500 W (h.later (hW.mono h.hB))).mono fun e w' ⟨v, a, ⟨n, b⟩, c⟩ => ⟨n, by rw [a, b], hW.trans (c.mono hW.size)⟩
  have E2 : Hid (∀ W, Below w.heap.size w W → Calls Tryd.prog 9 #[.slice la l.length lc, .int .i64 70000] W fun e w' => ∃ n : Int, e = .returned (.int .i64 n) ∧ Below w.heap.size w w') := fun W hW => (rSize_any B la lc l 70000 W (h.later (hW.mono h.hB))).mono fun e w' ⟨v, a, ⟨n, b⟩, c⟩ => ⟨n, by rw [a, b], hW.trans (c.mono hW.size)⟩
  have BW0 : Hid (Below w.heap.size w w) := Below.refl _ _
  obtain ⟨L, hL⟩ : ∃ L : Nat, L = l.length := ⟨_, rfl⟩
  rw [← hL] at E1 E2 ⊢
  clear h hL
  go_enter Tryd.func8, Tryd.ntmps8
  go_wp2_with fail
  refine Calls.mono (E1.out _ BW0.out) ?_
  rintro e1 w1 ⟨n, rfl, b1⟩
  have B1 : Hid (Below w.heap.size w w1) := b1
  clear b1
  by_cases hn : (1500 : Int) < n
  · have dn : decide ((1500 : Int) < n) = true := decide_eq_true hn
    go_wp2_with fail
    refine Calls.mono (E2.out _ B1.out) ?_
    rintro e2 w2 ⟨m, rfl, b2⟩
    have B2 : Hid (Below w.heap.size w w2) := b2
    clear b2
    by_cases hm : m ≤ (70000 : Int)
    · have dm : decide (m ≤ (70000 : Int)) = true := decide_eq_true hm
      go_wp2_with fail
      go_ret
      exact ⟨_, rfl, ⟨_, rfl⟩, B2.out⟩
    · have dm : decide (m ≤ (70000 : Int)) = false := decide_eq_false hm
      go_wp2_with fail
      go_ret
      exact ⟨_, rfl, ⟨_, rfl⟩, B2.out⟩
  · have dn : decide ((1500 : Int) < n) = false := decide_eq_false hn
    go_wp2_with fail
    go_ret
    exact ⟨_, rfl, ⟨_, rfl⟩, B1.out⟩
end Go.Proofs.YtdllgbhdodjdbaaDoor
