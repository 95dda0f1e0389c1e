/- Layer 8: the program's small functions over one instruction, each for every instruction. -/
import Derived.Test.YtodpdnidinnjjaaDoorUCdM
import Derived.Deep.RegionHeld3
import Derived.BigQuiet
import Derived.Handy
import Derived.Deep.RegionWith
import Derived.Deep.DeepCutAuto
import Derived.Deep.QuietTactic
import Derived.BigRegion
import Derived.RegionTactic
import Derived.WalkSmall
namespace Go.Proofs.YtodpdnidinnjjaaDoor
open Go.RowKit

theorem retB {a b : Bool} (h : a = b) : Ending.returned (.bool a) = .returned (.bool b) := by rw [h]
theorem retI {k : IntKind} {a b : Int} (h : a = b) : Ending.returned (.int k a) = .returned (.int k b) := by rw [h]
set_option maxHeartbeats 1000000 in
theorem cdHasLine_low (i : Cd.In) (w : World) (h : i.op < 1) : Calls Tryd.prog 97 #[inV i] w fun e w' => e = .returned (.bool (Cd.hl i)) ∧ Below w.heap.size w w' := by
  have e : Hid (false = Cd.hl i) := by unfold Hid Cd.hl; rw [decide_eq_false (by omega : ¬ 1 ≤ i.op)]; rfl
  go_enter Tryd.func97, Tryd.ntmps97
  go_wp2_with fail
  go_ret
  exact ⟨retB e.out, by go_grown⟩
set_option maxHeartbeats 1000000 in
theorem cdHasLine_high (i : Cd.In) (w : World) (h : 25 < i.op) : Calls Tryd.prog 97 #[inV i] w fun e w' => e = .returned (.bool (Cd.hl i)) ∧ Below w.heap.size w w' := by
  have e : Hid (false = Cd.hl i) := by unfold Hid Cd.hl; rw [decide_eq_false (by omega : ¬ i.op ≤ 25)]; simp
  have h1 : ¬ i.op < 1 := by omega
  go_enter Tryd.func97, Tryd.ntmps97
  go_wp2_with fail
  go_ret
  exact ⟨retB e.out, by go_grown⟩
set_option maxHeartbeats 4000000 in
theorem cdHasLine_in (k : Nat) (n m : Int) (B : Nat) (w : World) (h1 : 1 ≤ k) (h2 : k ≤ 25) (hB : B ≤ w.heap.size) (ht : Tn B w) : Calls Tryd.prog 97 #[inV ⟨k, n, m⟩] w fun e w' => e = .returned (.bool (Cd.hl ⟨k, n, m⟩)) ∧ Below w.heap.size w w' := by
  have c := ht.get k (by omega)
  have gl : 0 < w.heap.size := Nat.lt_of_lt_of_le ht.lt hB
  have gz : ¬ 0 = w.heap.size := by omega
  have e : Cd.hl ⟨k, n, m⟩ = ((n == 0 || decide (0 < Cd.nm k)) && (m == 0 || decide (1 < Cd.nm k))) := by
    unfold Cd.hl
    dsimp only
    rw [decide_eq_true (by omega : (1 : Int) ≤ k), decide_eq_true (by omega : (k : Int) ≤ 25)]
    simp
  have hx : Cd.nm k = Cd.numsL.getD k 0 := by unfold Cd.nm; rw [Int.toNat_natCast]
  rw [hx] at e
  have hx3 : Cd.numsL.getD k 0 = 0 ∨ Cd.numsL.getD k 0 = 1 ∨ Cd.numsL.getD k 0 = 2 := by
    have : ∀ k : Nat, k < 26 → Cd.numsL.getD k 0 = 0 ∨ Cd.numsL.getD k 0 = 1 ∨ Cd.numsL.getD k 0 = 2 := by decide
    exact this k (by omega)
  generalize Cd.numsL.getD k 0 = x at c e hx3
  clear hx ht
  have g1 : ¬ (k : Int) < 1 := by omega
  have g2 : ¬ 25 < (k : Int) := by omega
  have g3 : (k : Int) < 26 := by omega
  have g4 : (0 : Int) ≤ (k : Int) := by omega
  rcases hx3 with rfl | rfl | rfl
  all_goals
    by_cases hn : n = 0
    all_goals
      by_cases hm : m = 0
      all_goals
        first | (have hnb : (n == 0) = true := by rw [hn]; rfl) | (have hnb : (n == 0) = false := by simpa using hn)
        first | (have hmb : (m == 0) = true := by rw [hm]; rfl) | (have hmb : (m == 0) = false := by simpa using hm)
        rw [hnb, hmb] at e
        have E : Hid (Cd.hl ⟨k, n, m⟩ = _) := e
        clear e hn hm
        go_enter Tryd.func97, Tryd.ntmps97
        go_wp2_with fail
        go_ret
        exact ⟨retB (E.out.trans (by decide)).symm, by go_grown⟩
/-- Whether a line says all that an instruction has. -/
theorem cdHasLine_any (i : Cd.In) (B : Nat) (w : World) (hB : B ≤ w.heap.size) (ht : Tn B w) : Calls Tryd.prog 97 #[inV i] w fun e w' => e = .returned (.bool (Cd.hl i)) ∧ Below w.heap.size w w' := by
  by_cases h1 : i.op < 1
  · exact cdHasLine_low i w h1
  · by_cases h2 : 25 < i.op
    · exact cdHasLine_high i w h2
    · obtain ⟨op, n, m⟩ := i
      obtain ⟨k, rfl⟩ : ∃ k : Nat, op = k := ⟨op.toNat, by dsimp only at h1; omega⟩
      dsimp only at h1 h2
      exact cdHasLine_in k n m B w (by omega) (by omega) hB ht
set_option maxHeartbeats 1000000 in
theorem cdBare_any (i : Cd.In) (w : World) : Calls Tryd.prog 101 #[inV i] w fun e w' => e = .returned (.bool (Cd.bare i)) ∧ Below w.heap.size w w' := by
  by_cases h1 : i.op = 20
  · have hb : (i.op == 20) = true := by rw [h1]; rfl
    have E : Hid (true = Cd.bare i) := by unfold Hid Cd.bare; rw [decide_eq_true h1]; rfl
    clear h1
    go_enter Tryd.func101, Tryd.ntmps101
    go_wp2_with fail
    go_ret
    exact ⟨retB E.out, by go_grown⟩
  · have hb : (i.op == 20) = false := by simpa using h1
    by_cases h2 : i.op = 24
    · have hc : (i.op == 24) = true := by rw [h2]; rfl
      have E : Hid (true = Cd.bare i) := by unfold Hid Cd.bare; rw [decide_eq_true h2]; simp
      clear h1 h2
      go_enter Tryd.func101, Tryd.ntmps101
      go_wp2_with fail
      go_ret
      exact ⟨retB E.out, by go_grown⟩
    · have hc : (i.op == 24) = false := by simpa using h2
      have E : Hid (false = Cd.bare i) := by unfold Hid Cd.bare; rw [decide_eq_false h1, decide_eq_false h2]; rfl
      clear h1 h2
      go_enter Tryd.func101, Tryd.ntmps101
      go_wp2_with fail
      go_ret
      exact ⟨retB E.out, by go_grown⟩
set_option maxHeartbeats 1000000 in
theorem cdAns_any (ia : Option Addr) (n ic : Nat) (cells params : Int) (b : Bool) (w : World) : Calls Tryd.prog 106 #[.agg #[.slice ia n ic, .int .i64 cells, .int .i64 params, .bool b]] w fun e w' => e = .returned (.int .i64 (if b then 1 else 0)) ∧ Below w.heap.size w w' := by
  cases b
  all_goals
    go_enter Tryd.func106, Tryd.ntmps106
    go_wp2_with fail
    go_ret
    exact ⟨rfl, by go_grown⟩
set_option maxHeartbeats 1000000 in
theorem cdBehind_any (i : Cd.In) (p : Nat) (hp : p ≤ 1000000) (hn : Cd.I6 i.n) (w : World) : Calls Tryd.prog 102 #[inV i, .int .i64 p] w fun e w' => e = .returned (.agg #[.int .i64 (Cd.n1 i p), .int .i64 (Cd.n2 i p)]) ∧ Below w.heap.size w w' := by
  have wn : wrap64 i.n = i.n := by unfold wrap64; unfold Cd.I6 at hn; omega
  have wp : wrap64 ((p : Int) + 1) = (p : Int) + 1 := by unfold wrap64; omega
  by_cases h1 : i.op = 17
  · have hb : (i.op == 17) = true := by rw [h1]; rfl
    have E : Hid (Cd.n1 i p = i.n ∧ Cd.n2 i p = i.n) := by unfold Hid Cd.n1 Cd.n2; rw [if_pos h1, if_pos (.inl h1)]; exact ⟨rfl, rfl⟩
    rw [E.out.1, E.out.2]
    clear h1
    go_enter Tryd.func102, Tryd.ntmps102
    go_wp2_with fail
    refine bodyPost_ret (v := .agg #[.int .i64 i.n, .int .i64 i.n]) (by simp [results, Tryd.results102, go_sem]) rfl ?_
    exact ⟨rfl, by go_grown⟩
  · have hb : (i.op == 17) = false := by simpa using h1
    by_cases h2 : i.op = 18
    · have hc : (i.op == 18) = true := by rw [h2]; rfl
      have E : Hid (Cd.n1 i p = p + 1 ∧ Cd.n2 i p = i.n) := by unfold Hid Cd.n1 Cd.n2; rw [if_neg h1, if_pos (.inr h2)]; exact ⟨rfl, rfl⟩
      rw [E.out.1, E.out.2]
      clear h1 h2
      go_enter Tryd.func102, Tryd.ntmps102
      go_wp2_with fail
      refine bodyPost_ret (v := .agg #[.int .i64 ((p : Int) + 1), .int .i64 i.n]) (by simp [results, Tryd.results102, go_sem]) rfl ?_
      exact ⟨rfl, by go_grown⟩
    · have hc : (i.op == 18) = false := by simpa using h2
      have E : Hid (Cd.n1 i p = p + 1 ∧ Cd.n2 i p = p + 1) := by unfold Hid Cd.n1 Cd.n2; rw [if_neg h1, if_neg (by omega)]; exact ⟨rfl, rfl⟩
      rw [E.out.1, E.out.2]
      clear h1 h2
      go_enter Tryd.func102, Tryd.ntmps102
      go_wp2_with fail
      refine bodyPost_ret (v := .agg #[.int .i64 ((p : Int) + 1), .int .i64 ((p : Int) + 1)]) (by simp [results, Tryd.results102, go_sem]) rfl ?_
      exact ⟨rfl, by go_grown⟩
end Go.Proofs.YtodpdnidinnjjaaDoor
