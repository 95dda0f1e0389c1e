/- Layer 4: CheckCounts: the programs that are made. -/
import Derived.Test.YtoclmklfohimmaaZCkCa
namespace Go.Proofs.Ytoclmklfohimmaa
open Go.RowKit

def cnMain : Sy.Pc := ⟨[109, 97, 105, 110], [], 0, []⟩
def cnF0 (n : Nat) : List Sy.Pc := cnMain :: (List.range (n - 1)).map fun i => ⟨cnNm (i + 1), [], 0, []⟩
def cnF1 (n : Nat) : List Sy.Pc := [cnMain, ⟨[102], (List.range n).map fun i => ⟨cnNm i, 1⟩, 0, []⟩]
def cnF2 (n : Nat) : List Sy.Pc := [⟨[109, 97, 105, 110], [], 0, (List.range n).map fun i => .mk 1 (cnNm i) [] 0 [] [] []⟩]
def cnF3 (n : Nat) : List Sy.Pc := [⟨[109, 97, 105, 110], [], 0, [.mk 1 [97] [] (n : Int) [] [] []]⟩]
def cnOk (n k : Nat) : Option Int := if n ≤ k then none else some 2
theorem cnC0 : (List.range 70).all (fun n => decide ((ckPg (cnF0 n)).1 = cnOk n 40)) = true := by kernel_rfl
theorem cnC1 : (List.range 70).all (fun n => decide ((ckPg (cnF1 n)).1 = cnOk n 8)) = true := by kernel_rfl
theorem cnC2 : (List.range 70).all (fun n => decide ((ckPg (cnF2 n)).1 = cnOk n 60)) = true := by kernel_rfl
theorem cnC3 : (List.range 70).all (fun n => decide ((ckPg (cnF3 n)).1 = cnOk n 64)) = true := by kernel_rfl
theorem cn_of0 (n : Nat) (h : n < 70) : (ckPg (cnF0 n)).1 = cnOk n 40 := of_decide_eq_true (List.all_eq_true.1 cnC0 n (List.mem_range.2 h))
theorem cn_of1 (n : Nat) (h : n < 70) : (ckPg (cnF1 n)).1 = cnOk n 8 := of_decide_eq_true (List.all_eq_true.1 cnC1 n (List.mem_range.2 h))
theorem cn_of2 (n : Nat) (h : n < 70) : (ckPg (cnF2 n)).1 = cnOk n 60 := of_decide_eq_true (List.all_eq_true.1 cnC2 n (List.mem_range.2 h))
theorem cn_of3 (n : Nat) (h : n < 70) : (ckPg (cnF3 n)).1 = cnOk n 64 := of_decide_eq_true (List.all_eq_true.1 cnC3 n (List.mem_range.2 h))
theorem cn_ln0 (n : Nat) (h : n < 70) : (cnF0 n).length ≤ 1000000 := by simp [cnF0]; omega
theorem cn_ln1 (n : Nat) (_ : n < 70) : (cnF1 n).length ≤ 1000000 := by simp [cnF1]
theorem cn_ln2 (n : Nat) (_ : n < 70) : (cnF2 n).length ≤ 1000000 := by simp [cnF2]
theorem cn_ln3 (n : Nat) (_ : n < 70) : (cnF3 n).length ≤ 1000000 := by simp [cnF3]
theorem cn_nm (i : Nat) (h : i ≤ 70) : (cnNm i).length ≤ 20000 := by have := cn_len i h; simp [cnNm]; omega
theorem cn_bd0 (n : Nat) (_ : n < 70) : ∀ x, x ∈ cnF0 n → PcB x := by
  intro x hx
  rcases List.mem_cons.1 hx with rfl | hx
  · exact ⟨by decide, fun s hs => by cases hs⟩
  · obtain ⟨i, _, rfl⟩ := List.mem_map.1 hx
    exact ⟨by simp [Sy.cts], fun s hs => by cases hs⟩
theorem cn_bd1 (n : Nat) (h : n < 70) : ∀ x, x ∈ cnF1 n → PcB x := by
  intro x hx
  rcases List.mem_cons.1 hx with rfl | hx
  · exact ⟨by decide, fun s hs => by cases hs⟩
  · rw [List.mem_singleton.1 hx]
    exact ⟨by simp [Sy.cts]; omega, fun s hs => by cases hs⟩
theorem cn_cts (n : Nat) (f : Nat → List UInt8) : Sy.cts ((List.range n).map fun i => (.mk 1 (f i) [] 0 [] [] [] : Sy.St)) = n := by
  induction n with
  | zero => rfl
  | succ n ih => rw [List.range_succ, List.map_append, Sy.cts_app, ih]; rfl
theorem cn_bd2 (n : Nat) (h : n < 70) : ∀ x, x ∈ cnF2 n → PcB x := by
  intro x hx
  rw [List.mem_singleton.1 hx]
  refine ⟨?_, fun s hs => ?_⟩
  · show ([] : List Sy.Pa).length + Sy.cts _ ≤ 1000000
    rw [cn_cts]
    simp
    omega
  · obtain ⟨i, hi, rfl⟩ := List.mem_map.1 hs
    exact .mk _ _ _ _ _ _ _ (cn_nm i (by have := List.mem_range.1 hi; omega)) (by decide) (by decide) (fun x hx => by cases hx) (by decide) (by decide) (fun x hx => by cases hx) (fun x hx => by cases hx)
theorem cn_bd3 (n : Nat) (_ : n < 70) : ∀ x, x ∈ cnF3 n → PcB x := by
  intro x hx
  rw [List.mem_singleton.1 hx]
  refine ⟨by simp [Sy.cts, Sy.ct], fun s hs => ?_⟩
  rw [List.mem_singleton.1 hs]
  exact .mk _ _ _ _ _ _ _ (by decide) (by decide) (by decide) (fun x hx => by cases hx) (by decide) (by decide) (fun x hx => by cases hx) (fun x hx => by cases hx)
end Go.Proofs.Ytoclmklfohimmaa
