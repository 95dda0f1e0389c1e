/- Layer 8: the lines of a code (the program's Print), for every code of at most 500 instructions. -/
import Derived.Test.YtodpdnidinnjjaaDoorUCdT
import Derived.Shelf.Small.Wraps
import Derived.Shelf.Strings.Prefix
import Derived.Test.YtodpdnidinnjjaaDoorProg
import Derived.Shelf.Strings.Builder1
import Derived.RowKit
import Derived.KernelRfl
import Derived.Test.YtodpdnidinnjjaaDoorUCdG
namespace Go.Proofs.YtodpdnidinnjjaaDoor
open Go.RowKit
set_option linter.unusedVariables false
set_option linter.unusedSimpArgs false

namespace Cd
/-- The line of an instruction at a place; the lines of instructions from a place on. -/
def lt (i : In) : List UInt8 := if hl i = true then tx i else [63]
def ln (k : Nat) (i : In) : List UInt8 := Lib.itoa k ++ 32 :: lt i ++ [10]
def pr : Nat → List In → List UInt8
  | _, [] => []
  | k, i :: r => ln k i ++ pr (k + 1) r
theorem pr_app : ∀ (a b : List In) (k : Nat), pr k (a ++ b) = pr k a ++ pr (k + a.length) b
  | [], b, k => by simp [pr]
  | i :: r, b, k => by
    rw [List.cons_append, pr, pr, pr_app r b, List.append_assoc, List.length_cons]
    congr 3
    omega
theorem pr_take {l : List In} {j : Nat} {i : In} (e : l[j]? = some i) : pr 0 (l.take (j + 1)) = pr 0 (l.take j) ++ ln j i := by
  have hj : j < l.length := (List.getElem?_eq_some_iff.1 e).1
  rw [List.take_add_one, e, pr_app]
  have : (l.take j).length = j := by simp; omega
  rw [this]
  simp [pr]
theorem tx_len {i : In} (h : hl i = true) (ok : i.Ok) : (tx i).length ≤ 100 := by
  obtain ⟨h0, h1, -, -⟩ := hl_op h
  have a : (wd i.op).length ≤ 30 := word_len i.op.toNat (by omega)
  have b := Pl.itoa_len i.n ok.2.1.1 ok.2.1.2
  have c := Pl.itoa_len i.m ok.2.2.1 ok.2.2.2
  unfold tx lw
  rcases nm_is i.op with e | e | e <;> rw [e]
  · show (Lib.join [wd i.op] [32]).length ≤ 100
    simp [Lib.join]; omega
  · show (Lib.join [wd i.op, Lib.itoa i.n] [32]).length ≤ 100
    rw [Pl.join_cons2]; simp [Lib.join]; omega
  · show (Lib.join [wd i.op, Lib.itoa i.n, Lib.itoa i.m] [32]).length ≤ 100
    rw [Pl.join_cons2, Pl.join_cons2]; simp [Lib.join]; omega
theorem lt_len {i : In} (ok : i.Ok) : (lt i).length ≤ 100 := by
  unfold lt
  split
  · rename_i h; exact tx_len h ok
  · simp
theorem ln_len {i : In} (k : Nat) (hk : k ≤ 1000000) (ok : i.Ok) : (ln k i).length ≤ 200 := by
  have := lt_len ok
  have := Pl.itoa_len (k : Int) (by omega) (by omega)
  unfold ln
  simp
  omega
theorem pr_len : ∀ (l : List In) (k : Nat), k + l.length ≤ 1000000 → (∀ i, i ∈ l → i.Ok) → (pr k l).length ≤ 200 * l.length
  | [], k, _, _ => by simp [pr]
  | i :: r, k, h, ok => by
    have a := ln_len k (by simp at h; omega) (ok i (List.mem_cons_self ..))
    have b := pr_len r (k + 1) (by simp at h; omega) (fun x hx => ok x (List.mem_cons_of_mem _ hx))
    rw [pr, List.length_append, List.length_cons]
    omega
end Cd
abbrev bE : TypeId := 5
/-- The box of a code that was handed over. -/
abbrev coB (ia : Option Addr) (il ic : Nat) (c : Cd.Co) : Obj := .cells #[.slice ia il ic, .int .i64 c.cells, .int .i64 c.params, .bool c.ans] 53
abbrev coV (ia : Option Addr) (ic : Nat) (c : Cd.Co) : Value := .agg #[.slice ia c.ins.length ic, .int .i64 c.cells, .int .i64 c.params, .bool c.ans]
end Go.Proofs.YtodpdnidinnjjaaDoor
