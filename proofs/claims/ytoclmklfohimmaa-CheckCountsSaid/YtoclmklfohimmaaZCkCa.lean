/- Layer 4: CheckCounts: names; the programs that are made. -/
import Derived.Test.YtoclmklfohimmaaZCkZo
import Derived.Test.YtoclmklfohimmaaZGrN
namespace Go.Proofs.Ytoclmklfohimmaa
open Go.RowKit

def cnNm (i : Nat) : List UInt8 := 118 :: Lib.itoa (i : Int)
theorem cn_str (l : List UInt8) : (⟨#[118]⟩ : ByteArray) ++ ⟨l.toArray⟩ = ⟨(118 :: l).toArray⟩ := by
  apply ByteArray.ext
  rw [ByteArray.data_append]
  simp
theorem cn_all : (List.range 71).all (fun i => decide ((Lib.itoa (i : Int)).length ≤ 21)) = true := by kernel_rfl
theorem cn_len (i : Nat) (h : i ≤ 70) : (Lib.itoa (i : Int)).length ≤ 21 := of_decide_eq_true (List.all_eq_true.1 cn_all i (List.mem_range.2 (by omega)))
set_option maxRecDepth 100000 in
set_option maxHeartbeats 1000000 in
theorem cnName_any (i : Nat) (hi : i ≤ 70) (w : World) : Calls Try.prog 19 #[.int .i64 (i : Int)] w fun e w' => e = .returned (.string ⟨(cnNm i).toArray⟩) ∧ Below w.heap.size w w' := by
  have ET : Hid (Calls Try.prog 31 #[.int .i64 (i : Int)] w fun e w' => e = .returned (.string ⟨(Lib.itoa (i : Int)).toArray⟩) ∧ Below w.heap.size w w') := rtext_any (i : Int) w (by omega) (by omega)
  have hl := cn_len i hi
  have hn : ¬ 9223372036854775807 < 1 + (Lib.itoa (i : Int)).length := by omega
  have hs := cn_str (Lib.itoa (i : Int))
  unfold cnNm
  generalize Lib.itoa (i : Int) = l at *
  clear hi hl
  go_enter Try.func19, Try.ntmps19
  go_wp2_with fail
  refine Calls.mono ET.out ?_
  rintro e1 w1 ⟨rfl, b1⟩
  go_wp2_with fail
  go_ret
  exact ⟨rfl, b1⟩
end Go.Proofs.Ytoclmklfohimmaa
