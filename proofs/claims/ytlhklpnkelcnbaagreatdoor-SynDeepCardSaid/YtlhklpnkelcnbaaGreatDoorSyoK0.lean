/- SynDeep's texts, of the way number 0, reckoned by the kernel. -/
import Derived.Test.YtlhklpnkelcnbaaGreatDoorSyoKx
namespace Go.Proofs.YtlhklpnkelcnbaaGreatDoor
open Go.RowKit

theorem ck0_0 : (List.range' 0 3).all (chk 0) = true := by kernel_rfl
theorem ck0_1 : (List.range' 3 3).all (chk 0) = true := by kernel_rfl
theorem ck0_2 : (List.range' 6 3).all (chk 0) = true := by kernel_rfl
theorem ck0_3 : (List.range' 9 3).all (chk 0) = true := by kernel_rfl
theorem ck0_4 : (List.range' 12 3).all (chk 0) = true := by kernel_rfl
theorem ck0_5 : (List.range' 15 3).all (chk 0) = true := by kernel_rfl
theorem ck0_6 : (List.range' 18 3).all (chk 0) = true := by kernel_rfl
theorem ck0_7 : (List.range' 21 3).all (chk 0) = true := by kernel_rfl
theorem ck0_8 : (List.range' 24 3).all (chk 0) = true := by kernel_rfl
theorem ck0_9 : (List.range' 27 3).all (chk 0) = true := by kernel_rfl
theorem ck0_10 : (List.range' 30 3).all (chk 0) = true := by kernel_rfl
theorem ck0_11 : (List.range' 33 3).all (chk 0) = true := by kernel_rfl
theorem ck0_12 : (List.range' 36 3).all (chk 0) = true := by kernel_rfl
theorem ck0_13 : (List.range' 39 3).all (chk 0) = true := by kernel_rfl
theorem ck0_14 : (List.range' 42 3).all (chk 0) = true := by kernel_rfl
theorem ck0_15 : (List.range' 45 3).all (chk 0) = true := by kernel_rfl
theorem ck0_16 : (List.range' 48 3).all (chk 0) = true := by kernel_rfl
theorem ck0_17 : (List.range' 51 3).all (chk 0) = true := by kernel_rfl
theorem ck0_18 : (List.range' 54 3).all (chk 0) = true := by kernel_rfl
theorem ck0_19 : (List.range' 57 3).all (chk 0) = true := by kernel_rfl
theorem ck0_20 : (List.range' 60 3).all (chk 0) = true := by kernel_rfl
theorem ck0_21 : (List.range' 63 3).all (chk 0) = true := by kernel_rfl
theorem ck0_22 : (List.range' 66 3).all (chk 0) = true := by kernel_rfl
theorem ck0_23 : (List.range' 69 3).all (chk 0) = true := by kernel_rfl
theorem ck0_24 : (List.range' 72 3).all (chk 0) = true := by kernel_rfl
theorem ck0_25 : (List.range' 75 3).all (chk 0) = true := by kernel_rfl
theorem ck0_26 : (List.range' 78 3).all (chk 0) = true := by kernel_rfl
theorem ck0_27 : (List.range' 81 3).all (chk 0) = true := by kernel_rfl
theorem ck0_28 : (List.range' 84 3).all (chk 0) = true := by kernel_rfl
theorem ck0_29 : (List.range' 87 3).all (chk 0) = true := by kernel_rfl
theorem ck0 : ∀ n, n < 90 → chk 0 n = true := (ck_ext (k := 87) (ck_ext (k := 84) (ck_ext (k := 81) (ck_ext (k := 78) (ck_ext (k := 75) (ck_ext (k := 72) (ck_ext (k := 69) (ck_ext (k := 66) (ck_ext (k := 63) (ck_ext (k := 60) (ck_ext (k := 57) (ck_ext (k := 54) (ck_ext (k := 51) (ck_ext (k := 48) (ck_ext (k := 45) (ck_ext (k := 42) (ck_ext (k := 39) (ck_ext (k := 36) (ck_ext (k := 33) (ck_ext (k := 30) (ck_ext (k := 27) (ck_ext (k := 24) (ck_ext (k := 21) (ck_ext (k := 18) (ck_ext (k := 15) (ck_ext (k := 12) (ck_ext (k := 9) (ck_ext (k := 6) (ck_ext (k := 3) (ck_ext (k := 0) (fun n hn => absurd hn (Nat.not_lt_zero n)) ck0_0) ck0_1) ck0_2) ck0_3) ck0_4) ck0_5) ck0_6) ck0_7) ck0_8) ck0_9) ck0_10) ck0_11) ck0_12) ck0_13) ck0_14) ck0_15) ck0_16) ck0_17) ck0_18) ck0_19) ck0_20) ck0_21) ck0_22) ck0_23) ck0_24) ck0_25) ck0_26) ck0_27) ck0_28) ck0_29)
end Go.Proofs.YtlhklpnkelcnbaaGreatDoor
