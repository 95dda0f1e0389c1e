/- SynDeep's texts, of the way number 1, reckoned by the kernel. -/
import Derived.Test.YtlhklpnkelcnbaaGreatDoorSyoKx
namespace Go.Proofs.YtlhklpnkelcnbaaGreatDoor
open Go.RowKit

theorem ck1_0 : (List.range' 0 3).all (chk 1) = true := by kernel_rfl
theorem ck1_1 : (List.range' 3 3).all (chk 1) = true := by kernel_rfl
theorem ck1_2 : (List.range' 6 3).all (chk 1) = true := by kernel_rfl
theorem ck1_3 : (List.range' 9 3).all (chk 1) = true := by kernel_rfl
theorem ck1_4 : (List.range' 12 3).all (chk 1) = true := by kernel_rfl
theorem ck1_5 : (List.range' 15 3).all (chk 1) = true := by kernel_rfl
theorem ck1_6 : (List.range' 18 3).all (chk 1) = true := by kernel_rfl
theorem ck1_7 : (List.range' 21 3).all (chk 1) = true := by kernel_rfl
theorem ck1_8 : (List.range' 24 3).all (chk 1) = true := by kernel_rfl
theorem ck1_9 : (List.range' 27 3).all (chk 1) = true := by kernel_rfl
theorem ck1_10 : (List.range' 30 3).all (chk 1) = true := by kernel_rfl
theorem ck1_11 : (List.range' 33 3).all (chk 1) = true := by kernel_rfl
theorem ck1_12 : (List.range' 36 3).all (chk 1) = true := by kernel_rfl
theorem ck1_13 : (List.range' 39 3).all (chk 1) = true := by kernel_rfl
theorem ck1_14 : (List.range' 42 3).all (chk 1) = true := by kernel_rfl
theorem ck1_15 : (List.range' 45 3).all (chk 1) = true := by kernel_rfl
theorem ck1_16 : (List.range' 48 3).all (chk 1) = true := by kernel_rfl
theorem ck1_17 : (List.range' 51 3).all (chk 1) = true := by kernel_rfl
theorem ck1_18 : (List.range' 54 3).all (chk 1) = true := by kernel_rfl
theorem ck1_19 : (List.range' 57 3).all (chk 1) = true := by kernel_rfl
theorem ck1_20 : (List.range' 60 3).all (chk 1) = true := by kernel_rfl
theorem ck1_21 : (List.range' 63 3).all (chk 1) = true := by kernel_rfl
theorem ck1_22 : (List.range' 66 3).all (chk 1) = true := by kernel_rfl
theorem ck1_23 : (List.range' 69 3).all (chk 1) = true := by kernel_rfl
theorem ck1_24 : (List.range' 72 3).all (chk 1) = true := by kernel_rfl
theorem ck1_25 : (List.range' 75 3).all (chk 1) = true := by kernel_rfl
theorem ck1_26 : (List.range' 78 3).all (chk 1) = true := by kernel_rfl
theorem ck1_27 : (List.range' 81 3).all (chk 1) = true := by kernel_rfl
theorem ck1_28 : (List.range' 84 3).all (chk 1) = true := by kernel_rfl
theorem ck1_29 : (List.range' 87 3).all (chk 1) = true := by kernel_rfl
theorem ck1 : ∀ n, n < 90 → chk 1 n = true := (ck_ext (k := 87) (ck_ext (k := 84) (ck_ext (k := 81) (ck_ext (k := 78) (ck_ext (k := 75) (ck_ext (k := 72) (ck_ext (k := 69) (ck_ext (k := 66) (ck_ext (k := 63) (ck_ext (k := 60) (ck_ext (k := 57) (ck_ext (k := 54) (ck_ext (k := 51) (ck_ext (k := 48) (ck_ext (k := 45) (ck_ext (k := 42) (ck_ext (k := 39) (ck_ext (k := 36) (ck_ext (k := 33) (ck_ext (k := 30) (ck_ext (k := 27) (ck_ext (k := 24) (ck_ext (k := 21) (ck_ext (k := 18) (ck_ext (k := 15) (ck_ext (k := 12) (ck_ext (k := 9) (ck_ext (k := 6) (ck_ext (k := 3) (ck_ext (k := 0) (fun n hn => absurd hn (Nat.not_lt_zero n)) ck1_0) ck1_1) ck1_2) ck1_3) ck1_4) ck1_5) ck1_6) ck1_7) ck1_8) ck1_9) ck1_10) ck1_11) ck1_12) ck1_13) ck1_14) ck1_15) ck1_16) ck1_17) ck1_18) ck1_19) ck1_20) ck1_21) ck1_22) ck1_23) ck1_24) ck1_25) ck1_26) ck1_27) ck1_28) ck1_29)
end Go.Proofs.YtlhklpnkelcnbaaGreatDoor
