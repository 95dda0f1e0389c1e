/- SynDeep's texts, of the way number 2, reckoned by the kernel. -/
import Derived.Test.YtlhklpnkelcnbaaGreatDoorSyoKx
namespace Go.Proofs.YtlhklpnkelcnbaaGreatDoor
open Go.RowKit

theorem ck2_0 : (List.range' 0 3).all (chk 2) = true := by kernel_rfl
theorem ck2_1 : (List.range' 3 3).all (chk 2) = true := by kernel_rfl
theorem ck2_2 : (List.range' 6 3).all (chk 2) = true := by kernel_rfl
theorem ck2_3 : (List.range' 9 3).all (chk 2) = true := by kernel_rfl
theorem ck2_4 : (List.range' 12 3).all (chk 2) = true := by kernel_rfl
theorem ck2_5 : (List.range' 15 3).all (chk 2) = true := by kernel_rfl
theorem ck2_6 : (List.range' 18 3).all (chk 2) = true := by kernel_rfl
theorem ck2_7 : (List.range' 21 3).all (chk 2) = true := by kernel_rfl
theorem ck2_8 : (List.range' 24 3).all (chk 2) = true := by kernel_rfl
theorem ck2_9 : (List.range' 27 3).all (chk 2) = true := by kernel_rfl
theorem ck2_10 : (List.range' 30 3).all (chk 2) = true := by kernel_rfl
theorem ck2_11 : (List.range' 33 3).all (chk 2) = true := by kernel_rfl
theorem ck2_12 : (List.range' 36 3).all (chk 2) = true := by kernel_rfl
theorem ck2_13 : (List.range' 39 3).all (chk 2) = true := by kernel_rfl
theorem ck2_14 : (List.range' 42 3).all (chk 2) = true := by kernel_rfl
theorem ck2_15 : (List.range' 45 3).all (chk 2) = true := by kernel_rfl
theorem ck2_16 : (List.range' 48 3).all (chk 2) = true := by kernel_rfl
theorem ck2_17 : (List.range' 51 3).all (chk 2) = true := by kernel_rfl
theorem ck2_18 : (List.range' 54 3).all (chk 2) = true := by kernel_rfl
theorem ck2_19 : (List.range' 57 3).all (chk 2) = true := by kernel_rfl
theorem ck2_20 : (List.range' 60 3).all (chk 2) = true := by kernel_rfl
theorem ck2_21 : (List.range' 63 3).all (chk 2) = true := by kernel_rfl
theorem ck2_22 : (List.range' 66 3).all (chk 2) = true := by kernel_rfl
theorem ck2_23 : (List.range' 69 3).all (chk 2) = true := by kernel_rfl
theorem ck2_24 : (List.range' 72 3).all (chk 2) = true := by kernel_rfl
theorem ck2_25 : (List.range' 75 3).all (chk 2) = true := by kernel_rfl
theorem ck2_26 : (List.range' 78 3).all (chk 2) = true := by kernel_rfl
theorem ck2_27 : (List.range' 81 3).all (chk 2) = true := by kernel_rfl
theorem ck2_28 : (List.range' 84 3).all (chk 2) = true := by kernel_rfl
theorem ck2_29 : (List.range' 87 3).all (chk 2) = true := by kernel_rfl
theorem ck2 : ∀ n, n < 90 → chk 2 n = true := (ck_ext (k := 87) (ck_ext (k := 84) (ck_ext (k := 81) (ck_ext (k := 78) (ck_ext (k := 75) (ck_ext (k := 72) (ck_ext (k := 69) (ck_ext (k := 66) (ck_ext (k := 63) (ck_ext (k := 60) (ck_ext (k := 57) (ck_ext (k := 54) (ck_ext (k := 51) (ck_ext (k := 48) (ck_ext (k := 45) (ck_ext (k := 42) (ck_ext (k := 39) (ck_ext (k := 36) (ck_ext (k := 33) (ck_ext (k := 30) (ck_ext (k := 27) (ck_ext (k := 24) (ck_ext (k := 21) (ck_ext (k := 18) (ck_ext (k := 15) (ck_ext (k := 12) (ck_ext (k := 9) (ck_ext (k := 6) (ck_ext (k := 3) (ck_ext (k := 0) (fun n hn => absurd hn (Nat.not_lt_zero n)) ck2_0) ck2_1) ck2_2) ck2_3) ck2_4) ck2_5) ck2_6) ck2_7) ck2_8) ck2_9) ck2_10) ck2_11) ck2_12) ck2_13) ck2_14) ck2_15) ck2_16) ck2_17) ck2_18) ck2_19) ck2_20) ck2_21) ck2_22) ck2_23) ck2_24) ck2_25) ck2_26) ck2_27) ck2_28) ck2_29)
end Go.Proofs.YtlhklpnkelcnbaaGreatDoor
