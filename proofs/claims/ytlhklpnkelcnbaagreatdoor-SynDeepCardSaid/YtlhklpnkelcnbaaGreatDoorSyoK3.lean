/- SynDeep's texts, of the way number 3, reckoned by the kernel. -/
import Derived.Test.YtlhklpnkelcnbaaGreatDoorSyoKx
namespace Go.Proofs.YtlhklpnkelcnbaaGreatDoor
open Go.RowKit

theorem ck3_0 : (List.range' 0 3).all (chk 3) = true := by kernel_rfl
theorem ck3_1 : (List.range' 3 3).all (chk 3) = true := by kernel_rfl
theorem ck3_2 : (List.range' 6 3).all (chk 3) = true := by kernel_rfl
theorem ck3_3 : (List.range' 9 3).all (chk 3) = true := by kernel_rfl
theorem ck3_4 : (List.range' 12 3).all (chk 3) = true := by kernel_rfl
theorem ck3_5 : (List.range' 15 3).all (chk 3) = true := by kernel_rfl
theorem ck3_6 : (List.range' 18 3).all (chk 3) = true := by kernel_rfl
theorem ck3_7 : (List.range' 21 3).all (chk 3) = true := by kernel_rfl
theorem ck3_8 : (List.range' 24 3).all (chk 3) = true := by kernel_rfl
theorem ck3_9 : (List.range' 27 3).all (chk 3) = true := by kernel_rfl
theorem ck3_10 : (List.range' 30 3).all (chk 3) = true := by kernel_rfl
theorem ck3_11 : (List.range' 33 3).all (chk 3) = true := by kernel_rfl
theorem ck3_12 : (List.range' 36 3).all (chk 3) = true := by kernel_rfl
theorem ck3_13 : (List.range' 39 3).all (chk 3) = true := by kernel_rfl
theorem ck3_14 : (List.range' 42 3).all (chk 3) = true := by kernel_rfl
theorem ck3_15 : (List.range' 45 3).all (chk 3) = true := by kernel_rfl
theorem ck3_16 : (List.range' 48 3).all (chk 3) = true := by kernel_rfl
theorem ck3_17 : (List.range' 51 3).all (chk 3) = true := by kernel_rfl
theorem ck3_18 : (List.range' 54 3).all (chk 3) = true := by kernel_rfl
theorem ck3_19 : (List.range' 57 3).all (chk 3) = true := by kernel_rfl
theorem ck3_20 : (List.range' 60 3).all (chk 3) = true := by kernel_rfl
theorem ck3_21 : (List.range' 63 3).all (chk 3) = true := by kernel_rfl
theorem ck3_22 : (List.range' 66 3).all (chk 3) = true := by kernel_rfl
theorem ck3_23 : (List.range' 69 3).all (chk 3) = true := by kernel_rfl
theorem ck3_24 : (List.range' 72 3).all (chk 3) = true := by kernel_rfl
theorem ck3_25 : (List.range' 75 3).all (chk 3) = true := by kernel_rfl
theorem ck3_26 : (List.range' 78 3).all (chk 3) = true := by kernel_rfl
theorem ck3_27 : (List.range' 81 3).all (chk 3) = true := by kernel_rfl
theorem ck3_28 : (List.range' 84 3).all (chk 3) = true := by kernel_rfl
theorem ck3_29 : (List.range' 87 3).all (chk 3) = true := by kernel_rfl
theorem ck3 : ∀ n, n < 90 → chk 3 n = true := (ck_ext (k := 87) (ck_ext (k := 84) (ck_ext (k := 81) (ck_ext (k := 78) (ck_ext (k := 75) (ck_ext (k := 72) (ck_ext (k := 69) (ck_ext (k := 66) (ck_ext (k := 63) (ck_ext (k := 60) (ck_ext (k := 57) (ck_ext (k := 54) (ck_ext (k := 51) (ck_ext (k := 48) (ck_ext (k := 45) (ck_ext (k := 42) (ck_ext (k := 39) (ck_ext (k := 36) (ck_ext (k := 33) (ck_ext (k := 30) (ck_ext (k := 27) (ck_ext (k := 24) (ck_ext (k := 21) (ck_ext (k := 18) (ck_ext (k := 15) (ck_ext (k := 12) (ck_ext (k := 9) (ck_ext (k := 6) (ck_ext (k := 3) (ck_ext (k := 0) (fun n hn => absurd hn (Nat.not_lt_zero n)) ck3_0) ck3_1) ck3_2) ck3_3) ck3_4) ck3_5) ck3_6) ck3_7) ck3_8) ck3_9) ck3_10) ck3_11) ck3_12) ck3_13) ck3_14) ck3_15) ck3_16) ck3_17) ck3_18) ck3_19) ck3_20) ck3_21) ck3_22) ck3_23) ck3_24) ck3_25) ck3_26) ck3_27) ck3_28) ck3_29)
end Go.Proofs.YtlhklpnkelcnbaaGreatDoor
