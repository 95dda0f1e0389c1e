/- SynDeep's texts, of the way number 4, reckoned by the kernel. -/
import Derived.Test.YtlhklpnkelcnbaaGreatDoorSyoKx
namespace Go.Proofs.YtlhklpnkelcnbaaGreatDoor
open Go.RowKit

theorem ck4_0 : (List.range' 0 3).all (chk 4) = true := by kernel_rfl
theorem ck4_1 : (List.range' 3 3).all (chk 4) = true := by kernel_rfl
theorem ck4_2 : (List.range' 6 3).all (chk 4) = true := by kernel_rfl
theorem ck4_3 : (List.range' 9 3).all (chk 4) = true := by kernel_rfl
theorem ck4_4 : (List.range' 12 3).all (chk 4) = true := by kernel_rfl
theorem ck4_5 : (List.range' 15 3).all (chk 4) = true := by kernel_rfl
theorem ck4_6 : (List.range' 18 3).all (chk 4) = true := by kernel_rfl
theorem ck4_7 : (List.range' 21 3).all (chk 4) = true := by kernel_rfl
theorem ck4_8 : (List.range' 24 3).all (chk 4) = true := by kernel_rfl
theorem ck4_9 : (List.range' 27 3).all (chk 4) = true := by kernel_rfl
theorem ck4_10 : (List.range' 30 3).all (chk 4) = true := by kernel_rfl
theorem ck4_11 : (List.range' 33 3).all (chk 4) = true := by kernel_rfl
theorem ck4_12 : (List.range' 36 3).all (chk 4) = true := by kernel_rfl
theorem ck4_13 : (List.range' 39 3).all (chk 4) = true := by kernel_rfl
theorem ck4_14 : (List.range' 42 3).all (chk 4) = true := by kernel_rfl
theorem ck4_15 : (List.range' 45 3).all (chk 4) = true := by kernel_rfl
theorem ck4_16 : (List.range' 48 3).all (chk 4) = true := by kernel_rfl
theorem ck4_17 : (List.range' 51 3).all (chk 4) = true := by kernel_rfl
theorem ck4_18 : (List.range' 54 3).all (chk 4) = true := by kernel_rfl
theorem ck4_19 : (List.range' 57 3).all (chk 4) = true := by kernel_rfl
theorem ck4_20 : (List.range' 60 3).all (chk 4) = true := by kernel_rfl
theorem ck4_21 : (List.range' 63 3).all (chk 4) = true := by kernel_rfl
theorem ck4_22 : (List.range' 66 3).all (chk 4) = true := by kernel_rfl
theorem ck4_23 : (List.range' 69 3).all (chk 4) = true := by kernel_rfl
theorem ck4_24 : (List.range' 72 3).all (chk 4) = true := by kernel_rfl
theorem ck4_25 : (List.range' 75 3).all (chk 4) = true := by kernel_rfl
theorem ck4_26 : (List.range' 78 3).all (chk 4) = true := by kernel_rfl
theorem ck4_27 : (List.range' 81 3).all (chk 4) = true := by kernel_rfl
theorem ck4_28 : (List.range' 84 3).all (chk 4) = true := by kernel_rfl
theorem ck4_29 : (List.range' 87 3).all (chk 4) = true := by kernel_rfl
theorem ck4 : ∀ n, n < 90 → chk 4 n = true := (ck_ext (k := 87) (ck_ext (k := 84) (ck_ext (k := 81) (ck_ext (k := 78) (ck_ext (k := 75) (ck_ext (k := 72) (ck_ext (k := 69) (ck_ext (k := 66) (ck_ext (k := 63) (ck_ext (k := 60) (ck_ext (k := 57) (ck_ext (k := 54) (ck_ext (k := 51) (ck_ext (k := 48) (ck_ext (k := 45) (ck_ext (k := 42) (ck_ext (k := 39) (ck_ext (k := 36) (ck_ext (k := 33) (ck_ext (k := 30) (ck_ext (k := 27) (ck_ext (k := 24) (ck_ext (k := 21) (ck_ext (k := 18) (ck_ext (k := 15) (ck_ext (k := 12) (ck_ext (k := 9) (ck_ext (k := 6) (ck_ext (k := 3) (ck_ext (k := 0) (fun n hn => absurd hn (Nat.not_lt_zero n)) ck4_0) ck4_1) ck4_2) ck4_3) ck4_4) ck4_5) ck4_6) ck4_7) ck4_8) ck4_9) ck4_10) ck4_11) ck4_12) ck4_13) ck4_14) ck4_15) ck4_16) ck4_17) ck4_18) ck4_19) ck4_20) ck4_21) ck4_22) ck4_23) ck4_24) ck4_25) ck4_26) ck4_27) ck4_28) ck4_29)
end Go.Proofs.YtlhklpnkelcnbaaGreatDoor
