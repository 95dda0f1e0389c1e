/- The statements' own fixed calls (known) come out true wherever the table of powers of ten is as the library lays it. -/
import Derived.Test.YthglhcabdadlpaaDoorBase
import Derived.Lib.AppendIntMem
namespace Go.Proofs.YthglhcabdadlpaaDoor
open Go.RowKit

/-- The library's table of powers of ten lies as its text lays it. -/
def Tab (w : World) : Prop := Lib.TabIs Tryd.prog w "internal/strconv.uint64pow10" .u64 Lib.pow10Tab ∧ 0 < w.heap.size
theorem gPow : Tryd.prog.globalNamed "internal/strconv.uint64pow10" = some 0 := by kernel_rfl
theorem Tab.later {B : Nat} {w w' : World} (h : Tab w) (hb : Below B w w') (hB : w.heap.size ≤ B) : Tab w' :=
  ⟨var?_below hb gPow (Nat.lt_of_lt_of_le h.2 hB) h.1, Nat.lt_of_lt_of_le h.2 hb.size⟩

theorem format_any (n : Int) (w : World) (ht : Tab w) (h0 : -9223372036854775808 ≤ n) (h1 : n ≤ 9223372036854775807) :
    Calls Tryd.prog 47 #[.int .i64 n, .int .i64 10] w fun e w' => e = .returned (.string ⟨(Lib.itoa n).toArray⟩) ∧ Below w.heap.size w w' := by
  refine (Tryd.strconv_FormatInt_10 n h0 h1 w ht.1).mono ?_
  rintro e w' ⟨rfl, k, os, rfl⟩
  exact ⟨rfl, Lib.below_grow _ _ (Nat.le_refl _) _ _⟩

set_option maxHeartbeats 400000 in
theorem text_any (n : Int) (w : World) (ht : Tab w) (h0 : -9223372036854775808 ≤ n) (h1 : n ≤ 9223372036854775807) :
    Calls Tryd.prog 34 #[.int .i64 n] w fun e w' => e = .returned (.string ⟨(Lib.itoa n).toArray⟩) ∧ Below w.heap.size w w' := by
  have HT : Hid (Tab w) := ht
  clear ht
  go_enter Tryd.func34, Tryd.ntmps34
  go_wp2_with fail
  refine (format_any n w HT.out h0 h1).mono ?_
  rintro e w' ⟨rfl, hb⟩
  go_wp2
  go_ret
  exact ⟨rfl, hb⟩

theorem join_two (w : World) (bk c : Nat) (hc : 2 ≤ c) (h0 : w.cell? ⟨bk, 0, none⟩ = some (.string ⟨#[97]⟩)) (h1 : w.cell? ⟨bk, 1, none⟩ = some (.string ⟨#[98]⟩)) (hbk : bk < w.heap.size) :
    Calls Tryd.prog 46 #[.slice (some ⟨bk, 0, none⟩) 2 c, .string ⟨#[32]⟩] w fun e w' => e = .returned (.string ⟨#[97, 32, 98]⟩) ∧ Below w.heap.size w w' := by
  refine (Tryd.strings_Join bk 0 c [⟨#[97]⟩, ⟨#[98]⟩] ⟨#[32]⟩ w ?_ hbk (by decide) hc (by decide)).mono ?_
  · intro j x hx
    match j, hx with
    | 0, hx => simp only [List.getElem?_cons_zero, Option.some.injEq] at hx; subst hx; simpa using h0
    | 1, hx => simp only [List.getElem?_cons_succ, List.getElem?_cons_zero, Option.some.injEq] at hx; subst hx; simpa using h1
    | j + 2, hx => simp at hx
  · rintro e w' ⟨rfl, hb⟩
    exact ⟨rfl, hb⟩

theorem mag_big : Pl.parse [57, 50, 50, 51, 51, 55, 50, 48, 51, 54, 56, 53, 52, 55, 55, 53, 56, 48, 56] = none := by decide +kernel
theorem mag_least : Pl.parse [45, 57, 50, 50, 51, 51, 55, 50, 48, 51, 54, 56, 53, 52, 55, 55, 53, 56, 48, 56] = some (-9223372036854775808) := by decide +kernel
theorem itoa_least : Lib.itoa (-9223372036854775808) = [45, 57, 50, 50, 51, 51, 55, 50, 48, 51, 54, 56, 53, 52, 55, 55, 53, 56, 48, 56] := by decide +kernel

theorem text_least (w : World) (ht : Tab w) : Calls Tryd.prog 34 #[.int .i64 (-9223372036854775808)] w fun e w' => e = .returned (.string ⟨#[45, 57, 50, 50, 51, 51, 55, 50, 48, 51, 54, 56, 53, 52, 55, 55, 53, 56, 48, 56]⟩) ∧ Below w.heap.size w w' := by
  refine (text_any _ w ht (by decide) (by decide)).mono ?_
  rintro e w' ⟨rfl, hb⟩
  rw [itoa_least]
  exact ⟨rfl, hb⟩

end Go.Proofs.YthglhcabdadlpaaDoor
