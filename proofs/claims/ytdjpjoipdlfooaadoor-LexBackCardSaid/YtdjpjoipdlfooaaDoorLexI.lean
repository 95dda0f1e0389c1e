/- The reference's First, for every text: signs. -/
import Derived.Test.YtdjpjoipdlfooaaDoorLexH
import Derived.Deep.RegionHeld3
namespace Go.Proofs.YtdjpjoipdlfooaaDoor
open Go.RowKit

set_option maxRecDepth 100000 in
set_option maxHeartbeats 1000000 in
theorem rfirst_sign (s : ByteArray) (w : World) (hs : s.size ≤ 1000000) (h0 : Lx.run Lx.inn1 s.data.toList = 0) :
    Calls Tryd.prog 26 #[.string s] w fun e w' => e = .returned (rfV (rfirst s.data.toList)) ∧ Below w.heap.size w w' := by
  have H0 : Hid (Lx.run Lx.inn1 s.data.toList = 0) := h0
  clear h0
  go_enter Tryd.func26, Tryd.ntmps26
  go_wp2_with fail
  refine (rrun_any s _ hs).mono ?_
  rintro e w' ⟨rfl, rfl⟩
  rw [H0.out]
  go_wp2_with fail
  go_loopw [8] (fun i wr => ∃ z : Nat, z ≤ 2 ∧ i = .int .i64 z ∧ Below (w.alloc (.cells #[.int .i64 0, .string ⟨#[]⟩, .int .i64 0, .int .i64 0] 33)).heap.size (w.alloc (.cells #[.int .i64 0, .string ⟨#[]⟩, .int .i64 0, .int .i64 0] 33)) wr ∧ Hid (∀ y, z < y → y ≤ 2 → ¬ (y ≤ s.data.toList.length ∧ Lx.isSign (s.data.toList.take y) = true))) (fun i _ => (intOf i).toNat)
  case atStart => exact ⟨2, by omega, rfl, Below.refl _ _, fun y h1 h2 => absurd h1 (by omega)⟩
  case round =>
    obtain ⟨z, hz2, rfl, hbx, N⟩ := hrel
    have BX : Hid _ := hbx
    clear hbx
    by_cases hz0 : 0 < z
    · by_cases hl : z ≤ s.size
      · have hli : (z : Int) ≤ (s.size : Int) := by omega
        have hq : ∀ w : World, (binOp .geq 3 (.int .i64 (s.size : Int)) (.int .i64 (z : Int))).run Tryd.prog w = .ok (.bool true) w := fun w => by go_simp
        cases hg : Lx.isSign (s.extract 0 z).data.toList with
        | true =>
          have F : Hid (rfirst s.data.toList = (⟨4, s.data.toList.take z, 0⟩, z)) := rfirst_found H0.out hz0 hz2 (by rw [size_len']; exact hl) (by rw [← ext_list]; exact hg) N.out
          have HG : Hid (Lx.isSign (s.extract 0 z).data.toList = true) := hg
          clear hg
          go_wp2_with fail
          go_region_held3 (fun _ => True) (trivial) (first | (go_at_call 44; refine (rsigns _).mono ?_; rintro e w1 ⟨b, rfl, hsa, b1⟩) | (go_at_call 41; refine (rin_signsB _ _ _ hsa).mono ?_; rintro e w' ⟨rfl, rfl⟩; rw [HG.out]))
          all_goals
          have B1 : Below (w.alloc (.cells #[.int .i64 0, .string ⟨#[]⟩, .int .i64 0, .int .i64 0] 33)).heap.size (w.alloc (.cells #[.int .i64 0, .string ⟨#[]⟩, .int .i64 0, .int .i64 0] 33)) w' := BX.out.trans ⟨b1.os, b1.tape, b1.output, b1.size, fun k hk => b1.block k (Nat.lt_of_lt_of_le hk BX.out.size)⟩
          obtain ⟨⟨c0, c1, c2, c3⟩, ⟨f0, f1, f2, f3⟩, hz, hb⟩ := box_facts B1
          clear b1 B1 hsa
          go_wp2_with fail
          refine bodyPost_ret (v := .tuple #[.agg #[.int .i64 4, .string (s.extract 0 z), .int .i64 0, .int .i64 0], .int .i64 z]) (by simp [results, Tryd.results26, go_sem, c0, c1, c2, c3]) rfl ⟨by rw [F.out, ← ext_str]; rfl, (((hb.setCell (Nat.le_refl _) _).setCell (Nat.le_refl _) _).setCell (Nat.le_refl _) _).setCell (Nat.le_refl _) _⟩
        | false =>
          have N' : Hid (∀ y, z - 1 < y → y ≤ 2 → ¬ (y ≤ s.data.toList.length ∧ Lx.isSign (s.data.toList.take y) = true)) := by
            intro y h1 h2
            by_cases e : y = z
            · subst e; rw [← ext_list, hg]; exact fun h => absurd h.2 Bool.false_ne_true
            · exact N.out y (by omega) h2
          have HG : Hid (Lx.isSign (s.extract 0 z).data.toList = false) := hg
          clear hg
          go_wp2_with fail
          go_region_held3 (fun _ => True) (trivial) (first | (go_at_call 44; refine (rsigns _).mono ?_; rintro e w1 ⟨b, rfl, hsa, b1⟩) | (go_at_call 41; refine (rin_signsB _ _ _ hsa).mono ?_; rintro e w' ⟨rfl, rfl⟩; rw [HG.out]))
          all_goals
          have B1 : Hid (Below (w.alloc (.cells #[.int .i64 0, .string ⟨#[]⟩, .int .i64 0, .int .i64 0] 33)).heap.size (w.alloc (.cells #[.int .i64 0, .string ⟨#[]⟩, .int .i64 0, .int .i64 0] 33)) w') := BX.out.trans ⟨b1.os, b1.tape, b1.output, b1.size, fun k hk => b1.block k (Nat.lt_of_lt_of_le hk BX.out.size)⟩
          clear b1 hsa
          go_wp2_with fail
          go_roundw
          case rel => exact ⟨z - 1, by omega, by go_num, B1.out, N'⟩
          case measure => simp [intOf]; omega
      · have N' : Hid (∀ y, z - 1 < y → y ≤ 2 → ¬ (y ≤ s.data.toList.length ∧ Lx.isSign (s.data.toList.take y) = true)) := by
          intro y h1 h2
          by_cases e : y = z
          · subst e; rw [size_len']; exact fun h => hl h.1
          · exact N.out y (by omega) h2
        have hlb : decide ((z : Int) ≤ (s.size : Int)) = false := decide_eq_false (by omega)
        go_wp2_with fail
        go_quiet (fail)
        have B2 : Hid _ := below_drewN BX.out nq
        generalize wr.drewN nq = wq at B2 ⊢
        go_wp2_with fail
        go_roundw
        case rel => exact ⟨z - 1, by omega, by go_num, B2.out, N'⟩
        case measure => simp [intOf]; omega
    · obtain rfl : z = 0 := by omega
      have F : Hid (rfirst s.data.toList = (⟨0, [], 0⟩, 0)) := rfirst_lost H0.out N.out
      obtain ⟨⟨c0, c1, c2, c3⟩, ⟨f0, f1, f2, f3⟩, hz, hb⟩ := box_facts BX.out
      go_wp2_with fail
      refine bodyPost_ret (v := .tuple #[.agg #[.int .i64 0, .string ⟨#[]⟩, .int .i64 0, .int .i64 0], .int .i64 0]) (by simp [results, Tryd.results26, go_sem, c0, c1, c2, c3]) rfl ⟨by rw [F.out]; rfl, (((hb.setCell (Nat.le_refl _) _).setCell (Nat.le_refl _) _).setCell (Nat.le_refl _) _).setCell (Nat.le_refl _) _⟩

/-- The reference's First, for every text. -/
theorem rfirst_any (s : ByteArray) (w : World) (hs : s.size ≤ 1000000) :
    Calls Tryd.prog 26 #[.string s] w fun e w' => e = .returned (rfV (rfirst s.data.toList)) ∧ Below w.heap.size w w' := by
  by_cases h0 : Lx.run Lx.inn1 s.data.toList = 0
  · exact rfirst_sign s w hs h0
  · have h0 : 0 < Lx.run Lx.inn1 s.data.toList := by omega
    cases hd : Lx.dig1 (s.data.toList.headD 0).toNat with
    | true => exact rfirst_dig s w hs h0 hd
    | false =>
      cases hk : Lx.isKey (s.data.toList.take (Lx.run Lx.inn1 s.data.toList)) with
      | true => exact rfirst_key s w hs h0 hd hk
      | false =>
        cases hm : Lx.isName (s.data.toList.take (Lx.run Lx.inn1 s.data.toList)) with
        | true => exact rfirst_name s w hs h0 hd hk hm
        | false => exact rfirst_bad s w hs h0 hd hk hm
end Go.Proofs.YtdjpjoipdlfooaaDoor
