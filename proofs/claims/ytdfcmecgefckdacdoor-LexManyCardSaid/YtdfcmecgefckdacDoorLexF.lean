/- LexFirst walked. -/
import Derived.Test.YtdfcmecgefckdacDoorLexK
import Derived.Test.YtdfcmecgefckdacDoorScanCut
namespace Go.Proofs.YtdfcmecgefckdacDoor
open Go.RowKit

set_option maxRecDepth 100000 in
set_option maxHeartbeats 400000 in
theorem first_long (s : ByteArray) (w : World) (ht : Kw w ∧ Tab w) (h3 : ¬ s.size ≤ 3000) : Calls Tryd.prog 6 #[.string s] w fun e w' => e = .returned (.bool true) ∧ Below w.heap.size w w' := by
  have HT : Hid (Kw w ∧ Tab w) := ht
  clear ht
  go_enter Tryd.func6, Tryd.ntmps6
  go_wp2_with fail
  refine (known2 _ HT.out.1 HT.out.2).mono ?_
  rintro e w2 ⟨rfl, b2⟩
  go_wp2_with fail
  go_ret
  exact ⟨rfl, b2⟩
theorem OwnT.small {w : World} {base : Nat} {v : Value} {ts : List (Lx.Tk × Nat)} (h : OwnT w base v ts) : ts.length ≤ 9223372036854775807 := by
  rcases h.2 with ⟨_, h0⟩ | ⟨g, cap, cur, rfl, _, _, hn, hm, _⟩
  · omega
  · unfold maxLen at hm; omega
theorem cut_list (s : ByteArray) (a : Nat) : (s.extract 0 a).data.toList = s.data.toList.take a := by simp
set_option maxRecDepth 100000 in
set_option maxHeartbeats 1000000 in
theorem first_short (s : ByteArray) (w : World) (ht : Kw w ∧ Tab w) (h3 : s.size ≤ 3000) : Calls Tryd.prog 6 #[.string s] w fun e w' => e = .returned (.bool true) ∧ Below w.heap.size w w' := by
  have HT : Hid (Kw w ∧ Tab w) := ht
  clear ht
  rcases Lx.scan_first (l := s.data.toList) (by rw [size_len']; exact h3) with ⟨he, ha⟩ | ⟨a, hsc, hal, r, hr⟩
  · have HE : Hid ((Lx.scan s.data.toList).2.2 = 0) := he
    have HA : Hid ((Lx.scan s.data.toList).2.1 = 0) := ha
    clear he ha
    go_enter Tryd.func6, Tryd.ntmps6
    go_wp2_with fail
    refine (scan_short s _ (by omega) HT.out.1).mono ?_
    rintro e w1 ⟨v, rfl, ho, b1⟩
    rw [HE.out, HA.out]
    clear ho
    have T1 : Hid (Kw w1 ∧ Tab w1) := ⟨HT.out.1.later b1, HT.out.2.later b1 (Nat.le_refl _)⟩
    go_wp2_with fail
    refine (known2 _ T1.out.1 T1.out.2).mono ?_
    rintro e w2 ⟨rfl, b2⟩
    go_wp2_with fail
    go_ret
    exact ⟨rfl, b1.trans (b2.mono b1.size)⟩
  · have HS : Hid (Lx.scan s.data.toList = ([], a, 20)) := hsc
    have HR : Hid (Lx.scan (s.data.toList.take a) = (r ++ [(⟨0, [], 0⟩, a)], 0, 0)) := hr
    rw [size_len'] at hal
    clear hsc hr
    go_enter Tryd.func6, Tryd.ntmps6
    go_wp2_with fail
    refine (scan_short s _ (by omega) HT.out.1).mono ?_
    rintro e w1 ⟨v, rfl, ho, b1⟩
    rw [HS.out]
    clear ho
    have T1 : Hid (Kw w1 ∧ Tab w1) := ⟨HT.out.1.later b1, HT.out.2.later b1 (Nat.le_refl _)⟩
    have hz : (s.extract 0 a).size ≤ 16384 := by rw [ByteArray.size_extract]; omega
    have HZ : Hid ((s.extract 0 a).size ≤ 16384) := hz
    clear hz
    go_wp2_with fail
    refine (scan_short (s.extract 0 a) _ HZ.out T1.out.1).mono ?_
    rintro e w2 ⟨v2, rfl, ho2, b2⟩
    rw [cut_list, HR.out] at ho2 ⊢
    have hsm := ho2.small
    obtain ⟨g, cap, rfl, hcap, hg, T⟩ := ho2.ta (by simp)
    have hc3 := T.c3 r.length (by simp)
    have T2 : Hid (Kw w2 ∧ Tab w2) := ⟨T1.out.1.later b2, T1.out.2.later b2 (Nat.le_refl _)⟩
    have B2 : Hid (Below w.heap.size w w2) := b1.trans (b2.mono b1.size)
    have hrl : (r ++ [((⟨0, [], 0⟩ : Lx.Tk), a)]).length = r.length + 1 := by simp
    rw [hrl] at hcap hsm ⊢
    have hc : w2.cell? ⟨g, r.length * 4 + 3, none⟩ = some (.int .i64 (a : Int)) := by rw [Nat.zero_add] at hc3; rw [hc3]; simp [tkI]
    clear hc3 T ho2 b1 b2 hrl
    go_wp2_with fail
    refine (known2 _ T2.out.1 T2.out.2).mono ?_
    rintro e w3 ⟨rfl, b3⟩
    go_wp2_with fail
    go_ret
    exact ⟨rfl, B2.out.trans (b3.mono B2.out.size)⟩
theorem first_walk (s : ByteArray) (w : World) (ht : Kw w ∧ Tab w) (_hs : s.size ≤ 140737488351232) : Calls Tryd.prog 6 #[.string s] w fun e w' => e = .returned (.bool true) ∧ Below w.heap.size w w' := by
  by_cases h3 : s.size ≤ 3000
  · exact first_short s w ht h3
  · exact first_long s w ht h3
end Go.Proofs.YtdfcmecgefckdacDoor
