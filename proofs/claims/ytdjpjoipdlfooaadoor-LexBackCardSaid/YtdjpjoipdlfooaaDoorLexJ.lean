/- The reference's Same of tokens, where both rows hold the same but for places. -/
import Derived.Test.YtdjpjoipdlfooaaDoorLexS
import Derived.BigRegion
import Derived.RegionTactic
import Derived.Laws.StructEq
namespace Go.Proofs.YtdjpjoipdlfooaaDoor
open Go.RowKit

set_option maxRecDepth 100000 in
set_option maxHeartbeats 4000000 in
theorem rsame_true (b1 o1 c1 b2 o2 c2 : Nat) (ts us : List Tok) (w : World) (h1 : Ta w b1 o1 ts) (h2 : Ta w b2 o2 us) (hn : us.length = ts.length) (hl : ts.length ≤ 1000000) 
    (he : ∀ j, j < ts.length → (us.getD j tok0).1 = (ts.getD j tok0).1) :
    Calls Tryd.prog 14 #[.slice (some ⟨b1, o1, none⟩) ts.length c1, .slice (some ⟨b2, o2, none⟩) ts.length c2, .bool false] w fun e w' => e = .returned (.bool true) ∧ Below w.heap.size w w' := by
  have H1 : Hid (Ta w b1 o1 ts) := h1
  have H2 : Hid (Ta w b2 o2 us) := h2
  have HE : Hid (∀ j, j < ts.length → (us.getD j tok0).1 = (ts.getD j tok0).1) := he
  have HN : Hid (us.length = ts.length) := hn
  clear h1 h2 he hn
  go_enter Tryd.func14, Tryd.ntmps14
  go_wp2_with fail
  go_loopw [7] (fun i wr => ∃ k : Nat, k ≤ ts.length ∧ i = .int .i64 k ∧ Below w.heap.size w wr) (fun i _ => ts.length - (intOf i).toNat)
  case atStart => exact ⟨0, by omega, rfl, Below.refl _ _⟩
  case round =>
    obtain ⟨k, hk, rfl, hnx⟩ := hrel
    by_cases hlt : k < ts.length
    · obtain ⟨kd, tx, nm, pl, hx⟩ : ∃ kd tx nm pl, ts.getD k tok0 = (⟨kd, tx, nm⟩, pl) := ⟨_, _, _, _, rfl⟩
      obtain ⟨ql, hy⟩ : ∃ ql, us.getD k tok0 = (⟨kd, tx, nm⟩, ql) := ⟨(us.getD k tok0).2, by rw [Prod.ext_iff]; exact ⟨by rw [HE.out k hlt, hx], rfl⟩⟩
      have T1 := H1.out.later hnx
      have T2 := H2.out.later hnx
      have hl1 := T1.lt
      have hl2 := T2.lt
      have c0 := T1.c0 k hlt
      have c1' := T1.c1 k hlt
      have c2' := T1.c2 k hlt
      have c3 := T1.c3 k hlt
      have hlu : k < us.length := by rw [HN.out]; exact hlt
      have d0 := T2.c0 k hlu
      have d1 := T2.c1 k hlu
      have d2 := T2.c2 k hlu
      have d3 := T2.c3 k hlu
      rw [hx] at c0 c1' c2' c3
      rw [hy] at d0 d1 d2 d3
      simp only at c0 c1' c2' c3 d0 d1 d2 d3
      have hzz := hnx.size
      have BX : Hid _ := hnx
      clear hx hy T1 T2 hlu hnx
      go_wp2_with fail
      go_region
      all_goals
      go_wp2_with fail
      exact ⟨⟨k + 1, by omega, by go_num, ((BX.out.alloc hzz _).alloc (by simp; omega) _).drew⟩, by simp [intOf]; omega⟩
    · obtain rfl : k = ts.length := by omega
      go_wp2_with fail
      go_ret
      exact ⟨rfl, hnx⟩
end Go.Proofs.YtdjpjoipdlfooaaDoor
