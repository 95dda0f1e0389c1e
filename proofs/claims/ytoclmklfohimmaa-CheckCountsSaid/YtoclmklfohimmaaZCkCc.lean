/- Layer 4: CheckCounts: elements. -/
import Derived.Test.YtoclmklfohimmaaZCkCb
namespace Go.Proofs.Ytoclmklfohimmaa
open Go.RowKit

set_option maxRecDepth 100000 in
set_option maxHeartbeats 4000000 in
theorem cnCase3 (n what : Int) (r : Nat) (hr : r < 70) (ea : ∀ w, Calls Try.prog 17 #[.int .i64 n, .int .i64 70] w fun e w' => e = .returned (.int .i64 (r : Int)) ∧ w' = w) (eb : ∀ w, Calls Try.prog 17 #[.int .i64 what, .int .i64 4] w fun e w' => e = .returned (.int .i64 3) ∧ w' = w) (w : World) :
    Calls Try.prog 6 #[.int .i64 n, .int .i64 what] w fun e w' => e = .returned (.bool true) ∧ Below w.heap.size w w' := by
  have EA : Hid (∀ w, Calls Try.prog 17 #[.int .i64 n, .int .i64 70] w fun e w' => e = .returned (.int .i64 (r : Int)) ∧ w' = w) := ea
  have EB : Hid (∀ w, Calls Try.prog 17 #[.int .i64 what, .int .i64 4] w fun e w' => e = .returned (.int .i64 3) ∧ w' = w) := eb
  clear ea eb
  go_enter Try.func6, Try.ntmps6
  go_wp2_with fail
  refine Calls.mono (EA.out _) ?_
  rintro e1 w1 ⟨rfl, hw1⟩
  rw [hw1]
  clear hw1 w1
  go_wp2_with fail
  refine Calls.mono (EB.out _) ?_
  rintro e2 w2 ⟨rfl, hw2⟩
  obtain ⟨g0, hg0⟩ : ∃ g0, g0 = w.heap.size := ⟨_, rfl⟩
  obtain ⟨bp, hbp⟩ : ∃ bp, bp = w.heap.size + 1 := ⟨_, rfl⟩
  rw [← hbp, ← hg0]
  have zg : w2.heap.size = g0 + 1 + 1 := by rw [hw2, hg0]; simp
  have BW : Hid (Below w.heap.size w w2) := by rw [hw2]; exact (box_below w _).trans ((box_below _ _).mono (by simp))
  have cb : w2.cell? ⟨bp, 0, none⟩ = some (.slice (some ⟨g0, 0, none⟩) 1 1) := by rw [hw2, hbp, hg0]; simp [go_sem]
  have fb : w2.frozen? ⟨bp, 0, none⟩ = false := by rw [hw2, hbp]; simp [go_sem]
  have hG : w2.heap[g0]? = some (.cells #[.string ⟨#[109, 97, 105, 110]⟩, .slice none 0 0, .int .i64 0, .slice none 0 0] 25 (0, 0)) := by
    rw [hw2, hg0]
    exact ((box_below (w.alloc (.cells #[.string ⟨#[109, 97, 105, 110]⟩, .slice none 0 0, .int .i64 0, .slice none 0 0] 25)) _).block w.heap.size (by simp)).trans (alloc_last w _)
  have m0 : w2.cell? ⟨g0, 0, none⟩ = some (.string ⟨#[109, 97, 105, 110]⟩) := by simp [World.cell?, hG]
  have m1 : w2.cell? ⟨g0, 1, none⟩ = some (.slice none 0 0) := by simp [World.cell?, hG]
  have m2 : w2.cell? ⟨g0, 2, none⟩ = some (.int .i64 0) := by simp [World.cell?, hG]
  have m3 : w2.cell? ⟨g0, 3, none⟩ = some (.slice none 0 0) := by simp [World.cell?, hG]
  have fg : w2.frozen? ⟨g0, 3, none⟩ = false := by simp [World.frozen?, hG]
  have hbg : bp = g0 + 1 := by rw [hbp, hg0]
  have HBG : Hid (bp = g0 + 1 ∧ w2.heap.size = g0 + 2 ∧ g0 = w.heap.size) := ⟨hbg, by omega, hg0⟩
  have HG : Hid (w2.heap[g0]? = some (.cells #[.string ⟨#[109, 97, 105, 110]⟩, .slice none 0 0, .int .i64 0, .slice none 0 0] 25 (0, 0))) := hG
  have nbg : ¬ bp = g0 := by omega
  have nbz : ¬ bp = w2.heap.size := by omega
  have ngz : ¬ g0 = w2.heap.size := by omega
  have lbz : bp < w2.heap.size := by omega
  have lgz : g0 < w2.heap.size := by omega
  clear hw2 hg0 hbp zg hG hbg
  go_upto_region 29 with fail
  obtain ⟨W3, hW3⟩ : ∃ W3, W3 = (w2.setCell ⟨g0, 3, none⟩ (.slice (some ⟨w2.heap.size, 0, none⟩) 1 1)).alloc (.cells #[.int .i64 1, .string ⟨#[97]⟩, .string ⟨#[]⟩, .int .i64 (r : Int), .slice none 0 0, .slice none 0 0, .slice none 0 0] 33) := ⟨_, rfl⟩
  rw [← hW3]
  have B3 : Hid (Below w.heap.size w W3) := by
    have h1 := HBG.out
    have b1 := BW.out.setCell (p := ⟨g0, 3, none⟩) (by simp only; omega) (.slice (some ⟨w2.heap.size, 0, none⟩) 1 1)
    rw [hW3]
    exact b1.alloc b1.size _
  have c3 : W3.cell? ⟨bp, 0, none⟩ = some (.slice (some ⟨g0, 0, none⟩) 1 1) := by rw [hW3]; simp [go_sem, cb, lbz]
  have P3 : Hid (PcS (fun _ => True) W3 (.slice (some ⟨g0, 0, none⟩) (cnF3 r).length 1) (cnF3 r)) := by
    refine ⟨_, _, rfl, fun _ => ⟨g0, 0, rfl, trivial, by rw [hW3]; simp; omega, fun j hj => ?_⟩⟩
    obtain rfl : j = 0 := by simp [cnF3] at hj; omega
    refine ⟨_, none, 0, some ⟨w2.heap.size, 0, none⟩, 1, rfl, ⟨?_, ?_, ?_, ?_, ⟨none, 0, rfl, fun h => by simp at h⟩, ?_⟩⟩
    · rw [hW3]; simp [go_sem, m0, lgz]
    · rw [hW3]; simp [go_sem, m1, lgz]
    · rw [hW3]; simp [go_sem, m2, lgz]
    · rw [hW3]; simp [go_sem, m3, lgz]
    · refine .some _ 0 1 1 _ rfl (by simp) (by simp) trivial (by rw [hW3]; simp) (.cons _ 0 1 [97] [] (r : Int) (.slice none 0 0) (.slice none 0 0) (.slice none 0 0) [] [] [] [] ?_ ?_ ?_ ?_ ?_ ?_ ?_ (.nil _ _) (.nil _ _) (.nil _ _) (.nil _ _))
      all_goals (rw [hW3]; simp [go_sem])
  clear hW3 m0 m1 m2 m3 fg fb cb HG
  have hck := cn_of3 r hr
  have h0 : ¬ (ckPg (cnF3 r)).1 = some 0 := by rw [hck]; unfold cnOk; split <;> simp
  have ECk : Hid _ := ckCheck_any (fun _ => True) (some ⟨g0, 0, none⟩) 1 (cnF3 r) W3 P3.out (cn_ln3 r hr) (cn_bd3 r hr) _ rfl h0
  have HCK : Hid ((ckPg (cnF3 r)).1 = cnOk r 64) := hck
  clear hck h0 P3
  go_wp2_with fail
  refine Calls.mono ECk.out ?_
  rintro e8 w8 (⟨er, h8, rfl, b8⟩ | ⟨h8, p8, iv, im, vvs, hp8, rfl, I8, b8⟩)
  · rw [HCK.out] at h8
    unfold cnOk at h8
    by_cases hk : r ≤ 64
    · rw [if_pos hk] at h8; cases h8
    rw [if_neg hk] at h8
    cases h8
    have dk : decide ((r : Int) ≤ 64) = false := decide_eq_false (by omega)
    have B8 : Hid (Below w.heap.size w w8) := B3.out.trans (b8.mono B3.out.size)
    clear b8 ECk HCK hk
    go_wp2_with fail
    refine Calls.mono (known4 _) ?_
    rintro e9 w9 ⟨rfl, b9⟩
    have B9 : Hid (Below w.heap.size w w9) := B8.out.trans ((((box_below w8 _).trans ((box_below _ _).mono (by simp))).trans (b9.mono (by simp; omega))).mono B8.out.size)
    clear b9
    go_wp2_with fail
    go_ret
    exact ⟨rfl, B9.out⟩
  · rw [HCK.out] at h8
    unfold cnOk at h8
    by_cases hk : r ≤ 64
    case neg => rw [if_neg hk] at h8; cases h8
    obtain ⟨va1, vc1, hiv⟩ := own_shape I8.rv
    obtain ⟨va2, vc2, him⟩ := own_shape I8.rm
    subst hiv him
    have dk : decide ((r : Int) ≤ 64) = true := decide_eq_true (by omega)
    have B8 : Hid (Below w.heap.size w w8) := B3.out.trans (b8.mono B3.out.size)
    clear b8 ECk HCK hk h8 I8 hp8
    go_wp2_with fail
    refine Calls.mono (known4 _) ?_
    rintro e9 w9 ⟨rfl, b9⟩
    have B9 : Hid (Below w.heap.size w w9) := B8.out.trans ((((box_below w8 _).trans ((box_below _ _).mono (by simp))).trans (b9.mono (by simp; omega))).mono B8.out.size)
    clear b9
    go_wp2_with fail
    go_ret
    exact ⟨rfl, B9.out⟩
end Go.Proofs.Ytoclmklfohimmaa
