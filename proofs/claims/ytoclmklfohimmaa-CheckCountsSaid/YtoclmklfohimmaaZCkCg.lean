/- Layer 4: CheckCounts: variables (the walk). -/
import Derived.Test.YtoclmklfohimmaaZCkCf
import Derived.Deep.RegionHeld3
namespace Go.Proofs.Ytoclmklfohimmaa
open Go.RowKit

def cnNs (n : Nat) : List (List UInt8) := (List.range n).map cnNm
theorem cnNs_step (j : Nat) : cnNs (j + 1) = cnNs j ++ [cnNm j] := by simp [cnNs, List.range_succ]
theorem cnNs_len (j : Nat) : (cnNs j).length = j := by simp [cnNs]
theorem cnF2_is (n : Nat) : cnF2 n = [⟨[109, 97, 105, 110], [], 0, (cnNs n).map cnSt⟩] := by unfold cnF2 cnNs; rw [List.map_map]; rfl
set_option maxRecDepth 100000 in
set_option maxHeartbeats 4000000 in
theorem cnCase2 (n what : Int) (r : Nat) (hr : r < 70) (ea : ∀ w, Calls Try.prog 17 #[.int .i64 n, .int .i64 70] w fun e w' => e = .returned (.int .i64 (r : Int)) ∧ w' = w) (eb : ∀ w, Calls Try.prog 17 #[.int .i64 what, .int .i64 4] w fun e w' => e = .returned (.int .i64 2) ∧ w' = w) (w : World) :
    Calls Try.prog 6 #[.int .i64 n, .int .i64 what] w fun e w' => e = .returned (.bool true) ∧ Below w.heap.size w w' := by
  have EA : Hid (∀ w, Calls Try.prog 17 #[.int .i64 n, .int .i64 70] w fun e w' => e = .returned (.int .i64 (r : Int)) ∧ w' = w) := ea
  have EB : Hid (∀ w, Calls Try.prog 17 #[.int .i64 what, .int .i64 4] w fun e w' => e = .returned (.int .i64 2) ∧ w' = w) := eb
  clear ea eb
  go_enter Try.func6, Try.ntmps6
  go_wp2_with fail
  refine Calls.mono (EA.out _) ?_
  rintro e1 w1 ⟨rfl, hw1⟩
  rw [hw1]
  clear hw1 w1
  go_wp2_with fail
  refine Calls.mono (EB.out _) ?_
  rintro e2 w2 ⟨rfl, hw2⟩
  obtain ⟨g0, hg0⟩ : ∃ g0, g0 = w.heap.size := ⟨_, rfl⟩
  obtain ⟨bp, hbp⟩ : ∃ bp, bp = w.heap.size + 1 := ⟨_, rfl⟩
  rw [← hbp, ← hg0]
  have zg : w2.heap.size = g0 + 1 + 1 := by rw [hw2, hg0]; simp
  have BW : Hid (Below w.heap.size w w2) := by rw [hw2]; exact (box_below w _).trans ((box_below _ _).mono (by simp))
  have cb : w2.cell? ⟨bp, 0, none⟩ = some (.slice (some ⟨g0, 0, none⟩) 1 1) := by rw [hw2, hbp, hg0]; simp [go_sem]
  have fb : w2.frozen? ⟨bp, 0, none⟩ = false := by rw [hw2, hbp]; simp [go_sem]
  have hG : w2.heap[g0]? = some (.cells #[.string ⟨#[109, 97, 105, 110]⟩, .slice none 0 0, .int .i64 0, .slice none 0 0] 25 (0, 0)) := by
    rw [hw2, hg0]
    exact ((box_below (w.alloc (.cells #[.string ⟨#[109, 97, 105, 110]⟩, .slice none 0 0, .int .i64 0, .slice none 0 0] 25)) _).block w.heap.size (by simp)).trans (alloc_last w _)
  have m0 : w2.cell? ⟨g0, 0, none⟩ = some (.string ⟨#[109, 97, 105, 110]⟩) := by simp [World.cell?, hG]
  have m1 : w2.cell? ⟨g0, 1, none⟩ = some (.slice none 0 0) := by simp [World.cell?, hG]
  have m2 : w2.cell? ⟨g0, 2, none⟩ = some (.int .i64 0) := by simp [World.cell?, hG]
  have m3 : w2.cell? ⟨g0, 3, none⟩ = some (.slice none 0 0) := by simp [World.cell?, hG]
  have fg : w2.frozen? ⟨g0, 3, none⟩ = false := by simp [World.frozen?, hG]
  have hbg : bp = g0 + 1 := by rw [hbp, hg0]
  have HBG : Hid (bp = g0 + 1 ∧ w2.heap.size = g0 + 2 ∧ g0 = w.heap.size) := ⟨hbg, by omega, hg0⟩
  have HG : Hid (w2.heap[g0]? = some (.cells #[.string ⟨#[109, 97, 105, 110]⟩, .slice none 0 0, .int .i64 0, .slice none 0 0] 25 (0, 0))) := hG
  have nbg : ¬ bp = g0 := by omega
  have nbz : ¬ bp = w2.heap.size := by omega
  have ngz : ¬ g0 = w2.heap.size := by omega
  have lbz : bp < w2.heap.size := by omega
  have lgz : g0 < w2.heap.size := by omega
  clear hw2 hg0 hbp zg hG hbg
  obtain ⟨i0, hi, hz0, hz1, hz2⟩ := info_parts infoSt
  have S0 : Hid (SL w2 g0 bp (cnNs 0).length (svC (cnNs 0)) (.slice none 0 0) w2) := ⟨cb, m0, m1, m2, m3, fg, World.ownsRow_nil _ _ _ _, Keep.refl _ _, lgz, lbz, nbg⟩
  have HW : Hid (w.heap.size ≤ g0) := by have h1 := HBG.out; exact (by omega : w.heap.size ≤ g0)
  clear cb fb m0 m1 m2 m3 fg HG nbz ngz nbg
  go_upto_region 22 with fail
  go_wp2_with fail
  go_loopw [10] (fun i wr => ∃ (j : Nat) (v : Value), j ≤ r ∧ i = .int .i64 j ∧ Hid (SL w2 g0 bp (cnNs j).length (svC (cnNs j)) v wr)) (fun i _ => r - (intOf i).toNat)
  case atStart => exact ⟨0, _, by omega, rfl, S0⟩
  case round =>
    obtain ⟨j, v, hj1, rfl, P⟩ := hrel
    by_cases hlt : j < r
    · have hji : (j : Int) < (r : Int) := by omega
      have EN : Hid (∀ W, Calls Try.prog 19 #[.int .i64 (j : Int)] W fun e w' => e = .returned (.string ⟨(cnNm j).toArray⟩) ∧ Below W.heap.size W w') := fun W => cnName_any j (by omega) W
      have ES : Hid (cnNs (j + 1) = cnNs j ++ [cnNm j]) := cnNs_step j
      have LL0 : (cnNs j).length ≤ 71 := by rw [cnNs_len]; omega
      obtain ⟨ns, hns⟩ : ∃ ns, ns = cnNs j := ⟨_, rfl⟩
      rw [← hns] at P ES LL0
      have LL : Hid (ns.length ≤ 71) := LL0
      obtain ⟨nm, hnm⟩ : ∃ nm, nm = cnNm j := ⟨_, rfl⟩
      rw [← hnm] at EN ES
      obtain ⟨a, c, hv⟩ := own_shape P.out.row
      subst hv
      clear hns LL0 hnm
      go_upto_region 25 with fail
      go_region
      · obtain ⟨V, hV⟩ : ∃ V, V = (wr.alloc (.cells #[.bool false] 4)).drew := ⟨_, rfl⟩
        have PV : Hid (SL w2 g0 bp ns.length (svC ns) (.slice a ns.length c) V) := by rw [hV]; exact P.out.later (by go_grown)
        rw [← hV]
        clear hV P
        have b0 := PV.out.b0
        have m3 := PV.out.m3
        have f3 := PV.out.f3
        have hbz : bp < V.heap.size := Nat.lt_of_lt_of_le PV.out.lb PV.out.k.size
        have hgz : g0 < V.heap.size := Nat.lt_of_lt_of_le PV.out.lg PV.out.k.size
        go_wp2_with fail
        go_region_law (first
          | (go_simp; go_at_call 19; refine Calls.mono (EN.out _) ?_; rintro e7 w7 ⟨rfl, b7⟩; have b8 : Below V.heap.size V w7 := Below.trans (by go_grown) (b7.mono (by go_size)); have P7 : Hid (SL w2 g0 bp ns.length (svC ns) (.slice a ns.length c) w7) := PV.out.later b8; have a0 := P7.out.b0; have a3 := P7.out.m3; have af := P7.out.f3; have hp7 : bp < w7.heap.size := Nat.lt_of_lt_of_le hbz b8.size; have hg7 : g0 < w7.heap.size := Nat.lt_of_lt_of_le hgz b8.size; have np7 : ¬ bp = w7.heap.size := Nat.ne_of_lt hp7; have ng7 : ¬ g0 = w7.heap.size := Nat.ne_of_lt hg7; clear b7 b8; dsimp only)
          | (rw [if_pos (by rfl)]; refine wp_append_told _ _ 23 rfl w2.heap.size 33 i0 (.agg #[.int .i64 0, .string ⟨#[]⟩, .string ⟨#[]⟩, .int .i64 0, .slice none 0 0, .slice none 0 0, .slice none 0 0]) 7 120 Try.underlying23 hi hz0 hz1 hz2 rfl (by decide) _ _ _ rfl (own_later P7.out.row (by go_grown)) ⟨w7.heap.size, 0, none⟩ 1 1 [.int .i64 1, .string ⟨nm.toArray⟩, .string ⟨#[]⟩, .int .i64 0, .slice none 0 0, .slice none 0 0, .slice none 0 0] rfl rfl (cells_7 _ _ _ _ _ _ _ _ _) (by intro y hy; simp only [List.mem_cons, List.not_mem_nil, or_false] at hy; rcases hy with rfl | rfl | rfl | rfl | rfl | rfl | rfl <;> rfl) (by have := LL.out; unfold maxLen; omega) (by have := LL.out; omega) (by have := P7.out.k.size; simp; omega) (by decide) ?_; intro v8 w8 h8 g8 o8; have kg := g8.block g0 (by simp; omega) (fun e => by have h1 := (World.ownsRow.lt P7.out.row _ e.symm).1; have h2 := P7.out.lg; omega); have kb := g8.block bp (by simp; omega) (fun e => by have h1 := (World.ownsRow.lt P7.out.row _ e.symm).1; have h2 := P7.out.lb; omega); have q8 : w8.cell? ⟨g0, 3, none⟩ = some (.slice a ns.length c) := (World.cell?_of_block kg).trans (by simp [go_sem, a3, hg7]); have r8 : w8.frozen? ⟨g0, 3, none⟩ = false := (World.frozen?_of_block kg).trans (by simp [go_sem, af, hg7]); have u8 : w8.cell? ⟨bp, 0, none⟩ = some (.slice (some ⟨g0, 0, none⟩) 1 1) := (World.cell?_of_block kb).trans (by simp [go_sem, a0, hp7]); obtain ⟨va8, cap8, hv8⟩ := own_shape h8; subst hv8))
        all_goals
          have M8 := SL.step (P7.out.later (by go_grown)) h8 g8
          have MM : Hid (SL w2 g0 bp (cnNs (j + 1)).length (svC (cnNs (j + 1))) (.slice va8 (ns.length + 1) cap8) (w8.setCell ⟨g0, 3, none⟩ (.slice va8 (ns.length + 1) cap8))) := by rw [ES.out, List.length_append, svC_app]; exact M8
          clear M8 h8 g8 o8 kg kb q8 r8 u8 ES EN P7 PV
          go_wp2_with fail
          go_roundw
          case rel => exact ⟨j + 1, _, by omega, by go_num, MM⟩
          case measure => simp [intOf]; omega
      · obtain ⟨V, hV⟩ : ∃ V, V = (wr.alloc (.cells #[.bool true] 4)).drew := ⟨_, rfl⟩
        have PV : Hid (SL w2 g0 bp ns.length (svC ns) (.slice a ns.length c) V) := by rw [hV]; exact P.out.later (by go_grown)
        rw [← hV]
        clear hV P
        have b0 := PV.out.b0
        have m3 := PV.out.m3
        have f3 := PV.out.f3
        have hbz : bp < V.heap.size := Nat.lt_of_lt_of_le PV.out.lb PV.out.k.size
        have hgz : g0 < V.heap.size := Nat.lt_of_lt_of_le PV.out.lg PV.out.k.size
        go_wp2_with fail
        go_cut [81, 82, 84] from 74 to 86 (fun s1 s2 s3 wx => s1 = .agg #[.int .i64 1, .string ⟨nm.toArray⟩, .string ⟨#[]⟩, .int .i64 0, .slice none 0 0, .slice none 0 0, .slice none 0 0] ∧ s2 = .int .i64 (ns.length : Int) ∧ ∃ gg cap9, s3 = .slice (some ⟨gg, 0, none⟩) (ns.length + 1) cap9 ∧ Hid (SL w2 g0 bp (ns.length + 1) (svC ns ++ [.int .i64 0, .string ⟨#[]⟩, .string ⟨#[]⟩, .int .i64 0, .slice none 0 0, .slice none 0 0, .slice none 0 0]) (.slice (some ⟨gg, 0, none⟩) (ns.length + 1) cap9) wx))
        case first =>
          go_region_law (first
            | (go_simp; go_at_call 19; refine Calls.mono (EN.out _) ?_; rintro e7 w7 ⟨rfl, b7⟩; have b8 : Below V.heap.size V w7 := Below.trans (by go_grown) (b7.mono (by go_size)); have P7 : Hid (SL w2 g0 bp ns.length (svC ns) (.slice a ns.length c) w7) := PV.out.later b8; have a0 := P7.out.b0; have a3 := P7.out.m3; have af := P7.out.f3; have hp7 : bp < w7.heap.size := Nat.lt_of_lt_of_le hbz b8.size; have hg7 : g0 < w7.heap.size := Nat.lt_of_lt_of_le hgz b8.size; have np7 : ¬ bp = w7.heap.size := Nat.ne_of_lt hp7; have ng7 : ¬ g0 = w7.heap.size := Nat.ne_of_lt hg7; (first | (have zz := z7_of (V := V) (c0 := .int .i64 0) (c1 := .string ⟨#[]⟩) (c2 := .string ⟨#[]⟩) (c3 := .int .i64 0) (c4 := .slice none 0 0) (c5 := .slice none 0 0) (c6 := .slice none 0 0) (t := 33) b7 rfl) | skip); clear b7 b8; dsimp only)
            | (have hzc := zz; rw [if_pos (by rfl)]; refine wp_append_told _ _ 23 rfl w2.heap.size 33 i0 (.agg #[.int .i64 0, .string ⟨#[]⟩, .string ⟨#[]⟩, .int .i64 0, .slice none 0 0, .slice none 0 0, .slice none 0 0]) 7 120 Try.underlying23 hi hz0 hz1 hz2 rfl (by decide) _ _ _ rfl P7.out.row ⟨V.heap.size, 0, none⟩ 1 1 [.int .i64 0, .string ⟨#[]⟩, .string ⟨#[]⟩, .int .i64 0, .slice none 0 0, .slice none 0 0, .slice none 0 0] rfl rfl zz (by intro y hy; simp only [List.mem_cons, List.not_mem_nil, or_false] at hy; rcases hy with rfl | rfl | rfl | rfl | rfl | rfl | rfl <;> rfl) (by have := LL.out; unfold maxLen; omega) (by have := LL.out; omega) P7.out.k.size (by decide) ?_; intro v8 w8 h8 g8 o8; have kg := g8.block g0 hg7 (fun e => by have h1 := (World.ownsRow.lt P7.out.row _ e.symm).1; have h2 := P7.out.lg; omega); have kb := g8.block bp hp7 (fun e => by have h1 := (World.ownsRow.lt P7.out.row _ e.symm).1; have h2 := P7.out.lb; omega); have q8 : w8.cell? ⟨g0, 3, none⟩ = some (.slice a ns.length c) := (World.cell?_of_block kg).trans a3; have r8 : w8.frozen? ⟨g0, 3, none⟩ = false := (World.frozen?_of_block kg).trans af; have u8 : w8.cell? ⟨bp, 0, none⟩ = some (.slice (some ⟨g0, 0, none⟩) 1 1) := (World.cell?_of_block kb).trans a0; obtain ⟨va8, cap8, hv8⟩ := own_shape h8; subst hv8)
            | (rw [if_pos (by rfl)]; refine wp_append_told _ _ 23 rfl w2.heap.size 33 i0 (.agg #[.int .i64 0, .string ⟨#[]⟩, .string ⟨#[]⟩, .int .i64 0, .slice none 0 0, .slice none 0 0, .slice none 0 0]) 7 120 Try.underlying23 hi hz0 hz1 hz2 rfl (by decide) _ _ _ rfl (own_later P7.out.row (by go_grown)) ⟨w7.heap.size, 0, none⟩ 1 1 [.int .i64 0, .string ⟨#[]⟩, .string ⟨#[]⟩, .int .i64 0, .slice none 0 0, .slice none 0 0, .slice none 0 0] rfl rfl (cells_7 _ _ _ _ _ _ _ _ _) (by intro y hy; simp only [List.mem_cons, List.not_mem_nil, or_false] at hy; rcases hy with rfl | rfl | rfl | rfl | rfl | rfl | rfl <;> rfl) (by have := LL.out; unfold maxLen; omega) (by have := LL.out; omega) (by have := P7.out.k.size; simp; omega) (by decide) ?_; intro v8 w8 h8 g8 o8; have kg := g8.block g0 (by simp; omega) (fun e => by have h1 := (World.ownsRow.lt P7.out.row _ e.symm).1; have h2 := P7.out.lg; omega); have kb := g8.block bp (by simp; omega) (fun e => by have h1 := (World.ownsRow.lt P7.out.row _ e.symm).1; have h2 := P7.out.lb; omega); have q8 : w8.cell? ⟨g0, 3, none⟩ = some (.slice a ns.length c) := (World.cell?_of_block kg).trans (by simp [go_sem, a3, hg7]); have r8 : w8.frozen? ⟨g0, 3, none⟩ = false := (World.frozen?_of_block kg).trans (by simp [go_sem, af, hg7]); have u8 : w8.cell? ⟨bp, 0, none⟩ = some (.slice (some ⟨g0, 0, none⟩) 1 1) := (World.cell?_of_block kb).trans (by simp [go_sem, a0, hp7]); obtain ⟨va8, cap8, hv8⟩ := own_shape h8; subst hv8))
          all_goals
            obtain ⟨gg, rfl⟩ : ∃ gg, va8 = some ⟨gg, 0, none⟩ := by
              rcases h8.2 with ⟨e, _⟩ | ⟨gg, cp, cu, e, _⟩
              · cases e
              · cases e; exact ⟨gg, rfl⟩
            have M8 := SL.step (P7.out.later (by go_grown)) h8 g8
            have MM : Hid (SL w2 g0 bp (ns.length + 1) (svC ns ++ [.int .i64 0, .string ⟨#[]⟩, .string ⟨#[]⟩, .int .i64 0, .slice none 0 0, .slice none 0 0, .slice none 0 0]) (.slice (some ⟨gg, 0, none⟩) (ns.length + 1) cap8) (w8.setCell ⟨g0, 3, none⟩ (.slice (some ⟨gg, 0, none⟩) (ns.length + 1) cap8))) := M8
            clear M8 h8 g8 o8 kg kb q8 r8 u8 P7
            go_wp2_with fail
            go_meet
            exact ⟨rfl, rfl, gg, cap8, rfl, MM⟩
        case rest =>
          obtain ⟨rfl, rfl, gg, cap9, rfl, P9⟩ := hcut
          clear PV EN b0 m3 f3
          have sl : (svC ns).length = ns.length * 7 := svC_len ns
          have gt : ∀ i (u : Value), ([.int .i64 0, .string ⟨#[]⟩, .string ⟨#[]⟩, .int .i64 0, .slice none 0 0, .slice none 0 0, .slice none 0 0] : List Value)[i]? = some u → wc.cell? ⟨gg, ns.length * 7 + i, none⟩ = some u := fun i u hu => P9.out.cells (ns.length * 7 + i) u (by rw [List.getElem?_append_right (by omega), sl, Nat.add_sub_cancel_left]; exact hu)
          have z0 := gt 0 _ rfl
          have z1 := gt 1 _ rfl
          have z2 := gt 2 _ rfl
          have z3 := gt 3 _ rfl
          have z4 := gt 4 _ rfl
          have z5 := gt 5 _ rfl
          have z6 := gt 6 _ rfl
          rw [Nat.add_zero] at z0
          have y0 := P9.out.fz (ns.length * 7)
          have y1 := P9.out.fz (ns.length * 7 + 1)
          have y2 := P9.out.fz (ns.length * 7 + 2)
          have y3 := P9.out.fz (ns.length * 7 + 3)
          have y4 := P9.out.fz (ns.length * 7 + 4)
          have y5 := P9.out.fz (ns.length * 7 + 5)
          have y6 := P9.out.fz (ns.length * 7 + 6)
          have hn0 : (0 : Int) ≤ (ns.length : Int) := by omega
          have hn1 : (ns.length : Int) < (ns.length : Int) + 1 := by omega
          have MM : Hid (SL w2 g0 bp (cnNs (j + 1)).length (svC (cnNs (j + 1))) (.slice (some ⟨gg, 0, none⟩) (ns.length + 1) cap9) (((((((wc.setCell ⟨gg, ns.length * 7, none⟩ (.int .i64 1)).setCell ⟨gg, ns.length * 7 + 1, none⟩ (.string ⟨nm.toArray⟩)).setCell ⟨gg, ns.length * 7 + 2, none⟩ (.string ⟨#[]⟩)).setCell ⟨gg, ns.length * 7 + 3, none⟩ (.int .i64 0)).setCell ⟨gg, ns.length * 7 + 4, none⟩ (.slice none 0 0)).setCell ⟨gg, ns.length * 7 + 5, none⟩ (.slice none 0 0)).setCell ⟨gg, ns.length * 7 + 6, none⟩ (.slice none 0 0))) := by
            have h7 := ((((((P9.out.put (c := ns.length * 7) (.int .i64 1)).put (c := ns.length * 7 + 1) (.string ⟨nm.toArray⟩)).put (c := ns.length * 7 + 2) (.string ⟨#[]⟩)).put (c := ns.length * 7 + 3) (.int .i64 0)).put (c := ns.length * 7 + 4) (.slice none 0 0)).put (c := ns.length * 7 + 5) (.slice none 0 0)).put (c := ns.length * 7 + 6) (.slice none 0 0)
            rw [svC_fill (svC ns) (ns.length * 7) sl] at h7
            rw [ES.out, List.length_append, svC_app]
            exact h7
          clear gt sl P9 ES
          go_wp2_with fail
          go_roundw
          case rel => exact ⟨j + 1, _, by omega, by go_num, MM⟩
          case measure => simp [intOf]; omega
    · obtain rfl : j = r := by omega
      have hji : ¬ (j : Int) < (j : Int) := by omega
      have PP : Hid (PcS (fun _ => True) wr (.slice (some ⟨g0, 0, none⟩) (cnF2 j).length 1) (cnF2 j)) := by rw [cnF2_is]; exact P.out.pcs
      have BB : Hid (Below w.heap.size w wr) := BW.out.trans ⟨P.out.k.os, P.out.k.tape, P.out.k.output, P.out.k.size, fun g hg => P.out.k.block g (by have := BW.out.size; omega) (fun e => by have h1 := HW.out; omega)⟩
      have c0 := P.out.b0
      clear P S0
      go_upto_region 29 with fail
      have hck := cn_of2 j hr
      have h0 : ¬ (ckPg (cnF2 j)).1 = some 0 := by rw [hck]; unfold cnOk; split <;> simp
      have ECk : Hid _ := ckCheck_any (fun _ => True) (some ⟨g0, 0, none⟩) 1 (cnF2 j) wr PP.out (cn_ln2 j hr) (cn_bd2 j hr) _ rfl h0
      have HCK : Hid ((ckPg (cnF2 j)).1 = cnOk j 60) := hck
      clear hck h0 PP
      go_wp2_with fail
      refine Calls.mono ECk.out ?_
      rintro e8 w8 (⟨er, h8, rfl, b8⟩ | ⟨h8, p8, iv, im, vvs, hp8, rfl, I8, b8⟩)
      · rw [HCK.out] at h8
        unfold cnOk at h8
        by_cases hk : j ≤ 60
        · rw [if_pos hk] at h8; cases h8
        rw [if_neg hk] at h8
        cases h8
        have dk : decide ((j : Int) ≤ 60) = false := decide_eq_false (by omega)
        have B8 : Hid (Below w.heap.size w w8) := BB.out.trans (b8.mono BB.out.size)
        clear b8 ECk HCK hk
        go_wp2_with fail
        refine Calls.mono (known4 _) ?_
        rintro e9 w9 ⟨rfl, b9⟩
        have B9 : Hid (Below w.heap.size w w9) := B8.out.trans ((((box_below w8 _).trans ((box_below _ _).mono (by simp))).trans (b9.mono (by simp; omega))).mono B8.out.size)
        clear b9
        go_wp2_with fail
        go_ret
        exact ⟨rfl, B9.out⟩
      · rw [HCK.out] at h8
        unfold cnOk at h8
        by_cases hk : j ≤ 60
        case neg => rw [if_neg hk] at h8; cases h8
        obtain ⟨va1, vc1, hiv⟩ := own_shape I8.rv
        obtain ⟨va2, vc2, him⟩ := own_shape I8.rm
        subst hiv him
        have dk : decide ((j : Int) ≤ 60) = true := decide_eq_true (by omega)
        have B8 : Hid (Below w.heap.size w w8) := BB.out.trans (b8.mono BB.out.size)
        clear b8 ECk HCK hk h8 I8 hp8
        go_wp2_with fail
        refine Calls.mono (known4 _) ?_
        rintro e9 w9 ⟨rfl, b9⟩
        have B9 : Hid (Below w.heap.size w w9) := B8.out.trans ((((box_below w8 _).trans ((box_below _ _).mono (by simp))).trans (b9.mono (by simp; omega))).mono B8.out.size)
        clear b9
        go_wp2_with fail
        go_ret
        exact ⟨rfl, B9.out⟩
end Go.Proofs.Ytoclmklfohimmaa
