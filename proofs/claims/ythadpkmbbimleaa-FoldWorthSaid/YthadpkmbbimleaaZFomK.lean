/- Layer 5: the document's Eval: two with a sign between. -/
import Derived.Test.YthadpkmbbimleaaZFomI
namespace Go.Proofs.Ythadpkmbbimleaa
open Go.RowKit

set_option maxRecDepth 100000 in
set_option maxHeartbeats 4000000 in
theorem reval_bin (E : En) (a : Sx.Ex) (b : Sx.Ex) (ih : REv E a) (ih2 : REv E b) (A : Nat → Prop) (n : List UInt8) (m : Int) (sa : Option Addr) (sn sc : Nat) (s0 s1 s2 : Value) (w : World) (hs : ExS A w (.slice sa sn sc) [a, b]) (hE : EnM w s0 s1 s2 E) (hu : (Fo.isRe n || Fo.isTe n) = true) (hi : I64 (Fo.wo E.T a).1) (hj : I64 (Fo.wo E.T b).1) :
    Calls Try.prog 12 #[.agg #[.int .i64 6, .string ⟨n.toArray⟩, .int .i64 m, .slice sa sn sc], .agg #[s0, s1, s2]] w fun e w' => e = .returned (.tuple #[.int .i64 (Fo.wo E.T (.mk 6 n m [a, b])).1, .int .i64 (Fo.wo E.T (.mk 6 n m [a, b])).2]) ∧ Below w.heap.size w w' := by
  have HW : Hid (Fo.wo E.T (.mk 6 n m [a, b]) = if ¬ (Fo.wo E.T a).2 = 0 then (0, (Fo.wo E.T a).2) else if (n = [38, 38] ∧ (Fo.wo E.T a).1 = 0) ∨ (n = [124, 124] ∧ ¬ (Fo.wo E.T a).1 = 0) then (Fo.bI (decide (¬ (Fo.wo E.T a).1 = 0)), 0) else if ¬ (Fo.wo E.T b).2 = 0 then (0, (Fo.wo E.T b).2) else Fo.re (Fo.wo E.T a).1 n (Fo.wo E.T b).1) := by
    unfold Hid
    rw [Fo.wo, if_neg (by unfold Fo.built; simp [hu]), if_neg (by decide), if_neg (by decide), if_neg (by decide)]
  have hrb : Fo.rb 6 n m 2 = true := by unfold Fo.rb Fo.built; simp [hu]
  obtain ⟨_, _, k2, n2', m2, sa2, sn2, sc2, ll2, e2, _, el2, q0, q1, q2, q3, hs2⟩ := hs.part 1 (by simp)
  have eb : b = .mk k2 n2' m2 ll2 := by simpa using el2
  have E2 : Hid (∀ W, Below w.heap.size w W → Calls Try.prog 12 #[.agg #[.int .i64 k2, .string ⟨n2'.toArray⟩, .int .i64 m2, .slice sa2 sn2 sc2], .agg #[s0, s1, s2]] W fun e w' => e = .returned (.tuple #[.int .i64 (Fo.wo E.T b).1, .int .i64 (Fo.wo E.T b).2]) ∧ Below W.heap.size W w') := fun W hW => ih2 A k2 n2' m2 ll2 sa2 sn2 sc2 s0 s1 s2 W eb (hs2.later hW (Nat.le_refl _)) (hE.later hW)
  have hn := hs.len
  subst hn
  obtain ⟨g, o, k', n', m', sa', sn', sc', ll, rfl, hg, el, c0, c1, c2, c3, hs'⟩ := hs.part 0 (by simp)
  have ea : a = .mk k' n' m' ll := by simpa using el
  have E1 : Hid (∀ W, Below w.heap.size w W → Calls Try.prog 12 #[.agg #[.int .i64 k', .string ⟨n'.toArray⟩, .int .i64 m', .slice sa' sn' sc'], .agg #[s0, s1, s2]] W fun e w' => e = .returned (.tuple #[.int .i64 (Fo.wo E.T a).1, .int .i64 (Fo.wo E.T a).2]) ∧ Below W.heap.size W w') := fun W hW => ih A k' n' m' ll sa' sn' sc' s0 s1 s2 W ea (hs'.later hW (Nat.le_refl _)) (hE.later hW)
  simp only [Nat.zero_mul, Nat.add_zero] at c0 c1 c2 c3
  obtain ⟨i, t, hit⟩ : ∃ i t, Fo.wo E.T a = (i, t) := ⟨_, _, rfl⟩
  rw [hit] at HW E1
  rw [HW.out]
  injection e2 with e2
  injection e2 with e3 e4
  subst e3 e4
  simp only [Nat.one_mul, Nat.add_assoc, Nat.reduceAdd] at q0 q1 q2 q3
  obtain ⟨j, u, hju⟩ : ∃ j u, Fo.wo E.T b = (j, u) := ⟨_, _, rfl⟩
  have E3 : Hid (∀ W, _) := fun W => rtwo_any i j n hu (by rw [hit] at hi; exact hi.1) (by rw [hit] at hi; exact hi.2) (by rw [hju] at hj; exact hj.1) (by rw [hju] at hj; exact hj.2) W
  rw [hju]
  rw [hju] at E2
  clear hs hs' el ea ih hit HW hs2 el2 eb ih2 hju hi hj hu
  obtain ⟨v1, v2, hv⟩ : ∃ v1 v2, (if ¬ t = 0 then ((0 : Int), t) else if (n = [38, 38] ∧ i = 0) ∨ (n = [124, 124] ∧ ¬ i = 0) then (Fo.bI (decide (¬ i = 0)), 0) else if ¬ u = 0 then (0, u) else Fo.re i n j) = (v1, v2) := ⟨_, _, rfl⟩
  have HV : Hid _ := hv
  rw [hv]
  clear hv
  obtain ⟨p0, c0', rfl, -⟩ := hE.names
  obtain ⟨p1, c1', rfl, -⟩ := hE.vals
  obtain ⟨p2, c2', rfl, -⟩ := hE.lists
  clear hE
  generalize E.names.length = n0 at *
  generalize E.vals.length = n1 at *
  generalize E.lists.length = n2 at *
  obtain ⟨W0, hW0⟩ : ∃ W0, W0 = (w.alloc (.cells #[.int .i64 6, .string ⟨n.toArray⟩, .int .i64 m, .slice (some ⟨g, o, none⟩) 2 sc] 24)).alloc (.cells #[.slice p0 n0 c0', .slice p1 n1 c1', .slice p2 n2 c2'] 29) := ⟨_, rfl⟩
  have B0 : Hid (Below w.heap.size w W0) := by rw [hW0]; unfold Hid; go_grown
  have BX : Hid (Bx W0 w.heap.size (.int .i64 6) (.string ⟨n.toArray⟩) (.int .i64 m) (.slice (some ⟨g, o, none⟩) 2 sc)) := by rw [hW0]; exact (Bx.new w _ _ _ _ _).later (box_below _ _) (by simp)
  have BY : Hid (B3 W0 (w.heap.size + 1) (.slice p0 n0 c0') (.slice p1 n1 c1') (.slice p2 n2 c2')) := by rw [hW0]; unfold Hid; have := B3.new (w.alloc (.cells #[.int .i64 6, .string ⟨n.toArray⟩, .int .i64 m, .slice (some ⟨g, o, none⟩) 2 sc] 24)) 29 (.slice p0 n0 c0') (.slice p1 n1 c1') (.slice p2 n2 c2'); simpa using this
  have EB : Hid (∀ W, Below w.heap.size w W → _) := fun W (_ : Below w.heap.size w W) => rbuilt_any 6 n m (some ⟨g, o, none⟩) 2 sc W
  rw [hrb] at EB
  clear hrb
  go_enter Try.func12, Try.ntmps12
  go_wp2_with fail
  rw [← hW0]
  clear hW0
  refine Calls.mono (EB.out _ B0.out) ?_
  rintro e w1 ⟨rfl, b1⟩
  have B1 : Hid (Below w.heap.size w w1) := B0.out.trans (b1.mono B0.out.size)
  have X1 : Hid _ := BX.out.later b1 BX.out.lt
  have Y1 : Hid _ := BY.out.later b1 BY.out.lt
  clear b1 BX BY EB
  obtain ⟨y0, y1, y2, yl⟩ := Y1.out
  obtain ⟨d0, d1, d2, d3, f0, f1, f2, f3, zt⟩ := X1.out
  have a0 := (B1.out.cell (p := ⟨g, o, none⟩) hg).trans c0
  have a1 := (B1.out.cell (p := ⟨g, o + 1, none⟩) hg).trans c1
  have a2 := (B1.out.cell (p := ⟨g, o + 2, none⟩) hg).trans c2
  have a3 := (B1.out.cell (p := ⟨g, o + 3, none⟩) hg).trans c3
  go_wp2_with fail
  have E1' : Hid (∀ W, Below w1.heap.size w1 W → _) := fun W hW => E1.out W (B1.out.trans (hW.mono B1.out.size))
  go_cut [9, 10] from 60 (fun s9 s10 wc => EvR w (.int .i64 6) (.string ⟨n.toArray⟩) (.int .i64 m) (.slice (some ⟨g, o, none⟩) 2 sc) (.slice p0 n0 c0') (.slice p1 n1 c1') (.slice p2 n2 c2') i t s9 s10 wc)
  case first =>
    go_region_with (go_at_call 12; refine Calls.mono (E1'.out _ (by go_grown)) ?_; rintro e w2 ⟨rfl, b3⟩; have b2 : Below w1.heap.size w1 w2 := Below.trans (by go_grown) (b3.mono (by go_size)); have B2 : Hid (Below w.heap.size w w2) := B1.out.trans (b2.mono B1.out.size); have X2 : Hid _ := X1.out.later b2 X1.out.lt; have Y2 : Hid _ := Y1.out.later b2 Y1.out.lt)
    all_goals (go_wp2_with fail; go_meet; case rel => exact ⟨rfl, rfl, B2.out, X2.out, Y2.out⟩)
  case rest =>
  obtain ⟨rfl, rfl, bz, xz, yz⟩ := hcut
  have B2 : Hid _ := bz
  have X2 : Hid _ := xz
  have Y2 : Hid _ := yz
  clear a0 a1 a2 a3 y0 y1 y2 yl d0 d1 d2 d3 f0 f1 f2 f3 zt X1 Y1 bz xz yz
  obtain ⟨y0, y1, y2, yl⟩ := Y2.out
  obtain ⟨d0, d1, d2, d3, f0, f1, f2, f3, zt⟩ := X2.out
  by_cases h0 : t = 0
  · subst h0
    by_cases hq : (n = [38, 38] ∧ i = 0) ∨ (n = [124, 124] ∧ ¬ i = 0)
    · have hv := HV.out
      rw [if_neg (by simp), if_pos hq] at hv
      have HJ : Hid (Fo.bI (decide (¬ i = 0)) = v1 ∧ 0 = v2) := ⟨congrArg Prod.fst hv, congrArg Prod.snd hv⟩
      clear hv HV
      rcases hq with ⟨hn, rfl⟩ | ⟨hn, hi⟩
      · have t1 : (n == [38, 38]) = true := beq_iff_eq.2 hn
        clear hn
        go_wp2_with fail
        go_ret2
        exact ⟨ret_two HJ.out.1 HJ.out.2, B2.out⟩
      · have bi : (i == 0) = false := beq_eq_false_iff_ne.2 hi
        have HI : Hid (1 = v1) := by have := HJ.out.1; rw [decide_eq_true hi] at this; exact this
        have t1 : (n == [38, 38]) = false := text_f (by rw [hn]; decide)
        have t2 : (n == [124, 124]) = true := beq_iff_eq.2 hn
        clear hi hn
        go_wp2_with fail
        go_ret2
        exact ⟨ret_two HI.out HJ.out.2, B2.out⟩
    · by_cases c1 : n = [38, 38]
      · have t1 : (n == [38, 38]) = true := beq_iff_eq.2 c1
        have t2 : (n == [124, 124]) = false := text_f (by rw [c1]; decide)
        have bi : (i == 0) = false := beq_eq_false_iff_ne.2 fun e => hq (.inl ⟨c1, e⟩)
        have HV' : Hid ((if ¬ u = 0 then ((0 : Int), u) else Fo.re i n j) = (v1, v2)) := by
          have hv := HV.out
          rw [if_neg (by simp), if_neg hq] at hv
          exact hv
        clear HV hq c1
        have a0 := (B2.out.cell (p := ⟨g, o + 4, none⟩) hg).trans q0
        have a1 := (B2.out.cell (p := ⟨g, o + 5, none⟩) hg).trans q1
        have a2 := (B2.out.cell (p := ⟨g, o + 6, none⟩) hg).trans q2
        have a3 := (B2.out.cell (p := ⟨g, o + 7, none⟩) hg).trans q3
        go_wp2_with fail
        have E2' : Hid (∀ W, Below wc.heap.size wc W → _) := fun W hW => E2.out W (B2.out.trans (hW.mono B2.out.size))
        go_cut [13, 14] from 124 (fun s9 s10 wc => EvR w (.int .i64 6) (.string ⟨n.toArray⟩) (.int .i64 m) (.slice (some ⟨g, o, none⟩) 2 sc) (.slice p0 n0 c0') (.slice p1 n1 c1') (.slice p2 n2 c2') j u s9 s10 wc)
        case first =>
          go_region_with (go_at_call 12; refine Calls.mono (E2'.out _ (by go_grown)) ?_; rintro e w2 ⟨rfl, b3⟩; have b2 : Below wc.heap.size wc w2 := Below.trans (by go_grown) (b3.mono (by go_size)); have B2 : Hid (Below w.heap.size w w2) := B2.out.trans (b2.mono B2.out.size); have X2 : Hid _ := X2.out.later b2 X2.out.lt; have Y2 : Hid _ := Y2.out.later b2 Y2.out.lt)
          all_goals (go_wp2_with fail; go_meet; case rel => exact ⟨rfl, rfl, B2.out, X2.out, Y2.out⟩)
        case rest =>
        obtain ⟨rfl, rfl, bz, xz, yz⟩ := hcut
        have B4 : Hid _ := bz
        have X4 : Hid _ := xz
        have Y4 : Hid _ := yz
        clear a0 a1 a2 a3 y0 y1 y2 yl d0 d1 d2 d3 f0 f1 f2 f3 zt X2 Y2 bz xz yz
        obtain ⟨y0, y1, y2, yl⟩ := Y4.out
        obtain ⟨d0, d1, d2, d3, f0, f1, f2, f3, zt⟩ := X4.out
        by_cases hu0 : u = 0
        · subst hu0
          have hv := HV'.out
          rw [if_neg (by simp)] at hv
          have HJ : Hid ((Fo.re i n j).1 = v1 ∧ (Fo.re i n j).2 = v2) := ⟨congrArg Prod.fst hv, congrArg Prod.snd hv⟩
          clear hv HV'
          go_wp2_with fail
          refine Calls.mono (E3.out _) ?_
          rintro e w5 ⟨rfl, b5⟩
          have B5 : Hid (Below w.heap.size w w5) := B4.out.trans (b5.mono B4.out.size)
          clear b5
          go_wp2_with fail
          go_ret2
          exact ⟨ret_two HJ.out.1 HJ.out.2, B5.out⟩
        · have bu : (u == 0) = false := beq_eq_false_iff_ne.2 hu0
          have hv := HV'.out
          rw [if_pos hu0] at hv
          have HJ : Hid (0 = v1 ∧ u = v2) := ⟨congrArg Prod.fst hv, congrArg Prod.snd hv⟩
          clear hv HV' hu0
          go_wp2_with fail
          go_ret2
          exact ⟨ret_two HJ.out.1 HJ.out.2, B4.out⟩
      · by_cases c2 : n = [124, 124]
        · have t1 : (n == [38, 38]) = false := text_f c1
          have t2 : (n == [124, 124]) = true := beq_iff_eq.2 c2
          obtain rfl : i = 0 := Classical.byContradiction fun e => hq (.inr ⟨c2, e⟩)
          have HV' : Hid ((if ¬ u = 0 then ((0 : Int), u) else Fo.re 0 n j) = (v1, v2)) := by
            have hv := HV.out
            rw [if_neg (by simp), if_neg hq] at hv
            exact hv
          clear HV hq c1 c2
          have a0 := (B2.out.cell (p := ⟨g, o + 4, none⟩) hg).trans q0
          have a1 := (B2.out.cell (p := ⟨g, o + 5, none⟩) hg).trans q1
          have a2 := (B2.out.cell (p := ⟨g, o + 6, none⟩) hg).trans q2
          have a3 := (B2.out.cell (p := ⟨g, o + 7, none⟩) hg).trans q3
          go_wp2_with fail
          have E2' : Hid (∀ W, Below wc.heap.size wc W → _) := fun W hW => E2.out W (B2.out.trans (hW.mono B2.out.size))
          go_cut [13, 14] from 124 (fun s9 s10 wc => EvR w (.int .i64 6) (.string ⟨n.toArray⟩) (.int .i64 m) (.slice (some ⟨g, o, none⟩) 2 sc) (.slice p0 n0 c0') (.slice p1 n1 c1') (.slice p2 n2 c2') j u s9 s10 wc)
          case first =>
            go_region_with (go_at_call 12; refine Calls.mono (E2'.out _ (by go_grown)) ?_; rintro e w2 ⟨rfl, b3⟩; have b2 : Below wc.heap.size wc w2 := Below.trans (by go_grown) (b3.mono (by go_size)); have B2 : Hid (Below w.heap.size w w2) := B2.out.trans (b2.mono B2.out.size); have X2 : Hid _ := X2.out.later b2 X2.out.lt; have Y2 : Hid _ := Y2.out.later b2 Y2.out.lt)
            all_goals (go_wp2_with fail; go_meet; case rel => exact ⟨rfl, rfl, B2.out, X2.out, Y2.out⟩)
          case rest =>
          obtain ⟨rfl, rfl, bz, xz, yz⟩ := hcut
          have B4 : Hid _ := bz
          have X4 : Hid _ := xz
          have Y4 : Hid _ := yz
          clear a0 a1 a2 a3 y0 y1 y2 yl d0 d1 d2 d3 f0 f1 f2 f3 zt X2 Y2 bz xz yz
          obtain ⟨y0, y1, y2, yl⟩ := Y4.out
          obtain ⟨d0, d1, d2, d3, f0, f1, f2, f3, zt⟩ := X4.out
          by_cases hu0 : u = 0
          · subst hu0
            have hv := HV'.out
            rw [if_neg (by simp)] at hv
            have HJ : Hid ((Fo.re 0 n j).1 = v1 ∧ (Fo.re 0 n j).2 = v2) := ⟨congrArg Prod.fst hv, congrArg Prod.snd hv⟩
            clear hv HV'
            go_wp2_with fail
            refine Calls.mono (E3.out _) ?_
            rintro e w5 ⟨rfl, b5⟩
            have B5 : Hid (Below w.heap.size w w5) := B4.out.trans (b5.mono B4.out.size)
            clear b5
            go_wp2_with fail
            go_ret2
            exact ⟨ret_two HJ.out.1 HJ.out.2, B5.out⟩
          · have bu : (u == 0) = false := beq_eq_false_iff_ne.2 hu0
            have hv := HV'.out
            rw [if_pos hu0] at hv
            have HJ : Hid (0 = v1 ∧ u = v2) := ⟨congrArg Prod.fst hv, congrArg Prod.snd hv⟩
            clear hv HV' hu0
            go_wp2_with fail
            go_ret2
            exact ⟨ret_two HJ.out.1 HJ.out.2, B4.out⟩
        · have t1 : (n == [38, 38]) = false := text_f c1
          have t2 : (n == [124, 124]) = false := text_f c2
          skip
          have HV' : Hid ((if ¬ u = 0 then ((0 : Int), u) else Fo.re i n j) = (v1, v2)) := by
            have hv := HV.out
            rw [if_neg (by simp), if_neg hq] at hv
            exact hv
          clear HV hq c1 c2
          have a0 := (B2.out.cell (p := ⟨g, o + 4, none⟩) hg).trans q0
          have a1 := (B2.out.cell (p := ⟨g, o + 5, none⟩) hg).trans q1
          have a2 := (B2.out.cell (p := ⟨g, o + 6, none⟩) hg).trans q2
          have a3 := (B2.out.cell (p := ⟨g, o + 7, none⟩) hg).trans q3
          go_wp2_with fail
          have E2' : Hid (∀ W, Below wc.heap.size wc W → _) := fun W hW => E2.out W (B2.out.trans (hW.mono B2.out.size))
          go_cut [13, 14] from 124 (fun s9 s10 wc => EvR w (.int .i64 6) (.string ⟨n.toArray⟩) (.int .i64 m) (.slice (some ⟨g, o, none⟩) 2 sc) (.slice p0 n0 c0') (.slice p1 n1 c1') (.slice p2 n2 c2') j u s9 s10 wc)
          case first =>
            go_region_with (go_at_call 12; refine Calls.mono (E2'.out _ (by go_grown)) ?_; rintro e w2 ⟨rfl, b3⟩; have b2 : Below wc.heap.size wc w2 := Below.trans (by go_grown) (b3.mono (by go_size)); have B2 : Hid (Below w.heap.size w w2) := B2.out.trans (b2.mono B2.out.size); have X2 : Hid _ := X2.out.later b2 X2.out.lt; have Y2 : Hid _ := Y2.out.later b2 Y2.out.lt)
            all_goals (go_wp2_with fail; go_meet; case rel => exact ⟨rfl, rfl, B2.out, X2.out, Y2.out⟩)
          case rest =>
          obtain ⟨rfl, rfl, bz, xz, yz⟩ := hcut
          have B4 : Hid _ := bz
          have X4 : Hid _ := xz
          have Y4 : Hid _ := yz
          clear a0 a1 a2 a3 y0 y1 y2 yl d0 d1 d2 d3 f0 f1 f2 f3 zt X2 Y2 bz xz yz
          obtain ⟨y0, y1, y2, yl⟩ := Y4.out
          obtain ⟨d0, d1, d2, d3, f0, f1, f2, f3, zt⟩ := X4.out
          by_cases hu0 : u = 0
          · subst hu0
            have hv := HV'.out
            rw [if_neg (by simp)] at hv
            have HJ : Hid ((Fo.re i n j).1 = v1 ∧ (Fo.re i n j).2 = v2) := ⟨congrArg Prod.fst hv, congrArg Prod.snd hv⟩
            clear hv HV'
            go_wp2_with fail
            refine Calls.mono (E3.out _) ?_
            rintro e w5 ⟨rfl, b5⟩
            have B5 : Hid (Below w.heap.size w w5) := B4.out.trans (b5.mono B4.out.size)
            clear b5
            go_wp2_with fail
            go_ret2
            exact ⟨ret_two HJ.out.1 HJ.out.2, B5.out⟩
          · have bu : (u == 0) = false := beq_eq_false_iff_ne.2 hu0
            have hv := HV'.out
            rw [if_pos hu0] at hv
            have HJ : Hid (0 = v1 ∧ u = v2) := ⟨congrArg Prod.fst hv, congrArg Prod.snd hv⟩
            clear hv HV' hu0
            go_wp2_with fail
            go_ret2
            exact ⟨ret_two HJ.out.1 HJ.out.2, B4.out⟩
  · have hv := HV.out
    rw [if_pos h0] at hv
    have HJ : Hid (0 = v1 ∧ t = v2) := ⟨congrArg Prod.fst hv, congrArg Prod.snd hv⟩
    clear hv HV
    have bt : (t == 0) = false := beq_eq_false_iff_ne.2 h0
    clear h0
    go_wp2_with fail
    go_ret2
    exact ⟨ret_two HJ.out.1 HJ.out.2, B2.out⟩
end Go.Proofs.Ythadpkmbbimleaa
