/- Layer 5: the document's Eval: elements. -/
import Derived.Test.YthadpkmbbimleaaZFomI
namespace Go.Proofs.Ythadpkmbbimleaa
open Go.RowKit

set_option maxRecDepth 100000 in
set_option maxHeartbeats 4000000 in
theorem reval_ix (E : En) (a : Sx.Ex) (ih : REv E a) (A : Nat → Prop) (n : List UInt8) (m : Int) (sa : Option Addr) (sn sc : Nat) (s0 s1 s2 : Value) (w : World) (hs : ExS A w (.slice sa sn sc) [a]) (hE : EnM w s0 s1 s2 E) :
    Calls Try.prog 12 #[.agg #[.int .i64 4, .string ⟨n.toArray⟩, .int .i64 m, .slice sa sn sc], .agg #[s0, s1, s2]] w fun e w' => e = .returned (.tuple #[.int .i64 (Fo.wo E.T (.mk 4 n m [a])).1, .int .i64 (Fo.wo E.T (.mk 4 n m [a])).2]) ∧ Below w.heap.size w w' := by
  have HW : Hid (Fo.wo E.T (.mk 4 n m [a]) = if ¬ (Fo.wo E.T a).2 = 0 then (0, (Fo.wo E.T a).2) else if 0 ≤ (Fo.wo E.T a).1 ∧ (Fo.wo E.T a).1 < ((E.T n).2.length : Int) then ((E.T n).2.getD (Fo.wo E.T a).1.toNat 0, 0) else (0, 2)) := by
    unfold Hid
    rw [Fo.wo]
    simp [Fo.built]
  have hrb : Fo.rb 4 n m 1 = true := by unfold Fo.rb Fo.built; simp
  have EL : Hid (∀ W, Below w.heap.size w W → _) := fun W (hW : Below w.heap.size w W) => rlist_any s0 s1 s2 E n W (hE.later hW)
  have hn := hs.len
  subst hn
  obtain ⟨g, o, k', n', m', sa', sn', sc', ll, rfl, hg, el, c0, c1, c2, c3, hs'⟩ := hs.part 0 (by simp)
  have ea : a = .mk k' n' m' ll := by simpa using el
  have E1 : Hid (∀ W, Below w.heap.size w W → Calls Try.prog 12 #[.agg #[.int .i64 k', .string ⟨n'.toArray⟩, .int .i64 m', .slice sa' sn' sc'], .agg #[s0, s1, s2]] W fun e w' => e = .returned (.tuple #[.int .i64 (Fo.wo E.T a).1, .int .i64 (Fo.wo E.T a).2]) ∧ Below W.heap.size W w') := fun W hW => ih A k' n' m' ll sa' sn' sc' s0 s1 s2 W ea (hs'.later hW (Nat.le_refl _)) (hE.later hW)
  simp only [Nat.zero_mul, Nat.add_zero] at c0 c1 c2 c3
  obtain ⟨i, t, hit⟩ : ∃ i t, Fo.wo E.T a = (i, t) := ⟨_, _, rfl⟩
  rw [hit] at HW E1
  rw [HW.out]
  clear hs hs' el ea ih hit HW
  generalize E.hasL n = hx at EL
  generalize (E.T n).2 = bx at EL ⊢
  obtain ⟨v1, v2, hv⟩ : ∃ v1 v2, (if ¬ t = 0 then ((0 : Int), t) else if 0 ≤ i ∧ i < (bx.length : Int) then (bx.getD i.toNat 0, 0) else ((0 : Int), (2 : Int))) = (v1, v2) := ⟨_, _, rfl⟩
  have HV : Hid _ := hv
  rw [hv]
  clear hv
  obtain ⟨p0, c0', rfl, -⟩ := hE.names
  obtain ⟨p1, c1', rfl, -⟩ := hE.vals
  obtain ⟨p2, c2', rfl, -⟩ := hE.lists
  clear hE
  generalize E.names.length = n0 at *
  generalize E.vals.length = n1 at *
  generalize E.lists.length = n2 at *
  obtain ⟨W0, hW0⟩ : ∃ W0, W0 = (w.alloc (.cells #[.int .i64 4, .string ⟨n.toArray⟩, .int .i64 m, .slice (some ⟨g, o, none⟩) 1 sc] 24)).alloc (.cells #[.slice p0 n0 c0', .slice p1 n1 c1', .slice p2 n2 c2'] 29) := ⟨_, rfl⟩
  have B0 : Hid (Below w.heap.size w W0) := by rw [hW0]; unfold Hid; go_grown
  have BX : Hid (Bx W0 w.heap.size (.int .i64 4) (.string ⟨n.toArray⟩) (.int .i64 m) (.slice (some ⟨g, o, none⟩) 1 sc)) := by rw [hW0]; exact (Bx.new w _ _ _ _ _).later (box_below _ _) (by simp)
  have BY : Hid (B3 W0 (w.heap.size + 1) (.slice p0 n0 c0') (.slice p1 n1 c1') (.slice p2 n2 c2')) := by rw [hW0]; unfold Hid; have := B3.new (w.alloc (.cells #[.int .i64 4, .string ⟨n.toArray⟩, .int .i64 m, .slice (some ⟨g, o, none⟩) 1 sc] 24)) 29 (.slice p0 n0 c0') (.slice p1 n1 c1') (.slice p2 n2 c2'); simpa using this
  have EB : Hid (∀ W, Below w.heap.size w W → _) := fun W (_ : Below w.heap.size w W) => rbuilt_any 4 n m (some ⟨g, o, none⟩) 1 sc W
  rw [hrb] at EB
  clear hrb
  go_enter Try.func12, Try.ntmps12
  go_wp2_with fail
  rw [← hW0]
  clear hW0
  refine Calls.mono (EB.out _ B0.out) ?_
  rintro e w1 ⟨rfl, b1⟩
  have B1 : Hid (Below w.heap.size w w1) := B0.out.trans (b1.mono B0.out.size)
  have X1 : Hid _ := BX.out.later b1 BX.out.lt
  have Y1 : Hid _ := BY.out.later b1 BY.out.lt
  clear b1 BX BY EB
  obtain ⟨y0, y1, y2, yl⟩ := Y1.out
  obtain ⟨d0, d1, d2, d3, f0, f1, f2, f3, zt⟩ := X1.out
  have a0 := (B1.out.cell (p := ⟨g, o, none⟩) hg).trans c0
  have a1 := (B1.out.cell (p := ⟨g, o + 1, none⟩) hg).trans c1
  have a2 := (B1.out.cell (p := ⟨g, o + 2, none⟩) hg).trans c2
  have a3 := (B1.out.cell (p := ⟨g, o + 3, none⟩) hg).trans c3
  go_wp2_with fail
  have E1' : Hid (∀ W, Below w1.heap.size w1 W → _) := fun W hW => E1.out W (B1.out.trans (hW.mono B1.out.size))
  go_cut [9, 10] from 60 (fun s9 s10 wc => EvR w (.int .i64 4) (.string ⟨n.toArray⟩) (.int .i64 m) (.slice (some ⟨g, o, none⟩) 1 sc) (.slice p0 n0 c0') (.slice p1 n1 c1') (.slice p2 n2 c2') i t s9 s10 wc)
  case first =>
    go_region_with (go_at_call 12; refine Calls.mono (E1'.out _ (by go_grown)) ?_; rintro e w2 ⟨rfl, b3⟩; have b2 : Below w1.heap.size w1 w2 := Below.trans (by go_grown) (b3.mono (by go_size)); have B2 : Hid (Below w.heap.size w w2) := B1.out.trans (b2.mono B1.out.size); have X2 : Hid _ := X1.out.later b2 X1.out.lt; have Y2 : Hid _ := Y1.out.later b2 Y1.out.lt)
    all_goals (go_wp2_with fail; go_meet; case rel => exact ⟨rfl, rfl, B2.out, X2.out, Y2.out⟩)
  case rest =>
  obtain ⟨rfl, rfl, bz, xz, yz⟩ := hcut
  have B2 : Hid _ := bz
  have X2 : Hid _ := xz
  have Y2 : Hid _ := yz
  clear a0 a1 a2 a3 y0 y1 y2 yl d0 d1 d2 d3 f0 f1 f2 f3 zt X1 Y1 bz xz yz
  obtain ⟨y0, y1, y2, yl⟩ := Y2.out
  obtain ⟨d0, d1, d2, d3, f0, f1, f2, f3, zt⟩ := X2.out
  by_cases h0 : t = 0
  · subst h0
    go_wp2_with fail
    refine Calls.mono (EL.out _ B2.out) ?_
    rintro e w3 ⟨ta, tn, tc, rfl, li, b3⟩
    have B3' : Hid (Below w.heap.size w w3) := B2.out.trans (b3.mono B2.out.size)
    obtain ⟨hl, hc⟩ := li
    subst hl
    clear b3 EL
    by_cases hp : 0 ≤ i ∧ i < (bx.length : Int)
    · obtain ⟨j, rfl⟩ : ∃ j : Nat, i = (j : Int) := ⟨i.toNat, by omega⟩
      have hj : j < bx.length := by omega
      obtain ⟨b, o', rfl, hb, hcell⟩ := hc (by omega)
      have cj := hcell j hj
      have hv := HV.out
      rw [if_neg (by simp), if_pos hp, Int.toNat_natCast] at hv
      have HJ : Hid (bx.getD j 0 = v1 ∧ 0 = v2) := ⟨congrArg Prod.fst hv, congrArg Prod.snd hv⟩
      clear hv HV
      clear hcell hp hc
      generalize bx.getD j 0 = v at cj HJ
      go_wp2_with fail
      go_ret2
      exact ⟨ret_two HJ.out.1 HJ.out.2, B3'.out⟩
    · by_cases hi : i < 0
      · have d4 : decide (i < 0) = true := decide_eq_true hi
        have hv := HV.out
        rw [if_neg (by simp), if_neg hp] at hv
        have HJ : Hid (0 = v1 ∧ 2 = v2) := ⟨congrArg Prod.fst hv, congrArg Prod.snd hv⟩
        clear hv HV
        clear hp hi hc
        go_wp2_with fail
        go_ret2
        exact ⟨ret_two HJ.out.1 HJ.out.2, B3'.out⟩
      · have d4 : decide (i < 0) = false := decide_eq_false hi
        have d5 : decide ((bx.length : Int) ≤ i) = true := decide_eq_true (by omega)
        have hv := HV.out
        rw [if_neg (by simp), if_neg hp] at hv
        have HJ : Hid (0 = v1 ∧ 2 = v2) := ⟨congrArg Prod.fst hv, congrArg Prod.snd hv⟩
        clear hv HV
        clear hp hi hc
        go_wp2_with fail
        go_ret2
        exact ⟨ret_two HJ.out.1 HJ.out.2, B3'.out⟩
  · have hv := HV.out
    rw [if_pos h0] at hv
    have HJ : Hid (0 = v1 ∧ t = v2) := ⟨congrArg Prod.fst hv, congrArg Prod.snd hv⟩
    clear hv HV
    have bt : (t == 0) = false := beq_eq_false_iff_ne.2 h0
    clear h0
    go_wp2_with fail
    go_ret2
    exact ⟨ret_two HJ.out.1 HJ.out.2, B2.out⟩
end Go.Proofs.Ythadpkmbbimleaa
