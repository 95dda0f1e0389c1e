/- Layer 5: FoldWorth, walked. -/
import Derived.Test.YthadpkmbbimleaaZFomF
import Derived.Test.YthadpkmbbimleaaZFomM
import Derived.Test.YthadpkmbbimleaaZFomO
namespace Go.Proofs.Ythadpkmbbimleaa
open Go.RowKit

set_option maxRecDepth 100000 in
set_option maxHeartbeats 4000000 in
theorem worth_walk (A : Nat → Prop) (k : Int) (n : List UInt8) (m : Int) (l : List Sx.Ex) (sa : Option Addr) (sc : Nat) (s0 s1 s2 : Value) (E : En) (w : World) (hrg : Fo.Rg (.mk k n m l)) (hR : E.Rg) (hnl : Fo.Nl (.mk k n m l)) (hs : ExS A w (.slice sa l.length sc) l) (hE : EnM w s0 s1 s2 E) :
    Calls Try.prog 4 #[.agg #[.int .i64 k, .string ⟨n.toArray⟩, .int .i64 m, .slice sa l.length sc], .agg #[s0, s1, s2]] w fun e w' => e = .returned (.bool true) ∧ Below w.heap.size w w' := by
  have EG : Hid (∀ W, Below w.heap.size w W → _) := fun W hW => great_any hnl A k n m l sa sc W rfl (hs.later hW (Nat.le_refl _))
  have EM : Hid (∀ W, Below w.heap.size w W → Calls Try.prog 8 #[.agg #[s0, s1, s2]] W fun e w' => IsB e ∧ Below W.heap.size W w') := fun W hW => many_any s0 s1 s2 E W (hE.later hW)
  have ER : Hid (∀ W, Below w.heap.size w W → _) := fun W (hW : Below w.heap.size w W) => reval_any E hR hrg A k n m l sa l.length sc s0 s1 s2 W rfl (hs.later hW (Nat.le_refl _)) (hE.later hW)
  have EF : Hid (Fo.Bnd (.mk k n m l) → ∀ W, Below w.heap.size w W → Calls Try.prog 13 #[.agg #[.int .i64 k, .string ⟨n.toArray⟩, .int .i64 m, .slice sa l.length sc]] W fun e w' => ∃ ka na ma sb cb, ∃ la : List Sx.Ex, e = .returned (.agg #[.int .i64 ka, .string ⟨(na : List UInt8).toArray⟩, .int .i64 ma, .slice sb la.length cb]) ∧ Below W.heap.size W w' ∧
      ∀ W', Below w'.heap.size w' W' → Calls Try.prog 12 #[.agg #[.int .i64 ka, .string ⟨na.toArray⟩, .int .i64 ma, .slice sb la.length cb], .agg #[s0, s1, s2]] W' fun e w'' => e = .returned (.tuple #[.int .i64 (Fo.wo E.T (.mk k n m l)).1, .int .i64 (Fo.wo E.T (.mk k n m l)).2]) ∧ Below W'.heap.size W' w'') := by
    intro hb W hW
    refine (foldExpr_any hb hrg A k n m l sa sc W rfl (hs.later hW (Nat.le_refl _))).mono ?_
    rintro e w' ⟨ka, na, ma, sb, cb, la, ya, rfl, xa, b2⟩
    refine ⟨ka, na, ma, sb, cb, la, rfl, b2, fun W' hW' => ?_⟩
    have hq := reval_any E hR (Fo.fo_rg hrg) _ ka na ma la sb la.length cb s0 s1 s2 W' ya (xa.later hW' (Nat.le_refl _)) (hE.later ((hW.trans (b2.mono hW.size)).trans (hW'.mono (Nat.le_trans hW.size b2.size))))
    rw [Fo.fo_worth hR.tells hrg] at hq
    exact hq
  generalize (Fo.wo E.T (.mk k n m l)).1 = i at EF ER
  generalize (Fo.wo E.T (.mk k n m l)).2 = t at EF ER
  obtain ⟨p0, c0, rfl, -⟩ := hE.names
  obtain ⟨p1, c1, rfl, -⟩ := hE.vals
  obtain ⟨p2, c2, rfl, -⟩ := hE.lists
  clear hs hnl hE hrg hR
  generalize E.names.length = n0 at *
  generalize E.vals.length = n1 at *
  generalize E.lists.length = n2 at *
  obtain ⟨W0, hW0⟩ : ∃ W0, W0 = (w.alloc (.cells #[.int .i64 k, .string ⟨n.toArray⟩, .int .i64 m, .slice sa l.length sc] 24)).alloc (.cells #[.slice p0 n0 c0, .slice p1 n1 c1, .slice p2 n2 c2] 29) := ⟨_, rfl⟩
  have B0 : Hid (Below w.heap.size w W0) := by rw [hW0]; unfold Hid; go_grown
  have BX : Hid (Bx W0 w.heap.size (.int .i64 k) (.string ⟨n.toArray⟩) (.int .i64 m) (.slice sa l.length sc)) := by rw [hW0]; exact (Bx.new w _ _ _ _ _).later (box_below _ _) (by simp)
  have BY : Hid (B3 W0 (w.heap.size + 1) (.slice p0 n0 c0) (.slice p1 n1 c1) (.slice p2 n2 c2)) := by rw [hW0]; unfold Hid; have := B3.new (w.alloc (.cells #[.int .i64 k, .string ⟨n.toArray⟩, .int .i64 m, .slice sa l.length sc] 24)) 29 (.slice p0 n0 c0) (.slice p1 n1 c1) (.slice p2 n2 c2); simpa using this
  go_enter Try.func4, Try.ntmps4
  go_wp2_with fail
  rw [← hW0]
  clear hW0
  refine Calls.mono (EG.out _ B0.out) ?_
  rintro e w1 ⟨b, rfl, hb, b1⟩
  have B1 : Hid (Below w.heap.size w w1) := B0.out.trans (b1.mono B0.out.size)
  have X1 : Hid _ := BX.out.later b1 BX.out.lt
  have Y1 : Hid _ := BY.out.later b1 BY.out.lt
  have HB : Hid _ := hb
  clear b1 hb EG BX BY
  cases b with
  | true =>
    go_wp2_with fail
    refine Calls.mono (known5 _) ?_
    rintro e w2 ⟨rfl, b2⟩
    have B2 : Hid (Below w.heap.size w w2) := B1.out.trans (b2.mono B1.out.size)
    clear b2
    go_wp2_with fail
    go_ret
    exact ⟨rfl, B2.out⟩
  | false =>
    have bnd : Hid (Fo.Bnd (.mk k n m l)) := HB.out rfl
    obtain ⟨y0, y1, y2, yl⟩ := Y1.out
    clear HB
    go_wp2_with fail
    refine Calls.mono (EM.out _ B1.out) ?_
    rintro e w2 ⟨⟨b, rfl⟩, b2⟩
    have B2 : Hid (Below w.heap.size w w2) := B1.out.trans (b2.mono B1.out.size)
    have X2 : Hid _ := X1.out.later b2 X1.out.lt
    have Y2 : Hid _ := Y1.out.later b2 Y1.out.lt
    clear b2 EM X1 Y1 y0 y1 y2 yl
    cases b with
    | true =>
      go_wp2_with fail
      refine Calls.mono (known5 _) ?_
      rintro e w3 ⟨rfl, b3⟩
      have B3' : Hid (Below w.heap.size w w3) := B2.out.trans (b3.mono B2.out.size)
      clear b3
      go_wp2_with fail
      go_ret
      exact ⟨rfl, B3'.out⟩
    | false =>
      obtain ⟨y0, y1, y2, yl⟩ := Y2.out
      obtain ⟨d0, d1, d2, d3, f0, f1, f2, f3, zt⟩ := X2.out
      go_wp2_with fail
      refine Calls.mono (ER.out _ B2.out) ?_
      rintro e w3 ⟨rfl, b3⟩
      have B3' : Hid (Below w.heap.size w w3) := B2.out.trans (b3.mono B2.out.size)
      have X3 : Hid _ := X2.out.later b3 X2.out.lt
      have Y3 : Hid _ := Y2.out.later b3 Y2.out.lt
      clear y0 y1 y2 yl d0 d1 d2 d3 f0 f1 f2 f3 zt X2 Y2 b3
      obtain ⟨y0, y1, y2, yl⟩ := Y3.out
      obtain ⟨d0, d1, d2, d3, f0, f1, f2, f3, zt⟩ := X3.out
      have EF' : Hid (∀ W, Below w3.heap.size w3 W → _) := fun W hW => EF.out bnd.out W (B3'.out.trans (hW.mono B3'.out.size))
      go_wp2_with fail
      go_cut [7, 8] from 22 (fun s7 s8 wc => EvR w (.int .i64 k) (.string ⟨n.toArray⟩) (.int .i64 m) (.slice sa l.length sc) (.slice p0 n0 c0) (.slice p1 n1 c1) (.slice p2 n2 c2) i t s7 s8 wc)
      case first =>
        go_region_with (first
          | (go_at_call 13; refine Calls.mono (EF'.out _ (by go_grown)) ?_; rintro e w4 ⟨ka, na, ma, sb, cb, la, rfl, b4, q4⟩; have b5 : Below w3.heap.size w3 w4 := Below.trans (by go_grown) (b4.mono (by go_size)); have B4 : Hid (Below w.heap.size w w4) := B3'.out.trans (b5.mono B3'.out.size); have X4 : Hid _ := X3.out.later b5 X3.out.lt; have Y4 : Hid _ := Y3.out.later b5 Y3.out.lt; have Q4 : Hid _ := q4; obtain ⟨z0, z1, z2, zl⟩ := Y4.out)
          | (go_at_call 12; refine Calls.mono (Q4.out _ (Below.refl _ _)) ?_; rintro e w5 ⟨rfl, b6⟩; have B5 : Hid (Below w.heap.size w w5) := B4.out.trans (b6.mono B4.out.size); have X5 : Hid _ := X4.out.later b6 X4.out.lt; have Y5 : Hid _ := Y4.out.later b6 Y4.out.lt))
        all_goals (go_wp2_with fail; go_meet; case rel => exact ⟨rfl, rfl, B5.out, X5.out, Y5.out⟩)
      case rest =>
      obtain ⟨rfl, rfl, bz, xz, yz⟩ := hcut
      have B4 : Hid _ := bz
      have X4 : Hid _ := xz
      have Y4 : Hid _ := yz
      clear y0 y1 y2 yl d0 d1 d2 d3 f0 f1 f2 f3 zt X3 Y3 bz xz yz
      obtain ⟨y0, y1, y2, yl⟩ := Y4.out
      obtain ⟨d0, d1, d2, d3, f0, f1, f2, f3, zt⟩ := X4.out
      have B5 : Hid _ := B4.out
      go_wp2_with fail
      refine Calls.mono (known5 _) ?_
      rintro e w6 ⟨rfl, b6⟩
      have B6 : Hid (Below w.heap.size w w6) := B5.out.trans (b6.mono B5.out.size)
      clear b6
      go_wp2_with fail
      go_ret
      exact ⟨rfl, B6.out⟩
end Go.Proofs.Ythadpkmbbimleaa
