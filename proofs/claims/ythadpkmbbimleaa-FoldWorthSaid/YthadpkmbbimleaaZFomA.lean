/- Layer 5: FoldTwice, walked. -/
import Derived.Test.YthadpkmbbimleaaZFolZ
namespace Go.Proofs.Ythadpkmbbimleaa
open Go.RowKit

namespace Fo
open Sx
theorem lit_bnd (n : Int) : Bnd (lit n) := by
  unfold lit
  repeat' split
  · exact bnd2 _ _ _ (bnd1 _ _ _ (bnd0 _ _ _)) (bnd0 _ _ _)
  · exact bnd1 _ _ _ (bnd0 _ _ _)
  · exact bnd0 _ _ _
theorem Bnd.part {x : Ex} (h : Bnd x) (j : Nat) : Bnd ((pa x).getD j e0) := by
  cases h with
  | mk k n m l hl h =>
    show Bnd (l.getD j e0)
    rw [List.getD_eq_getElem?_getD]
    cases e : l[j]? with
    | none => exact bnd0 _ _ _
    | some y => exact h y (List.mem_of_getElem? e)
theorem kn_bnd {x y : Ex} (e : kn x = some y) : Bnd y := by
  unfold kn at e
  split at e
  · injection e with e
    rw [← e]
    split
    · exact bnd0 _ _ _
    · exact lit_bnd _
  · cases e
theorem sm_bnd {x : Ex} (h : Bnd x) : Bnd (sm x) := by
  unfold sm
  split
  · split
    · rename_i y e; exact kn_bnd e
    · split
      · unfold su
        split
        · exact (h.part 0).part 0
        · exact h
      · unfold st
        repeat' split
        all_goals first | exact h | exact h.part 0 | exact h.part 1 | exact bnd0 _ _ _
  · exact h
theorem fo_bnd {x : Ex} (h : Bnd x) : Bnd (fo x) := by
  induction h with
  | mk k n m l hl h ih =>
    rw [fo]
    split
    · refine sm_bnd (.mk _ _ _ _ (by rw [fos_map, List.length_map]; exact hl) fun y hy => ?_)
      rw [fos_map] at hy
      obtain ⟨z, hz, rfl⟩ := List.mem_map.1 hy
      exact ih z hz
    · exact .mk _ _ _ _ hl h
end Fo
set_option maxRecDepth 100000 in
set_option maxHeartbeats 2000000 in
theorem twice_walk (A : Nat → Prop) (k : Int) (n : List UInt8) (m : Int) (l : List Sx.Ex) (sa : Option Addr) (sc : Nat) (w : World) (hrg : Fo.Rg (.mk k n m l)) (hnl : Fo.Nl (.mk k n m l)) (hs : ExS A w (.slice sa l.length sc) l) :
    Calls Try.prog 5 #[.agg #[.int .i64 k, .string ⟨n.toArray⟩, .int .i64 m, .slice sa l.length sc]] w fun e w' => e = .returned (.bool true) ∧ Below w.heap.size w w' := by
  have EG : Hid (∀ W, Below w.heap.size w W → _) := fun W hW => great_any hnl A k n m l sa sc W rfl (hs.later hW (Nat.le_refl _))
  have HS : Hid _ := hs
  have HR : Hid _ := hrg
  clear hs hrg hnl
  go_enter Try.func5, Try.ntmps5
  go_wp2_with fail
  refine Calls.mono (EG.out _ (box_below _ _)) ?_
  rintro e w1 ⟨b, rfl, hb, b1⟩
  have B1 : Hid (Below w.heap.size w w1) := (box_below w _).trans (b1.mono (by simp))
  have BX : Hid _ := (Bx.new w 24 (.int .i64 k) (.string ⟨n.toArray⟩) (.int .i64 m) (.slice sa l.length sc)).later b1 (by simp)
  have HB : Hid _ := hb
  clear b1 hb EG
  cases b with
  | true =>
    go_wp2_with fail
    refine Calls.mono (known5 _) ?_
    rintro e w2 ⟨rfl, b2⟩
    have B2 : Hid (Below w.heap.size w w2) := B1.out.trans (b2.mono B1.out.size)
    clear b2
    go_wp2_with fail
    go_ret
    exact ⟨rfl, B2.out⟩
  | false =>
    have bnd : Hid (Fo.Bnd (.mk k n m l)) := HB.out rfl
    obtain ⟨d0, d1, d2, d3, f0, f1, f2, f3, zt⟩ := BX.out
    clear HB
    go_wp2_with fail
    refine Calls.mono (foldExpr_any bnd.out HR.out A k n m l sa sc _ rfl (HS.out.later B1.out (Nat.le_refl _))) ?_
    rintro e w2 ⟨ka, na, ma, sb, cb, la, ya, rfl, xa, b2⟩
    have B2 : Hid (Below w.heap.size w w2) := B1.out.trans (b2.mono B1.out.size)
    have YA : Hid _ := ya
    have XA : Hid _ := xa
    clear b2 ya xa d0 d1 d2 d3 f0 f1 f2 f3 zt
    obtain ⟨W2, hW2⟩ : ∃ W2, W2 = w2.alloc (.cells #[.int .i64 ka, .string ⟨na.toArray⟩, .int .i64 ma, .slice sb la.length cb] 24) := ⟨_, rfl⟩
    have b2 : Below w2.heap.size w2 W2 := by rw [hW2]; exact box_below _ _
    have BY : Hid (Bx W2 w2.heap.size (.int .i64 ka) (.string ⟨na.toArray⟩) (.int .i64 ma) (.slice sb la.length cb)) := by rw [hW2]; exact Bx.new _ _ _ _ _ _
    have BW : Hid (Below w.heap.size w W2) := B2.out.trans (b2.mono B2.out.size)
    have XB : Hid _ := XA.out.later b2 (Nat.le_refl _)
    have EX : Hid (∀ W, Below W2.heap.size W2 W → Calls Try.prog 13 #[.agg #[.int .i64 ka, .string ⟨na.toArray⟩, .int .i64 ma, .slice sb la.length cb]] W fun e w' => ∃ sd cd, e = .returned (.agg #[.int .i64 ka, .string ⟨na.toArray⟩, .int .i64 ma, .slice sd la.length cd]) ∧ ExS (fun g => W.heap.size ≤ g) w' (.slice sd la.length cd) la ∧ Below W.heap.size W w') := by
      intro W hW
      have hb : Fo.Bnd (.mk ka na ma la) := by rw [← YA.out]; exact Fo.fo_bnd bnd.out
      have hr : Fo.Rg (.mk ka na ma la) := by rw [← YA.out]; exact Fo.fo_rg HR.out
      have ht : Fo.fo (.mk ka na ma la) = .mk ka na ma la := by rw [← YA.out]; exact Fo.fo_twice HR.out
      refine (foldExpr_any hb hr _ ka na ma la sb cb W rfl (XB.out.later hW (Nat.le_refl _))).mono ?_
      rintro e w' ⟨kc, nc, mc, sd, cd, lc, yc, rfl, xc, b3⟩
      rw [ht] at yc
      injection yc with q1 q2 q3 q4
      subst q1 q2 q3 q4
      exact ⟨sd, cd, rfl, xc, b3⟩
    clear b2
    go_wp2_with fail
    rw [← hW2]
    clear hW2
    obtain ⟨d0, d1, d2, d3, f0, f1, f2, f3, zt⟩ := BY.out
    have HBb : Hid (Fo.Bnd (.mk ka na ma la)) := by unfold Hid; rw [← YA.out]; exact Fo.fo_bnd bnd.out
    go_region_with (first
      | (go_at_call 13; refine Calls.mono (EX.out _ (by go_grown)) ?_; rintro e w3 ⟨sd, cd, rfl, xc, b3⟩; have b4 : Below W2.heap.size W2 w3 := Below.trans (by go_grown) (b3.mono (by go_size)); have B4 : Hid (Below w.heap.size w w3) := BW.out.trans (b4.mono BW.out.size); have ES : Hid (∀ W, Below w3.heap.size w3 W → _) := fun W hW => sameExpr_bnd HBb.out _ _ ka na ma la sd sb la.length cd la.length cb W rfl (xc.later hW (Nat.le_refl _)) ((XB.out.later b4 (Nat.le_refl _)).later hW (Nat.le_refl _)); have BZ := BY.out.later b4 BY.out.lt; obtain ⟨g0, g1, g2, g3, i0, i1, i2, i3, zy⟩ := BZ)
      | (go_at_call 14; refine Calls.mono (ES.out _ (Below.refl _ _)) ?_; rintro e w5 ⟨rfl, b5⟩; have B5 : Hid (Below w.heap.size w w5) := B4.out.trans (b5.mono B4.out.size))
      | (go_at_call 9; refine Calls.mono (known5 _) ?_; rintro e w6 ⟨rfl, b6⟩; have B6 : Hid (Below w.heap.size w w6) := B5.out.trans (b6.mono B5.out.size)))
    all_goals
      go_wp2_with fail
      go_ret
      exact ⟨rfl, B6.out⟩
end Go.Proofs.Ythadpkmbbimleaa
