/- Layer 3: SameExpr tells true of what is the same. -/
import Derived.Test.YtlhklpnkelcnbaaGreatDoorSynL
import Derived.Test.YtlhklpnkelcnbaaGreatDoorSypA
namespace Go.Proofs.YtlhklpnkelcnbaaGreatDoor
open Go.RowKit

namespace Sx
/-- An expression no part of which has more than two parts. -/
inductive Small : Ex → Prop
  | mk (k : Int) (n : List UInt8) (m : Int) (l : List Ex) (hl : l.length ≤ 2) (h : ∀ x, x ∈ l → Small x) : Small (.mk k n m l)
theorem Small.none (k : Int) (n : List UInt8) (m : Int) : Small (.mk k n m []) := .mk _ _ _ _ (by simp) (fun _ h => by cases h)
theorem Small.one {x : Ex} (h : Small x) (k : Int) (n : List UInt8) (m : Int) : Small (.mk k n m [x]) := .mk _ _ _ _ (by simp) (fun y hy => by rw [List.mem_singleton.1 hy]; exact h)
theorem Small.two {x y : Ex} (h : Small x) (h' : Small y) (k : Int) (n : List UInt8) (m : Int) : Small (.mk k n m [x, y]) := .mk _ _ _ _ (by simp) (fun z hz => by
  rcases List.mem_cons.1 hz with rfl | hz
  · exact h
  · rw [List.mem_singleton.1 hz]; exact h')
theorem shut_sm {ts : List Tok} {s : List UInt8} {g : Ex → Ex} {A : Option Rs} {x : Ex} {k' : Nat} (hg : ∀ y, Small y → Small (g y)) (hA : ∀ y k, A = some (.ok y k) → Small y) (h : shut ts s g A = some (.ok x k')) : Small x := by
  match A, h, hA with
  | some (.ok y k), h, hA =>
    rw [shut_ok] at h
    by_cases c : tx ts k = s
    · rw [if_pos c] at h; cases h; exact hg y (hA y k rfl)
    · rw [if_neg c] at h; cases h
  | some (.bad a e), h, _ => cases h
  | none, h, _ => cases h
theorem small (ts : List Tok) : ∀ f, (∀ d k x k', un ts f d k = some (.ok x k') → Small x) ∧ (∀ q d k x k', bd ts f q d k = some (.ok x k') → Small x) ∧ (∀ q d y k x k', Small y → lp ts f q d y k = some (.ok x k') → Small x)
  | 0 => ⟨fun d k x k' h => (by rw [un] at h; cases h), fun q d k x k' h => (by rw [bd] at h; cases h), fun q d y k x k' _ h => (by rw [lp] at h; cases h)⟩
  | f + 1 => by
    obtain ⟨hu, hb, hl⟩ := small ts f
    refine ⟨fun d k x k' h => ?_, fun q d k x k' h => ?_, fun q d y k x k' hk h => ?_⟩
    · rw [un] at h
      by_cases c1 : begE (ts.getD k tok0) = false
      · rw [if_pos c1] at h; cases h
      rw [if_neg c1] at h
      by_cases c2 : 60 < d
      · rw [if_pos c2] at h; cases h
      rw [if_neg c2] at h
      by_cases c3 : (ts.getD k tok0).1.kind = 2
      · rw [if_pos c3] at h; cases h; exact Small.none _ _ _
      rw [if_neg c3] at h
      by_cases c4 : (ts.getD k tok0).1.kind = 1
      · rw [if_pos c4] at h
        by_cases c5 : tx ts (k + 1) = [91]
        · rw [if_pos c5] at h
          exact shut_sm (fun y hy => hy.one _ _ _) (fun y j e => hb _ _ _ _ _ e) h
        · rw [if_neg c5] at h; cases h; exact Small.none _ _ _
      rw [if_neg c4] at h
      by_cases c6 : tx ts k = [116, 114, 117, 101]
      · rw [if_pos c6] at h; cases h; exact Small.none _ _ _
      rw [if_neg c6] at h
      by_cases c7 : tx ts k = [102, 97, 108, 115, 101]
      · rw [if_pos c7] at h; cases h; exact Small.none _ _ _
      rw [if_neg c7] at h
      by_cases c8 : tx ts k = [40]
      · rw [if_pos c8] at h
        exact shut_sm (fun y hy => hy) (fun y j e => hb _ _ _ _ _ e) h
      rw [if_neg c8] at h
      cases hw : un ts f (d + 1) (k + 1) with
      | none => rw [hw] at h; cases h
      | some w =>
        rw [hw] at h
        cases w with
        | ok y j => cases h; exact (hu _ _ _ _ hw).one _ _ _
        | bad a e => cases h
    · rw [bd] at h
      by_cases c1 : 5 < q
      · rw [if_pos c1] at h; exact hu _ _ _ _ h
      rw [if_neg c1] at h
      cases hw : bd ts f (q + 1) d k with
      | none => rw [hw] at h; cases h
      | some w =>
        rw [hw] at h
        cases w with
        | ok y j => exact hl _ _ _ _ _ _ (hb _ _ _ _ _ hw) h
        | bad a e => cases h
    · rw [lp] at h
      by_cases c1 : bindsB (tx ts k) = q
      · rw [if_pos c1] at h
        cases hw : bd ts f (q + 1) d (k + 1) with
        | none => rw [hw] at h; cases h
        | some w =>
          rw [hw] at h
          cases w with
          | ok z j =>
            have e1 := hk.two (hb _ _ _ _ _ hw) 6 (tx ts k) 0
            simp only at h
            by_cases c2 : q = 3
            · rw [if_pos c2] at h; cases h; exact e1
            · rw [if_neg c2] at h; exact hl _ _ _ _ _ _ e1 h
          | bad a e => cases h
      · rw [if_neg c1] at h; cases h; exact hk
end Sx
/-- What is asked of SameExpr. -/
def SC (x : Sx.Ex) : Prop := ∀ (A B : Nat → Prop) (k : Int) (n : List UInt8) (m : Int) (l : List Sx.Ex) (sa sb : Option Addr) (sn sc tn tc : Nat) (w : World), x = .mk k n m l → ExS A w (.slice sa sn sc) l → ExS B w (.slice sb tn tc) l →
  Calls Tryz.prog 9 #[.agg #[.int .i64 k, .string ⟨n.toArray⟩, .int .i64 m, .slice sa sn sc], .agg #[.int .i64 k, .string ⟨n.toArray⟩, .int .i64 m, .slice sb tn tc]] w fun e w' => e = .returned (.bool true) ∧ Below w.heap.size w w'
set_option maxRecDepth 100000 in
set_option maxHeartbeats 1000000 in
theorem sameExprs_true (A B : Nat → Prop) (l : List Sx.Ex) (hR : ∀ x, x ∈ l → SC x) (sa sb : Option Addr) (sn sc tn tc : Nat) (w : World) (hs : ExS A w (.slice sa sn sc) l) (ht : ExS B w (.slice sb tn tc) l) (hl : l.length ≤ 2) :
    Calls Tryz.prog 18 #[.slice sa sn sc, .slice sb tn tc] w fun e w' => e = .returned (.bool true) ∧ Below w.heap.size w w' := by
  have hn := hs.len
  subst hn
  have hn := ht.len
  subst hn
  have HR : Hid (∀ x, x ∈ l → SC x) := hR
  have HS : Hid (ExS A w (.slice sa l.length sc) l) := hs
  have HT : Hid (ExS B w (.slice sb l.length tc) l) := ht
  clear hR hs ht
  go_enter Tryz.func18, Tryz.ntmps18
  go_wp2_with fail
  go_loopw [5] (fun i wr => ∃ k : Nat, k ≤ l.length ∧ i = .int .i64 k ∧ Below w.heap.size w wr) (fun i _ => l.length - (intOf i).toNat)
  case atStart => exact ⟨0, by omega, rfl, Below.refl _ _⟩
  case round =>
    obtain ⟨j, hj, rfl, hnx⟩ := hrel
    by_cases hlt : j < l.length
    · have HS' := HS.out.later hnx (Nat.le_refl _)
      have HT' := HT.out.later hnx (Nat.le_refl _)
      obtain ⟨g, o, cap, esl, hc, ha, hg, h⟩ := HS'.inv (by omega)
      cases esl
      obtain ⟨g', o', cap', esl', hc', ha', hg', h'⟩ := HT'.inv (by omega)
      cases esl'
      obtain ⟨k, n, m, sa', sn', sc', ll, el, c0, c1, c2, c3, hs'⟩ := h.get j hlt
      obtain ⟨k2, n2, m2, sb', tn', tc', ll2, el2, d0, d1, d2, d3, ht'⟩ := h'.get j hlt
      obtain ⟨rfl, rfl, rfl, rfl⟩ : k2 = k ∧ n2 = n ∧ m2 = m ∧ ll2 = ll := by
        have e := Option.some.inj (el.symm.trans el2)
        injection e with q1 q2 q3 q4
        exact ⟨q1.symm, q2.symm, q3.symm, q4.symm⟩
      have E1 : Hid (∀ W, Below wr.heap.size wr W → Calls Tryz.prog 9 #[.agg #[.int .i64 k2, .string ⟨n2.toArray⟩, .int .i64 m2, .slice sa' sn' sc'], .agg #[.int .i64 k2, .string ⟨n2.toArray⟩, .int .i64 m2, .slice sb' tn' tc']] W fun e w' => e = .returned (.bool true) ∧ Below W.heap.size W w') := by
        intro W hW
        exact HR.out _ (List.mem_of_getElem? el) A B k2 n2 m2 ll2 sa' sb' sn' sc' tn' tc' W rfl (hs'.later hW (Nat.le_refl _)) (ht'.later hW (Nat.le_refl _))
      clear h hs' el ha h' ht' el2 ha'
      have NX : Hid _ := hnx
      clear hnx
      go_wp2_with fail
      go_region_with (go_at_call 9; refine Calls.mono (E1.out _ (by go_grown)) ?_; rintro e w1 ⟨rfl, b1⟩)
      all_goals
        have b2 : Below wr.heap.size wr w1 := Below.trans (by go_grown) (b1.mono (by go_size))
        have B1 : Hid (Below w.heap.size w w1) := NX.out.trans (b2.mono NX.out.size)
        clear b1 b2
        go_wp2_with fail
        go_roundw
        case rel => exact ⟨j + 1, by omega, by go_num, B1.out⟩
        case measure => simp [intOf]; omega
    · obtain rfl : j = l.length := by omega
      go_wp2_with fail
      go_ret
      exact ⟨rfl, hnx⟩
set_option maxRecDepth 100000 in
set_option maxHeartbeats 1000000 in
theorem sameExpr_true {x : Sx.Ex} (h : Sx.Small x) : SC x := by
  induction h with
  | mk k n m l hl _ ih =>
    intro A B k' n' m' l' sa sb sn sc tn tc w hx hs ht
    injection hx with q1 q2 q3 q4
    subst q1 q2 q3 q4
    have E1 : Hid (∀ W, Below w.heap.size w W → Calls Tryz.prog 18 #[.slice sa sn sc, .slice sb tn tc] W fun e w' => e = .returned (.bool true) ∧ Below W.heap.size W w') := fun W hW => sameExprs_true A B l ih sa sb sn sc tn tc W (hs.later hW (Nat.le_refl _)) (ht.later hW (Nat.le_refl _)) hl
    clear ih hs ht hl
    go_enter Tryz.func9, Tryz.ntmps9
    go_wp2_with fail
    refine Calls.mono (E1.out _ (by go_grown)) ?_
    rintro e w1 ⟨rfl, b1⟩
    have B1 : Hid (Below w.heap.size w w1) := Below.trans (by go_grown) (b1.mono (by go_size))
    clear b1
    go_wp2_with fail
    go_ret
    exact ⟨rfl, B1.out⟩
end Go.Proofs.YtlhklpnkelcnbaaGreatDoor
