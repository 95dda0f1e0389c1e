/- Layer 3: rightExpr, where it tells true. -/
import Derived.Test.YtlhklpnkelcnbaaGreatDoorSynK
import Derived.Test.YtlhklpnkelcnbaaGreatDoorSynQ
namespace Go.Proofs.YtlhklpnkelcnbaaGreatDoor
open Go.RowKit

theorem ExC.get {A : Nat → Prop} {w : World} {g : Nat} : ∀ {l : List Sx.Ex} {o : Nat} (_ : ExC A w g o l) (j : Nat), j < l.length → ∃ k n m sa sn sc ll, l[j]? = Option.some (.mk k n m ll) ∧
    w.cell? ⟨g, o + j * 4, Option.none⟩ = Option.some (.int .i64 k) ∧ w.cell? ⟨g, o + j * 4 + 1, Option.none⟩ = Option.some (.string ⟨(n : List UInt8).toArray⟩) ∧ w.cell? ⟨g, o + j * 4 + 2, Option.none⟩ = Option.some (.int .i64 m) ∧ w.cell? ⟨g, o + j * 4 + 3, Option.none⟩ = Option.some (.slice sa sn sc) ∧ ExS A w (.slice sa sn sc) ll := by
  intro l
  induction l with
  | nil => intro o _ j hj; simp at hj
  | cons x r ih =>
    intro o h j hj
    cases h with
    | cons _ _ k n m sl l _ c0 c1 c2 c3 hs hr =>
      obtain ⟨sa, sn, sc, rfl⟩ := hs.form
      cases j with
      | zero => exact ⟨k, n, m, sa, sn, sc, l, rfl, by simpa using c0, by simpa using c1, by simpa using c2, by simpa using c3, hs⟩
      | succ j =>
        obtain ⟨k, n, m, sa, sn, sc, ll, e, c0, c1, c2, c3, hs⟩ := ih hr j (by simpa using hj)
        have q : o + 4 + j * 4 = o + (j + 1) * 4 := by omega
        rw [q] at c0 c1 c2 c3
        exact ⟨k, n, m, sa, sn, sc, ll, by simpa using e, c0, c1, c2, c3, hs⟩
theorem ExS.inv {A : Nat → Prop} {w : World} {sl : Value} {l : List Sx.Ex} (h : ExS A w sl l) (hl : 0 < l.length) : ∃ g o cap, sl = .slice (Option.some ⟨g, o, Option.none⟩) l.length cap ∧ l.length ≤ cap ∧ A g ∧ g < w.heap.size ∧ ExC A w g o l := by
  cases h with
  | nil a cap => exact absurd hl (by simp)
  | some g o cap len _ hl' h0 hc ha hg h => exact ⟨g, o, cap, by rw [hl'], hc, ha, hg, h⟩
/-- What is asked of rightExpr. -/
def RC (A : Nat → Prop) (f : Nat) : Prop := ∀ (k : Int) (n : List UInt8) (m : Int) (sa : Option Addr) (sn sc : Nat) (l : List Sx.Ex) (w : World), Kw w → ExS A w (.slice sa sn sc) l → Sx.rx f (.mk k n m l) = true →
  Calls Tryz.prog 19 #[.agg #[.int .i64 k, .string ⟨n.toArray⟩, .int .i64 m, .slice sa sn sc]] w fun e w' => e = .returned (.bool true) ∧ Below w.heap.size w w'
set_option maxRecDepth 100000 in
set_option maxHeartbeats 1000000 in
theorem rightExprs_true (A : Nat → Prop) (f : Nat) (hR : RC A f) (l : List Sx.Ex) (sa : Option Addr) (sn sc : Nat) (w : World) (hk : Kw w) (hs : ExS A w (.slice sa sn sc) l) (hl : l.length ≤ 1000000) (hr : l.all (Sx.rx f) = true) :
    Calls Tryz.prog 33 #[.slice sa sn sc] w fun e w' => e = .returned (.bool true) ∧ Below w.heap.size w w' := by
  have hn : sn = l.length := by
    cases hs with
    | nil a cap => rfl
    | some g o cap len l hl h0 hc ha hg h => exact hl
  subst hn
  have HK : Hid (Kw w) := hk
  have HR : Hid (RC A f) := hR
  have HS : Hid (ExS A w (.slice sa l.length sc) l) := hs
  have HA : Hid (l.all (Sx.rx f) = true) := hr
  clear hk hR hs hr
  go_enter Tryz.func33, Tryz.ntmps33
  go_wp2_with fail
  go_loopw [7] (fun i wr => ∃ k : Nat, k ≤ l.length ∧ i = .int .i64 k ∧ Below w.heap.size w wr) (fun i _ => l.length - (intOf i).toNat)
  case atStart => exact ⟨0, by omega, rfl, Below.refl _ _⟩
  case round =>
    obtain ⟨j, hj, rfl, hnx⟩ := hrel
    by_cases hlt : j < l.length
    · have HS' := HS.out.later hnx (Nat.le_refl _)
      obtain ⟨g, o, cap, esl, hc, ha, hg, h⟩ := HS'.inv (by omega)
      cases esl
      · obtain ⟨k, n, m, sa', sn', sc', ll, el, c0, c1, c2, c3, hs'⟩ := h.get j hlt
        have E1 : Hid (∀ W, Below wr.heap.size wr W → Calls Tryz.prog 19 #[.agg #[.int .i64 k, .string ⟨n.toArray⟩, .int .i64 m, .slice sa' sn' sc']] W fun e w' => e = .returned (.bool true) ∧ Below W.heap.size W w') := by
          intro W hW
          have hm := List.mem_of_getElem? el
          exact HR.out k n m sa' sn' sc' ll W ((HK.out.later hnx).later hW) (hs'.later hW (Nat.le_refl _)) (List.all_eq_true.1 HA.out _ hm)
        clear h hs' el ha
        have NX : Hid _ := hnx
        clear hnx
        go_wp2_with fail
        refine (E1.out _ (box_below _ _)).mono ?_
        rintro e w1 ⟨rfl, b1⟩
        have B1 : Hid (Below w.heap.size w w1) := (NX.out.trans ((box_below wr _).mono NX.out.size)).trans (b1.mono (by have := NX.out.size; simp; omega))
        clear b1
        go_wp2_with fail
        go_roundw
        case rel => exact ⟨j + 1, by omega, by go_num, B1.out⟩
        case measure => simp [intOf]; omega
    · obtain rfl : j = l.length := by omega
      go_wp2_with fail
      go_ret
      exact ⟨rfl, hnx⟩
theorem ExS.len {A : Nat → Prop} {w : World} {sa : Option Addr} {sn sc : Nat} {l : List Sx.Ex} (h : ExS A w (.slice sa sn sc) l) : sn = l.length := by
  cases h with
  | nil a cap => rfl
  | some g o cap len l hl h0 hc ha hg h => exact hl
theorem Bx.box (w : World) (t : TypeId) (a0 a1 a2 a3 : Value) {w' : World} (b : Below (w.alloc (.cells #[a0, a1, a2, a3] t)).heap.size (w.alloc (.cells #[a0, a1, a2, a3] t)) w') : Bx w' w.heap.size a0 a1 a2 a3 := (Bx.new w t a0 a1 a2 a3).later b (by simp)
set_option maxRecDepth 100000 in
set_option maxHeartbeats 2000000 in
theorem right_step (A : Nat → Prop) (f : Nat) (hR : RC A f) : RC A (f + 1) := by
  intro k n m sa sn sc l w hk hs hr
  rw [Sx.rx, Bool.and_eq_true] at hr
  obtain ⟨ha, hr⟩ := hr
  have hn := hs.len
  subst hn
  have hl : l.length ≤ 2 := by
    split at hr
    · simp only [Bool.and_eq_true, decide_eq_true_eq] at hr; omega
    · split at hr
      · simp only [Bool.and_eq_true, decide_eq_true_eq] at hr; omega
      · split at hr
        · simp only [Bool.and_eq_true, decide_eq_true_eq] at hr; omega
        · split at hr
          · simp only [Bool.and_eq_true, decide_eq_true_eq] at hr; omega
          · split at hr
            · simp only [Bool.and_eq_true, decide_eq_true_eq] at hr; omega
            · split at hr
              · simp only [Bool.and_eq_true, decide_eq_true_eq] at hr; omega
              · cases hr
  have E1 : Hid _ := rightExprs_true A f hR l sa l.length sc (w.alloc (.cells #[.int .i64 k, .string ⟨n.toArray⟩, .int .i64 m, .slice sa l.length sc] 25)) (hk.later (box_below _ _)) (hs.later (box_below _ _) (Nat.le_refl _)) (by omega) ha
  have HK : Hid (Kw w) := hk
  have HN : Hid (Lx.isName n = true → n.length ≤ 40) := by
    intro h
    unfold Lx.isName at h
    simp only [Bool.and_eq_true, decide_eq_true_eq] at h
    exact h.1.2
  clear hk hs ha hR hl
  by_cases k1 : k = 1
  · subst k1
    rw [if_pos rfl] at hr
    simp only [Bool.and_eq_true, decide_eq_true_eq] at hr
    obtain ⟨⟨rfl, h0⟩, hl⟩ := hr
    rw [hl] at E1
    rw [hl]
    clear hl
    go_enter Tryz.func19, Tryz.ntmps19
    go_wp2_with fail
    refine Calls.mono E1.out ?_
    rintro e w1 ⟨rfl, b1⟩
    have BW : Hid _ := (box_below w _).trans (b1.mono (by simp))
    obtain ⟨c0, c1, c2, c3, -, -, -, -, zt⟩ := Bx.box w _ _ _ _ _ b1
    clear b1
    go_wp2_with fail
    go_ret
    exact ⟨rfl, BW.out⟩
  · rw [if_neg k1] at hr
    by_cases k2 : k = 2
    · subst k2
      rw [if_pos rfl] at hr
      simp only [Bool.and_eq_true, Bool.or_eq_true, decide_eq_true_eq] at hr
      obtain ⟨⟨rfl, h0⟩, hl⟩ := hr
      rcases h0 with rfl | rfl
      · rw [hl] at E1
        rw [hl]
        clear hl
        go_enter Tryz.func19, Tryz.ntmps19
        go_wp2_with fail
        refine Calls.mono E1.out ?_
        rintro e w1 ⟨rfl, b1⟩
        have KW : Hid _ := (HK.out.later (box_below w _)).later b1
        have BW : Hid _ := (box_below w _).trans (b1.mono (by simp))
        obtain ⟨c0, c1, c2, c3, -, -, -, -, zt⟩ := Bx.box w _ _ _ _ _ b1
        clear b1
        go_wp2_with fail
        go_ret
        exact ⟨rfl, BW.out⟩
      · rw [hl] at E1
        rw [hl]
        clear hl
        go_enter Tryz.func19, Tryz.ntmps19
        go_wp2_with fail
        refine Calls.mono E1.out ?_
        rintro e w1 ⟨rfl, b1⟩
        have KW : Hid _ := (HK.out.later (box_below w _)).later b1
        have BW : Hid _ := (box_below w _).trans (b1.mono (by simp))
        obtain ⟨c0, c1, c2, c3, -, -, -, -, zt⟩ := Bx.box w _ _ _ _ _ b1
        clear b1
        go_wp2_with fail
        go_ret
        exact ⟨rfl, BW.out⟩
    · rw [if_neg k2] at hr
      by_cases k3 : k = 3
      · subst k3
        rw [if_pos rfl] at hr
        simp only [Bool.and_eq_true, decide_eq_true_eq] at hr
        obtain ⟨⟨hnm, rfl⟩, hl⟩ := hr
        rw [hl] at E1
        rw [hl]
        clear hl
        go_enter Tryz.func19, Tryz.ntmps19
        go_wp2_with fail
        refine Calls.mono E1.out ?_
        rintro e w1 ⟨rfl, b1⟩
        have KW : Hid _ := (HK.out.later (box_below w _)).later b1
        have BW : Hid _ := (box_below w _).trans (b1.mono (by simp))
        obtain ⟨c0, c1, c2, c3, -, -, -, -, zt⟩ := Bx.box w _ _ _ _ _ b1
        clear b1
        go_wp2_with fail
        refine (isName_any _ _ (by have := HN.out hnm; unfold maxLen; simp [ByteArray.size]; omega) KW.out).mono ?_
        rintro e w2 ⟨rfl, hw2⟩
        rw [hw2, show Lx.isName (ByteArray.mk n.toArray).data.toList = true by simpa using hnm]
        clear hw2 w2
        go_wp2_with fail
        go_ret
        exact ⟨rfl, BW.out⟩
      · rw [if_neg k3] at hr
        by_cases k4 : k = 4
        · subst k4
          rw [if_pos rfl] at hr
          simp only [Bool.and_eq_true, decide_eq_true_eq] at hr
          obtain ⟨⟨hnm, rfl⟩, hl⟩ := hr
          rw [hl] at E1
          rw [hl]
          clear hl
          go_enter Tryz.func19, Tryz.ntmps19
          go_wp2_with fail
          refine Calls.mono E1.out ?_
          rintro e w1 ⟨rfl, b1⟩
          have KW : Hid _ := (HK.out.later (box_below w _)).later b1
          have BW : Hid _ := (box_below w _).trans (b1.mono (by simp))
          obtain ⟨c0, c1, c2, c3, -, -, -, -, zt⟩ := Bx.box w _ _ _ _ _ b1
          clear b1
          go_wp2_with fail
          refine (isName_any _ _ (by have := HN.out hnm; unfold maxLen; simp [ByteArray.size]; omega) KW.out).mono ?_
          rintro e w2 ⟨rfl, hw2⟩
          rw [hw2, show Lx.isName (ByteArray.mk n.toArray).data.toList = true by simpa using hnm]
          clear hw2 w2
          go_wp2_with fail
          go_ret
          exact ⟨rfl, BW.out⟩
        · rw [if_neg k4] at hr
          by_cases k5 : k = 5
          · subst k5
            rw [if_pos rfl] at hr
            simp only [Bool.and_eq_true, decide_eq_true_eq] at hr
            obtain ⟨⟨hnm, rfl⟩, hl⟩ := hr
            rw [hl] at E1
            rw [hl]
            clear hl
            go_enter Tryz.func19, Tryz.ntmps19
            go_wp2_with fail
            refine Calls.mono E1.out ?_
            rintro e w1 ⟨rfl, b1⟩
            have KW : Hid _ := (HK.out.later (box_below w _)).later b1
            have BW : Hid _ := (box_below w _).trans (b1.mono (by simp))
            obtain ⟨c0, c1, c2, c3, -, -, -, -, zt⟩ := Bx.box w _ _ _ _ _ b1
            clear b1
            go_wp2_with fail
            refine (isUnary_any n _).mono ?_
            rintro e w2 ⟨rfl, hw2⟩
            rw [hw2, hnm]
            clear hw2 w2
            go_wp2_with fail
            go_ret
            exact ⟨rfl, BW.out⟩
          · rw [if_neg k5] at hr
            by_cases k6 : k = 6
            · subst k6
              rw [if_pos rfl] at hr
              simp only [Bool.and_eq_true, decide_eq_true_eq] at hr
              obtain ⟨⟨hnm, rfl⟩, hl⟩ := hr
              have bn : (((Sx.bindsB n : Nat) : Int) != 0) = true := by simpa using hnm
              rw [hl] at E1
              rw [hl]
              clear hl
              go_enter Tryz.func19, Tryz.ntmps19
              go_wp2_with fail
              refine Calls.mono E1.out ?_
              rintro e w1 ⟨rfl, b1⟩
              have KW : Hid _ := (HK.out.later (box_below w _)).later b1
              have BW : Hid _ := (box_below w _).trans (b1.mono (by simp))
              obtain ⟨c0, c1, c2, c3, -, -, -, -, zt⟩ := Bx.box w _ _ _ _ _ b1
              clear b1
              go_wp2_with fail
              refine (binds_any n _).mono ?_
              rintro e w2 ⟨rfl, hw2⟩
              rw [hw2]
              clear hw2 w2
              go_wp2_with fail
              go_ret
              exact ⟨rfl, BW.out⟩
            · rw [if_neg k6] at hr
              cases hr
theorem right_any (A : Nat → Prop) : ∀ f, RC A f
  | 0 => fun _ _ _ _ _ _ _ _ _ _ hr => by cases hr
  | f + 1 => right_step A f (right_any A f)
end Go.Proofs.YtlhklpnkelcnbaaGreatDoor
