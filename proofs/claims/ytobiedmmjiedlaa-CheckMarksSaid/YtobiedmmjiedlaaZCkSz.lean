/- Layer 4: how great a program is (the document's Size), and great. -/
import Derived.Test.YtobiedmmjiedlaaZStD
import Derived.Test.YtobiedmmjiedlaaZStC
import Derived.BigQuiet
namespace Go.Proofs.Ytobiedmmjiedlaa
open Go.RowKit

/-- What Size answers. -/
def PSR (most : Int) (l : List Sy.Pc) (r : Int) : Prop := 0 ≤ r ∧ (r ≤ most → (l.length : Int) ≤ r ∧ ∀ x, x ∈ l → ((x.params.length : Int) + (Sy.cts x.body : Int) ≤ r ∧ ∀ s, s ∈ x.body → Sy.Bd s))
def PSLoop (most : Int) (l : List Sy.Pc) (W : World) (gk : Nat) (v i : Value) (wr : World) : Prop := ∃ (j : Nat) (s : Int), j ≤ l.length ∧ gk = l.length - j ∧ v = .int .i64 s ∧ i = .int .i64 j ∧ (j : Int) ≤ s ∧ s ≤ most + 1152921504606846977 ∧ Hid (s ≤ most → ∀ (q : Nat) (x : Sy.Pc), q < j → l[q]? = some x → ((x.params.length : Int) + (Sy.cts x.body : Int) ≤ s ∧ ∀ y, y ∈ x.body → Sy.Bd y)) ∧ Below W.heap.size W wr
def PPLoop (most s0 : Int) (n : Nat) (W : World) (gk : Nat) (v i : Value) (wr : World) : Prop := ∃ (j : Nat) (s : Int), j ≤ n ∧ gk = n - j ∧ v = .int .i64 s ∧ i = .int .i64 j ∧ s0 ≤ s ∧ s ≤ most + 1152921504606846977 ∧ Below W.heap.size W wr
theorem szE (i : Nat) (h : i ≤ 1000000000000000) : wrap64 ((i : Int) + 1) = (i : Int) + 1 := by unfold wrap64; omega
theorem szL (y : Sy.Pa) (h : y.Ok) : y.name.length ≤ 1000000000000000 := h.1
theorem szA (y : Sy.Pa) (_h : y.Ok) : 0 ≤ (y.name.length : Int) / 8 := by omega
theorem szB (y : Sy.Pa) (h : y.Ok) : wrap64 ((y.name.length : Int) / 8) = (y.name.length : Int) / 8 := by
  have := szL y h
  unfold wrap64; omega
theorem szC (y : Sy.Pa) (h : y.Ok) (t most : Int) (h0 : 0 ≤ t) (h1 : t ≤ most) (h2 : most ≤ 1500) : wrap64 (t + (y.name.length : Int) / 8) = t + (y.name.length : Int) / 8 := by
  have := szL y h
  unfold wrap64; omega
theorem szD (y : Sy.Pa) (h : y.Ok) (t most : Int) (h1 : t ≤ most) : t + (y.name.length : Int) / 8 ≤ most + 1152921504606846977 := by
  have := szL y h
  omega
set_option maxRecDepth 100000 in
set_option maxHeartbeats 8000000 in
theorem pgSize_any (A : Nat → Prop) (l : List Sy.Pc) (hl : l.length ≤ 1000000000000000) (hP : ∀ x, x ∈ l → x.Ok) (sa : Option Addr) (sc : Nat) (most : Int) (w : World) (hm0 : 0 ≤ most) (h1 : most ≤ 1500) (hs : PcS A w (.slice sa l.length sc) l) :
    Calls Try.prog 11 #[.agg #[.slice sa l.length sc], .int .i64 most] w fun e w' => ∃ r, e = .returned (.int .i64 r) ∧ PSR most l r ∧ Below w.heap.size w w' := by
  have HP : Hid (∀ x, x ∈ l → x.Ok) := hP
  have HL : Hid (l.length ≤ 1000000000000000) := hl
  obtain ⟨W, hW⟩ : ∃ W, W = w.alloc (.cells #[.slice sa l.length sc] 29) := ⟨_, rfl⟩
  obtain ⟨b, hb⟩ : ∃ b, b = w.heap.size := ⟨_, rfl⟩
  have bW : Below w.heap.size w W := by rw [hW]; go_grown
  have HS : Hid (PcS A W (.slice sa l.length sc) l) := hs.later bW (Nat.le_refl _)
  have BW : Hid (Below w.heap.size w W) := bW
  have bx : W.cell? ⟨b, 0, none⟩ = some (.slice sa l.length sc) := by rw [hW, hb]; simp
  have BL : Hid (b < W.heap.size) := by rw [hW, hb, World.size_alloc]; exact Nat.lt_succ_self _
  have SZ : Hid (w.heap.size ≤ W.heap.size) := bW.size
  clear hs hP hl bW
  go_enter Try.func11, Try.ntmps11
  go_upto_region 1 with fail
  rw [← hW, ← hb]
  have HW : Hid (W = w.alloc (.cells #[.slice sa l.length sc] 29)) := hW
  have HBB : Hid (b = w.heap.size) := hb
  clear hW hb
  go_wp2_with fail
  go_loopg [5, 6] l.length (fun gk v i wr => PSLoop most l W gk v i wr)
  case atStart => exact ⟨0, 0, by omega, by omega, rfl, rfl, by simp, by omega, fun _ q x hq _ => absurd hq (Nat.not_lt_zero q), Below.refl _ _⟩
  case round =>
    obtain ⟨j, s, hj, hgk, rfl, rfl, hs1, hs2, HB, hnx⟩ := hrel
    have GK : Hid _ := hgk
    clear hgk
    have bx0 := (hnx.cell (p := ⟨b, 0, none⟩) BL.out).trans bx
    by_cases hlt : j < l.length
    · have hji : (j : Int) < (l.length : Int) := by omega
      have hj0 : (0 : Int) ≤ (j : Int) := by omega
      by_cases hmm : s ≤ most
      · obtain ⟨g, o, x, pa, pc, ba, bc, rfl, ha, hg, el, sat⟩ := (HS.out.later hnx (Nat.le_refl _)).part j hlt
        have ok := HP.out _ (List.mem_of_getElem? el)
        have c0 := sat.c0
        have c1 := sat.c1
        have LN : Hid (x.name.length ≤ 1000000000000000) := ok.name
        have LP : Hid (x.params.length ≤ 1000000000000000) := ok.lp
        have OP : Hid (∀ y, y ∈ x.params → y.Ok) := ok.params
        have ZB : Hid (ZSt x.body) := stmtsSize_any x.body ok.lb ok.body
        have SAT : Hid (PcAt A wr g (o + j * 4) x pa pc ba bc) := sat
        have EL : Hid (l[j]? = some x) := el
        have NX : Hid (Below W.heap.size W wr) := hnx
        have ln := LN.out
        have lp := LP.out
        have w1 : wrap64 (s + 1) = s + 1 := by unfold wrap64; omega
        have w2 : wrap64 ((x.name.length : Int) / 8) = (x.name.length : Int) / 8 := by unfold wrap64; omega
        have w4 : wrap64 (s + 1 + (x.name.length : Int) / 8) = s + 1 + (x.name.length : Int) / 8 := by unfold wrap64; omega
        have w5 : wrap64 (s + 1 + (x.name.length : Int) / 8 + (x.params.length : Int)) = s + 1 + (x.name.length : Int) / 8 + (x.params.length : Int) := by unfold wrap64; omega
        have HS0 : Hid (s + 1 + (x.params.length : Int) ≤ s + 1 + (x.name.length : Int) / 8 + (x.params.length : Int) ∧ s + 1 + (x.name.length : Int) / 8 + (x.params.length : Int) ≤ most + 1152921504606846977) := ⟨by omega, by omega⟩
        clear sat el hnx ok ln lp
        go_wp2_with fail
        go_quiet (fail)
        generalize s + 1 + (x.name.length : Int) / 8 + (x.params.length : Int) = s0 at HS0 w5 ⊢
        obtain ⟨V, hV⟩ : ∃ V, V = wr.drewN nq := ⟨_, rfl⟩
        have bV : Below wr.heap.size wr V := by rw [hV]; exact below_drewN (Below.refl _ _) nq
        first | rw [w5, ← hV] | rw [← hV]
        have SV : Hid (PcAt A V g (o + j * 4) x pa pc ba bc) := PcAt.keep (fun _ _ a => a) (fun q _ hq => bV.cell hq) bV.size ha hg SAT.out
        have hgV : g < V.heap.size := Nat.lt_of_lt_of_le hg bV.size
        have haV := ha
        have bx1 := (bV.cell (p := ⟨b, 0, none⟩) (Nat.lt_of_lt_of_le BL.out NX.out.size)).trans bx0
        have BV : Hid (b < V.heap.size) := Nat.lt_of_lt_of_le (Nat.lt_of_lt_of_le BL.out NX.out.size) bV.size
        have NV : Hid (Below W.heap.size W V) := NX.out.trans (bV.mono NX.out.size)
        clear w1 w2 w4 w5 c0 c1 hV bV SAT bx0
        go_wp2_with fail
        go_loopg [5, 7] x.params.length (fun gk v i wr => PPLoop most s0 x.params.length V gk v i wr)
        case atStart => exact ⟨0, s0, by omega, by omega, rfl, rfl, by omega, HS0.out.2, Below.refl _ _⟩
        case round =>
          obtain ⟨i, t, hi, hgk, rfl, rfl, ht1, ht2, hny⟩ := hrel
          have GE : Hid _ := hgk
          clear hgk
          have HT : Hid (s0 ≤ t ∧ t ≤ most + 1152921504606846977) := ⟨by omega, ht2⟩
          have ht0 : 0 ≤ t := by have := HS0.out.1; omega
          by_cases hie : i < x.params.length
          · have hii : (i : Int) < (x.params.length : Int) := by omega
            have hi0 : (0 : Int) ≤ (i : Int) := by omega
            by_cases htm : t ≤ most
            · have sq := PcAt.keep (fun _ _ a => a) (fun q _ hq => hny.cell hq) hny.size haV hgV SV.out
              obtain ⟨g2, o2, y, rfl, ha2, hg2, el2, d0, d1⟩ := sq.hp.at i hie
              have q1 := sq.c1
              have bq := (hny.cell (p := ⟨b, 0, none⟩) BV.out).trans bx1
              have OY : Hid (y.Ok) := OP.out y (List.mem_of_getElem? el2)
              have y0 := szA y OY.out
              have wy := szB y OY.out
              have wt := szC y OY.out t most ht0 htm h1
              have TB : Hid (t + (y.name.length : Int) / 8 ≤ most + 1152921504606846977) := szD y OY.out t most htm
              have NY : Hid (Below V.heap.size V wr) := hny
              clear sq el2 hny d1
              go_wp2_with fail
              go_roundg (x.params.length - (i + 1))
              case measure => have := GE.out; omega
              case rel => have lp15 := LP.out; exact ⟨i + 1, t + (y.name.length : Int) / 8, by omega, rfl, by rw [wt], by rw [szE i (Nat.le_of_lt (Nat.lt_of_lt_of_le hie lp15))]; first | rfl | simp, Int.le_trans ht1 (Int.le_add_of_nonneg_right y0), TB.out, NY.out⟩
            · have htm' : most < t := by omega
              have sq := PcAt.keep (fun _ _ a => a) (fun q _ hq => hny.cell hq) hny.size haV hgV SV.out
              have q1 := sq.c1
              have q3 := sq.c3
              have bq := (hny.cell (p := ⟨b, 0, none⟩) BV.out).trans bx1
              have wm : wrap64 (most - t) = most - t := by unfold wrap64; omega
              have E5 : Hid (∀ W, Below wr.heap.size wr W → _) := fun W hW => ZB.out A ba bc (most - t) W (by omega) (by omega) (sq.hb.later hW (Nat.le_refl _))
              have NY : Hid (Below W.heap.size W wr) := NV.out.trans (hny.mono NV.out.size)
              clear sq hny
              go_wp2_with fail
              refine Calls.mono (E5.out _ (Below.refl _ _)) ?_
              rintro e5 w5 ⟨r5, rfl, ⟨z1, z2, z3, z4⟩, b5⟩
              have T5 : Hid (t + r5 ≤ most → (∀ y, y ∈ x.body → Sy.Bd y) ∧ (Sy.cts x.body : Int) ≤ r5) := fun h => (z4 (by omega) (by omega)).2
              have R5 : Hid (0 ≤ r5 ∧ t + r5 ≤ most + 1152921504606846977) := by
                refine ⟨z1, ?_⟩
                by_cases c : most - t < 0
                · have := z2 c; omega
                · have := z3 (by omega); omega
              have wa : wrap64 (t + r5) = t + r5 := by have := R5.out; unfold wrap64; omega
              have N5 : Hid (Below W.heap.size W w5) := NY.out.trans (b5.mono NY.out.size)
              clear z1 z2 z3 z4 b5 q1 q3 wm bq
              go_wp2_with fail
              go_roundg (l.length - (j + 1))
              case measure => have := GK.out; omega
              case rel =>
                have r5' := R5.out
                have h0' := HS0.out
                have ht' := HT.out
                have hl15 := HL.out
                refine ⟨j + 1, t + r5, by omega, rfl, by rw [wa], by go_num, by omega, by omega, fun hle q y hq hy => ?_, N5.out⟩
                by_cases c : q < j
                · have := HB.out (by omega) q y c hy
                  exact ⟨by omega, this.2⟩
                · obtain rfl : q = j := by omega
                  rw [EL.out] at hy
                  cases hy
                  have f5 := T5.out hle
                  exact ⟨by omega, f5.1⟩
          · obtain rfl : i = x.params.length := by omega
            have sq := PcAt.keep (fun _ _ a => a) (fun q _ hq => hny.cell hq) hny.size haV hgV SV.out
            have q1 := sq.c1
            have q3 := sq.c3
            have bq := (hny.cell (p := ⟨b, 0, none⟩) BV.out).trans bx1
            have wm : wrap64 (most - t) = most - t := by unfold wrap64; omega
            have E5 : Hid (∀ W, Below wr.heap.size wr W → _) := fun W hW => ZB.out A ba bc (most - t) W (by omega) (by omega) (sq.hb.later hW (Nat.le_refl _))
            have NY : Hid (Below W.heap.size W wr) := NV.out.trans (hny.mono NV.out.size)
            clear sq hny
            go_wp2_with fail
            refine Calls.mono (E5.out _ (Below.refl _ _)) ?_
            rintro e5 w5 ⟨r5, rfl, ⟨z1, z2, z3, z4⟩, b5⟩
            have T5 : Hid (t + r5 ≤ most → (∀ y, y ∈ x.body → Sy.Bd y) ∧ (Sy.cts x.body : Int) ≤ r5) := fun h => (z4 (by omega) (by omega)).2
            have R5 : Hid (0 ≤ r5 ∧ t + r5 ≤ most + 1152921504606846977) := by
              refine ⟨z1, ?_⟩
              by_cases c : most - t < 0
              · have := z2 c; omega
              · have := z3 (by omega); omega
            have wa : wrap64 (t + r5) = t + r5 := by have := R5.out; unfold wrap64; omega
            have N5 : Hid (Below W.heap.size W w5) := NY.out.trans (b5.mono NY.out.size)
            clear z1 z2 z3 z4 b5 q1 q3 wm bq
            go_wp2_with fail
            go_roundg (l.length - (j + 1))
            case measure => have := GK.out; omega
            case rel =>
              have r5' := R5.out
              have h0' := HS0.out
              have ht' := HT.out
              have hl15 := HL.out
              refine ⟨j + 1, t + r5, by omega, rfl, by rw [wa], by go_num, by omega, by omega, fun hle q y hq hy => ?_, N5.out⟩
              by_cases c : q < j
              · have := HB.out (by omega) q y c hy
                exact ⟨by omega, this.2⟩
              · obtain rfl : q = j := by omega
                rw [EL.out] at hy
                cases hy
                have f5 := T5.out hle
                exact ⟨by omega, f5.1⟩
      · have hm3 : most < s := by omega
        have NX : Hid (Below W.heap.size W wr) := hnx
        clear hnx
        go_wp2_with fail
        go_ret
        exact ⟨s, rfl, ⟨by omega, fun h => absurd h (by omega)⟩, BW.out.trans (NX.out.mono SZ.out)⟩
    · obtain rfl : j = l.length := by omega
      have NX : Hid (Below W.heap.size W wr) := hnx
      clear hnx
      go_wp2_with fail
      go_ret
      refine ⟨s, rfl, ⟨by omega, fun h => ⟨by omega, fun x hx => ?_⟩⟩, BW.out.trans (NX.out.mono SZ.out)⟩
      obtain ⟨q, hq⟩ := List.getElem?_of_mem hx
      exact HB.out h q x (List.getElem?_eq_some_iff.1 hq).1 hq
end Go.Proofs.Ytobiedmmjiedlaa
