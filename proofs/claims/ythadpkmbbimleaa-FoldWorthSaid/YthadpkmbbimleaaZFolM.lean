/- Layer 5: the constant that a sign makes of constants (the program's known). -/
import Derived.Test.YthadpkmbbimleaaZFolL
namespace Go.Proofs.Ythadpkmbbimleaa
open Go.RowKit

namespace Fo
open Sx
/-- Numbers of 64 bits. -/
inductive Rg : Ex → Prop
  | mk (k : Int) (n : List UInt8) (m : Int) (l : List Ex) (h0 : -9223372036854775808 ≤ m) (h1 : m ≤ 9223372036854775807) (h : ∀ x, x ∈ l → Rg x) : Rg (.mk k n m l)
theorem bI_rg (b : Bool) : -9223372036854775808 ≤ bI b := by cases b <;> decide
theorem rest_rg (a b : Int) (h : -9223372036854775808 ≤ a) : -9223372036854775808 ≤ Pl.rest a b := by
  unfold Pl.rest
  by_cases c : 0 ≤ a
  · have := Int.tmod_nonneg b c; omega
  · have h1 := Int.natAbs_tmod a b
    have h2 := Nat.mod_le a.natAbs b.natAbs
    omega
theorem re_rg (a : Int) (s : List UInt8) (b : Int) (ha : -9223372036854775808 ≤ a) : -9223372036854775808 ≤ (re a s b).1 := by
  unfold re
  repeat' split
  all_goals first | exact (Pl.w_bd _).1 | exact bI_rg _ | exact rest_rg _ _ ha | decide
theorem wo_rg {x : Ex} (h : Rg x) : -9223372036854775808 ≤ (wo T0 x).1 := by
  induction h with
  | mk k n m l h0 h1 _ ih =>
    match l, ih with
    | [], ih =>
      rw [wo]
      repeat' split
      all_goals first | exact h0 | exact bI_rg _ | exact (by decide : (-9223372036854775808 : Int) ≤ 0)
    | [a], ih =>
      have ia := ih a (by simp)
      rw [wo]
      repeat' split
      all_goals first | exact h0 | exact bI_rg _ | exact (Pl.w_bd _).1 | exact (by decide : (-9223372036854775808 : Int) ≤ 0)
    | a :: b :: r, ih =>
      have ia := ih a (by simp)
      rw [wo]
      repeat' split
      all_goals first | exact h0 | exact bI_rg _ | exact re_rg _ _ _ ia | exact (by decide : (-9223372036854775808 : Int) ≤ 0)
/-- The constant that a sign makes of constants. -/
def kn (x : Ex) : Option Ex := if (pa x).all cn = true ∧ (wo T0 x).2 = 0 then some (if tof x then .mk 2 [] (wo T0 x).1 [] else lit (wo T0 x).1) else none
end Fo
/-- What known answers. -/
def KN (w : World) : Option Sx.Ex → Ending → World → Prop
  | some y, e, w' => ∃ kk nn mm sa sc ll, y = .mk kk nn mm ll ∧ e = .returned (.tuple #[.agg #[.int .i64 kk, .string ⟨(nn : List UInt8).toArray⟩, .int .i64 mm, .slice sa ll.length sc], .bool true]) ∧ ExS (fun g => w.heap.size ≤ g) w' (.slice sa ll.length sc) ll ∧ Below w.heap.size w w'
  | none, e, w' => e = .returned (.tuple #[.agg #[.int .i64 0, .string ⟨#[]⟩, .int .i64 0, .slice none 0 0], .bool false]) ∧ Below w.heap.size w w'
/-- The loop over the parts. -/
def KLoop (l : List Sx.Ex) (W : World) (i : Value) (wr : World) : Prop := ∃ j : Nat, j ≤ l.length ∧ i = .int .i64 j ∧ Below W.heap.size W wr ∧ Hid (∀ (q : Nat) (x : Sx.Ex), q < j → l[q]? = some x → Fo.cn x = true)
theorem all_of {l : List Sx.Ex} (h : ∀ (q : Nat) (x : Sx.Ex), q < l.length → l[q]? = some x → Fo.cn x = true) : l.all Fo.cn = true := by
  rw [List.all_eq_true]
  intro x hx
  obtain ⟨q, hq, e⟩ := List.getElem_of_mem hx
  exact h q x hq (by rw [List.getElem?_eq_getElem hq, e])
theorem not_all {l : List Sx.Ex} {q : Nat} {x : Sx.Ex} (h : l[q]? = some x) (hx : Fo.cn x = false) : ¬ l.all Fo.cn = true := by
  intro e
  have := List.all_eq_true.1 e x (List.mem_of_getElem? h)
  rw [hx] at this
  cases this
set_option maxRecDepth 100000 in
set_option maxHeartbeats 4000000 in
theorem known_ex (A : Nat → Prop) (k : Int) (n : List UInt8) (m : Int) (l : List Sx.Ex) (sa : Option Addr) (sc : Nat) (w : World) (hs : ExS A w (.slice sa l.length sc) l) (hl : l.length ≤ 1000000) (hrg : Fo.Rg (.mk k n m l)) :
    Calls Try.prog 55 #[.agg #[.int .i64 k, .string ⟨n.toArray⟩, .int .i64 m, .slice sa l.length sc]] w (KN w (Fo.kn (.mk k n m l))) := by
  obtain ⟨W0, hW0⟩ : ∃ W0, W0 = (w.alloc (.cells #[.int .i64 k, .string ⟨n.toArray⟩, .int .i64 m, .slice sa l.length sc] 24)).alloc zE := ⟨_, rfl⟩
  have bW : Below w.heap.size w W0 := by rw [hW0]; go_grown
  have sW : W0.heap.size = w.heap.size + 2 := by rw [hW0]; simp
  have BX0 : Bx W0 w.heap.size (.int .i64 k) (.string ⟨n.toArray⟩) (.int .i64 m) (.slice sa l.length sc) := by rw [hW0]; exact (Bx.new w _ _ _ _ _).later (box_below _ _) (by simp)
  have RX0 : Bx W0 (w.heap.size + 1) (.int .i64 0) (.string ⟨#[]⟩) (.int .i64 0) (.slice none 0 0) := by
    have B := Bx.new (w.alloc (.cells #[.int .i64 k, .string ⟨n.toArray⟩, .int .i64 m, .slice sa l.length sc] 24)) 24 (.int .i64 0) (.string ⟨#[]⟩) (.int .i64 0) (.slice none 0 0)
    have es : (w.alloc (.cells #[.int .i64 k, .string ⟨n.toArray⟩, .int .i64 m, .slice sa l.length sc] 24)).heap.size = w.heap.size + 1 := by simp
    rw [es] at B
    rw [hW0]; exact B
  have BX : Hid _ := BX0
  have RX : Hid _ := RX0
  have BW : Hid _ := bW
  have SW : Hid _ := sW
  have HS : Hid (ExS A w (.slice sa l.length sc) l) := hs
  have EV : Hid (∀ W, Below w.heap.size w W → _) := fun W hW => Eval_any T0 A k n m l sa l.length sc (.slice none 0 0) (.slice none 0 0) (.slice none 0 0) W (hs.later hW (Nat.le_refl _)) (value_none W)
  have ET : Hid (∀ W, Below w.heap.size w W → _) := fun W (_ : Below w.heap.size w W) => tof_any k n m l sa sc W
  have NM : Hid (-9223372036854775808 ≤ (Fo.wo T0 (.mk k n m l)).1) := Fo.wo_rg hrg
  have KK : Hid (Fo.kn (.mk k n m l) = if l.all Fo.cn = true ∧ (Fo.wo T0 (.mk k n m l)).2 = 0 then some (if Fo.tof (.mk k n m l) then .mk 2 [] (Fo.wo T0 (.mk k n m l)).1 [] else Fo.lit (Fo.wo T0 (.mk k n m l)).1) else none) := rfl
  obtain ⟨d0, d1, d2, d3, h0, h1, h2, h3, zt⟩ := BX0
  clear hs hrg bW sW RX0
  go_enter Try.func55, Try.ntmps55
  go_upto_region 1 with fail
  rw [← hW0]
  clear hW0
  go_wp2_with fail
  go_loopw [13] (fun i wr => KLoop l W0 i wr) (fun i _ => l.length - (intOf i).toNat)
  case atStart => exact ⟨0, by omega, rfl, Below.refl _ _, fun q x hq _ => absurd hq (Nat.not_lt_zero q)⟩
  case round =>
    clear d0 d1 d2 d3 h0 h1 h2 h3 zt
    obtain ⟨j, hj, rfl, hnx, HN⟩ := hrel
    have bwr : Below w.heap.size w wr := BW.out.trans (hnx.mono BW.out.size)
    by_cases hlt : j < l.length
    · obtain ⟨g, o, k', n', m', sa', sn', sc', ll, rfl, hg, el, c0, c1, c2, c3, hs'⟩ := (HS.out.later bwr (Nat.le_refl _)).part j hlt
      have hln := hs'.len
      subst hln
      have hji : (j : Int) < (l.length : Int) := by omega
      have hj0 : (0 : Int) ≤ (j : Int) := by omega
      have E1 : Hid (∀ W, Below wr.heap.size wr W → _) := fun W hW => Const_any A k' n' m' ll sa' sc' W (hs'.later hW (Nat.le_refl _))
      have EL : Hid _ := el
      have NX : Hid _ := hnx
      have NW : Hid _ := bwr
      clear hs' el hnx bwr
      go_wp2_with fail
      refine Calls.mono (E1.out _ (box_below _ _)) ?_
      rintro e w1 ⟨rfl, b1⟩
      have b2 : Below wr.heap.size wr w1 := (box_below wr _).trans (b1.mono (by simp))
      have B1 : Hid (Below W0.heap.size W0 w1) := NX.out.trans (b2.mono NX.out.size)
      have B2 : Hid (Below w.heap.size w w1) := NW.out.trans (b2.mono NW.out.size)
      clear b1 b2
      cases ht : Fo.cn (.mk k' n' m' ll) with
      | false =>
        have R : Hid (Fo.kn (.mk k n m l) = none) := by unfold Hid; rw [KK.out, if_neg (fun h => not_all EL.out ht h.1)]
        obtain ⟨g0, g1, g2, g3, i0, i1, i2, i3, zr⟩ := RX.out.later B1.out RX.out.lt
        clear ht
        go_wp2_with fail
        refine bodyPost_ret (v := .tuple #[.agg #[.int .i64 0, .string ⟨#[]⟩, .int .i64 0, .slice none 0 0], .bool false]) (by simp [results, Try.results55, go_sem, g0, g1, g2, g3]) rfl ?_
        rw [R.out]
        exact ⟨rfl, (((B2.out.setCell (by simp) _).setCell (by simp) _).setCell (by simp) _).setCell (by simp) _⟩
      | true =>
        have HN2 : Hid (∀ (q : Nat) (x : Sx.Ex), q < j + 1 → l[q]? = some x → Fo.cn x = true) := fun q x hq hx => by
          by_cases c : q < j
          · exact HN.out q x c hx
          · obtain rfl : q = j := by omega
            rw [EL.out] at hx
            cases hx
            exact ht
        clear ht HN
        go_wp2_with fail
        go_roundw
        case rel => exact ⟨j + 1, by omega, by go_num, B1.out, HN2⟩
        case measure => simp [intOf]; omega
    · obtain rfl : j = l.length := by omega
      have HALL : Hid (l.all Fo.cn = true) := all_of HN.out
      have B3 := BX.out.later hnx BX.out.lt
      have BX3 : Hid _ := B3
      have RX3 : Hid _ := RX.out.later hnx RX.out.lt
      have NW : Hid _ := bwr
      obtain ⟨d0, d1, d2, d3, h0, h1, h2, h3, zt⟩ := B3
      clear hnx bwr HN
      go_wp2_with fail
      refine Calls.mono (EV.out _ NW.out) ?_
      rintro e w1 ⟨rfl, b1⟩
      have NW1 : Hid (Below w.heap.size w w1) := NW.out.trans (b1.mono NW.out.size)
      have BX4 : Hid _ := BX3.out.later b1 BX3.out.lt
      have RX4 : Hid _ := RX3.out.later b1 RX3.out.lt
      clear b1 d0 d1 d2 d3 h0 h1 h2 h3 zt
      obtain ⟨N, t, hN⟩ : ∃ N t, Fo.wo T0 (.mk k n m l) = (N, t) := ⟨_, _, rfl⟩
      rw [hN] at KK NM ⊢
      clear hN
      by_cases t0 : t = 0
      · subst t0
        obtain ⟨d0, d1, d2, d3, h0, h1, h2, h3, zt⟩ := BX4.out
        have R0 : Hid (Fo.kn (.mk k n m l) = some (if Fo.tof (.mk k n m l) then .mk 2 [] N [] else Fo.lit N)) := by unfold Hid; rw [KK.out, if_pos ⟨HALL.out, rfl⟩]
        go_wp2_with fail
        refine Calls.mono (ET.out _ NW1.out) ?_
        rintro e w2 ⟨rfl, b2⟩
        have NW2 : Hid (Below w.heap.size w w2) := NW1.out.trans (b2.mono NW1.out.size)
        have RX5 : Hid _ := RX4.out.later b2 RX4.out.lt
        clear b2 d0 d1 d2 d3 h0 h1 h2 h3 zt
        cases hf : Fo.tof (.mk k n m l) with
        | true =>
          have R : Hid (Fo.kn (.mk k n m l) = some (.mk 2 [] N [])) := by unfold Hid; rw [R0.out, hf]; rfl
          clear hf R0
          go_wp2_with fail
          refine Calls.mono (ftruth_any N _) ?_
          rintro e w3 ⟨rfl, b3⟩
          have NW3 : Hid (Below w.heap.size w w3) := NW2.out.trans (b3.mono NW2.out.size)
          obtain ⟨g0, g1, g2, g3, i0, i1, i2, i3, zr⟩ := RX5.out.later b3 RX5.out.lt
          clear b3
          go_wp2_with fail
          refine bodyPost_ret (v := .tuple #[.agg #[.int .i64 2, .string ⟨#[]⟩, .int .i64 N, .slice none 0 0], .bool true]) (by simp [results, Try.results55, go_sem, g0, g1, g2, g3]) rfl ?_
          rw [R.out]
          exact ⟨2, [], N, none, 0, [], rfl, rfl, .nil _ _, (((NW3.out.setCell (by simp) _).setCell (by simp) _).setCell (by simp) _).setCell (by simp) _⟩
        | false =>
          have R : Hid (Fo.kn (.mk k n m l) = some (Fo.lit N)) := by unfold Hid; rw [R0.out, hf]; rfl
          clear hf R0
          go_wp2_with fail
          refine Calls.mono (Lit_any N _ NM.out) ?_
          rintro e w3 ⟨kk, nn, mm, sb, sd, l3, hy, rfl, X3, b3⟩
          have NW3 : Hid (Below w.heap.size w w3) := NW2.out.trans (b3.mono NW2.out.size)
          have XX : Hid (ExS (fun g => w.heap.size + 1 < g) w3 (.slice sb l3.length sd) l3) := X3.mono fun g _ hg => Nat.lt_of_lt_of_le RX5.out.lt hg
          have HY : Hid _ := hy
          obtain ⟨g0, g1, g2, g3, i0, i1, i2, i3, zr⟩ := RX5.out.later b3 RX5.out.lt
          clear b3 X3 hy
          go_wp2_with fail
          refine bodyPost_ret (v := .tuple #[.agg #[.int .i64 kk, .string ⟨nn.toArray⟩, .int .i64 mm, .slice sb l3.length sd], .bool true]) (by simp [results, Try.results55, go_sem, g0, g1, g2, g3]) rfl ?_
          rw [R.out]
          refine ⟨kk, nn, mm, sb, sd, l3, HY.out, rfl, ?_, (((NW3.out.setCell (by simp) _).setCell (by simp) _).setCell (by simp) _).setCell (by simp) _⟩
          exact (XX.out.fill (g := w.heap.size + 1) (Nat.lt_irrefl _) _ _ _ _).mono fun g _ hg => by omega
      · have bt : (t == 0) = false := beq_eq_false_iff_ne.2 t0
        have R : Hid (Fo.kn (.mk k n m l) = none) := by unfold Hid; rw [KK.out, if_neg (fun h => t0 h.2)]
        obtain ⟨g0, g1, g2, g3, i0, i1, i2, i3, zr⟩ := RX4.out
        clear t0
        go_wp2_with fail
        refine bodyPost_ret (v := .tuple #[.agg #[.int .i64 0, .string ⟨#[]⟩, .int .i64 0, .slice none 0 0], .bool false]) (by simp [results, Try.results55, go_sem, g0, g1, g2, g3]) rfl ?_
        rw [R.out]
        exact ⟨rfl, (((NW1.out.setCell (by simp) _).setCell (by simp) _).setCell (by simp) _).setCell (by simp) _⟩
end Go.Proofs.Ythadpkmbbimleaa
