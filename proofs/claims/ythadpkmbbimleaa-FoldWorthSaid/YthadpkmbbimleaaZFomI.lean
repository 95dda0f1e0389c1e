/- Layer 5: the document's Eval, for every expression and all values. -/
import Derived.Test.YthadpkmbbimleaaZFomH
import Derived.Test.YthadpkmbbimleaaZFomF
import Derived.Test.YthadpkmbbimleaaZFomG
namespace Go.Proofs.Ythadpkmbbimleaa
open Go.RowKit

namespace Fo
open Sx
theorem bI_64 (b : Bool) : I64 (bI b) := by cases b <;> exact ⟨by decide, by decide⟩
theorem zero_64 : I64 0 := ⟨by decide, by decide⟩
theorem re_64 (a : Int) (s : List UInt8) (b : Int) (ha : I64 a) : I64 (re a s b).1 := by
  unfold re
  repeat' split
  all_goals first | exact Pl.w_bd _ | exact bI_64 _ | exact ⟨rest_rg _ _ ha.1, rest_top _ _ ha.2⟩ | exact zero_64
/-- What is told is of 64 bits. -/
def T64 (T : List UInt8 → Int × List Int) : Prop := ∀ n, I64 (T n).1 ∧ ∀ m, m ∈ (T n).2 → I64 m
theorem getD_64 {l : List Int} (h : ∀ m, m ∈ l → I64 m) (j : Nat) : I64 (l.getD j 0) := by
  rw [List.getD_eq_getElem?_getD]
  cases e : l[j]? with
  | none => exact zero_64
  | some y => exact h y (List.mem_of_getElem? e)
theorem wo_64 {T : List UInt8 → Int × List Int} (hT : T64 T) {x : Ex} (h : Rg x) : I64 (wo T x).1 := by
  induction h with
  | mk k n m l h0 h1 _ ih =>
    match l, ih with
    | [], ih =>
      rw [wo]
      repeat' split
      all_goals first | exact ⟨h0, h1⟩ | exact bI_64 _ | exact zero_64 | exact (hT n).1
    | [a], ih =>
      have ia := ih a (by simp)
      rw [wo]
      repeat' split
      all_goals first | exact ⟨h0, h1⟩ | exact bI_64 _ | exact Pl.w_bd _ | exact zero_64 | exact (hT n).1 | exact getD_64 (hT n).2 _
    | a :: b :: r, ih =>
      have ia := ih a (by simp)
      rw [wo]
      repeat' split
      all_goals first | exact ⟨h0, h1⟩ | exact bI_64 _ | exact re_64 _ _ _ ia | exact zero_64 | exact (hT n).1
end Fo
theorem En.Rg.tells {E : En} (h : E.Rg) : Fo.T64 E.T := by
  intro n
  unfold En.T
  split
  · exact ⟨Fo.zero_64, fun m hm => by cases hm⟩
  · split
    · rename_i q e
      refine ⟨Fo.zero_64, h.2 q ?_⟩
      rw [List.getD_eq_getElem?_getD] at e
      cases e2 : E.lists[(ixn E.names n 0).toNat]? with
      | none => rw [e2] at e; cases e
      | some y => rw [e2] at e; rw [← show y = some q from e]; exact List.mem_of_getElem? e2
    · exact ⟨Fo.getD_64 h.1 _, fun m hm => by cases hm⟩
/-- What the first part's Eval leaves. -/
def EvR (w : World) (v0 v1 v2 v3 e0 e1 e2 : Value) (i t : Int) (s9 s10 : Value) (wc : World) : Prop := s9 = .int .i64 i ∧ s10 = .int .i64 t ∧ Below w.heap.size w wc ∧ Bx wc w.heap.size v0 v1 v2 v3 ∧ B3 wc (w.heap.size + 1) e0 e1 e2
/-- What is asked of the document's Eval. -/
def REv (E : En) (x : Sx.Ex) : Prop := ∀ (A : Nat → Prop) (k : Int) (n : List UInt8) (m : Int) (l : List Sx.Ex) (sa : Option Addr) (sn sc : Nat) (s0 s1 s2 : Value) (w : World), x = .mk k n m l → ExS A w (.slice sa sn sc) l → EnM w s0 s1 s2 E →
  Calls Try.prog 12 #[.agg #[.int .i64 k, .string ⟨n.toArray⟩, .int .i64 m, .slice sa sn sc], .agg #[s0, s1, s2]] w fun e w' => e = .returned (.tuple #[.int .i64 (Fo.wo E.T x).1, .int .i64 (Fo.wo E.T x).2]) ∧ Below w.heap.size w w'

set_option maxRecDepth 100000 in
set_option maxHeartbeats 4000000 in
theorem reval_un (E : En) (a : Sx.Ex) (ih : REv E a) (A : Nat → Prop) (n : List UInt8) (m : Int) (sa : Option Addr) (sn sc : Nat) (s0 s1 s2 : Value) (w : World) (hs : ExS A w (.slice sa sn sc) [a]) (hE : EnM w s0 s1 s2 E) (hu : Sx.isUn n = true) :
    Calls Try.prog 12 #[.agg #[.int .i64 5, .string ⟨n.toArray⟩, .int .i64 m, .slice sa sn sc], .agg #[s0, s1, s2]] w fun e w' => e = .returned (.tuple #[.int .i64 (Fo.wo E.T (.mk 5 n m [a])).1, .int .i64 (Fo.wo E.T (.mk 5 n m [a])).2]) ∧ Below w.heap.size w w' := by
  have HW : Hid (Fo.wo E.T (.mk 5 n m [a]) = if ¬ (Fo.wo E.T a).2 = 0 then (0, (Fo.wo E.T a).2) else if n = [33] then (Fo.bI (decide ((Fo.wo E.T a).1 = 0)), 0) else (wrap64 (-(Fo.wo E.T a).1), 0)) := by
    unfold Hid
    rw [Fo.wo]
    simp [Fo.built, hu]
  have hrb : Fo.rb 5 n m 1 = true := by unfold Fo.rb Fo.built; simp [hu]
  have hn := hs.len
  subst hn
  obtain ⟨g, o, k', n', m', sa', sn', sc', ll, rfl, hg, el, c0, c1, c2, c3, hs'⟩ := hs.part 0 (by simp)
  have ea : a = .mk k' n' m' ll := by simpa using el
  have E1 : Hid (∀ W, Below w.heap.size w W → Calls Try.prog 12 #[.agg #[.int .i64 k', .string ⟨n'.toArray⟩, .int .i64 m', .slice sa' sn' sc'], .agg #[s0, s1, s2]] W fun e w' => e = .returned (.tuple #[.int .i64 (Fo.wo E.T a).1, .int .i64 (Fo.wo E.T a).2]) ∧ Below W.heap.size W w') := fun W hW => ih A k' n' m' ll sa' sn' sc' s0 s1 s2 W ea (hs'.later hW (Nat.le_refl _)) (hE.later hW)
  simp only [Nat.zero_mul, Nat.add_zero] at c0 c1 c2 c3
  obtain ⟨i, t, hit⟩ : ∃ i t, Fo.wo E.T a = (i, t) := ⟨_, _, rfl⟩
  rw [hit] at HW E1
  rw [HW.out]
  clear hs hs' el ea ih hit HW
  obtain ⟨v1, v2, hv⟩ : ∃ v1 v2, (if ¬ t = 0 then ((0 : Int), t) else if n = [33] then (Fo.bI (decide (i = 0)), 0) else (wrap64 (-i), 0)) = (v1, v2) := ⟨_, _, rfl⟩
  have HV : Hid _ := hv
  rw [hv]
  clear hv
  obtain ⟨p0, c0', rfl, -⟩ := hE.names
  obtain ⟨p1, c1', rfl, -⟩ := hE.vals
  obtain ⟨p2, c2', rfl, -⟩ := hE.lists
  clear hE
  generalize E.names.length = n0 at *
  generalize E.vals.length = n1 at *
  generalize E.lists.length = n2 at *
  obtain ⟨W0, hW0⟩ : ∃ W0, W0 = (w.alloc (.cells #[.int .i64 5, .string ⟨n.toArray⟩, .int .i64 m, .slice (some ⟨g, o, none⟩) 1 sc] 24)).alloc (.cells #[.slice p0 n0 c0', .slice p1 n1 c1', .slice p2 n2 c2'] 29) := ⟨_, rfl⟩
  have B0 : Hid (Below w.heap.size w W0) := by rw [hW0]; unfold Hid; go_grown
  have BX : Hid (Bx W0 w.heap.size (.int .i64 5) (.string ⟨n.toArray⟩) (.int .i64 m) (.slice (some ⟨g, o, none⟩) 1 sc)) := by rw [hW0]; exact (Bx.new w _ _ _ _ _).later (box_below _ _) (by simp)
  have BY : Hid (B3 W0 (w.heap.size + 1) (.slice p0 n0 c0') (.slice p1 n1 c1') (.slice p2 n2 c2')) := by rw [hW0]; unfold Hid; have := B3.new (w.alloc (.cells #[.int .i64 5, .string ⟨n.toArray⟩, .int .i64 m, .slice (some ⟨g, o, none⟩) 1 sc] 24)) 29 (.slice p0 n0 c0') (.slice p1 n1 c1') (.slice p2 n2 c2'); simpa using this
  have EB : Hid (∀ W, Below w.heap.size w W → _) := fun W (_ : Below w.heap.size w W) => rbuilt_any 5 n m (some ⟨g, o, none⟩) 1 sc W
  rw [hrb] at EB
  clear hrb
  go_enter Try.func12, Try.ntmps12
  go_wp2_with fail
  rw [← hW0]
  clear hW0
  refine Calls.mono (EB.out _ B0.out) ?_
  rintro e w1 ⟨rfl, b1⟩
  have B1 : Hid (Below w.heap.size w w1) := B0.out.trans (b1.mono B0.out.size)
  have X1 : Hid _ := BX.out.later b1 BX.out.lt
  have Y1 : Hid _ := BY.out.later b1 BY.out.lt
  clear b1 BX BY EB
  obtain ⟨y0, y1, y2, yl⟩ := Y1.out
  obtain ⟨d0, d1, d2, d3, f0, f1, f2, f3, zt⟩ := X1.out
  have a0 := (B1.out.cell (p := ⟨g, o, none⟩) hg).trans c0
  have a1 := (B1.out.cell (p := ⟨g, o + 1, none⟩) hg).trans c1
  have a2 := (B1.out.cell (p := ⟨g, o + 2, none⟩) hg).trans c2
  have a3 := (B1.out.cell (p := ⟨g, o + 3, none⟩) hg).trans c3
  go_wp2_with fail
  have E1' : Hid (∀ W, Below w1.heap.size w1 W → _) := fun W hW => E1.out W (B1.out.trans (hW.mono B1.out.size))
  go_cut [9, 10] from 60 (fun s9 s10 wc => EvR w (.int .i64 5) (.string ⟨n.toArray⟩) (.int .i64 m) (.slice (some ⟨g, o, none⟩) 1 sc) (.slice p0 n0 c0') (.slice p1 n1 c1') (.slice p2 n2 c2') i t s9 s10 wc)
  case first =>
    go_region_with (go_at_call 12; refine Calls.mono (E1'.out _ (by go_grown)) ?_; rintro e w2 ⟨rfl, b3⟩; have b2 : Below w1.heap.size w1 w2 := Below.trans (by go_grown) (b3.mono (by go_size)); have B2 : Hid (Below w.heap.size w w2) := B1.out.trans (b2.mono B1.out.size); have X2 : Hid _ := X1.out.later b2 X1.out.lt; have Y2 : Hid _ := Y1.out.later b2 Y1.out.lt)
    all_goals (go_wp2_with fail; go_meet; case rel => exact ⟨rfl, rfl, B2.out, X2.out, Y2.out⟩)
  case rest =>
  obtain ⟨rfl, rfl, bz, xz, yz⟩ := hcut
  have B2 : Hid _ := bz
  have X2 : Hid _ := xz
  have Y2 : Hid _ := yz
  clear a0 a1 a2 a3 y0 y1 y2 yl d0 d1 d2 d3 f0 f1 f2 f3 zt X1 Y1 bz xz yz
  obtain ⟨y0, y1, y2, yl⟩ := Y2.out
  obtain ⟨d0, d1, d2, d3, f0, f1, f2, f3, zt⟩ := X2.out
  by_cases h0 : t = 0
  · subst h0
    by_cases h33 : n = [33]
    · subst h33
      have hv := HV.out
      rw [if_neg (by simp), if_pos rfl, ← beq_int] at hv
      have HJ : Hid (Fo.bI (i == 0) = v1 ∧ 0 = v2) := ⟨congrArg Prod.fst hv, congrArg Prod.snd hv⟩
      clear hv HV
      go_wp2_with fail
      refine Calls.mono (rtruth_any _ _) ?_
      rintro e w3 ⟨rfl, hw⟩
      rw [hw]
      clear hw w3
      go_wp2_with fail
      go_ret2
      exact ⟨ret_two HJ.out.1 HJ.out.2, B2.out⟩
    · have h45 : n = [45] := by
        unfold Sx.isUn at hu
        simpa [h33] using hu
      subst h45
      have hv := HV.out
      rw [if_neg (by simp), if_neg h33] at hv
      have HJ : Hid (wrap64 (-i) = v1 ∧ 0 = v2) := ⟨congrArg Prod.fst hv, congrArg Prod.snd hv⟩
      clear hv HV
      clear h33
      go_wp2_with fail
      refine Calls.mono (rneg_any _ _) ?_
      rintro e w3 ⟨rfl, b3⟩
      have B3' : Hid (Below w.heap.size w w3) := B2.out.trans (b3.mono B2.out.size)
      clear b3
      go_wp2_with fail
      go_ret2
      exact ⟨ret_two HJ.out.1 HJ.out.2, B3'.out⟩
  · have hv := HV.out
    rw [if_pos h0] at hv
    have HJ : Hid (0 = v1 ∧ t = v2) := ⟨congrArg Prod.fst hv, congrArg Prod.snd hv⟩
    clear hv HV
    have bt : (t == 0) = false := beq_eq_false_iff_ne.2 h0
    clear h0
    go_wp2_with fail
    go_ret2
    exact ⟨ret_two HJ.out.1 HJ.out.2, B2.out⟩
end Go.Proofs.Ythadpkmbbimleaa
