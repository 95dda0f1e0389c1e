/- Layer 5: constants (the program's Const). -/
import Derived.Test.YthadpkmbbimleaaZFolH
namespace Go.Proofs.Ythadpkmbbimleaa
open Go.RowKit

theorem Fo.isU_parts {s : List UInt8} {k : Int} {n : List UInt8} {m : Int} {l : List Sx.Ex} (h : Fo.isU s (.mk k n m l) = true) : k = 5 ∧ n = s ∧ ∃ a, l = [a] := by
  unfold Fo.isU Fo.bu Fo.kd Fo.nm at h
  simp only [Bool.and_eq_true, beq_iff_eq] at h
  obtain ⟨⟨h1, rfl⟩, rfl⟩ := h
  have h2 : l.length = 1 ∧ Sx.isUn n = true := by simpa [Fo.built] using h1
  exact ⟨rfl, rfl, List.length_eq_one_iff.1 h2.1⟩
theorem Fo.isT_parts {s : List UInt8} {k : Int} {n : List UInt8} {m : Int} {l : List Sx.Ex} (h : Fo.isT s (.mk k n m l) = true) : k = 6 ∧ n = s ∧ ∃ a b, l = [a, b] := by
  unfold Fo.isT Fo.bu Fo.kd Fo.nm at h
  simp only [Bool.and_eq_true, beq_iff_eq] at h
  obtain ⟨⟨h1, rfl⟩, rfl⟩ := h
  have h2 : l.length = 2 ∧ (Fo.isRe n || Fo.isTe n) = true := by simpa [Fo.built] using h1
  exact ⟨rfl, rfl, Fo.len_two h2.1⟩
/-- Two expressions in boxes of their own. -/
def ABx (w1 : World) (a0 a1 a2 a3 b0 b1 b2 b3 : Value) (s3 s4 : Value) (wc : World) : Prop := ∃ g3 g4, s3 = .pointer (some ⟨g3, 0, none⟩) ∧ s4 = .pointer (some ⟨g4, 0, none⟩) ∧ Bx wc g3 a0 a1 a2 a3 ∧ Bx wc g4 b0 b1 b2 b3 ∧ Below w1.heap.size w1 wc
theorem ABx.of1 (w1 : World) (a0 a1 a2 a3 b0 b1 b2 b3 : Value) (t u : TypeId) : ABx w1 a0 a1 a2 a3 b0 b1 b2 b3 (.pointer (some ⟨w1.heap.size, 0, none⟩)) (.pointer (some ⟨w1.heap.size + 1, 0, none⟩)) ((w1.alloc (.cells #[a0, a1, a2, a3] t)).alloc (.cells #[b0, b1, b2, b3] u)).drew := by
  have e : (w1.alloc (.cells #[a0, a1, a2, a3] t)).heap.size = w1.heap.size + 1 := by simp
  have B := Bx.new (w1.alloc (.cells #[a0, a1, a2, a3] t)) u b0 b1 b2 b3
  rw [e] at B
  have A := (Bx.new w1 t a0 a1 a2 a3).later (box_below _ (.cells #[b0, b1, b2, b3] u)) (by simp)
  exact ⟨_, _, rfl, rfl, A.later (Below.refl _ _).drew A.lt, B.later (Below.refl _ _).drew B.lt, by go_grown⟩
theorem ABx.of2 (w1 : World) (a0 a1 a2 a3 b0 b1 b2 b3 : Value) (t u : TypeId) : ABx w1 a0 a1 a2 a3 b0 b1 b2 b3 (.pointer (some ⟨w1.heap.size + 1, 0, none⟩)) (.pointer (some ⟨w1.heap.size, 0, none⟩)) ((w1.alloc (.cells #[b0, b1, b2, b3] u)).alloc (.cells #[a0, a1, a2, a3] t)).drew := by
  have e : (w1.alloc (.cells #[b0, b1, b2, b3] u)).heap.size = w1.heap.size + 1 := by simp
  have B := Bx.new (w1.alloc (.cells #[b0, b1, b2, b3] u)) t a0 a1 a2 a3
  rw [e] at B
  have A := (Bx.new w1 u b0 b1 b2 b3).later (box_below _ (.cells #[a0, a1, a2, a3] t)) (by simp)
  exact ⟨_, _, rfl, rfl, B.later (Below.refl _ _).drew B.lt, A.later (Below.refl _ _).drew A.lt, by go_grown⟩
set_option maxRecDepth 100000 in
set_option maxHeartbeats 1000000 in
theorem isBelow_any (A : Nat → Prop) (k : Int) (n : List UInt8) (m : Int) (l : List Sx.Ex) (sa : Option Addr) (sc : Nat) (w : World) (hs : ExS A w (.slice sa l.length sc) l) : Calls Try.prog 38 #[.agg #[.int .i64 k, .string ⟨n.toArray⟩, .int .i64 m, .slice sa l.length sc]] w fun e w' => e = .returned (.bool (Fo.isBel (.mk k n m l))) ∧ Below w.heap.size w w' := by
  have EU : Hid (∀ W, Below w.heap.size w W → _) := fun W (_ : Below w.heap.size w W) => fUnary_any [45] k n m l sa sc W
  show Calls _ _ _ _ fun e w' => e = .returned (.bool (Fo.isU [45] (.mk k n m l) && Fo.above (l.getD 0 Fo.e0))) ∧ Below w.heap.size w w'
  cases hu : Fo.isU [45] (.mk k n m l) with
  | false =>
    rw [hu] at EU
    clear hu hs
    go_enter Try.func38, Try.ntmps38
    go_wp2_with fail
    refine Calls.mono (EU.out _ (box_below w _)) ?_
    rintro e w1 ⟨rfl, b1⟩
    have BW : Hid (Below w.heap.size w w1) := (box_below w _).trans (b1.mono (by simp))
    clear b1
    go_wp2_with fail
    go_ret
    exact ⟨rfl, BW.out⟩
  | true =>
    rw [hu] at EU
    obtain ⟨rfl, rfl, a, rfl⟩ := Fo.isU_parts hu
    obtain ⟨g, o, k', n', m', sa', sn', sc', ll, rfl, hg, el, c0, c1, c2, c3, hs'⟩ := hs.part 0 (by simp)
    have ea : a = .mk k' n' m' ll := by simpa using el
    have hln := hs'.len
    have EA : Hid (∀ W, Below w.heap.size w W → Calls Try.prog 35 #[.agg #[.int .i64 k', .string ⟨n'.toArray⟩, .int .i64 m', .slice sa' sn' sc']] W fun e w' => e = .returned (.bool (Fo.above (.mk k' n' m' ll))) ∧ Below W.heap.size W w') := fun W _ => isAbove_any k' n' m' sa' sn' sc' ll hln W
    have C2 : Hid (∀ W, Below w.heap.size w W → W.cell? ⟨g, o, none⟩ = some (.int .i64 k') ∧ W.cell? ⟨g, o + 1, none⟩ = some (.string ⟨n'.toArray⟩) ∧ W.cell? ⟨g, o + 2, none⟩ = some (.int .i64 m') ∧ W.cell? ⟨g, o + 3, none⟩ = some (.slice sa' sn' sc')) := fun W hW => ⟨(hW.cell (p := ⟨g, o, none⟩) hg).trans (by simpa using c0), (hW.cell (p := ⟨g, o + 1, none⟩) hg).trans (by simpa using c1), (hW.cell (p := ⟨g, o + 2, none⟩) hg).trans (by simpa using c2), (hW.cell (p := ⟨g, o + 3, none⟩) hg).trans (by simpa using c3)⟩
    subst ea
    show Calls Try.prog 38 #[.agg #[.int .i64 5, .string ⟨#[45]⟩, .int .i64 m, .slice (some ⟨g, o, none⟩) 1 sc]] w fun e w' => e = .returned (.bool (Fo.above (.mk k' n' m' ll))) ∧ Below w.heap.size w w'
    have EU2 : Hid (∀ W, Below w.heap.size w W → Calls Try.prog 62 #[.agg #[.int .i64 5, .string ⟨#[45]⟩, .int .i64 m, .slice (some ⟨g, o, none⟩) 1 sc], .string ⟨#[45]⟩] W fun e w' => e = .returned (.bool true) ∧ Below W.heap.size W w') := EU
    clear hu hs hs' el c0 c1 c2 c3 hln EU
    go_enter Try.func38, Try.ntmps38
    go_wp2_with fail
    refine Calls.mono (EU2.out _ (box_below w _)) ?_
    rintro e w1 ⟨rfl, b1⟩
    obtain ⟨d0, d1, d2, d3, h0, h1, h2, h3, zt⟩ := (Bx.new w 24 (.int .i64 5) (.string ⟨#[45]⟩) (.int .i64 m) (.slice (some ⟨g, o, none⟩) 1 sc)).later b1 (by simp)
    have BW : Hid (Below w.heap.size w w1) := (box_below w _).trans (b1.mono (by simp))
    obtain ⟨q0, q1, q2, q3⟩ := C2.out _ BW.out
    have hg1 : g < w1.heap.size := Nat.lt_of_lt_of_le hg BW.out.size
    clear b1
    go_wp2_with fail
    refine Calls.mono (EA.out _ BW.out) ?_
    rintro e w2 ⟨rfl, b2⟩
    have BW2 : Hid (Below w.heap.size w w2) := BW.out.trans (b2.mono BW.out.size)
    clear b2 q0 q1 q2 q3
    go_wp2_with fail
    go_ret
    exact ⟨rfl, BW2.out⟩
set_option maxRecDepth 100000 in
set_option maxHeartbeats 2000000 in
theorem isLeast_any (A : Nat → Prop) (k : Int) (n : List UInt8) (m : Int) (l : List Sx.Ex) (sa : Option Addr) (sc : Nat) (w : World) (hs : ExS A w (.slice sa l.length sc) l) : Calls Try.prog 39 #[.agg #[.int .i64 k, .string ⟨n.toArray⟩, .int .i64 m, .slice sa l.length sc]] w fun e w' => e = .returned (.bool (Fo.isLe (.mk k n m l))) ∧ Below w.heap.size w w' := by
  have EU : Hid (∀ W, Below w.heap.size w W → _) := fun W (_ : Below w.heap.size w W) => isTwo_any [45] k n m l sa sc W
  show Calls _ _ _ _ fun e w' => e = .returned (.bool (Fo.isT [45] (.mk k n m l) && (Fo.isBel (l.getD 0 Fo.e0) && Fo.isW 9223372036854775807 ((Fo.pa (l.getD 0 Fo.e0)).getD 0 Fo.e0) && Fo.isW 1 (l.getD 1 Fo.e0)))) ∧ Below w.heap.size w w'
  cases hu : Fo.isT [45] (.mk k n m l) with
  | false =>
    rw [hu] at EU
    clear hu hs
    go_enter Try.func39, Try.ntmps39
    go_wp2_with fail
    refine Calls.mono (EU.out _ (box_below w _)) ?_
    rintro e w1 ⟨rfl, b1⟩
    have BW : Hid (Below w.heap.size w w1) := (box_below w _).trans (b1.mono (by simp))
    clear b1
    go_wp2_with fail
    go_ret
    exact ⟨rfl, BW.out⟩
  | true =>
    rw [hu] at EU
    obtain ⟨rfl, rfl, a, b, rfl⟩ := Fo.isT_parts hu
    obtain ⟨g, o, k', n', m', sa', sn', sc', ll, rfl, hg, el, c0, c1, c2, c3, hs'⟩ := hs.part 0 (by simp)
    obtain ⟨g2, o2, k2, n2, m2, sa2, sn2, sc2, ll2, eg, _, el2, q0, q1, q2, q3, hs2⟩ := hs.part 1 (by simp)
    cases eg
    have ea : a = .mk k' n' m' ll := by simpa using el
    have eb : b = .mk k2 n2 m2 ll2 := by simpa using el2
    have hln := hs'.len
    have hln2 := hs2.len
    subst hln hln2 ea eb
    have EL : Hid (∀ W, Below w.heap.size w W → _) := fun W hW => isBelow_any A k' n' m' ll sa' sc' W (hs'.later hW (Nat.le_refl _))
    have EW : Hid (∀ W, Below w.heap.size w W → _) := fun W (_ : Below w.heap.size w W) => isWhole_any 1 k2 n2 m2 ll2 sa2 sc2 W
    have C2 : Hid (∀ W, Below w.heap.size w W → (W.cell? ⟨g, o, none⟩ = some (.int .i64 k') ∧ W.cell? ⟨g, o + 1, none⟩ = some (.string ⟨n'.toArray⟩) ∧ W.cell? ⟨g, o + 2, none⟩ = some (.int .i64 m') ∧ W.cell? ⟨g, o + 3, none⟩ = some (.slice sa' ll.length sc')) ∧ W.cell? ⟨g, o + 4, none⟩ = some (.int .i64 k2) ∧ W.cell? ⟨g, o + 5, none⟩ = some (.string ⟨n2.toArray⟩) ∧ W.cell? ⟨g, o + 6, none⟩ = some (.int .i64 m2) ∧ W.cell? ⟨g, o + 7, none⟩ = some (.slice sa2 ll2.length sc2)) := fun W hW => ⟨⟨(hW.cell (p := ⟨g, o, none⟩) hg).trans (by simpa using c0), (hW.cell (p := ⟨g, o + 1, none⟩) hg).trans (by simpa using c1), (hW.cell (p := ⟨g, o + 2, none⟩) hg).trans (by simpa using c2), (hW.cell (p := ⟨g, o + 3, none⟩) hg).trans (by simpa using c3)⟩, (hW.cell (p := ⟨g, o + 4, none⟩) hg).trans (by simpa using q0), (hW.cell (p := ⟨g, o + 5, none⟩) hg).trans (by simpa [Nat.add_assoc] using q1), (hW.cell (p := ⟨g, o + 6, none⟩) hg).trans (by simpa [Nat.add_assoc] using q2), (hW.cell (p := ⟨g, o + 7, none⟩) hg).trans (by simpa [Nat.add_assoc] using q3)⟩
    show Calls Try.prog 39 #[.agg #[.int .i64 6, .string ⟨#[45]⟩, .int .i64 m, .slice (some ⟨g, o, none⟩) 2 sc]] w fun e w' => e = .returned (.bool (Fo.isBel (.mk k' n' m' ll) && Fo.isW 9223372036854775807 (ll.getD 0 Fo.e0) && Fo.isW 1 (.mk k2 n2 m2 ll2))) ∧ Below w.heap.size w w'
    have EU2 : Hid (∀ W, Below w.heap.size w W → Calls Try.prog 63 #[.agg #[.int .i64 6, .string ⟨#[45]⟩, .int .i64 m, .slice (some ⟨g, o, none⟩) 2 sc], .string ⟨#[45]⟩] W fun e w' => e = .returned (.bool true) ∧ Below W.heap.size W w') := EU
    have HS' : Hid _ := hs'
    clear hu hs hs' hs2 el el2 c0 c1 c2 c3 q0 q1 q2 q3 EU
    cases hb : Fo.isBel (.mk k' n' m' ll) with
    | false =>
      rw [hb] at EL
      show Calls _ _ _ _ fun e w' => e = .returned (.bool false) ∧ Below w.heap.size w w'
      clear hb
      go_enter Try.func39, Try.ntmps39
      go_wp2_with fail
      refine Calls.mono (EU2.out _ (box_below w _)) ?_
      rintro e w1 ⟨rfl, b1⟩
      obtain ⟨d0, d1, d2, d3, h0, h1, h2, h3, zt⟩ := (Bx.new w 24 (.int .i64 6) (.string ⟨#[45]⟩) (.int .i64 m) (.slice (some ⟨g, o, none⟩) 2 sc)).later b1 (by simp)
      have BW : Hid (Below w.heap.size w w1) := (box_below w _).trans (b1.mono (by simp))
      obtain ⟨⟨q0, q1, q2, q3⟩, t0, t1, t2, t3⟩ := C2.out _ BW.out
      have hg1 : g < w1.heap.size := Nat.lt_of_lt_of_le hg BW.out.size
      clear b1
      go_wp2_with fail
      go_cut [3, 4] from 8 (fun s3 s4 wc => ABx w1 (.int .i64 k') (.string ⟨n'.toArray⟩) (.int .i64 m') (.slice sa' ll.length sc') (.int .i64 k2) (.string ⟨n2.toArray⟩) (.int .i64 m2) (.slice sa2 ll2.length sc2) s3 s4 wc)
      case first =>
        go_region
        all_goals (go_wp2_with fail; go_meet; case rel => first | exact ABx.of1 _ _ _ _ _ _ _ _ _ _ _ | exact ABx.of2 _ _ _ _ _ _ _ _ _ _ _)
      case rest =>
      obtain ⟨g3, g4, rfl, rfl, X0, Y0, bx⟩ := hcut
      have BX : Hid (Below w.heap.size w wc) := BW.out.trans (bx.mono BW.out.size)
      have XX0 : Hid _ := X0
      have YY0 : Hid _ := Y0
      obtain ⟨x0, x1, x2, x3, u0, u1, u2, u3, zx⟩ := X0
      clear d0 d1 d2 d3 h0 h1 h2 h3 zt q0 q1 q2 q3 t0 t1 t2 t3 bx hg1 Y0
      go_wp2_with fail
      refine Calls.mono (EL.out _ BX.out) ?_
      rintro e w2 ⟨rfl, b2⟩
      have BW2 : Hid (Below w.heap.size w w2) := BX.out.trans (b2.mono BX.out.size)
      have X2 := XX0.out.later b2 XX0.out.lt
      have Y2 := YY0.out.later b2 YY0.out.lt
      have BY : Hid _ := Y2
      clear x0 x1 x2 x3 u0 u1 u2 u3 zx b2 Y2
      obtain ⟨x0, x1, x2, x3, u0, u1, u2, u3, zx⟩ := X2
      go_wp2_with fail
      go_ret
      exact ⟨rfl, BW2.out⟩
    | true =>
      rw [hb] at EL
      have hU : Fo.isU [45] (.mk k' n' m' ll) = true := by unfold Fo.isBel at hb; exact (Bool.and_eq_true_iff.1 hb).1
      obtain ⟨rfl, rfl, d, rfl⟩ := Fo.isU_parts hU
      obtain ⟨g', o', k3, n3, m3, sa3, sn3, sc3, ll3, rfl, hg3, el3, r0, r1, r2, r3, hs3⟩ := HS'.out.part 0 (by simp)
      have ed : d = .mk k3 n3 m3 ll3 := by simpa using el3
      have hln3 := hs3.len
      subst hln3 ed
      have EX : Hid (∀ W, Below w.heap.size w W → _) := fun W (_ : Below w.heap.size w W) => isWhole_any 9223372036854775807 k3 n3 m3 ll3 sa3 sc3 W
      have C3 : Hid (∀ W, Below w.heap.size w W → W.cell? ⟨g', o', none⟩ = some (.int .i64 k3) ∧ W.cell? ⟨g', o' + 1, none⟩ = some (.string ⟨n3.toArray⟩) ∧ W.cell? ⟨g', o' + 2, none⟩ = some (.int .i64 m3) ∧ W.cell? ⟨g', o' + 3, none⟩ = some (.slice sa3 ll3.length sc3)) := fun W hW => ⟨(hW.cell (p := ⟨g', o', none⟩) hg3).trans (by simpa using r0), (hW.cell (p := ⟨g', o' + 1, none⟩) hg3).trans (by simpa using r1), (hW.cell (p := ⟨g', o' + 2, none⟩) hg3).trans (by simpa using r2), (hW.cell (p := ⟨g', o' + 3, none⟩) hg3).trans (by simpa using r3)⟩
      show Calls _ _ _ _ fun e w' => e = .returned (.bool (Fo.isW 9223372036854775807 (.mk k3 n3 m3 ll3) && Fo.isW 1 (.mk k2 n2 m2 ll2))) ∧ Below w.heap.size w w'
      clear hb hU el3 r0 r1 r2 r3 hs3 HS'
      cases hx : Fo.isW 9223372036854775807 (.mk k3 n3 m3 ll3) with
      | false =>
        rw [hx] at EX
        show Calls _ _ _ _ fun e w' => e = .returned (.bool false) ∧ Below w.heap.size w w'
        clear hx
        go_enter Try.func39, Try.ntmps39
        go_wp2_with fail
        refine Calls.mono (EU2.out _ (box_below w _)) ?_
        rintro e w1 ⟨rfl, b1⟩
        obtain ⟨d0, d1, d2, d3, h0, h1, h2, h3, zt⟩ := (Bx.new w 24 (.int .i64 6) (.string ⟨#[45]⟩) (.int .i64 m) (.slice (some ⟨g, o, none⟩) 2 sc)).later b1 (by simp)
        have BW : Hid (Below w.heap.size w w1) := (box_below w _).trans (b1.mono (by simp))
        obtain ⟨⟨q0, q1, q2, q3⟩, t0, t1, t2, t3⟩ := C2.out _ BW.out
        have hg1 : g < w1.heap.size := Nat.lt_of_lt_of_le hg BW.out.size
        clear b1
        go_wp2_with fail
        go_cut [3, 4] from 8 (fun s3 s4 wc => ABx w1 (.int .i64 5) (.string ⟨#[45]⟩) (.int .i64 m') (.slice (some ⟨g', o', none⟩) 1 sc') (.int .i64 k2) (.string ⟨n2.toArray⟩) (.int .i64 m2) (.slice sa2 ll2.length sc2) s3 s4 wc)
        case first =>
          go_region
          all_goals (go_wp2_with fail; go_meet; case rel => first | exact ABx.of1 _ _ _ _ _ _ _ _ _ _ _ | exact ABx.of2 _ _ _ _ _ _ _ _ _ _ _)
        case rest =>
        obtain ⟨g3, g4, rfl, rfl, X0, Y0, bx⟩ := hcut
        have BX : Hid (Below w.heap.size w wc) := BW.out.trans (bx.mono BW.out.size)
        have XX0 : Hid _ := X0
        have YY0 : Hid _ := Y0
        obtain ⟨x0, x1, x2, x3, u0, u1, u2, u3, zx⟩ := X0
        clear d0 d1 d2 d3 h0 h1 h2 h3 zt q0 q1 q2 q3 t0 t1 t2 t3 bx hg1 Y0
        go_wp2_with fail
        refine Calls.mono (EL.out _ BX.out) ?_
        rintro e w2 ⟨rfl, b2⟩
        have BW2 : Hid (Below w.heap.size w w2) := BX.out.trans (b2.mono BX.out.size)
        have X2 := XX0.out.later b2 XX0.out.lt
        have Y2 := YY0.out.later b2 YY0.out.lt
        have BY : Hid _ := Y2
        clear x0 x1 x2 x3 u0 u1 u2 u3 zx b2 Y2
        obtain ⟨x0, x1, x2, x3, u0, u1, u2, u3, zx⟩ := X2
        obtain ⟨r0, r1, r2, r3⟩ := C3.out _ BW2.out
        have hg2 : g' < w2.heap.size := Nat.lt_of_lt_of_le hg3 BW2.out.size
        go_wp2_with fail
        refine Calls.mono (EX.out _ BW2.out) ?_
        rintro e w3 ⟨rfl, b3⟩
        have BW3 : Hid (Below w.heap.size w w3) := BW2.out.trans (b3.mono BW2.out.size)
        clear b3
        go_wp2_with fail
        go_ret
        exact ⟨rfl, BW3.out⟩
      | true =>
        rw [hx] at EX
        show Calls _ _ _ _ fun e w' => e = .returned (.bool (Fo.isW 1 (.mk k2 n2 m2 ll2))) ∧ Below w.heap.size w w'
        clear hx
        go_enter Try.func39, Try.ntmps39
        go_wp2_with fail
        refine Calls.mono (EU2.out _ (box_below w _)) ?_
        rintro e w1 ⟨rfl, b1⟩
        obtain ⟨d0, d1, d2, d3, h0, h1, h2, h3, zt⟩ := (Bx.new w 24 (.int .i64 6) (.string ⟨#[45]⟩) (.int .i64 m) (.slice (some ⟨g, o, none⟩) 2 sc)).later b1 (by simp)
        have BW : Hid (Below w.heap.size w w1) := (box_below w _).trans (b1.mono (by simp))
        obtain ⟨⟨q0, q1, q2, q3⟩, t0, t1, t2, t3⟩ := C2.out _ BW.out
        have hg1 : g < w1.heap.size := Nat.lt_of_lt_of_le hg BW.out.size
        clear b1
        go_wp2_with fail
        go_cut [3, 4] from 8 (fun s3 s4 wc => ABx w1 (.int .i64 5) (.string ⟨#[45]⟩) (.int .i64 m') (.slice (some ⟨g', o', none⟩) 1 sc') (.int .i64 k2) (.string ⟨n2.toArray⟩) (.int .i64 m2) (.slice sa2 ll2.length sc2) s3 s4 wc)
        case first =>
          go_region
          all_goals (go_wp2_with fail; go_meet; case rel => first | exact ABx.of1 _ _ _ _ _ _ _ _ _ _ _ | exact ABx.of2 _ _ _ _ _ _ _ _ _ _ _)
        case rest =>
        obtain ⟨g3, g4, rfl, rfl, X0, Y0, bx⟩ := hcut
        have BX : Hid (Below w.heap.size w wc) := BW.out.trans (bx.mono BW.out.size)
        have XX0 : Hid _ := X0
        have YY0 : Hid _ := Y0
        obtain ⟨x0, x1, x2, x3, u0, u1, u2, u3, zx⟩ := X0
        clear d0 d1 d2 d3 h0 h1 h2 h3 zt q0 q1 q2 q3 t0 t1 t2 t3 bx hg1 Y0
        go_wp2_with fail
        refine Calls.mono (EL.out _ BX.out) ?_
        rintro e w2 ⟨rfl, b2⟩
        have BW2 : Hid (Below w.heap.size w w2) := BX.out.trans (b2.mono BX.out.size)
        have X2 := XX0.out.later b2 XX0.out.lt
        have Y2 := YY0.out.later b2 YY0.out.lt
        have BY : Hid _ := Y2
        clear x0 x1 x2 x3 u0 u1 u2 u3 zx b2 Y2
        obtain ⟨x0, x1, x2, x3, u0, u1, u2, u3, zx⟩ := X2
        obtain ⟨r0, r1, r2, r3⟩ := C3.out _ BW2.out
        have hg2 : g' < w2.heap.size := Nat.lt_of_lt_of_le hg3 BW2.out.size
        go_wp2_with fail
        refine Calls.mono (EX.out _ BW2.out) ?_
        rintro e w3 ⟨rfl, b3⟩
        have BW3 : Hid (Below w.heap.size w w3) := BW2.out.trans (b3.mono BW2.out.size)
        have Y3 := BY.out.later b3 BY.out.lt
        obtain ⟨y0, y1, y2, y3, v0, v1, v2, v3, zy⟩ := Y3
        clear b3
        go_wp2_with fail
        refine Calls.mono (EW.out _ BW3.out) ?_
        rintro e w4 ⟨rfl, b4⟩
        have BW4 : Hid (Below w.heap.size w w4) := BW3.out.trans (b4.mono BW3.out.size)
        clear b4
        go_wp2_with fail
        go_ret
        exact ⟨rfl, BW4.out⟩
/-- What Const answers. -/
def Fo.cst (x : Sx.Ex) : Int := if Fo.cn x then (Fo.wo T0 x).1 else 0
set_option maxRecDepth 100000 in
set_option maxHeartbeats 2000000 in
theorem Const_any (A : Nat → Prop) (k : Int) (n : List UInt8) (m : Int) (l : List Sx.Ex) (sa : Option Addr) (sc : Nat) (w : World) (hs : ExS A w (.slice sa l.length sc) l) : Calls Try.prog 18 #[.agg #[.int .i64 k, .string ⟨n.toArray⟩, .int .i64 m, .slice sa l.length sc]] w fun e w' => e = .returned (.tuple #[.int .i64 (Fo.cst (.mk k n m l)), .bool (Fo.cn (.mk k n m l))]) ∧ Below w.heap.size w w' := by
  have EP : Hid (∀ W, Below w.heap.size w W → _) := fun W (_ : Below w.heap.size w W) => isPlain_any k n m l sa sc W
  have EL : Hid (∀ W, Below w.heap.size w W → _) := fun W hW => isBelow_any A k n m l sa sc W (hs.later hW (Nat.le_refl _))
  have EM : Hid (∀ W, Below w.heap.size w W → _) := fun W hW => isLeast_any A k n m l sa sc W (hs.later hW (Nat.le_refl _))
  have EV : Hid (∀ W, Below w.heap.size w W → _) := fun W hW => Eval_any T0 A k n m l sa l.length sc (.slice none 0 0) (.slice none 0 0) (.slice none 0 0) W (hs.later hW (Nat.le_refl _)) (value_none W)
  unfold Fo.cst Fo.cn
  clear hs
  cases h1 : Fo.isP (.mk k n m l) with
  | true =>
    rw [h1] at EP
    show Calls _ _ _ _ fun e w' => e = .returned (.tuple #[.int .i64 (Fo.wo T0 (.mk k n m l)).1, .bool true]) ∧ Below w.heap.size w w'
    clear h1
    go_enter Try.func18, Try.ntmps18
    go_wp2_with fail
    refine Calls.mono (EP.out _ (box_below w _)) ?_
    rintro e w1 ⟨rfl, b1⟩
    have B1 := (Bx.new w 24 (.int .i64 k) (.string ⟨n.toArray⟩) (.int .i64 m) (.slice sa l.length sc)).later b1 (by simp)
    have BW1 : Hid (Below w.heap.size w w1) := (box_below w _).trans (b1.mono (by simp))
    have BB1 : Hid _ := B1
    obtain ⟨d0, d1, d2, d3, h0, h1, h2, h3, zt⟩ := B1
    clear b1
    go_wp2_with fail
    refine Calls.mono (EV.out _ BW1.out) ?_
    rintro e w9 ⟨rfl, b9⟩
    have BW9 : Hid (Below w.heap.size w w9) := BW1.out.trans (b9.mono BW1.out.size)
    clear b9
    go_wp2_with fail
    go_ret2
    exact ⟨rfl, BW9.out⟩
  | false =>
    rw [h1] at EP
    clear h1
    cases h2 : Fo.isBel (.mk k n m l) with
    | true =>
      rw [h2] at EL
      show Calls _ _ _ _ fun e w' => e = .returned (.tuple #[.int .i64 (Fo.wo T0 (.mk k n m l)).1, .bool true]) ∧ Below w.heap.size w w'
      clear h2
      go_enter Try.func18, Try.ntmps18
      go_wp2_with fail
      refine Calls.mono (EP.out _ (box_below w _)) ?_
      rintro e w1 ⟨rfl, b1⟩
      have B1 := (Bx.new w 24 (.int .i64 k) (.string ⟨n.toArray⟩) (.int .i64 m) (.slice sa l.length sc)).later b1 (by simp)
      have BW1 : Hid (Below w.heap.size w w1) := (box_below w _).trans (b1.mono (by simp))
      have BB1 : Hid _ := B1
      obtain ⟨d0, d1, d2, d3, h0, h1, h2, h3, zt⟩ := B1
      clear b1
      go_wp2_with fail
      refine Calls.mono (EL.out _ BW1.out) ?_
      rintro e w2 ⟨rfl, b2⟩
      have B2 := BB1.out.later b2 BB1.out.lt
      have BW2 : Hid (Below w.heap.size w w2) := BW1.out.trans (b2.mono BW1.out.size)
      clear d0 d1 d2 d3 h0 h1 h2 h3 zt
      have BB2 : Hid _ := B2
      obtain ⟨d0, d1, d2, d3, h0, h1, h2, h3, zt⟩ := B2
      clear b2
      go_wp2_with fail
      refine Calls.mono (EV.out _ BW2.out) ?_
      rintro e w9 ⟨rfl, b9⟩
      have BW9 : Hid (Below w.heap.size w w9) := BW2.out.trans (b9.mono BW2.out.size)
      clear b9
      go_wp2_with fail
      go_ret2
      exact ⟨rfl, BW9.out⟩
    | false =>
      rw [h2] at EL
      clear h2
      cases h3 : Fo.isLe (.mk k n m l) with
      | true =>
        rw [h3] at EM
        show Calls _ _ _ _ fun e w' => e = .returned (.tuple #[.int .i64 (Fo.wo T0 (.mk k n m l)).1, .bool true]) ∧ Below w.heap.size w w'
        clear h3
        go_enter Try.func18, Try.ntmps18
        go_wp2_with fail
        refine Calls.mono (EP.out _ (box_below w _)) ?_
        rintro e w1 ⟨rfl, b1⟩
        have B1 := (Bx.new w 24 (.int .i64 k) (.string ⟨n.toArray⟩) (.int .i64 m) (.slice sa l.length sc)).later b1 (by simp)
        have BW1 : Hid (Below w.heap.size w w1) := (box_below w _).trans (b1.mono (by simp))
        have BB1 : Hid _ := B1
        obtain ⟨d0, d1, d2, d3, h0, h1, h2, h3, zt⟩ := B1
        clear b1
        go_wp2_with fail
        refine Calls.mono (EL.out _ BW1.out) ?_
        rintro e w2 ⟨rfl, b2⟩
        have B2 := BB1.out.later b2 BB1.out.lt
        have BW2 : Hid (Below w.heap.size w w2) := BW1.out.trans (b2.mono BW1.out.size)
        clear d0 d1 d2 d3 h0 h1 h2 h3 zt
        have BB2 : Hid _ := B2
        obtain ⟨d0, d1, d2, d3, h0, h1, h2, h3, zt⟩ := B2
        clear b2
        go_wp2_with fail
        refine Calls.mono (EM.out _ BW2.out) ?_
        rintro e w3 ⟨rfl, b3⟩
        have B3 := BB2.out.later b3 BB2.out.lt
        have BW3 : Hid (Below w.heap.size w w3) := BW2.out.trans (b3.mono BW2.out.size)
        clear d0 d1 d2 d3 h0 h1 h2 h3 zt
        have BB3 : Hid _ := B3
        obtain ⟨d0, d1, d2, d3, h0, h1, h2, h3, zt⟩ := B3
        clear b3
        go_wp2_with fail
        refine Calls.mono (EV.out _ BW3.out) ?_
        rintro e w9 ⟨rfl, b9⟩
        have BW9 : Hid (Below w.heap.size w w9) := BW3.out.trans (b9.mono BW3.out.size)
        clear b9
        go_wp2_with fail
        go_ret2
        exact ⟨rfl, BW9.out⟩
      | false =>
        rw [h3] at EM
        show Calls _ _ _ _ fun e w' => e = .returned (.tuple #[.int .i64 0, .bool false]) ∧ Below w.heap.size w w'
        clear h3
        go_enter Try.func18, Try.ntmps18
        go_wp2_with fail
        refine Calls.mono (EP.out _ (box_below w _)) ?_
        rintro e w1 ⟨rfl, b1⟩
        have B1 := (Bx.new w 24 (.int .i64 k) (.string ⟨n.toArray⟩) (.int .i64 m) (.slice sa l.length sc)).later b1 (by simp)
        have BW1 : Hid (Below w.heap.size w w1) := (box_below w _).trans (b1.mono (by simp))
        have BB1 : Hid _ := B1
        obtain ⟨d0, d1, d2, d3, h0, h1, h2, h3, zt⟩ := B1
        clear b1
        go_wp2_with fail
        refine Calls.mono (EL.out _ BW1.out) ?_
        rintro e w2 ⟨rfl, b2⟩
        have B2 := BB1.out.later b2 BB1.out.lt
        have BW2 : Hid (Below w.heap.size w w2) := BW1.out.trans (b2.mono BW1.out.size)
        clear d0 d1 d2 d3 h0 h1 h2 h3 zt
        have BB2 : Hid _ := B2
        obtain ⟨d0, d1, d2, d3, h0, h1, h2, h3, zt⟩ := B2
        clear b2
        go_wp2_with fail
        refine Calls.mono (EM.out _ BW2.out) ?_
        rintro e w3 ⟨rfl, b3⟩
        have B3 := BB2.out.later b3 BB2.out.lt
        have BW3 : Hid (Below w.heap.size w w3) := BW2.out.trans (b3.mono BW2.out.size)
        clear d0 d1 d2 d3 h0 h1 h2 h3 zt
        have BB3 : Hid _ := B3
        obtain ⟨d0, d1, d2, d3, h0, h1, h2, h3, zt⟩ := B3
        clear b3
        go_wp2_with fail
        go_ret2
        exact ⟨rfl, BW3.out⟩
end Go.Proofs.Ythadpkmbbimleaa
