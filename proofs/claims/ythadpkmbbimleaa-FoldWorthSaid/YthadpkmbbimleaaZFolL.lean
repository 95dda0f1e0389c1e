/- Layer 5: copies; what is true or false by its form; the constant that a sign makes of constants (the program's). -/
import Derived.Test.YthadpkmbbimleaaZFolT
namespace Go.Proofs.Ythadpkmbbimleaa
open Go.RowKit

theorem enter_copy (c : Array Value) (w : World) : (callFunc 30 c).run Try.prog w = .ok (.enter 30 c) w := by kernel_rfl
/-- What is asked of a function that makes an expression of one, for that one alone. -/
def FC (F : FuncId) (f : Sx.Ex → Sx.Ex) (x : Sx.Ex) : Prop := ∀ (A : Nat → Prop) (k : Int) (n : List UInt8) (m : Int) (l : List Sx.Ex) (sa : Option Addr) (sc : Nat) (w : World), x = .mk k n m l → ExS A w (.slice sa l.length sc) l → Calls Try.prog F #[.agg #[.int .i64 k, .string ⟨n.toArray⟩, .int .i64 m, .slice sa l.length sc]] w (RE (fun g => w.heap.size ≤ g) w (f x))
theorem FC.mc {F : FuncId} {f : Sx.Ex → Sx.Ex} {x : Sx.Ex} (h : FC F f x) (A : Nat → Prop) (w : World) : MC F f A w x := fun k n m ll sa sc W e _ hs => h A k n m ll sa sc W e hs
set_option maxRecDepth 100000 in
set_option maxHeartbeats 1000000 in
theorem copyOf_any {x : Sx.Ex} (h : Fo.Bnd x) : FC 30 id x := by
  induction h with
  | mk k n m l hl _ ih =>
    intro A k0 n0 m0 l0 sa sc w hx hs
    injection hx with q1 q2 q3 q4
    subst q1 q2 q3 q4
    have E1 : Hid (∀ W, Below w.heap.size w W → _) := fun W hW => each_any 30 enter_copy id A l hl sa sc W (hs.later hW (Nat.le_refl _)) (fun y hy => (ih y hy).mc A W)
    have hmf : ∀ (fn : Fn) (first cap : Array Value) (w : World), (Instr.makeFunc fn first cap).run Try.prog w = .ok (.func fn first cap) w := fun _ _ _ _ => rfl
    clear ih hs hl
    go_enter Try.func30, Try.ntmps30
    go_wp2_with fail
    refine Calls.mono (E1.out _ (by go_grown)) ?_
    rintro e w1 ⟨sb, sd, rfl, X, b1⟩
    have B1 := (Bx.new w 24 (.int .i64 k) (.string ⟨n.toArray⟩) (.int .i64 m) (.slice sa l.length sc)).later ((box_below (w.alloc (.cells #[.int .i64 k, .string ⟨n.toArray⟩, .int .i64 m, .slice sa l.length sc] 24)) zE).trans (b1.mono (by simp))) (by simp)
    have R1 := (Bx.new (w.alloc (.cells #[.int .i64 k, .string ⟨n.toArray⟩, .int .i64 m, .slice sa l.length sc] 24)) 24 (.int .i64 0) (.string ⟨#[]⟩) (.int .i64 0) (.slice none 0 0)).later b1 (by simp)
    have es : (w.alloc (.cells #[.int .i64 k, .string ⟨n.toArray⟩, .int .i64 m, .slice sa l.length sc] 24)).heap.size = w.heap.size + 1 := by simp
    rw [es] at R1
    have BW : Hid (Below w.heap.size w w1) := Below.trans (by go_grown) (b1.mono (by go_size))
    have XX : Hid (ExS (fun g => w.heap.size + 1 < g) w1 (.slice sb l.length sd) l) := by
      have e : l.map id = l := by simp
      rw [e] at X
      exact X.mono fun g _ hg => by simp at hg; omega
    obtain ⟨d0, d1, d2, d3, h0, h1, h2, h3, zt⟩ := B1
    obtain ⟨g0, g1, g2, g3, i0, i1, i2, i3, zr⟩ := R1
    clear b1 X es
    go_wp2_with fail
    refine bodyPost_ret (v := .agg #[.int .i64 k, .string ⟨n.toArray⟩, .int .i64 m, .slice sb l.length sd]) (by simp [results, Try.results30, go_sem, g0, g1, g2, g3]) rfl ?_
    refine ⟨k, n, m, sb, sd, l, rfl, rfl, ?_, ?_⟩
    · exact (((XX.out.set (a := ⟨w.heap.size, 3, none⟩) (by simp) _).fill (g := w.heap.size + 1) (Nat.lt_irrefl _) _ _ _ _)).mono fun g _ hg => by omega
    · exact ((((BW.out.setCell (by simp) _).setCell (by simp) _).setCell (by simp) _).setCell (by simp) _).setCell (by simp) _
set_option maxRecDepth 100000 in
set_option maxHeartbeats 2000000 in
theorem tof_any (k : Int) (n : List UInt8) (m : Int) (l : List Sx.Ex) (sa : Option Addr) (sc : Nat) (w : World) : Calls Try.prog 74 #[.agg #[.int .i64 k, .string ⟨n.toArray⟩, .int .i64 m, .slice sa l.length sc]] w fun e w' => e = .returned (.bool (Fo.tof (.mk k n m l))) ∧ Below w.heap.size w w' := by
  have EB : Hid (∀ W, Below w.heap.size w W → _) := fun W (_ : Below w.heap.size w W) => built_any k n m sa l.length sc W
  have EU : Hid (∀ W, Below w.heap.size w W → _) := fun W (_ : Below w.heap.size w W) => fUnary_any [33] k n m l sa sc W
  show Calls _ _ _ _ fun e w' => e = .returned (.bool (Fo.built k n l.length && ((k == 2) || Fo.isU [33] (.mk k n m l) || ((k == 6) && Fo.isTe n)))) ∧ Below w.heap.size w w'
  cases hb : Fo.built k n l.length with
  | false =>
    rw [hb] at EB
    show Calls _ _ _ _ fun e w' => e = .returned (.bool false) ∧ Below w.heap.size w w'
    clear hb
    go_enter Try.func74, Try.ntmps74
    go_wp2_with fail
    refine Calls.mono (EB.out _ (box_below w _)) ?_
    rintro e w1 ⟨rfl, b1⟩
    have B1 := (Bx.new w 24 (.int .i64 k) (.string ⟨n.toArray⟩) (.int .i64 m) (.slice sa l.length sc)).later b1 (by simp)
    have BB : Hid _ := B1
    obtain ⟨d0, d1, d2, d3, h0, h1, h2, h3, zt⟩ := B1
    have BW : Hid (Below w.heap.size w w1) := (box_below w _).trans (b1.mono (by simp))
    clear b1
    go_wp2_with fail
    go_ret
    exact ⟨rfl, BW.out⟩
  | true =>
    rw [hb] at EB
    clear hb
    by_cases k2 : k = 2
    · subst k2
      go_enter Try.func74, Try.ntmps74
      go_wp2_with fail
      refine Calls.mono (EB.out _ (box_below w _)) ?_
      rintro e w1 ⟨rfl, b1⟩
      have B1 := (Bx.new w 24 (.int .i64 2) (.string ⟨n.toArray⟩) (.int .i64 m) (.slice sa l.length sc)).later b1 (by simp)
      have BB : Hid _ := B1
      obtain ⟨d0, d1, d2, d3, h0, h1, h2, h3, zt⟩ := B1
      have BW : Hid (Below w.heap.size w w1) := (box_below w _).trans (b1.mono (by simp))
      clear b1
      go_wp2_with fail
      go_ret
      exact ⟨rfl, BW.out⟩
    · have e2 : (k == 2) = false := beq_eq_false_iff_ne.2 k2
      rw [e2]
      cases hu : Fo.isU [33] (.mk k n m l) with
      | true =>
        rw [hu] at EU
        show Calls _ _ _ _ fun e w' => e = .returned (.bool true) ∧ Below w.heap.size w w'
        clear hu k2
        go_enter Try.func74, Try.ntmps74
        go_wp2_with fail
        refine Calls.mono (EB.out _ (box_below w _)) ?_
        rintro e w1 ⟨rfl, b1⟩
        have B1 := (Bx.new w 24 (.int .i64 k) (.string ⟨n.toArray⟩) (.int .i64 m) (.slice sa l.length sc)).later b1 (by simp)
        have BB : Hid _ := B1
        obtain ⟨d0, d1, d2, d3, h0, h1, h2, h3, zt⟩ := B1
        have BW : Hid (Below w.heap.size w w1) := (box_below w _).trans (b1.mono (by simp))
        clear b1
        go_wp2_with fail
        refine Calls.mono (EU.out _ BW.out) ?_
        rintro e w2 ⟨rfl, b2⟩
        have BW2 : Hid (Below w.heap.size w w2) := BW.out.trans (b2.mono BW.out.size)
        clear b2
        go_wp2_with fail
        go_ret
        exact ⟨rfl, BW2.out⟩
      | false =>
        rw [hu] at EU
        show Calls _ _ _ _ fun e w' => e = .returned (.bool ((k == 6) && Fo.isTe n)) ∧ Below w.heap.size w w'
        clear hu k2
        by_cases k6 : k = 6
        · subst k6
          show Calls _ _ _ _ fun e w' => e = .returned (.bool (Fo.isTe n)) ∧ Below w.heap.size w w'
          go_enter Try.func74, Try.ntmps74
          go_wp2_with fail
          refine Calls.mono (EB.out _ (box_below w _)) ?_
          rintro e w1 ⟨rfl, b1⟩
          have B1 := (Bx.new w 24 (.int .i64 6) (.string ⟨n.toArray⟩) (.int .i64 m) (.slice sa l.length sc)).later b1 (by simp)
          have BB : Hid _ := B1
          obtain ⟨d0, d1, d2, d3, h0, h1, h2, h3, zt⟩ := B1
          have BW : Hid (Below w.heap.size w w1) := (box_below w _).trans (b1.mono (by simp))
          clear b1
          go_wp2_with fail
          refine Calls.mono (EU.out _ BW.out) ?_
          rintro e w2 ⟨rfl, b2⟩
          have BW2 : Hid (Below w.heap.size w w2) := BW.out.trans (b2.mono BW.out.size)
          clear d0 d1 d2 d3 h0 h1 h2 h3 zt
          obtain ⟨d0, d1, d2, d3, h0, h1, h2, h3, zt⟩ := BB.out.later b2 BB.out.lt
          clear b2
          go_wp2_with fail
          refine Calls.mono (tells_any n _) ?_
          rintro e w3 ⟨rfl, hw⟩
          rw [hw]
          clear hw w3
          go_wp2_with fail
          go_ret
          exact ⟨rfl, BW2.out⟩
        · have e6 : (k == 6) = false := beq_eq_false_iff_ne.2 k6
          rw [e6]
          show Calls _ _ _ _ fun e w' => e = .returned (.bool false) ∧ Below w.heap.size w w'
          clear k6
          go_enter Try.func74, Try.ntmps74
          go_wp2_with fail
          refine Calls.mono (EB.out _ (box_below w _)) ?_
          rintro e w1 ⟨rfl, b1⟩
          have B1 := (Bx.new w 24 (.int .i64 k) (.string ⟨n.toArray⟩) (.int .i64 m) (.slice sa l.length sc)).later b1 (by simp)
          have BB : Hid _ := B1
          obtain ⟨d0, d1, d2, d3, h0, h1, h2, h3, zt⟩ := B1
          have BW : Hid (Below w.heap.size w w1) := (box_below w _).trans (b1.mono (by simp))
          clear b1
          go_wp2_with fail
          refine Calls.mono (EU.out _ BW.out) ?_
          rintro e w2 ⟨rfl, b2⟩
          have BW2 : Hid (Below w.heap.size w w2) := BW.out.trans (b2.mono BW.out.size)
          clear d0 d1 d2 d3 h0 h1 h2 h3 zt
          obtain ⟨d0, d1, d2, d3, h0, h1, h2, h3, zt⟩ := BB.out.later b2 BB.out.lt
          clear b2
          go_wp2_with fail
          go_ret
          exact ⟨rfl, BW2.out⟩
end Go.Proofs.Ythadpkmbbimleaa
