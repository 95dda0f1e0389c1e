/- Layer 5: numbers' expressions (the program's Lit), and what is true or false by its form. -/
import Derived.Test.YthadpkmbbimleaaZFolI
namespace Go.Proofs.Ythadpkmbbimleaa
open Go.RowKit

/-- An expression is answered. -/
def RE (B : Nat → Prop) (w : World) (x : Sx.Ex) (e : Ending) (w' : World) : Prop := ∃ kk nn mm sa sc ll, x = .mk kk nn mm ll ∧ e = .returned (.agg #[.int .i64 kk, .string ⟨(nn : List UInt8).toArray⟩, .int .i64 mm, .slice sa ll.length sc]) ∧ ExS B w' (.slice sa ll.length sc) ll ∧ Below w.heap.size w w'
def Fo.lit (n : Int) : Sx.Ex := if n = -9223372036854775808 then .mk 6 [45] 0 [.mk 5 [45] 0 [.mk 1 [] 9223372036854775807 []], .mk 1 [] 1 []] else if n < 0 then .mk 5 [45] 0 [.mk 1 [] (-n) []] else .mk 1 [] n []
set_option maxRecDepth 100000 in
set_option maxHeartbeats 400000 in
theorem whole_any (n : Int) (w : World) : Calls Try.prog 41 #[.int .i64 n] w fun e w' => e = .returned (.agg #[.int .i64 1, .string ⟨#[]⟩, .int .i64 n, .slice none 0 0]) ∧ Below w.heap.size w w' := by
  go_enter Try.func41, Try.ntmps41
  go_wp2_with fail
  refine bodyPost_ret (v := .agg #[.int .i64 1, .string ⟨#[]⟩, .int .i64 n, .slice none 0 0]) (by simp [results, Try.results41, go_sem]) rfl ⟨rfl, ?_⟩
  go_grown
set_option maxRecDepth 100000 in
set_option maxHeartbeats 400000 in
theorem ftruth_any (n : Int) (w : World) : Calls Try.prog 75 #[.int .i64 n] w fun e w' => e = .returned (.agg #[.int .i64 2, .string ⟨#[]⟩, .int .i64 n, .slice none 0 0]) ∧ Below w.heap.size w w' := by
  go_enter Try.func75, Try.ntmps75
  go_wp2_with fail
  refine bodyPost_ret (v := .agg #[.int .i64 2, .string ⟨#[]⟩, .int .i64 n, .slice none 0 0]) (by simp [results, Try.results75, go_sem]) rfl ⟨rfl, ?_⟩
  go_grown
set_option maxRecDepth 100000 in
set_option maxHeartbeats 1000000 in
theorem two_ex (A : Nat → Prop) (s : List UInt8) (k k2 m m2 : Int) (n n2 : List UInt8) (l l2 : List Sx.Ex) (sa sa2 : Option Addr) (sn sc sn2 sc2 : Nat) (w : World) (hs : ExS A w (.slice sa sn sc) l) (hs2 : ExS A w (.slice sa2 sn2 sc2) l2) :
    Calls Try.prog 40 #[.agg #[.int .i64 k, .string ⟨n.toArray⟩, .int .i64 m, .slice sa sn sc], .string ⟨s.toArray⟩, .agg #[.int .i64 k2, .string ⟨n2.toArray⟩, .int .i64 m2, .slice sa2 sn2 sc2]] w (RE (fun g => A g ∨ w.heap.size ≤ g) w (.mk 6 s 0 [.mk k n m l, .mk k2 n2 m2 l2])) := by
  have HS : Hid _ := hs
  have HS2 : Hid _ := hs2
  clear hs hs2
  go_enter Try.func40, Try.ntmps40
  go_wp2_with fail
  refine bodyPost_ret (v := .agg #[.int .i64 6, .string ⟨s.toArray⟩, .int .i64 0, .slice (some ⟨w.heap.size + 3, 0, none⟩) 2 2]) (by simp [results, Try.results40, go_sem]) rfl ?_
  have b3 : Below w.heap.size w (((w.alloc (.cells #[.int .i64 k, .string ⟨n.toArray⟩, .int .i64 m, .slice sa sn sc] 24)).alloc (.cells #[.int .i64 k2, .string ⟨n2.toArray⟩, .int .i64 m2, .slice sa2 sn2 sc2] 24)).alloc (.cells #[.int .i64 6, .string ⟨s.toArray⟩, .int .i64 0, .slice (some ⟨w.heap.size + 1 + 1 + 1, 0, none⟩) 2 2] 24)) := by go_grown
  have X := ((HS.out.later b3 (Nat.le_refl _)).mono (A' := fun g => A g ∨ w.heap.size ≤ g) fun _ _ h => .inl h).two ((HS2.out.later b3 (Nat.le_refl _)).mono (A' := fun g => A g ∨ w.heap.size ≤ g) fun _ _ h => .inl h) (.inr (by simp; omega)) k k2 n n2 m m2 24
  refine ⟨6, s, 0, some ⟨w.heap.size + 3, 0, none⟩, 2, [.mk k n m l, .mk k2 n2 m2 l2], rfl, rfl, ?_, by go_grown⟩
  simpa using X
set_option maxRecDepth 100000 in
set_option maxHeartbeats 1000000 in
theorem Lit_pos (n : Int) (w : World) (h0 : 0 ≤ n) : Calls Try.prog 19 #[.int .i64 n] w (RE (fun g => w.heap.size ≤ g) w (.mk 1 [] n [])) := by
  have e1 : (n == -9223372036854775808) = false := by rw [beq_eq_false_iff_ne]; omega
  have e2 : ¬ n < 0 := by omega
  clear h0
  go_enter Try.func19, Try.ntmps19
  go_wp2_with fail
  refine Calls.mono (whole_any n _) ?_
  rintro e w1 ⟨rfl, b1⟩
  obtain ⟨d0, d1, d2, d3, l0, l1, l2, l3, zt⟩ := (Bx.new w 24 (.int .i64 0) (.string ⟨#[]⟩) (.int .i64 0) (.slice none 0 0)).later b1 (by simp)
  have BW : Hid (Below w.heap.size w w1) := (box_below w _).trans (b1.mono (by simp))
  clear b1
  go_wp2_with fail
  refine bodyPost_ret (v := .agg #[.int .i64 1, .string ⟨#[]⟩, .int .i64 n, .slice none 0 0]) (by simp [results, Try.results19, go_sem, d0, d1, d2, d3]) rfl ?_
  exact ⟨1, [], n, none, 0, [], rfl, rfl, .nil _ _, (((BW.out.setCell (by simp) _).setCell (by simp) _).setCell (by simp) _).setCell (by simp) _⟩
set_option maxRecDepth 100000 in
set_option maxHeartbeats 1000000 in
theorem Lit_neg (n : Int) (w : World) (h0 : n < 0) (h1 : -9223372036854775808 < n) : Calls Try.prog 19 #[.int .i64 n] w (RE (fun g => w.heap.size ≤ g) w (.mk 5 [45] 0 [.mk 1 [] (-n) []])) := by
  have e1 : (n == -9223372036854775808) = false := by rw [beq_eq_false_iff_ne]; omega
  have hw : IntKind.i64.wrap (-n) = -n := by rw [IntKind.wrap_i64]; omega
  clear h1
  go_enter Try.func19, Try.ntmps19
  go_wp2_with fail
  refine Calls.mono (whole_any (-n) _) ?_
  rintro e w1 ⟨rfl, b1⟩
  obtain ⟨d0, d1, d2, d3, l0, l1, l2, l3, zt⟩ := (Bx.new w 24 (.int .i64 0) (.string ⟨#[]⟩) (.int .i64 0) (.slice none 0 0)).later b1 (by simp)
  have BW : Hid (Below w.heap.size w w1) := (box_below w _).trans (b1.mono (by simp))
  have nw : ¬ w1.heap.size = w.heap.size := Nat.ne_of_gt zt
  have nw' : ¬ w.heap.size = w1.heap.size := Nat.ne_of_lt zt
  clear b1
  go_wp2_with fail
  refine bodyPost_ret (v := .agg #[.int .i64 5, .string ⟨#[45]⟩, .int .i64 0, .slice (some ⟨w1.heap.size, 0, none⟩) 1 1]) (by simp [results, Try.results19, go_sem, d0, d1, d2, d3, zt]) rfl ?_
  refine ⟨5, [45], 0, some ⟨w1.heap.size, 0, none⟩, 1, [.mk 1 [] (-n) []], rfl, rfl, ?_, ((((BW.out.setCell (by simp) _).setCell (by simp) _).setCell (by simp) _).setCell (by simp) _).alloc (by simp; omega) _⟩
  have X := (ExS.nil (A := fun g => w.heap.size < g) (w := w1) none 0).one' (g := w.heap.size) zt (Nat.lt_irrefl _) (.int .i64 5) (.string ⟨#[45]⟩) (.int .i64 0) (.slice (some ⟨w1.heap.size, 0, none⟩) 1 1) 1 [] (-n) 24
  exact X.mono fun _ _ h => Nat.le_of_lt h
set_option maxRecDepth 100000 in
set_option maxHeartbeats 1000000 in
theorem Lit_least (w : World) : Calls Try.prog 19 #[.int .i64 (-9223372036854775808)] w (RE (fun g => w.heap.size ≤ g) w (Fo.lit (-9223372036854775808))) := by
  show Calls _ _ _ _ (RE (fun g => w.heap.size ≤ g) w (.mk 6 [45] 0 [.mk 5 [45] 0 [.mk 1 [] 9223372036854775807 []], .mk 1 [] 1 []]))
  go_enter Try.func19, Try.ntmps19
  go_wp2_with fail
  refine Calls.mono (Lit_neg (-9223372036854775807) _ (by decide) (by decide)) ?_
  rintro e w1 ⟨kk, nn, mm, sa, sc, ll, hx, rfl, X, b1⟩
  injection hx with q1 q2 q3 q4
  subst q1 q2 q3 q4
  have B1 := (Bx.new w 24 (.int .i64 0) (.string ⟨#[]⟩) (.int .i64 0) (.slice none 0 0)).later b1 (by simp)
  have BB : Hid _ := B1
  have BW : Hid (Below w.heap.size w w1) := (box_below w _).trans (b1.mono (by simp))
  have XX : Hid (ExS (fun g => w.heap.size + 1 ≤ g) w1 (.slice sa [Sx.Ex.mk 1 [] (-(-9223372036854775807)) []].length sc) [Sx.Ex.mk 1 [] (-(-9223372036854775807)) []]) := X.mono fun g _ hg => by simpa using hg
  clear b1 B1 X
  go_wp2_with fail
  refine Calls.mono (whole_any 1 _) ?_
  rintro e w2 ⟨rfl, b2⟩
  have B2 := BB.out.later b2 BB.out.lt
  have BW2 : Hid (Below w.heap.size w w2) := BW.out.trans (b2.mono BW.out.size)
  have BB2 : Hid _ := B2
  have E2 : Hid _ := two_ex (fun g => w.heap.size + 1 ≤ g) [45] 5 1 0 1 [45] [] _ [] sa none _ sc 0 0 w2 (XX.out.later b2 (Nat.le_refl _)) (.nil none 0)
  clear b2 B2
  go_wp2_with fail
  refine Calls.mono E2.out ?_
  rintro e w3 ⟨kk, nn, mm, sb, sd, l3, hx, rfl, X3, b3⟩
  injection hx with q1 q2 q3 q4
  subst q1 q2 q3 q4
  obtain ⟨d0, d1, d2, d3, l0, l1, l2, l3, zt⟩ := BB2.out.later b3 BB2.out.lt
  have BW3 : Hid (Below w.heap.size w w3) := BW2.out.trans (b3.mono BW2.out.size)
  have X3' : Hid (ExS (fun g => w.heap.size < g) w3 (.slice sb 2 sd) [Sx.Ex.mk 5 [45] 0 [Sx.Ex.mk 1 [] (-(-9223372036854775807)) []], Sx.Ex.mk 1 [] 1 []]) := X3.mono fun g _ hg => by
    have := BB2.out.lt
    rcases hg with h | h <;> omega
  clear b3 X3
  go_wp2_with fail
  refine bodyPost_ret (v := .agg #[.int .i64 6, .string ⟨#[45]⟩, .int .i64 0, .slice sb 2 sd]) (by simp [results, Try.results19, go_sem, d0, d1, d2, d3]) rfl ?_
  refine ⟨6, [45], 0, sb, sd, [Sx.Ex.mk 5 [45] 0 [Sx.Ex.mk 1 [] (-(-9223372036854775807)) []], Sx.Ex.mk 1 [] 1 []], rfl, rfl, ?_, (((BW3.out.setCell (by simp) _).setCell (by simp) _).setCell (by simp) _).setCell (by simp) _⟩
  exact (X3'.out.fill (Nat.lt_irrefl _) _ _ _ _).mono fun _ _ h => Nat.le_of_lt h
theorem Lit_any (n : Int) (w : World) (h0 : -9223372036854775808 ≤ n) : Calls Try.prog 19 #[.int .i64 n] w (RE (fun g => w.heap.size ≤ g) w (Fo.lit n)) := by
  by_cases c : n = -9223372036854775808
  · subst c; exact Lit_least w
  · unfold Fo.lit
    rw [if_neg c]
    by_cases c2 : n < 0
    · rw [if_pos c2]; exact Lit_neg n w c2 (by omega)
    · rw [if_neg c2]; exact Lit_pos n w (by omega)
end Go.Proofs.Ythadpkmbbimleaa
