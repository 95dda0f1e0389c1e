/- Layer 3: the document's reader (what it holds in memory), and its small calls. -/
import Derived.Test.YtobiedmmjiedlaaZLexK
import Derived.Test.YtobiedmmjiedlaaZSynH
import Derived.BigQuiet
namespace Go.Proofs.Ytobiedmmjiedlaa
open Go.RowKit

/-- The document's reader in block p stands at token number k of the tokens ts; its error, and the error's place. -/
structure Ri (w : World) (p b o cap : Nat) (ts : List Tok) (k : Nat) (er a : Int) : Prop where
  row : w.cell? ⟨p, 0, none⟩ = some (.slice (some ⟨b, o, none⟩) ts.length cap)
  nx : w.cell? ⟨p, 1, none⟩ = some (.int .i64 (k : Int))
  ce : w.cell? ⟨p, 2, none⟩ = some (.int .i64 er)
  ca : w.cell? ⟨p, 3, none⟩ = some (.int .i64 a)
  f1 : w.frozen? ⟨p, 1, none⟩ = false
  f2 : w.frozen? ⟨p, 2, none⟩ = false
  f3 : w.frozen? ⟨p, 3, none⟩ = false
  ta : Ta w b o ts
  ne : b ≠ p
  lt : p < w.heap.size
  hk : k < ts.length
  hl : ts.length ≤ 1000000
abbrev Kp (p : Nat) (w w' : World) : Prop := Keep (fun g => g = p) w w'
theorem Ri.later {w w' : World} {p b o cap : Nat} {ts : List Tok} {k : Nat} {er a : Int} (h : Ri w p b o cap ts k er a) (hb : Below w.heap.size w w') : Ri w' p b o cap ts k er a :=
  ⟨(hb.cell (p := ⟨p, 0, none⟩) h.lt).trans h.row, (hb.cell (p := ⟨p, 1, none⟩) h.lt).trans h.nx, (hb.cell (p := ⟨p, 2, none⟩) h.lt).trans h.ce, (hb.cell (p := ⟨p, 3, none⟩) h.lt).trans h.ca, (hb.frozen (p := ⟨p, 1, none⟩) h.lt).trans h.f1, (hb.frozen (p := ⟨p, 2, none⟩) h.lt).trans h.f2, (hb.frozen (p := ⟨p, 3, none⟩) h.lt).trans h.f3, h.ta.later hb, h.ne, Nat.lt_of_lt_of_le h.lt hb.size, h.hk, h.hl⟩
theorem Ta.keep {w w' : World} {p b o : Nat} {ts : List Tok} (h : Ta w b o ts) (m : Kp p w w') (hb : b ≠ p) : Ta w' b o ts :=
  ⟨Nat.lt_of_lt_of_le h.lt m.size, fun j hj => (m.cell (q := ⟨b, _, none⟩) h.lt hb).trans (h.c0 j hj), fun j hj => (m.cell (q := ⟨b, _, none⟩) h.lt hb).trans (h.c1 j hj), fun j hj => (m.cell (q := ⟨b, _, none⟩) h.lt hb).trans (h.c2 j hj), fun j hj => (m.cell (q := ⟨b, _, none⟩) h.lt hb).trans (h.c3 j hj)⟩
theorem Bx.kp {w w' : World} {p g : Nat} {a0 a1 a2 a3 : Value} (h : Bx w g a0 a1 a2 a3) (m : Kp p w w') (hp : g ≠ p) : Bx w' g a0 a1 a2 a3 :=
  ⟨(m.cell (q := ⟨g, 0, none⟩) h.lt hp).trans h.c0, (m.cell (q := ⟨g, 1, none⟩) h.lt hp).trans h.c1, (m.cell (q := ⟨g, 2, none⟩) h.lt hp).trans h.c2, (m.cell (q := ⟨g, 3, none⟩) h.lt hp).trans h.c3,
   (m.frozen (q := ⟨g, 0, none⟩) h.lt hp).trans h.f0, (m.frozen (q := ⟨g, 1, none⟩) h.lt hp).trans h.f1, (m.frozen (q := ⟨g, 2, none⟩) h.lt hp).trans h.f2, (m.frozen (q := ⟨g, 3, none⟩) h.lt hp).trans h.f3, Nat.lt_of_lt_of_le h.lt m.size⟩
theorem ExS.kp {A : Nat → Prop} {p : Nat} {w w' : World} {sl : Value} {l : List Sx.Ex} (h : ExS A w sl l) (m : Kp p w w') (hp : ¬ A p) : ExS A w' sl l :=
  h.keep (fun _ _ a => a) (fun q ha hq => m.cell hq (fun e => hp (by rw [e] at ha; exact ha))) m.size
theorem Ri.set {w : World} {p b o cap : Nat} {ts : List Tok} {k : Nat} {er a : Int} (h : Ri w p b o cap ts k er a) {q : Addr} (hp : q.block ≠ p) (hb : q.block ≠ b) (v : Value) : Ri (w.setCell q v) p b o cap ts k er a := by
  have key : ∀ n, q ≠ (⟨p, n, none⟩ : Addr) := fun n e => hp (congrArg Addr.block e)
  have keb : ∀ n, q ≠ (⟨b, n, none⟩ : Addr) := fun n e => hb (congrArg Addr.block e)
  exact ⟨(World.cell?_setCell_other _ _ _ _ (key 0)).trans h.row, (World.cell?_setCell_other _ _ _ _ (key 1)).trans h.nx, (World.cell?_setCell_other _ _ _ _ (key 2)).trans h.ce, (World.cell?_setCell_other _ _ _ _ (key 3)).trans h.ca,
    by rw [World.frozen?_setCell]; exact h.f1, by rw [World.frozen?_setCell]; exact h.f2, by rw [World.frozen?_setCell]; exact h.f3,
    ⟨by simpa using h.ta.lt, fun j hj => (World.cell?_setCell_other _ _ _ _ (keb _)).trans (h.ta.c0 j hj), fun j hj => (World.cell?_setCell_other _ _ _ _ (keb _)).trans (h.ta.c1 j hj), fun j hj => (World.cell?_setCell_other _ _ _ _ (keb _)).trans (h.ta.c2 j hj), fun j hj => (World.cell?_setCell_other _ _ _ _ (keb _)).trans (h.ta.c3 j hj)⟩, h.ne, by simpa using h.lt, h.hk, h.hl⟩
theorem Ri.fill {w : World} {p b o cap : Nat} {ts : List Tok} {k : Nat} {er a : Int} (h : Ri w p b o cap ts k er a) {g : Nat} (hp : g ≠ p) (hb : g ≠ b) (b0 b1 b2 b3 : Value) : Ri (fill w g b0 b1 b2 b3) p b o cap ts k er a := (((h.set (q := ⟨g, 0, none⟩) hp hb _).set (q := ⟨g, 1, none⟩) hp hb _).set (q := ⟨g, 2, none⟩) hp hb _).set (q := ⟨g, 3, none⟩) hp hb _
theorem Ta.setP {w : World} {b o : Nat} {ts : List Tok} (h : Ta w b o ts) {q : Addr} (hb : b ≠ q.block) (v : Value) : Ta (w.setCell q v) b o ts := by
  have keb : ∀ n, q ≠ (⟨b, n, none⟩ : Addr) := fun n e => hb (congrArg Addr.block e).symm
  exact ⟨by simpa using h.lt, fun j hj => (World.cell?_setCell_other _ _ _ _ (keb _)).trans (h.c0 j hj), fun j hj => (World.cell?_setCell_other _ _ _ _ (keb _)).trans (h.c1 j hj), fun j hj => (World.cell?_setCell_other _ _ _ _ (keb _)).trans (h.c2 j hj), fun j hj => (World.cell?_setCell_other _ _ _ _ (keb _)).trans (h.c3 j hj)⟩
/-- One token further. -/
theorem Ri.step {w : World} {p b o cap : Nat} {ts : List Tok} {k : Nat} {er a : Int} (h : Ri w p b o cap ts k er a) (hk : k + 1 < ts.length) : Ri (w.setCell ⟨p, 1, none⟩ (.int .i64 ((k : Int) + 1))) p b o cap ts (k + 1) er a ∧ Kp p w (w.setCell ⟨p, 1, none⟩ (.int .i64 ((k : Int) + 1))) := by
  refine ⟨⟨?_, ?_, ?_, ?_, ?_, ?_, ?_, h.ta.setP (q := ⟨p, 1, none⟩) h.ne _, h.ne, by simpa using h.lt, hk, h.hl⟩, (Keep.refl (fun g => g = p) w).set (a := ⟨p, 1, none⟩) (.inr rfl) _⟩
  · rw [World.cell?_setCell_other _ _ _ _ (by simp)]; exact h.row
  · have := h.nx; have := h.f1; have := h.lt; simp [*, go_sem]
  · rw [World.cell?_setCell_other _ _ _ _ (by simp)]; exact h.ce
  · rw [World.cell?_setCell_other _ _ _ _ (by simp)]; exact h.ca
  · rw [World.frozen?_setCell]; exact h.f1
  · rw [World.frozen?_setCell]; exact h.f2
  · rw [World.frozen?_setCell]; exact h.f3
/-- An error is noted. -/
theorem Ri.err {w : World} {p b o cap : Nat} {ts : List Tok} {k : Nat} {er a : Int} (h : Ri w p b o cap ts k er a) (er' a' : Int) : Ri ((w.setCell ⟨p, 2, none⟩ (.int .i64 er')).setCell ⟨p, 3, none⟩ (.int .i64 a')) p b o cap ts k er' a' ∧ Kp p w ((w.setCell ⟨p, 2, none⟩ (.int .i64 er')).setCell ⟨p, 3, none⟩ (.int .i64 a')) := by
  have h1 := h.row
  have h2 := h.nx
  have h3 := h.ce
  have h4 := h.ca
  have h5 := h.f1
  have h6 := h.f2
  have h7 := h.f3
  refine ⟨⟨?_, ?_, ?_, ?_, ?_, ?_, ?_, (h.ta.setP (q := ⟨p, 2, none⟩) h.ne _).setP (q := ⟨p, 3, none⟩) h.ne _, h.ne, by simpa using h.lt, h.hk, h.hl⟩, ((Keep.refl (fun g => g = p) w).set (a := ⟨p, 2, none⟩) (.inr rfl) _).set (a := ⟨p, 3, none⟩) (.inr rfl) _⟩
  all_goals simp [h1, h2, h3, h4, h5, h6, h7, go_sem]
set_option maxRecDepth 100000 in
set_option maxHeartbeats 1000000 in
theorem rkind_ok (w : World) (p b o cap : Nat) (ts : List Tok) (k : Nat) (a kd : Int) (h : Ri w p b o cap ts k 0 a) :
    Calls Try.prog 35 #[.pointer (some ⟨p, 0, none⟩), .int .i64 kd] w fun e w' => e = .returned (.bool ((ts.getD k tok0).1.kind == kd)) ∧ Below w.heap.size w w' := by
  have hk := h.hk
  have r0 := h.row
  have r1 := h.nx
  have r2 := h.ce
  have c0 := h.ta.c0 k hk
  have hki : (k : Int) < (ts.length : Int) := by omega
  have hk0 : (0 : Int) ≤ (k : Int) := by omega
  generalize (ts.getD k tok0).1.kind = K at *
  clear h
  go_enter Try.func35, Try.ntmps35
  go_wp2_with fail
  go_quiet (fail)
  go_wp2_with fail
  go_ret
  exact ⟨rfl, below_drewN (Below.refl _ _) _⟩
set_option maxRecDepth 100000 in
set_option maxHeartbeats 1000000 in
theorem rkind_err (w : World) (p b o cap : Nat) (ts : List Tok) (k : Nat) (er a kd : Int) (h : Ri w p b o cap ts k er a) (he : ¬ er = 0) :
    Calls Try.prog 35 #[.pointer (some ⟨p, 0, none⟩), .int .i64 kd] w fun e w' => e = .returned (.bool false) ∧ Below w.heap.size w w' := by
  have hk := h.hk
  have r0 := h.row
  have r1 := h.nx
  have r2 := h.ce
  have c0 := h.ta.c0 k hk
  have hki : (k : Int) < (ts.length : Int) := by omega
  have hk0 : (0 : Int) ≤ (k : Int) := by omega
  generalize (ts.getD k tok0).1.kind = K at *
  have be : (er == 0) = false := beq_eq_false_iff_ne.2 he
  clear h he
  go_enter Try.func35, Try.ntmps35
  go_wp2_with fail
  go_quiet (fail)
  go_wp2_with fail
  go_ret
  exact ⟨rfl, below_drewN (Below.refl _ _) _⟩
set_option maxRecDepth 100000 in
set_option maxHeartbeats 1000000 in
theorem ris_yes (w : World) (p b o cap : Nat) (ts : List Tok) (k : Nat) (a : Int) (s : List UInt8) (h : Ri w p b o cap ts k 0 a) (hs : (ts.getD k tok0).1.text = s) (hk34 : (ts.getD k tok0).1.kind = 3 ∨ (ts.getD k tok0).1.kind = 4) :
    Calls Try.prog 74 #[.pointer (some ⟨p, 0, none⟩), .string ⟨s.toArray⟩] w fun e w' => e = .returned (.bool true) ∧ Below w.heap.size w w' := by
  have hk := h.hk
  have r0 := h.row
  have r1 := h.nx
  have r2 := h.ce
  have hb := h.ta.lt
  have hp := h.lt
  have c0 := h.ta.c0 k hk
  have c1 := h.ta.c1 k hk
  have c2 := h.ta.c2 k hk
  have c3 := h.ta.c3 k hk
  have hki : (k : Int) < (ts.length : Int) := by omega
  have hk0 : (0 : Int) ≤ (k : Int) := by omega
  subst hs
  have et : ((ts.getD k tok0).1.text == (ts.getD k tok0).1.text) = true := beq_self_eq_true _
  generalize (ts.getD k tok0) = x at *
  obtain ⟨⟨kd, tx, nm⟩, pl⟩ := x
  simp only at c0 c1 c2 c3 hk34 et ⊢
  clear h
  rcases hk34 with rfl | rfl
  all_goals
    go_enter Try.func74, Try.ntmps74
    go_wp2_with fail
    go_region
    all_goals
      go_wp2_with fail
      go_ret
      exact ⟨rfl, (box_below w _).drew⟩
set_option maxRecDepth 100000 in
set_option maxHeartbeats 1000000 in
theorem ris_no (w : World) (p b o cap : Nat) (ts : List Tok) (k : Nat) (er a : Int) (s : List UInt8) (h : Ri w p b o cap ts k er a) (hs : ¬ er = 0 ∨ ¬ (ts.getD k tok0).1.text = s) :
    Calls Try.prog 74 #[.pointer (some ⟨p, 0, none⟩), .string ⟨s.toArray⟩] w fun e w' => e = .returned (.bool false) ∧ Below w.heap.size w w' := by
  have hk := h.hk
  have r0 := h.row
  have r1 := h.nx
  have r2 := h.ce
  have hb := h.ta.lt
  have hp := h.lt
  have c0 := h.ta.c0 k hk
  have c1 := h.ta.c1 k hk
  have c2 := h.ta.c2 k hk
  have c3 := h.ta.c3 k hk
  have hki : (k : Int) < (ts.length : Int) := by omega
  have hk0 : (0 : Int) ≤ (k : Int) := by omega
  generalize (ts.getD k tok0) = x at *
  obtain ⟨⟨kd, tx, nm⟩, pl⟩ := x
  simp only at c0 c1 c2 c3 hs ⊢
  clear h
  by_cases he : er = 0
  · subst he
    have et : (tx == s) = false := by
      rcases hs with h | h
      · exact absurd rfl h
      · exact text_f h
    clear hs
    go_enter Try.func74, Try.ntmps74
    go_wp2_with fail
    go_region
    all_goals
      go_wp2_with fail
      go_ret
      exact ⟨rfl, (box_below w _).drew⟩
  · have be : (er == 0) = false := beq_eq_false_iff_ne.2 he
    clear hs he
    go_enter Try.func74, Try.ntmps74
    go_wp2_with fail
    go_region
    all_goals
      go_wp2_with fail
      go_ret
      exact ⟨rfl, (box_below w _).drew⟩
set_option maxRecDepth 100000 in
set_option maxHeartbeats 1000000 in
theorem rfail_err (w : World) (p b o cap : Nat) (ts : List Tok) (k : Nat) (er a er' : Int) (h : Ri w p b o cap ts k er a) (he : ¬ er = 0) :
    Calls Try.prog 59 #[.pointer (some ⟨p, 0, none⟩), .int .i64 er'] w fun e w' => e = .returned (.tuple #[]) ∧ w' = w := by
  have r2 := h.ce
  have be : (er == 0) = false := beq_eq_false_iff_ne.2 he
  clear h he
  go_enter Try.func59, Try.ntmps59
  go_wp2_with fail
  go_end0
  exact ⟨rfl, rfl⟩
set_option maxRecDepth 100000 in
set_option maxHeartbeats 1000000 in
theorem rfail_set (w : World) (p b o cap : Nat) (ts : List Tok) (k : Nat) (a er' : Int) (h : Ri w p b o cap ts k 0 a) :
    Calls Try.prog 59 #[.pointer (some ⟨p, 0, none⟩), .int .i64 er'] w fun e w' => e = .returned (.tuple #[]) ∧ Ri w' p b o cap ts k er' (ts.getD k tok0).2 ∧ Kp p w w' := by
  have H : Hid _ := h.err er' (ts.getD k tok0).2
  have hk := h.hk
  have r0 := h.row
  have r1 := h.nx
  have r2 := h.ce
  have r3 := h.ca
  have f2 := h.f2
  have f3 := h.f3
  have hb := h.ta.lt
  have hp := h.lt
  have hne := h.ne
  have hne' : ¬ p = b := fun e => h.ne e.symm
  have c3 := h.ta.c3 k hk
  have hki : (k : Int) < (ts.length : Int) := by omega
  have hk0 : (0 : Int) ≤ (k : Int) := by omega
  generalize (ts.getD k tok0).2 = P at *
  clear h
  go_enter Try.func59, Try.ntmps59
  go_wp2_with fail
  go_region
  all_goals
    go_wp2_with fail
    go_end0
    exact ⟨rfl, H.out.1.later (Below.refl _ _).drew, H.out.2.drew⟩
end Go.Proofs.Ytobiedmmjiedlaa
namespace Go.Proofs.Ytobiedmmjiedlaa
open Go.RowKit

theorem beq_int (a b : Int) : (a == b) = decide (a = b) := by
  by_cases e : a = b
  · subst e; simp
  · rw [decide_eq_false e]; simpa using e
set_option maxRecDepth 100000 in
set_option maxHeartbeats 1000000 in
theorem rgot_yes (w : World) (p b o cap : Nat) (ts : List Tok) (k : Nat) (a : Int) (s : List UInt8) (h : Ri w p b o cap ts k 0 a) (hs : (ts.getD k tok0).1.text = s) (hk34 : (ts.getD k tok0).1.kind = 3 ∨ (ts.getD k tok0).1.kind = 4) (hk1 : k + 1 < ts.length) :
    Calls Try.prog 57 #[.pointer (some ⟨p, 0, none⟩), .string ⟨s.toArray⟩] w fun e w' => e = .returned (.bool true) ∧ Ri w' p b o cap ts (k + 1) 0 a ∧ Kp p w w' := by
  have H : Hid _ := h
  have E1 : Hid _ := ris_yes w p b o cap ts k a s h hs hk34
  have hwk : IntKind.i64.wrap ((k : Int) + 1) = (k : Int) + 1 := by have := h.hl; rw [IntKind.wrap_i64]; omega
  clear h hs hk34
  go_enter Try.func57, Try.ntmps57
  go_wp2_with fail
  refine Calls.mono E1.out ?_
  rintro e w1 ⟨rfl, b1⟩
  have H1 := H.out.later b1
  have r1 := H1.nx
  have f1 := H1.f1
  have zp := H1.lt
  have ST : Hid _ := H1.step hk1
  have B1 : Hid _ := b1
  clear b1 H1
  go_wp2_with fail
  go_ret
  exact ⟨rfl, ST.out.1, (Keep.of_below B1.out (Nat.le_refl _)).trans ST.out.2⟩
set_option maxRecDepth 100000 in
set_option maxHeartbeats 1000000 in
theorem rgot_no (w : World) (p b o cap : Nat) (ts : List Tok) (k : Nat) (er a : Int) (s : List UInt8) (h : Ri w p b o cap ts k er a) (hs : ¬ er = 0 ∨ ¬ (ts.getD k tok0).1.text = s) :
    Calls Try.prog 57 #[.pointer (some ⟨p, 0, none⟩), .string ⟨s.toArray⟩] w fun e w' => e = .returned (.bool false) ∧ Below w.heap.size w w' := by
  have E1 : Hid _ := ris_no w p b o cap ts k er a s h hs
  clear h hs
  go_enter Try.func57, Try.ntmps57
  go_wp2_with fail
  refine Calls.mono E1.out ?_
  rintro e w1 ⟨rfl, b1⟩
  go_wp2_with fail
  go_ret
  exact ⟨rfl, b1⟩
set_option maxRecDepth 100000 in
set_option maxHeartbeats 1000000 in
theorem rwant_yes (w : World) (p b o cap : Nat) (ts : List Tok) (k : Nat) (a : Int) (s : List UInt8) (h : Ri w p b o cap ts k 0 a) (hs : (ts.getD k tok0).1.text = s) (hk34 : (ts.getD k tok0).1.kind = 3 ∨ (ts.getD k tok0).1.kind = 4) (hk1 : k + 1 < ts.length) :
    Calls Try.prog 55 #[.pointer (some ⟨p, 0, none⟩), .string ⟨s.toArray⟩] w fun e w' => e = .returned (.tuple #[]) ∧ Ri w' p b o cap ts (k + 1) 0 a ∧ Kp p w w' := by
  have E1 : Hid _ := rgot_yes w p b o cap ts k a s h hs hk34 hk1
  clear h hs hk34 hk1
  go_enter Try.func55, Try.ntmps55
  go_wp2_with fail
  refine Calls.mono E1.out ?_
  rintro e w1 ⟨rfl, h1⟩
  go_wp2_with fail
  go_end0
  exact ⟨rfl, h1⟩
set_option maxRecDepth 100000 in
set_option maxHeartbeats 1000000 in
theorem rwant_no (w : World) (p b o cap : Nat) (ts : List Tok) (k : Nat) (a : Int) (s : List UInt8) (h : Ri w p b o cap ts k 0 a) (hs : ¬ (ts.getD k tok0).1.text = s) :
    Calls Try.prog 55 #[.pointer (some ⟨p, 0, none⟩), .string ⟨s.toArray⟩] w fun e w' => e = .returned (.tuple #[]) ∧ Ri w' p b o cap ts k 30 (ts.getD k tok0).2 ∧ Kp p w w' := by
  have E1 : Hid _ := rgot_no w p b o cap ts k 0 a s h (.inr hs)
  have E2 : Hid (∀ W, Below w.heap.size w W → _) := fun W hW => rfail_set W p b o cap ts k a 30 (h.later hW)
  clear h hs
  go_enter Try.func55, Try.ntmps55
  go_wp2_with fail
  refine Calls.mono E1.out ?_
  rintro e w1 ⟨rfl, b1⟩
  go_wp2_with fail
  refine Calls.mono (E2.out _ b1) ?_
  rintro e w2 ⟨rfl, h2, k2⟩
  go_wp2_with fail
  go_end0
  exact ⟨rfl, h2, (Keep.of_below b1 (Nat.le_refl _)).trans k2⟩
set_option maxRecDepth 100000 in
set_option maxHeartbeats 1000000 in
theorem rwant_err (w : World) (p b o cap : Nat) (ts : List Tok) (k : Nat) (er a : Int) (s : List UInt8) (h : Ri w p b o cap ts k er a) (he : ¬ er = 0) :
    Calls Try.prog 55 #[.pointer (some ⟨p, 0, none⟩), .string ⟨s.toArray⟩] w fun e w' => e = .returned (.tuple #[]) ∧ Below w.heap.size w w' := by
  have E1 : Hid _ := rgot_no w p b o cap ts k er a s h (.inl he)
  have E2 : Hid (∀ W, Below w.heap.size w W → _) := fun W hW => rfail_err W p b o cap ts k er a 30 (h.later hW) he
  clear h he
  go_enter Try.func55, Try.ntmps55
  go_wp2_with fail
  refine Calls.mono E1.out ?_
  rintro e w1 ⟨rfl, b1⟩
  go_wp2_with fail
  refine Calls.mono (E2.out _ b1) ?_
  rintro e w2 ⟨rfl, rfl⟩
  go_wp2_with fail
  go_end0
  exact ⟨rfl, b1⟩
set_option maxRecDepth 100000 in
set_option maxHeartbeats 1000000 in
theorem rword_yes (w : World) (p b o cap : Nat) (ts : List Tok) (k : Nat) (a : Int) (h : Ri w p b o cap ts k 0 a) (hs : (ts.getD k tok0).1.kind = 1) (hk1 : k + 1 < ts.length) :
    Calls Try.prog 56 #[.pointer (some ⟨p, 0, none⟩)] w fun e w' => e = .returned (.string ⟨(ts.getD k tok0).1.text.toArray⟩) ∧ Ri w' p b o cap ts (k + 1) 0 a ∧ Kp p w w' := by
  have H : Hid _ := h
  have E1 : Hid _ := rkind_ok w p b o cap ts k a 1 h
  rw [hs] at E1
  obtain ⟨T, hT⟩ : ∃ T, (ts.getD k tok0).1.text = T := ⟨_, rfl⟩
  rw [hT]
  have hwk : IntKind.i64.wrap ((k : Int) + 1) = (k : Int) + 1 := by have := h.hl; rw [IntKind.wrap_i64]; omega
  have hwk2 : IntKind.i64.wrap (k : Int) = (k : Int) := by have := h.hl; rw [IntKind.wrap_i64]; omega
  have hki : (k : Int) < (ts.length : Int) := by omega
  have hk0 : (0 : Int) ≤ (k : Int) := by omega
  clear h hs
  go_enter Try.func56, Try.ntmps56
  go_wp2_with fail
  refine Calls.mono E1.out ?_
  rintro e w1 ⟨rfl, b1⟩
  have H1 := H.out.later b1
  have r0 := H1.row
  have r1 := H1.nx
  have f1 := H1.f1
  have zp := H1.lt
  have hb := H1.ta.lt
  have hne := H1.ne
  have hne' : ¬ p = b := fun e => H1.ne e.symm
  have c1 := H1.ta.c1 k H1.hk
  have ST : Hid _ := H1.step hk1
  have B1 : Hid _ := b1
  rw [hT] at c1
  clear b1 H1 hT
  go_wp2_with fail
  go_quiet (fail)
  go_wp2_with fail
  go_ret
  exact ⟨rfl, ST.out.1.later (below_drewN (Below.refl _ _) _), (Keep.of_below B1.out (Nat.le_refl _)).trans (ST.out.2.trans (.of_below (below_drewN (Below.refl _ _) _) (Nat.le_refl _)))⟩
set_option maxRecDepth 100000 in
set_option maxHeartbeats 1000000 in
theorem rword_no (w : World) (p b o cap : Nat) (ts : List Tok) (k : Nat) (a : Int) (h : Ri w p b o cap ts k 0 a) (hs : ¬ (ts.getD k tok0).1.kind = 1) :
    Calls Try.prog 56 #[.pointer (some ⟨p, 0, none⟩)] w fun e w' => e = .returned (.string ⟨#[]⟩) ∧ Ri w' p b o cap ts k 30 (ts.getD k tok0).2 ∧ Kp p w w' := by
  have E1 : Hid _ := rkind_ok w p b o cap ts k a 1 h
  have be : ((ts.getD k tok0).1.kind == 1) = false := beq_eq_false_iff_ne.2 hs
  rw [be] at E1
  have E2 : Hid (∀ W, Below w.heap.size w W → _) := fun W hW => rfail_set W p b o cap ts k a 30 (h.later hW)
  clear h hs be
  go_enter Try.func56, Try.ntmps56
  go_wp2_with fail
  refine Calls.mono E1.out ?_
  rintro e w1 ⟨rfl, b1⟩
  go_wp2_with fail
  refine Calls.mono (E2.out _ b1) ?_
  rintro e w2 ⟨rfl, h2, k2⟩
  go_wp2_with fail
  go_ret
  exact ⟨rfl, h2, (Keep.of_below b1 (Nat.le_refl _)).trans k2⟩
/-- Of right tokens: which kinds bear which texts. -/
structure RT (ts : List Tok) : Prop where
  sg : ∀ k, (Sx.tx ts k = [116, 114, 117, 101] ∨ Sx.tx ts k = [102, 97, 108, 115, 101] ∨ Sx.tx ts k = [40] ∨ Sx.tx ts k = [41] ∨ Sx.tx ts k = [91] ∨ Sx.tx ts k = [93] ∨ Sx.tx ts k = [45] ∨ Sx.tx ts k = [33]) → (ts.getD k tok0).1.kind = 3 ∨ (ts.getD k tok0).1.kind = 4
  bi : ∀ k, ¬ Sx.bindsB (Sx.tx ts k) = 0 → (ts.getD k tok0).1.kind = 4
/-- is, for a text of a key word or a sign. -/
theorem ris_any (w : World) (p b o cap : Nat) (ts : List Tok) (k : Nat) (a : Int) (s : List UInt8) (h : Ri w p b o cap ts k 0 a) (hk34 : Sx.tx ts k = s → (ts.getD k tok0).1.kind = 3 ∨ (ts.getD k tok0).1.kind = 4) :
    Calls Try.prog 74 #[.pointer (some ⟨p, 0, none⟩), .string ⟨s.toArray⟩] w fun e w' => e = .returned (.bool (decide (Sx.tx ts k = s))) ∧ Below w.heap.size w w' := by
  by_cases c : Sx.tx ts k = s
  · rw [decide_eq_true c]; exact ris_yes w p b o cap ts k a s h c (hk34 c)
  · rw [decide_eq_false c]; exact ris_no w p b o cap ts k 0 a s h (.inr c)
set_option maxRecDepth 100000 in
set_option maxHeartbeats 2000000 in
theorem ropens_any (w : World) (p b o cap : Nat) (ts : List Tok) (k : Nat) (a : Int) (rt : RT ts) (h : Ri w p b o cap ts k 0 a) :
    Calls Try.prog 97 #[.pointer (some ⟨p, 0, none⟩)] w fun e w' => e = .returned (.bool (Sx.begE (ts.getD k tok0))) ∧ Below w.heap.size w w' := by
  have K1 : Hid (∀ W, Below w.heap.size w W → _) := fun W hW => rkind_ok W p b o cap ts k a 1 (h.later hW)
  have K2 : Hid (∀ W, Below w.heap.size w W → _) := fun W hW => rkind_ok W p b o cap ts k a 2 (h.later hW)
  have I1 : Hid (∀ W, Below w.heap.size w W → _) := fun W hW => ris_any W p b o cap ts k a [116, 114, 117, 101] (h.later hW) (fun e => rt.sg k (by simp [e]))
  have I2 : Hid (∀ W, Below w.heap.size w W → _) := fun W hW => ris_any W p b o cap ts k a [102, 97, 108, 115, 101] (h.later hW) (fun e => rt.sg k (by simp [e]))
  have I3 : Hid (∀ W, Below w.heap.size w W → _) := fun W hW => ris_any W p b o cap ts k a [40] (h.later hW) (fun e => rt.sg k (by simp [e]))
  have I4 : Hid (∀ W, Below w.heap.size w W → _) := fun W hW => ris_any W p b o cap ts k a [45] (h.later hW) (fun e => rt.sg k (by simp [e]))
  have I5 : Hid (∀ W, Below w.heap.size w W → _) := fun W hW => ris_any W p b o cap ts k a [33] (h.later hW) (fun e => rt.sg k (by simp [e]))
  have HB : Hid (Sx.begE (ts.getD k tok0) = (((ts.getD k tok0).1.kind == 2) || ((ts.getD k tok0).1.kind == 1) || decide (Sx.tx ts k = [116, 114, 117, 101]) || decide (Sx.tx ts k = [102, 97, 108, 115, 101]) || decide (Sx.tx ts k = [40]) || (decide (Sx.tx ts k = [45]) || decide (Sx.tx ts k = [33])))) := by
    unfold Hid Sx.begE Sx.isUn Sx.tx
    rw [beq_int, beq_int]
  clear h rt
  generalize ((ts.getD k tok0).1.kind == 1) = b1 at *
  generalize ((ts.getD k tok0).1.kind == 2) = b2 at *
  generalize decide (Sx.tx ts k = [116, 114, 117, 101]) = b3 at *
  generalize decide (Sx.tx ts k = [102, 97, 108, 115, 101]) = b4 at *
  generalize decide (Sx.tx ts k = [40]) = b5 at *
  generalize decide (Sx.tx ts k = [45]) = b6 at *
  generalize decide (Sx.tx ts k = [33]) = b7 at *
  rw [HB.out]
  clear HB
  go_enter Try.func97, Try.ntmps97
  go_wp2_with fail
  refine Calls.mono (K1.out _ (Below.refl _ _)) ?_
  rintro e w1 ⟨rfl, n1⟩
  cases b1
  · go_wp2_with fail
    refine Calls.mono (K2.out _ n1) ?_
    rintro e w2 ⟨rfl, m2⟩
    have n2 := n1.trans (m2.mono n1.size)
    clear m2 n1
    cases b2
    · go_wp2_with fail
      refine Calls.mono (I1.out _ n2) ?_
      rintro e w3 ⟨rfl, m3⟩
      have n3 := n2.trans (m3.mono n2.size)
      clear m3 n2
      cases b3
      · go_wp2_with fail
        refine Calls.mono (I2.out _ n3) ?_
        rintro e w4 ⟨rfl, m4⟩
        have n4 := n3.trans (m4.mono n3.size)
        clear m4 n3
        cases b4
        · go_wp2_with fail
          refine Calls.mono (I3.out _ n4) ?_
          rintro e w5 ⟨rfl, m5⟩
          have n5 := n4.trans (m5.mono n4.size)
          clear m5 n4
          cases b5
          · go_wp2_with fail
            refine Calls.mono (I4.out _ n5) ?_
            rintro e w6 ⟨rfl, m6⟩
            have n6 := n5.trans (m6.mono n5.size)
            clear m6 n5
            cases b6
            · go_wp2_with fail
              refine Calls.mono (I5.out _ n6) ?_
              rintro e w7 ⟨rfl, m7⟩
              have n7 := n6.trans (m7.mono n6.size)
              clear m7 n6
              cases b7
              · go_wp2_with fail
                go_ret
                exact ⟨rfl, n7⟩
              · go_wp2_with fail
                go_ret
                exact ⟨rfl, n7⟩
            · go_wp2_with fail
              go_ret
              exact ⟨rfl, n6⟩
          · go_wp2_with fail
            go_ret
            exact ⟨rfl, n5⟩
        · go_wp2_with fail
          go_ret
          exact ⟨rfl, n4⟩
      · go_wp2_with fail
        go_ret
        exact ⟨rfl, n3⟩
    · go_wp2_with fail
      go_ret
      exact ⟨rfl, n2⟩
  · go_wp2_with fail
    go_ret
    refine ⟨?_, n1⟩
    cases b2 <;> rfl
/-- What part does: nothing, or an error is noted. -/
def PartIs (p b o cap : Nat) (ts : List Tok) (k : Nat) (beg : Bool) (d : Nat) (w : World) (e : Ending) (w' : World) : Prop :=
  e = .returned (.tuple #[]) ∧ Kp p w w' ∧ ((beg = false ∧ Ri w' p b o cap ts k 30 (ts.getD k tok0).2) ∨ (beg = true ∧ 60 < d ∧ Ri w' p b o cap ts k 31 (ts.getD k tok0).2) ∨ (beg = true ∧ d ≤ 60 ∧ Ri w' p b o cap ts k 0 0))
set_option maxRecDepth 100000 in
set_option maxHeartbeats 1000000 in
theorem rpart_any (w : World) (p b o cap : Nat) (ts : List Tok) (k : Nat) (beg : Bool) (d : Nat) (hd : d ≤ 1000) (h : Ri w p b o cap ts k 0 0) :
    Calls Try.prog 82 #[.pointer (some ⟨p, 0, none⟩), .bool beg, .int .i64 (d : Int)] w (PartIs p b o cap ts k beg d w) := by
  have H : Hid _ := h
  cases beg
  · have E1 : Hid _ := rfail_set w p b o cap ts k 0 30 h
    by_cases c : 60 < d
    · have hdi : (60 : Int) < (d : Int) := by omega
      clear h
      go_enter Try.func82, Try.ntmps82
      go_wp2_with fail
      refine Calls.mono E1.out ?_
      rintro e w1 ⟨rfl, h1, k1⟩
      go_wp2_with fail
      refine Calls.mono (rfail_err w1 p b o cap ts k 30 _ 31 h1 (by decide)) ?_
      rintro e w2 ⟨rfl, rfl⟩
      go_wp2_with fail
      go_end0
      exact ⟨rfl, k1, .inl ⟨rfl, h1⟩⟩
    · have hdi : ¬ ((60 : Int) < (d : Int)) := by omega
      clear h
      go_enter Try.func82, Try.ntmps82
      go_wp2_with fail
      refine Calls.mono E1.out ?_
      rintro e w1 ⟨rfl, h1, k1⟩
      go_wp2_with fail
      go_end0
      exact ⟨rfl, k1, .inl ⟨rfl, h1⟩⟩
  · by_cases c : 60 < d
    · have E1 : Hid _ := rfail_set w p b o cap ts k 0 31 h
      have hdi : (60 : Int) < (d : Int) := by omega
      clear h
      go_enter Try.func82, Try.ntmps82
      go_wp2_with fail
      refine Calls.mono E1.out ?_
      rintro e w1 ⟨rfl, h1, k1⟩
      go_wp2_with fail
      go_end0
      exact ⟨rfl, k1, .inr (.inl ⟨rfl, c, h1⟩)⟩
    · have hdi : ¬ ((60 : Int) < (d : Int)) := by omega
      clear h
      go_enter Try.func82, Try.ntmps82
      go_wp2_with fail
      go_end0
      exact ⟨rfl, Keep.refl _ _, .inr (.inr ⟨rfl, by omega, H.out⟩)⟩
end Go.Proofs.Ytobiedmmjiedlaa
