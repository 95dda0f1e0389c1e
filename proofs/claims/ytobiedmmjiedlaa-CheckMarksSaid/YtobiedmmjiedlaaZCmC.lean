/- Layer 4: copies of expressions (the program's). -/
/- Layer 3: the reader of programs: a statement that prints. -/
/- Layer 3: the reader of programs: a block of one statement. -/
/- Layer 3: the reader of programs: a procedure (no parameters, no answer, one statement that prints), or one whose second parameter is wrong. -/
/- Layer 3: the reader of programs: a procedure without parameters and answer, whose one statement prints. -/
/- Layer 3: the reader of programs: a program of one procedure. -/
/- Layer 4: copies of statements (the program's): a row of them. -/
import Derived.Test.YtobiedmmjiedlaaZCmA
import Derived.Test.YtobiedmmjiedlaaZFolL
namespace Go.Proofs.Ytobiedmmjiedlaa
open Go.RowKit
set_option linter.unusedVariables false
set_option linter.unusedSimpArgs false
def CpE (l : List Sx.Ex) : Prop := ∀ (A : Nat → Prop) (sa : Option Addr) (sc : Nat) (w : World), ExS A w (.slice sa l.length sc) l →
  Calls Try.prog 28 #[.slice sa l.length sc] w fun e w' => ∃ sb sd, e = .returned (.slice sb l.length sd) ∧ ExS (fun g => w.heap.size ≤ g) w' (.slice sb l.length sd) l ∧ Below w.heap.size w w'
set_option maxRecDepth 100000 in
set_option maxHeartbeats 4000000 in
theorem cpEs_loop (l : List Sx.Ex) (hl : l.length ≤ 1000000) (hR : ∀ x, x ∈ l → ∃ k n m ll, x = .mk k n m ll ∧ CpE ll) : CpE l := by
  intro A sa sc w hs
  obtain ⟨i0, hi, hz0, hz1, hz2⟩ := info_parts infoEx
  have HS : Hid _ := hs
  have HC : Hid _ := hR
  have HL : Hid (l.length ≤ 1000000) := hl
  clear hs hR
  go_enter Try.func28, Try.ntmps28
  go_wp2_with fail
  go_loopw [3, 8] (fun v i wr => ∃ j : Nat, j ≤ l.length ∧ i = .int .i64 j ∧ Ea w id l j v wr) (fun _ i _ => l.length - (intOf i).toNat)
  case atStart => exact ⟨0, by omega, rfl, [], World.ownsRow_nil _ _ _ _, rfl, fun q x hq _ => absurd hq (Nat.not_lt_zero q), Below.refl _ _⟩
  case round =>
    obtain ⟨j, hj, rfl, hea⟩ := hrel
    by_cases hlt : j < l.length
    · obtain ⟨cells, hrow, hlen, hmade, hbel⟩ := hea
      obtain ⟨g, o, k', n', m', sa', sn', sc', ll, rfl, hg, el, c0, c1, c2, c3, hs'⟩ := (HS.out.later hbel (Nat.le_refl _)).part j hlt
      have hln := hs'.len
      subst hln
      have hji : (j : Int) < (l.length : Int) := by omega
      have hj0 : (0 : Int) ≤ (j : Int) := by omega
      obtain ⟨W1, hW1⟩ : ∃ W, W = wr.alloc (.cells #[.int .i64 k', .string ⟨n'.toArray⟩, .int .i64 m', .slice sa' ll.length sc'] 54) := ⟨_, rfl⟩
      have BX1 : Hid (Below wr.heap.size wr W1) := by rw [hW1]; exact box_below wr _
      have BB1 : Hid (Bx W1 wr.heap.size (.int .i64 k') (.string ⟨n'.toArray⟩) (.int .i64 m') (.slice sa' ll.length sc')) := by rw [hW1]; exact Bx.new _ _ _ _ _ _
      have SZ1 : Hid (W1.heap.size = wr.heap.size + 1) := by rw [hW1]; exact hidC (by simp)
      have E1 : Hid (Calls Try.prog 28 #[.slice sa' ll.length sc'] W1 fun e w' => ∃ sb sd, e = .returned (.slice sb ll.length sd) ∧ ExS (fun g => W1.heap.size ≤ g) w' (.slice sb ll.length sd) ll ∧ Below W1.heap.size W1 w') := by
        obtain ⟨k2, n2, m2, l2, hx, h2⟩ := HC.out _ (List.mem_of_getElem? el)
        injection hx with _ _ _ q4
        subst q4
        exact h2 A sa' sc' W1 (hs'.later BX1.out (Nat.le_refl _))
      have ST : Hid _ := (⟨hrow, hlen, hmade, hbel, el⟩ : wr.ownsRow w.heap.size 54 4 _ j cells ∧ cells.length = j * 4 ∧ (∀ q x, q < j → l[q]? = some x → Made w wr _ cells q (id x)) ∧ Below w.heap.size w wr ∧ l[j]? = some (.mk k' n' m' ll))
      have hz : w.heap.size ≤ wr.heap.size := hbel.size
      obtain ⟨ln, hln⟩ : ∃ n, n = ll.length := ⟨_, rfl⟩
      have HLN : Hid (ln = ll.length) := hln
      obtain ⟨va, vc, hv⟩ := own_shape hrow
      subst hv
      rw [← hln] at E1 BB1 hW1 c3
      clear hrow hlen hmade hbel el hs' hln
      go_upto_region 5 with fail
      rw [← hW1]
      clear hW1
      obtain ⟨b0, b1, b2, b3, f0, f1, f2, f3, lt1⟩ := BB1.out
      go_wp2_with fail
      refine Calls.mono E1.out ?_
      rintro e w1 ⟨sb, sd, rfl, X1, k1⟩
      have BB2 : Hid _ := BB1.out.later k1 (by have := SZ1.out; omega)
      have XX : Hid (ExS (fun g => wr.heap.size + 1 ≤ g) w1 (.slice sb ln sd) ll) := X1.mono fun g _ hg => by have := SZ1.out; omega
      have BW : Hid (Below wr.heap.size wr w1) := BX1.out.trans (k1.mono BX1.out.size)
      clear b0 b1 b2 b3 f0 f1 f2 f3 lt1 X1 k1
      obtain ⟨b0, b1, b2, b3, f0, f1, f2, f3, lt1⟩ := BB2.out
      go_upto_region 6 with fail
      obtain ⟨W5, hW5⟩ : ∃ W, W = w1.setCell ⟨wr.heap.size, 3, none⟩ (.slice sb ln sd) := ⟨_, rfl⟩
      have d0 : W5.cell? ⟨wr.heap.size, 0, none⟩ = some (.int .i64 k') := by rw [hW5]; exact (World.cell?_setCell_other _ _ _ _ (by simp)).trans b0
      have d1 : W5.cell? ⟨wr.heap.size, 1, none⟩ = some (.string ⟨n'.toArray⟩) := by rw [hW5]; exact (World.cell?_setCell_other _ _ _ _ (by simp)).trans b1
      have d2 : W5.cell? ⟨wr.heap.size, 2, none⟩ = some (.int .i64 m') := by rw [hW5]; exact (World.cell?_setCell_other _ _ _ _ (by simp)).trans b2
      have d3 : W5.cell? ⟨wr.heap.size, 3, none⟩ = some (.slice sb ln sd) := by rw [hW5]; exact World.cell?_setCell_same _ _ _ b3
      have B5 : Hid (Below wr.heap.size wr W5) := by rw [hW5]; exact BW.out.setCell (by simp) _
      have X5 : Hid (ExS (fun g => wr.heap.size ≤ g) W5 (.slice sb ln sd) ll) := by rw [hW5]; exact (XX.out.set (a := ⟨wr.heap.size, 3, none⟩) (by simp) _).mono fun g _ hg => by omega
      rw [← hW5]
      clear hW5 b0 b1 b2 b3 f0 f1 f2 f3 lt1
      have RW : Hid _ := own_later ST.out.1 (B5.out.trans ((box_below W5 (.cells #[.int .i64 k', .string ⟨n'.toArray⟩, .int .i64 m', .slice sb ln sd] 54)).mono B5.out.size))
      go_wp2_with (at_builtin; refine wpList_append_told rfl _ _ 31 rfl w.heap.size 54 i0 (.agg #[.int .i64 0, .string ⟨#[]⟩, .int .i64 0, .slice none 0 0]) 4 56 Try.underlying31 hi hz0 hz1 hz2 rfl (by decide) _ j cells rfl RW.out ⟨W5.heap.size, 0, none⟩ 1 1 [.int .i64 k', .string ⟨n'.toArray⟩, .int .i64 m', .slice sb ln sd] rfl rfl (four_cells _ _ _ _ _ _) (by intro x hx; simp at hx; rcases hx with rfl | rfl | rfl | rfl <;> rfl) (by have := HL.out; simp only [maxLen]; omega) (by have := HL.out; omega) (by have := B5.out.size; simp; omega) (by decide) ?_)
      intro v' w2 h2 g2 o2
      have EA : Hid (Ea w id l (j + 1) v' w2) := by
        obtain ⟨hrow, hlen, hmade, hbel, el⟩ := ST.out
        have bw3 := B5.out.trans ((box_below W5 (.cells #[.int .i64 k', .string ⟨n'.toArray⟩, .int .i64 m', .slice sb ln sd] 54)).mono B5.out.size)
        have o2' : v'.ownBlock = _ ∨ ∃ g, v'.ownBlock = some g ∧ (W5.alloc (.cells #[.int .i64 k', .string ⟨n'.toArray⟩, .int .i64 m', .slice sb ln sd] 54)).heap.size ≤ g := o2.imp id fun ⟨g, h, h3⟩ => ⟨g, h, by simpa using h3⟩
        have X6 := X5.out.later (box_below W5 (.cells #[.int .i64 k', .string ⟨n'.toArray⟩, .int .i64 m', .slice sb ln sd] 54)) (Nat.le_refl _)
        rw [HLN.out] at X6 h2 g2 bw3 o2'
        exact Ea.step hrow hlen hmade hbel bw3 el rfl X6 h2 g2 o2'
      clear h2 g2 o2 ST RW
      go_wp2_with fail
      go_roundw
      case rel => exact ⟨j + 1, by omega, by go_num, EA.out⟩
      case measure => simp [intOf]; omega
    · obtain rfl : j = l.length := by omega
      have D : Hid _ := hea.done
      obtain ⟨sb, sd, rfl, X, b⟩ := D.out
      have XX : Hid _ := X
      clear hea D X
      go_wp2_with fail
      go_ret
      exact ⟨sb, sd, rfl, by have h := XX.out; rw [List.map_id] at h; exact h, b⟩
theorem cpE_ex {x : Sx.Ex} (h : Fo.Bnd x) : ∃ k n m ll, x = .mk k n m ll ∧ CpE ll := by
  induction h with
  | mk k n m l hl _ ih => exact ⟨k, n, m, l, rfl, cpEs_loop l hl ih⟩
theorem cpEs_any (l : List Sx.Ex) (hl : l.length ≤ 1000000) (h : ∀ x, x ∈ l → Fo.Bnd x) : CpE l := cpEs_loop l hl fun x hx => cpE_ex (h x hx)
end Go.Proofs.Ytobiedmmjiedlaa

namespace Go.Proofs.Ytobiedmmjiedlaa
open Go.RowKit

theorem B7.later {w w' : World} {g n : Nat} {a0 a1 a2 a3 a4 a5 a6 : Value} (h : B7 w g a0 a1 a2 a3 a4 a5 a6) (b : Below n w w') (hn : g < n) : B7 w' g a0 a1 a2 a3 a4 a5 a6 := h.kept (b.block g hn) b.size
theorem Mk.mov {w w' : World} {p : Nat} {v u : Value} {us is : List Value} (h : Mk w p v u us is) (m : Mov p w w') : Mk w' p v u us is := by
  have hg : w.grownBy w' (some p) := ⟨m.os, m.tape, m.output, m.size, fun k hk hn => m.block k hk (fun e => hn (by rw [e]))⟩
  have hv : v.ownBlock ≠ some p := fun e => by have := (World.ownsRow.lt h.ov _ e).1; omega
  have hu : u.ownBlock ≠ some p := fun e => by have := (World.ownsRow.lt h.ou _ e).1; omega
  exact ⟨(m.cell _ h.lt (by simp)).trans h.c2, (m.frozen _ h.lt).trans h.f2, World.ownsRow.kept h.ov hg (.inr hv), World.ownsRow.kept h.ou hg (.inr hu), h.ne, Nat.lt_of_lt_of_le h.lt m.size, h.bd⟩
theorem Rd.ps {w w' : World} {p b o cap : Nat} {ts : List Tok} {k : Nat} {v u v' u' : Value} (h : Rd w p b o cap ts k) (s : PS p w v u w' v' u') (hp : w'.heap[p]? = w.heap[p]?) (hb : ¬ v.ownBlock = some b ∧ ¬ u.ownBlock = some b) : Rd w' p b o cap ts k := by
  have e := (s.far b h.ta.lt h.ne hb.1 hb.2).1
  exact ⟨(World.cell?_of_block (w := w) (a := ⟨p, 0, none⟩) hp).trans h.row, (World.cell?_of_block (w := w) (a := ⟨p, 1, none⟩) hp).trans h.nx, (World.frozen?_of_block (w := w) (a := ⟨p, 1, none⟩) hp).trans h.fz,
    ⟨Nat.lt_of_lt_of_le h.ta.lt s.size, fun j hj => (World.cell?_of_block (w := w) (a := ⟨b, _, none⟩) e).trans (h.ta.c0 j hj), fun j hj => (World.cell?_of_block (w := w) (a := ⟨b, _, none⟩) e).trans (h.ta.c1 j hj), fun j hj => (World.cell?_of_block (w := w) (a := ⟨b, _, none⟩) e).trans (h.ta.c2 j hj), fun j hj => (World.cell?_of_block (w := w) (a := ⟨b, _, none⟩) e).trans (h.ta.c3 j hj)⟩, h.ne, Nat.lt_of_lt_of_le h.lt s.size⟩
/-- The first token x was taken, and lies in a box of its own; the box for the answer is empty. -/
def SRel (w : World) (p b o cap : Nat) (ts : List Tok) (k : Nat) (x : Tok) (s : Value) (wc : World) : Prop :=
  ∃ g, s = .pointer (some ⟨g, 0, none⟩) ∧ Bx wc g (.int .i64 x.1.kind) (.string ⟨x.1.text.toArray⟩) (.int .i64 x.1.num) (.int .i64 x.2) ∧ w.heap.size < g ∧
    B7 wc w.heap.size (.int .i64 0) (.string ⟨#[]⟩) (.string ⟨#[]⟩) (.int .i64 0) (.slice none 0 0) (.slice none 0 0) (.slice none 0 0) ∧ Mov p w wc ∧ Rd wc p b o cap ts (k + 1)
theorem fill_other (w : World) (g k : Nat) (b0 b1 b2 b3 : Value) (h : k ≠ g) : (fill w g b0 b1 b2 b3).heap[k]? = w.heap[k]? := by
  unfold fill
  rw [heap_setCell_other _ _ k _ h, heap_setCell_other _ _ k _ h, heap_setCell_other _ _ k _ h, heap_setCell_other _ _ k _ h]
theorem SRel.of {w w3 : World} {p b o cap : Nat} {ts : List Tok} {k g : Nat} {x : Tok} {a0 a1 a2 a3 : Value} (t : Bx w3 g a0 a1 a2 a3) (hg : w.heap.size < g) (hp : p < w.heap.size) (hb : b < w.heap.size) (r : B7 w3 w.heap.size (.int .i64 0) (.string ⟨#[]⟩) (.string ⟨#[]⟩) (.int .i64 0) (.slice none 0 0) (.slice none 0 0) (.slice none 0 0)) (m : Mov p w w3) (rd : Rd w3 p b o cap ts (k + 1)) :
    SRel w p b o cap ts k x (.pointer (some ⟨g, 0, none⟩)) (fill w3 g (.int .i64 x.1.kind) (.string ⟨x.1.text.toArray⟩) (.int .i64 x.1.num) (.int .i64 x.2)) :=
  ⟨g, rfl, t.fill _ _ _ _, hg, r.kept (fill_other _ _ _ _ _ _ _ (by omega)) (by rw [fill_size]; exact Nat.le_refl _), m.fill (by omega) _ _ _ _, rd.fill (by omega) (by omega) _ _ _ _⟩
theorem SRel.of_new {w w3 : World} {p b o cap : Nat} {ts : List Tok} {k : Nat} {x : Tok} (t : TypeId) (r : B7 w3 w.heap.size (.int .i64 0) (.string ⟨#[]⟩) (.string ⟨#[]⟩) (.int .i64 0) (.slice none 0 0) (.slice none 0 0) (.slice none 0 0)) (m : Mov p w w3) (rd : Rd w3 p b o cap ts (k + 1)) :
    SRel w p b o cap ts k x (.pointer (some ⟨w3.heap.size, 0, none⟩)) (w3.alloc (.cells #[.int .i64 x.1.kind, .string ⟨x.1.text.toArray⟩, .int .i64 x.1.num, .int .i64 x.2] t)) :=
  ⟨w3.heap.size, rfl, Bx.new _ _ _ _ _ _, r.lt, r.later (box_below _ _) r.lt, m.alloc _, rd.later (box_below _ _)⟩
theorem Bx.kept {w w' : World} {g : Nat} {a0 a1 a2 a3 : Value} (h : Bx w g a0 a1 a2 a3) (e : w'.heap[g]? = w.heap[g]?) (hz : w.heap.size ≤ w'.heap.size) : Bx w' g a0 a1 a2 a3 :=
  ⟨(World.cell?_of_block (w := w) e).trans h.c0, (World.cell?_of_block (w := w) e).trans h.c1, (World.cell?_of_block (w := w) e).trans h.c2, (World.cell?_of_block (w := w) e).trans h.c3, (World.frozen?_of_block (w := w) e).trans h.f0, (World.frozen?_of_block (w := w) e).trans h.f1, (World.frozen?_of_block (w := w) e).trans h.f2, (World.frozen?_of_block (w := w) e).trans h.f3, Nat.lt_of_lt_of_le h.lt hz⟩
theorem fill7_other (w : World) (g k : Nat) (a0 a1 a2 a3 a4 a5 a6 : Value) (h : k ≠ g) : (fill7 w g a0 a1 a2 a3 a4 a5 a6).heap[k]? = w.heap[k]? := by
  unfold fill7
  rw [heap_setCell_other _ _ k _ h, heap_setCell_other _ _ k _ h, heap_setCell_other _ _ k _ h, heap_setCell_other _ _ k _ h, heap_setCell_other _ _ k _ h, heap_setCell_other _ _ k _ h, heap_setCell_other _ _ k _ h]
theorem fill7_grown (w : World) (g : Nat) (a0 a1 a2 a3 a4 a5 a6 : Value) : w.grownBy (fill7 w g a0 a1 a2 a3 a4 a5 a6) (some g) :=
  ⟨by unfold fill7; simp [World.setCell], by unfold fill7; simp [World.setCell], by unfold fill7; simp [World.setCell], by rw [fill7_size]; exact Nat.le_refl _, fun k _ hn => fill7_other w g k _ _ _ _ _ _ _ (fun e => hn (by rw [e]))⟩
theorem Mk.kept {w w' : World} {p r : Nat} {v u : Value} {us is : List Value} (h : Mk w p v u us is) (hg : w.grownBy w' (some r)) (h1 : r ≠ p) (h2 : ¬ v.ownBlock = some r) (h3 : ¬ u.ownBlock = some r) : Mk w' p v u us is := by
  have e := hg.block p h.lt (fun e => h1 (Option.some.inj e).symm)
  exact ⟨(World.cell?_of_block (w := w) (a := ⟨p, 2, none⟩) e).trans h.c2, (World.frozen?_of_block (w := w) (a := ⟨p, 2, none⟩) e).trans h.f2, World.ownsRow.kept h.ov hg (.inr h2), World.ownsRow.kept h.ou hg (.inr h3), h.ne, Nat.lt_of_lt_of_le h.lt hg.size, h.bd⟩
theorem PS.grown {p : Nat} {w w' w'' : World} {v u v' u' : Value} (h : PS p w v u w' v' u') {r : Nat} (hg : w'.grownBy w'' (some r)) (hr : w.heap.size ≤ r) : PS p w v u w'' v' u' :=
  ⟨hg.os.trans h.os, hg.tape.trans h.tape, hg.output.trans h.output, Nat.le_trans h.size hg.size, fun g hg' h0 h1 h2 => by
    obtain ⟨a, b, c⟩ := h.far g hg' h0 h1 h2
    exact ⟨(hg.block g (Nat.lt_of_lt_of_le hg' h.size) (fun e => by have := Option.some.inj e; omega)).trans a, b, c⟩⟩
end Go.Proofs.Ytobiedmmjiedlaa

namespace Go.Proofs.Ytobiedmmjiedlaa
open Go.RowKit

theorem infoSt : (Try.prog.info? 33).map (fun i => (i.zero, i.size, i.bytes)) = some (some (.agg #[.int .i64 0, .string ⟨#[]⟩, .string ⟨#[]⟩, .int .i64 0, .slice none 0 0, .slice none 0 0, .slice none 0 0]), 7, 120) := by kernel_rfl
/-- One statement, of a kind, with the expressions of the slice sl, lies in block g. -/
structure S1 (w : World) (g : Nat) (kind : Int) (sl : Value) : Prop where
  c0 : w.cell? ⟨g, 0, none⟩ = some (.int .i64 kind)
  c1 : w.cell? ⟨g, 1, none⟩ = some (.string ⟨#[]⟩)
  c2 : w.cell? ⟨g, 2, none⟩ = some (.string ⟨#[]⟩)
  c3 : w.cell? ⟨g, 3, none⟩ = some (.int .i64 0)
  c4 : w.cell? ⟨g, 4, none⟩ = some sl
  c5 : w.cell? ⟨g, 5, none⟩ = some (.slice none 0 0)
  c6 : w.cell? ⟨g, 6, none⟩ = some (.slice none 0 0)
  lt : g < w.heap.size
theorem seven_cells (w : World) (c0 c1 c2 c3 c4 c5 c6 : Value) (t : TypeId) : ∀ (j : Nat) u, [c0, c1, c2, c3, c4, c5, c6][j]? = some u → (w.alloc (.cells #[c0, c1, c2, c3, c4, c5, c6] t)).cell? ((⟨w.heap.size, 0, none⟩ : Addr).add j) = some u := by
  intro j u hj
  match j, hj with
  | 0, hj => simp at hj; subst hj; simp [Addr.add]
  | 1, hj => simp at hj; subst hj; simp [Addr.add]
  | 2, hj => simp at hj; subst hj; simp [Addr.add]
  | 3, hj => simp at hj; subst hj; simp [Addr.add]
  | 4, hj => simp at hj; subst hj; simp [Addr.add]
  | 5, hj => simp at hj; subst hj; simp [Addr.add]
  | 6, hj => simp at hj; subst hj; simp [Addr.add]
  | n + 7, hj => simp at hj
theorem S1.own {w : World} {base : Nat} {v : Value} {kind : Int} {sl : Value} (h : w.ownsRow base 33 7 v 1 [.int .i64 kind, .string ⟨#[]⟩, .string ⟨#[]⟩, .int .i64 0, sl, .slice none 0 0, .slice none 0 0]) : ∃ g cap, v = .slice (some ⟨g, 0, none⟩) 1 cap ∧ 1 ≤ cap ∧ S1 w g kind sl := by
  have hc := @World.ownsRow.cells _ _ _ _ _ _ _ h
  have hl := World.ownsRow.lt h
  rcases h.2 with ⟨_, h0⟩ | ⟨g, cap, cur, rfl, hb, hh, hnc, _⟩
  · cases h0
  · have key : ∀ j u, [Value.int .i64 kind, .string ⟨#[]⟩, .string ⟨#[]⟩, .int .i64 0, sl, .slice none 0 0, .slice none 0 0][j]? = some u → w.cell? ⟨g, j, none⟩ = some u := by
      intro j u hu
      have e := @hc g rfl j u hu
      cases j with
      | zero => simpa [Addr.add] using e
      | succ j => simpa [Addr.add] using e
    exact ⟨g, cap, rfl, hnc, key 0 _ rfl, key 1 _ rfl, key 2 _ rfl, key 3 _ rfl, key 4 _ rfl, key 5 _ rfl, key 6 _ rfl, (hl g rfl).2⟩
theorem PS.below' {p : Nat} {w w' w'' : World} {v u v' u' : Value} (h : PS p w v u w' v' u') (b : Below w'.heap.size w' w'') : PS p w v u w'' v' u' :=
  ⟨b.os.trans h.os, b.tape.trans h.tape, b.output.trans h.output, Nat.le_trans h.size b.size, fun g hg h0 h1 h2 => by
    obtain ⟨a, c, d⟩ := h.far g hg h0 h1 h2
    exact ⟨(b.block g (Nat.lt_of_lt_of_le hg h.size)).trans a, c, d⟩⟩
theorem Mk.later {w w' : World} {p : Nat} {v u : Value} {us is : List Value} (h : Mk w p v u us is) (b : Below w.heap.size w w') : Mk w' p v u us is := h.mov (.of_below b)
theorem Below.of_grown {w w' : World} (h : w.grownBy w' none) : Below w.heap.size w w' := ⟨h.os, h.tape, h.output, h.size, fun k hk => h.block k hk (by simp)⟩
/-- A block of one statement with one expression was read. -/
def BOk (p b o cap : Nat) (ts : List Tok) (w : World) (v u : Value) (us is : List Value) (a : Int) (kind : Int) (y : Sx.Ex) (k' : Nat) (e : Ending) (w' : World) : Prop :=
  ∃ g c sa u', e = .returned (.slice (some ⟨g, 0, none⟩) 1 c) ∧ 1 ≤ c ∧ S1 w' g kind (.slice sa 1 1) ∧ w.heap.size ≤ g ∧ ¬ v.ownBlock = some g ∧ ¬ u'.ownBlock = some g ∧ Mk w' p v u' us (is ++ [.int .i64 a]) ∧ PS p w v u w' v u' ∧ Rd w' p b o cap ts k' ∧ k' < ts.length ∧
    ExS (fun g => w.heap.size ≤ g ∧ ¬ v.ownBlock = some g ∧ ¬ u'.ownBlock = some g) w' (.slice sa 1 1) [y]
end Go.Proofs.Ytobiedmmjiedlaa

namespace Go.Proofs.Ytobiedmmjiedlaa
open Go.RowKit

/-- Marks of the procedures so far, in the slice v of slices. -/
structure Pv (w : World) (p : Nat) (v : Value) (us : List Value) : Prop where
  c2 : w.cell? ⟨p, 2, none⟩ = some v
  f2 : w.frozen? ⟨p, 2, none⟩ = false
  ov : w.ownsRow (p + 1) 44 1 v us.length us
  lt : p < w.heap.size
  bd : us.length + 1 ≤ 1000000
structure PV (p : Nat) (w : World) (v : Value) (w' : World) (v' u' : Value) : Prop where
  os : w'.os = w.os
  tape : w'.tape = w.tape
  output : w'.output = w.output
  size : w.heap.size ≤ w'.heap.size
  far : ∀ g, g < w.heap.size → g ≠ p → ¬ v.ownBlock = some g → w'.heap[g]? = w.heap[g]? ∧ ¬ v'.ownBlock = some g ∧ ¬ u'.ownBlock = some g
theorem PV.trans {p : Nat} {w w' w'' : World} {v v' v'' u' u'' : Value} (h : PV p w v w' v' u') (k : PS p w' v' u' w'' v'' u'') : PV p w v w'' v'' u'' :=
  ⟨k.os.trans h.os, k.tape.trans h.tape, k.output.trans h.output, Nat.le_trans h.size k.size, fun g hg h0 h1 => by
    obtain ⟨a, b, c⟩ := h.far g hg h0 h1
    obtain ⟨a', b', c'⟩ := k.far g (Nat.lt_of_lt_of_le hg h.size) h0 b c
    exact ⟨a'.trans a, b', c'⟩⟩
theorem Pv.later {w w' : World} {p : Nat} {v : Value} {us : List Value} (h : Pv w p v us) (b : Below w.heap.size w w') : Pv w' p v us :=
  ⟨(b.cell (p := ⟨p, 2, none⟩) h.lt).trans h.c2, (b.frozen (p := ⟨p, 2, none⟩) h.lt).trans h.f2, own_later h.ov b, Nat.lt_of_lt_of_le h.lt b.size, h.bd⟩
/-- A new procedure's marks are begun. -/
theorem Pv.begun {w W w1 : World} {p : Nat} {v v1 : Value} {us : List Value} {k b o cap : Nat} {ts : List Tok} (H : Pv w p v us) (RD : Rd w p b o cap ts k) (hbp : b < p) (bW : Below w.heap.size w W) (g1 : W.grownBy w1 v.ownBlock) (h1 : w1.ownsRow (p + 1) 44 1 v1 (us.length + 1) (us ++ [.slice none 0 0])) (o1 : v1.ownBlock = v.ownBlock ∨ ∃ g, v1.ownBlock = some g ∧ W.heap.size ≤ g) :
    Mk (w1.setCell ⟨p, 2, none⟩ v1) p v1 (.slice none 0 0) us [] ∧ PV p w v (w1.setCell ⟨p, 2, none⟩ v1) v1 (.slice none 0 0) ∧ Rd (w1.setCell ⟨p, 2, none⟩ v1) p b o cap ts k := by
  have hp := H.lt
  have hz := bW.size
  have hz1 := g1.size
  have hpv : some p ≠ v.ownBlock := fun e => by have := (World.ownsRow.lt H.ov _ e.symm).1; omega
  have hbv : some b ≠ v.ownBlock := fun e => by have := (World.ownsRow.lt H.ov _ e.symm).1; omega
  have kp : w1.heap[p]? = w.heap[p]? := (g1.block p (by omega) hpv).trans (bW.block p hp)
  have kb : (w1.setCell ⟨p, 2, none⟩ v1).heap[b]? = w.heap[b]? := (heap_setCell_other w1 _ b _ (by simp only; omega)).trans ((g1.block b (by have := RD.ta.lt; omega) hbv).trans (bW.block b RD.ta.lt))
  have cp : ∀ j, j ≠ 2 → (w1.setCell ⟨p, 2, none⟩ v1).cell? ⟨p, j, none⟩ = w.cell? ⟨p, j, none⟩ := fun j hj => (World.cell?_setCell_other _ _ _ _ (fun e => hj (congrArg Addr.off e).symm)).trans (World.cell?_of_block (w := w) (a := ⟨p, j, none⟩) kp)
  refine ⟨⟨World.cell?_setCell_same _ _ _ ((World.cell?_of_block (w := w) (a := ⟨p, 2, none⟩) kp).trans H.c2), by rw [World.frozen?_setCell]; exact (World.frozen?_of_block (w := w) (a := ⟨p, 2, none⟩) kp).trans H.f2, ownsRow_setCell_below h1 (by simp) _, World.ownsRow_nil _ _ _ _, fun g _ e => (by cases e), (by simp; omega), ⟨by have := H.bd; omega, by simp⟩⟩, ⟨g1.os.trans bW.os, g1.tape.trans bW.tape, g1.output.trans bW.output, by simp; omega, fun g hg h0 h2 => ⟨(heap_setCell_other w1 _ g _ h0).trans ((g1.block g (by omega) (fun e => h2 e.symm)).trans (bW.block g hg)), ?_, fun e => (by cases e)⟩⟩,
    ⟨(cp 0 (by omega)).trans RD.row, (cp 1 (by omega)).trans RD.nx, by rw [World.frozen?_setCell]; exact (World.frozen?_of_block (w := w) (a := ⟨p, 1, none⟩) kp).trans RD.fz, ⟨by have := RD.ta.lt; simp; omega, fun j hj => (World.cell?_of_block (w := w) (a := ⟨b, _, none⟩) kb).trans (RD.ta.c0 j hj), fun j hj => (World.cell?_of_block (w := w) (a := ⟨b, _, none⟩) kb).trans (RD.ta.c1 j hj), fun j hj => (World.cell?_of_block (w := w) (a := ⟨b, _, none⟩) kb).trans (RD.ta.c2 j hj), fun j hj => (World.cell?_of_block (w := w) (a := ⟨b, _, none⟩) kb).trans (RD.ta.c3 j hj)⟩, RD.ne, by have := RD.lt; simp; omega⟩⟩
  rcases o1 with e | ⟨g', e, hg'⟩
  · rw [e]; exact h2
  · rw [e]; intro e2; cases e2; omega
end Go.Proofs.Ytobiedmmjiedlaa

namespace Go.Proofs.Ytobiedmmjiedlaa
open Go.RowKit

theorem PV.from {p : Nat} {w w0 w' : World} {v v' u' : Value} (h : PV p w0 v w' v' u') (b : Below w.heap.size w w0) : PV p w v w' v' u' :=
  ⟨h.os.trans b.os, h.tape.trans b.tape, h.output.trans b.output, Nat.le_trans b.size h.size, fun g hg h0 h1 => by
    obtain ⟨a, c, d⟩ := h.far g (Nat.lt_of_lt_of_le hg b.size) h0 h1
    exact ⟨a.trans (b.block g hg), c, d⟩⟩
theorem Mk.pv {w : World} {p : Nat} {v u : Value} {us is : List Value} (h : Mk w p v u us is) (hb : us.length + 2 ≤ 1000000) : Pv w p v (us ++ [u]) :=
  ⟨h.c2, h.f2, by rw [List.length_append]; exact h.ov, h.lt, by simp; omega⟩
theorem S1.kept {w w' : World} {g : Nat} {kind : Int} {sl : Value} (h : S1 w g kind sl) (e : w'.heap[g]? = w.heap[g]?) (hz : w.heap.size ≤ w'.heap.size) : S1 w' g kind sl :=
  ⟨(World.cell?_of_block (w := w) e).trans h.c0, (World.cell?_of_block (w := w) e).trans h.c1, (World.cell?_of_block (w := w) e).trans h.c2, (World.cell?_of_block (w := w) e).trans h.c3, (World.cell?_of_block (w := w) e).trans h.c4, (World.cell?_of_block (w := w) e).trans h.c5, (World.cell?_of_block (w := w) e).trans h.c6, Nat.lt_of_lt_of_le h.lt hz⟩
theorem set_grown (w : World) (a : Addr) (x : Value) : w.grownBy (w.setCell a x) (some a.block) := ⟨rfl, rfl, rfl, by simp, fun k _ hn => heap_setCell_other w _ k _ (fun e => hn (by rw [e]))⟩
theorem Rd.kept {w w' : World} {p b o cap : Nat} {ts : List Tok} {k r : Nat} (h : Rd w p b o cap ts k) (hg : w.grownBy w' (some r)) (hp : r ≠ p) (hb : r ≠ b) : Rd w' p b o cap ts k := by
  have ep := hg.block p h.lt (fun e => hp (Option.some.inj e).symm)
  have eb := hg.block b h.ta.lt (fun e => hb (Option.some.inj e).symm)
  exact ⟨(World.cell?_of_block (w := w) (a := ⟨p, 0, none⟩) ep).trans h.row, (World.cell?_of_block (w := w) (a := ⟨p, 1, none⟩) ep).trans h.nx, (World.frozen?_of_block (w := w) (a := ⟨p, 1, none⟩) ep).trans h.fz,
    ⟨Nat.lt_of_lt_of_le h.ta.lt hg.size, fun j hj => (World.cell?_of_block (w := w) (a := ⟨b, _, none⟩) eb).trans (h.ta.c0 j hj), fun j hj => (World.cell?_of_block (w := w) (a := ⟨b, _, none⟩) eb).trans (h.ta.c1 j hj), fun j hj => (World.cell?_of_block (w := w) (a := ⟨b, _, none⟩) eb).trans (h.ta.c2 j hj), fun j hj => (World.cell?_of_block (w := w) (a := ⟨b, _, none⟩) eb).trans (h.ta.c3 j hj)⟩, h.ne, Nat.lt_of_lt_of_le h.lt hg.size⟩
theorem fill_grown (w : World) (g : Nat) (a0 a1 a2 a3 : Value) : w.grownBy (fill w g a0 a1 a2 a3) (some g) :=
  ⟨by unfold fill; simp [World.setCell], by unfold fill; simp [World.setCell], by unfold fill; simp [World.setCell], by rw [fill_size]; exact Nat.le_refl _, fun k _ hn => fill_other w g k _ _ _ _ (fun e => hn (by rw [e]))⟩
theorem PV.grown {p : Nat} {w w' w'' : World} {v v' u' : Value} (h : PV p w v w' v' u') {r : Nat} (hg : w'.grownBy w'' (some r)) (hr : w.heap.size ≤ r) : PV p w v w'' v' u' :=
  ⟨hg.os.trans h.os, hg.tape.trans h.tape, hg.output.trans h.output, Nat.le_trans h.size hg.size, fun g hg' h0 h1 => by
    obtain ⟨a, b, c⟩ := h.far g hg' h0 h1
    exact ⟨(hg.block g (Nat.lt_of_lt_of_le hg' h.size) (fun e => by have := Option.some.inj e; omega)).trans a, b, c⟩⟩
/-- A procedure was read. -/
def POk (p b o cap : Nat) (ts : List Tok) (w : World) (v : Value) (us : List Value) (nm : List UInt8) (y : Sx.Ex) (k' : Nat) (e : Ending) (w' : World) : Prop :=
  ∃ g c sa v' u', e = .returned (.agg #[.string ⟨nm.toArray⟩, .slice none 0 0, .int .i64 0, .slice (some ⟨g, 0, none⟩) 1 c]) ∧ 1 ≤ c ∧ S1 w' g 8 (.slice sa 1 1) ∧ w.heap.size ≤ g ∧ ¬ v'.ownBlock = some g ∧ ¬ u'.ownBlock = some g ∧ Pv w' p v' (us ++ [u']) ∧ PV p w v w' v' u' ∧ Rd w' p b o cap ts k' ∧ k' < ts.length ∧
    ExS (fun g => w.heap.size ≤ g ∧ ¬ v'.ownBlock = some g ∧ ¬ u'.ownBlock = some g) w' (.slice sa 1 1) [y]
end Go.Proofs.Ytobiedmmjiedlaa

namespace Go.Proofs.Ytobiedmmjiedlaa
open Go.RowKit

theorem infoPc : (Try.prog.info? 25).map (fun i => (i.zero, i.size, i.bytes)) = some (some (.agg #[.string ⟨#[]⟩, .slice none 0 0, .int .i64 0, .slice none 0 0]), 4, 72) := by kernel_rfl
theorem fldK (a0 a1 a2 a3 : Value) (w : World) : (Instr.field 88 (.agg #[a0, a1, a2, a3]) 0).run Try.prog w = .ok a0 w := by kernel_rfl
/-- A box of one cell. -/
structure B1 (w : World) (g : Nat) (a : Value) : Prop where
  c : w.cell? ⟨g, 0, none⟩ = some a
  f : w.frozen? ⟨g, 0, none⟩ = false
  lt : g < w.heap.size
theorem B1.kept {w w' : World} {g : Nat} {a : Value} (h : B1 w g a) (e : w'.heap[g]? = w.heap[g]?) (hz : w.heap.size ≤ w'.heap.size) : B1 w' g a :=
  ⟨(World.cell?_of_block (w := w) (a := ⟨g, 0, none⟩) e).trans h.c, (World.frozen?_of_block (w := w) (a := ⟨g, 0, none⟩) e).trans h.f, Nat.lt_of_lt_of_le h.lt hz⟩
theorem B1.new (w : World) (t : TypeId) (a : Value) : B1 (w.alloc (.cells #[a] t)) w.heap.size a := ⟨by simp [go_sem], World.frozen?_alloc_at _ _ _ _ rfl, by simp⟩
theorem Pv.mov {w w' : World} {p : Nat} {v : Value} {us : List Value} (h : Pv w p v us) (m : Mov p w w') : Pv w' p v us := by
  have hg : w.grownBy w' (some p) := ⟨m.os, m.tape, m.output, m.size, fun k hk hn => m.block k hk (fun e => hn (by rw [e]))⟩
  have hv : v.ownBlock ≠ some p := fun e => by have := (World.ownsRow.lt h.ov _ e).1; omega
  exact ⟨(m.cell _ h.lt (by simp)).trans h.c2, (m.frozen _ h.lt).trans h.f2, World.ownsRow.kept h.ov hg (.inr hv), Nat.lt_of_lt_of_le h.lt m.size, h.bd⟩
end Go.Proofs.Ytobiedmmjiedlaa

namespace Go.Proofs.Ytobiedmmjiedlaa
open Go.RowKit
set_option linter.unusedVariables false
set_option linter.unusedSimpArgs false
def StV (k : Int) (n p : List UInt8) (m : Int) (s b l : Value) : List Value := [.int .i64 k, .string ⟨n.toArray⟩, .string ⟨p.toArray⟩, .int .i64 m, s, b, l]
/-- One made statement, in the row's cells. -/
def MadT (w wr : World) (v : Value) (cells : List Value) (q : Nat) (y : Sy.St) : Prop := ∃ k n p m sa sc ba bc la lc e b ll, y = .mk k n p m e b ll ∧ (∀ i u, (StV k n p m (.slice sa (e : List Sx.Ex).length sc) (.slice ba (b : List Sy.St).length bc) (.slice la (ll : List Sy.St).length lc))[i]? = some u → cells[q * 7 + i]? = some u) ∧
  ExS (fun g => w.heap.size ≤ g ∧ ¬ v.ownBlock = some g) wr (.slice sa e.length sc) e ∧ SmS (fun g => w.heap.size ≤ g ∧ ¬ v.ownBlock = some g) wr (.slice ba b.length bc) b ∧ SmS (fun g => w.heap.size ≤ g ∧ ¬ v.ownBlock = some g) wr (.slice la ll.length lc) ll
/-- The first j statements are made, in the row v. -/
def Es (w : World) (l : List Sy.St) (j : Nat) (v : Value) (wr : World) : Prop :=
  ∃ cells, wr.ownsRow w.heap.size 33 7 v j cells ∧ cells.length = j * 7 ∧ (∀ q x, q < j → l[q]? = some x → MadT w wr v cells q x) ∧ Below w.heap.size w wr
theorem Es.step {w wr W w4 : World} {l : List Sy.St} {j : Nat} {v v' : Value} {cells : List Value} {k m : Int} {n p : List UInt8} {sa ba la : Option Addr} {sc bc lc : Nat} {e : List Sx.Ex} {b ll : List Sy.St}
    (hrow : wr.ownsRow w.heap.size 33 7 v j cells) (hlen : cells.length = j * 7) (hmade : ∀ q x, q < j → l[q]? = some x → MadT w wr v cells q x) (hbel : Below w.heap.size w wr) (bW : Below wr.heap.size wr W) (hx : l[j]? = some (.mk k n p m e b ll))
    (X : ExS (fun g => wr.heap.size ≤ g) W (.slice sa e.length sc) e) (Y : SmS (fun g => wr.heap.size ≤ g) W (.slice ba b.length bc) b) (Z : SmS (fun g => wr.heap.size ≤ g) W (.slice la ll.length lc) ll)
    (h4 : w4.ownsRow w.heap.size 33 7 v' (j + 1) (cells ++ StV k n p m (.slice sa e.length sc) (.slice ba b.length bc) (.slice la ll.length lc))) (g4 : W.grownBy w4 v.ownBlock) (o4 : v'.ownBlock = v.ownBlock ∨ ∃ g, v'.ownBlock = some g ∧ W.heap.size ≤ g) :
    Es w l (j + 1) v' w4 := by
  have hv : ∀ g, v.ownBlock = some g → g < wr.heap.size ∧ w.heap.size ≤ g := fun g e => ⟨(World.ownsRow.lt hrow g e).2, (World.ownsRow.lt hrow g e).1⟩
  have hz := bW.size
  have hz0 := hbel.size
  have ne : ∀ g, g < W.heap.size → (w.heap.size ≤ g ∧ ¬ v.ownBlock = some g) → (w.heap.size ≤ g ∧ ¬ v'.ownBlock = some g) := fun g hg hA => ⟨hA.1, fun e => by
    rcases o4 with e1 | ⟨g', e1, hg'⟩
    · exact hA.2 (e1.symm.trans e)
    · rw [e1] at e; cases e; omega⟩
  have kc : ∀ q : Addr, (w.heap.size ≤ q.block ∧ ¬ v.ownBlock = some q.block) → q.block < W.heap.size → w4.cell? q = W.cell? q := fun q hA hq => World.cell?_of_block (w := W) (g4.block _ hq fun e => hA.2 e.symm)
  have keepE : ∀ {sl : Value} {l' : List Sx.Ex}, ExS (fun g => w.heap.size ≤ g ∧ ¬ v.ownBlock = some g) W sl l' → ExS (fun g => w.heap.size ≤ g ∧ ¬ v'.ownBlock = some g) w4 sl l' := fun h => h.keep ne kc g4.size
  have keepS : ∀ {sl : Value} {l' : List Sy.St}, SmS (fun g => w.heap.size ≤ g ∧ ¬ v.ownBlock = some g) W sl l' → SmS (fun g => w.heap.size ≤ g ∧ ¬ v'.ownBlock = some g) w4 sl l' := fun h => h.keep ne kc g4.size
  refine ⟨_, h4, by simp [hlen, StV]; omega, fun q y hq hy' => ?_, ?_⟩
  · by_cases c : q < j
    · obtain ⟨k', n', p', m', sa', sc', ba', bc', la', lc', e', b', ll', ey, c0, h1, h2, h3⟩ := hmade q y c hy'
      refine ⟨k', n', p', m', sa', sc', ba', bc', la', lc', e', b', ll', ey, fun i u hu => ?_, keepE (h1.later bW (Nat.le_refl _)), keepS (h2.later bW (Nat.le_refl _)), keepS (h3.later bW (Nat.le_refl _))⟩
      have hi : i < 7 := by have := (List.getElem?_eq_some_iff.1 hu).1; simpa [StV] using this
      exact (List.getElem?_append_left (by omega)).trans (c0 i u hu)
    · obtain rfl : q = j := by omega
      rw [hx] at hy'
      cases hy'
      have up : ∀ g, g < W.heap.size → wr.heap.size ≤ g → (w.heap.size ≤ g ∧ ¬ v.ownBlock = some g) := fun g _ hg => ⟨by omega, fun e => by have := (hv g e).1; omega⟩
      refine ⟨k, n, p, m, sa, sc, ba, bc, la, lc, e, b, ll, rfl, fun i u hu => ?_, keepE (X.mono up), keepS (Y.mono up), keepS (Z.mono up)⟩
      rw [List.getElem?_append_right (by omega), hlen, show q * 7 + i - q * 7 = i by omega]
      exact hu
  · exact hbel.trans ((⟨(g4.os).trans bW.os, (g4.tape).trans bW.tape, (g4.output).trans bW.output, Nat.le_trans bW.size g4.size, fun i hi => (g4.block i (by omega) (fun e => by have := (hv i e.symm).2; omega)).trans (bW.block i (by omega))⟩ : Below w.heap.size wr w4))
theorem Es.done {w wr : World} {l : List Sy.St} {v : Value} (h : Es w l l.length v wr) : ∃ sb sd, v = .slice sb l.length sd ∧ SmS (fun g => w.heap.size ≤ g) wr v l ∧ Below w.heap.size w wr := by
  obtain ⟨cells, hrow, hlen, hmade, hbel⟩ := h
  have hc := @World.ownsRow.cells _ _ _ _ _ _ _ hrow
  have hlt := World.ownsRow.lt hrow
  rcases hrow.2 with ⟨rfl, h0⟩ | ⟨g, cap, cur, rfl, hb, _, hnc, _⟩
  · have : l = [] := List.length_eq_zero_iff.1 h0
    subst this
    exact ⟨none, 0, rfl, .nil none 0, hbel⟩
  · refine ⟨some ⟨g, 0, none⟩, cap, rfl, ?_, hbel⟩
    by_cases h0 : l.length = 0
    · have : l = [] := List.length_eq_zero_iff.1 h0
      subst this
      exact .nil _ _
    · have key : ∀ (i : Nat) (u : Value), cells[i]? = some u → wr.cell? ⟨g, 0 + i, none⟩ = some u := by
        intro i u hu
        have := @hc g rfl i u hu
        have e : (⟨g, 0, none⟩ : Addr).add i = ⟨g, 0 + i, none⟩ := by unfold Addr.add; split <;> simp_all
        rw [e] at this
        exact this
      refine .some g 0 cap l.length l rfl (by omega) hnc (hlt g rfl).1 (hlt g rfl).2 (SmC.of_cells _ 0 fun q hq => ?_)
      obtain ⟨k, n, p, m, sa, sc, ba, bc, la, lc, e, b, ll, ey, c0, h1, h2, h3⟩ := hmade q l[q] hq (List.getElem?_eq_getElem hq)
      have kk : ∀ i u, (StV k n p m (.slice sa (e : List Sx.Ex).length sc) (.slice ba (b : List Sy.St).length bc) (.slice la (ll : List Sy.St).length lc))[i]? = some u → wr.cell? ⟨g, 0 + q * 7 + i, none⟩ = some u := fun i u hu => by have := key _ _ (c0 i u hu); rw [← Nat.add_assoc] at this; exact this
      exact ⟨k, n, p, m, sa, sc, ba, bc, la, lc, e, b, ll, by rw [List.getElem?_eq_getElem hq]; exact congrArg some ey, kk 0 _ rfl, kk 1 _ rfl, kk 2 _ rfl, kk 3 _ rfl, kk 4 _ rfl, kk 5 _ rfl, kk 6 _ rfl, h1.mono fun g _ hA => hA.1, h2.mono fun g _ hA => hA.1, h3.mono fun g _ hA => hA.1⟩
/-- What is asked of the copy of a statement. -/
def CpS (x : Sy.St) : Prop := ∀ (A : Nat → Prop) (k : Int) (n p : List UInt8) (m : Int) (e : List Sx.Ex) (b l : List Sy.St) (sa ba la : Option Addr) (sc bc lc : Nat) (w : World), x = .mk k n p m e b l → ExS A w (.slice sa e.length sc) e → SmS A w (.slice ba b.length bc) b → SmS A w (.slice la l.length lc) l →
  Calls Try.prog 16 #[.agg #[.int .i64 k, .string ⟨n.toArray⟩, .string ⟨p.toArray⟩, .int .i64 m, .slice sa e.length sc, .slice ba b.length bc, .slice la l.length lc]] w fun e1 w' => ∃ sa' sc' ba' bc' la' lc', e1 = .returned (.agg #[.int .i64 k, .string ⟨n.toArray⟩, .string ⟨p.toArray⟩, .int .i64 m, .slice sa' e.length sc', .slice ba' b.length bc', .slice la' l.length lc']) ∧
    ExS (fun g => w.heap.size ≤ g) w' (.slice sa' e.length sc') e ∧ SmS (fun g => w.heap.size ≤ g) w' (.slice ba' b.length bc') b ∧ SmS (fun g => w.heap.size ≤ g) w' (.slice la' l.length lc') l ∧ Below w.heap.size w w'
def CpT (l : List Sy.St) : Prop := ∀ (A : Nat → Prop) (sa : Option Addr) (sc : Nat) (w : World), SmS A w (.slice sa l.length sc) l →
  Calls Try.prog 29 #[.slice sa l.length sc] w fun e w' => ∃ sb sd, e = .returned (.slice sb l.length sd) ∧ SmS (fun g => w.heap.size ≤ g) w' (.slice sb l.length sd) l ∧ Below w.heap.size w w'
set_option maxRecDepth 100000 in
set_option maxHeartbeats 4000000 in
theorem cpSs_loop (l : List Sy.St) (hl : l.length ≤ 1000000) (hR : ∀ x, x ∈ l → CpS x) : CpT l := by
  intro A sa sc w hs
  obtain ⟨i0, hi, hz0, hz1, hz2⟩ := info_parts infoSt
  have HS : Hid _ := hs
  have HC : Hid _ := hR
  have HL : Hid (l.length ≤ 1000000) := hl
  clear hs hR
  obtain ⟨N, hN⟩ : ∃ N, N = l.length := ⟨_, rfl⟩
  have HN := hidC hN
  rw [← hN] at HS hl ⊢
  clear hN
  go_enter Try.func29, Try.ntmps29
  go_wp2_with fail
  go_loopg [3, 8] N (fun gk v i wr => ∃ j : Nat, j + gk = N ∧ i = .int .i64 j ∧ Hid (Es w l j v wr))
  case atStart => exact ⟨0, by omega, rfl, [], World.ownsRow_nil _ _ _ _, rfl, fun q x hq _ => absurd hq (Nat.not_lt_zero q), Below.refl _ _⟩
  case round =>
    obtain ⟨j, hj, rfl, hea⟩ := hrel
    rcases gk with _ | gk
    · obtain rfl : j = N := by omega
      have d1 : decide ((j : Int) < (j : Int)) = false := decide_eq_false (by omega)
      have D : Hid _ := (show Es w l l.length _ wr by rw [← HN.out]; exact hea.out).done
      obtain ⟨sb, sd, rfl, X, b⟩ := D.out
      have XX : Hid _ := X
      clear hea D X
      rw [← HN.out]
      go_wp2_with fail
      go_ret
      exact ⟨sb, sd, rfl, by rw [HN.out]; exact XX.out, b⟩
    · have d1 : decide ((j : Int) < (N : Int)) = true := decide_eq_true (by omega)
      have d1n : decide (j < N) = true := decide_eq_true (by omega)
      have hjN : j < N := by omega
      obtain ⟨cells, hrow, hlen, hmade, hbel⟩ := hea.out
      obtain ⟨g, o, k, n, p, m, ea, ec, ba, bc, la, lc, e, b, ll, rfl, ha, hg, el, h1⟩ := (HS.out.later hbel (Nat.le_refl _)).part j (by rw [← HN.out]; exact hjN)
      obtain ⟨W1, hW1⟩ : ∃ W, W = wr.alloc (.cells #[.int .i64 k, .string ⟨n.toArray⟩, .string ⟨p.toArray⟩, .int .i64 m, .slice ea e.length ec, .slice ba b.length bc, .slice la ll.length lc] 33) := ⟨_, rfl⟩
      have BX1 : Hid (Below wr.heap.size wr W1) := by rw [hW1]; exact box_below wr _
      have BB1 : Hid (Bs W1 wr.heap.size (.int .i64 k) (.string ⟨n.toArray⟩) (.string ⟨p.toArray⟩) (.int .i64 m) (.slice ea e.length ec) (.slice ba b.length bc) (.slice la ll.length lc)) := by rw [hW1]; exact heap_alloc_new wr _
      have E1 := hidC (HC.out _ (List.mem_of_getElem? el) A k n p m e b ll ea ba la ec bc lc W1 rfl (h1.he.later BX1.out (Nat.le_refl _)) (h1.hb.later BX1.out (Nat.le_refl _)) (h1.hl.later BX1.out (Nat.le_refl _)))
      obtain ⟨c0, c1, c2, c3, c4, c5, c6, -, -, -⟩ := h1
      have ST : Hid _ := (⟨hrow, hlen, hmade, hbel, el⟩ : wr.ownsRow w.heap.size 33 7 _ j cells ∧ cells.length = j * 7 ∧ (∀ q x, q < j → l[q]? = some x → MadT w wr _ cells q x) ∧ Below w.heap.size w wr ∧ l[j]? = some (.mk k n p m e b ll))
      have hz : w.heap.size ≤ wr.heap.size := hbel.size
      obtain ⟨va, vc, hv⟩ := own_shape hrow
      subst hv
      obtain ⟨en, hen⟩ : ∃ n, n = e.length := ⟨_, rfl⟩
      obtain ⟨bn, hbn⟩ : ∃ n, n = b.length := ⟨_, rfl⟩
      obtain ⟨ln, hln⟩ : ∃ n, n = ll.length := ⟨_, rfl⟩
      have HEN := hidC hen
      have HBN := hidC hbn
      have HLN := hidC hln
      rw [← hen, ← hbn, ← hln] at E1 BB1 hW1
      rw [← hen] at c4
      rw [← hbn] at c5
      rw [← hln] at c6
      clear hrow hlen hmade hbel el hen hbn hln hea
      go_upto_region 5 with fail
      rw [← hW1]
      clear hW1 c0 c1 c2 c3 c4 c5 c6
      obtain ⟨c0, c1, c2, c3, c4, c5, c6⟩ := BB1.out.cells
      go_wp2_with fail
      refine Calls.mono E1.out ?_
      rintro e2 w1 ⟨sa', sc', ba', bc', la', lc', rfl, X1, Y1, Z1, k1⟩
      have hz1s := BX1.out.size
      have BW : Hid (Below wr.heap.size wr w1) := BX1.out.trans (k1.mono BX1.out.size)
      have XX : Hid (ExS (fun g => wr.heap.size ≤ g) w1 (.slice sa' en sc') e) := X1.mono fun g _ hg => by omega
      have YY : Hid (SmS (fun g => wr.heap.size ≤ g) w1 (.slice ba' bn bc') b) := Y1.mono fun g _ hg => by omega
      have ZZ : Hid (SmS (fun g => wr.heap.size ≤ g) w1 (.slice la' ln lc') ll) := Z1.mono fun g _ hg => by omega
      clear X1 Y1 Z1 k1 c0 c1 c2 c3 c4 c5 c6 hz1s
      have RW : Hid _ := own_later ST.out.1 (BW.out.trans ((box_below w1 (.cells #[.int .i64 k, .string ⟨n.toArray⟩, .string ⟨p.toArray⟩, .int .i64 m, .slice sa' en sc', .slice ba' bn bc', .slice la' ln lc'] 33)).mono BW.out.size))
      have ONE : Hid (∀ u ∈ StV k n p m (.slice sa' en sc') (.slice ba' bn bc') (.slice la' ln lc'), u.oneCell' = true) := by intro x hx; simp [StV] at hx; rcases hx with rfl | rfl | rfl | rfl | rfl | rfl | rfl <;> rfl
      have SEV : Hid (∀ (i : Nat) u, (StV k n p m (.slice sa' en sc') (.slice ba' bn bc') (.slice la' ln lc'))[i]? = some u → (w1.alloc (.cells #[.int .i64 k, .string ⟨n.toArray⟩, .string ⟨p.toArray⟩, .int .i64 m, .slice sa' en sc', .slice ba' bn bc', .slice la' ln lc'] 33)).cell? ((⟨w1.heap.size, 0, none⟩ : Addr).add i) = some u) := seven_cells _ _ _ _ _ _ _ _ _
      have H63 : Hid (j + 1 ≤ maxLen ∧ (j + 1) * 120 ≤ 140737488355328) := by have := HL.out; have := HN.out; unfold Hid maxLen; omega
      have HSZ : Hid (w.heap.size ≤ w1.heap.size) := Nat.le_trans hz BW.out.size
      go_wp2_with (at_builtin; refine wpList_append_told rfl _ _ 23 rfl w.heap.size 33 i0 (.agg #[.int .i64 0, .string ⟨#[]⟩, .string ⟨#[]⟩, .int .i64 0, .slice none 0 0, .slice none 0 0, .slice none 0 0]) 7 120 Try.underlying23 hi hz0 hz1 hz2 rfl (by decide) _ j cells rfl RW.out ⟨w1.heap.size, 0, none⟩ 1 1 (StV k n p m (.slice sa' en sc') (.slice ba' bn bc') (.slice la' ln lc')) rfl rfl SEV.out ONE.out H63.out.1 H63.out.2 (by simp; exact Nat.le_trans HSZ.out (Nat.le_succ _)) (by decide) ?_)
      intro v' w2 h2 g2 o2
      have EA : Hid (Es w l (j + 1) v' w2) := by
        obtain ⟨hrow, hlen, hmade, hbel, el⟩ := ST.out
        have bx := box_below w1 (.cells #[.int .i64 k, .string ⟨n.toArray⟩, .string ⟨p.toArray⟩, .int .i64 m, .slice sa' en sc', .slice ba' bn bc', .slice la' ln lc'] 33)
        have bw3 := BW.out.trans (bx.mono BW.out.size)
        have o2' : v'.ownBlock = _ ∨ ∃ g, v'.ownBlock = some g ∧ (w1.alloc (.cells #[.int .i64 k, .string ⟨n.toArray⟩, .string ⟨p.toArray⟩, .int .i64 m, .slice sa' en sc', .slice ba' bn bc', .slice la' ln lc'] 33)).heap.size ≤ g := o2.imp id fun ⟨g, h, h3⟩ => ⟨g, h, by simpa using h3⟩
        have X6 := XX.out.later bx (Nat.le_refl _)
        have Y6 := YY.out.later bx (Nat.le_refl _)
        have Z6 := ZZ.out.later bx (Nat.le_refl _)
        rw [HEN.out] at X6 Y6 Z6 h2 g2 bw3 o2'
        rw [HBN.out] at X6 Y6 Z6 h2 g2 bw3 o2'
        rw [HLN.out] at X6 Y6 Z6 h2 g2 bw3 o2'
        exact Es.step hrow hlen hmade hbel bw3 el X6 Y6 Z6 h2 g2 o2'
      clear h2 g2 o2 ST RW ONE SEV H63
      go_wp2_with fail
      go_roundg gk
      case measure => omega
      case rel => exact ⟨j + 1, by omega, by go_num, EA⟩
end Go.Proofs.Ytobiedmmjiedlaa
