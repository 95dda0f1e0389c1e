/- Layer 3: the reader of programs: a block of one statement. -/
/- Layer 3: the reader of programs: a procedure (no parameters, no answer, one statement that prints), or one whose second parameter is wrong. -/
/- Layer 3: the reader of programs: a procedure without parameters and answer, whose one statement prints. -/
/- Layer 3: the reader of programs: a program of one procedure. -/
import Derived.Test.YtlhklpnkelcnbaaGreatDoorSynV
namespace Go.Proofs.YtlhklpnkelcnbaaGreatDoor
open Go.RowKit

theorem infoSt : (Tryz.prog.info? 137).map (fun i => (i.zero, i.size, i.bytes)) = some (some (.agg #[.int .i64 0, .string ⟨#[]⟩, .string ⟨#[]⟩, .int .i64 0, .slice none 0 0, .slice none 0 0, .slice none 0 0]), 7, 120) := by kernel_rfl
/-- One statement, of a kind, with the expressions of the slice sl, lies in block g. -/
structure S1 (w : World) (g : Nat) (kind : Int) (sl : Value) : Prop where
  c0 : w.cell? ⟨g, 0, none⟩ = some (.int .i64 kind)
  c1 : w.cell? ⟨g, 1, none⟩ = some (.string ⟨#[]⟩)
  c2 : w.cell? ⟨g, 2, none⟩ = some (.string ⟨#[]⟩)
  c3 : w.cell? ⟨g, 3, none⟩ = some (.int .i64 0)
  c4 : w.cell? ⟨g, 4, none⟩ = some sl
  c5 : w.cell? ⟨g, 5, none⟩ = some (.slice none 0 0)
  c6 : w.cell? ⟨g, 6, none⟩ = some (.slice none 0 0)
  lt : g < w.heap.size
theorem seven_cells (w : World) (c0 c1 c2 c3 c4 c5 c6 : Value) (t : TypeId) : ∀ (j : Nat) u, [c0, c1, c2, c3, c4, c5, c6][j]? = some u → (w.alloc (.cells #[c0, c1, c2, c3, c4, c5, c6] t)).cell? ((⟨w.heap.size, 0, none⟩ : Addr).add j) = some u := by
  intro j u hj
  match j, hj with
  | 0, hj => simp at hj; subst hj; simp [Addr.add]
  | 1, hj => simp at hj; subst hj; simp [Addr.add]
  | 2, hj => simp at hj; subst hj; simp [Addr.add]
  | 3, hj => simp at hj; subst hj; simp [Addr.add]
  | 4, hj => simp at hj; subst hj; simp [Addr.add]
  | 5, hj => simp at hj; subst hj; simp [Addr.add]
  | 6, hj => simp at hj; subst hj; simp [Addr.add]
  | n + 7, hj => simp at hj
theorem S1.own {w : World} {base : Nat} {v : Value} {kind : Int} {sl : Value} (h : w.ownsRow base 137 7 v 1 [.int .i64 kind, .string ⟨#[]⟩, .string ⟨#[]⟩, .int .i64 0, sl, .slice none 0 0, .slice none 0 0]) : ∃ g cap, v = .slice (some ⟨g, 0, none⟩) 1 cap ∧ 1 ≤ cap ∧ S1 w g kind sl := by
  have hc := @World.ownsRow.cells _ _ _ _ _ _ _ h
  have hl := World.ownsRow.lt h
  rcases h.2 with ⟨_, h0⟩ | ⟨g, cap, cur, rfl, hb, hh, hnc, _⟩
  · cases h0
  · have key : ∀ j u, [Value.int .i64 kind, .string ⟨#[]⟩, .string ⟨#[]⟩, .int .i64 0, sl, .slice none 0 0, .slice none 0 0][j]? = some u → w.cell? ⟨g, j, none⟩ = some u := by
      intro j u hu
      have e := @hc g rfl j u hu
      cases j with
      | zero => simpa [Addr.add] using e
      | succ j => simpa [Addr.add] using e
    exact ⟨g, cap, rfl, hnc, key 0 _ rfl, key 1 _ rfl, key 2 _ rfl, key 3 _ rfl, key 4 _ rfl, key 5 _ rfl, key 6 _ rfl, (hl g rfl).2⟩
theorem PS.below' {p : Nat} {w w' w'' : World} {v u v' u' : Value} (h : PS p w v u w' v' u') (b : Below w'.heap.size w' w'') : PS p w v u w'' v' u' :=
  ⟨b.os.trans h.os, b.tape.trans h.tape, b.output.trans h.output, Nat.le_trans h.size b.size, fun g hg h0 h1 h2 => by
    obtain ⟨a, c, d⟩ := h.far g hg h0 h1 h2
    exact ⟨(b.block g (Nat.lt_of_lt_of_le hg h.size)).trans a, c, d⟩⟩
theorem Mk.later {w w' : World} {p : Nat} {v u : Value} {us is : List Value} (h : Mk w p v u us is) (b : Below w.heap.size w w') : Mk w' p v u us is := h.mov (.of_below b)
theorem Below.of_grown {w w' : World} (h : w.grownBy w' none) : Below w.heap.size w w' := ⟨h.os, h.tape, h.output, h.size, fun k hk => h.block k hk (by simp)⟩
/-- A block of one statement with one expression was read. -/
def BOk (p b o cap : Nat) (ts : List Tok) (w : World) (v u : Value) (us is : List Value) (a : Int) (kind : Int) (y : Sx.Ex) (k' : Nat) (e : Ending) (w' : World) : Prop :=
  ∃ g c sa u', e = .returned (.slice (some ⟨g, 0, none⟩) 1 c) ∧ 1 ≤ c ∧ S1 w' g kind (.slice sa 1 1) ∧ w.heap.size ≤ g ∧ ¬ v.ownBlock = some g ∧ ¬ u'.ownBlock = some g ∧ Mk w' p v u' us (is ++ [.int .i64 a]) ∧ PS p w v u w' v u' ∧ Rd w' p b o cap ts k' ∧ k' < ts.length ∧
    ExS (fun g => w.heap.size ≤ g ∧ ¬ v.ownBlock = some g ∧ ¬ u'.ownBlock = some g) w' (.slice sa 1 1) [y]
set_option maxRecDepth 100000 in
set_option maxHeartbeats 2000000 in
theorem block_print (w : World) (p b o cap : Nat) (ts : List Tok) (gd : Good ts) (f : Nat) (he : EC p b o cap ts f) (k d : Nat) (v u : Value) (us is : List Value) (y : Sx.Ex) (k' : Nat) (rd : Rd w p b o cap ts k) (hk : k < ts.length) (hm : Mk w p v u us is) (hbp : b < p) (hi2 : is.length + 1 ≤ 1000000) (hd : d ≤ 60) (h0 : Sx.tx ts k = [123]) (h1 : Sx.tx ts (k + 1) = [112, 114, 105, 110, 116])
    (hr : Sx.bd ts f 1 (d + 1) (k + 2) = some (.ok y k')) (h2 : Sx.tx ts k' = [59]) (h3 : Sx.tx ts (k' + 1) = [125]) :
    Calls Tryz.prog 123 #[.pointer (some ⟨p, 0, none⟩), .int .i64 (d : Int)] w (BOk p b o cap ts w v u us is (Sx.pl ts (k + 1)) 8 y (k' + 2)) := by
  have hk1 : k + 1 < ts.length := gd.next hk (fun e => by unfold Sx.tx at h0; rw [e] at h0; exact absurd h0 (by decide))
  have E1 : Hid _ := must_yes w p b o cap ts k _ [123] ⟨rd, hk, rfl⟩ gd.len h0
  have E2 : Hid (∀ W, Rd W p b o cap ts (k + 1) → Calls Tryz.prog 132 #[.pointer (some ⟨p, 0, none⟩), .string ⟨#[125]⟩] W fun e w' => e = .returned (.bool false) ∧ Below W.heap.size W w') := fun W hW => has_no W p b o cap ts (k + 1) _ [125] ⟨hW, hk1, rfl⟩ (fun e => by unfold Sx.tx at h1; rw [h1] at e; exact absurd e (by decide))
  have E3 : Hid (∀ W, Rd W p b o cap ts (k + 1) → Mk W p v u us is → Calls Tryz.prog 142 #[.pointer (some ⟨p, 0, none⟩), .int .i64 (d : Int)] W fun e w' => ∃ sa u', e = .returned (stV 8 (.slice sa 1 1)) ∧ Mk w' p v u' us (is ++ [.int .i64 (Sx.pl ts (k + 1))]) ∧ PS p W v u w' v u' ∧ Rd w' p b o cap ts (k' + 1) ∧ k' + 1 < ts.length ∧
      ExS (fun g => W.heap.size ≤ g ∧ ¬ v.ownBlock = some g ∧ ¬ u'.ownBlock = some g) w' (.slice sa 1 1) [y]) := fun W hW hM => stmt_print W p b o cap ts gd f he (k + 1) d (ts.getD (k + 1) tok0) v u us is y k' ⟨hW, hk1, rfl⟩ hM hbp hi2 hd h1 hr h2
  have E4 : Hid (∀ W, Rd W p b o cap ts (k' + 1) → k' + 1 < ts.length → (Calls Tryz.prog 132 #[.pointer (some ⟨p, 0, none⟩), .string ⟨#[125]⟩] W fun e w' => e = .returned (.bool true) ∧ Mov p W w' ∧ Rd w' p b o cap ts (k' + 2)) ∧ k' + 2 < ts.length) := fun W hW hl => ⟨has_yes W p b o cap ts (k' + 1) _ [125] ⟨hW, hl, rfl⟩ gd.len h3, gd.next hl (fun e => by unfold Sx.tx at h3; rw [e] at h3; exact absurd h3 (by decide))⟩
  have HM : Hid _ := hm
  obtain ⟨i0, hi, hz0, hz1, hz2⟩ := info_parts infoSt
  clear rd hk hm hbp hi2 hd h0 h1 hr h2 h3 gd he hk1
  go_enter Tryz.func123, Tryz.ntmps123
  go_wp2_with fail
  refine Calls.mono E1.out ?_
  rintro e w1 ⟨rfl, m1, r1⟩
  have M1 : Hid _ := m1
  have R1 : Hid _ := r1
  clear m1 r1
  go_wp2_with fail
  refine wp_loop_rounds 2 ?_
  rw [rounds_succ]
  go_wp2_with fail
  refine Calls.mono (E2.out _ R1.out) ?_
  rintro e w2 ⟨rfl, b2⟩
  have M2 : Hid _ := M1.out.below b2
  have R2 : Hid _ := R1.out.later b2
  clear b2
  go_wp2_with fail
  refine Calls.mono (E3.out _ R2.out (HM.out.mov M2.out)) ?_
  rintro e w3 ⟨sa, u', rfl, MK3, P3, r3, hl3, X3⟩
  have F3 : Hid _ := (⟨MK3, (PS.of_mov v u M2.out).trans P3, r3, hl3⟩ : Mk w3 p v u' us (is ++ [.int .i64 (Sx.pl ts (k + 1))]) ∧ PS p w v u w3 v u' ∧ Rd w3 p b o cap ts (k' + 1) ∧ k' + 1 < ts.length)
  have X3' : Hid _ := X3
  have Z2 : Hid (w.heap.size ≤ w2.heap.size) := M2.out.size
  have Z3 : Hid (w2.heap.size ≤ w3.heap.size) := P3.size
  clear MK3 P3 r3 hl3 X3
  unfold stV
  go_wp2_with (at_builtin; refine wpList_append_told rfl _ _ 90 rfl w3.heap.size 137 i0 (.agg #[.int .i64 0, .string ⟨#[]⟩, .string ⟨#[]⟩, .int .i64 0, .slice none 0 0, .slice none 0 0, .slice none 0 0]) 7 120 Tryz.underlying90 hi hz0 hz1 hz2 rfl (by decide) (.slice none 0 0) 0 [] rfl (World.ownsRow_nil _ _ _ _) ⟨w3.heap.size, 0, none⟩ 1 1 [.int .i64 8, .string ⟨#[]⟩, .string ⟨#[]⟩, .int .i64 0, .slice sa 1 1, .slice none 0 0, .slice none 0 0] rfl rfl (seven_cells _ _ _ _ _ _ _ _ _) (by intro x hx; simp at hx; rcases hx with rfl | rfl | rfl | rfl | rfl | rfl <;> rfl) (by decide) (by decide) (by simp) (by decide) ?_)
  intro l1 w4 h4 g4 _
  have h4' : w4.ownsRow w3.heap.size 137 7 l1 1 [.int .i64 8, .string ⟨#[]⟩, .string ⟨#[]⟩, .int .i64 0, .slice sa 1 1, .slice none 0 0, .slice none 0 0] := h4
  have B4 : Below w3.heap.size w3 w4 := (box_below w3 _).trans ((Below.of_grown g4).mono (by simp))
  obtain ⟨gb, cb, rfl, hcb, S4⟩ := S1.own h4'
  have hgb := (World.ownsRow.lt h4' gb rfl).1
  have F4 : Hid (Mk w4 p v u' us (is ++ [.int .i64 (Sx.pl ts (k + 1))]) ∧ PS p w v u w4 v u' ∧ Rd w4 p b o cap ts (k' + 1) ∧ k' + 1 < ts.length) := ⟨F3.out.1.later B4, F3.out.2.1.below' B4, F3.out.2.2.1.later B4, F3.out.2.2.2⟩
  have X4 : Hid (ExS (fun g => w.heap.size ≤ g ∧ ¬ v.ownBlock = some g ∧ ¬ u'.ownBlock = some g) w4 (.slice sa 1 1) [y]) := (X3'.out.later B4 (Nat.le_refl _)).mono fun g _ hg => ⟨Nat.le_trans Z2.out hg.1, hg.2⟩
  have G4 : Hid (S1 w4 gb 8 (.slice sa 1 1) ∧ 1 ≤ cb ∧ w.heap.size ≤ gb ∧ ¬ v.ownBlock = some gb ∧ ¬ u'.ownBlock = some gb) := ⟨S4, hcb, by have := Z2.out; have := Z3.out; omega, fun e => by have := (World.ownsRow.lt F3.out.1.ov _ e).2; omega, fun e => by have := (World.ownsRow.lt F3.out.1.ou _ e).2; omega⟩
  clear h4 h4' g4 B4 S4 hgb hcb F3 X3'
  go_wp2_with fail
  rw [rounds_succ]
  go_wp2_with fail
  refine Calls.mono (E4.out _ F4.out.2.2.1 F4.out.2.2.2).1 ?_
  rintro e w5 ⟨rfl, m5, r5⟩
  have HL5 := (E4.out _ F4.out.2.2.1 F4.out.2.2.2).2
  have PB : Hid (BOk p b o cap ts w v u us is (Sx.pl ts (k + 1)) 8 y (k' + 2) (.returned (.slice (some ⟨gb, 0, none⟩) 1 cb)) w5) := by
    obtain ⟨s4, q1, q2, q3, q4⟩ := G4.out
    have hp := F4.out.1.lt
    have hpw := HM.out.lt
    have e5 := m5.block gb s4.lt (by omega)
    refine ⟨gb, cb, sa, u', rfl, q1, ⟨(World.cell?_of_block (w := w4) (a := ⟨gb, 0, none⟩) e5).trans s4.c0, (World.cell?_of_block (w := w4) (a := ⟨gb, 1, none⟩) e5).trans s4.c1, (World.cell?_of_block (w := w4) (a := ⟨gb, 2, none⟩) e5).trans s4.c2, (World.cell?_of_block (w := w4) (a := ⟨gb, 3, none⟩) e5).trans s4.c3, (World.cell?_of_block (w := w4) (a := ⟨gb, 4, none⟩) e5).trans s4.c4, (World.cell?_of_block (w := w4) (a := ⟨gb, 5, none⟩) e5).trans s4.c5, (World.cell?_of_block (w := w4) (a := ⟨gb, 6, none⟩) e5).trans s4.c6, Nat.lt_of_lt_of_le s4.lt m5.size⟩, q2, q3, q4, F4.out.1.mov m5, F4.out.2.1.trans (PS.of_mov v u' m5), r5, HL5, X4.out.mov m5 (fun e => by omega)⟩
  clear m5 r5 HL5
  go_wp2_with fail
  go_ret
  exact PB.out
end Go.Proofs.YtlhklpnkelcnbaaGreatDoor

namespace Go.Proofs.YtlhklpnkelcnbaaGreatDoor
open Go.RowKit

/-- Marks of the procedures so far, in the slice v of slices. -/
structure Pv (w : World) (p : Nat) (v : Value) (us : List Value) : Prop where
  c2 : w.cell? ⟨p, 2, none⟩ = some v
  f2 : w.frozen? ⟨p, 2, none⟩ = false
  ov : w.ownsRow (p + 1) 173 1 v us.length us
  lt : p < w.heap.size
  bd : us.length + 1 ≤ 1000000
structure PV (p : Nat) (w : World) (v : Value) (w' : World) (v' u' : Value) : Prop where
  os : w'.os = w.os
  tape : w'.tape = w.tape
  output : w'.output = w.output
  size : w.heap.size ≤ w'.heap.size
  far : ∀ g, g < w.heap.size → g ≠ p → ¬ v.ownBlock = some g → w'.heap[g]? = w.heap[g]? ∧ ¬ v'.ownBlock = some g ∧ ¬ u'.ownBlock = some g
theorem PV.trans {p : Nat} {w w' w'' : World} {v v' v'' u' u'' : Value} (h : PV p w v w' v' u') (k : PS p w' v' u' w'' v'' u'') : PV p w v w'' v'' u'' :=
  ⟨k.os.trans h.os, k.tape.trans h.tape, k.output.trans h.output, Nat.le_trans h.size k.size, fun g hg h0 h1 => by
    obtain ⟨a, b, c⟩ := h.far g hg h0 h1
    obtain ⟨a', b', c'⟩ := k.far g (Nat.lt_of_lt_of_le hg h.size) h0 b c
    exact ⟨a'.trans a, b', c'⟩⟩
theorem Pv.later {w w' : World} {p : Nat} {v : Value} {us : List Value} (h : Pv w p v us) (b : Below w.heap.size w w') : Pv w' p v us :=
  ⟨(b.cell (p := ⟨p, 2, none⟩) h.lt).trans h.c2, (b.frozen (p := ⟨p, 2, none⟩) h.lt).trans h.f2, own_later h.ov b, Nat.lt_of_lt_of_le h.lt b.size, h.bd⟩
/-- A new procedure's marks are begun. -/
theorem Pv.begun {w W w1 : World} {p : Nat} {v v1 : Value} {us : List Value} {k b o cap : Nat} {ts : List Tok} (H : Pv w p v us) (RD : Rd w p b o cap ts k) (hbp : b < p) (bW : Below w.heap.size w W) (g1 : W.grownBy w1 v.ownBlock) (h1 : w1.ownsRow (p + 1) 173 1 v1 (us.length + 1) (us ++ [.slice none 0 0])) (o1 : v1.ownBlock = v.ownBlock ∨ ∃ g, v1.ownBlock = some g ∧ W.heap.size ≤ g) :
    Mk (w1.setCell ⟨p, 2, none⟩ v1) p v1 (.slice none 0 0) us [] ∧ PV p w v (w1.setCell ⟨p, 2, none⟩ v1) v1 (.slice none 0 0) ∧ Rd (w1.setCell ⟨p, 2, none⟩ v1) p b o cap ts k := by
  have hp := H.lt
  have hz := bW.size
  have hz1 := g1.size
  have hpv : some p ≠ v.ownBlock := fun e => by have := (World.ownsRow.lt H.ov _ e.symm).1; omega
  have hbv : some b ≠ v.ownBlock := fun e => by have := (World.ownsRow.lt H.ov _ e.symm).1; omega
  have kp : w1.heap[p]? = w.heap[p]? := (g1.block p (by omega) hpv).trans (bW.block p hp)
  have kb : (w1.setCell ⟨p, 2, none⟩ v1).heap[b]? = w.heap[b]? := (heap_setCell_other w1 _ b _ (by simp only; omega)).trans ((g1.block b (by have := RD.ta.lt; omega) hbv).trans (bW.block b RD.ta.lt))
  have cp : ∀ j, j ≠ 2 → (w1.setCell ⟨p, 2, none⟩ v1).cell? ⟨p, j, none⟩ = w.cell? ⟨p, j, none⟩ := fun j hj => (World.cell?_setCell_other _ _ _ _ (fun e => hj (congrArg Addr.off e).symm)).trans (World.cell?_of_block (w := w) (a := ⟨p, j, none⟩) kp)
  refine ⟨⟨World.cell?_setCell_same _ _ _ ((World.cell?_of_block (w := w) (a := ⟨p, 2, none⟩) kp).trans H.c2), by rw [World.frozen?_setCell]; exact (World.frozen?_of_block (w := w) (a := ⟨p, 2, none⟩) kp).trans H.f2, ownsRow_setCell_below h1 (by simp) _, World.ownsRow_nil _ _ _ _, fun g _ e => (by cases e), (by simp; omega), ⟨by have := H.bd; omega, by simp⟩⟩, ⟨g1.os.trans bW.os, g1.tape.trans bW.tape, g1.output.trans bW.output, by simp; omega, fun g hg h0 h2 => ⟨(heap_setCell_other w1 _ g _ h0).trans ((g1.block g (by omega) (fun e => h2 e.symm)).trans (bW.block g hg)), ?_, fun e => (by cases e)⟩⟩,
    ⟨(cp 0 (by omega)).trans RD.row, (cp 1 (by omega)).trans RD.nx, by rw [World.frozen?_setCell]; exact (World.frozen?_of_block (w := w) (a := ⟨p, 1, none⟩) kp).trans RD.fz, ⟨by have := RD.ta.lt; simp; omega, fun j hj => (World.cell?_of_block (w := w) (a := ⟨b, _, none⟩) kb).trans (RD.ta.c0 j hj), fun j hj => (World.cell?_of_block (w := w) (a := ⟨b, _, none⟩) kb).trans (RD.ta.c1 j hj), fun j hj => (World.cell?_of_block (w := w) (a := ⟨b, _, none⟩) kb).trans (RD.ta.c2 j hj), fun j hj => (World.cell?_of_block (w := w) (a := ⟨b, _, none⟩) kb).trans (RD.ta.c3 j hj)⟩, RD.ne, by have := RD.lt; simp; omega⟩⟩
  rcases o1 with e | ⟨g', e, hg'⟩
  · rw [e]; exact h2
  · rw [e]; intro e2; cases e2; omega
set_option maxRecDepth 100000 in
set_option maxHeartbeats 2000000 in
theorem proc_bad (w : World) (p b o cap : Nat) (ts : List Tok) (gd : Good ts) (k : Nat) (x : Tok) (v : Value) (us : List Value) (rd : Rd w p b o cap ts k) (hk : k < ts.length) (hv : Pv w p v us) (hbp : b < p) (h0 : Sx.tx ts k = [112, 114, 111, 99]) (h1 : (ts.getD (k + 1) tok0).1.kind = 1) (h2 : Sx.tx ts (k + 2) = [40]) (h3 : Sx.tx ts (k + 3) = [105, 110, 116]) (h4 : (ts.getD (k + 4) tok0).1.kind = 1) (h5 : Sx.tx ts (k + 5) = [44]) (h6 : ts.getD (k + 6) tok0 = x) (hs : ¬ x.1.text = [105, 110, 116]) (hs2 : ¬ x.1.text = [98, 111, 111, 108]) :
    Calls Tryz.prog 96 #[.pointer (some ⟨p, 0, none⟩)] w fun e w' => e = pan x.2 30 ∧ ∃ v' u', PV p w v w' v' u' := by
  have hk1 : k + 1 < ts.length := gd.next hk (fun e => by unfold Sx.tx at h0; rw [e] at h0; exact absurd h0 (by decide))
  have hk2 : k + 2 < ts.length := gd.next hk1 (fun e => by rw [e] at h1; exact absurd h1 (by decide))
  have E0 : Hid (∀ W, Rd W p b o cap ts k → Calls Tryz.prog 80 #[.pointer (some ⟨p, 0, none⟩)] W fun e w' => e = .returned (tokA (ts.getD k tok0)) ∧ Below W.heap.size W w') := fun W hW => now_any W p b o cap ts k _ ⟨hW, hk, rfl⟩
  obtain ⟨x0, hx0⟩ : ∃ x0, ts.getD k tok0 = x0 := ⟨_, rfl⟩
  rw [hx0] at E0
  have E1 : Hid (∀ W, Rd W p b o cap ts k → Calls Tryz.prog 107 #[.pointer (some ⟨p, 0, none⟩), .string ⟨#[112, 114, 111, 99]⟩] W fun e w' => e = .returned (.tuple #[]) ∧ Mov p W w' ∧ Rd w' p b o cap ts (k + 1)) := fun W hW => must_yes W p b o cap ts k _ [112, 114, 111, 99] ⟨hW, hk, rfl⟩ gd.len h0
  have E2 : Hid (∀ W, Rd W p b o cap ts (k + 1) → Calls Tryz.prog 119 #[.pointer (some ⟨p, 0, none⟩)] W fun e w' => (∃ nm : List UInt8, e = .returned (.string ⟨nm.toArray⟩)) ∧ Mov p W w' ∧ Rd w' p b o cap ts (k + 2)) := fun W hW => (name_ok W p b o cap ts (k + 1) _ ⟨hW, hk1, rfl⟩ gd.len h1).mono fun e w' h => ⟨⟨_, h.1⟩, h.2⟩
  have E3 : Hid (∀ W, Rd W p b o cap ts (k + 2) → Calls Tryz.prog 120 #[.pointer (some ⟨p, 0, none⟩)] W fun e w' => e = pan x.2 30 ∧ Mov p W w') := fun W hW => params_bad W p b o cap ts gd (k + 2) x hW hk2 h2 h3 h4 h5 h6 hs hs2
  have HV : Hid _ := hv
  have RDW : Hid _ := rd
  have HBP : Hid (b < p) := hbp
  obtain ⟨i0, hi, hz0, hz1, hz2⟩ := info_parts infoInts
  have c2 := hv.c2
  have f2 := hv.f2
  have hp := hv.lt
  have n2 : ¬ p = w.heap.size := by omega
  have BD : Hid (us.length + 1 ≤ 1000000) := hv.bd
  clear rd hk hv hbp h0 h1 h2 h3 h4 h5 h6 hs hs2 gd hk1 hk2 hx0
  go_enter Tryz.func96, Tryz.ntmps96
  go_wp2_with (at_builtin; refine wpList_append_told rfl _ _ 86 rfl (p + 1) 173 i0 (.slice none 0 0) 1 24 Tryz.underlying86 hi hz0 hz1 hz2 rfl (by decide) _ _ _ rfl (own_later HV.out.ov (by go_grown)) ⟨w.heap.size + 1, 0, none⟩ 1 1 [.slice none 0 0] rfl rfl ?c1 (by intro x hx; simp at hx; subst hx; rfl) (by have := BD.out; unfold maxLen; omega) (by have := BD.out; omega) (by simp; omega) (by decide) ?_)
  case c1 =>
    have e := one_cell_i (w.alloc (.cells #[.string ⟨#[]⟩, .slice none 0 0, .int .i64 0, .slice none 0 0] 92)) (.slice none 0 0) 173
    rw [World.size_alloc] at e
    exact e
  intro v1 w1 g1h g1 o1
  have hpv : some p ≠ v.ownBlock := fun e => by have := (World.ownsRow.lt HV.out.ov _ e.symm).1; omega
  have kp := g1.block p (by simp; omega) hpv
  have c2' : w1.cell? ⟨p, 2, none⟩ = some v := (World.cell?_of_block kp).trans (by simp [go_sem, c2, hp])
  have f2' : w1.frozen? ⟨p, 2, none⟩ = false := (World.frozen?_of_block kp).trans (by simp [go_sem, f2, hp])
  have PB := HV.out.begun RDW.out HBP.out (by go_grown) g1 g1h (by simpa using o1)
  have B0 : Hid _ := PB
  obtain ⟨ao, cv, hv1⟩ := own_shape g1h
  clear PB g1h g1 o1 kp hpv
  subst hv1
  go_wp2_with fail
  generalize w1.setCell ⟨p, 2, none⟩ (.slice ao (us.length + 1) cv) = W2 at *
  obtain ⟨MK, P0, R0⟩ := B0.out
  refine Calls.mono (E0.out _ R0) ?_
  rintro e w3 ⟨rfl, b3⟩
  unfold tokA
  have kf := fldA
  have MK3 : Hid _ := MK.later b3
  have P3 : Hid _ := P0.trans (PS.of_below _ _ b3)
  have R3 : Hid _ := R0.later b3
  clear MK P0 R0 b3 B0
  go_wp2_with fail
  refine (mark_any p _ _ us [] x0.2 w3 MK3.out (by simp)).mono ?_
  rintro e w4 ⟨rfl, u4, MK4, P4, hp4⟩
  have P4' : Hid _ := P3.out.trans P4
  have R4 : Hid (Rd w4 p b o cap ts k) := R3.out.ps P4 hp4 ⟨fun e => by have := (World.ownsRow.lt MK3.out.ov _ e).1; have := HBP.out; omega, fun e => by cases e⟩
  clear MK4 P4 hp4
  go_wp2_with fail
  refine Calls.mono (E1.out _ R4.out) ?_
  rintro e w5 ⟨rfl, m5, r5⟩
  have P5 : Hid _ := P4'.out.trans (PS.of_mov _ _ m5)
  have R5 : Hid _ := r5
  clear m5 r5
  go_wp2_with fail
  refine Calls.mono (E2.out _ R5.out) ?_
  rintro e w6 ⟨⟨nm, rfl⟩, m6, r6⟩
  have P6 : Hid _ := P5.out.trans (PS.of_mov _ _ m6)
  have R6 : Hid _ := r6
  clear m6 r6
  go_wp2_with fail
  refine Calls.mono (E3.out _ (R6.out.later (box_below _ _))) ?_
  rintro e w7 ⟨rfl, m7⟩
  exact ⟨rfl, rfl, _, _, (P6.out.trans (PS.of_below _ _ (box_below _ _))).trans (PS.of_mov _ _ m7)⟩
end Go.Proofs.YtlhklpnkelcnbaaGreatDoor

namespace Go.Proofs.YtlhklpnkelcnbaaGreatDoor
open Go.RowKit

theorem PV.from {p : Nat} {w w0 w' : World} {v v' u' : Value} (h : PV p w0 v w' v' u') (b : Below w.heap.size w w0) : PV p w v w' v' u' :=
  ⟨h.os.trans b.os, h.tape.trans b.tape, h.output.trans b.output, Nat.le_trans b.size h.size, fun g hg h0 h1 => by
    obtain ⟨a, c, d⟩ := h.far g (Nat.lt_of_lt_of_le hg b.size) h0 h1
    exact ⟨a.trans (b.block g hg), c, d⟩⟩
theorem Mk.pv {w : World} {p : Nat} {v u : Value} {us is : List Value} (h : Mk w p v u us is) (hb : us.length + 2 ≤ 1000000) : Pv w p v (us ++ [u]) :=
  ⟨h.c2, h.f2, by rw [List.length_append]; exact h.ov, h.lt, by simp; omega⟩
theorem S1.kept {w w' : World} {g : Nat} {kind : Int} {sl : Value} (h : S1 w g kind sl) (e : w'.heap[g]? = w.heap[g]?) (hz : w.heap.size ≤ w'.heap.size) : S1 w' g kind sl :=
  ⟨(World.cell?_of_block (w := w) e).trans h.c0, (World.cell?_of_block (w := w) e).trans h.c1, (World.cell?_of_block (w := w) e).trans h.c2, (World.cell?_of_block (w := w) e).trans h.c3, (World.cell?_of_block (w := w) e).trans h.c4, (World.cell?_of_block (w := w) e).trans h.c5, (World.cell?_of_block (w := w) e).trans h.c6, Nat.lt_of_lt_of_le h.lt hz⟩
theorem set_grown (w : World) (a : Addr) (x : Value) : w.grownBy (w.setCell a x) (some a.block) := ⟨rfl, rfl, rfl, by simp, fun k _ hn => heap_setCell_other w _ k _ (fun e => hn (by rw [e]))⟩
theorem Rd.kept {w w' : World} {p b o cap : Nat} {ts : List Tok} {k r : Nat} (h : Rd w p b o cap ts k) (hg : w.grownBy w' (some r)) (hp : r ≠ p) (hb : r ≠ b) : Rd w' p b o cap ts k := by
  have ep := hg.block p h.lt (fun e => hp (Option.some.inj e).symm)
  have eb := hg.block b h.ta.lt (fun e => hb (Option.some.inj e).symm)
  exact ⟨(World.cell?_of_block (w := w) (a := ⟨p, 0, none⟩) ep).trans h.row, (World.cell?_of_block (w := w) (a := ⟨p, 1, none⟩) ep).trans h.nx, (World.frozen?_of_block (w := w) (a := ⟨p, 1, none⟩) ep).trans h.fz,
    ⟨Nat.lt_of_lt_of_le h.ta.lt hg.size, fun j hj => (World.cell?_of_block (w := w) (a := ⟨b, _, none⟩) eb).trans (h.ta.c0 j hj), fun j hj => (World.cell?_of_block (w := w) (a := ⟨b, _, none⟩) eb).trans (h.ta.c1 j hj), fun j hj => (World.cell?_of_block (w := w) (a := ⟨b, _, none⟩) eb).trans (h.ta.c2 j hj), fun j hj => (World.cell?_of_block (w := w) (a := ⟨b, _, none⟩) eb).trans (h.ta.c3 j hj)⟩, h.ne, Nat.lt_of_lt_of_le h.lt hg.size⟩
theorem fill_grown (w : World) (g : Nat) (a0 a1 a2 a3 : Value) : w.grownBy (fill w g a0 a1 a2 a3) (some g) :=
  ⟨by unfold fill; simp [World.setCell], by unfold fill; simp [World.setCell], by unfold fill; simp [World.setCell], by rw [fill_size]; exact Nat.le_refl _, fun k _ hn => fill_other w g k _ _ _ _ (fun e => hn (by rw [e]))⟩
theorem PV.grown {p : Nat} {w w' w'' : World} {v v' u' : Value} (h : PV p w v w' v' u') {r : Nat} (hg : w'.grownBy w'' (some r)) (hr : w.heap.size ≤ r) : PV p w v w'' v' u' :=
  ⟨hg.os.trans h.os, hg.tape.trans h.tape, hg.output.trans h.output, Nat.le_trans h.size hg.size, fun g hg' h0 h1 => by
    obtain ⟨a, b, c⟩ := h.far g hg' h0 h1
    exact ⟨(hg.block g (Nat.lt_of_lt_of_le hg' h.size) (fun e => by have := Option.some.inj e; omega)).trans a, b, c⟩⟩
/-- A procedure was read. -/
def POk (p b o cap : Nat) (ts : List Tok) (w : World) (v : Value) (us : List Value) (nm : List UInt8) (y : Sx.Ex) (k' : Nat) (e : Ending) (w' : World) : Prop :=
  ∃ g c sa v' u', e = .returned (.agg #[.string ⟨nm.toArray⟩, .slice none 0 0, .int .i64 0, .slice (some ⟨g, 0, none⟩) 1 c]) ∧ 1 ≤ c ∧ S1 w' g 8 (.slice sa 1 1) ∧ w.heap.size ≤ g ∧ ¬ v'.ownBlock = some g ∧ ¬ u'.ownBlock = some g ∧ Pv w' p v' (us ++ [u']) ∧ PV p w v w' v' u' ∧ Rd w' p b o cap ts k' ∧ k' < ts.length ∧
    ExS (fun g => w.heap.size ≤ g ∧ ¬ v'.ownBlock = some g ∧ ¬ u'.ownBlock = some g) w' (.slice sa 1 1) [y]
set_option maxRecDepth 100000 in
set_option maxHeartbeats 4000000 in
theorem proc_print (w : World) (p b o cap : Nat) (ts : List Tok) (gd : Good ts) (f : Nat) (he : EC p b o cap ts f) (k : Nat) (v : Value) (us : List Value) (y : Sx.Ex) (k' j : Nat) (nm : List UInt8) (rd : Rd w p b o cap ts k) (hk : k < ts.length) (hv : Pv w p v us) (hb2 : us.length + 2 ≤ 1000000) (hbp : b < p) (h0 : Sx.tx ts k = [112, 114, 111, 99]) (h1 : (ts.getD (k + 1) tok0).1.kind = 1) (hnm : Sx.tx ts (k + 1) = nm) (h2 : Sx.tx ts (k + 2) = [40]) (h3 : Sx.tx ts (k + 3) = [41]) (h4 : Sx.tx ts (k + 4) = [123]) (h5 : Sx.tx ts (k + 5) = [112, 114, 105, 110, 116])
    (hr : Sx.bd ts f 1 2 (k + 6) = some (.ok y k')) (h6 : Sx.tx ts k' = [59]) (hj : k' + 1 = j) (h7 : Sx.tx ts j = [125]) :
    Calls Tryz.prog 96 #[.pointer (some ⟨p, 0, none⟩)] w (POk p b o cap ts w v us nm y (j + 1)) := by
  have hk1 : k + 1 < ts.length := gd.next hk (fun e => by unfold Sx.tx at h0; rw [e] at h0; exact absurd h0 (by decide))
  have hk2 : k + 2 < ts.length := gd.next hk1 (fun e => by rw [e] at h1; exact absurd h1 (by decide))
  have hk3 : k + 3 < ts.length := gd.next hk2 (fun e => by unfold Sx.tx at h2; rw [e] at h2; exact absurd h2 (by decide))
  have hk4 : k + 4 < ts.length := gd.next hk3 (fun e => by unfold Sx.tx at h3; rw [e] at h3; exact absurd h3 (by decide))
  have E0 : Hid (∀ W, Rd W p b o cap ts k → Calls Tryz.prog 80 #[.pointer (some ⟨p, 0, none⟩)] W fun e w' => e = .returned (tokA (ts.getD k tok0)) ∧ Below W.heap.size W w') := fun W hW => now_any W p b o cap ts k _ ⟨hW, hk, rfl⟩
  obtain ⟨x0, hx0⟩ : ∃ x0, ts.getD k tok0 = x0 := ⟨_, rfl⟩
  rw [hx0] at E0
  have E1 : Hid (∀ W, Rd W p b o cap ts k → Calls Tryz.prog 107 #[.pointer (some ⟨p, 0, none⟩), .string ⟨#[112, 114, 111, 99]⟩] W fun e w' => e = .returned (.tuple #[]) ∧ Mov p W w' ∧ Rd w' p b o cap ts (k + 1)) := fun W hW => must_yes W p b o cap ts k _ [112, 114, 111, 99] ⟨hW, hk, rfl⟩ gd.len h0
  have E2 : Hid (∀ W, Rd W p b o cap ts (k + 1) → Calls Tryz.prog 119 #[.pointer (some ⟨p, 0, none⟩)] W fun e w' => e = .returned (.string ⟨nm.toArray⟩) ∧ Mov p W w' ∧ Rd w' p b o cap ts (k + 2)) := fun W hW => by
    have e := name_ok W p b o cap ts (k + 1) _ ⟨hW, hk1, rfl⟩ gd.len h1
    unfold Sx.tx at hnm
    rw [hnm] at e
    exact e
  have E3 : Hid (∀ W, Rd W p b o cap ts (k + 2) → Calls Tryz.prog 120 #[.pointer (some ⟨p, 0, none⟩)] W fun e w' => e = .returned (.slice none 0 0) ∧ Rd w' p b o cap ts (k + 4) ∧ k + 4 < ts.length ∧ Mov p W w') := fun W hW => params_none W p b o cap ts gd (k + 2) hW hk2 h2 h3
  have E4 : Hid (∀ W, Rd W p b o cap ts (k + 4) → Calls Tryz.prog 121 #[.pointer (some ⟨p, 0, none⟩), .string ⟨#[123]⟩] W fun e w' => e = .returned (.bool true) ∧ Below W.heap.size W w') := fun W hW => (is_any W p b o cap ts (k + 4) _ [123] ⟨hW, hk4, rfl⟩).mono fun e w' h => ⟨h.1.trans (by unfold Sx.tx at h4; rw [h4]; rfl), h.2⟩
  have E5 : Hid (∀ W v1 u1 is1, Rd W p b o cap ts (k + 4) → Mk W p v1 u1 us is1 → is1.length + 1 ≤ 1000000 → Calls Tryz.prog 123 #[.pointer (some ⟨p, 0, none⟩), .int .i64 1] W (BOk p b o cap ts W v1 u1 us is1 (Sx.pl ts (k + 5)) 8 y (j + 1))) := fun W v1 u1 is1 hW hM hl => by
    have e := block_print W p b o cap ts gd f he (k + 4) 1 v1 u1 us is1 y k' hW hk4 hM hbp hl (by omega) h4 h5 hr h6 (by rw [hj]; exact h7)
    rw [show k' + 2 = j + 1 by omega] at e
    exact e
  have HV : Hid _ := hv
  have RDW : Hid _ := rd
  have HBP : Hid (b < p) := hbp
  have HB2 : Hid (us.length + 2 ≤ 1000000) := hb2
  obtain ⟨i0, hi, hz0, hz1, hz2⟩ := info_parts infoInts
  have c2 := hv.c2
  have f2 := hv.f2
  have hp := hv.lt
  have n2 : ¬ p = w.heap.size := by omega
  have BD : Hid (us.length + 1 ≤ 1000000) := hv.bd
  have GL : Hid (ts.length ≤ 1000000) := gd.len
  clear rd hk hv hbp h0 h1 h2 h3 h4 h5 h6 h7 hr gd hk1 hk2 hk3 hk4 hx0 hnm hb2 he hj
  go_enter Tryz.func96, Tryz.ntmps96
  go_wp2_with (at_builtin; refine wpList_append_told rfl _ _ 86 rfl (p + 1) 173 i0 (.slice none 0 0) 1 24 Tryz.underlying86 hi hz0 hz1 hz2 rfl (by decide) _ _ _ rfl (own_later HV.out.ov (by go_grown)) ⟨w.heap.size + 1, 0, none⟩ 1 1 [.slice none 0 0] rfl rfl ?c1 (by intro x hx; simp at hx; subst hx; rfl) (by have := BD.out; unfold maxLen; omega) (by have := BD.out; omega) (by simp; omega) (by decide) ?_)
  case c1 =>
    have e := one_cell_i (w.alloc (.cells #[.string ⟨#[]⟩, .slice none 0 0, .int .i64 0, .slice none 0 0] 92)) (.slice none 0 0) 173
    rw [World.size_alloc] at e
    exact e
  intro v1 w1 g1h g1 o1
  have hpv : some p ≠ v.ownBlock := fun e => by have := (World.ownsRow.lt HV.out.ov _ e.symm).1; omega
  have kp := g1.block p (by simp; omega) hpv
  have c2' : w1.cell? ⟨p, 2, none⟩ = some v := (World.cell?_of_block kp).trans (by simp [go_sem, c2, hp])
  have f2' : w1.frozen? ⟨p, 2, none⟩ = false := (World.frozen?_of_block kp).trans (by simp [go_sem, f2, hp])
  have b0 := box_below w (.cells #[.string ⟨#[]⟩, .slice none 0 0, .int .i64 0, .slice none 0 0] 92)
  have PB := (HV.out.later b0).begun (RDW.out.later b0) HBP.out (by go_grown) g1 g1h (by simpa using o1)
  have BX0 : Hid _ := (Bx.new w 92 (.string ⟨#[]⟩) (.slice none 0 0) (.int .i64 0) (.slice none 0 0)).kept (PB.2.1.far w.heap.size (by simp) (by omega) (fun e => by have := (World.ownsRow.lt HV.out.ov _ e).2; omega)).1 PB.2.1.size
  have N0 : Hid _ := (PB.2.1.far w.heap.size (by simp) (by omega) (fun e => by have := (World.ownsRow.lt HV.out.ov _ e).2; omega)).2
  have PVW : Hid _ := PB.2.1.from b0
  have B0 : Hid _ := (⟨PB.1, PB.2.2⟩ : _ ∧ _)
  obtain ⟨ao, cv, hv1⟩ := own_shape g1h
  clear PB g1h g1 o1 kp hpv b0
  subst hv1
  go_wp2_with fail
  generalize w1.setCell ⟨p, 2, none⟩ (.slice ao (us.length + 1) cv) = W2 at *
  obtain ⟨MK, R0⟩ := B0.out
  refine Calls.mono (E0.out _ R0) ?_
  rintro e w3 ⟨rfl, b3⟩
  unfold tokA
  have kf := fldA
  have MK3 : Hid _ := MK.later b3
  have P3 : Hid _ := PS.of_below (p := p) (.slice ao (us.length + 1) cv) (.slice none 0 0) b3
  have R3 : Hid _ := R0.later b3
  clear MK R0 b3 B0
  go_wp2_with fail
  refine (mark_any p _ _ us [] x0.2 w3 MK3.out (by simp)).mono ?_
  rintro e w4 ⟨rfl, u4, MK4, P4, hp4⟩
  have P4' : Hid _ := P3.out.trans P4
  have R4 : Hid (Rd w4 p b o cap ts k) := R3.out.ps P4 hp4 ⟨fun e => by have := (World.ownsRow.lt MK3.out.ov _ e).1; have := HBP.out; omega, fun e => by cases e⟩
  have MK4' : Hid _ := MK4
  clear MK4 P4 hp4
  go_wp2_with fail
  refine Calls.mono (E1.out _ R4.out) ?_
  rintro e w5 ⟨rfl, m5, r5⟩
  have P5 : Hid _ := P4'.out.trans (PS.of_mov _ _ m5)
  have MK5 : Hid _ := MK4'.out.mov m5
  have R5 : Hid _ := r5
  clear m5 r5
  go_wp2_with fail
  refine Calls.mono (E2.out _ R5.out) ?_
  rintro e w6 ⟨rfl, m6, r6⟩
  have P6 : Hid _ := P5.out.trans (PS.of_mov _ _ m6)
  have MK6 : Hid _ := MK5.out.mov m6
  have R6 : Hid _ := r6
  clear m6 r6
  go_wp2_with fail
  refine Calls.mono (E3.out _ (R6.out.later (box_below _ _))) ?_
  rintro e w7 ⟨rfl, r7, hl7, m7⟩
  have hpw6 : Hid (p < w6.heap.size) := MK6.out.lt
  have hgp : Hid (w6.heap.size ≠ p) := by have := hpw6.out; unfold Hid; omega
  have hgb : Hid (w6.heap.size ≠ b) := by have := R6.out.ta.lt; unfold Hid; omega
  have vo6 : Hid (¬ (Value.slice ao (us.length + 1) cv).ownBlock = some w6.heap.size ∧ ¬ u4.ownBlock = some w6.heap.size) := ⟨fun e => by have := (World.ownsRow.lt MK6.out.ov _ e).2; omega, fun e => by have := (World.ownsRow.lt MK6.out.ou _ e).2; omega⟩
  have bq7 := (Bx.new w6 92 (.string ⟨nm.toArray⟩) (.slice none 0 0) (.int .i64 0) (.slice none 0 0)).kept (m7.block _ (by simp) hgp.out) m7.size
  have P7 : Hid _ := (P6.out.below' (box_below w6 (.cells #[.string ⟨nm.toArray⟩, .slice none 0 0, .int .i64 0, .slice none 0 0] 92))).trans (PS.of_mov _ _ m7)
  have MK7 : Hid _ := (MK6.out.later (box_below w6 (.cells #[.string ⟨nm.toArray⟩, .slice none 0 0, .int .i64 0, .slice none 0 0] 92))).mov m7
  have Z7 : Hid (w6.heap.size < w7.heap.size) := bq7.lt
  have W26 : Hid (W2.heap.size ≤ w6.heap.size) := P6.out.size
  have R7 : Hid _ := r7
  have BQ7 : Hid _ := bq7
  obtain ⟨a0, a1, a2, a3, e0, e1, e2, e3, zq⟩ := bq7
  clear r7 hl7 m7
  go_wp2_with fail
  refine Calls.mono (E4.out _ (R7.out.kept (set_grown w7 ⟨w6.heap.size, 1, none⟩ (.slice none 0 0)) hgp.out hgb.out)) ?_
  rintro e w8 ⟨rfl, b8⟩
  have g7 := set_grown w7 ⟨w6.heap.size, 1, none⟩ (.slice none 0 0)
  have bq7' : Bx (w7.setCell ⟨w6.heap.size, 1, none⟩ (.slice none 0 0)) w6.heap.size (.string ⟨nm.toArray⟩) (.slice none 0 0) (.int .i64 0) (.slice none 0 0) := by
    constructor <;> simp [a0, a1, a2, a3, e0, e1, e2, e3, zq, go_sem]
  have BQ8 : Hid _ := bq7'.later b8 bq7'.lt
  have MK8 : Hid _ := (MK7.out.kept g7 hgp.out vo6.out.1 vo6.out.2).later b8
  have R8 : Hid _ := (R7.out.kept g7 hgp.out hgb.out).later b8
  have P8 : Hid _ := (P7.out.grown g7 W26.out).below' b8
  have Z8 : Hid (w7.heap.size ≤ w8.heap.size) := by have := b8.size; unfold Hid; simpa using this
  clear b8 g7 bq7' a0 a1 a2 a3 e0 e1 e2 e3 zq
  go_wp2_with fail
  refine Calls.mono (E5.out w8 _ _ _ R8.out MK8.out (by simp)) ?_
  rintro e w9 ⟨gb, cb, sa, u9, rfl, hcb, S9, hgb9, hv9, hu9, MK9, P9, r9, hl9, X9⟩
  have k9 := P9.far w6.heap.size (by have := Z7.out; have := Z8.out; omega) hgp.out vo6.out.1 vo6.out.2
  have bq9 := BQ8.out.kept k9.1 P9.size
  have MK9' : Hid _ := MK9
  have P9' : Hid _ := P8.out.trans P9
  have K9 : Hid _ := k9.2
  have R9 : Hid _ := r9
  have G9 : Hid (1 ≤ cb ∧ S1 w9 gb 8 (.slice sa 1 1) ∧ w8.heap.size ≤ gb ∧ ¬ u9.ownBlock = some gb ∧ j + 1 < ts.length) := ⟨hcb, S9, hgb9, hu9, hl9⟩
  have HV9 : Hid (¬ (Value.slice ao (us.length + 1) cv).ownBlock = some gb) := hv9
  have X9' : Hid _ := X9
  obtain ⟨a0, a1, a2, a3, e0, e1, e2, e3, zq⟩ := bq9
  clear MK9 P9 r9 hl9 X9 S9 hgb9 hv9 hu9 hcb k9
  go_upto_region 9 with fail
  have g9 := set_grown w9 ⟨w6.heap.size, 3, none⟩ (.slice (some ⟨gb, 0, none⟩) 1 cb)
  have bqa : Bx (w9.setCell ⟨w6.heap.size, 3, none⟩ (.slice (some ⟨gb, 0, none⟩) 1 cb)) w6.heap.size (.string ⟨nm.toArray⟩) (.slice none 0 0) (.int .i64 0) (.slice (some ⟨gb, 0, none⟩) 1 cb) := by
    constructor <;> simp [a0, a1, a2, a3, e0, e1, e2, e3, zq, go_sem]
  have MKa := MK9'.out.kept g9 hgp.out K9.out.1 K9.out.2
  have Ra := R9.out.kept g9 hgp.out hgb.out
  have Pa := P9'.out.grown g9 W26.out
  have hgq : gb ≠ w6.heap.size := by have := G9.out.2.2.1; have := Z7.out; have := Z8.out; omega
  have Sa := G9.out.2.1.kept (g9.block gb G9.out.2.1.lt (fun e => hgq (Option.some.inj e))) g9.size
  have Xa := X9'.out.set (a := ⟨w6.heap.size, 3, none⟩) (fun e => by have := e.1; have := Z7.out; have := Z8.out; simp only at *; omega) (.slice (some ⟨gb, 0, none⟩) 1 cb)
  have zw9 : w9.heap.size = (w9.setCell ⟨w6.heap.size, 3, none⟩ (.slice (some ⟨gb, 0, none⟩) 1 cb)).heap.size := by simp
  clear g9 a0 a1 a2 a3 e0 e1 e2 e3 zq
  generalize w9.setCell ⟨w6.heap.size, 3, none⟩ (.slice (some ⟨gb, 0, none⟩) 1 cb) = W9 at *
  have hj1 := G9.out.2.2.2.2
  have hjl : j < ts.length := by omega
  have r0 := Ra.row
  have r1 := Ra.nx
  have t3 := Ra.ta.c3 j hjl
  obtain ⟨at3, hat3⟩ : ∃ a, (ts.getD j tok0).2 = a := ⟨_, rfl⟩
  rw [hat3] at t3
  have hwj : IntKind.i64.wrap (j : Int) = (j : Int) := by have := GL.out; rw [IntKind.wrap_i64]; omega
  have MKA : Hid _ := MKa
  have RA : Hid _ := Ra
  have PA : Hid _ := Pa
  have SA : Hid _ := Sa
  have XA : Hid _ := Xa
  have BQA : Hid _ := bqa
  have HJ1 : Hid (j + 1 < ts.length) := hj1
  clear MKa Ra Pa Sa Xa bqa hat3 hj1 hgq
  have E9 : Hid (∀ W, Below W9.heap.size W9 W → Calls Tryz.prog 118 #[.pointer (some ⟨p, 0, none⟩), .int .i64 at3] W fun e w' => e = .returned (.tuple #[]) ∧ ∃ u', Mk w' p (.slice ao (us.length + 1) cv) u' us (_ ++ [.int .i64 at3]) ∧ PS p W (.slice ao (us.length + 1) cv) u9 w' (.slice ao (us.length + 1) cv) u' ∧ w'.heap[p]? = W.heap[p]?) := fun W hW => mark_any p _ _ us _ at3 W (MKA.out.later hW) (by simp)
  go_cut [] from 47 (fun wc => ∃ u' is', Mk wc p (.slice ao (us.length + 1) cv) u' us is' ∧ PS p W9 (.slice ao (us.length + 1) cv) u9 wc (.slice ao (us.length + 1) cv) u' ∧ wc.heap[p]? = W9.heap[p]?)
  case first =>
    go_region_with (first
      | (go_at_call 118; refine (E9.out _ ?_).mono ?_; go_grown; rintro e wc ⟨rfl, u', MKc, Pc, hpc⟩))
    all_goals (go_wp2_with fail; go_meet; case rel => exact ⟨u', _, MKc, (PS.of_below _ _ (by go_grown)).trans Pc, hpc⟩)
  case rest =>
    obtain ⟨u', is', MKc, Pc, hpc⟩ := hcut
    have PQ := PA.out.trans Pc
    have z2 : Hid (W9.heap.size ≤ wc.heap.size) := Pc.size
    have kq := Pc.far w6.heap.size (by have := BQA.out.lt; omega) hgp.out K9.out.1 K9.out.2
    have kr := PQ.far w.heap.size BX0.out.lt (by omega) N0.out.1 N0.out.2
    have bqc := BQA.out.kept kq.1 Pc.size
    have brc := BX0.out.kept kr.1 PQ.size
    have kg := Pc.far gb SA.out.lt (by have := G9.out.2.2.1; have := Z7.out; have := Z8.out; have := hpw6.out; omega) HV9.out G9.out.2.2.2.1
    have Sc := SA.out.kept kg.1 Pc.size
    have Rc : Rd wc p b o cap ts (j + 1) := RA.out.ps Pc hpc ⟨fun e => by have := (World.ownsRow.lt MKA.out.ov _ e).1; have := HBP.out; omega, fun e => by have := (World.ownsRow.lt MKA.out.ou _ e).1; have := HBP.out; omega⟩
    have zz : w.heap.size < w6.heap.size := Nat.lt_of_lt_of_le BX0.out.lt W26.out
    have nq : ¬ w6.heap.size = w.heap.size := by omega
    have nq' : ¬ w.heap.size = w6.heap.size := by omega
    have Xc : ExS (fun g => w8.heap.size ≤ g ∧ ¬ (Value.slice ao (us.length + 1) cv).ownBlock = some g ∧ ¬ u'.ownBlock = some g) wc (.slice sa 1 1) [y] :=
      XA.out.keep (fun g hg ha => ⟨ha.1, (Pc.far g hg (by have := ha.1; have := Z7.out; have := Z8.out; have := hpw6.out; omega) ha.2.1 ha.2.2).2⟩) (fun q ha hq => World.cell?_of_block (w := W9) (Pc.far q.block hq (by have := ha.1; have := Z7.out; have := Z8.out; have := hpw6.out; omega) ha.2.1 ha.2.2).1) Pc.size
    have gR := fill_grown wc w.heap.size (.string ⟨nm.toArray⟩) (.slice none 0 0) (.int .i64 0) (.slice (some ⟨gb, 0, none⟩) 1 cb)
    have hbw : w.heap.size ≠ b := by have := RDW.out.ta.lt; omega
    have PB : Hid (POk p b o cap ts w v us nm y (j + 1) (.returned (.agg #[.string ⟨nm.toArray⟩, .slice none 0 0, .int .i64 0, .slice (some ⟨gb, 0, none⟩) 1 cb])) (fill wc w.heap.size (.string ⟨nm.toArray⟩) (.slice none 0 0) (.int .i64 0) (.slice (some ⟨gb, 0, none⟩) 1 cb))) := by
      have hgw : w.heap.size ≤ gb ∧ gb ≠ w.heap.size := by have := G9.out.2.2.1; have := Z7.out; have := Z8.out; omega
      refine ⟨gb, cb, sa, _, u', rfl, G9.out.1, Sc.kept (gR.block gb Sc.lt (fun e => hgw.2 (Option.some.inj e))) gR.size, hgw.1, kg.2.1, kg.2.2, (MKc.kept gR (by omega) kr.2.1 kr.2.2).pv HB2.out, (PVW.out.trans PQ).grown gR (Nat.le_refl _), Rc.kept gR (by omega) hbw, HJ1.out, ?_⟩
      exact (Xc.fill (g := w.heap.size) (fun e => by have := e.1; have := Z7.out; have := Z8.out; omega) _ _ _ _).mono fun g _ hg => ⟨by have := hg.1; have := Z7.out; have := Z8.out; omega, hg.2⟩
    obtain ⟨a0, a1, a2, a3, -, -, -, -, zq⟩ := bqc
    obtain ⟨d0, d1, d2, d3, e0, e1, e2, e3, zr⟩ := brc
    clear MKc Pc hpc PQ kq kr kg Sc Rc Xc gR r0 r1 t3
    go_wp2_with fail
    refine bodyPost_ret (v := .agg #[.string ⟨nm.toArray⟩, .slice none 0 0, .int .i64 0, .slice (some ⟨gb, 0, none⟩) 1 cb]) (by simp [results, Tryz.results96, go_sem, d0, d1, d2, d3]) rfl ?_
    exact PB.out
end Go.Proofs.YtlhklpnkelcnbaaGreatDoor

namespace Go.Proofs.YtlhklpnkelcnbaaGreatDoor
open Go.RowKit

theorem infoPc : (Tryz.prog.info? 92).map (fun i => (i.zero, i.size, i.bytes)) = some (some (.agg #[.string ⟨#[]⟩, .slice none 0 0, .int .i64 0, .slice none 0 0]), 4, 72) := by kernel_rfl
theorem fldK (a0 a1 a2 a3 : Value) (w : World) : (Instr.field 50 (.agg #[a0, a1, a2, a3]) 0).run Tryz.prog w = .ok a0 w := by kernel_rfl
/-- A box of one cell. -/
structure B1 (w : World) (g : Nat) (a : Value) : Prop where
  c : w.cell? ⟨g, 0, none⟩ = some a
  f : w.frozen? ⟨g, 0, none⟩ = false
  lt : g < w.heap.size
theorem B1.kept {w w' : World} {g : Nat} {a : Value} (h : B1 w g a) (e : w'.heap[g]? = w.heap[g]?) (hz : w.heap.size ≤ w'.heap.size) : B1 w' g a :=
  ⟨(World.cell?_of_block (w := w) (a := ⟨g, 0, none⟩) e).trans h.c, (World.frozen?_of_block (w := w) (a := ⟨g, 0, none⟩) e).trans h.f, Nat.lt_of_lt_of_le h.lt hz⟩
theorem B1.new (w : World) (t : TypeId) (a : Value) : B1 (w.alloc (.cells #[a] t)) w.heap.size a := ⟨by simp [go_sem], World.frozen?_alloc_at _ _ _ _ rfl, by simp⟩
theorem Pv.mov {w w' : World} {p : Nat} {v : Value} {us : List Value} (h : Pv w p v us) (m : Mov p w w') : Pv w' p v us := by
  have hg : w.grownBy w' (some p) := ⟨m.os, m.tape, m.output, m.size, fun k hk hn => m.block k hk (fun e => hn (by rw [e]))⟩
  have hv : v.ownBlock ≠ some p := fun e => by have := (World.ownsRow.lt h.ov _ e).1; omega
  exact ⟨(m.cell _ h.lt (by simp)).trans h.c2, (m.frozen _ h.lt).trans h.f2, World.ownsRow.kept h.ov hg (.inr hv), Nat.lt_of_lt_of_le h.lt m.size, h.bd⟩
set_option maxRecDepth 100000 in
set_option maxHeartbeats 2000000 in
/-- Where the first procedure gives up, the program does. -/
theorem prog_bad (w : World) (p b o cap : Nat) (ts : List Tok) (k : Nat) (a er : Int) (v : Value) (us : List Value) (x : Tok) (hx : Rn w p b o cap ts k x) (hx0 : ¬ x.1.kind = 0) (hv : Pv w p v us)
    (hP : ∀ W, Rd W p b o cap ts k → Pv W p v us → Calls Tryz.prog 96 #[.pointer (some ⟨p, 0, none⟩)] W fun e w' => e = pan a er ∧ ∃ v' u', PV p W v w' v' u') :
    Calls Tryz.prog 71 #[.pointer (some ⟨p, 0, none⟩)] w fun e w' => e = pan a er ∧ ∃ v' u', PV p w v w' v' u' := by
  have H : Hid _ := hx
  have HV : Hid _ := hv
  have HP : Hid (∀ W, Rd W p b o cap ts k → Pv W p v us → Calls Tryz.prog 96 #[.pointer (some ⟨p, 0, none⟩)] W fun e w' => e = pan a er ∧ ∃ v' u', PV p W v w' v' u') := hP
  have bk : (x.1.kind != 0) = true := by simpa using hx0
  have bV : Below w.heap.size w ((w.alloc (.cells #[.slice none 0 0] 43)).alloc (.cells #[.slice none 0 0] 43)) := by go_grown
  have BV : Hid _ := bV
  clear hx hv hP hx0 bV
  go_enter Tryz.func71, Tryz.ntmps71
  go_wp2_with fail
  refine wp_loop_rounds 1 ?_
  rw [rounds_succ]
  go_wp2_with fail
  refine (now_any _ p b o cap ts k x (H.out.later BV.out)).mono ?_
  rintro e w1 ⟨rfl, b1⟩
  unfold tokA
  have kf := fldK
  have B1' : Hid (Below w.heap.size w w1) := BV.out.trans (b1.mono BV.out.size)
  have q := (B1.new (w.alloc (.cells #[.slice none 0 0] 43)) 43 (.slice none 0 0)).kept (b1.block _ (by simp)) b1.size
  rw [World.size_alloc] at q
  obtain ⟨c0, f0, z0⟩ := q
  clear b1 BV
  go_wp2_with fail
  go_region_with (first
    | (go_at_call 96; refine shutWay (HP.out _ (H.out.rd.later ?_) (HV.out.later ?_)) ?_ (.agg #[.string ⟨#[]⟩, .slice none 0 0, .int .i64 0, .slice none 0 0]) ?_; exact B1'.out.drew; exact B1'.out.drew; (rintro e w2 ⟨rfl, v', u', P⟩; exact ⟨rfl, rfl, v', u', P.from B1'.out.drew⟩); intro hF; have hz1 : ∀ (W : World) (q : Addr), W.frozen? q = false := fun _ _ => hF.out _; have hz2 : ∀ (W : World) (q : Addr), W.cell? q = some (.slice none 0 0) := fun _ _ => hF.out _))
  all_goals exact hF.out _
end Go.Proofs.YtlhklpnkelcnbaaGreatDoor
