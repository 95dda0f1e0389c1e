/- Layer 3: readExpr. -/
import Derived.Test.YtlhklpnkelcnbaaGreatDoorSynH
namespace Go.Proofs.YtlhklpnkelcnbaaGreatDoor
open Go.RowKit

theorem enter_rx (c : Array Value) (w : World) : (callFunc 31 c).run Tryz.prog w = .ok (.enter 31 c) w := by kernel_rfl
/-- Block n is the box of the expression y, and the next token's number k lies in block m. -/
def XRel (V : World) (xb nb : Nat) (y : Sx.Ex) (k : Nat) (w' : World) : Prop :=
  ∃ kk nn mm sa sn sc ll, y = .mk kk nn mm ll ∧ Bx w' xb (.int .i64 kk) (.string ⟨(nn : List UInt8).toArray⟩) (.int .i64 mm) (.slice sa sn sc) ∧ ExS (fun g => V.heap.size ≤ g) w' (.slice sa sn sc) ll ∧
    w'.cell? ⟨nb, 0, none⟩ = some (.int .i64 (k : Int)) ∧ w'.frozen? ⟨nb, 0, none⟩ = false
theorem Keep.fill {D : Nat → Prop} {w w' : World} (h : Keep D w w') {g : Nat} (hg : w.heap.size ≤ g ∨ D g) (b0 b1 b2 b3 : Value) : Keep D w (Go.Proofs.YtlhklpnkelcnbaaGreatDoor.fill w' g b0 b1 b2 b3) := (((h.set (a := ⟨g, 0, none⟩) hg _).set (a := ⟨g, 1, none⟩) hg _).set (a := ⟨g, 2, none⟩) hg _).set (a := ⟨g, 3, none⟩) hg _
set_option maxRecDepth 100000 in
set_option maxHeartbeats 1000000 in
theorem readExpr1_ok (p b o cap xb nb : Nat) (ts : List Tok) (gd : Good ts) (f k : Nat) (y : Sx.Ex) (k' : Nat) (V : World) (rd : Rd V p b o cap ts k) (hk : k < ts.length) (a0 a1 a2 a3 z : Value) (bx : Bx V xb a0 a1 a2 a3) (cn : V.cell? ⟨nb, 0, none⟩ = some z) (fn : V.frozen? ⟨nb, 0, none⟩ = false) (hn : nb < V.heap.size) (h1 : xb ≠ p) (h2 : nb ≠ p) (h3 : xb ≠ nb) (h4 : xb ≠ b) (hr : Sx.bd ts f 1 1 k = some (.ok y k')) :
    Calls Tryz.prog 31 #[.pointer (some ⟨p, 0, none⟩), .pointer (some ⟨xb, 0, none⟩), .pointer (some ⟨nb, 0, none⟩)] V fun e w' => e = .returned (.tuple #[]) ∧ Keep (fun g => g = p ∨ g = xb ∨ g = nb) V w' ∧ XRel V xb nb y k' w' := by
  have E1 : Hid _ := expr_any p b o cap ts f (read_any p b o cap ts gd f).2 1 k (.ok y k') V (by omega) rd hk hr
  have RDV : Hid _ := rd
  have BXV : Hid _ := bx
  have CN : Hid (V.cell? ⟨nb, 0, none⟩ = some z) := cn
  have FN : Hid (V.frozen? ⟨nb, 0, none⟩ = false) := fn
  have H1 : Hid (xb ≠ p) := h1
  have H2 : Hid (nb ≠ p) := h2
  have H3 : Hid (xb ≠ nb) := h3
  have H4 : Hid (xb ≠ b) := h4
  have HN : Hid (nb < V.heap.size) := hn
  clear rd bx cn fn h1 h2 h3 h4 hn gd hk hr
  go_enter Tryz.func31, Tryz.ntmps31
  go_wp2_with fail
  refine Calls.mono E1.out ?_
  obtain ⟨kk, nn, mm, ll⟩ := y
  rintro e w1 ⟨⟨v, rfl, sl, rfl, hs⟩, rd1, hk1, m1⟩
  obtain ⟨sa, sn, sc, rfl⟩ := hs.form
  have B1 := BXV.out.mov m1 H1.out
  have key : (⟨nb, 0, none⟩ : Addr) ≠ ⟨p, 1, none⟩ := fun e => H2.out (congrArg Addr.block e)
  have n1 : w1.cell? ⟨nb, 0, none⟩ = some z := (m1.cell _ HN.out key).trans CN.out
  have g1 : w1.frozen? ⟨nb, 0, none⟩ = false := (m1.frozen _ HN.out).trans FN.out
  have hz : nb < w1.heap.size := Nat.lt_of_lt_of_le HN.out m1.size
  have r1 := rd1.nx
  have x1 : ¬ xb = p := H1.out
  have x1' : ¬ p = xb := fun e => H1.out e.symm
  have x3 : ¬ xb = nb := H3.out
  have x3' : ¬ nb = xb := fun e => H3.out e.symm
  have x2 : ¬ nb = p := H2.out
  have PB : Hid _ := (⟨((Keep.of_mov m1).mono (D' := fun g => g = p ∨ g = xb ∨ g = nb) (fun _ _ e => .inl e)).fill (.inr (.inr (.inl rfl))) (.int .i64 kk) (.string ⟨nn.toArray⟩) (.int .i64 mm) (.slice sa sn sc) |>.set (a := ⟨nb, 0, none⟩) (.inr (.inr (.inr rfl))) (.int .i64 (k' : Int)),
    kk, nn, mm, sa, sn, sc, ll, rfl, ((B1.fill _ _ _ _).set (a := ⟨nb, 0, none⟩) (fun e => H3.out e.symm) _), (hs.fill (by have := BXV.out.lt; omega) _ _ _ _).set (a := ⟨nb, 0, none⟩) (by have := HN.out; simp; omega) _, by
      have e : (fill w1 xb (.int .i64 kk) (.string ⟨nn.toArray⟩) (.int .i64 mm) (.slice sa sn sc)).cell? ⟨nb, 0, none⟩ = some z := by simp [fill, n1, go_sem]
      exact World.cell?_setCell_same _ _ _ e, by simp [fill, g1]⟩ :
    Keep (fun g => g = p ∨ g = xb ∨ g = nb) V ((fill w1 xb (.int .i64 kk) (.string ⟨nn.toArray⟩) (.int .i64 mm) (.slice sa sn sc)).setCell ⟨nb, 0, none⟩ (.int .i64 (k' : Int))) ∧ XRel V xb nb (.mk kk nn mm ll) k' ((fill w1 xb (.int .i64 kk) (.string ⟨nn.toArray⟩) (.int .i64 mm) (.slice sa sn sc)).setCell ⟨nb, 0, none⟩ (.int .i64 (k' : Int))))
  obtain ⟨c0, c1, c2, c3, f0, f1, f2, f3, zt⟩ := B1
  clear hs rd1 hk1 m1 key
  go_wp2_with fail
  go_end0
  exact ⟨rfl, PB.out⟩
set_option maxRecDepth 100000 in
set_option maxHeartbeats 1000000 in
theorem readExpr1_bad (p b o cap xb nb : Nat) (ts : List Tok) (gd : Good ts) (f k : Nat) (a er : Int) (V : World) (rd : Rd V p b o cap ts k) (hk : k < ts.length) (hr : Sx.bd ts f 1 1 k = some (.bad a er)) :
    Calls Tryz.prog 31 #[.pointer (some ⟨p, 0, none⟩), .pointer (some ⟨xb, 0, none⟩), .pointer (some ⟨nb, 0, none⟩)] V fun e w' => e = pan a er ∧ Keep (fun g => g = p) V w' := by
  have E1 : Hid _ := expr_any p b o cap ts f (read_any p b o cap ts gd f).2 1 k (.bad a er) V (by omega) rd hk hr
  clear rd gd hk hr
  go_enter Tryz.func31, Tryz.ntmps31
  go_wp2_with fail
  refine Calls.mono E1.out ?_
  rintro e w1 ⟨rfl, m1⟩
  exact ⟨rfl, rfl, Keep.of_mov m1⟩
end Go.Proofs.YtlhklpnkelcnbaaGreatDoor
