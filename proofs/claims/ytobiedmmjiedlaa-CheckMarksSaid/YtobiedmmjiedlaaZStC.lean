/- How great statements are (the document's StmtsSize). -/
import Derived.Test.YtobiedmmjiedlaaZFolT
import Derived.Deep.LoopGhost
namespace Go.Proofs.Ytobiedmmjiedlaa
open Go.RowKit

namespace Sy
/-- No list, no name is very long. -/
inductive Bd : St → Prop
  | mk (k : Int) (n p : List UInt8) (m : Int) (e : List Sx.Ex) (b l : List St) (hn : n.length ≤ 20000) (hp : p.length ≤ 20000) (le : e.length ≤ 2000) (he : ∀ x, x ∈ e → Fo.Bnd x) (lb : b.length ≤ 2000) (ll : l.length ≤ 2000) (hb : ∀ s, s ∈ b → Bd s) (hl : ∀ s, s ∈ l → Bd s) : Bd (.mk k n p m e b l)
mutual
/-- How many statements a statement is, with those in its blocks. -/
def ct : St → Nat
  | .mk _ _ _ _ _ b l => 1 + cts b + cts l
def cts : List St → Nat
  | [] => 0
  | s :: r => ct s + cts r
end
theorem cts_app : ∀ (a b : List St), cts (a ++ b) = cts a + cts b
  | [], b => by simp [cts]
  | s :: r, b => by rw [List.cons_append, cts, cts, cts_app r b]; omega
theorem cts_take {l : List St} {j : Nat} {x : St} (h : l[j]? = some x) : cts (l.take (j + 1)) = cts (l.take j) + ct x := by
  rw [List.take_add_one, h, cts_app]
  simp [cts]
/-- What StmtsSize answers. -/
def ZR (most : Int) (l : List St) (r : Int) : Prop := 0 ≤ r ∧ (most < 0 → r = 0) ∧ (0 ≤ most → r ≤ most + 1152921504606846977) ∧ (0 ≤ most → r ≤ most → (l.length : Int) ≤ r ∧ (∀ s, s ∈ l → Bd s) ∧ (cts l : Int) ≤ r)
end Sy
def ZSt (l : List Sy.St) : Prop := ∀ (A : Nat → Prop) (sa : Option Addr) (sc : Nat) (most : Int) (w : World), -1152921504606846977 ≤ most → most ≤ 1500 → SmS A w (.slice sa l.length sc) l →
  Calls Try.prog 21 #[.slice sa l.length sc, .int .i64 most] w fun e w' => ∃ r, e = .returned (.int .i64 r) ∧ Sy.ZR most l r ∧ Below w.heap.size w w'
def ZSLoop (most : Int) (l : List Sy.St) (W : World) (gk : Nat) (v i : Value) (wr : World) : Prop := ∃ (j : Nat) (s : Int), j ≤ l.length ∧ gk = l.length - j ∧ v = .int .i64 s ∧ i = .int .i64 j ∧ (j : Int) ≤ s ∧ s ≤ most + 1152921504606846977 ∧ Hid (s ≤ most → (∀ (q : Nat) (x : Sy.St), q < j → l[q]? = some x → Sy.Bd x) ∧ (Sy.cts (l.take j) : Int) ≤ s) ∧ Below W.heap.size W wr
def ZELoop (most s0 : Int) (e : List Sx.Ex) (W : World) (gk : Nat) (v i : Value) (wr : World) : Prop := ∃ (j : Nat) (s : Int), j ≤ e.length ∧ gk = e.length - j ∧ v = .int .i64 s ∧ i = .int .i64 j ∧ s0 + (j : Int) ≤ s ∧ s ≤ most + 1152921504606846977 ∧ Hid (s ≤ most → ∀ (q : Nat) (x : Sx.Ex), q < j → e[q]? = some x → Fo.Bnd x) ∧ Below W.heap.size W wr
set_option maxRecDepth 100000 in
set_option maxHeartbeats 1000000 in
theorem stmtsSize_neg (l : List Sy.St) (sa : Option Addr) (sc : Nat) (most : Int) (hm : most < 0) (w : World) : Calls Try.prog 21 #[.slice sa l.length sc, .int .i64 most] w fun e w' => e = .returned (.int .i64 0) ∧ w' = w := by
  have d1 : decide (0 ≤ most) = false := decide_eq_false (by omega)
  clear hm
  go_enter Try.func21, Try.ntmps21
  go_wp2_with fail
  refine wp_loop_rounds 1 ?_
  rw [rounds_succ]
  by_cases h0 : 0 < l.length
  · go_wp2_with fail
    go_ret
    exact ⟨rfl, rfl⟩
  · have : l.length = 0 := by omega
    rw [this]
    go_wp2_with fail
    go_ret
    exact ⟨rfl, rfl⟩
/-- What is asked of a statement here. -/
def ZP (x : Sy.St) : Prop := ∃ k n p m e b l, x = .mk k n p m e b l ∧ n.length ≤ 1000000000000000 ∧ p.length ≤ 1000000000000000 ∧ (∀ y, y ∈ e → Fo.Nl y) ∧ e.length ≤ 1000000000000000 ∧ ZSt b ∧ ZSt l
theorem SmAt.keep {A : Nat → Prop} {w w' : World} {g o : Nat} {k : Int} {n p : List UInt8} {m : Int} {sa : Option Addr} {sc : Nat} {ba : Option Addr} {bc : Nat} {la : Option Addr} {lc : Nat} {e : List Sx.Ex} {b l : List Sy.St} (h : SmAt A w g o k n p m sa sc ba bc la lc e b l) (hg : g < w.heap.size) (bl : Below w.heap.size w w') : SmAt A w' g o k n p m sa sc ba bc la lc e b l :=
  ⟨(bl.cell (p := ⟨g, o, none⟩) hg).trans h.c0, (bl.cell (p := ⟨g, o + 1, none⟩) hg).trans h.c1, (bl.cell (p := ⟨g, o + 2, none⟩) hg).trans h.c2, (bl.cell (p := ⟨g, o + 3, none⟩) hg).trans h.c3, (bl.cell (p := ⟨g, o + 4, none⟩) hg).trans h.c4, (bl.cell (p := ⟨g, o + 5, none⟩) hg).trans h.c5, (bl.cell (p := ⟨g, o + 6, none⟩) hg).trans h.c6, h.he.later bl (Nat.le_refl _), h.hb.later bl (Nat.le_refl _), h.hl.later bl (Nat.le_refl _)⟩
set_option maxRecDepth 100000 in
set_option maxHeartbeats 8000000 in
theorem stmtsSize_loop (l : List Sy.St) (hl : l.length ≤ 1000000000000000) (hP : ∀ x, x ∈ l → ZP x) : ZSt l := by
  intro A sa sc most w h0 h1 hs
  by_cases hm : most < 0
  · refine (stmtsSize_neg l sa sc most hm w).mono ?_
    rintro e w' ⟨rfl, rfl⟩
    exact ⟨0, rfl, ⟨Int.le_refl _, fun _ => rfl, fun h => absurd hm (by omega), fun h => absurd hm (by omega)⟩, Below.refl _ _⟩
  have HS : Hid _ := hs
  have HP : Hid _ := hP
  have HL : Hid _ := hl
  have hm0 : 0 ≤ most := by omega
  clear hs hP hm h0
  go_enter Try.func21, Try.ntmps21
  go_wp2_with fail
  go_loopg [5, 6] l.length (fun gk v i wr => ZSLoop most l w gk v i wr)
  case atStart => exact ⟨0, 0, by omega, by omega, rfl, rfl, by simp, by omega, fun _ => ⟨fun q x hq _ => absurd hq (Nat.not_lt_zero q), by simp [Sy.cts]⟩, Below.refl _ _⟩
  case round =>
    obtain ⟨j, s, hj, hgk, rfl, rfl, hs1, hs2, HB, hnx⟩ := hrel
    have GK : Hid _ := hgk
    clear hgk
    by_cases hlt : j < l.length
    · have hji : (j : Int) < (l.length : Int) := by omega
      have hj0 : (0 : Int) ≤ (j : Int) := by omega
      by_cases hmm : s ≤ most
      · obtain ⟨g, o, k, n, p, m, ea, ec, ba, bc, la, lc, e, b, ll, rfl, ha, hg, el, sat⟩ := (HS.out.later hnx (Nat.le_refl _)).part j hlt
        obtain ⟨k', n', p', m', e', b', l', ex, hn, hp, hnl, hle, zb, zl⟩ := HP.out _ (List.mem_of_getElem? el)
        injection ex with x1 x2 x3 x4 x5 x6 x7
        subst x1 x2 x3 x4 x5 x6 x7
        have c1 := sat.c1
        have c2 := sat.c2
        have c4 := sat.c4
        have c5 := sat.c5
        have c6 := sat.c6
        have SAT : Hid _ := sat
        have ZB : Hid _ := zb
        have ZL : Hid _ := zl
        have HN : Hid _ := hnl
        have EL : Hid _ := el
        have NX : Hid _ := hnx
        have LN : Hid _ := hn
        have LP : Hid _ := hp
        have LE : Hid _ := hle
        have w1 : wrap64 (s + 1) = s + 1 := by unfold wrap64; omega
        have w2 : wrap64 ((n.length : Int) / 8) = (n.length : Int) / 8 := by unfold wrap64; omega
        have w3 : wrap64 ((p.length : Int) / 8) = (p.length : Int) / 8 := by unfold wrap64; omega
        have w4 : wrap64 (s + 1 + (n.length : Int) / 8) = s + 1 + (n.length : Int) / 8 := by unfold wrap64; omega
        have w5 : wrap64 (s + 1 + (n.length : Int) / 8 + (p.length : Int) / 8) = s + 1 + (n.length : Int) / 8 + (p.length : Int) / 8 := by unfold wrap64; omega
        have HS0 : Hid (s + 1 ≤ s + 1 + (n.length : Int) / 8 + (p.length : Int) / 8 ∧ s + 1 + (n.length : Int) / 8 + (p.length : Int) / 8 ≤ most + 1152921504606846977 ∧ (s + 1 + (n.length : Int) / 8 + (p.length : Int) / 8 ≤ most → n.length ≤ 20000 ∧ p.length ≤ 20000)) := ⟨by omega, by omega, by omega⟩
        clear sat zb zl hnl el hnx hn hp hle
        go_wp2_with fail
        go_region
        generalize s + 1 + (n.length : Int) / 8 + (p.length : Int) / 8 = s0 at HS0 w5 ⊢
        obtain ⟨V, hV⟩ : ∃ V, V = wr.drew := ⟨_, rfl⟩
        have bV : Below wr.heap.size wr V := by rw [hV]; go_grown
        rw [w5, ← hV]
        have sv := SAT.out.keep hg bV
        have hgV : g < V.heap.size := Nat.lt_of_lt_of_le hg bV.size
        have SV : Hid _ := sv
        have NV : Hid (Below w.heap.size w V) := NX.out.trans (bV.mono NX.out.size)
        clear w1 w2 w3 w4 w5 c1 c2 c4 c5 c6 hV bV sv SAT
        go_wp2_with fail
        go_loopg [5, 7] e.length (fun gk v i wr => ZELoop most s0 e V gk v i wr)
        case atStart => exact ⟨0, s0, by omega, by omega, rfl, rfl, by simp, HS0.out.2.1, fun _ q x hq _ => absurd hq (Nat.not_lt_zero q), Below.refl _ _⟩
        case round =>
          obtain ⟨i, t, hi, hgk, rfl, rfl, ht1, ht2, HF, hny⟩ := hrel
          have GE : Hid _ := hgk
          clear hgk
          have HT : Hid (s0 ≤ t ∧ t ≤ most + 1152921504606846977) := ⟨by omega, ht2⟩
          have ht0 : 0 ≤ t := by have := HS0.out.1; omega
          have hle15 := LE.out
          by_cases hie : i < e.length
          · have hii : (i : Int) < (e.length : Int) := by omega
            have hi0 : (0 : Int) ≤ (i : Int) := by omega
            by_cases htm : t ≤ most
            · have sq := SV.out.keep hgV hny
              obtain ⟨g2, o2, k2, n2, m2, sa2, sn2, sc2, ll2, rfl, hg2, el2, d0, d1, d2, d3, hs2⟩ := sq.he.part i hie
              have hln := hs2.len
              subst hln
              have q4 := sq.c4
              have wm : wrap64 (most - t) = most - t := by unfold wrap64; omega
              have EE : Hid (∀ W, Below wr.heap.size wr W → _) := fun W hW => exprSize_any (HN.out _ (List.mem_of_getElem? el2)) A k2 n2 m2 ll2 sa2 sc2 (most - t) W rfl (by omega) (by omega) (hs2.later hW (Nat.le_refl _))
              have EL2 : Hid _ := el2
              have NY : Hid _ := hny
              clear sq hs2 el2 hny
              go_wp2_with fail
              refine Calls.mono (EE.out _ (Below.refl _ _)) ?_
              rintro e7 w7 ⟨r7, rfl, ⟨z1, z2, z3⟩, b7⟩
              have Z3 : Hid _ := z3
              have wt : wrap64 (t + r7) = t + r7 := by unfold wrap64; omega
              have B7' : Hid (Below V.heap.size V w7) := NY.out.trans (b7.mono NY.out.size)
              clear b7 z3 d0 d1 d2 d3 q4
              go_wp2_with fail
              go_roundg (e.length - (i + 1))
              case measure => have := GE.out; omega
              case rel =>
                refine ⟨i + 1, t + r7, by omega, rfl, rfl, by go_num, by omega, by omega, fun hle q x hq hx => ?_, B7'.out⟩
                by_cases c : q < i
                · exact HF.out (by omega) q x c hx
                · obtain rfl : q = i := by omega
                  rw [EL2.out] at hx
                  cases hx
                  exact Z3.out (by omega)
            · have htm' : most < t := by omega
              have FB : Hid (t ≤ most → (e.length : Int) ≤ t ∧ ∀ x, x ∈ e → Fo.Bnd x) := fun h => absurd h htm
              have sq := SV.out.keep hgV hny
              have q0 := sq.c4
              have q5 := sq.c5
              have q6 := sq.c6
              have wm : wrap64 (most - t) = most - t := by unfold wrap64; omega
              have E5 : Hid (∀ W, Below wr.heap.size wr W → _) := fun W hW => ZB.out A ba bc (most - t) W (by omega) (by omega) (sq.hb.later hW (Nat.le_refl _))
              have SQ : Hid _ := sq
              have hgq : g < wr.heap.size := Nat.lt_of_lt_of_le hgV hny.size
              have NY : Hid (Below w.heap.size w wr) := NV.out.trans (hny.mono NV.out.size)
              clear sq hny
              go_wp2_with fail
              refine Calls.mono (E5.out _ (Below.refl _ _)) ?_
              rintro e5 w5 ⟨r5, rfl, ⟨z1, z2, z3, z4⟩, b5⟩
              have s5 := SQ.out.keep hgq b5
              have q6 := s5.c6
              have hg5 : g < w5.heap.size := Nat.lt_of_lt_of_le hgq b5.size
              have T5 : Hid (t + r5 ≤ most → (b.length : Int) ≤ r5 ∧ (∀ x, x ∈ b → Sy.Bd x) ∧ (Sy.cts b : Int) ≤ r5) := fun h => z4 (by omega) (by omega)
              have R5 : Hid (0 ≤ r5 ∧ t + r5 ≤ most + 1152921504606846977) := by
                refine ⟨z1, ?_⟩
                by_cases c : most - t < 0
                · have := z2 c; omega
                · have := z3 (by omega); omega
              have wa : wrap64 (t + r5) = t + r5 := by have := R5.out; unfold wrap64; omega
              have wb : wrap64 (most - (t + r5)) = most - (t + r5) := by have := R5.out; unfold wrap64; omega
              have E6 : Hid (∀ W, Below w5.heap.size w5 W → _) := fun W hW => ZL.out A la lc (most - (t + r5)) W (by have := R5.out; omega) (by have := R5.out; omega) (s5.hl.later hW (Nat.le_refl _))
              have N5 : Hid (Below w.heap.size w w5) := NY.out.trans (b5.mono NY.out.size)
              clear z1 z2 z3 z4 b5 s5 q0 q5 wm
              go_wp2_with fail
              refine Calls.mono (E6.out _ (Below.refl _ _)) ?_
              rintro e6 w6 ⟨r6, rfl, ⟨z1, z2, z3, z4⟩, b6⟩
              have T6 : Hid (t + r5 + r6 ≤ most → (ll.length : Int) ≤ r6 ∧ (∀ x, x ∈ ll → Sy.Bd x) ∧ (Sy.cts ll : Int) ≤ r6) := fun h => z4 (by have := R5.out; omega) (by omega)
              have R6 : Hid (0 ≤ r6 ∧ t + r5 + r6 ≤ most + 1152921504606846977) := by
                refine ⟨z1, ?_⟩
                have := R5.out
                by_cases c : most - (t + r5) < 0
                · have := z2 c; omega
                · have := z3 (by omega); omega
              have wc' : wrap64 (t + r5 + r6) = t + r5 + r6 := by have := R5.out; have := R6.out; unfold wrap64; omega
              have N6 : Hid (Below w.heap.size w w6) := N5.out.trans (b6.mono N5.out.size)
              clear z1 z2 z3 z4 b6
              go_wp2_with fail
              go_roundg (l.length - (j + 1))
              case measure => have := GK.out; omega
              case rel =>
                have r5' := R5.out
                have r6' := R6.out
                refine ⟨j + 1, t + r5 + r6, by omega, rfl, by rw [wc'], by go_num, by have := HT.out.1; have := HS0.out.1; omega, by omega, fun hle => ⟨fun q x hq hx => ?_, ?_⟩, N6.out⟩
                · by_cases c : q < j
                  · exact (HB.out (by have := HT.out.1; have := HS0.out.1; omega)).1 q x c hx
                  · obtain rfl : q = j := by omega
                    rw [EL.out] at hx
                    cases hx
                    have hh := HS0.out.2.2 (by have := HT.out.1; omega)
                    have f5 := T5.out (by omega)
                    have f6 := T6.out (by omega)
                    have hf := FB.out (by omega)
                    exact .mk _ _ _ _ _ _ _ hh.1 hh.2 (by have := hf.1; omega) hf.2 (by have := f5.1; omega) (by have := f6.1; omega) f5.2.1 f6.2.1
                · have f5 := (T5.out (by omega)).2.2
                  have f6 := (T6.out (by omega)).2.2
                  have f0 := (HB.out (by have := HT.out.1; have := HS0.out.1; omega)).2
                  have f1 := HT.out.1
                  have f2 := HS0.out.1
                  rw [Sy.cts_take EL.out, Sy.ct]
                  omega
          · obtain rfl : i = e.length := by omega
            have FB : Hid (t ≤ most → (e.length : Int) ≤ t ∧ ∀ x, x ∈ e → Fo.Bnd x) := fun h => ⟨by have := HS0.out.1; omega, fun x hx => by
              obtain ⟨q, hq⟩ := List.getElem?_of_mem hx
              exact HF.out h q x (List.getElem?_eq_some_iff.1 hq).1 hq⟩
            have sq := SV.out.keep hgV hny
            have q0 := sq.c4
            have q5 := sq.c5
            have q6 := sq.c6
            have wm : wrap64 (most - t) = most - t := by unfold wrap64; omega
            have E5 : Hid (∀ W, Below wr.heap.size wr W → _) := fun W hW => ZB.out A ba bc (most - t) W (by omega) (by omega) (sq.hb.later hW (Nat.le_refl _))
            have SQ : Hid _ := sq
            have hgq : g < wr.heap.size := Nat.lt_of_lt_of_le hgV hny.size
            have NY : Hid (Below w.heap.size w wr) := NV.out.trans (hny.mono NV.out.size)
            clear sq hny
            go_wp2_with fail
            refine Calls.mono (E5.out _ (Below.refl _ _)) ?_
            rintro e5 w5 ⟨r5, rfl, ⟨z1, z2, z3, z4⟩, b5⟩
            have s5 := SQ.out.keep hgq b5
            have q6 := s5.c6
            have hg5 : g < w5.heap.size := Nat.lt_of_lt_of_le hgq b5.size
            have T5 : Hid (t + r5 ≤ most → (b.length : Int) ≤ r5 ∧ (∀ x, x ∈ b → Sy.Bd x) ∧ (Sy.cts b : Int) ≤ r5) := fun h => z4 (by omega) (by omega)
            have R5 : Hid (0 ≤ r5 ∧ t + r5 ≤ most + 1152921504606846977) := by
              refine ⟨z1, ?_⟩
              by_cases c : most - t < 0
              · have := z2 c; omega
              · have := z3 (by omega); omega
            have wa : wrap64 (t + r5) = t + r5 := by have := R5.out; unfold wrap64; omega
            have wb : wrap64 (most - (t + r5)) = most - (t + r5) := by have := R5.out; unfold wrap64; omega
            have E6 : Hid (∀ W, Below w5.heap.size w5 W → _) := fun W hW => ZL.out A la lc (most - (t + r5)) W (by have := R5.out; omega) (by have := R5.out; omega) (s5.hl.later hW (Nat.le_refl _))
            have N5 : Hid (Below w.heap.size w w5) := NY.out.trans (b5.mono NY.out.size)
            clear z1 z2 z3 z4 b5 s5 q0 q5 wm
            go_wp2_with fail
            refine Calls.mono (E6.out _ (Below.refl _ _)) ?_
            rintro e6 w6 ⟨r6, rfl, ⟨z1, z2, z3, z4⟩, b6⟩
            have T6 : Hid (t + r5 + r6 ≤ most → (ll.length : Int) ≤ r6 ∧ (∀ x, x ∈ ll → Sy.Bd x) ∧ (Sy.cts ll : Int) ≤ r6) := fun h => z4 (by have := R5.out; omega) (by omega)
            have R6 : Hid (0 ≤ r6 ∧ t + r5 + r6 ≤ most + 1152921504606846977) := by
              refine ⟨z1, ?_⟩
              have := R5.out
              by_cases c : most - (t + r5) < 0
              · have := z2 c; omega
              · have := z3 (by omega); omega
            have wc' : wrap64 (t + r5 + r6) = t + r5 + r6 := by have := R5.out; have := R6.out; unfold wrap64; omega
            have N6 : Hid (Below w.heap.size w w6) := N5.out.trans (b6.mono N5.out.size)
            clear z1 z2 z3 z4 b6
            go_wp2_with fail
            go_roundg (l.length - (j + 1))
            case measure => have := GK.out; omega
            case rel =>
              have r5' := R5.out
              have r6' := R6.out
              refine ⟨j + 1, t + r5 + r6, by omega, rfl, by rw [wc'], by go_num, by have := HT.out.1; have := HS0.out.1; omega, by omega, fun hle => ⟨fun q x hq hx => ?_, ?_⟩, N6.out⟩
              · by_cases c : q < j
                · exact (HB.out (by have := HT.out.1; have := HS0.out.1; omega)).1 q x c hx
                · obtain rfl : q = j := by omega
                  rw [EL.out] at hx
                  cases hx
                  have hh := HS0.out.2.2 (by have := HT.out.1; omega)
                  have f5 := T5.out (by omega)
                  have f6 := T6.out (by omega)
                  have hf := FB.out (by omega)
                  exact .mk _ _ _ _ _ _ _ hh.1 hh.2 (by have := hf.1; omega) hf.2 (by have := f5.1; omega) (by have := f6.1; omega) f5.2.1 f6.2.1
              · have f5 := (T5.out (by omega)).2.2
                have f6 := (T6.out (by omega)).2.2
                have f0 := (HB.out (by have := HT.out.1; have := HS0.out.1; omega)).2
                have f1 := HT.out.1
                have f2 := HS0.out.1
                rw [Sy.cts_take EL.out, Sy.ct]
                omega
      · have hm3 : most < s := by omega
        have NX : Hid _ := hnx
        clear hnx
        go_wp2_with fail
        go_ret
        exact ⟨s, rfl, ⟨by omega, fun h => absurd h (by omega), fun _ => by omega, fun _ h => absurd h (by omega)⟩, NX.out⟩
    · obtain rfl : j = l.length := by omega
      have NX : Hid _ := hnx
      clear hnx
      go_wp2_with fail
      go_ret
      refine ⟨s, rfl, ⟨by omega, fun h => absurd h (by omega), fun _ => by omega, fun _ h => ⟨by omega, fun x hx => ?_, ?_⟩⟩, NX.out⟩
      · obtain ⟨q, hq⟩ := List.getElem?_of_mem hx
        exact (HB.out h).1 q x (List.getElem?_eq_some_iff.1 hq).1 hq
      · have := (HB.out h).2
        rwa [List.take_length] at this
theorem stmtsSize_st (x : Sy.St) : Sy.Ok x → ZP x := by
  induction x using Sy.ind with
  | h k n p m e b l hb hl =>
    intro ho
    cases ho with
    | mk _ _ _ _ _ _ _ hk hn hp hm hr hnl le lb ll ob ol =>
      exact ⟨k, n, p, m, e, b, l, rfl, hn, hp, hnl, le, stmtsSize_loop b lb fun s hs => hb s hs (ob s hs), stmtsSize_loop l ll fun s hs => hl s hs (ol s hs)⟩
/-- StmtsSize of all statements. -/
theorem stmtsSize_any (l : List Sy.St) (hl : l.length ≤ 1000000000000000) (h : ∀ s, s ∈ l → Sy.Ok s) : ZSt l := stmtsSize_loop l hl fun x hx => stmtsSize_st x (h x hx)
end Go.Proofs.Ytobiedmmjiedlaa
