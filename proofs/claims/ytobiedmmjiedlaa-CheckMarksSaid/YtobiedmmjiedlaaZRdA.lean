/- Layer 3: SameExpr tells true of what is the same. -/
/- Layer 3: the reader of programs: a program of one procedure was read. -/
/- Layer 3: readProg. -/
/- Layer 3: readProg, Read. -/
/- Layer 3: Read and Parse, at a program of one procedure, and where a reading gives up. -/
/- Layer 3: the two fixed texts that the statements parse. -/
/- Layer 3: a program of one procedure, whose one statement prints, is right. -/
/- Layer 3: a program of one procedure, whose one statement prints, is written. -/
/- Layer 3: Print, of a program of one procedure whose one statement prints. -/
/- The fixed calls of layer 3's statements (known) come out true. -/
/- Layer 3: the document's ReadExpr. -/
/- The document's reader of programs, where it reads on: brackets, types. -/
import Derived.Test.YtobiedmmjiedlaaZFolL
import Derived.Test.YtobiedmmjiedlaaZSypK
import Derived.Test.YtobiedmmjiedlaaZCmC
import Derived.Test.YtobiedmmjiedlaaZSypL
import Derived.Test.YtobiedmmjiedlaaZSypO
import Derived.Test.YtobiedmmjiedlaaZSypQ
import Derived.Test.YtobiedmmjiedlaaZGrG
import Derived.Test.YtobiedmmjiedlaaZLexK
namespace Go.Proofs.Ytobiedmmjiedlaa
open Go.RowKit

namespace Sx
/-- An expression no part of which has more than two parts. -/
inductive Small : Ex → Prop
  | mk (k : Int) (n : List UInt8) (m : Int) (l : List Ex) (hl : l.length ≤ 2) (h : ∀ x, x ∈ l → Small x) : Small (.mk k n m l)
theorem Small.none (k : Int) (n : List UInt8) (m : Int) : Small (.mk k n m []) := .mk _ _ _ _ (by simp) (fun _ h => by cases h)
theorem Small.one {x : Ex} (h : Small x) (k : Int) (n : List UInt8) (m : Int) : Small (.mk k n m [x]) := .mk _ _ _ _ (by simp) (fun y hy => by rw [List.mem_singleton.1 hy]; exact h)
theorem Small.two {x y : Ex} (h : Small x) (h' : Small y) (k : Int) (n : List UInt8) (m : Int) : Small (.mk k n m [x, y]) := .mk _ _ _ _ (by simp) (fun z hz => by
  rcases List.mem_cons.1 hz with rfl | hz
  · exact h
  · rw [List.mem_singleton.1 hz]; exact h')
theorem shut_sm {ts : List Tok} {s : List UInt8} {g : Ex → Ex} {A : Option Rs} {x : Ex} {k' : Nat} (hg : ∀ y, Small y → Small (g y)) (hA : ∀ y k, A = some (.ok y k) → Small y) (h : shut ts s g A = some (.ok x k')) : Small x := by
  match A, h, hA with
  | some (.ok y k), h, hA =>
    rw [shut_ok] at h
    by_cases c : tx ts k = s
    · rw [if_pos c] at h; cases h; exact hg y (hA y k rfl)
    · rw [if_neg c] at h; cases h
  | some (.bad a e), h, _ => cases h
  | none, h, _ => cases h
theorem small (ts : List Tok) : ∀ f, (∀ d k x k', un ts f d k = some (.ok x k') → Small x) ∧ (∀ q d k x k', bd ts f q d k = some (.ok x k') → Small x) ∧ (∀ q d y k x k', Small y → lp ts f q d y k = some (.ok x k') → Small x)
  | 0 => ⟨fun d k x k' h => (by rw [un] at h; cases h), fun q d k x k' h => (by rw [bd] at h; cases h), fun q d y k x k' _ h => (by rw [lp] at h; cases h)⟩
  | f + 1 => by
    obtain ⟨hu, hb, hl⟩ := small ts f
    refine ⟨fun d k x k' h => ?_, fun q d k x k' h => ?_, fun q d y k x k' hk h => ?_⟩
    · rw [un] at h
      by_cases c1 : begE (ts.getD k tok0) = false
      · rw [if_pos c1] at h; cases h
      rw [if_neg c1] at h
      by_cases c2 : 60 < d
      · rw [if_pos c2] at h; cases h
      rw [if_neg c2] at h
      by_cases c3 : (ts.getD k tok0).1.kind = 2
      · rw [if_pos c3] at h; cases h; exact Small.none _ _ _
      rw [if_neg c3] at h
      by_cases c4 : (ts.getD k tok0).1.kind = 1
      · rw [if_pos c4] at h
        by_cases c5 : tx ts (k + 1) = [91]
        · rw [if_pos c5] at h
          exact shut_sm (fun y hy => hy.one _ _ _) (fun y j e => hb _ _ _ _ _ e) h
        · rw [if_neg c5] at h; cases h; exact Small.none _ _ _
      rw [if_neg c4] at h
      by_cases c6 : tx ts k = [116, 114, 117, 101]
      · rw [if_pos c6] at h; cases h; exact Small.none _ _ _
      rw [if_neg c6] at h
      by_cases c7 : tx ts k = [102, 97, 108, 115, 101]
      · rw [if_pos c7] at h; cases h; exact Small.none _ _ _
      rw [if_neg c7] at h
      by_cases c8 : tx ts k = [40]
      · rw [if_pos c8] at h
        exact shut_sm (fun y hy => hy) (fun y j e => hb _ _ _ _ _ e) h
      rw [if_neg c8] at h
      cases hw : un ts f (d + 1) (k + 1) with
      | none => rw [hw] at h; cases h
      | some w =>
        rw [hw] at h
        cases w with
        | ok y j => cases h; exact (hu _ _ _ _ hw).one _ _ _
        | bad a e => cases h
    · rw [bd] at h
      by_cases c1 : 5 < q
      · rw [if_pos c1] at h; exact hu _ _ _ _ h
      rw [if_neg c1] at h
      cases hw : bd ts f (q + 1) d k with
      | none => rw [hw] at h; cases h
      | some w =>
        rw [hw] at h
        cases w with
        | ok y j => exact hl _ _ _ _ _ _ (hb _ _ _ _ _ hw) h
        | bad a e => cases h
    · rw [lp] at h
      by_cases c1 : bindsB (tx ts k) = q
      · rw [if_pos c1] at h
        cases hw : bd ts f (q + 1) d (k + 1) with
        | none => rw [hw] at h; cases h
        | some w =>
          rw [hw] at h
          cases w with
          | ok z j =>
            have e1 := hk.two (hb _ _ _ _ _ hw) 6 (tx ts k) 0
            simp only at h
            by_cases c2 : q = 3
            · rw [if_pos c2] at h; cases h; exact e1
            · rw [if_neg c2] at h; exact hl _ _ _ _ _ _ e1 h
          | bad a e => cases h
      · rw [if_neg c1] at h; cases h; exact hk
end Sx
/-- What is asked of SameExpr. -/
def SC (x : Sx.Ex) : Prop := ∀ (A B : Nat → Prop) (k : Int) (n : List UInt8) (m : Int) (l : List Sx.Ex) (sa sb : Option Addr) (sn sc tn tc : Nat) (w : World), x = .mk k n m l → ExS A w (.slice sa sn sc) l → ExS B w (.slice sb tn tc) l →
  Calls Try.prog 30 #[.agg #[.int .i64 k, .string ⟨n.toArray⟩, .int .i64 m, .slice sa sn sc], .agg #[.int .i64 k, .string ⟨n.toArray⟩, .int .i64 m, .slice sb tn tc]] w fun e w' => e = .returned (.bool true) ∧ Below w.heap.size w w'
set_option maxRecDepth 100000 in
set_option maxHeartbeats 1000000 in
theorem sameExprs_true (A B : Nat → Prop) (l : List Sx.Ex) (hR : ∀ x, x ∈ l → SC x) (sa sb : Option Addr) (sn sc tn tc : Nat) (w : World) (hs : ExS A w (.slice sa sn sc) l) (ht : ExS B w (.slice sb tn tc) l) (hl : l.length ≤ 2) :
    Calls Try.prog 18 #[.slice sa sn sc, .slice sb tn tc] w fun e w' => e = .returned (.bool true) ∧ Below w.heap.size w w' := by
  have hn := hs.len
  subst hn
  have hn := ht.len
  subst hn
  have HR : Hid (∀ x, x ∈ l → SC x) := hR
  have HS : Hid (ExS A w (.slice sa l.length sc) l) := hs
  have HT : Hid (ExS B w (.slice sb l.length tc) l) := ht
  clear hR hs ht
  go_enter Try.func18, Try.ntmps18
  go_wp2_with fail
  go_loopw [5] (fun i wr => ∃ k : Nat, k ≤ l.length ∧ i = .int .i64 k ∧ Below w.heap.size w wr) (fun i _ => l.length - (intOf i).toNat)
  case atStart => exact ⟨0, by omega, rfl, Below.refl _ _⟩
  case round =>
    obtain ⟨j, hj, rfl, hnx⟩ := hrel
    by_cases hlt : j < l.length
    · have HS' := HS.out.later hnx (Nat.le_refl _)
      have HT' := HT.out.later hnx (Nat.le_refl _)
      obtain ⟨g, o, cap, esl, hc, ha, hg, h⟩ := HS'.inv (by omega)
      cases esl
      obtain ⟨g', o', cap', esl', hc', ha', hg', h'⟩ := HT'.inv (by omega)
      cases esl'
      obtain ⟨k, n, m, sa', sn', sc', ll, el, c0, c1, c2, c3, hs'⟩ := h.get j hlt
      obtain ⟨k2, n2, m2, sb', tn', tc', ll2, el2, d0, d1, d2, d3, ht'⟩ := h'.get j hlt
      obtain ⟨rfl, rfl, rfl, rfl⟩ : k2 = k ∧ n2 = n ∧ m2 = m ∧ ll2 = ll := by
        have e := Option.some.inj (el.symm.trans el2)
        injection e with q1 q2 q3 q4
        exact ⟨q1.symm, q2.symm, q3.symm, q4.symm⟩
      have E1 : Hid (∀ W, Below wr.heap.size wr W → Calls Try.prog 30 #[.agg #[.int .i64 k2, .string ⟨n2.toArray⟩, .int .i64 m2, .slice sa' sn' sc'], .agg #[.int .i64 k2, .string ⟨n2.toArray⟩, .int .i64 m2, .slice sb' tn' tc']] W fun e w' => e = .returned (.bool true) ∧ Below W.heap.size W w') := by
        intro W hW
        exact HR.out _ (List.mem_of_getElem? el) A B k2 n2 m2 ll2 sa' sb' sn' sc' tn' tc' W rfl (hs'.later hW (Nat.le_refl _)) (ht'.later hW (Nat.le_refl _))
      clear h hs' el ha h' ht' el2 ha'
      have NX : Hid _ := hnx
      clear hnx
      go_wp2_with fail
      go_region_with (go_at_call 30; refine Calls.mono (E1.out _ (by go_grown)) ?_; rintro e w1 ⟨rfl, b1⟩)
      all_goals
        have b2 : Below wr.heap.size wr w1 := Below.trans (by go_grown) (b1.mono (by go_size))
        have B1 : Hid (Below w.heap.size w w1) := NX.out.trans (b2.mono NX.out.size)
        clear b1 b2
        go_wp2_with fail
        go_roundw
        case rel => exact ⟨j + 1, by omega, by go_num, B1.out⟩
        case measure => simp [intOf]; omega
    · obtain rfl : j = l.length := by omega
      go_wp2_with fail
      go_ret
      exact ⟨rfl, hnx⟩
set_option maxRecDepth 100000 in
set_option maxHeartbeats 1000000 in
theorem sameExpr_true {x : Sx.Ex} (h : Sx.Small x) : SC x := by
  induction h with
  | mk k n m l hl _ ih =>
    intro A B k' n' m' l' sa sb sn sc tn tc w hx hs ht
    injection hx with q1 q2 q3 q4
    subst q1 q2 q3 q4
    have E1 : Hid (∀ W, Below w.heap.size w W → Calls Try.prog 18 #[.slice sa sn sc, .slice sb tn tc] W fun e w' => e = .returned (.bool true) ∧ Below W.heap.size W w') := fun W hW => sameExprs_true A B l ih sa sb sn sc tn tc W (hs.later hW (Nat.le_refl _)) (ht.later hW (Nat.le_refl _)) hl
    clear ih hs ht hl
    go_enter Try.func30, Try.ntmps30
    go_wp2_with fail
    refine Calls.mono (E1.out _ (by go_grown)) ?_
    rintro e w1 ⟨rfl, b1⟩
    have B1 : Hid (Below w.heap.size w w1) := Below.trans (by go_grown) (b1.mono (by go_size))
    clear b1
    go_wp2_with fail
    go_ret
    exact ⟨rfl, B1.out⟩
end Go.Proofs.Ytobiedmmjiedlaa

namespace Go.Proofs.Ytobiedmmjiedlaa
open Go.RowKit

/-- One procedure of a name, without parameters and answer, whose body is the slice sl, lies in block g. -/
structure P1 (w : World) (g : Nat) (nm : List UInt8) (sl : Value) : Prop where
  c0 : w.cell? ⟨g, 0, none⟩ = some (.string ⟨nm.toArray⟩)
  c1 : w.cell? ⟨g, 1, none⟩ = some (.slice none 0 0)
  c2 : w.cell? ⟨g, 2, none⟩ = some (.int .i64 0)
  c3 : w.cell? ⟨g, 3, none⟩ = some sl
  lt : g < w.heap.size
theorem P1.kept {w w' : World} {g : Nat} {nm : List UInt8} {sl : Value} (h : P1 w g nm sl) (e : w'.heap[g]? = w.heap[g]?) (hz : w.heap.size ≤ w'.heap.size) : P1 w' g nm sl :=
  ⟨(World.cell?_of_block (w := w) e).trans h.c0, (World.cell?_of_block (w := w) e).trans h.c1, (World.cell?_of_block (w := w) e).trans h.c2, (World.cell?_of_block (w := w) e).trans h.c3, Nat.lt_of_lt_of_le h.lt hz⟩
theorem P1.own {w : World} {base : Nat} {v : Value} {nm : List UInt8} {sl : Value} (h : w.ownsRow base 25 4 v 1 [.string ⟨nm.toArray⟩, .slice none 0 0, .int .i64 0, sl]) : ∃ g cap, v = .slice (some ⟨g, 0, none⟩) 1 cap ∧ 1 ≤ cap ∧ P1 w g nm sl := by
  have hc := @World.ownsRow.cells _ _ _ _ _ _ _ h
  have hl := World.ownsRow.lt h
  rcases h.2 with ⟨_, h0⟩ | ⟨g, cap, cur, rfl, hb, hh, hnc, _⟩
  · cases h0
  · have key : ∀ j u, [Value.string ⟨nm.toArray⟩, .slice none 0 0, .int .i64 0, sl][j]? = some u → w.cell? ⟨g, j, none⟩ = some u := by
      intro j u hu
      have e := @hc g rfl j u hu
      cases j with
      | zero => simpa [Addr.add] using e
      | succ j => simpa [Addr.add] using e
    exact ⟨g, cap, rfl, hnc, key 0 _ rfl, key 1 _ rfl, key 2 _ rfl, key 3 _ rfl, (hl g rfl).2⟩
/-- A program of one procedure, whose one statement prints y, lies in memory from block n on. -/
def GProg (n : Nat) (w : World) (val : Value) (nm : List UInt8) (y : Sx.Ex) : Prop :=
  ∃ g c gb cb sa, val = .agg #[.slice (some ⟨g, 0, none⟩) 1 c] ∧ 1 ≤ c ∧ 1 ≤ cb ∧ n ≤ g ∧ n ≤ gb ∧ P1 w g nm (.slice (some ⟨gb, 0, none⟩) 1 cb) ∧ S1 w gb 8 (.slice sa 1 1) ∧ ExS (fun g => n ≤ g) w (.slice sa 1 1) [y]
theorem GProg.below {n m : Nat} {w w' : World} {val : Value} {nm : List UInt8} {y : Sx.Ex} (h : GProg n w val nm y) (hb : ∀ g, n ≤ g → g < w.heap.size → w'.heap[g]? = w.heap[g]?) (hz : w.heap.size ≤ w'.heap.size) (hm : m ≤ n) : GProg m w' val nm y := by
  obtain ⟨g, c, gb, cb, sa, e, h1, h2, h3, h4, hp, hs, hx⟩ := h
  exact ⟨g, c, gb, cb, sa, e, h1, h2, Nat.le_trans hm h3, Nat.le_trans hm h4, hp.kept (hb g h3 hp.lt) hz, hs.kept (hb gb h4 hs.lt) hz, hx.keep (fun _ _ a => Nat.le_trans hm a) (fun q a hq => World.cell?_of_block (w := w) (hb _ a hq)) hz⟩
theorem Pv.kept {w w' : World} {p r : Nat} {v : Value} {us : List Value} (h : Pv w p v us) (hg : w.grownBy w' (some r)) (h1 : r ≠ p) (h2 : ¬ v.ownBlock = some r) : Pv w' p v us := by
  have e := hg.block p h.lt (fun e => h1 (Option.some.inj e).symm)
  exact ⟨(World.cell?_of_block (w := w) (a := ⟨p, 2, none⟩) e).trans h.c2, (World.frozen?_of_block (w := w) (a := ⟨p, 2, none⟩) e).trans h.f2, World.ownsRow.kept h.ov hg (.inr h2), Nat.lt_of_lt_of_le h.lt hg.size, h.bd⟩
theorem PV.below' {p : Nat} {w w' w'' : World} {v v' u' : Value} (h : PV p w v w' v' u') (b : Below w'.heap.size w' w'') : PV p w v w'' v' u' :=
  ⟨b.os.trans h.os, b.tape.trans h.tape, b.output.trans h.output, Nat.le_trans h.size b.size, fun g hg h0 h1 => by
    obtain ⟨a, c, d⟩ := h.far g hg h0 h1
    exact ⟨(b.block g (Nat.lt_of_lt_of_le hg h.size)).trans a, c, d⟩⟩
/-- Behind the first round of prog. -/
structure Mid (w : World) (p b o cap : Nat) (ts : List Tok) (k1 : Nat) (v : Value) (us : List Value) (nm : List UInt8) (y : Sx.Ex) (val : Value) (W : World) : Prop where
  b0 : B1 W w.heap.size (.slice none 0 0)
  b1 : B1 W (w.heap.size + 1) val
  rd : Rd W p b o cap ts k1
  hk : k1 < ts.length
  gp : GProg (w.heap.size + 2) W (.agg #[val]) nm y
  pv : ∃ v' u', Pv W p v' (us ++ [u']) ∧ PV p w v W v' u' ∧ ¬ v'.ownBlock = some w.heap.size
theorem Mid.of {w w1 w2 w3 : World} {p b o cap : Nat} {ts : List Tok} {k1 : Nat} {v v2 u2 : Value} {us : List Value} {nm : List UInt8} {y : Sx.Ex} {gb cb gc cc : Nat} {sa : Option Addr} (W1 : Below w.heap.size w w1) (Q : B1 w1 (w.heap.size + 1) (.slice none 0 0)) (Q' : B1 w1 w.heap.size (.slice none 0 0)) (nv : ¬ v.ownBlock = some (w.heap.size + 1) ∧ ¬ v.ownBlock = some w.heap.size) (np : p < w.heap.size) (nb : b < w.heap.size)
    (hcb : 1 ≤ cb) (S2 : S1 w2 gb 8 (.slice sa 1 1)) (hg2 : w1.heap.size ≤ gb) (V2 : Pv w2 p v2 (us ++ [u2])) (P2 : PV p w1 v w2 v2 u2) (r2 : Rd w2 p b o cap ts k1) (hl2 : k1 < ts.length) (X2 : ExS (fun g => w1.heap.size ≤ g ∧ ¬ v2.ownBlock = some g ∧ ¬ u2.ownBlock = some g) w2 (.slice sa 1 1) [y])
    (bb : Below w2.heap.size w2 w3) (hgc : w2.heap.size ≤ gc) (hcc : 1 ≤ cc) (P3 : P1 w3 gc nm (.slice (some ⟨gb, 0, none⟩) 1 cb)) :
    Mid w p b o cap ts k1 v us nm y (.slice (some ⟨gc, 0, none⟩) 1 cc) (w3.setCell ⟨w.heap.size + 1, 0, none⟩ (.slice (some ⟨gc, 0, none⟩) 1 cc)) := by
  have z1 := Q.lt
  have k2 := P2.far (w.heap.size + 1) Q.lt (by omega) nv.1
  have k2' := P2.far w.heap.size Q'.lt (by omega) nv.2
  have q3 := (Q.kept k2.1 P2.size).kept (bb.block _ (Q.kept k2.1 P2.size).lt) bb.size
  have q3' := (Q'.kept k2'.1 P2.size).kept (bb.block _ (Q'.kept k2'.1 P2.size).lt) bb.size
  have g4 := set_grown w3 ⟨w.heap.size + 1, 0, none⟩ (.slice (some ⟨gc, 0, none⟩) 1 cc)
  have zz := P2.size
  refine ⟨q3'.kept (g4.block _ q3'.lt (fun e => by have := Option.some.inj e; simp only at this; omega)) g4.size, ⟨World.cell?_setCell_same _ _ _ q3.c, by rw [World.frozen?_setCell]; exact q3.f, by simpa using q3.lt⟩, (r2.later bb).kept g4 (by simp only; omega) (by simp only; omega), hl2, ?_, v2, u2, (V2.later bb).kept g4 (by simp only; omega) k2.2.1, ((P2.from W1).below' bb).grown g4 (by simp), k2'.2.1⟩
  refine ⟨gc, cc, gb, cb, sa, rfl, hcc, hcb, by omega, by omega, P3.kept (g4.block _ P3.lt (fun e => by have := Option.some.inj e; simp only at this; omega)) g4.size, (S2.kept (bb.block _ S2.lt) bb.size).kept (g4.block _ (Nat.lt_of_lt_of_le S2.lt bb.size) (fun e => by have := Option.some.inj e; simp only at this; omega)) g4.size, ?_⟩
  exact ((X2.later bb (Nat.le_refl _)).set (a := ⟨w.heap.size + 1, 0, none⟩) (fun e => by have := e.1; simp only at this; omega) _).mono fun g _ hg => by have := hg.1; omega
end Go.Proofs.Ytobiedmmjiedlaa

namespace Go.Proofs.Ytobiedmmjiedlaa
open Go.RowKit

theorem PV.keep {p : Nat} {w w' : World} {v' u' : Value} (h : PV p w (.slice none 0 0) w' v' u') : Keep (fun g => g = p) w w' := ⟨h.os, h.tape, h.output, h.size, fun k hk hn => (h.far k hk hn (fun e => by cases e)).1⟩
/-- The program lies in the box pb. -/
def GRel (n pb : Nat) (nm : List UInt8) (y : Sx.Ex) (w' : World) : Prop := ∃ sl, GProg n w' (.agg #[sl]) nm y ∧ B1 w' pb sl
end Go.Proofs.Ytobiedmmjiedlaa

namespace Go.Proofs.Ytobiedmmjiedlaa
open Go.RowKit

/-- Tokens in memory that lex.Right takes. -/
structure Toks (w : World) (b o cap : Nat) (ts : List Tok) : Prop where
  ta : Ta w b o ts
  gd : Good ts
  cp : ts.length ≤ cap
  rt : rightL ts = true
  tx : ∀ j, j < ts.length → (ts.getD j tok0).1.text.length ≤ maxLen
end Go.Proofs.Ytobiedmmjiedlaa

namespace Go.Proofs.Ytobiedmmjiedlaa
open Go.RowKit

end Go.Proofs.Ytobiedmmjiedlaa

namespace Go.Proofs.Ytobiedmmjiedlaa
open Go.RowKit

def t1 : List UInt8 := [112, 114, 111, 99, 32, 109, 97, 105, 110, 32, 40, 32, 41, 32, 123, 32, 112, 114, 105, 110, 116, 32, 49, 32, 43, 32, 50, 32, 42, 32, 51, 32, 59, 32, 125]
def t2 : List UInt8 := [112, 114, 111, 99, 32, 102, 32, 40, 32, 105, 110, 116, 32, 97, 32, 44, 32, 41, 32, 123, 32, 125]
def r1 : List (Lx.Tk × Nat) := [(⟨3, [112, 114, 111, 99], 0⟩, 0), (⟨1, [109, 97, 105, 110], 0⟩, 5), (⟨4, [40], 0⟩, 10), (⟨4, [41], 0⟩, 12), (⟨4, [123], 0⟩, 14), (⟨3, [112, 114, 105, 110, 116], 0⟩, 16), (⟨2, [], 1⟩, 22), (⟨4, [43], 0⟩, 24), (⟨2, [], 2⟩, 26), (⟨4, [42], 0⟩, 28), (⟨2, [], 3⟩, 30), (⟨4, [59], 0⟩, 32), (⟨4, [125], 0⟩, 34), (⟨0, [], 0⟩, 35)]
def r2 : List (Lx.Tk × Nat) := [(⟨3, [112, 114, 111, 99], 0⟩, 0), (⟨1, [102], 0⟩, 5), (⟨4, [40], 0⟩, 7), (⟨3, [105, 110, 116], 0⟩, 9), (⟨1, [97], 0⟩, 13), (⟨4, [44], 0⟩, 15), (⟨4, [41], 0⟩, 17), (⟨4, [123], 0⟩, 19), (⟨4, [125], 0⟩, 21), (⟨0, [], 0⟩, 22)]
theorem s1 : Lx.scan t1 = (r1, 0, 0) := by kernel_rfl
theorem s2 : Lx.scan t2 = (r2, 0, 0) := by kernel_rfl
theorem rt1 : rightL (r1.map tkI) = true := by kernel_rfl
theorem rt2 : rightL (r2.map tkI) = true := by kernel_rfl
theorem tx1 : ∀ j, j < (r1.map tkI).length → ((r1.map tkI).getD j tok0).1.text.length ≤ maxLen := by decide
theorem tx2 : ∀ j, j < (r2.map tkI).length → ((r2.map tkI).getD j tok0).1.text.length ≤ maxLen := by decide
/-- 1 + 2 * 3. -/
def y1 : Sx.Ex := .mk 6 [43] 0 [.mk 1 [] 1 [], .mk 6 [42] 0 [.mk 1 [] 2 [], .mk 1 [] 3 []]]
theorem bd1 : Sx.bd (r1.map tkI) 60 1 2 6 = some (.ok y1 11) := by kernel_rfl
end Go.Proofs.Ytobiedmmjiedlaa

namespace Go.Proofs.Ytobiedmmjiedlaa
open Go.RowKit

end Go.Proofs.Ytobiedmmjiedlaa

namespace Go.Proofs.Ytobiedmmjiedlaa
open Go.RowKit

theorem three_cell_s (w : World) (x y z : ByteArray) (t : TypeId) : ∀ (j : Nat) u, [Value.string x, Value.string y, Value.string z][j]? = some u → (w.alloc (.cells #[.string x, .string y, .string z] t)).cell? ((⟨w.heap.size, 0, none⟩ : Addr).add j) = some u := by
  intro j u hj
  match j, hj with
  | 0, hj => simp at hj; subst hj; simp [Addr.add]
  | 1, hj => simp at hj; subst hj; simp [Addr.add]
  | 2, hj => simp at hj; subst hj; simp [Addr.add]
theorem S1.ws {q g : Nat} {w w' : World} {v v' : Value} {kind : Int} {sl : Value} (h : S1 w g kind sl) (s : WS q w v w' v') (hg : g < q) : S1 w' g kind sl := h.kept (s.low g hg) s.size
end Go.Proofs.Ytobiedmmjiedlaa

namespace Go.Proofs.Ytobiedmmjiedlaa
open Go.RowKit

/-- The words of such a procedure. -/
def pwords (nm : List UInt8) (ws : List (List UInt8)) : List (List UInt8) := [[112, 114, 111, 99], nm, [40], [41], [123], [112, 114, 105, 110, 116]] ++ ws ++ [[59], [125]]
end Go.Proofs.Ytobiedmmjiedlaa

namespace Go.Proofs.Ytobiedmmjiedlaa
open Go.RowKit

def t3 : List UInt8 := [45, 32, 97, 32, 91, 32, 49, 32, 93, 32, 60, 32, 50, 32, 38, 38, 32, 116, 114, 117, 101]
def r3 : List (Lx.Tk × Nat) := [(⟨4, [45], 0⟩, 0), (⟨1, [97], 0⟩, 2), (⟨4, [91], 0⟩, 4), (⟨2, [], 1⟩, 6), (⟨4, [93], 0⟩, 8), (⟨4, [60], 0⟩, 10), (⟨2, [], 2⟩, 12), (⟨4, [38, 38], 0⟩, 14), (⟨3, [116, 114, 117, 101], 0⟩, 17), (⟨0, [], 0⟩, 21)]
theorem s3 : Lx.scan t3 = (r3, 0, 0) := by kernel_rfl
def y3l : List Sx.Ex := [.mk 6 [60] 0 [.mk 5 [45] 0 [.mk 4 [97] 0 [.mk 1 [] 1 []]], .mk 1 [] 2 []], .mk 2 [] 1 []]
theorem bd3 : Sx.bd (r3.map tkI) 60 1 1 0 = some (.ok (.mk 6 [38, 38] 0 y3l) 9) := by kernel_rfl
theorem rx1 : Sx.rx 20 y1 = true := by kernel_rfl
theorem rx3 : Sx.rx 20 (.mk 6 [38, 38] 0 y3l) = true := by kernel_rfl
def w1l : List (List UInt8) := [[49], [43], [40], [50], [42], [51], [41]]
def w3l : List (List UInt8) := [[40], [45], [97], [91], [49], [93], [60], [50], [41], [38, 38], [116, 114, 117, 101]]
theorem wx1 : Sx.wx 20 y1 2 = some (w1l, 3) := by kernel_rfl
theorem wx3 : Sx.wx 20 (.mk 6 [38, 38] 0 y3l) 1 = some (w3l, 4) := by kernel_rfl
theorem j1 : Lib.join (pwords [109, 97, 105, 110] w1l) [32] = [112, 114, 111, 99, 32, 109, 97, 105, 110, 32, 40, 32, 41, 32, 123, 32, 112, 114, 105, 110, 116, 32, 49, 32, 43, 32, 40, 32, 50, 32, 42, 32, 51, 32, 41, 32, 59, 32, 125] := by kernel_rfl
theorem j3 : Lib.join w3l [32] = [40, 32, 45, 32, 97, 32, 91, 32, 49, 32, 93, 32, 60, 32, 50, 32, 41, 32, 38, 38, 32, 116, 114, 117, 101] := by kernel_rfl
end Go.Proofs.Ytobiedmmjiedlaa

namespace Go.Proofs.Ytobiedmmjiedlaa
open Go.RowKit

/-- One, whole. -/
theorem rone_any (p b o cap : Nat) (ts : List Tok) (gd : Good ts) (rt : RT ts) (f : Nat) (hu : UCr p b o cap ts f) (he : ECr p b o cap ts f) : UCr p b o cap ts (f + 1) := by
  intro d k r w hd h hr
  by_cases t45 : (ts.getD k tok0).1.text = [45]
  · exact rone_minus w p b o cap ts k d f r h gd rt hd hu t45 hr
  by_cases t33 : (ts.getD k tok0).1.text = [33]
  · exact rone_not w p b o cap ts k d f r h gd rt hd hu t45 t33 hr
  by_cases t40 : (ts.getD k tok0).1.text = [40]
  · exact rone_brackets w p b o cap ts k d f r h gd rt hd he t45 t33 t40 hr
  by_cases ttr : (ts.getD k tok0).1.text = [116, 114, 117, 101]
  · exact rone_true w p b o cap ts k d f r h gd rt hd t45 t33 t40 ttr hr
  by_cases tfa : (ts.getD k tok0).1.text = [102, 97, 108, 115, 101]
  · exact rone_false w p b o cap ts k d f r h gd rt hd t45 t33 t40 ttr tfa hr
  by_cases k2 : (ts.getD k tok0).1.kind = 2
  · exact rone_int w p b o cap ts k d f r h gd rt hd t45 t33 t40 ttr tfa k2 hr
  by_cases k1 : (ts.getD k tok0).1.kind = 1
  · exact rone_var w p b o cap ts k d f r h gd rt hd he t45 t33 t40 ttr tfa k1 hr
  · refine rone_none w p b o cap ts k d f r h gd rt hd ?_ hr
    unfold Sx.begE Sx.isUn
    rw [decide_eq_false k2, decide_eq_false k1, decide_eq_false ttr, decide_eq_false tfa, decide_eq_false t40, decide_eq_false t45, decide_eq_false t33]
    rfl
end Go.Proofs.Ytobiedmmjiedlaa
namespace Go.Proofs.Ytobiedmmjiedlaa
open Go.RowKit

/-- The document's reading, for every fuel of the plain function. -/
theorem rread_any (p b o cap : Nat) (ts : List Tok) (gd : Good ts) (rt : RT ts) : ∀ f, UCr p b o cap ts f ∧ TCr p b o cap ts f := by
  intro f
  induction f using Nat.strongRecOn with
  | _ f ih =>
    cases f with
    | zero => exact ⟨fun _ _ _ _ _ _ hr => (by rw [Sx.un] at hr; cases hr), fun _ _ _ _ _ _ _ _ _ hr => (by rw [Sx.bd] at hr; cases hr)⟩
    | succ f =>
      have ihF := ih f (Nat.lt_succ_self _)
      exact ⟨rone_any p b o cap ts gd rt f ihF.1 (rexpr_any p b o cap ts rt f ihF.2), rtight_all p b o cap ts gd rt f (fun g hg => (ih g (by omega)).1) (fun g hg => (ih g (by omega)).2)⟩
theorem rtk_no {t : Lx.Tk} (h : rtk t = true) (h0 : ¬ t.text = []) (hn : Lx.isName t.text = false) : t.kind = 3 ∨ t.kind = 4 := by
  have he : t.text.isEmpty = false := by cases ht : t.text with | nil => exact absurd ht h0 | cons a l => rfl
  unfold rtk at h
  by_cases c0 : t.kind = 0
  · rw [if_pos c0, he] at h; cases h
  rw [if_neg c0] at h
  by_cases c1 : t.kind = 1
  · rw [if_pos c1, hn] at h; cases h
  rw [if_neg c1] at h
  by_cases c3 : t.kind = 3
  · exact .inl c3
  rw [if_neg c3] at h
  by_cases c2 : t.kind = 2
  · rw [if_pos c2, he] at h; cases h
  rw [if_neg c2] at h
  by_cases c4 : t.kind = 4
  · exact .inr c4
  · rw [if_neg c4] at h; cases h
theorem rtk_key {t : Lx.Tk} (h : rtk t = true) (h3 : t.kind = 3) : Lx.isKey t.text = true := by
  unfold rtk at h
  rw [if_neg (by omega), if_neg (by omega), if_pos h3] at h
  exact (Bool.and_eq_true_iff.1 h).1
theorem binds_no {s : List UInt8} (h : ¬ Sx.bindsB s = 0) : ¬ s = [] ∧ Lx.isName s = false ∧ Lx.isKey s = false := by
  unfold Sx.bindsB at h
  repeat (split at h; · rename_i e; subst e; exact ⟨by decide, by decide, by decide⟩)
  exact absurd rfl h
theorem right_cut {ts : List Tok} (h : rightL ts = true) : ∃ m, ts.length = m + 1 ∧ (∀ j, j < m → midTk (ts.getD j tok0) = true) ∧ (ts.getD m tok0).1 = ⟨0, [], 0⟩ := by
  unfold rightL at h
  split at h
  · cases h
  · rename_i h0
    refine ⟨ts.length - 1, by omega, ?_, ?_⟩
    · intro j hj
      rw [Bool.and_eq_true] at h
      exact List.all_eq_true.1 h.1 j (List.mem_range.2 hj)
    · simp only [Bool.and_eq_true, decide_eq_true_eq] at h
      obtain ⟨_, hk, hr⟩ := h
      generalize (ts.getD (ts.length - 1) tok0).1 = t at hk hr
      obtain ⟨k, l, n⟩ := t
      have hk : k = 0 := hk
      subst hk
      unfold rtk at hr
      rw [if_pos rfl] at hr
      simp only [Bool.and_eq_true, decide_eq_true_eq, List.isEmpty_iff] at hr
      obtain ⟨rfl, rfl⟩ := hr
      rfl
theorem good_of {ts : List Tok} (h : rightL ts = true) (hl : ts.length ≤ 1000000) : Good ts := by
  obtain ⟨m, hm, _, he⟩ := right_cut h
  exact ⟨by omega, hl, by rw [show ts.length - 1 = m by omega]; exact he⟩
theorem rtk_of {ts : List Tok} (h : rightL ts = true) (hl : ts.length ≤ 1000000) (k : Nat) (hk : ¬ Sx.tx ts k = []) : rtk (ts.getD k tok0).1 = true := by
  obtain ⟨m, hm, hmid, he⟩ := right_cut h
  have hk' := (good_of h hl).ends.txt hk
  have := hmid k (by omega)
  unfold midTk at this
  exact (Bool.and_eq_true_iff.1 this).2
theorem rt_of {ts : List Tok} (h : rightL ts = true) (hl : ts.length ≤ 1000000) : RT ts := by
  refine ⟨fun k hk => ?_, fun k hk => ?_⟩
  · have hne : ¬ Sx.tx ts k = [] := by
      intro e
      rw [e] at hk
      simp at hk
    refine rtk_no (rtk_of h hl k hne) hne ?_
    show Lx.isName (Sx.tx ts k) = false
    rcases hk with e | e | e | e | e | e | e | e <;> rw [e] <;> decide
  · obtain ⟨h1, h2, h3⟩ := binds_no hk
    have hr := rtk_of h hl k h1
    rcases rtk_no hr h1 h2 with h4 | h4
    · have := rtk_key hr h4
      have e : Lx.isKey (ts.getD k tok0).1.text = false := h3
      rw [e] at this
      cases this
    · exact h4
/-- What ReadExpr answers. -/
def RXof (w : World) : Sx.Rs → Ending → World → Prop
  | .ok y k', e, w' => RXok w y k' e w'
  | .bad a er, e, w' => RXbad w a er e w'
/-- The document's reader, new. -/
theorem Ri.new {w : World} {b o cap : Nat} {ts : List Tok} {k : Nat} (ta : Ta w b o ts) (hk : k < ts.length) (hl : ts.length ≤ 1000000) (t : TypeId) : Ri (w.alloc (.cells #[.slice (some ⟨b, o, none⟩) ts.length cap, .int .i64 (k : Int), .int .i64 0, .int .i64 0] t)) w.heap.size b o cap ts k 0 0 :=
  ⟨by simp [go_sem], by simp [go_sem], by simp [go_sem], by simp [go_sem], World.frozen?_alloc_at _ _ _ _ rfl, World.frozen?_alloc_at _ _ _ _ rfl, World.frozen?_alloc_at _ _ _ _ rfl, ta.later (box_below _ _), Nat.ne_of_lt ta.lt, by simp, hk, hl⟩
end Go.Proofs.Ytobiedmmjiedlaa
namespace Go.Proofs.Ytobiedmmjiedlaa
open Go.RowKit

/-- What both answer. -/
def RX (w : World) (x : Sx.Ex) (n i er : Int) (e : Ending) (w' : World) : Prop :=
  ∃ kk nn mm sa sn sc ll, x = .mk kk nn mm ll ∧ e = .returned (.tuple #[.agg #[.int .i64 kk, .string ⟨(nn : List UInt8).toArray⟩, .int .i64 mm, .slice sa sn sc], .int .i64 n, .int .i64 i, .int .i64 er]) ∧ ExS (fun g => w.heap.size ≤ g) w' (.slice sa sn sc) ll ∧ Below w.heap.size w w'
def zEx : Sx.Ex := .mk 0 [] 0 []
def RXp (w : World) : Sx.Rs → Ending → World → Prop
  | .ok y k', e, w' => RX w y k' 0 0 e w'
  | .bad a er, e, w' => RX w zEx 0 a er e w'
theorem RXok.rx {w : World} {y : Sx.Ex} {k : Nat} {e : Ending} {w' : World} (h : RXok w y k e w') : RX w y k 0 0 e w' := h
theorem RXbad.rx {w : World} {a er : Int} {e : Ending} {w' : World} (h : RXbad w a er e w') : RX w zEx 0 a er e w' := ⟨0, [], 0, none, 0, 0, [], rfl, h.1, .nil _ _, h.2⟩
theorem zEx_small : Sx.Small zEx := Sx.Small.none _ _ _
end Go.Proofs.Ytobiedmmjiedlaa

namespace Go.Proofs.Ytobiedmmjiedlaa
open Go.RowKit

/-- Token k is the key word or sign s, and there is one behind it. -/
structure TkA (ts : List Tok) (k : Nat) (s : List UInt8) : Prop where
  tx : (ts.getD k tok0).1.text = s
  kd : (ts.getD k tok0).1.kind = 3 ∨ (ts.getD k tok0).1.kind = 4
  lt : k + 1 < ts.length
/-- Token k is the name n, and there is one behind it. -/
structure NmA (ts : List Tok) (k : Nat) (n : List UInt8) : Prop where
  tx : (ts.getD k tok0).1.text = n
  kd : (ts.getD k tok0).1.kind = 1
  key : Lx.isKey n = false
  lt : k + 1 < ts.length
/-- A list of expressions was read. -/
def PostL (p b o cap : Nat) (ts : List Tok) (w : World) (l : List Sx.Ex) (k' : Nat) (e : Ending) (w' : World) : Prop :=
  ∃ sa sc, e = .returned (.slice sa l.length sc) ∧ ExS (fun g => w.heap.size ≤ g) w' (.slice sa l.length sc) l ∧ Ri w' p b o cap ts k' 0 0 ∧ Kp p w w'
set_option maxRecDepth 100000 in
set_option maxHeartbeats 2000000 in
theorem rbr_ok (p b o cap : Nat) (ts : List Tok) (f d k k' : Nat) (x : Sx.Ex) (he : ECr p b o cap ts f) (hd : d ≤ 61) (w : World) (h : Ri w p b o cap ts k 0 0) (t0 : TkA ts k [40]) (hx : Sx.bd ts f 1 d (k + 1) = some (.ok x k')) (t1 : TkA ts k' [41]) :
    Calls Try.prog 83 #[.pointer (some ⟨p, 0, none⟩), .int .i64 (d : Int)] w (PostL p b o cap ts w [x] (k' + 1)) := by
  have E0 : Hid _ := rwant_yes w p b o cap ts k 0 [40] h t0.tx t0.kd t0.lt
  have EX : Hid (∀ W, Ri W p b o cap ts (k + 1) 0 0 → _) := fun W hW => he d (k + 1) _ W hd hW hx
  have EW : Hid (∀ W, Ri W p b o cap ts k' 0 0 → _) := fun W hW => rwant_yes W p b o cap ts k' 0 [41] hW t1.tx t1.kd t1.lt
  have hp : Hid (p < w.heap.size) := h.lt
  clear h t0 hx t1 he hd
  go_enter Try.func83, Try.ntmps83
  go_wp2_with fail
  refine Calls.mono E0.out ?_
  rintro e w1 ⟨rfl, r1, k1⟩
  have K1 : Hid _ := k1
  have EX1 : Hid _ := EX.out w1 r1
  clear r1 k1 E0
  go_wp2_with fail
  refine Calls.mono EX1.out ?_
  rintro e w2 ⟨kk, nn, mm, sa, sn, sc, ll, rfl, rfl, hs, r2, k2⟩
  have K2 : Hid _ := K1.out.trans k2
  have z12 : w1.heap.size ≤ w2.heap.size := k2.size
  have z01 : w.heap.size ≤ w1.heap.size := K1.out.size
  have ln := hs.len
  subst ln
  have bw := box_below w2 (.cells #[.int .i64 kk, .string ⟨nn.toArray⟩, .int .i64 mm, .slice sa ll.length sc] 54)
  have EW1 : Hid _ := EW.out _ (r2.later bw)
  have HS : Hid _ := hs
  have BX : Hid _ := Bx.new w2 54 (.int .i64 kk) (.string ⟨nn.toArray⟩) (.int .i64 mm) (.slice sa ll.length sc)
  have BW : Hid _ := bw
  clear hs r2 k2 bw EX1
  go_wp2_with fail
  refine Calls.mono EW1.out ?_
  rintro e w3 ⟨rfl, r3, k3⟩
  have pn : w2.heap.size ≠ p := by have := hp.out; omega
  have X3 := BX.out.kp k3 pn
  have K3 : Hid (Kp p w w3) := (K2.out.trans (Keep.of_below BW.out (Nat.le_refl _))).trans k3
  have S3 : Hid (ExS (fun g => w.heap.size ≤ g) w3 (.slice sa ll.length sc) ll) := (((HS.out.later BW.out (Nat.le_refl _)).kp k3 (fun e => by have := hp.out; omega)).mono fun g _ hg => Nat.le_trans z01 hg)
  have R3 : Hid _ := r3
  have z3 : w2.heap.size < w3.heap.size := X3.lt
  obtain ⟨d0, d1, d2, d3, e0, e1, e2, e3, zt⟩ := X3
  clear r3 k3 EW1
  go_wp2_with fail
  go_ret
  refine ⟨_, _, rfl, S3.out.one (by omega) kk nn mm 54, R3.out.later (box_below _ _), K3.out.alloc _⟩
set_option maxRecDepth 100000 in
set_option maxHeartbeats 1000000 in
theorem rtyp_int (p b o cap : Nat) (ts : List Tok) (k : Nat) (w : World) (h : Ri w p b o cap ts k 0 0) (t0 : TkA ts k [105, 110, 116]) :
    Calls Try.prog 58 #[.pointer (some ⟨p, 0, none⟩)] w fun e w' => e = .returned (.int .i64 1) ∧ Ri w' p b o cap ts (k + 1) 0 0 ∧ Kp p w w' := by
  have E0 : Hid _ := rgot_yes w p b o cap ts k 0 [105, 110, 116] h t0.tx t0.kd t0.lt
  clear h t0
  go_enter Try.func58, Try.ntmps58
  go_wp2_with fail
  refine Calls.mono E0.out ?_
  rintro e w1 ⟨rfl, r1, k1⟩
  have R1 : Hid _ := r1
  have K1 : Hid _ := k1
  clear r1 k1
  go_wp2_with fail
  go_ret
  exact ⟨rfl, R1.out, K1.out⟩
set_option maxRecDepth 100000 in
set_option maxHeartbeats 1000000 in
theorem rtyp_bool (p b o cap : Nat) (ts : List Tok) (k : Nat) (w : World) (h : Ri w p b o cap ts k 0 0) (t0 : TkA ts k [98, 111, 111, 108]) :
    Calls Try.prog 58 #[.pointer (some ⟨p, 0, none⟩)] w fun e w' => e = .returned (.int .i64 2) ∧ Ri w' p b o cap ts (k + 1) 0 0 ∧ Kp p w w' := by
  have E0 : Hid _ := rgot_no w p b o cap ts k 0 0 [105, 110, 116] h (.inr (by rw [t0.tx]; decide))
  have E1 : Hid (∀ W, Ri W p b o cap ts k 0 0 → _) := fun W hW => rgot_yes W p b o cap ts k 0 [98, 111, 111, 108] hW t0.tx t0.kd t0.lt
  have H : Hid _ := h
  clear h t0
  go_enter Try.func58, Try.ntmps58
  go_wp2_with fail
  refine Calls.mono E0.out ?_
  rintro e w1 ⟨rfl, b1⟩
  have B1 : Hid _ := b1
  have E2 : Hid _ := E1.out w1 (H.out.later b1)
  clear b1
  go_wp2_with fail
  refine Calls.mono E2.out ?_
  rintro e w2 ⟨rfl, r2, k2⟩
  have R2 : Hid _ := r2
  have K2 : Hid _ := (Keep.of_below B1.out (Nat.le_refl _) : Kp p w w1).trans k2
  clear r2 k2
  go_wp2_with fail
  go_ret
  exact ⟨rfl, R2.out, K2.out⟩
set_option maxRecDepth 100000 in
set_option maxHeartbeats 1000000 in
theorem rtyp_none (p b o cap : Nat) (ts : List Tok) (k : Nat) (w : World) (h : Ri w p b o cap ts k 0 0) (t0 : ¬ (ts.getD k tok0).1.text = [105, 110, 116]) (t1 : ¬ (ts.getD k tok0).1.text = [98, 111, 111, 108]) :
    Calls Try.prog 58 #[.pointer (some ⟨p, 0, none⟩)] w fun e w' => e = .returned (.int .i64 0) ∧ Below w.heap.size w w' := by
  have E0 : Hid _ := rgot_no w p b o cap ts k 0 0 [105, 110, 116] h (.inr t0)
  have E1 : Hid (∀ W, Ri W p b o cap ts k 0 0 → _) := fun W hW => rgot_no W p b o cap ts k 0 0 [98, 111, 111, 108] hW (.inr t1)
  have H : Hid _ := h
  clear h t0 t1
  go_enter Try.func58, Try.ntmps58
  go_wp2_with fail
  refine Calls.mono E0.out ?_
  rintro e w1 ⟨rfl, b1⟩
  have B1 : Hid _ := b1
  have E2 : Hid _ := E1.out w1 (H.out.later b1)
  clear b1
  go_wp2_with fail
  refine Calls.mono E2.out ?_
  rintro e w2 ⟨rfl, b2⟩
  have B2 : Hid _ := B1.out.trans (b2.mono B1.out.size)
  clear b2
  go_wp2_with fail
  go_ret
  exact ⟨rfl, B2.out⟩
end Go.Proofs.Ytobiedmmjiedlaa
