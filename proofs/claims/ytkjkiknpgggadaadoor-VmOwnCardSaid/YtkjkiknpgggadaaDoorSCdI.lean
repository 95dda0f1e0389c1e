/- Layer 8, plain: instructions' lines there and back. No Go in sight; no condition beyond numbers of 64 bits. -/
/- Layer 8: the operation of a word, the line of an instruction (the program's operation, Text). -/
/- Layer 8: the lines of a code (the program's Print), for every code of at most 500 instructions. -/
/- Layer 8: whether all instructions of a code are such as may be (the program's hasForms). -/
/- Layer 8: reach, as it is used; the climber's rows. -/
import Derived.Test.YtkjkiknpgggadaaDoorSCdA
import Derived.Test.YtkjkiknpgggadaaDoorSWordsPl
import Derived.Test.YtkjkiknpgggadaaDoorSGrN
import Derived.Test.YtkjkiknpgggadaaDoorSCdB
import Derived.Test.YtkjkiknpgggadaaDoorRows
import Derived.WalkKit
import Derived.WalkMore
import Derived.WalkSpells
import Derived.WalkLawsBesides
import Derived.Shelf.Small.Wraps
import Derived.Shelf.Strings.Prefix
import Derived.Test.YtkjkiknpgggadaaDoorProg
import Derived.Lib.AppendIntMem
import Derived.Deep.QuietTactic
import Derived.BigQuiet
import Derived.Shelf.Strings.Builder1
import Derived.RowKit
import Derived.KernelRfl
import Derived.Test.YtkjkiknpgggadaaDoorSCdC
namespace Go.Proofs.YtkjkiknpgggadaaDoor.Cd
open Go.RowKit

def wordL : List (List UInt8) := [[], [112, 117, 115, 104], [108, 111, 97, 100], [115, 116, 111, 114, 101], [105, 110, 100, 101, 120], [112, 117, 116], [99, 108, 101, 97, 114], [97, 100, 100], [115, 117, 98], [109, 117, 108], [100, 105, 118], [109, 111, 100], [108, 101, 115, 115], [109, 111, 115, 116], [115, 97, 109, 101], [110, 111, 116], [110, 101, 103], [106, 117, 109, 112], [122, 101, 114, 111], [99, 97, 108, 108], [108, 101, 97, 118, 101], [112, 114, 105, 110, 116], [114, 101, 97, 100], [116, 101, 115, 116], [109, 97, 114, 107], [100, 114, 111, 112]]
def wd (op : Int) : List UInt8 := wordL.getD op.toNat []
def lw (i : In) : List (List UInt8) := [wd i.op, Lib.itoa i.n, Lib.itoa i.m].take (1 + (nm i.op).toNat)
def tx (i : In) : List UInt8 := Lib.join (lw i) [32]
def opOf (w : List UInt8) : Nat := if w = [] then 0 else if wordL.idxOf w < 26 then wordL.idxOf w else 0
theorem nm_all : ∀ k : Nat, k < 26 → numsL.getD k 0 = 0 ∨ numsL.getD k 0 = 1 ∨ numsL.getD k 0 = 2 := by decide
theorem nm_is (op : Int) : nm op = 0 ∨ nm op = 1 ∨ nm op = 2 := by
  unfold nm
  by_cases h : op.toNat < 26
  · exact nm_all _ h
  · left
    rw [List.getD_eq_getElem?_getD, List.getElem?_eq_none (by show 26 ≤ _; omega)]
    rfl
theorem word_some : ∀ k : Nat, k < 26 → 1 ≤ k → wordL.getD k [] ≠ [] := by decide +kernel
theorem hl_op {i : In} (h : hl i = true) : 1 ≤ i.op ∧ i.op ≤ 25 ∧ (nm i.op = 0 → i.n = 0) ∧ (nm i.op ≤ 1 → i.m = 0) := by
  unfold hl at h
  simp only [Bool.and_eq_true, decide_eq_true_eq, Bool.or_eq_true, beq_iff_eq] at h
  obtain ⟨⟨⟨h1, h2⟩, h3⟩, h4⟩ := h
  exact ⟨h1, h2, fun e => by omega, fun e => by omega⟩
def mk (s : List UInt8) : In :=
  if s = [] then ⟨0, 0, 0⟩ else match Pl.ws s with
  | [] => ⟨0, 0, 0⟩
  | [a] => ⟨opOf a, 0, 0⟩
  | [a, b] => ⟨opOf a, (Pl.parse b).getD 0, 0⟩
  | a :: b :: c :: _ => ⟨opOf a, (Pl.parse b).getD 0, (Pl.parse c).getD 0⟩
end Go.Proofs.YtkjkiknpgggadaaDoor.Cd

namespace Go.Proofs.YtkjkiknpgggadaaDoor
open Go.RowKit
set_option linter.unusedVariables false
set_option linter.unusedSimpArgs false

namespace Cd
end Cd
abbrev sE (l : List UInt8) (e : Int) : Value := .tuple #[.string ⟨l.toArray⟩, .int .i64 e]
def txE (i : Cd.In) : Value := if Cd.hl i = true then sE (Cd.tx i) 0 else sE [] 61
theorem word_len : ∀ k : Nat, k < 26 → (Cd.wordL.getD k []).length ≤ 30 := by decide +kernel
end Go.Proofs.YtkjkiknpgggadaaDoor

namespace Go.Proofs.YtkjkiknpgggadaaDoor
open Go.RowKit
set_option linter.unusedVariables false
set_option linter.unusedSimpArgs false

namespace Cd
def lt (i : In) : List UInt8 := if hl i = true then tx i else [63]
def ln (k : Nat) (i : In) : List UInt8 := Lib.itoa k ++ 32 :: lt i ++ [10]
def pr : Nat → List In → List UInt8
  | _, [] => []
  | k, i :: r => ln k i ++ pr (k + 1) r
end Cd
abbrev coB (ia : Option Addr) (il ic : Nat) (c : Cd.Co) : Obj := .cells #[.slice ia il ic, .int .i64 c.cells, .int .i64 c.params, .bool c.ans] 41
abbrev coV (ia : Option Addr) (ic : Nat) (c : Cd.Co) : Value := .agg #[.slice ia c.ins.length ic, .int .i64 c.cells, .int .i64 c.params, .bool c.ans]
end Go.Proofs.YtkjkiknpgggadaaDoor

namespace Go.Proofs.YtkjkiknpgggadaaDoor
open Go.RowKit
set_option linter.unusedVariables false

def Cd.fm (B : Int) (l : List Cd.Co) (c : Cd.Co) : Bool := c.ins.all fun i => Cd.hl i && Cd.al B l c i
theorem cdFm_no {B : Int} {l : List Cd.Co} {c : Cd.Co} {j : Nat} {i : Cd.In} (e : c.ins[j]? = some i) (h : (Cd.hl i && Cd.al B l c i) = false) : Cd.fm B l c = false := by
  cases hh : Cd.fm B l c with
  | false => rfl
  | true =>
    have := List.all_eq_true.1 hh i (List.mem_of_getElem? e)
    rw [h] at this
    cases this
theorem cdFm_yes {B : Int} {l : List Cd.Co} {c : Cd.Co} (h : ∀ j i, j < c.ins.length → c.ins[j]? = some i → (Cd.hl i && Cd.al B l c i) = true) : Cd.fm B l c = true := by
  refine List.all_eq_true.2 fun i hi => ?_
  obtain ⟨j, hj⟩ := List.getElem?_of_mem hi
  exact h j i (List.getElem?_eq_some_iff.1 hj).1 hj
set_option maxRecDepth 100000 in
set_option maxHeartbeats 4000000 in
theorem cdFm_any (B p : Nat) (la : Option Addr) (lc : Nat) (l : List Cd.Co) (ia : Option Addr) (ic : Nat) (c : Cd.Co) (hv wv : Value) (w : World) (h : ClA B w p la lc l ia ic c hv wv) (hc : 0 ≤ c.cells ∧ c.cells ≤ 65536) :
    Calls Tryd.prog 74 #[.pointer (some ⟨p, 0, none⟩)] w fun e w' => e = .returned (.bool (Cd.fm Cd.top l c)) ∧ Below w.heap.size w w' := by
  have HC : Hid (ClA B w p la lc l ia ic c hv wv) := h
  have HZ : Hid (0 ≤ c.cells ∧ c.cells ≤ 65536) := hc
  have p1 := h.cl.cell.2.1
  have HL : Hid (c.ins.length ≤ 1000000000000000) := h.is.1
  clear h hc
  obtain ⟨n, hn⟩ : ∃ n, n = c.ins.length := ⟨_, rfl⟩
  rw [← hn] at p1
  have HN : Hid (n = c.ins.length) := hn
  clear hn
  go_enter Tryd.func74, Tryd.ntmps74
  go_wp2_with fail
  go_loopw [11] (fun i wr => ∃ j : Nat, j ≤ n ∧ i = .int .i64 j ∧ Hid (Below w.heap.size w wr) ∧ Hid (∀ q i, q < j → c.ins[q]? = some i → (Cd.hl i && Cd.al Cd.top l c i) = true)) (fun i _ => n - (intOf i).toNat)
  case atStart => exact ⟨0, by omega, rfl, Below.refl _ _, fun q _ hq => absurd hq (Nat.not_lt_zero q)⟩
  case round =>
    obtain ⟨j, hj, rfl, BR, N⟩ := hrel
    by_cases hlt : j < n
    · obtain ⟨x, ex⟩ : ∃ x, c.ins[j]? = some x := ⟨_, List.getElem?_eq_getElem (by rw [← HN.out]; exact hlt)⟩
      have CR := HC.out.later BR.out
      obtain ⟨g, o, rfl, hg, at_⟩ := CR.is.at ex
      have c0 := at_.c0
      have c1 := at_.c1
      have c2 := at_.c2
      have EX : Hid (c.ins[j]? = some x) := ex
      obtain ⟨W4, hW4⟩ : ∃ W4, W4 = wr.alloc (inB x) := ⟨_, rfl⟩
      obtain ⟨bx, hbx⟩ : ∃ bx, bx = wr.heap.size := ⟨_, rfl⟩
      obtain ⟨t0, t1, t2, b4⟩ := in_box wr x bx W4 hbx hW4
      have C4 := CR.later b4
      have zb : bx < W4.heap.size := by rw [hbx, hW4]; simp
      have E1 : Hid _ := cdHasLine_any x B W4 C4.hB C4.tn
      have E2 : Hid (∀ W, Below W4.heap.size W4 W → Calls Tryd.prog 89 #[.pointer (some ⟨p, 0, none⟩), inV x] W fun e w' => e = .returned (.bool (Cd.al Cd.top l c x)) ∧ Below W.heap.size W w') := fun W hW => cdAl_any x B p la lc l _ ic c hv wv W (C4.later hW) HZ.out
      have B4 : Hid (Below w.heap.size w W4) := BR.out.trans (b4.mono BR.out.size)
      have hji : (j : Int) < (n : Int) := by omega
      have hj0 : (0 : Int) ≤ (j : Int) := by omega
      clear CR C4 at_ b4 ex
      go_upto_region 4 with fail
      rw [← hW4, ← hbx]
      clear hW4 hbx c0 c1 c2
      go_wp2_with fail
      refine Calls.mono E1.out ?_
      rintro e5 w5 ⟨rfl, b5⟩
      have s0 := (b5.cell (p := ⟨bx, 0, none⟩) zb).trans t0
      have s1 := (b5.cell (p := ⟨bx, 1, none⟩) zb).trans t1
      have s2 := (b5.cell (p := ⟨bx, 2, none⟩) zb).trans t2
      have B5 : Hid (Below W4.heap.size W4 w5) := b5
      clear b5 t0 t1 t2
      cases hh : Cd.hl x with
      | false =>
        have G : Hid (false = Cd.fm Cd.top l c) := (cdFm_no EX.out (by rw [hh]; rfl)).symm
        clear hh
        go_wp2_with fail
        go_ret
        exact ⟨retB G.out, B4.out.trans (B5.out.mono B4.out.size)⟩
      | true =>
        have HH : Hid (Cd.hl x = true) := hh
        clear hh
        go_wp2_with fail
        refine Calls.mono (E2.out _ B5.out) ?_
        rintro e6 w6 ⟨rfl, b6⟩
        have B6 : Hid (Below w.heap.size w w6) := (B4.out.trans (B5.out.mono B4.out.size)).trans (b6.mono (Nat.le_trans B4.out.size B5.out.size))
        clear b6 s0 s1 s2
        cases ha : Cd.al Cd.top l c x with
        | false =>
          have G : Hid (false = Cd.fm Cd.top l c) := (cdFm_no EX.out (by rw [HH.out, ha]; rfl)).symm
          clear ha
          go_wp2_with fail
          go_ret
          exact ⟨retB G.out, B6.out⟩
        | true =>
          have G : Hid (∀ q i, q < j + 1 → c.ins[q]? = some i → (Cd.hl i && Cd.al Cd.top l c i) = true) := fun q i hq ei => by
            by_cases hq2 : q < j
            · exact N.out q i hq2 ei
            · have e : q = j := by omega
              rw [e, EX.out] at ei
              cases ei
              rw [HH.out, ha]
              rfl
          clear ha N
          have hL : n ≤ 1000000000000000 := by have := HL.out; have := HN.out; omega
          go_wp2_with fail
          go_roundw
          case rel => exact ⟨j + 1, by omega, by go_num, B6, G⟩
          case measure => simp [intOf]; omega
    · obtain rfl : j = n := by omega
      have G : Hid (true = Cd.fm Cd.top l c) := (cdFm_yes fun q i hq ei => N.out q i (by rw [HN.out]; exact hq) ei).symm
      clear N
      go_wp2_with fail
      go_ret
      exact ⟨retB G.out, BR.out⟩
end Go.Proofs.YtkjkiknpgggadaaDoor

namespace Go.Proofs.YtkjkiknpgggadaaDoor
open Go.RowKit
set_option linter.unusedVariables false

structure RcQ (B p gh : Nat) (la : Option Addr) (lc : Nat) (l : List Cd.Co) (ia : Option Addr) (ic : Nat) (c : Cd.Co) (hs ws : List Int) (pe : Int) (q : Nat) (h : Int) (w : World) (b : Bool) (hs' ws' : List Int) (w' : World) : Prop where
  bel : Below p w w'
  cls : ∃ wv, ClS B w' p gh la lc l ia ic c hs' ws' wv
  yes : b = true → Cd.CI l c hs' ws' pe ∧ hs'[q]? = some h ∧ (∀ (p : Nat) x, hs[p]? = some x → x ≠ -1 → hs'[p]? = some x) ∧ Cd.lft hs' ws' ≤ Cd.lft hs ws
  no : b = false → Cd.HR Cd.top l c none
theorem cdReach_ci (q : Nat) (h : Int) (B p gh : Nat) (la : Option Addr) (lc : Nat) (l : List Cd.Co) (ia : Option Addr) (ic : Nat) (c : Cd.Co) (hs ws : List Int) (wv : Value) (w : World) (H : ClS B w p gh la lc l ia ic c hs ws wv) (pe : Int) (ci : Cd.CI l c hs ws pe) (r : Cd.Rc l c q h) (h0 : 0 ≤ h) (hw : ws.length ≤ 1000000) :
    Calls Tryd.prog 90 #[.pointer (some ⟨p, 0, none⟩), .int .i64 q, .int .i64 h] w fun e w' => ∃ b hs' ws', e = .returned (.bool b) ∧ RcQ B p gh la lc l ia ic c hs ws pe q h w b hs' ws' w' := by
  by_cases hn : (c.ins.length : Int) ≤ q ∨ 4096 < h
  · refine (cdReach_no q h B p gh la lc l ia ic c hs ws wv w H hn).mono fun e w' ⟨e1, e2, e3⟩ => ?_
    exact ⟨false, hs, ws, e1, e2, e3, (fun h => by cases h), fun _ => Cd.bad_far r hn⟩
  · have ql : q < hs.length := by rw [H.hl]; omega
    obtain ⟨x, hx⟩ : ∃ x, hs[q]? = some x := ⟨_, List.getElem?_eq_getElem ql⟩
    by_cases hx1 : x = -1
    · subst hx1
      have er : Cd.rhs hs q h = hs.set q h := by unfold Cd.rhs; rw [if_pos hx]
      have ew : Cd.rws hs ws q = ws ++ [(q : Int)] := by unfold Cd.rws; rw [if_pos hx]
      have hv : (Cd.rhs hs q h)[q]? = some h := by rw [er, List.getElem?_set_self ql]
      refine (cdReach_new q h B p gh la lc l ia ic c hs ws wv w H hx (by omega) hw).mono fun e w' ⟨e1, e2, e3⟩ => ?_
      have c1 := ci.reach r h0 (by omega) hv
      have c2 := Cd.lft_reach hs ws q h h0
      rw [ew] at c1 c2
      rw [er] at c1 c2 hv
      exact ⟨true, _, _, e1, e2, e3, fun _ => ⟨c1, hv, fun p x a b => by rw [← er]; exact Cd.rhs_keep a b, c2⟩, fun h => by cases h⟩
    · refine (cdReach_old q h x B p gh la lc l ia ic c hs ws wv w H hx (by omega) hx1).mono fun e w' ⟨e1, e2, e3⟩ => ?_
      by_cases hx2 : x = h
      · have eb : (x == h) = true := by rw [hx2]; exact beq_self_eq_true _
        rw [eb] at e1
        exact ⟨true, hs, ws, e1, e2, e3, fun _ => ⟨ci, by rw [hx, hx2], fun p x a b => a, Nat.le_refl _⟩, fun h => by cases h⟩
      · have eb : (x == h) = false := beq_eq_false_iff_ne.2 hx2
        rw [eb] at e1
        exact ⟨false, hs, ws, e1, e2, e3, (fun h => by cases h), fun _ => Cd.bad_two ci r hx hx1 hx2⟩
theorem ClS.pop {B : Nat} {w : World} {p gh g cap : Nat} {la : Option Addr} {lc : Nat} {l : List Cd.Co} {ia : Option Addr} {ic : Nat} {c : Cd.Co} {hs ws : List Int} {q : Int} (h : ClS B w p gh la lc l ia ic c hs (ws ++ [q]) (.slice (some ⟨g, 0, none⟩) (ws.length + 1) cap)) :
    ClS B (w.setCell ⟨p, 6, none⟩ (.slice (some ⟨g, 0, none⟩) ws.length cap)) p gh la lc l ia ic c hs ws (.slice (some ⟨g, 0, none⟩) ws.length cap) ∧ Below p w (w.setCell ⟨p, 6, none⟩ (.slice (some ⟨g, 0, none⟩) ws.length cap)) := by
  have bp : Below p w (w.setCell ⟨p, 6, none⟩ (.slice (some ⟨g, 0, none⟩) ws.length cap)) := ⟨rfl, rfl, rfl, by simp, fun k hk => heap_setCell_other w _ k _ (by simp; omega)⟩
  have hww := h.ww
  have e : nC (ws ++ [q]) = nC ws ++ [.int .i64 q] := by simp [nC]
  rw [e, List.length_append] at hww
  have w2 := ownsRow_pop (n := ws.length) (size := 1) (by simp [nC]) hww
  have n2 : ¬ (Value.slice (some ⟨g, 0, none⟩) ws.length cap).ownBlock = some p := fun e => by have := (World.ownsRow.lt w2 _ e).1; have := h.pg; omega
  refine ⟨⟨⟨Nat.le_trans h.a.hB bp.size, ?_, h.a.co.later (bp.mono h.bp), h.a.ok, h.a.tn.later (bp.mono h.bp), h.a.tm.later (bp.mono h.bp), h.a.is.later (bp.mono h.bp), h.a.ck⟩, ?_, h.hl, ?_, h.pg, h.bp⟩, bp⟩
  · have := h.a.cl
    unfold Clm at this ⊢
    exact heap_setCell_same _ _ _ _ _ _ this
  · rw [heap_setCell_other w _ gh _ (by have := h.pg; simp; omega)]
    exact h.hh
  · exact ownsRow_setCell_other w2 n2 _
theorem ClS.row {B : Nat} {w : World} {p gh : Nat} {la : Option Addr} {lc : Nat} {l : List Cd.Co} {ia : Option Addr} {ic : Nat} {c : Cd.Co} {hs ws : List Int} {wv : Value} (h : ClS B w p gh la lc l ia ic c hs ws wv) (h0 : 0 < ws.length) : ∃ g cap, wv = .slice (some ⟨g, 0, none⟩) ws.length cap ∧ gh < g ∧ g < w.heap.size ∧ ws.length ≤ cap ∧ ∀ j x, ws[j]? = some x → w.cell? ⟨g, j, none⟩ = some (.int .i64 x) := by
  have hc := @World.ownsRow.cells _ _ _ _ _ _ _ h.ww
  have hl := World.ownsRow.lt h.ww
  rcases h.ww.2 with ⟨_, e⟩ | ⟨g, cap, cur, rfl, hb, hh, hnc, _⟩
  · omega
  · refine ⟨g, cap, rfl, by omega, (hl g rfl).2, hnc, fun j x hx => ?_⟩
    have := @hc g rfl j (.int .i64 x) (by simp [nC, hx])
    have e : (⟨g, 0, none⟩ : Addr).add j = ⟨g, j, none⟩ := by unfold Addr.add; split <;> simp_all
    rw [e] at this
    exact this
theorem ClS.seth {B : Nat} {w : World} {p gh : Nat} {la : Option Addr} {lc : Nat} {l : List Cd.Co} {ia : Option Addr} {ic : Nat} {c : Cd.Co} {hs ws : List Int} {wv : Value} (h : ClS B w p gh la lc l ia ic c hs ws wv) (q : Nat) (x : Int) :
    ClS B (w.setCell ⟨gh, q, none⟩ (.int .i64 x)) p gh la lc l ia ic c (hs.set q x) ws wv ∧ Below gh w (w.setCell ⟨gh, q, none⟩ (.int .i64 x)) := by
  have bg : Below gh w (w.setCell ⟨gh, q, none⟩ (.int .i64 x)) := ⟨rfl, rfl, rfl, by simp, fun k hk => heap_setCell_other w _ k _ (by simp; omega)⟩
  have hBg : B ≤ gh := by have := h.bp; have := h.pg; omega
  refine ⟨⟨⟨Nat.le_trans h.a.hB bg.size, h.a.cl.later bg h.pg, h.a.co.later (bg.mono hBg), h.a.ok, h.a.tn.later (bg.mono hBg), h.a.tm.later (bg.mono hBg), h.a.is.later (bg.mono hBg), h.a.ck⟩, ?_, by simp [h.hl], ownsRow_setCell_below h.ww (by simp) _, h.pg, h.bp⟩, bg⟩
  rw [heap_setCell_same _ _ _ _ _ _ h.hh, nC_set]
theorem rep_set (n k : Nat) (h : k < n) : (List.replicate k (-1 : Int) ++ List.replicate (n - k) 0).set k (-1) = List.replicate (k + 1) (-1) ++ List.replicate (n - (k + 1)) 0 := by
  obtain ⟨m, hm⟩ : ∃ m, n - k = m + 1 := ⟨n - k - 1, by omega⟩
  have e : n - (k + 1) = m := by omega
  rw [hm, e, List.replicate_succ, List.set_append_right _ _ (by simp)]
  simp only [List.length_replicate, Nat.sub_self, List.set_cons_zero]
  rw [List.replicate_succ', List.append_assoc]
  rfl
theorem made_int (n : Nat) : (madeCells (Value.int .i64 0).cells (n * 1)).toList = nC (List.replicate n 0) := by
  apply List.ext_getElem?
  intro k
  by_cases hk : k < n
  · simp [madeCells, Value.cells, nC, hk]
    rw [Nat.mod_one]
    rfl
  · rw [List.getElem?_eq_none (by simp [madeCells]; omega), List.getElem?_eq_none (by simp [nC]; omega)]
theorem ClS.make {B : Nat} {w w1 : World} {p : Nat} {la : Option Addr} {lc : Nat} {l : List Cd.Co} {ia : Option Addr} {ic : Nat} {c : Cd.Co} (h : ClA B w p la lc l ia ic c (.slice none 0 0) (.slice none 0 0)) (hbp : B ≤ p)
    (h1 : w1.ownsRow w.heap.size 3 1 (.slice (some ⟨w.heap.size, 0, none⟩) c.ins.length c.ins.length) c.ins.length (madeCells (Value.int .i64 0).cells (c.ins.length * 1)).toList) (g1 : w.grownBy w1 none) :
    ClS B (w1.setCell ⟨p, 5, none⟩ (.slice (some ⟨w.heap.size, 0, none⟩) c.ins.length c.ins.length)) p w.heap.size la lc l ia ic c (List.replicate c.ins.length 0) [] (.slice none 0 0) ∧ Below p w (w1.setCell ⟨p, 5, none⟩ (.slice (some ⟨w.heap.size, 0, none⟩) c.ins.length c.ins.length)) ∧ w1.heap[p]? = w.heap[p]? := by
  have pl := h.cl.lt
  have kb : ∀ k, k < w.heap.size → w1.heap[k]? = w.heap[k]? := fun k hk => g1.block k hk (by simp)
  have bp : Below p w (w1.setCell ⟨p, 5, none⟩ (.slice (some ⟨w.heap.size, 0, none⟩) c.ins.length c.ins.length)) := ⟨g1.os, g1.tape, g1.output, by simpa using g1.size, fun k hk => (heap_setCell_other w1 _ k _ (by simp; omega)).trans (kb k (by omega))⟩
  refine ⟨⟨⟨Nat.le_trans h.hB bp.size, ?_, h.co.later (bp.mono hbp), h.ok, h.tn.later (bp.mono hbp), h.tm.later (bp.mono hbp), h.is.later (bp.mono hbp), h.ck⟩, ?_, by simp, World.ownsRow_nil _ _ _ _, pl, hbp⟩, bp, kb p pl⟩
  · have := h.cl
    unfold Clm at this ⊢
    exact heap_setCell_same _ _ _ _ _ _ ((kb p pl).trans this)
  · rw [heap_setCell_other w1 _ _ _ (by simp; omega)]
    rcases h1.2 with ⟨e, _⟩ | ⟨g, cap, cur, hv, _, hh, _, _, hcs, ht⟩
    · cases e
    · cases hv
      rw [hh, ← made_int, ← ht]
      congr 2
      rw [List.take_of_length_le (by simp [hcs])]
end Go.Proofs.YtkjkiknpgggadaaDoor

