/- Layer 8: Heights and Sound of the program, for every codes. -/
/- Layer 8: Sound of the program, for every codes and number. -/
/- Layer 8: the document's Size, and the statements' great, of any codes: they answer. -/
/- Layer 9: the machine, plain and in memory; pop, push, tell, end. -/
import Derived.Test.YtkjkiknpgggadaaDoorSCdJ
import Derived.Test.YtkjkiknpgggadaaDoorSCdI
import Derived.Test.YtkjkiknpgggadaaDoorRows
import Derived.Test.YtkjkiknpgggadaaDoorSCdA
import Derived.WalkKit
import Derived.WalkMore
import Derived.WalkSpells
import Derived.WalkLawsBesides
import Derived.Shelf.Small.Wraps
import Derived.Shelf.Strings.Prefix
import Derived.Test.YtkjkiknpgggadaaDoorProg
import Derived.BigQuiet
import Derived.Test.YtkjkiknpgggadaaDoorSWordsPl
import Derived.Deep.RegionHeld3
namespace Go.Proofs.YtkjkiknpgggadaaDoor
open Go.RowKit
set_option linter.unusedVariables false

structure CdH (B : Nat) (w : World) (la : Option Addr) (l : List Cd.Co) : Prop where
  hB : B ≤ w.heap.size
  co : CoS B w la l
  ok : ∀ d, d ∈ l → d.Ok
  tn : Tn B w
  tm : Tm B w
theorem CdH.later {B : Nat} {w w' : World} {la : Option Addr} {l : List Cd.Co} (h : CdH B w la l) (b : Below B w w') : CdH B w' la l := ⟨Nat.le_trans h.hB b.size, h.co.later b, h.ok, h.tn.later b, h.tm.later b⟩
def HkE (w : World) (r : Option (List Int)) (e : Ending) (w' : World) : Prop := match r with
  | none => e = .returned (.tuple #[.slice none 0 0, .bool false])
  | some H => ∃ gh, e = .returned (.tuple #[.slice (some ⟨gh, 0, none⟩) H.length H.length, .bool true]) ∧ w.heap.size ≤ gh ∧ w'.heap[gh]? = some (.cells (nC H).toArray 3 (0, 0))
theorem alloc_at (w : World) (o : Obj) : (w.alloc o).heap[w.heap.size]? = some o := Array.getElem?_push_size
abbrev clB (la : Option Addr) (ln lc : Nat) (ia : Option Addr) (il ic : Nat) (c : Cd.Co) : Obj := .cells #[.slice la ln lc, .slice ia il ic, .int .i64 c.cells, .int .i64 c.params, .bool c.ans, .slice none 0 0, .slice none 0 0] 112
theorem sz_cells {c : Cd.Co} (h : Cd.sz c = true) : 0 ≤ c.cells ∧ c.cells ≤ 65536 := by
  unfold Cd.sz at h
  simp only [Bool.and_eq_true, decide_eq_true_eq] at h
  exact ⟨h.1.1.1.1.2, h.1.1.1.2⟩
set_option maxRecDepth 100000 in
set_option maxHeartbeats 4000000 in
theorem cdHts_out (k : Int) (la : Option Addr) (lc : Nat) (l : List Cd.Co) (w : World) (hk : ¬ (0 ≤ k ∧ k < l.length)) : Calls Tryd.prog 57 #[.slice la l.length lc, .int .i64 k] w fun e w' => e = .returned (.tuple #[.slice none 0 0, .bool false]) ∧ Below w.heap.size w w' := by
  by_cases h1 : k < 0
  · go_enter Tryd.func57, Tryd.ntmps57
    go_wp2_with fail
    go_ret2
    exact ⟨rfl, by go_grown⟩
  · have h2 : (l.length : Int) ≤ k := by omega
    clear hk
    go_enter Tryd.func57, Tryd.ntmps57
    go_wp2_with fail
    go_ret2
    exact ⟨rfl, by go_grown⟩
set_option maxRecDepth 100000 in
set_option maxHeartbeats 8000000 in
theorem cdHts_in (k : Nat) (c : Cd.Co) (B : Nat) (la : Option Addr) (lc : Nat) (l : List Cd.Co) (w : World) (h : CdH B w la l) (e : l[k]? = some c) : Calls Tryd.prog 57 #[.slice la l.length lc, .int .i64 k] w fun e w' => ∃ r, Cd.HR Cd.top l c r ∧ Below w.heap.size w w' ∧ HkE w r e w' := by
  obtain ⟨g, o, ia, ic, rfl, hg, at_⟩ := h.co.at e
  have c0 := at_.c0
  have c1 := at_.c1
  have c2 := at_.c2
  have c3 := at_.c3
  have kl : k < l.length := (List.getElem?_eq_some_iff.1 e).1
  obtain ⟨p, hp⟩ : ∃ p, p = w.heap.size := ⟨_, rfl⟩
  obtain ⟨W, hW⟩ : ∃ W, W = w.alloc (clB (some ⟨g, o, none⟩) l.length lc ia c.ins.length ic c) := ⟨_, rfl⟩
  have bw : Below w.heap.size w W := by rw [hW]; exact (Below.refl _ _).alloc (Nat.le_refl _) _
  have CL : Clm W p (some ⟨g, o, none⟩) l.length lc ia c.ins.length ic c (.slice none 0 0) (.slice none 0 0) := by
    unfold Clm
    rw [hW, hp]
    exact alloc_at w _
  have A : Hid (ClA B W p (some ⟨g, o, none⟩) lc l ia ic c (.slice none 0 0) (.slice none 0 0)) := ⟨Nat.le_trans h.hB bw.size, CL, h.co.later (bw.mono h.hB), h.ok, h.tn.later (bw.mono h.hB), h.tm.later (bw.mono h.hB), at_.hi.later (bw.mono h.hB), h.ok c (List.mem_of_getElem? e)⟩
  have BW : Hid (Below w.heap.size w W) := bw
  have HP : Hid (p = w.heap.size) := hp
  have hBp : Hid (B ≤ p) := by rw [hp]; exact h.hB
  have gz : ¬ g = w.heap.size := by have := h.hB; omega
  have hki : (k : Int) < (l.length : Int) := by omega
  have hk0 : (0 : Int) ≤ (k : Int) := by omega
  clear h e at_ bw CL
  obtain ⟨il, hil⟩ : ∃ il, il = c.ins.length := ⟨_, rfl⟩
  rw [← hil] at c0 hW
  have ES : Hid _ := cdSz_any p (some ⟨g, o, none⟩) l.length lc ia ic c (.slice none 0 0) (.slice none 0 0) W A.out.cl
  clear hil
  go_enter Tryd.func57, Tryd.ntmps57
  go_upto_region 4 with fail
  rw [← hW, ← hp]
  clear hW hp c0 c1 c2 c3
  go_wp2_with fail
  refine Calls.mono ES.out ?_
  rintro e1 w1 ⟨rfl, b1⟩
  have A1 : Hid (ClA B w1 p (some ⟨g, o, none⟩) lc l ia ic c (.slice none 0 0) (.slice none 0 0)) := A.out.later b1
  have B1 : Hid (Below w.heap.size w w1) := BW.out.trans (b1.mono BW.out.size)
  clear b1 ES A BW
  cases hs : Cd.sz c with
  | false =>
    have FIN : Hid (Cd.HR Cd.top l c none) := Cd.no_sz (by rw [hs]; simp)
    clear hs
    go_wp2_with fail
    go_ret2
    exact ⟨none, FIN.out, B1.out, rfl⟩
  | true =>
    have HS : Hid (Cd.sz c = true) := hs
    have EF : Hid _ := cdFm_any B p (some ⟨g, o, none⟩) lc l ia ic c (.slice none 0 0) (.slice none 0 0) w1 A1.out (sz_cells hs)
    clear hs
    go_wp2_with fail
    refine Calls.mono EF.out ?_
    rintro e2 w2 ⟨rfl, b2⟩
    have A2 : Hid (ClA B w2 p (some ⟨g, o, none⟩) lc l ia ic c (.slice none 0 0) (.slice none 0 0)) := A1.out.later b2
    have B2 : Hid (Below w.heap.size w w2) := B1.out.trans (b2.mono B1.out.size)
    clear b2 EF A1 B1
    cases hf : Cd.fm Cd.top l c with
    | false =>
      have FIN : Hid (Cd.HR Cd.top l c none) := fun f => by
        have : Cd.fm Cd.top l c = true := List.all_eq_true.2 fun i hi => by have := f.al i hi; rw [this.1, this.2]; rfl
        rw [hf] at this
        cases this
      clear hf
      go_wp2_with fail
      go_ret2
      exact ⟨none, FIN.out, B2.out, rfl⟩
    | true =>
      have EC : Hid _ := cdClimb_any B p (some ⟨g, o, none⟩) lc l ia ic c w2 A2.out hBp.out HS.out hf
      clear hf
      go_wp2_with fail
      refine Calls.mono EC.out ?_
      rintro e3 w3 ⟨b3, q3⟩
      have B3 : Hid (Below w.heap.size w w3) := B2.out.trans (by rw [← HP.out]; exact b3)
      clear b3 EC A2
      rcases q3 with ⟨rfl, q⟩ | ⟨rfl, H, gh, q, hpg, z5, hh⟩
      · have Q : Hid _ := q
        clear q
        go_wp2_with fail
        go_ret2
        exact ⟨none, Q.out, B3.out, rfl⟩
      · have Q : Hid _ := q
        have HH : Hid _ := hh
        have PG : Hid (w.heap.size ≤ gh) := by rw [← HP.out]; exact Nat.le_of_lt hpg
        clear q hh hpg
        go_wp2_with fail
        go_ret2
        exact ⟨some H, Q.out, B3.out, gh, rfl, PG.out, HH.out⟩
end Go.Proofs.YtkjkiknpgggadaaDoor

namespace Go.Proofs.YtkjkiknpgggadaaDoor
open Go.RowKit
set_option linter.unusedVariables false

def SnE (B : Int) (l : List Cd.Co) (main : Int) (w : World) (e : Ending) (w' : World) : Prop := ∃ b, e = .returned (.bool b) ∧ (b = true ↔ Cd.Snd B l main) ∧ Below w.heap.size w w'
theorem snE_no {B : Int} {l : List Cd.Co} {main : Int} {w w' : World} (h : ¬ Cd.Snd B l main) (b : Below w.heap.size w w') : SnE B l main w (.returned (.bool false)) w' := ⟨false, rfl, ⟨(fun e => by cases e), fun e => absurd e h⟩, b⟩
set_option maxRecDepth 100000 in
set_option maxHeartbeats 4000000 in
theorem cdSnd_out (main : Int) (la : Option Addr) (lc : Nat) (l : List Cd.Co) (w : World) (hk : ¬ (l.length ≤ 40 ∧ 0 ≤ main ∧ main < l.length)) : Calls Tryd.prog 44 #[.slice la l.length lc, .int .i64 main] w (SnE Cd.top l main w) := by
  have NO : Hid (¬ Cd.Snd Cd.top l main) := fun ⟨h1, h2, ⟨c, h3, _⟩, _⟩ => hk ⟨h1, h2, by have := (List.getElem?_eq_some_iff.1 h3).1; omega⟩
  by_cases h0 : 40 < (l.length : Int)
  · clear hk
    go_enter Tryd.func44, Tryd.ntmps44
    go_wp2_with fail
    go_ret
    exact snE_no NO.out (Below.refl _ _)
  · by_cases h1 : main < 0
    · clear hk
      go_enter Tryd.func44, Tryd.ntmps44
      go_wp2_with fail
      go_ret
      exact snE_no NO.out (Below.refl _ _)
    · have h2 : (l.length : Int) ≤ main := by omega
      clear hk
      go_enter Tryd.func44, Tryd.ntmps44
      go_wp2_with fail
      go_ret
      exact snE_no NO.out (Below.refl _ _)
set_option maxRecDepth 100000 in
set_option maxHeartbeats 8000000 in
theorem cdSnd_in (m : Nat) (c : Cd.Co) (B : Nat) (la : Option Addr) (lc : Nat) (l : List Cd.Co) (w : World) (h : CdH B w la l) (e : l[m]? = some c) (h40 : l.length ≤ 40) : Calls Tryd.prog 44 #[.slice la l.length lc, .int .i64 m] w (SnE Cd.top l m w) := by
  obtain ⟨g, o, ia, ic, rfl, hg, at_⟩ := h.co.at e
  have c2 := at_.c2
  have c3 := at_.c3
  have kl : m < l.length := (List.getElem?_eq_some_iff.1 e).1
  have hki : (m : Int) < (l.length : Int) := by omega
  have hk0 : (0 : Int) ≤ (m : Int) := by omega
  have h4 : ¬ 40 < (l.length : Int) := by omega
  have h5 : ¬ (m : Int) < 0 := by omega
  have h6 : ¬ (l.length : Int) ≤ (m : Int) := by omega
  have HH : Hid (CdH B w (some ⟨g, o, none⟩) l) := h
  have HE : Hid (l[m]? = some c) := e
  clear h e at_
  by_cases hp : c.params = 0
  · cases ha : c.ans with
    | true =>
      have NO : Hid (¬ Cd.Snd Cd.top l m) := fun ⟨_, _, ⟨d, h3, _, h4⟩, _⟩ => by
        rw [Int.toNat_natCast, HE.out] at h3
        cases h3
        rw [ha] at h4
        cases h4
      rw [hp] at c2
      rw [ha] at c3
      clear hp ha
      go_enter Tryd.func44, Tryd.ntmps44
      go_wp2_with fail
      go_ret
      exact snE_no NO.out (Below.refl _ _)
    | false =>
      have HM : Hid (c.params = 0 ∧ c.ans = false) := ⟨hp, ha⟩
      rw [hp] at c2
      rw [ha] at c3
      clear hp ha
      go_enter Tryd.func44, Tryd.ntmps44
      go_wp2_with fail
      go_loopw [36] (fun i wr => ∃ j : Nat, j ≤ l.length ∧ i = .int .i64 j ∧ Hid (Below w.heap.size w wr) ∧ Hid (∀ (q : Nat) d, q < j → l[q]? = some d → Cd.Fit Cd.top l d)) (fun i _ => l.length - (intOf i).toNat)
      case atStart => exact ⟨0, by omega, rfl, Below.refl _ _, fun q _ hq => absurd hq (Nat.not_lt_zero q)⟩
      case round =>
        obtain ⟨j, hj, rfl, BR, N⟩ := hrel
        by_cases hlt : j < l.length
        · obtain ⟨d, ed⟩ : ∃ d, l[j]? = some d := ⟨_, List.getElem?_eq_getElem hlt⟩
          have EH : Hid _ := cdHts_in j d B (some ⟨g, o, none⟩) lc l wr (HH.out.later (BR.out.mono HH.out.hB)) ed
          have ED : Hid (l[j]? = some d) := ed
          have hji : (j : Int) < (l.length : Int) := by omega
          clear ed
          go_wp2_with fail
          refine Calls.mono EH.out ?_
          rintro e1 w1 ⟨r, hr, b1, he⟩
          have B1 : Hid (Below w.heap.size w w1) := BR.out.trans (b1.mono BR.out.size)
          clear b1 EH
          cases r with
          | none =>
            obtain rfl := he
            have NO : Hid (¬ Cd.Snd Cd.top l m) := fun ⟨_, _, _, h4⟩ => hr (h4 d (List.mem_of_getElem? ED.out))
            clear hr
            go_wp2_with fail
            go_ret
            exact snE_no NO.out B1.out
          | some H =>
            obtain ⟨gh, rfl, _, _⟩ := he
            have N2 : Hid (∀ (q : Nat) d, q < j + 1 → l[q]? = some d → Cd.Fit Cd.top l d) := fun q x hq ex => by
              by_cases hq2 : q < j
              · exact N.out q x hq2 ex
              · have : q = j := by omega
                rw [this, ED.out] at ex
                cases ex
                exact hr.2
            clear hr N
            go_wp2_with fail
            go_roundw
            case rel => exact ⟨j + 1, by omega, by go_num, B1, N2⟩
            case measure => simp [intOf]; omega
        · obtain rfl : j = l.length := by omega
          have YES : Hid (Cd.Snd Cd.top l m) := ⟨h40, hk0, ⟨c, by rw [Int.toNat_natCast]; exact HE.out, HM.out.1, HM.out.2⟩, fun d hd => by
            obtain ⟨q, hq⟩ := List.getElem?_of_mem hd
            exact N.out q d (List.getElem?_eq_some_iff.1 hq).1 hq⟩
          clear N
          go_wp2_with fail
          go_ret
          exact ⟨true, rfl, ⟨fun _ => YES.out, fun _ => rfl⟩, BR.out⟩
  · have NO : Hid (¬ Cd.Snd Cd.top l m) := fun ⟨_, _, ⟨d, h3, h4, _⟩, _⟩ => by
      rw [Int.toNat_natCast, HE.out] at h3
      cases h3
      exact hp h4
    have e0 : (c.params == 0) = false := beq_eq_false_iff_ne.2 hp
    have e1 : (c.params != 0) = true := by simp [bne, e0]
    go_enter Tryd.func44, Tryd.ntmps44
    go_wp2_with fail
    go_ret
    exact snE_no NO.out (Below.refl _ _)
theorem cdSnd_any (main : Int) (B : Nat) (la : Option Addr) (lc : Nat) (l : List Cd.Co) (w : World) (h : CdH B w la l) : Calls Tryd.prog 44 #[.slice la l.length lc, .int .i64 main] w (SnE Cd.top l main w) := by
  by_cases hk : l.length ≤ 40 ∧ 0 ≤ main ∧ main < l.length
  · obtain ⟨j, rfl⟩ : ∃ j : Nat, main = j := ⟨main.toNat, by omega⟩
    exact cdSnd_in j _ B la lc l w h (List.getElem?_eq_getElem (by omega)) hk.1
  · exact cdSnd_out main la lc l w hk
end Go.Proofs.YtkjkiknpgggadaaDoor

namespace Go.Proofs.YtkjkiknpgggadaaDoor
open Go.RowKit
set_option linter.unusedVariables false
set_option linter.unusedSimpArgs false

def IsN (v : Value) : Prop := ∃ n : Int, v = .int .i64 n
set_option maxRecDepth 100000 in
set_option maxHeartbeats 8000000 in
theorem rSize_any (B : Nat) (la : Option Addr) (lc : Nat) (l : List Cd.Co) (most : Int) (w : World) (h : CdH B w la l) : Calls Tryd.prog 37 #[.slice la l.length lc, .int .i64 most] w fun e w' => ∃ v, e = .returned v ∧ IsN v ∧ Below w.heap.size w w' := by
  have HC : Hid (CdH B w la l) := h
  have HL : Hid (l.length ≤ 1000000000000000) := h.co.1
  obtain ⟨L, hL⟩ : ∃ L, L = l.length := ⟨_, rfl⟩
  rw [← hL]
  have HLL : Hid (L = l.length) := hL
  have hLb : L ≤ 1000000000000000 := by rw [hL]; exact h.co.1
  clear h hL
  go_enter Tryd.func37, Tryd.ntmps37
  go_wp2_with fail
  go_loopw [5, 6] (fun n i wr => ∃ (m : Int) (k : Nat), n = .int .i64 m ∧ k ≤ L ∧ i = .int .i64 k ∧ Hid (Below w.heap.size w wr)) (fun _ i _ => L - (intOf i).toNat)
  case atStart => exact ⟨0, 0, rfl, by omega, rfl, Below.refl _ _⟩
  case round =>
    obtain ⟨m, k, rfl, hk, rfl, BW⟩ := hrel
    by_cases hlt : k < L
    · have hki : (k : Int) < (L : Int) := by omega
      have dk : decide ((k : Int) < (L : Int)) = true := decide_eq_true hki
      have dkn : decide (k < L) = true := decide_eq_true hlt
      by_cases hm : m ≤ most
      · have dm : decide (m ≤ most) = true := decide_eq_true hm
        obtain ⟨g, o, ia, ic, rfl, hg, ca⟩ := HC.out.co.at (List.getElem?_eq_getElem (by have := HLL.out; omega : k < l.length))
        have c0 := (ca.later hg (BW.out.mono HC.out.hB)).c0
        clear ca
        go_wp2_with fail
        go_roundw
        case rel => exact ⟨_, k + 1, rfl, by omega, by go_num, BW⟩
        case measure => simp [intOf]; omega
      · have dm : decide (m ≤ most) = false := decide_eq_false hm
        go_wp2_with fail
        go_ret
        exact ⟨_, rfl, ⟨_, rfl⟩, BW.out⟩
    · have hki : ¬ (k : Int) < (L : Int) := by omega
      have dk : decide ((k : Int) < (L : Int)) = false := decide_eq_false hki
      have dkn : decide (k < L) = false := decide_eq_false hlt
      go_wp2_with fail
      go_ret
      exact ⟨_, rfl, ⟨_, rfl⟩, BW.out⟩
end Go.Proofs.YtkjkiknpgggadaaDoor

namespace Go.Proofs.YtkjkiknpgggadaaDoor
open Go.RowKit
set_option linter.unusedVariables false
set_option linter.unusedSimpArgs false

namespace Vm
structure Fr where
  proc : Nat
  place : Nat
  mark : Int
  base : Nat
structure Mc where
  codes : List Cd.Co
  input : List Int
  read : Nat
  fuel : Int
  ticks : Int
  t0 : Int
  t1 : Int
  t2 : Int
  t3 : Int
  events : List (Int × Int)
  frames : List Fr
  cells : List Int
  stack : List Int
  run : Bool
  g : Gh
def frC (l : List Fr) : List Value := l.flatMap fun f => [.int .i64 f.proc, .int .i64 f.place, .int .i64 f.mark, .int .i64 f.base]
def evC (l : List (Int × Int)) : List Value := l.flatMap fun e => [.int .i64 e.1, .int .i64 e.2]
theorem evC_app (l k : List (Int × Int)) : evC (l ++ k) = evC l ++ evC k := List.flatMap_append
theorem frC_app (l k : List Fr) : frC (l ++ k) = frC l ++ frC k := List.flatMap_append
theorem frC_len (l : List Fr) : (frC l).length = l.length * 4 := by
  induction l with
  | nil => rfl
  | cons a r ih =>
    unfold frC at ih ⊢
    rw [List.flatMap_cons, List.length_append, ih]
    simp only [List.length_cons, List.length_nil]
    omega
end Vm
structure VmV where
  ca : Option Addr
  cc : Nat
  ia : Option Addr
  ic : Nat
  ev : Value
  fv : Value
  cv : Value
  sv : Value
abbrev vmB (V : VmV) (M : Vm.Mc) : Obj := .cells #[.slice V.ca M.codes.length V.cc, .slice V.ia M.input.length V.ic, .int .i64 M.read, .int .i64 M.fuel, .int .i64 M.ticks, .int .i64 M.t0, .int .i64 M.t1, .int .i64 M.t2, .int .i64 M.t3, V.ev, V.fv, V.cv, V.sv, .bool M.run] 64 (0, 0)
abbrev evR (V : VmV) (M : Vm.Mc) : Rw := ⟨50, 2, V.ev, M.events.length, Vm.evC M.events⟩
abbrev frR (V : VmV) (M : Vm.Mc) : Rw := ⟨70, 4, V.fv, M.frames.length, Vm.frC M.frames⟩
abbrev ceR (V : VmV) (M : Vm.Mc) : Rw := ⟨2, 1, V.cv, M.cells.length, nC M.cells⟩
abbrev stR (V : VmV) (M : Vm.Mc) : Rw := ⟨2, 1, V.sv, M.stack.length, nC M.stack⟩
structure VmS (m : Nat) (w : World) (V : VmV) (M : Vm.Mc) : Prop where
  box : w.heap[m]? = some (vmB V M)
  rows : VmR M.g w (m + 1) (stR V M) (evR V M) (frR V M) (ceR V M)
  co : CoW M.g.lo m w V.ca M.codes
  inp : NuW M.g.lo m w V.ia M.input
theorem VmS.lt {m : Nat} {w : World} {V : VmV} {M : Vm.Mc} (h : VmS m w V M) : m < w.heap.size := (Array.getElem?_eq_some_iff.1 h.box).1
theorem VmS.later {m : Nat} {w w' : World} {V : VmV} {M : Vm.Mc} (h : VmS m w V M) (b : Below w.heap.size w w') : VmS m w' V M :=
  ⟨(b.block m h.lt).trans h.box, h.rows.later b, h.co.later (b.mono (Nat.le_of_lt h.lt)), h.inp.later (b.mono (Nat.le_of_lt h.lt))⟩
theorem VmS.cell {m : Nat} {w : World} {V : VmV} {M : Vm.Mc} (h : VmS m w V M) : w.cell? ⟨m, 0, none⟩ = some (.slice V.ca M.codes.length V.cc) ∧ w.cell? ⟨m, 1, none⟩ = some (.slice V.ia M.input.length V.ic) ∧ w.cell? ⟨m, 2, none⟩ = some (.int .i64 M.read) ∧ w.cell? ⟨m, 3, none⟩ = some (.int .i64 M.fuel) ∧ w.cell? ⟨m, 4, none⟩ = some (.int .i64 M.ticks) ∧ w.cell? ⟨m, 9, none⟩ = some V.ev ∧ w.cell? ⟨m, 10, none⟩ = some V.fv ∧ w.cell? ⟨m, 11, none⟩ = some V.cv ∧ w.cell? ⟨m, 12, none⟩ = some V.sv ∧ w.cell? ⟨m, 13, none⟩ = some (.bool M.run) := by
  have := h.box
  refine ⟨?_, ?_, ?_, ?_, ?_, ?_, ?_, ?_, ?_, ?_⟩ <;> simp [World.cell?, this]
theorem VmS.frozen {m : Nat} {w : World} {V : VmV} {M : Vm.Mc} (h : VmS m w V M) (k : Nat) : w.frozen? ⟨m, k, none⟩ = false := by simp [World.frozen?, h.box]
def VmQ (m : Nat) (w w' : World) (M : Vm.Mc) : Prop := Below m w w' ∧ ∃ V, VmS m w' V M
theorem below_set {m k : Nat} {w : World} {u : Value} : Below m w (w.setCell ⟨m, k, none⟩ u) := ⟨rfl, rfl, rfl, by simp, fun j hj => heap_setCell_other _ _ j _ (by simp; omega)⟩
theorem VmS.setS {m : Nat} {w w8 : World} {V : VmV} {M : Vm.Mc} (h : VmS m w V M) (b8 : Below (m + 1) w w8) {sv' : Value} {st' : List Int} (r8 : VmR M.g w8 (m + 1) ⟨2, 1, sv', st'.length, nC st'⟩ (evR V M) (frR V M) (ceR V M)) : VmQ m w (w8.setCell ⟨m, 12, none⟩ sv') { M with stack := st' } := by
  have hb : w8.heap[m]? = some (vmB V M) := (b8.block m (by omega)).trans h.box
  have bm : Below m w (w8.setCell ⟨m, 12, none⟩ sv') := (b8.mono (by omega)).trans below_set
  exact ⟨bm, { V with sv := sv' }, ⟨heap_setCell_same _ _ _ _ _ _ hb, r8.below _, h.co.later bm, h.inp.later bm⟩⟩
theorem VmS.setS2 {m : Nat} {w w8 : World} {V : VmV} {M : Vm.Mc} (h : VmS m w V M) (b8 : Below (m + 1) w w8) {sv' : Value} {st' : List Int} (r8 : VmR M.g w8 (m + 1) ⟨2, 1, sv', st'.length, nC st'⟩ (evR V M) (frR V M) (ceR V M)) : Below m w (w8.setCell ⟨m, 12, none⟩ sv') ∧ VmS m (w8.setCell ⟨m, 12, none⟩ sv') { V with sv := sv' } { M with stack := st' } := by
  have hb : w8.heap[m]? = some (vmB V M) := (b8.block m (by omega)).trans h.box
  have bm : Below m w (w8.setCell ⟨m, 12, none⟩ sv') := (b8.mono (by omega)).trans below_set
  exact ⟨bm, ⟨heap_setCell_same _ _ _ _ _ _ hb, r8.below _, h.co.later bm, h.inp.later bm⟩⟩
def VmP (m : Nat) (w w' : World) (V : VmV) (M : Vm.Mc) : Prop := Below m w w' ∧ ∃ sv', VmS m w' { V with sv := sv' } M
theorem VmP.q {m : Nat} {w w' : World} {V : VmV} {M : Vm.Mc} (h : VmP m w w' V M) : VmQ m w w' M := ⟨h.1, _, h.2.choose_spec⟩
theorem VmS.setE {m : Nat} {w w8 : World} {V : VmV} {M : Vm.Mc} (h : VmS m w V M) (b8 : Below (m + 1) w w8) {ev' : Value} {es' : List (Int × Int)} (r8 : VmR M.g w8 (m + 1) (stR V M) ⟨50, 2, ev', es'.length, Vm.evC es'⟩ (frR V M) (ceR V M)) : VmQ m w (w8.setCell ⟨m, 9, none⟩ ev') { M with events := es' } := by
  have hb : w8.heap[m]? = some (vmB V M) := (b8.block m (by omega)).trans h.box
  have bm : Below m w (w8.setCell ⟨m, 9, none⟩ ev') := (b8.mono (by omega)).trans below_set
  exact ⟨bm, { V with ev := ev' }, ⟨heap_setCell_same _ _ _ _ _ _ hb, r8.below _, h.co.later bm, h.inp.later bm⟩⟩
theorem grown_below {G : Gh} {m : Nat} {w X w8 : World} {a b c d : Rw} (h : VmR G w (m + 1) a b c d) (hm : m < w.heap.size) (y : Below w.heap.size w X) (g8 : X.grownBy w8 a.v.ownBlock) : Below (m + 1) w w8 :=
  (y.mono hm).trans ⟨g8.os, g8.tape, g8.output, g8.size, fun k hk => g8.block k (by have := y.size; omega) (fun e => by have := (World.ownsRow.lt h.oa _ e.symm).1; omega)⟩
theorem info64 : (Tryd.prog.info? 2).map (fun i => (i.zero, i.size, i.bytes)) = some (some (.int .i64 0), 1, 8) := by kernel_rfl
theorem infoEv : (Tryd.prog.info? 50).map (fun i => (i.zero, i.size, i.bytes)) = some (some (.agg #[.int .i64 0, .int .i64 0]), 2, 16) := by kernel_rfl
theorem lit_1 (w : World) (v : Value) (t : TypeId) : ∀ (j : Nat) u, [v][j]? = some u → (w.alloc (.cells #[v] t)).cell? ((⟨w.heap.size, 0, none⟩ : Addr).add j) = some u := by
  intro j u hj
  match j, hj with
  | 0, hj => simp at hj; subst hj; simp [Addr.add]
  | n + 1, hj => simp at hj
theorem lit_2 (w : World) (v v' : Value) (t : TypeId) : ∀ (j : Nat) u, [v, v'][j]? = some u → (w.alloc (.cells #[v, v'] t)).cell? ((⟨w.heap.size, 0, none⟩ : Addr).add j) = some u := by
  intro j u hj
  match j, hj with
  | 0, hj => simp at hj; subst hj; simp [Addr.add]
  | 1, hj => simp at hj; subst hj; simp [Addr.add]
  | n + 2, hj => simp at hj
set_option maxRecDepth 100000 in
set_option maxHeartbeats 4000000 in
theorem vmPop3 (m : Nat) (w : World) (V : VmV) (M : Vm.Mc) (s : List Int) (a : Int) (h : VmS m w V M) (hs : M.stack = s ++ [a]) (hb : s.length ≤ 1000000) : Calls Tryd.prog 27 #[.pointer (some ⟨m, 0, none⟩)] w fun e w' => e = .returned (.int .i64 a) ∧ ∃ sv', w' = w.setCell ⟨m, 12, none⟩ sv' ∧ Below m w w' ∧ VmS m w' { V with sv := sv' } { M with stack := s } := by
  have ho := h.rows.oa
  unfold Rw.Own at ho
  dsimp only at ho
  rw [hs, List.length_append, List.length_singleton] at ho
  obtain ⟨g, cap, hv, hcap⟩ : ∃ g cap, V.sv = .slice (some ⟨g, 0, none⟩) (s.length + 1) cap ∧ s.length + 1 ≤ cap := by
    rcases ho.2 with ⟨_, e⟩ | ⟨g, cap, cur, e, _, _, hc, _⟩
    · omega
    · exact ⟨g, cap, e, hc⟩
  rw [hv] at ho
  have hcell : w.cell? ⟨g, s.length, none⟩ = some (.int .i64 a) := by
    have := @World.ownsRow.cells _ _ _ _ _ _ _ ho g rfl s.length (.int .i64 a) (by simp [nC])
    have e : (⟨g, 0, none⟩ : Addr).add s.length = ⟨g, s.length, none⟩ := by unfold Addr.add; split <;> simp_all
    rwa [e] at this
  have e1 : nC (s ++ [a]) = nC s ++ [.int .i64 a] := by simp [nC]
  rw [e1] at ho
  have w2 := ownsRow_pop (n := s.length) (size := 1) (by simp [nC]) ho
  have RR := h.rows.cut (v' := .slice (some ⟨g, 0, none⟩) s.length cap) (n' := s.length) (xs' := nC s) w2 (fun k e => by show V.sv.ownBlock = _; rw [hv]; exact e)
  have FIN : Hid (∃ sv', w.setCell ⟨m, 12, none⟩ (.slice (some ⟨g, 0, none⟩) s.length cap) = w.setCell ⟨m, 12, none⟩ sv' ∧ Below m w (w.setCell ⟨m, 12, none⟩ (.slice (some ⟨g, 0, none⟩) s.length cap)) ∧ VmS m (w.setCell ⟨m, 12, none⟩ (.slice (some ⟨g, 0, none⟩) s.length cap)) { V with sv := sv' } { M with stack := s }) := ⟨_, rfl, (h.setS2 (Below.refl _ _) RR).1, (h.setS2 (Below.refl _ _) RR).2⟩
  have c12 := h.cell.2.2.2.2.2.2.2.2.1
  rw [hv] at c12
  have f12 := h.frozen 12
  have hlt := h.lt
  obtain ⟨n, hn⟩ : ∃ n, n = s.length := ⟨_, rfl⟩
  rw [← hn] at c12 hcell FIN hcap hb
  have e2 : ((n : Int) + 1 - 1) = n := by omega
  have hci : (n : Int) ≤ (cap : Int) := by omega
  clear w2 RR ho h hs hv hn
  go_enter Tryd.func27, Tryd.ntmps27
  go_wp2_with fail
  go_ret
  exact ⟨rfl, FIN.out⟩
theorem vmPop2 (m : Nat) (w : World) (V : VmV) (M : Vm.Mc) (s : List Int) (a : Int) (h : VmS m w V M) (hs : M.stack = s ++ [a]) (hb : s.length ≤ 1000000) : Calls Tryd.prog 27 #[.pointer (some ⟨m, 0, none⟩)] w fun e w' => e = .returned (.int .i64 a) ∧ VmP m w w' V { M with stack := s } := (vmPop3 m w V M s a h hs hb).mono fun e w' ⟨h1, sv', h2, h3, h4⟩ => ⟨h1, h3, sv', h4⟩
theorem vmPop (m : Nat) (w : World) (V : VmV) (M : Vm.Mc) (s : List Int) (a : Int) (h : VmS m w V M) (hs : M.stack = s ++ [a]) (hb : s.length ≤ 1000000) : Calls Tryd.prog 27 #[.pointer (some ⟨m, 0, none⟩)] w fun e w' => e = .returned (.int .i64 a) ∧ VmQ m w w' { M with stack := s } := (vmPop2 m w V M s a h hs hb).mono fun e w' ⟨h1, h2⟩ => ⟨h1, h2.q⟩
set_option maxRecDepth 100000 in
set_option maxHeartbeats 4000000 in
theorem vmPush (m : Nat) (w : World) (V : VmV) (M : Vm.Mc) (a : Int) (h : VmS m w V M) (hb : M.stack.length ≤ 1000000) : Calls Tryd.prog 47 #[.pointer (some ⟨m, 0, none⟩), .int .i64 a] w fun e w' => e = .returned (.tuple #[]) ∧ VmQ m w w' { M with stack := M.stack ++ [a] } := by
  obtain ⟨i0, hi, hz0, hz1, hz2⟩ := info_parts info64
  have ho : w.ownsRow (m + 1) 2 1 V.sv M.stack.length (nC M.stack) := h.rows.oa
  obtain ⟨sa, sc, hv⟩ := own_shp ho
  have HH : Hid (VmS m w V M) := h
  have c12 := h.cell.2.2.2.2.2.2.2.2.1
  have HV : Hid (V.sv = .slice sa M.stack.length sc) := hv
  rw [hv] at c12 ho
  have hlt := h.lt
  obtain ⟨n, hn⟩ : ∃ n, n = M.stack.length := ⟨_, rfl⟩
  have HN : Hid (n = M.stack.length) := hn
  rw [← hn] at c12 ho hb
  have HO : Hid (w.ownsRow (m + 1) 2 1 (.slice sa n sc) n (nC M.stack)) := ho
  have H63 : Hid (n + 1 ≤ maxLen ∧ (n + 1) * 8 ≤ 140737488355328) := by unfold Hid maxLen; omega
  have ONE1 : Hid (∀ u ∈ [Value.int .i64 a], u.oneCell' = true) := fun y hy => by simp at hy; subst hy; rfl
  have f12 := h.frozen 12
  clear h hv ho hn
  go_enter Tryd.func47, Tryd.ntmps47
  go_wp2_with (at_builtin; refine wpList_app_t rfl _ _ 23 rfl (m + 1) 2 i0 (.int .i64 0) 1 8 Tryd.underlying23 hi hz0 hz1 hz2 rfl (by decide) _ _ _ rfl (own_lat HO.out ((Below.refl _ _).alloc (Nat.le_refl _) _)) ⟨w.heap.size, 0, none⟩ 1 1 [.int .i64 a] rfl rfl (lit_1 _ _ _) ONE1.out H63.out.1 H63.out.2 (by simp; omega) (by decide) ?_)
  intro v8 w8 h8 g8 o8
  have y : Below w.heap.size w (w.alloc (.cells #[.int .i64 a] 2)) := (Below.refl _ _).alloc (Nat.le_refl _) _
  have b8 : Below (m + 1) w w8 := grown_below HH.out.rows hlt y (by show World.grownBy _ _ V.sv.ownBlock; rw [HV.out, ← HN.out]; exact g8)
  have R8 := HH.out.rows.grow y (v' := v8) (n' := (M.stack ++ [a]).length) (xs' := nC (M.stack ++ [a])) (by rw [List.length_append, ← HN.out]; simpa [nC] using h8) (by show World.grownBy _ _ V.sv.ownBlock; rw [HV.out, ← HN.out]; exact g8) (by show v8.ownBlock = V.sv.ownBlock ∨ _; rw [HV.out, ← HN.out]; simpa using o8)
  have FIN : Hid (VmQ m w (w8.setCell ⟨m, 12, none⟩ v8) { M with stack := M.stack ++ [a] }) := HH.out.setS b8 R8
  have k12 := (b8.cell (p := ⟨m, 12, none⟩) (Nat.lt_succ_self m)).trans c12
  have g12 := (b8.frozen (p := ⟨m, 12, none⟩) (Nat.lt_succ_self m)).trans f12
  obtain ⟨va8, cap8, hv8⟩ := own_shp h8
  subst hv8
  clear h8 g8 o8 R8 y b8 c12 f12
  go_wp2_with fail
  first
    | (go_end0; exact ⟨rfl, FIN.out⟩)
    | (go_ret; exact ⟨rfl, FIN.out⟩)
set_option maxRecDepth 100000 in
set_option maxHeartbeats 4000000 in
theorem vmTell (m : Nat) (w : World) (V : VmV) (M : Vm.Mc) (k a : Int) (h : VmS m w V M) (hb : M.events.length ≤ 1000000000) : Calls Tryd.prog 30 #[.pointer (some ⟨m, 0, none⟩), .int .i64 k, .int .i64 a] w fun e w' => e = .returned (.tuple #[]) ∧ VmQ m w w' { M with events := M.events ++ [(k, a)] } := by
  obtain ⟨i0, hi, hz0, hz1, hz2⟩ := info_parts infoEv
  have ho : w.ownsRow (m + 1) 50 2 V.ev M.events.length (Vm.evC M.events) := h.rows.ob
  obtain ⟨sa, sc, hv⟩ := own_shp ho
  have HH : Hid (VmS m w V M) := h
  have c9 := h.cell.2.2.2.2.2.1
  have HV : Hid (V.ev = .slice sa M.events.length sc) := hv
  rw [hv] at c9 ho
  have hlt := h.lt
  obtain ⟨n, hn⟩ : ∃ n, n = M.events.length := ⟨_, rfl⟩
  have HN : Hid (n = M.events.length) := hn
  rw [← hn] at c9 ho hb
  have HO : Hid (w.ownsRow (m + 1) 50 2 (.slice sa n sc) n (Vm.evC M.events)) := ho
  have H63 : Hid (n + 1 ≤ maxLen ∧ (n + 1) * 16 ≤ 140737488355328) := by unfold Hid maxLen; omega
  have ONE1 : Hid (∀ u ∈ [Value.int .i64 k, .int .i64 a], u.oneCell' = true) := fun y hy => by
    simp only [List.mem_cons, List.not_mem_nil, or_false] at hy
    rcases hy with rfl | rfl <;> rfl
  have f9 := h.frozen 9
  clear h hv ho hn
  go_enter Tryd.func30, Tryd.ntmps30
  go_wp2_with (at_builtin; refine wpList_app_t rfl _ _ 33 rfl (m + 1) 50 i0 (.agg #[.int .i64 0, .int .i64 0]) 2 16 Tryd.underlying33 hi hz0 hz1 hz2 rfl (by decide) _ _ _ rfl (own_lat HO.out ((Below.refl _ _).alloc (Nat.le_refl _) _)) ⟨w.heap.size, 0, none⟩ 1 1 [.int .i64 k, .int .i64 a] rfl rfl (lit_2 _ _ _ _) ONE1.out H63.out.1 H63.out.2 (by simp; omega) (by decide) ?_)
  intro v8 w8 h8 g8 o8
  have y : Below w.heap.size w (w.alloc (.cells #[.int .i64 k, .int .i64 a] 50)) := (Below.refl _ _).alloc (Nat.le_refl _) _
  have RS := HH.out.rows.swap1
  have b8 : Below (m + 1) w w8 := grown_below RS hlt y (by show World.grownBy _ _ V.ev.ownBlock; rw [HV.out, ← HN.out]; exact g8)
  have R8 := (RS.grow y (v' := v8) (n' := (M.events ++ [(k, a)]).length) (xs' := Vm.evC (M.events ++ [(k, a)])) (by rw [List.length_append, ← HN.out, Vm.evC_app]; simpa [Vm.evC] using h8) (by show World.grownBy _ _ V.ev.ownBlock; rw [HV.out, ← HN.out]; exact g8) (by show v8.ownBlock = V.ev.ownBlock ∨ _; rw [HV.out, ← HN.out]; simpa using o8)).swap1
  have FIN : Hid (VmQ m w (w8.setCell ⟨m, 9, none⟩ v8) { M with events := M.events ++ [(k, a)] }) := HH.out.setE b8 R8
  have k9 := (b8.cell (p := ⟨m, 9, none⟩) (Nat.lt_succ_self m)).trans c9
  have g9 := (b8.frozen (p := ⟨m, 9, none⟩) (Nat.lt_succ_self m)).trans f9
  obtain ⟨va8, cap8, hv8⟩ := own_shp h8
  subst hv8
  clear h8 g8 o8 R8 RS y b8 c9 f9
  go_wp2_with fail
  first
    | (go_end0; exact ⟨rfl, FIN.out⟩)
    | (go_ret; exact ⟨rfl, FIN.out⟩)
theorem VmQ.trans {m : Nat} {w w1 w2 : World} {M1 M2 : Vm.Mc} (h1 : VmQ m w w1 M1) (h2 : VmQ m w1 w2 M2) : VmQ m w w2 M2 := ⟨h1.1.trans h2.1, h2.2⟩
theorem VmS.setR {m : Nat} {w : World} {V : VmV} {M : Vm.Mc} (h : VmS m w V M) (r : Bool) : VmQ m w (w.setCell ⟨m, 13, none⟩ (.bool r)) { M with run := r } :=
  ⟨below_set, V, heap_setCell_same _ _ _ _ _ _ h.box, h.rows.below _, h.co.later below_set, h.inp.later below_set⟩
set_option maxRecDepth 100000 in
set_option maxHeartbeats 2000000 in
theorem vmEnd (m : Nat) (w : World) (V : VmV) (M : Vm.Mc) (k a : Int) (h : VmS m w V M) (hb : M.events.length ≤ 1000000000) : Calls Tryd.prog 34 #[.pointer (some ⟨m, 0, none⟩), .int .i64 k, .int .i64 a] w fun e w' => e = .returned (.tuple #[]) ∧ VmQ m w w' { M with events := M.events ++ [(k, a)], run := false } := by
  have ET : Hid _ := vmTell m w V M k a h hb
  have hlt := h.lt
  clear h
  go_enter Tryd.func34, Tryd.ntmps34
  go_wp2_with fail
  refine Calls.mono ET.out ?_
  rintro e1 w1 ⟨rfl, b1, V1, h1⟩
  have FIN : Hid (VmQ m w (w1.setCell ⟨m, 13, none⟩ (.bool false)) { M with events := M.events ++ [(k, a)], run := false }) := VmQ.trans ⟨b1, V1, h1⟩ (h1.setR false)
  have c13 := h1.cell.2.2.2.2.2.2.2.2.2
  have f13 := h1.frozen 13
  clear h1 b1 ET
  go_wp2_with fail
  first
    | (go_end0; exact ⟨rfl, FIN.out⟩)
    | (go_ret; exact ⟨rfl, FIN.out⟩)
set_option maxRecDepth 100000 in
set_option maxHeartbeats 2000000 in
theorem vmTrap (m : Nat) (w : World) (V : VmV) (M : Vm.Mc) (k : Int) (h : VmS m w V M) (hb : M.events.length ≤ 1000000000) : Calls Tryd.prog 32 #[.pointer (some ⟨m, 0, none⟩), .int .i64 k] w fun e w' => e = .returned (.tuple #[]) ∧ VmQ m w w' { M with events := M.events ++ [(4, k)], run := false } := by
  have ET : Hid _ := vmEnd m w V M 4 k h hb
  clear h
  go_enter Tryd.func32, Tryd.ntmps32
  go_wp2_with fail
  refine Calls.mono ET.out ?_
  rintro e1 w1 ⟨rfl, Q1⟩
  have FIN : Hid _ := Q1
  clear Q1 ET
  go_wp2_with fail
  first
    | (go_end0; exact ⟨rfl, FIN.out⟩)
    | (go_ret; exact ⟨rfl, FIN.out⟩)
end Go.Proofs.YtkjkiknpgggadaaDoor

