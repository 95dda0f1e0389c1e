/- Layer 8: the document's Sound, for every codes and number. CodeSound walked. -/
/- Layer 9: the document's New: it answers as the program's. -/
/- Layer 9: the document's machine: begin, with whatever it is given. -/
import Derived.Test.YtkjkiknpgggadaaDoorSCdNe
import Derived.Test.YtkjkiknpgggadaaDoorSVmM
import Derived.Test.YtkjkiknpgggadaaDoorSVmSl
import Derived.Test.YtkjkiknpgggadaaDoorSVmRc
namespace Go.Proofs.YtkjkiknpgggadaaDoor
open Go.RowKit
set_option linter.unusedVariables false
set_option linter.unusedSimpArgs false

set_option maxRecDepth 100000 in
set_option maxHeartbeats 4000000 in
theorem rSnd_out (main : Int) (la : Option Addr) (lc : Nat) (l : List Cd.Co) (w : World) (hk : ¬ (l.length ≤ 40 ∧ 0 ≤ main ∧ main < l.length)) : Calls Tryd.prog 38 #[.slice la l.length lc, .int .i64 main] w (SnE 8 l main w) := by
  have NO : Hid (¬ Cd.Snd 8 l main) := fun ⟨h1, h2, ⟨c, h3, _⟩, _⟩ => hk ⟨h1, h2, by have := (List.getElem?_eq_some_iff.1 h3).1; omega⟩
  have FIN : Hid (SnE 8 l main w (.returned (.bool false)) w) := snE_no NO.out (Below.refl _ _)
  clear NO
  generalize hL : l.length = L at hk ⊢
  clear hL
  by_cases h00 : L = 0
  · subst h00
    clear hk
    go_enter Tryd.func38, Tryd.ntmps38
    go_wp2_with fail
    go_ret
    exact FIN.out
  have e0 : ((L : Int) == 0) = false := beq_eq_false_iff_ne.2 (by omega)
  have e0n : (L == 0) = false := beq_eq_false_iff_ne.2 h00
  by_cases h0 : 40 < (L : Int)
  · have d0 : decide (40 < (L : Int)) = true := decide_eq_true h0
    clear hk h00
    go_enter Tryd.func38, Tryd.ntmps38
    go_wp2_with fail
    go_ret
    exact FIN.out
  have d0 : decide (40 < (L : Int)) = false := decide_eq_false h0
  by_cases h1 : main < 0
  · have d1 : decide (main < 0) = true := decide_eq_true h1
    clear hk h00
    go_enter Tryd.func38, Tryd.ntmps38
    go_wp2_with fail
    go_ret
    exact FIN.out
  have d1 : decide (main < 0) = false := decide_eq_false h1
  have h2 : (L : Int) ≤ main := by omega
  have d2 : decide ((L : Int) ≤ main) = true := decide_eq_true h2
  clear hk h00
  go_enter Tryd.func38, Tryd.ntmps38
  go_wp2_with fail
  go_ret
  exact FIN.out
set_option maxRecDepth 100000 in
set_option maxHeartbeats 8000000 in
theorem rSnd_in (m : Nat) (c : Cd.Co) (B : Nat) (la : Option Addr) (lc : Nat) (l : List Cd.Co) (w : World) (hB : B ≤ w.heap.size) (hco : CoS B w la l) (hok : ∀ d, d ∈ l → d.Ok) (e : l[m]? = some c) (h40 : l.length ≤ 40) : Calls Tryd.prog 38 #[.slice la l.length lc, .int .i64 m] w (SnE 8 l m w) := by
  obtain ⟨g, o, ia, ic, rfl, hg, at_⟩ := hco.at e
  have c2 := at_.c2
  have c3 := at_.c3
  have kl : m < l.length := (List.getElem?_eq_some_iff.1 e).1
  have HE : Hid (l[m]? = some c) := e
  have HH : Hid (B ≤ w.heap.size ∧ CoS B w (some ⟨g, o, none⟩) l ∧ ∀ d, d ∈ l → d.Ok) := ⟨hB, hco, hok⟩
  obtain ⟨L, hL⟩ : ∃ L, L = l.length := ⟨_, rfl⟩
  have HL : Hid (L = l.length) := hL
  have hL4 : L ≤ 40 := by omega
  have hki : (m : Int) < (L : Int) := by omega
  have hk0 : (0 : Int) ≤ (m : Int) := by omega
  have e0 : ((L : Int) == 0) = false := beq_eq_false_iff_ne.2 (by omega)
  have d0 : decide (40 < (L : Int)) = false := decide_eq_false (by omega)
  have d1 : decide ((m : Int) < 0) = false := decide_eq_false (by omega)
  have d2 : decide ((L : Int) ≤ (m : Int)) = false := decide_eq_false (by omega)
  have d3 : decide (L ≤ m) = false := decide_eq_false (by omega)
  rw [← hL]
  clear hB hco hok e h40 at_ hL kl
  by_cases hp : c.params = 0
  · cases ha : c.ans with
    | true =>
      have NO : Hid (¬ Cd.Snd 8 l m) := fun ⟨_, _, ⟨d, h3, _, h4⟩, _⟩ => by
        rw [Int.toNat_natCast, HE.out] at h3
        cases h3
        rw [ha] at h4
        cases h4
      rw [hp] at c2
      rw [ha] at c3
      clear hp ha
      go_enter Tryd.func38, Tryd.ntmps38
      go_wp2_with fail
      go_ret
      exact snE_no NO.out (Below.refl _ _)
    | false =>
      have HM : Hid (c.params = 0 ∧ c.ans = false) := ⟨hp, ha⟩
      rw [hp] at c2
      rw [ha] at c3
      clear hp ha
      go_enter Tryd.func38, Tryd.ntmps38
      go_wp2_with fail
      go_loopw [5] (fun i wr => ∃ j : Nat, j ≤ L ∧ i = .int .i64 j ∧ Hid (Below w.heap.size w wr) ∧ Hid (∀ (q : Nat) d, q < j → l[q]? = some d → Cd.Fit 8 l d)) (fun i _ => L - (intOf i).toNat)
      case atStart => exact ⟨0, by omega, rfl, Below.refl _ _, fun q _ hq => absurd hq (Nat.not_lt_zero q)⟩
      case round =>
        clear c2 c3
        obtain ⟨j, hj, rfl, BR, N⟩ := hrel
        by_cases hlt : j < L
        · obtain ⟨d, ed⟩ : ∃ d, l[j]? = some d := ⟨_, List.getElem?_eq_getElem (by rw [← HL.out]; exact hlt)⟩
          have EH0 := rHts_in j d B (some ⟨g, o, none⟩) lc l wr (Nat.le_trans HH.out.1 BR.out.size) (HH.out.2.1.later (BR.out.mono HH.out.1)) HH.out.2.2 ed
          rw [← HL.out] at EH0
          have EH : Hid _ := EH0
          have ED : Hid (l[j]? = some d) := ed
          have hji : (j : Int) < (L : Int) := by omega
          clear ed EH0
          go_wp2_with fail
          refine Calls.mono EH.out ?_
          rintro e1 w1 ⟨r, hr, b1, he⟩
          have B1 : Hid (Below w.heap.size w w1) := BR.out.trans (b1.mono BR.out.size)
          clear b1 EH
          cases r with
          | none =>
            obtain rfl := he
            have NO : Hid (¬ Cd.Snd 8 l m) := fun ⟨_, _, _, h4⟩ => hr (h4 d (List.mem_of_getElem? ED.out))
            clear hr
            go_wp2_with fail
            go_ret
            exact snE_no NO.out B1.out
          | some H =>
            obtain ⟨gh, cap, rest, rfl, _, _⟩ := he
            have N2 : Hid (∀ (q : Nat) d, q < j + 1 → l[q]? = some d → Cd.Fit 8 l d) := fun q x hq ex => by
              by_cases hq2 : q < j
              · exact N.out q x hq2 ex
              · have : q = j := by omega
                rw [this, ED.out] at ex
                cases ex
                exact hr.2
            clear hr N
            go_wp2_with fail
            go_roundw
            case rel => exact ⟨j + 1, by omega, by go_num, B1, N2⟩
            case measure => simp [intOf]; omega
        · obtain rfl : j = L := by omega
          have YES : Hid (Cd.Snd 8 l m) := ⟨by rw [← HL.out]; exact hL4, hk0, ⟨c, by rw [Int.toNat_natCast]; exact HE.out, HM.out.1, HM.out.2⟩, fun d hd => by
            obtain ⟨q, hq⟩ := List.getElem?_of_mem hd
            exact N.out q d (by rw [HL.out]; exact (List.getElem?_eq_some_iff.1 hq).1) hq⟩
          clear N
          go_wp2_with fail
          go_ret
          exact ⟨true, rfl, ⟨fun _ => YES.out, fun _ => rfl⟩, BR.out⟩
  · have NO : Hid (¬ Cd.Snd 8 l m) := fun ⟨_, _, ⟨d, h3, h4, _⟩, _⟩ => by
      rw [Int.toNat_natCast, HE.out] at h3
      cases h3
      exact hp h4
    have e5 : (c.params == 0) = false := beq_eq_false_iff_ne.2 hp
    have e6 : (c.params != 0) = true := by simp [bne, e5]
    go_enter Tryd.func38, Tryd.ntmps38
    go_wp2_with fail
    go_ret
    exact snE_no NO.out (Below.refl _ _)
theorem rSnd_any (main : Int) (B : Nat) (la : Option Addr) (lc : Nat) (l : List Cd.Co) (w : World) (hB : B ≤ w.heap.size) (hco : CoS B w la l) (hok : ∀ d, d ∈ l → d.Ok) : Calls Tryd.prog 38 #[.slice la l.length lc, .int .i64 main] w (SnE 8 l main w) := by
  by_cases hk : l.length ≤ 40 ∧ 0 ≤ main ∧ main < l.length
  · obtain ⟨j, rfl⟩ : ∃ j : Nat, main = j := ⟨main.toNat, by omega⟩
    exact rSnd_in j _ B la lc l w hB hco hok (List.getElem?_eq_getElem (by omega)) hk.1
  · exact rSnd_out main la lc l w hk
theorem snd_both {l : List Cd.Co} {main : Int} : Cd.Snd Cd.top l main ↔ Cd.Snd 8 l main := ⟨fun h => Cd.snd_mono (by decide) h, fun h => Cd.snd_mono (by unfold Cd.top; decide) h⟩
end Go.Proofs.YtkjkiknpgggadaaDoor

namespace Go.Proofs.YtkjkiknpgggadaaDoor
open Go.RowKit
set_option linter.unusedVariables false
set_option linter.unusedSimpArgs false

theorem infoFm : (Tryd.prog.info? 60).map (fun i => (i.zero, i.size, i.bytes)) = some (some (.agg #[.int .i64 0, .int .i64 0, .int .i64 0, .slice none 0 0, .slice none 0 0]), 5, 72) := by kernel_rfl
theorem cells5 {W : World} {b : Nat} {v0 v1 v2 v3 v4 : Value} (h0 : W.cell? ⟨b, 0, none⟩ = some v0) (h1 : W.cell? ⟨b, 1, none⟩ = some v1) (h2 : W.cell? ⟨b, 2, none⟩ = some v2) (h3 : W.cell? ⟨b, 3, none⟩ = some v3) (h4 : W.cell? ⟨b, 4, none⟩ = some v4) : ∀ (j : Nat) u, [v0, v1, v2, v3, v4][j]? = some u → W.cell? ((⟨b, 0, none⟩ : Addr).add j) = some u := fun j u hj => by
  rw [adM, Nat.zero_add]
  match j, hj with
  | 0, hj => simp at hj; subst hj; exact h0
  | 1, hj => simp at hj; subst hj; exact h1
  | 2, hj => simp at hj; subst hj; exact h2
  | 3, hj => simp at hj; subst hj; exact h3
  | 4, hj => simp at hj; subst hj; exact h4
  | n + 5, hj => simp at hj
theorem grn_none {w w' : World} (g : w.grownBy w' none) : Below w.heap.size w w' := ⟨g.os, g.tape, g.output, g.size, fun k hk => g.block k hk (fun e => by cases e)⟩
set_option maxRecDepth 100000 in
set_option maxHeartbeats 8000000 in
theorem rOwn (w : World) (a : Option Addr) (c : Nat) (l : List Int) (h : NuS w.heap.size w a l) (hb : l.length ≤ 1000000) (hn : a = none → c = 0) : Calls Tryd.prog 39 #[.slice a l.length c] w fun e w' => ∃ a' c', e = .returned (.slice a' l.length c') ∧ NuW w.heap.size w'.heap.size w' a' l ∧ Below w.heap.size w w' := by
  obtain ⟨i0, hi, hz0, hz1, hz2⟩ := info_parts info64
  cases a with
  | none =>
    obtain rfl := hn rfl
    have hl0 : l = [] := by
      rcases Nat.eq_zero_or_pos l.length with h0 | h0
      · exact List.length_eq_zero_iff.1 h0
      · obtain ⟨g, o, e2, _⟩ := h h0
        cases e2
    subst hl0
    have hr : ∀ ty, (Builtin.append_ #[23, 23] ty #[.slice none 0 0, .slice none 0 0]).run Tryd.prog w = .ok (.slice none 0 0) w := fun ty => run_append_owned_none (P := Tryd.prog) w w.heap.size 23 ty 2 i0 1 Tryd.underlying23 hi (.slice none 0 0) 0 [] (World.ownsRow_nil _ _ _ _)
    have FIN : Hid (∃ a' c', Ending.returned (.slice none 0 0) = .returned (.slice a' ([] : List Int).length c') ∧ NuW w.heap.size w.heap.size w a' [] ∧ Below w.heap.size w w) := ⟨none, 0, rfl, fun h => by simp at h, Below.refl _ _⟩
    clear h hb hn
    go_enter Tryd.func39, Tryd.ntmps39
    go_wp2_with (at_builtin; refine Lib.wpList_append_run _ rfl _ _ _ _ rfl _ _ rfl rfl _ _ (hr _) ?_)
    go_ret
    first
      | exact FIN.out
      | simpa using FIN.out
  | some ad =>
    have HX : Hid (∀ j u, (nC l)[j]? = some u → w.cell? (ad.add j) = some u) := by
      rcases Nat.eq_zero_or_pos l.length with h0 | h0
      · have : l = [] := List.length_eq_zero_iff.1 h0
        subst this
        intro j u hu
        simp [nC] at hu
      · obtain ⟨g, o, e2, _, hc⟩ := h h0
        cases e2
        intro j u hu
        rw [adM]
        simp only [nC, List.getElem?_map, Option.map_eq_some_iff] at hu
        obtain ⟨x, hx, rfl⟩ := hu
        exact hc j x hx
    obtain ⟨n, hnn⟩ : ∃ n, n = l.length := ⟨_, rfl⟩
    have HL : Hid ((nC l).length = n * 1) := by unfold Hid; rw [hnn]; simp [nC]
    have HNN : Hid (n = l.length) := hnn
    rw [← hnn] at hb ⊢
    have H63 : Hid (0 + n ≤ maxLen ∧ ((0 + n) + (0 + n) / 4 + 192) * 8 ≤ 281474976710656) := by unfold Hid maxLen; omega
    clear h hn hnn
    obtain ⟨ab, ao, asp⟩ := ad
    go_enter Tryd.func39, Tryd.ntmps39
    go_wp2_with (at_builtin; refine wpList_append_own_wide _ rfl _ _ 23 rfl w.heap.size 2 i0 (.int .i64 0) 1 8 Tryd.underlying23 hi hz0 hz1 hz2 rfl (by decide) (.slice none 0 0) 0 [] rfl (World.ownsRow_nil _ _ _ _) ⟨ab, ao, asp⟩ n c (nC l) rfl HL.out HX.out (nC_one l) H63.out.1 H63.out.2 (Nat.le_refl _) ?_)
    intro v8 w8 h8 g8 o8
    have h8' : w8.ownsRow w.heap.size 2 1 v8 n (nC l) := by simpa using h8
    obtain ⟨a8, c8, hv8, _, nu8⟩ := own_nuW h8' HNN.out
    subst hv8
    have FIN : Hid (∃ a' c', Ending.returned (.slice a8 n c8) = .returned (.slice a' n c') ∧ NuW w.heap.size w8.heap.size w8 a' l ∧ Below w.heap.size w w8) := ⟨_, _, rfl, nu8, grn_none g8⟩
    clear h8 h8' g8 o8 nu8
    go_wp2_with fail
    go_ret
    first
      | exact FIN.out
      | simpa using FIN.out
end Go.Proofs.YtkjkiknpgggadaaDoor

namespace Go.Proofs.YtkjkiknpgggadaaDoor
open Go.RowKit
set_option linter.unusedVariables false
set_option linter.unusedSimpArgs false

def Vm.gv (l : List Int) (k j : Nat) : List Int := l.take j ++ List.replicate (k - j) 0
theorem Vm.gv_len {l : List Int} {k j : Nat} (h : j ≤ l.length) (hk : l.length ≤ k) : (Vm.gv l k j).length = k := by
  unfold Vm.gv
  rw [List.length_append, List.length_take, List.length_replicate]
  omega
theorem Vm.gv_set {l : List Int} {k j : Nat} {x : Int} (hx : l[j]? = some x) (hk : l.length ≤ k) : (Vm.gv l k j).set j x = Vm.gv l k (j + 1) := by
  have hj := (List.getElem?_eq_some_iff.1 hx).1
  unfold Vm.gv
  have e1 : (l.take j).length = j := by rw [List.length_take]; omega
  have e2 : List.replicate (k - j) (0 : Int) = 0 :: List.replicate (k - (j + 1)) 0 := by rw [← List.replicate_succ]; congr 1; omega
  have e3 : l.take (j + 1) = l.take j ++ [x] := by rw [List.take_add_one, hx]; rfl
  rw [List.set_append_right _ _ (by omega), e1, Nat.sub_self, e2, List.set_cons_zero, e3, List.append_assoc]
  rfl
theorem Vm.gv_done {l : List Int} {k : Nat} : Vm.gv l k l.length = l ++ List.replicate (k - l.length) 0 := by
  unfold Vm.gv
  rw [List.take_length]
structure BgI (w : World) (zb fb k : Nat) (l : List Int) (p : Nat) (j : Nat) (wr : World) : Prop where
  b : Below w.heap.size w wr
  row : wr.ownsRow w.heap.size 2 1 (.slice (some ⟨zb, 0, none⟩) k k) k (nC (Vm.gv l k j))
  box : wr.heap[fb]? = some (.cells #[.int .i64 p, .int .i64 0, .int .i64 (-1), .slice (some ⟨zb, 0, none⟩) k k, .slice none 0 0] 60 (0, 0))
  ne : zb ≠ fb
  ge : w.heap.size ≤ fb
theorem BgI.step {w : World} {zb fb k p j : Nat} {l : List Int} {wr : World} (h : BgI w zb fb k l p j wr) {x : Int} (hx : l[j]? = some x) (hk : l.length ≤ k) : BgI w zb fb k l p (j + 1) (wr.setCell ⟨zb, j, none⟩ (.int .i64 x)) := by
  have hj := (List.getElem?_eq_some_iff.1 hx).1
  have hz := (World.ownsRow.lt h.row zb rfl).1
  refine ⟨h.b.trans ⟨rfl, rfl, rfl, by simp, fun i hi => heap_setCell_other _ _ i _ (by simp; omega)⟩, ?_, ?_, h.ne, h.ge⟩
  · have q := own_setc h.row (i := j) (by omega) (.int .i64 x)
    have e : (nC (Vm.gv l k j)).set j (.int .i64 x) = nC (Vm.gv l k (j + 1)) := by
      rw [← Vm.gv_set hx hk]
      simp [nC, List.map_set]
    rw [e] at q
    exact q
  · rw [heap_setCell_other _ _ fb _ (by have := h.ne; simp; omega)]
    exact h.box
theorem RmS.begun {G : Gh} {r : Nat} {w W w8 : World} {U : RmV} {R : Vm.Rm} (h : RmS G r w U R) (b : Below w.heap.size w W) {zb k p : Nat} {cs : List Int} (hrow : W.ownsRow w.heap.size 2 1 (.slice (some ⟨zb, 0, none⟩) k k) k (nC cs)) (hcs : cs.length = k) {X : World} (y : Below W.heap.size W X) {v8 : Value} (h8 : w8.ownsRow (r + 1) 60 5 v8 (R.frames.length + 1) (rmC R.frames U.fc ++ [.int .i64 p, .int .i64 0, .int .i64 (-1), .slice (some ⟨zb, 0, none⟩) k k, .slice none 0 0])) (g8 : X.grownBy w8 U.fv.ownBlock) (o8 : v8.ownBlock = U.fv.ownBlock ∨ ∃ g, v8.ownBlock = some g ∧ X.heap.size ≤ g) : RmQ G r w (w8.setCell ⟨r, 1, none⟩ v8) { R with frames := R.frames ++ [⟨p, 0, -1, cs, []⟩] } := by
  have hlt := h.lt
  have own1 : (⟨2, 1, .slice (some ⟨zb, 0, none⟩) k k, cs.length, nC cs⟩ : Rw).Own W (r + 1) := by
    unfold Rw.Own
    dsimp only
    rw [hcs]
    rcases hrow.2 with ⟨e, _⟩ | ⟨g', cap', cur, e, hb, hh, h1⟩
    · cases e
    · exact ⟨hrow.1, .inr ⟨g', cap', cur, e, by omega, hh, h1⟩⟩
  have r1 := h.rows.add b own1 (fun g e => (World.ownsRow.lt hrow g e).1)
  have r2 := r1.add (Below.refl _ _) (x := ⟨2, 1, .slice none 0 0, ([] : List Int).length, nC []⟩) (World.ownsRow_nil _ _ _ _) (fun g e => by cases e)
  have r2' : RwL G W (r + 1) ([reR U R] ++ rfR U R :: (rmR R.frames U.fc ++ [⟨2, 1, .slice (some ⟨zb, 0, none⟩) k k, cs.length, nC cs⟩, ⟨2, 1, .slice none 0 0, ([] : List Int).length, nC []⟩])) := by simpa using r2
  have hltW : r < W.heap.size := Nat.lt_of_lt_of_le hlt b.size
  have b8 : Below (r + 1) W w8 := grownL_below r2' hltW y g8
  have r3 := r2'.grow y (v' := v8) (n' := R.frames.length + 1) (xs' := rmC R.frames U.fc ++ [.int .i64 p, .int .i64 0, .int .i64 (-1), .slice (some ⟨zb, 0, none⟩) k k, .slice none 0 0]) h8 g8 o8
  have bw : Below (r + 1) w w8 := (b.mono hlt).trans b8
  have hb : w8.heap[r]? = some (rmB U R) := (bw.block r (by omega)).trans h.box
  have bm : Below r w (w8.setCell ⟨r, 1, none⟩ v8) := (bw.mono (by omega)).trans below_set
  refine ⟨bm, { U with fv := v8, fc := U.fc ++ [(.slice (some ⟨zb, 0, none⟩) k k, .slice none 0 0)] }, ⟨heap_setCell_same _ _ _ _ _ _ hb, by simp [h.fl], ?_, (h.low bm).1, (h.low bm).2, h.lo, h.fix⟩⟩
  have eC := rmC_app R.frames U.fc ⟨p, 0, -1, cs, []⟩ (.slice (some ⟨zb, 0, none⟩) k k, .slice none 0 0) h.fl
  have eR := rmR_app R.frames U.fc ⟨p, 0, -1, cs, []⟩ (.slice (some ⟨zb, 0, none⟩) k k, .slice none 0 0) h.fl
  show RwL G _ (r + 1) (⟨50, 2, U.ev, R.events.length, Vm.evC R.events⟩ :: ⟨60, 5, v8, (R.frames ++ [(⟨p, 0, -1, cs, []⟩ : Vm.Rf)]).length, rmC (R.frames ++ [(⟨p, 0, -1, cs, []⟩ : Vm.Rf)]) (U.fc ++ [(.slice (some ⟨zb, 0, none⟩) k k, .slice none 0 0)])⟩ :: rmR (R.frames ++ [(⟨p, 0, -1, cs, []⟩ : Vm.Rf)]) (U.fc ++ [(.slice (some ⟨zb, 0, none⟩) k k, .slice none 0 0)]))
  rw [eC, eR, List.length_append]
  exact r3.below _
end Go.Proofs.YtkjkiknpgggadaaDoor

