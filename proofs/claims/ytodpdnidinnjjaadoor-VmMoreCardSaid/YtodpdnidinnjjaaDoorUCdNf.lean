/- Layer 8: the document's Sound, for every codes and number. CodeSound walked. -/
import Derived.Test.YtodpdnidinnjjaaDoorUCdNe
import Derived.Test.YtodpdnidinnjjaaDoorUCdL
import Derived.Test.YtodpdnidinnjjaaDoorUCdMs
namespace Go.Proofs.YtodpdnidinnjjaaDoor
open Go.RowKit
set_option linter.unusedVariables false
set_option linter.unusedSimpArgs false

set_option maxRecDepth 100000 in
set_option maxHeartbeats 4000000 in
theorem rSnd_out (main : Int) (la : Option Addr) (lc : Nat) (l : List Cd.Co) (w : World) (hk : ¬ (l.length ≤ 40 ∧ 0 ≤ main ∧ main < l.length)) : Calls Tryd.prog 51 #[.slice la l.length lc, .int .i64 main] w (SnE 8 l main w) := by
  have NO : Hid (¬ Cd.Snd 8 l main) := fun ⟨h1, h2, ⟨c, h3, _⟩, _⟩ => hk ⟨h1, h2, by have := (List.getElem?_eq_some_iff.1 h3).1; omega⟩
  have FIN : Hid (SnE 8 l main w (.returned (.bool false)) w) := snE_no NO.out (Below.refl _ _)
  clear NO
  generalize hL : l.length = L at hk ⊢
  clear hL
  by_cases h00 : L = 0
  · subst h00
    clear hk
    go_enter Tryd.func51, Tryd.ntmps51
    go_wp2_with fail
    go_ret
    exact FIN.out
  have e0 : ((L : Int) == 0) = false := beq_eq_false_iff_ne.2 (by omega)
  have e0n : (L == 0) = false := beq_eq_false_iff_ne.2 h00
  by_cases h0 : 40 < (L : Int)
  · have d0 : decide (40 < (L : Int)) = true := decide_eq_true h0
    clear hk h00
    go_enter Tryd.func51, Tryd.ntmps51
    go_wp2_with fail
    go_ret
    exact FIN.out
  have d0 : decide (40 < (L : Int)) = false := decide_eq_false h0
  by_cases h1 : main < 0
  · have d1 : decide (main < 0) = true := decide_eq_true h1
    clear hk h00
    go_enter Tryd.func51, Tryd.ntmps51
    go_wp2_with fail
    go_ret
    exact FIN.out
  have d1 : decide (main < 0) = false := decide_eq_false h1
  have h2 : (L : Int) ≤ main := by omega
  have d2 : decide ((L : Int) ≤ main) = true := decide_eq_true h2
  clear hk h00
  go_enter Tryd.func51, Tryd.ntmps51
  go_wp2_with fail
  go_ret
  exact FIN.out
set_option maxRecDepth 100000 in
set_option maxHeartbeats 8000000 in
theorem rSnd_in (m : Nat) (c : Cd.Co) (B : Nat) (la : Option Addr) (lc : Nat) (l : List Cd.Co) (w : World) (hB : B ≤ w.heap.size) (hco : CoS B w la l) (hok : ∀ d, d ∈ l → d.Ok) (e : l[m]? = some c) (h40 : l.length ≤ 40) : Calls Tryd.prog 51 #[.slice la l.length lc, .int .i64 m] w (SnE 8 l m w) := by
  obtain ⟨g, o, ia, ic, rfl, hg, at_⟩ := hco.at e
  have c2 := at_.c2
  have c3 := at_.c3
  have kl : m < l.length := (List.getElem?_eq_some_iff.1 e).1
  have HE : Hid (l[m]? = some c) := e
  have HH : Hid (B ≤ w.heap.size ∧ CoS B w (some ⟨g, o, none⟩) l ∧ ∀ d, d ∈ l → d.Ok) := ⟨hB, hco, hok⟩
  obtain ⟨L, hL⟩ : ∃ L, L = l.length := ⟨_, rfl⟩
  have HL : Hid (L = l.length) := hL
  have hL4 : L ≤ 40 := by omega
  have hki : (m : Int) < (L : Int) := by omega
  have hk0 : (0 : Int) ≤ (m : Int) := by omega
  have e0 : ((L : Int) == 0) = false := beq_eq_false_iff_ne.2 (by omega)
  have d0 : decide (40 < (L : Int)) = false := decide_eq_false (by omega)
  have d1 : decide ((m : Int) < 0) = false := decide_eq_false (by omega)
  have d2 : decide ((L : Int) ≤ (m : Int)) = false := decide_eq_false (by omega)
  have d3 : decide (L ≤ m) = false := decide_eq_false (by omega)
  rw [← hL]
  clear hB hco hok e h40 at_ hL kl
  by_cases hp : c.params = 0
  · cases ha : c.ans with
    | true =>
      have NO : Hid (¬ Cd.Snd 8 l m) := fun ⟨_, _, ⟨d, h3, _, h4⟩, _⟩ => by
        rw [Int.toNat_natCast, HE.out] at h3
        cases h3
        rw [ha] at h4
        cases h4
      rw [hp] at c2
      rw [ha] at c3
      clear hp ha
      go_enter Tryd.func51, Tryd.ntmps51
      go_wp2_with fail
      go_ret
      exact snE_no NO.out (Below.refl _ _)
    | false =>
      have HM : Hid (c.params = 0 ∧ c.ans = false) := ⟨hp, ha⟩
      rw [hp] at c2
      rw [ha] at c3
      clear hp ha
      go_enter Tryd.func51, Tryd.ntmps51
      go_wp2_with fail
      go_loopw [5] (fun i wr => ∃ j : Nat, j ≤ L ∧ i = .int .i64 j ∧ Hid (Below w.heap.size w wr) ∧ Hid (∀ (q : Nat) d, q < j → l[q]? = some d → Cd.Fit 8 l d)) (fun i _ => L - (intOf i).toNat)
      case atStart => exact ⟨0, by omega, rfl, Below.refl _ _, fun q _ hq => absurd hq (Nat.not_lt_zero q)⟩
      case round =>
        clear c2 c3
        obtain ⟨j, hj, rfl, BR, N⟩ := hrel
        by_cases hlt : j < L
        · obtain ⟨d, ed⟩ : ∃ d, l[j]? = some d := ⟨_, List.getElem?_eq_getElem (by rw [← HL.out]; exact hlt)⟩
          have EH0 := rHts_in j d B (some ⟨g, o, none⟩) lc l wr (Nat.le_trans HH.out.1 BR.out.size) (HH.out.2.1.later (BR.out.mono HH.out.1)) HH.out.2.2 ed
          rw [← HL.out] at EH0
          have EH : Hid _ := EH0
          have ED : Hid (l[j]? = some d) := ed
          have hji : (j : Int) < (L : Int) := by omega
          clear ed EH0
          go_wp2_with fail
          refine Calls.mono EH.out ?_
          rintro e1 w1 ⟨r, hr, b1, he⟩
          have B1 : Hid (Below w.heap.size w w1) := BR.out.trans (b1.mono BR.out.size)
          clear b1 EH
          cases r with
          | none =>
            obtain rfl := he
            have NO : Hid (¬ Cd.Snd 8 l m) := fun ⟨_, _, _, h4⟩ => hr (h4 d (List.mem_of_getElem? ED.out))
            clear hr
            go_wp2_with fail
            go_ret
            exact snE_no NO.out B1.out
          | some H =>
            obtain ⟨gh, cap, rest, rfl, _, _⟩ := he
            have N2 : Hid (∀ (q : Nat) d, q < j + 1 → l[q]? = some d → Cd.Fit 8 l d) := fun q x hq ex => by
              by_cases hq2 : q < j
              · exact N.out q x hq2 ex
              · have : q = j := by omega
                rw [this, ED.out] at ex
                cases ex
                exact hr.2
            clear hr N
            go_wp2_with fail
            go_roundw
            case rel => exact ⟨j + 1, by omega, by go_num, B1, N2⟩
            case measure => simp [intOf]; omega
        · obtain rfl : j = L := by omega
          have YES : Hid (Cd.Snd 8 l m) := ⟨by rw [← HL.out]; exact hL4, hk0, ⟨c, by rw [Int.toNat_natCast]; exact HE.out, HM.out.1, HM.out.2⟩, fun d hd => by
            obtain ⟨q, hq⟩ := List.getElem?_of_mem hd
            exact N.out q d (by rw [HL.out]; exact (List.getElem?_eq_some_iff.1 hq).1) hq⟩
          clear N
          go_wp2_with fail
          go_ret
          exact ⟨true, rfl, ⟨fun _ => YES.out, fun _ => rfl⟩, BR.out⟩
  · have NO : Hid (¬ Cd.Snd 8 l m) := fun ⟨_, _, ⟨d, h3, h4, _⟩, _⟩ => by
      rw [Int.toNat_natCast, HE.out] at h3
      cases h3
      exact hp h4
    have e5 : (c.params == 0) = false := beq_eq_false_iff_ne.2 hp
    have e6 : (c.params != 0) = true := by simp [bne, e5]
    go_enter Tryd.func51, Tryd.ntmps51
    go_wp2_with fail
    go_ret
    exact snE_no NO.out (Below.refl _ _)
/-- The document's Sound. -/
theorem rSnd_any (main : Int) (B : Nat) (la : Option Addr) (lc : Nat) (l : List Cd.Co) (w : World) (hB : B ≤ w.heap.size) (hco : CoS B w la l) (hok : ∀ d, d ∈ l → d.Ok) : Calls Tryd.prog 51 #[.slice la l.length lc, .int .i64 main] w (SnE 8 l main w) := by
  by_cases hk : l.length ≤ 40 ∧ 0 ≤ main ∧ main < l.length
  · obtain ⟨j, rfl⟩ : ∃ j : Nat, main = j := ⟨main.toNat, by omega⟩
    exact rSnd_in j _ B la lc l w hB hco hok (List.getElem?_eq_getElem (by omega)) hk.1
  · exact rSnd_out main la lc l w hk
/-- The two say the same. -/
theorem snd_both {l : List Cd.Co} {main : Int} : Cd.Snd Cd.top l main ↔ Cd.Snd 8 l main := ⟨fun h => Cd.snd_mono (by decide) h, fun h => Cd.snd_mono (by unfold Cd.top; decide) h⟩
end Go.Proofs.YtodpdnidinnjjaaDoor
