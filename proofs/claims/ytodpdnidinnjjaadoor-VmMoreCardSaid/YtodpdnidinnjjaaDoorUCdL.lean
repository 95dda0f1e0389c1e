/- Layer 8: Sound of the program, for every codes and number. -/
import Derived.Test.YtodpdnidinnjjaaDoorUCdK
namespace Go.Proofs.YtodpdnidinnjjaaDoor
open Go.RowKit
set_option linter.unusedVariables false

/-- What Sound answers. -/
def SnE (B : Int) (l : List Cd.Co) (main : Int) (w : World) (e : Ending) (w' : World) : Prop := ∃ b, e = .returned (.bool b) ∧ (b = true ↔ Cd.Snd B l main) ∧ Below w.heap.size w w'
theorem snE_no {B : Int} {l : List Cd.Co} {main : Int} {w w' : World} (h : ¬ Cd.Snd B l main) (b : Below w.heap.size w w') : SnE B l main w (.returned (.bool false)) w' := ⟨false, rfl, ⟨(fun e => by cases e), fun e => absurd e h⟩, b⟩
set_option maxRecDepth 100000 in
set_option maxHeartbeats 4000000 in
theorem cdSnd_out (main : Int) (la : Option Addr) (lc : Nat) (l : List Cd.Co) (w : World) (hk : ¬ (l.length ≤ 40 ∧ 0 ≤ main ∧ main < l.length)) : Calls Tryd.prog 46 #[.slice la l.length lc, .int .i64 main] w (SnE Cd.top l main w) := by
  have NO : Hid (¬ Cd.Snd Cd.top l main) := fun ⟨h1, h2, ⟨c, h3, _⟩, _⟩ => hk ⟨h1, h2, by have := (List.getElem?_eq_some_iff.1 h3).1; omega⟩
  by_cases h0 : 40 < (l.length : Int)
  · clear hk
    go_enter Tryd.func46, Tryd.ntmps46
    go_wp2_with fail
    go_ret
    exact snE_no NO.out (Below.refl _ _)
  · by_cases h1 : main < 0
    · clear hk
      go_enter Tryd.func46, Tryd.ntmps46
      go_wp2_with fail
      go_ret
      exact snE_no NO.out (Below.refl _ _)
    · have h2 : (l.length : Int) ≤ main := by omega
      clear hk
      go_enter Tryd.func46, Tryd.ntmps46
      go_wp2_with fail
      go_ret
      exact snE_no NO.out (Below.refl _ _)
set_option maxRecDepth 100000 in
set_option maxHeartbeats 8000000 in
theorem cdSnd_in (m : Nat) (c : Cd.Co) (B : Nat) (la : Option Addr) (lc : Nat) (l : List Cd.Co) (w : World) (h : CdH B w la l) (e : l[m]? = some c) (h40 : l.length ≤ 40) : Calls Tryd.prog 46 #[.slice la l.length lc, .int .i64 m] w (SnE Cd.top l m w) := by
  obtain ⟨g, o, ia, ic, rfl, hg, at_⟩ := h.co.at e
  have c2 := at_.c2
  have c3 := at_.c3
  have kl : m < l.length := (List.getElem?_eq_some_iff.1 e).1
  have hki : (m : Int) < (l.length : Int) := by omega
  have hk0 : (0 : Int) ≤ (m : Int) := by omega
  have h4 : ¬ 40 < (l.length : Int) := by omega
  have h5 : ¬ (m : Int) < 0 := by omega
  have h6 : ¬ (l.length : Int) ≤ (m : Int) := by omega
  have HH : Hid (CdH B w (some ⟨g, o, none⟩) l) := h
  have HE : Hid (l[m]? = some c) := e
  clear h e at_
  by_cases hp : c.params = 0
  · cases ha : c.ans with
    | true =>
      have NO : Hid (¬ Cd.Snd Cd.top l m) := fun ⟨_, _, ⟨d, h3, _, h4⟩, _⟩ => by
        rw [Int.toNat_natCast, HE.out] at h3
        cases h3
        rw [ha] at h4
        cases h4
      rw [hp] at c2
      rw [ha] at c3
      clear hp ha
      go_enter Tryd.func46, Tryd.ntmps46
      go_wp2_with fail
      go_ret
      exact snE_no NO.out (Below.refl _ _)
    | false =>
      have HM : Hid (c.params = 0 ∧ c.ans = false) := ⟨hp, ha⟩
      rw [hp] at c2
      rw [ha] at c3
      clear hp ha
      go_enter Tryd.func46, Tryd.ntmps46
      go_wp2_with fail
      go_loopw [36] (fun i wr => ∃ j : Nat, j ≤ l.length ∧ i = .int .i64 j ∧ Hid (Below w.heap.size w wr) ∧ Hid (∀ (q : Nat) d, q < j → l[q]? = some d → Cd.Fit Cd.top l d)) (fun i _ => l.length - (intOf i).toNat)
      case atStart => exact ⟨0, by omega, rfl, Below.refl _ _, fun q _ hq => absurd hq (Nat.not_lt_zero q)⟩
      case round =>
        obtain ⟨j, hj, rfl, BR, N⟩ := hrel
        by_cases hlt : j < l.length
        · obtain ⟨d, ed⟩ : ∃ d, l[j]? = some d := ⟨_, List.getElem?_eq_getElem hlt⟩
          have EH : Hid _ := cdHts_in j d B (some ⟨g, o, none⟩) lc l wr (HH.out.later (BR.out.mono HH.out.hB)) ed
          have ED : Hid (l[j]? = some d) := ed
          have hji : (j : Int) < (l.length : Int) := by omega
          clear ed
          go_wp2_with fail
          refine Calls.mono EH.out ?_
          rintro e1 w1 ⟨r, hr, b1, he⟩
          have B1 : Hid (Below w.heap.size w w1) := BR.out.trans (b1.mono BR.out.size)
          clear b1 EH
          cases r with
          | none =>
            obtain rfl := he
            have NO : Hid (¬ Cd.Snd Cd.top l m) := fun ⟨_, _, _, h4⟩ => hr (h4 d (List.mem_of_getElem? ED.out))
            clear hr
            go_wp2_with fail
            go_ret
            exact snE_no NO.out B1.out
          | some H =>
            obtain ⟨gh, rfl, _, _⟩ := he
            have N2 : Hid (∀ (q : Nat) d, q < j + 1 → l[q]? = some d → Cd.Fit Cd.top l d) := fun q x hq ex => by
              by_cases hq2 : q < j
              · exact N.out q x hq2 ex
              · have : q = j := by omega
                rw [this, ED.out] at ex
                cases ex
                exact hr.2
            clear hr N
            go_wp2_with fail
            go_roundw
            case rel => exact ⟨j + 1, by omega, by go_num, B1, N2⟩
            case measure => simp [intOf]; omega
        · obtain rfl : j = l.length := by omega
          have YES : Hid (Cd.Snd Cd.top l m) := ⟨h40, hk0, ⟨c, by rw [Int.toNat_natCast]; exact HE.out, HM.out.1, HM.out.2⟩, fun d hd => by
            obtain ⟨q, hq⟩ := List.getElem?_of_mem hd
            exact N.out q d (List.getElem?_eq_some_iff.1 hq).1 hq⟩
          clear N
          go_wp2_with fail
          go_ret
          exact ⟨true, rfl, ⟨fun _ => YES.out, fun _ => rfl⟩, BR.out⟩
  · have NO : Hid (¬ Cd.Snd Cd.top l m) := fun ⟨_, _, ⟨d, h3, h4, _⟩, _⟩ => by
      rw [Int.toNat_natCast, HE.out] at h3
      cases h3
      exact hp h4
    have e0 : (c.params == 0) = false := beq_eq_false_iff_ne.2 hp
    have e1 : (c.params != 0) = true := by simp [bne, e0]
    go_enter Tryd.func46, Tryd.ntmps46
    go_wp2_with fail
    go_ret
    exact snE_no NO.out (Below.refl _ _)
theorem cdSnd_any (main : Int) (B : Nat) (la : Option Addr) (lc : Nat) (l : List Cd.Co) (w : World) (h : CdH B w la l) : Calls Tryd.prog 46 #[.slice la l.length lc, .int .i64 main] w (SnE Cd.top l main w) := by
  by_cases hk : l.length ≤ 40 ∧ 0 ≤ main ∧ main < l.length
  · obtain ⟨j, rfl⟩ : ∃ j : Nat, main = j := ⟨main.toNat, by omega⟩
    exact cdSnd_in j _ B la lc l w h (List.getElem?_eq_getElem (by omega)) hk.1
  · exact cdSnd_out main la lc l w hk
end Go.Proofs.YtodpdnidinnjjaaDoor
