/- Layer 13: TapeInputs. -/
import Derived.Test.YtgonadilbjfpkaaTpZ
namespace Go.Proofs.Ytgonadilbjfpkaa
open Go.RowKit
set_option linter.unusedVariables false
set_option linter.unusedSimpArgs false
/-- What was written, as a text, from now on. -/
def TwQ (L : List Int) (e0 : Int) (W : World) (e : Ending) (w' : World) : Prop := ∃ a n c, e = .returned (.tuple #[.slice a n c, .int .i64 e0]) ∧ (∀ W', Below w'.heap.size w' W' → (convert 22 9 (.slice a n c)).run Try.prog W' = .ok (.string (strOfNums L)) W') ∧ Below W.heap.size W w'
/-- What was read: numbers, a place, an error. -/
def TrQ (l : List Int) (i x : Int) (W : World) (e : Ending) (w' : World) : Prop := ∃ a c, e = .returned (.tuple #[.slice a l.length c, .int .i64 i, .int .i64 x]) ∧ NmS w'.heap.size w' a l ∧ Below W.heap.size W w'
theorem twNil (W : World) (e0 : Int) : TwQ [] e0 W (.returned (.tuple #[.slice none 0 0, .int .i64 e0])) W :=
  ⟨none, 0, 0, rfl, fun W' _ => run_convert_bytes_nil W' 22 5 Try.underlying22 Try.underlying5 0 0 9 Try.underlying9, Below.refl _ _⟩
theorem twOf {W : World} {L : List Int} {e : Ending} {w' : World} (h : WrQ W L e w') (hL : 0 < L.length) : TwQ L 0 W e w' := by
  obtain ⟨v, rfl, o, k⟩ := h
  obtain ⟨g, c, rfl, _, hg, _, ce⟩ := o.cell' hL
  exact ⟨_, _, _, rfl, fun W' q => cv_some W' g c L (fun j x hj => (q.cell (p := ⟨g, j, none⟩) hg).trans (ce j x hj)), k⟩
theorem wi_pos (l : List Int) : 0 < (Tp.wi l).length := by simp [Tp.wi, Tp.sl4]
theorem wrBoth (w : World) (a : Option Addr) (l : List Int) (c : Nat) (hm : NmS w.heap.size w a l) (hr : ∀ x ∈ l, -9223372036854775808 ≤ x ∧ x ≤ 9223372036854775807) (hl : l.length ≤ 1000000000000000) :
    ∃ L e0, (∀ W, Below w.heap.size w W → Calls Try.prog 17 #[.slice a l.length c] W (TwQ L e0 W)) ∧ (∀ W, Below w.heap.size w W → Calls Try.prog 18 #[.slice a l.length c] W (TwQ L e0 W)) := by
  by_cases h : 1000 < l.length
  · refine ⟨[], 2, fun W q => ?_, fun W q => ?_⟩
    · refine (writeIn_long l.length a c W h (by omega)).mono ?_
      rintro e w' ⟨rfl, rfl⟩
      exact twNil _ _
    · refine (rWriteIn_long l.length a c W h (by omega)).mono ?_
      rintro e w' ⟨rfl, rfl⟩
      exact twNil _ _
  · exact ⟨Tp.wi l, 0, fun W q => (writeIn_any l a c W (hm.later q (Nat.le_refl _)) q.size (by omega) hr).mono fun e w' h => twOf h (wi_pos l), fun W q => (rWriteIn_any l a c W (hm.later q (Nat.le_refl _)) q.size (by omega) hr).mono fun e w' h => twOf h (wi_pos l)⟩
theorem trOf {W : World} {b : List Int} {e : Ending} {w' : World} (h : rdQ W e w' (Tp.riB b)) : (∀ i x, Tp.riB b = .bad i x → TrQ [] i x W e w') ∧ (∀ l j, Tp.riB b = .good l j → TrQ l 0 0 W e w') := by
  refine ⟨fun i x hr => ?_, fun l j hr => ?_⟩
  · rw [hr] at h
    obtain ⟨rfl, k⟩ := h
    exact ⟨none, 0, rfl, fun h => absurd h (by decide), k⟩
  · rw [hr] at h
    obtain ⟨v, rfl, o, k⟩ := h
    obtain ⟨a, c, rfl⟩ := ownShT o
    exact ⟨a, c, rfl, o.nms, k⟩
theorem Tp.nums_len (b : List Int) : ∀ (n k : Nat) (acc l : List Int) (j : Nat), Tp.nums b n k acc = .good l j → l.length = acc.length + n
  | 0, k, acc, l, j, h => by simp [Tp.nums] at h; rw [← h.1]; omega
  | n + 1, k, acc, l, j, h => by
    simp only [Tp.nums, Tp.rdAt] at h
    cases hr : Tp.rdF 0 0 (b.drop k) with
    | inl p => rw [hr] at h; have := Tp.nums_len b n _ _ _ _ h; simp at this; omega
    | inr e => rw [hr] at h; cases h
theorem Tp.riB_len (b l : List Int) (j : Nat) (h : Tp.riB b = .good l j) : l.length ≤ 1000 := by
  unfold Tp.riB at h
  cases hh : Tp.hd 0 (Tp.head 1) b with
  | some p => rw [hh] at h; cases h
  | none =>
    rw [hh] at h
    unfold Tp.rdAt at h
    cases hc : Tp.rdF 0 0 (b.drop 5) with
    | inr e => rw [hc] at h; cases h
    | inl p =>
      rw [hc] at h
      dsimp only at h
      split at h
      · cases h
      · cases hm : Tp.nums b p.1 (5 + p.2) [] with
        | bad j e => rw [hm] at h; cases h
        | good l' j' =>
          rw [hm] at h
          dsimp only at h
          cases he : Tp.ends b j' with
          | some q => rw [he] at h; cases h
          | none =>
            rw [he] at h
            cases h
            have := Tp.nums_len b _ _ _ _ _ hm
            simp at this
            omega
theorem rdBoth (w : World) (a : Option Addr) (b : List Int) (c : Nat) (hm : ByS w.heap.size w a b) (hy : Tp.Byt b) (hc : b.length ≤ c) (hl : b.length ≤ 1000000000000000) :
    ∃ l i x, l.length ≤ 1000 ∧ (∀ W, Below w.heap.size w W → Calls Try.prog 19 #[.slice a b.length c] W (TrQ l i x W)) ∧ (∀ W, Below w.heap.size w W → Calls Try.prog 20 #[.slice a b.length c] W (TrQ l i x W)) := by
  by_cases h : 4194304 < b.length
  · refine ⟨[], 0, 2, by decide, fun W q => ?_, fun W q => ?_⟩
    · refine (readIn_long b.length a c W h (by omega)).mono ?_
      rintro e w' ⟨rfl, rfl⟩
      exact ⟨none, 0, rfl, fun h => absurd h (by decide), Below.refl _ _⟩
    · refine (rReadIn_long b.length a c W h (by omega)).mono ?_
      rintro e w' ⟨rfl, rfl⟩
      exact ⟨none, 0, rfl, fun h => absurd h (by decide), Below.refl _ _⟩
  · have p1 := fun W (q : Below w.heap.size w W) => readIn_any b a c W hy (hm.later q (Nat.le_refl _)) q.size hc (by omega)
    have p2 := fun W (q : Below w.heap.size w W) => rReadIn_any b a c W hy ((hm.later q (Nat.le_refl _)).mono q.size) hc (by omega)
    cases hr : Tp.riB b with
    | bad i x => exact ⟨[], i, x, by decide, fun W q => (p1 W q).mono fun e w' h => (trOf h).1 i x hr, fun W q => (p2 W q).mono fun e w' h => (trOf h).1 i x hr⟩
    | good l j => exact ⟨l, 0, 0, Tp.riB_len b l j hr, fun W q => (p1 W q).mono fun e w' h => (trOf h).2 l j hr, fun W q => (p2 W q).mono fun e w' h => (trOf h).2 l j hr⟩
set_option maxRecDepth 100000 in
set_option maxHeartbeats 4000000 in
theorem inputs_walk (w : World) (a0 : Option Addr) (l : List Int) (c0 : Nat) (hm0 : NmS w.heap.size w a0 l) (hr : ∀ x ∈ l, -9223372036854775808 ≤ x ∧ x ≤ 9223372036854775807) (_hc0 : l.length ≤ c0) (hl0 : l.length ≤ 1000000000000000) (a : Option Addr) (b : List Int) (c : Nat) (hm : ByS w.heap.size w a b) (hy : Tp.Byt b) (hc : b.length ≤ c) (hl : b.length ≤ 1000000000000000) :
    Calls Try.prog 5 #[.slice a0 l.length c0, .slice a b.length c] w fun e w' => e = .returned (.bool true) ∧ Below w.heap.size w w' := by
  obtain ⟨L, e0, w1, w2⟩ := wrBoth w a0 l c0 hm0 hr hl0
  obtain ⟨m, i, x, hml, r1, r2⟩ := rdBoth w a b c hm hy hc hl
  have W1 := hidT w1
  have W2 := hidT w2
  have R1 := hidT r1
  have R2 := hidT r2
  have ELo := hidT (long_any w a b.length c (by omega))
  obtain ⟨n0, hn0⟩ : ∃ n, n = l.length := ⟨_, rfl⟩
  obtain ⟨n, hn⟩ : ∃ n, n = b.length := ⟨_, rfl⟩
  rw [← hn0] at W1 W2 hl0 ⊢
  rw [← hn] at R1 R2 hl ELo ⊢
  clear hm0 hm hr hy hc hn hn0 w1 w2 r1 r2 _hc0
  obtain ⟨M, hM⟩ : ∃ M, M = m.length := ⟨_, rfl⟩
  have HM := hidT hM
  have qe : (e0 == e0) = true := beq_self_eq_true e0
  have qi : (i == i) = true := beq_self_eq_true i
  have qx : (x == x) = true := beq_self_eq_true x
  have qs := str_eqL L
  by_cases hlo : 3000 < n ∧ n ≤ 4194304
  · rw [decide_eq_true hlo] at ELo
    go_enter Try.func5, Try.ntmps5
    go_wp2_with fail
    refine ELo.out.mono ?_
    rintro e w3 ⟨rfl, rfl⟩
    go_wp2_with fail
    refine (known13 _).mono ?_
    rintro e w4 ⟨rfl, k4⟩
    have K4 := hidT k4
    clear k4
    go_wp2_with fail
    go_ret
    exact ⟨rfl, K4.out⟩
  · rw [decide_eq_false hlo] at ELo
    by_cases h11 : 1100 < n0
    · have d : decide ((1100 : Int) < (n0 : Int)) = true := decide_eq_true (by omega)
      go_enter Try.func5, Try.ntmps5
      go_wp2_with fail
      refine ELo.out.mono ?_
      rintro e w3 ⟨rfl, rfl⟩
      go_wp2_with fail
      refine (known13 _).mono ?_
      rintro e w4 ⟨rfl, k4⟩
      have K4 := hidT k4
      clear k4
      go_wp2_with fail
      go_ret
      exact ⟨rfl, K4.out⟩
    · have d : decide ((1100 : Int) < (n0 : Int)) = false := decide_eq_false (by omega)
      clear hlo
      go_enter Try.func5, Try.ntmps5
      go_wp2_with fail
      refine ELo.out.mono ?_
      rintro e w3 ⟨rfl, rfl⟩
      go_wp2_with fail
      refine (W1.out _ (Below.refl _ _)).mono ?_
      rintro e w4 ⟨a4, n4, c4, rfl, t4, k4⟩
      have T4 := hidT t4
      have K4 := hidT k4
      clear t4 k4
      go_wp2_with fail
      refine (W2.out _ K4.out).mono ?_
      rintro e w5 ⟨a5, n5, c5, rfl, t5, k5⟩
      have T5 := hidT t5
      have K5 := hidT (K4.out.trans (k5.mono K4.out.size))
      have J5 := hidT k5
      clear t5 k5
      go_wp2_with fail
      refine (R1.out _ K5.out).mono ?_
      rintro e w6 ⟨a6, c6, rfl, t6, k6⟩
      rw [← hM]
      have T6 := hidT t6
      have K6 := hidT (K5.out.trans (k6.mono K5.out.size))
      have J6 := hidT k6
      clear t6 k6
      go_wp2_with fail
      refine (R2.out _ K6.out).mono ?_
      rintro e w7 ⟨a7, c7, rfl, t7, k7⟩
      rw [← hM]
      have K7 := hidT (K6.out.trans (k7.mono K6.out.size))
      have k57 := J6.out.trans (k7.mono J6.out.size)
      have k47 := J5.out.trans (k57.mono J5.out.size)
      have s4 := T4.out w7 k47
      have s5 := T5.out w7 k57
      have ES := nums_yes w7 a6 a7 c6 c7 m ((T6.out.later k7 (Nat.le_refl _)).mono k7.size) t7 (by omega)
      rw [← hM] at ES
      have HES := hidT ES
      clear t7 k7 k57 k47 ES hM
      go_wp2_with fail
      refine HES.out.mono ?_
      rintro e w8 ⟨rfl, k8⟩
      have K8 := hidT (K7.out.trans (k8.mono K7.out.size))
      clear k8 s4 s5
      go_wp2_with fail
      refine (known13 _).mono ?_
      rintro e w9 ⟨rfl, k9⟩
      have K9 := hidT (K8.out.trans (k9.mono K8.out.size))
      clear k9
      go_wp2_with fail
      go_ret
      exact ⟨rfl, K9.out⟩
end Go.Proofs.Ytgonadilbjfpkaa
