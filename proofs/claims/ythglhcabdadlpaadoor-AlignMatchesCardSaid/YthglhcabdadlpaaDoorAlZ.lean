/- Layer 15: the document's Parting, Text. -/
import Derived.Test.YthglhcabdadlpaaDoorAlQ
namespace Go.Proofs.YthglhcabdadlpaaDoor
open Go.RowKit
set_option linter.unusedVariables false
set_option linter.unusedSimpArgs false
set_option maxRecDepth 100000
theorem ix_nums' {i n : Nat} (h : i < n) : (i : Int) < (n : Int) ∧ decide (i < n) = true ∧ (0 : Int) ≤ (i : Int) := ⟨by omega, decide_eq_true h, by omega⟩
theorem part_at {l m : List Al.Ev} {k : Nat} (h : TgI l m k) (h1 : k ≤ l.length) (h2 : k ≤ m.length) (h3 : k = l.length ∨ k = m.length ∨ l[k]? ≠ m[k]?) : Al.part l m = if k = l.length ∧ k = m.length then -1 else (k : Int) := by
  have e : Al.tog l m = k := Al.tog_is l m k h1 h2 h h3
  unfold Al.part
  rw [e]
set_option maxHeartbeats 8000000 in
theorem rpart_any (w : World) (a b : Option Addr) (ca cb : Nat) (l m : List Al.Ev) {B : Nat} (ha : EvR B w a l) (hb : EvR B w b m) (hB : B ≤ w.heap.size) (hl : l.length ≤ 100000) (hm : m.length ≤ 100000) : Calls Tryd.prog 11 #[.slice a l.length ca, .slice b m.length cb] w fun e w' => e = .returned (.int .i64 (Al.part l m)) ∧ Below w.heap.size w w' := by
  have HA := hidA ha
  have HB := hidA hb
  have HBB := hidA hB
  have HP : Hid (∀ k, TgI l m k → k ≤ l.length → k ≤ m.length → (k = l.length ∨ k = m.length ∨ l[k]? ≠ m[k]?) → Al.part l m = if k = l.length ∧ k = m.length then -1 else (k : Int)) := fun k => part_at
  generalize Al.part l m = P at *
  obtain ⟨N, hN⟩ : ∃ N, N = l.length := ⟨_, rfl⟩
  obtain ⟨M, hM⟩ : ∃ M, M = m.length := ⟨_, rfl⟩
  have HN : Hid (N = l.length ∧ M = m.length ∧ N ≤ 100000 ∧ M ≤ 100000) := ⟨hN, hM, by rw [hN]; exact hl, by rw [hM]; exact hm⟩
  rw [← hN, ← hM] at HP ⊢
  clear ha hb hB hN hM hl hm
  go_enter Tryd.func11, Tryd.ntmps11
  go_wp2_with fail
  go_loopg [5] N (fun gk y wr => ∃ k : Nat, k + gk = N ∧ y = .int .i64 k ∧ Hid (Below w.heap.size w wr ∧ TgI l m k ∧ k ≤ M))
  case atStart => exact ⟨0, by omega, rfl, Below.refl _ _, fun i hi => absurd hi (Nat.not_lt_zero i), Nat.zero_le _⟩
  case round =>
    obtain ⟨k, hk, rfl, RR⟩ := hrel
    have BDR : Hid (∀ r, Below w.heap.size w (wr.drewN r)) := fun r => below_drA RR.out.1 r
    rcases gk with _ | gk
    · obtain rfl : N = k := by omega
      have dk : decide ((N : Int) < (N : Int)) = false := decide_eq_false (Int.lt_irrefl _)
      have dk1 : decide (N < N) = false := decide_eq_false (Nat.lt_irrefl _)
      have q1 : ((N : Int) == (N : Int)) = true := beq_self_eq_true _
      by_cases c : N = M
      · have q2 : ((N : Int) == (M : Int)) = true := by rw [c]; exact beq_self_eq_true _
        obtain rfl : P = -1 := by rw [HP.out N RR.out.2.1 (Nat.le_refl _) RR.out.2.2 (.inl rfl), if_pos ⟨rfl, c⟩]
        clear c HP RR
        go_upto_region 2 with fail
        go_quiet (fail)
        have BQ := hidA (BDR.out nq)
        generalize wr.drewN nq = W5 at BQ ⊢
        go_wp2_with fail
        go_ret
        exact ⟨rfl, BQ.out⟩
      · have q2 : ((N : Int) == (M : Int)) = false := nbeqA c
        obtain rfl : P = (N : Int) := by rw [HP.out N RR.out.2.1 (Nat.le_refl _) RR.out.2.2 (.inl rfl), if_neg (fun h => c h.2)]
        clear c HP RR
        go_upto_region 2 with fail
        go_quiet (fail)
        have BQ := hidA (BDR.out nq)
        generalize wr.drewN nq = W5 at BQ ⊢
        go_wp2_with fail
        go_ret
        exact ⟨rfl, BQ.out⟩
    · obtain ⟨k6, dk, dk2, hkN, hk3⟩ := mch_k hk
      have q1 : ((k : Int) == (N : Int)) = false := nbeqA (Nat.ne_of_lt hkN)
      by_cases c : k = M
      · have e1 : decide ((k : Int) < (M : Int)) = false := decide_eq_false (by rw [c]; exact Int.lt_irrefl _)
        have e2 : decide (k < M) = false := decide_eq_false (by rw [c]; exact Nat.lt_irrefl _)
        obtain rfl : P = (k : Int) := by rw [HP.out k RR.out.2.1 (Nat.le_of_lt hkN) RR.out.2.2 (.inr (.inl c)), if_neg (fun h => absurd h.1 (Nat.ne_of_lt hkN))]
        clear c HP RR
        go_upto_region 2 with fail
        go_quiet (fail)
        have BQ := hidA (BDR.out nq)
        generalize wr.drewN nq = W5 at BQ ⊢
        go_wp2_with fail
        go_ret
        exact ⟨rfl, BQ.out⟩
      · have hkM : k < M := Nat.lt_of_le_of_ne RR.out.2.2 c
        obtain ⟨e0, e2, e3⟩ := ix_nums' hkM
        have e1 : decide ((k : Int) < (M : Int)) = true := decide_eq_true e0
        obtain ⟨x, hx⟩ : ∃ x, l[k]? = some x := ⟨_, List.getElem?_eq_getElem (by rw [← HN.out.1]; exact hkN)⟩
        obtain ⟨y, hy⟩ : ∃ y, m[k]? = some y := ⟨_, List.getElem?_eq_getElem (by rw [← HN.out.2.1]; exact hkM)⟩
        obtain ⟨ga, oa, rfl, hga, cs⟩ := (HA.out.later RR.out.1 HBB.out) (by rw [← HN.out.1]; exact Nat.lt_of_le_of_lt (Nat.zero_le k) hkN)
        obtain ⟨gb, ob, rfl, hgb, cs2⟩ := (HB.out.later RR.out.1 HBB.out) (by rw [← HN.out.2.1]; exact Nat.lt_of_le_of_lt (Nat.zero_le k) hkM)
        have a0 := (cs k x hx).1
        have a1 := (cs k x hx).2
        have b0 := (cs2 k y hy).1
        have b1 := (cs2 k y hy).2
        have WK := hidA (wrK k (Nat.le_trans (Nat.le_of_lt hkN) (Nat.le_trans HN.out.2.2.1 (by decide))))
        by_cases hxy : x = y
        · subst hxy
          have ST : Hid (TgI l m (k + 1) ∧ k + 1 ≤ M) := ⟨RR.out.2.1.step hx hy, hkM⟩
          clear cs cs2 hx hy RR HP c
          generalize x.1 = x1 at a0 b0
          generalize x.2 = x2 at a1 b1
          have z1 : (x1 == x1) = true := beq_self_eq_true x1
          have z2 : (x2 == x2) = true := beq_self_eq_true x2
          go_upto_region 2 with fail
          go_quiet (fail)
          have BQ := hidA (BDR.out nq)
          generalize wr.drewN nq = W5 at BQ ⊢
          clear a0 a1 b0 b1
          go_wp2_with fail
          go_roundg gk
          case measure => omega
          case rel => exact ⟨k + 1, hk3, congrArg _ WK.out, BQ.out, ST.out.1, ST.out.2⟩
        · obtain rfl : P = (k : Int) := by rw [HP.out k RR.out.2.1 (Nat.le_of_lt hkN) RR.out.2.2 (.inr (.inr (by rw [hx, hy]; intro h; exact hxy (Option.some.inj h)))), if_neg (fun h => absurd h.1 (Nat.ne_of_lt hkN))]
          have qq := ev_ne hxy
          clear cs cs2 hx hy RR HP hxy c
          generalize x.1 = x1 at a0 qq
          generalize x.2 = x2 at a1 qq
          generalize y.1 = y1 at b0 qq
          generalize y.2 = y2 at b1 qq
          rcases qq with z1 | ⟨z1, z2⟩
          all_goals
            go_upto_region 2 with fail
            go_quiet (fail)
            have BQ := hidA (BDR.out nq)
            generalize wr.drewN nq = W5 at BQ ⊢
            clear a0 a1 b0 b1
            go_wp2_with fail
            go_ret
            exact ⟨rfl, BQ.out⟩
end Go.Proofs.YthglhcabdadlpaaDoor
