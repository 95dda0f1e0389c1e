/- Layer 15: the document's Rises, Fits. -/
import Derived.Test.YthglhcabdadlpaaDoorZAlPn
namespace Go.Proofs.YthglhcabdadlpaaDoor
open Go.RowKit
set_option linter.unusedVariables false
set_option linter.unusedSimpArgs false
set_option maxRecDepth 100000
theorem ris_false {n m : Int} {q x : Al.Ev} {l : List Al.Ev} {T : Bool} (h : T = Al.rise n m q (x :: l)) (c : x.1 ≤ q.1 ∨ n ≤ x.1 ∨ x.2 ≤ q.2 ∨ m ≤ x.2) : T = false := by
  rw [h]
  simp only [Al.rise]
  rw [if_pos c]
theorem ris_true {n m : Int} {q x : Al.Ev} {l : List Al.Ev} {T : Bool} (h : T = Al.rise n m q (x :: l)) (c : ¬ (x.1 ≤ q.1 ∨ n ≤ x.1 ∨ x.2 ≤ q.2 ∨ m ≤ x.2)) : T = Al.rise n m x l := by
  rw [h]
  simp only [Al.rise]
  rw [if_neg c]
theorem wrP (k : Nat) (h : k + 1 ≤ 1000000) : wrap64 (((k + 1 : Nat) : Int) - 1) = (k : Int) := by unfold wrap64; omega
theorem wrP' (k : Nat) (h : k + 1 ≤ 1000000) : IntKind.i64.wrap (((k + 1 : Nat) : Int) - 1) = (k : Int) := by rw [IntKind.wrap_i64]; omega
/-- What the loop knows. -/
structure RiR (w : World) (n m : Int) (l : List Al.Ev) (T : Bool) (k : Nat) (q : Al.Ev) (wr : World) : Prop where
  b : Below w.heap.size w wr
  t : T = Al.rise n m q (l.drop k)
  l1 : -1 ≤ q.1
  l2 : -1 ≤ q.2
  z : k = 0 → q = (-1, -1)
  s : ∀ j, k = j + 1 → l[j]? = some q
set_option maxHeartbeats 8000000 in
theorem rrises_any (w : World) (a : Option Addr) (ca : Nat) (l : List Al.Ev) (n m : Int) {B : Nat} (ha : EvR B w a l) (hB : B ≤ w.heap.size) (hl : l.length ≤ 100000) : Calls Tryd.prog 40 #[.int .i64 n, .int .i64 m, .slice a l.length ca] w fun e w' => e = .returned (.bool (Al.rise n m (-1, -1) l)) ∧ Below w.heap.size w w' := by
  have HA := hidA ha
  have HBB := hidA hB
  obtain ⟨T, hT⟩ : ∃ T, T = Al.rise n m (-1, -1) l := ⟨_, rfl⟩
  have HT := hidA hT
  rw [← hT]
  obtain ⟨N, hN⟩ : ∃ N, N = l.length := ⟨_, rfl⟩
  have HN : Hid (N = l.length ∧ N ≤ 100000) := ⟨hN, by rw [hN]; exact hl⟩
  rw [← hN]
  clear ha hB hT hN hl
  go_enter Tryd.func40, Tryd.ntmps40
  go_wp2_with fail
  go_loopg [7] N (fun gk y wr => ∃ (k : Nat) (q : Al.Ev), k + gk = N ∧ y = .int .i64 k ∧ Hid (RiR w n m l T k q wr))
  case atStart => exact ⟨0, (-1, -1), by omega, rfl, ⟨Below.refl _ _, HT.out, by decide, by decide, fun _ => rfl, fun j h => by omega⟩⟩
  case round =>
    obtain ⟨k, q, hk, rfl, RR⟩ := hrel
    rcases gk with _ | gk
    · obtain rfl : N = k := by omega
      have dk : decide ((N : Int) < (N : Int)) = false := decide_eq_false (Int.lt_irrefl _)
      have E : Hid (T = true) := by unfold Hid; rw [RR.out.t, List.drop_eq_nil_of_le (by rw [HN.out.1]; exact Nat.le_refl _)]; rfl
      have FB := hidA RR.out.b
      clear RR HT
      obtain rfl : T = true := E.out
      go_wp2_with fail
      go_ret
      exact ⟨rfl, FB.out⟩
    · obtain ⟨k6, dk, dk2, hkN, hk3⟩ := mch_k hk
      obtain ⟨x, hx⟩ : ∃ x, l[k]? = some x := ⟨_, List.getElem?_eq_getElem (by rw [← HN.out.1]; exact hkN)⟩
      have TK : Hid (T = Al.rise n m q (x :: l.drop (k + 1))) := by unfold Hid; rw [← drop_at hx]; exact RR.out.t
      obtain ⟨ga, oa, rfl, hga, cs⟩ := (HA.out.later RR.out.b HBB.out) (by rw [← HN.out.1]; exact Nat.lt_of_le_of_lt (Nat.zero_le k) hkN)
      have a0 := (cs k x hx).1
      have a1 := (cs k x hx).2
      have CP : Hid (∀ j, k = j + 1 → wr.cell? ⟨ga, oa + j * 2, none⟩ = some (.int .i64 q.1) ∧ wr.cell? ⟨ga, oa + j * 2 + 1, none⟩ = some (.int .i64 q.2)) := fun j hj => cs j q (RR.out.s j hj)
      have FB := hidA RR.out.b
      have QL : Hid (-1 ≤ q.1 ∧ -1 ≤ q.2) := ⟨RR.out.l1, RR.out.l2⟩
      have QZ := hidA RR.out.z
      have HX := hidA hx
      have WK := hidA (wrK k (Nat.le_trans (Nat.le_of_lt hkN) (Nat.le_trans HN.out.2 (by decide))))
      clear RR HT cs hx
      have NX : Hid (¬ (x.1 ≤ q.1 ∨ n ≤ x.1 ∨ x.2 ≤ q.2 ∨ m ≤ x.2) → ∀ wr, Below w.heap.size w wr → RiR w n m l T (k + 1) x wr) := fun h wr hb => by
        have l1 := QL.out
        have l2 : ¬ x.1 ≤ q.1 := fun c => h (.inl c)
        have l3 : ¬ x.2 ≤ q.2 := fun c => h (.inr (.inr (.inl c)))
        exact ⟨hb, ris_true TK.out h, by omega, by omega, fun h => by omega, fun j hj => by
          obtain rfl : j = k := by omega
          exact HX.out⟩
      have NF : Hid (x.1 < 0 ∨ x.2 < 0 ∨ n ≤ x.1 ∨ m ≤ x.2 ∨ x.1 ≤ q.1 ∨ x.2 ≤ q.2 → T = false) := fun h => ris_false TK.out (by have := QL.out; omega)
      have NZ : Hid (k = 0 → ¬ x.1 < 0 → ¬ x.2 < 0 → ¬ n ≤ x.1 → ¬ m ≤ x.2 → ¬ (x.1 ≤ q.1 ∨ n ≤ x.1 ∨ x.2 ≤ q.2 ∨ m ≤ x.2)) := fun h1 h2 h3 h4 h5 => by rw [QZ.out h1]; simp only; omega
      have NS : Hid (¬ n ≤ x.1 → ¬ m ≤ x.2 → ¬ x.1 ≤ q.1 → ¬ x.2 ≤ q.2 → ¬ (x.1 ≤ q.1 ∨ n ≤ x.1 ∨ x.2 ≤ q.2 ∨ m ≤ x.2)) := fun h2 h3 h4 h5 => by rintro (h | h | h | h) <;> contradiction
      clear TK QL QZ HX
      have NXX : Hid (∀ x1 x2 : Int, x1 = x.1 → x2 = x.2 → (¬ (x1 ≤ q.1 ∨ n ≤ x1 ∨ x2 ≤ q.2 ∨ m ≤ x2) → ∀ wr, Below w.heap.size w wr → RiR w n m l T (k + 1) x wr)) := fun x1 x2 e1 e2 => by rw [e1, e2]; exact NX.out
      obtain ⟨x1, hx1⟩ : ∃ x1, x1 = x.1 := ⟨_, rfl⟩
      obtain ⟨x2, hx2⟩ : ∃ x2, x2 = x.2 := ⟨_, rfl⟩
      have NX2 := hidA (NXX.out x1 x2 hx1 hx2)
      rw [← hx1] at a0 NF NZ NS
      rw [← hx2] at a1 NF NZ NS
      clear hx1 hx2 NX NXX
      generalize q.1 = q1 at *
      generalize q.2 = q2 at *
      by_cases c1 : x1 < 0
      · have d1 : decide (x1 < 0) = true := decide_eq_true c1
        obtain rfl : T = false := NF.out (.inl c1)
        clear NF NZ NS NX2 CP
        go_wp2_with fail
        go_ret
        exact ⟨rfl, FB.out⟩
      have d1 : decide (x1 < 0) = false := decide_eq_false c1
      by_cases c2 : x2 < 0
      · have d2 : decide (x2 < 0) = true := decide_eq_true c2
        obtain rfl : T = false := NF.out (.inr (.inl c2))
        clear NF NZ NS NX2 CP
        go_wp2_with fail
        go_ret
        exact ⟨rfl, FB.out⟩
      have d2 : decide (x2 < 0) = false := decide_eq_false c2
      by_cases c3 : n ≤ x1
      · have d3 : decide (n ≤ x1) = true := decide_eq_true c3
        obtain rfl : T = false := NF.out (.inr (.inr (.inl c3)))
        clear NF NZ NS NX2 CP
        go_wp2_with fail
        go_ret
        exact ⟨rfl, FB.out⟩
      have d3 : decide (n ≤ x1) = false := decide_eq_false c3
      by_cases c4 : m ≤ x2
      · have d4 : decide (m ≤ x2) = true := decide_eq_true c4
        obtain rfl : T = false := NF.out (.inr (.inr (.inr (.inl c4))))
        clear NF NZ NS NX2 CP
        go_wp2_with fail
        go_ret
        exact ⟨rfl, FB.out⟩
      have d4 : decide (m ≤ x2) = false := decide_eq_false c4
      rcases k with _ | k
      · have F := hidA (NX2.out (NZ.out rfl c1 c2 c3 c4))
        clear NF NZ NS NX2 CP c1 c2 c3 c4
        simp only [Nat.zero_mul, Nat.add_zero] at a0 a1
        go_upto_region 6 with fail
        have BDR : Hid (∀ r, Below w.heap.size w (wr.drewN r)) := fun r => below_drA FB.out r
        go_quiet (fail)
        have BQ := hidA (BDR.out nq)
        generalize wr.drewN nq = W5 at BQ ⊢
        clear a0 a1
        go_wp2_with fail
        go_roundg gk
        case measure => omega
        case rel => exact ⟨0 + 1, x, hk3, by first | rfl | exact congrArg _ WK.out, F.out W5 BQ.out⟩
      · obtain ⟨p0, p1⟩ := CP.out k rfl
        have e1 : wrap64 (((k + 1 : Nat) : Int) - 1) = (k : Int) := wrP k (Nat.le_trans (Nat.le_of_lt hkN) (Nat.le_trans HN.out.2 (by decide)))
        have e2 : IntKind.i64.wrap (((k + 1 : Nat) : Int) - 1) = (k : Int) := wrP' k (Nat.le_trans (Nat.le_of_lt hkN) (Nat.le_trans HN.out.2 (by decide)))
        have g1 : decide ((0 : Int) < ((k + 1 : Nat) : Int)) = true := decide_eq_true (Int.natCast_pos.2 (Nat.succ_pos k))
        have g2 : decide (0 < k + 1) = true := decide_eq_true (Nat.succ_pos k)
        have hkp : k < N := Nat.lt_of_succ_lt hkN
        obtain ⟨i1, i2, i3⟩ := ix_nums hkp
        obtain ⟨K, hK⟩ : ∃ K, K = k + 1 := ⟨_, rfl⟩
        have HK := hidA hK
        rw [← hK] at e1 e2 g1 g2 a0 a1 k6 dk dk2 hkN ⊢
        clear hK
        by_cases c5 : x1 ≤ q1
        · have d5 : decide (x1 ≤ q1) = true := decide_eq_true c5
          obtain rfl : T = false := NF.out (.inr (.inr (.inr (.inr (.inl c5)))))
          clear NF NZ NS NX2 CP c1 c2 c3 c4 c5
          go_upto_region 6 with fail
          have BDR : Hid (∀ r, Below w.heap.size w (wr.drewN r)) := fun r => below_drA FB.out r
          go_quiet (fail)
          have BQ := hidA (BDR.out nq)
          generalize wr.drewN nq = W5 at BQ ⊢
          clear a0 a1
          go_wp2_with fail
          go_ret
          exact ⟨rfl, BQ.out⟩
        have d5 : decide (x1 ≤ q1) = false := decide_eq_false c5
        by_cases c6 : x2 ≤ q2
        · have d6 : decide (x2 ≤ q2) = true := decide_eq_true c6
          obtain rfl : T = false := NF.out (.inr (.inr (.inr (.inr (.inr c6)))))
          clear NF NZ NS NX2 CP c1 c2 c3 c4 c5 c6
          go_upto_region 6 with fail
          have BDR : Hid (∀ r, Below w.heap.size w (wr.drewN r)) := fun r => below_drA FB.out r
          go_quiet (fail)
          have BQ := hidA (BDR.out nq)
          generalize wr.drewN nq = W5 at BQ ⊢
          clear a0 a1
          go_wp2_with fail
          go_ret
          exact ⟨rfl, BQ.out⟩
        have d6 : decide (x2 ≤ q2) = false := decide_eq_false c6
        have F := hidA (NX2.out (NS.out c3 c4 c5 c6))
        clear NF NZ NS NX2 CP c1 c2 c3 c4 c5 c6
        go_upto_region 6 with fail
        have BDR : Hid (∀ r, Below w.heap.size w (wr.drewN r)) := fun r => below_drA FB.out r
        go_quiet (fail)
        have BQ := hidA (BDR.out nq)
        generalize wr.drewN nq = W5 at BQ ⊢
        clear a0 a1
        go_wp2_with fail
        go_roundg gk
        case measure => omega
        case rel => exact ⟨k + 1 + 1, x, hk3, by rw [HK.out]; exact congrArg _ WK.out, F.out W5 BQ.out⟩
end Go.Proofs.YthglhcabdadlpaaDoor
