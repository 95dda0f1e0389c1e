/- Layer 15: rise. -/
import Derived.Test.YthglhcabdadlpaaDoorAlJ
namespace Go.Proofs.YthglhcabdadlpaaDoor
open Go.RowKit
set_option linter.unusedVariables false
set_option linter.unusedSimpArgs false
set_option maxRecDepth 100000
theorem boxSet {w : World} {p : Nat} {a b x y : Value} {T : TypeId} (h : w.heap[p]? = some (.cells #[a, b] T (0, 0))) : ((w.setCell ⟨p, 0, none⟩ x).setCell ⟨p, 1, none⟩ y).heap[p]? = some (.cells #[x, y] T (0, 0)) := by
  have h1 := heap_setCell_same w p 0 _ _ x h
  exact heap_setCell_same _ p 1 _ _ y h1
theorem box_at {w : World} {p : Nat} {a b : Value} {T : TypeId} (h : w.heap[p]? = some (.cells #[a, b] T (0, 0))) : w.cell? ⟨p, 0, none⟩ = some a ∧ w.cell? ⟨p, 1, none⟩ = some b ∧ w.frozen? ⟨p, 0, none⟩ = false ∧ w.frozen? ⟨p, 1, none⟩ = false := by
  refine ⟨by simp [World.cell?, h], by simp [World.cell?, h], by simp [World.frozen?, h], by simp [World.frozen?, h]⟩
set_option maxHeartbeats 8000000 in
theorem rise_any (w : World) (a : Option Addr) (ca : Nat) (l : List Al.Ev) (n m : Int) {B : Nat} (ha : EvR B w a l) (hB : B ≤ w.heap.size) (hl : l.length ≤ 1000000) : Calls Tryd.prog 39 #[.int .i64 n, .int .i64 m, .slice a l.length ca] w fun e w' => e = .returned (.bool (Al.rise n m (-1, -1) l)) ∧ Below w.heap.size w w' := by
  have HA := hidA ha
  have HBB := hidA hB
  obtain ⟨W0, hW0⟩ : ∃ W0, W0 = w.alloc (.cells #[.int .i64 (-1), .int .i64 (-1)] 64) := ⟨_, rfl⟩
  obtain ⟨p, hp⟩ : ∃ p, p = w.heap.size := ⟨_, rfl⟩
  have B0 : Hid (Below p w W0 ∧ W0.heap[p]? = some (.cells #[.int .i64 (-1), .int .i64 (-1)] 64 (0, 0)) ∧ p = w.heap.size) := ⟨by rw [hW0, hp]; exact (Below.refl _ _).alloc (Nat.le_refl _) _, by rw [hW0, hp]; exact Array.getElem?_push_size, hp⟩
  obtain ⟨R, hR⟩ : ∃ R, R = Al.rise n m (-1, -1) l := ⟨_, rfl⟩
  have HR := hidA hR
  rw [← hR]
  obtain ⟨N, hN⟩ : ∃ N, N = l.length := ⟨_, rfl⟩
  have HN := hidA hN
  rw [← hN] at hl ⊢
  have HL := hidA hl
  rw [show Below w.heap.size = Below p from by rw [hp]]
  clear ha hB hR hN hl
  go_enter Tryd.func39, Tryd.ntmps39
  go_upto_region 2 with fail
  rw [← hp, ← hW0]
  clear hp hW0
  go_wp2_with fail
  go_loopg [13] N (fun gk y wr => ∃ (k : Nat) (q : Al.Ev), k + gk = N ∧ y = .int .i64 k ∧ Hid (Below p w wr ∧ wr.heap[p]? = some (.cells #[.int .i64 q.1, .int .i64 q.2] 64 (0, 0)) ∧ R = Al.rise n m q (l.drop k)))
  case atStart => exact ⟨0, (-1, -1), by omega, rfl, B0.out.1, B0.out.2.1, HR.out⟩
  case round =>
    obtain ⟨k, q, hk, rfl, RR⟩ := hrel
    rcases gk with _ | gk
    · obtain rfl : N = k := by omega
      have dk : decide ((N : Int) < (N : Int)) = false := decide_eq_false (Int.lt_irrefl _)
      have FIN : Hid (R = true ∧ Below p w wr) := ⟨by rw [RR.out.2.2, List.drop_eq_nil_of_le (by rw [HN.out]; exact Nat.le_refl _)]; rfl, RR.out.1⟩
      clear RR HR
      obtain rfl : R = true := FIN.out.1
      go_wp2_with fail
      go_ret
      exact ⟨rfl, FIN.out.2⟩
    · obtain ⟨k6, dk, dk2, hkN, hk3⟩ := mch_k hk
      obtain ⟨x, hx⟩ : ∃ x, l[k]? = some x := ⟨_, List.getElem?_eq_getElem (by rw [← HN.out]; exact hkN)⟩
      have hdr : l.drop k = x :: l.drop (k + 1) := by
        obtain ⟨h1, h2⟩ := List.getElem?_eq_some_iff.1 hx
        rw [List.drop_eq_getElem_cons h1, h2]
      have HRK : Hid (R = Al.rise n m q (x :: l.drop (k + 1))) := by unfold Hid; rw [← hdr]; exact RR.out.2.2
      obtain ⟨ga, oa, rfl, hga, cs⟩ := (HA.out.later RR.out.1 (by rw [B0.out.2.2]; exact HBB.out)) (by rw [← HN.out]; exact Nat.lt_of_le_of_lt (Nat.zero_le k) hkN)
      have a0 := (cs k x hx).1
      have a1 := (cs k x hx).2
      obtain ⟨W3, hW3⟩ : ∃ W3, W3 = wr.alloc (.cells #[.int .i64 x.1, .int .i64 x.2] 64) := ⟨_, rfl⟩
      obtain ⟨g, hg⟩ : ∃ g, g = wr.heap.size := ⟨_, rfl⟩
      have hpw : p < wr.heap.size := (Array.getElem?_eq_some_iff.1 RR.out.2.1).1
      have W3B : Hid (Below p w W3 ∧ W3.heap[p]? = some (.cells #[.int .i64 q.1, .int .i64 q.2] 64 (0, 0))) := by
        have h1 : Below wr.heap.size wr W3 := by rw [hW3]; exact (Below.refl _ _).alloc (Nat.le_refl _) _
        exact ⟨RR.out.1.trans (h1.mono (Nat.le_of_lt hpw)), (h1.block p hpw).trans RR.out.2.1⟩
      have W3C : W3.cell? ⟨g, 0, none⟩ = some (.int .i64 x.1) ∧ W3.cell? ⟨g, 1, none⟩ = some (.int .i64 x.2) := by rw [hW3, hg]; exact box2A _ _ _ _
      obtain ⟨c0, c1⟩ := W3C
      obtain ⟨p0, p1, y0, y1⟩ := box_at W3B.out.2
      have FIN : Hid (∀ x1 x2 : Int, x1 = x.1 → x2 = x.2 → R = Al.rise n m x (l.drop (k + 1)) → Below p w ((W3.setCell ⟨p, 0, none⟩ (.int .i64 x1)).setCell ⟨p, 1, none⟩ (.int .i64 x2)) ∧ ((W3.setCell ⟨p, 0, none⟩ (.int .i64 x1)).setCell ⟨p, 1, none⟩ (.int .i64 x2)).heap[p]? = some (.cells #[.int .i64 x.1, .int .i64 x.2] 64 (0, 0)) ∧ R = Al.rise n m x (l.drop (k + 1))) := fun x1 x2 e1 e2 h =>
        ⟨below_set (below_set W3B.out.1 (Nat.le_refl _) _) (Nat.le_refl _) _, by rw [e1, e2]; exact boxSet W3B.out.2, h⟩
      have HRX : Hid (R = if x.1 ≤ q.1 ∨ n ≤ x.1 ∨ x.2 ≤ q.2 ∨ m ≤ x.2 then false else Al.rise n m x (l.drop (k + 1))) := HRK.out
      have WK := hidA (wrK k (Nat.le_trans (Nat.le_of_lt hkN) HL.out))
      clear HRK HR hx hdr cs hpw RR
      obtain ⟨x1, hx1⟩ : ∃ x1, x1 = x.1 := ⟨_, rfl⟩
      obtain ⟨x2, hx2⟩ : ∃ x2, x2 = x.2 := ⟨_, rfl⟩
      obtain ⟨q1, hq1⟩ : ∃ q1, q1 = q.1 := ⟨_, rfl⟩
      obtain ⟨q2, hq2⟩ : ∃ q2, q2 = q.2 := ⟨_, rfl⟩
      rw [← hx1] at a0 c0 hW3
      rw [← hx2] at a1 c1 hW3
      rw [← hq1] at p0
      rw [← hq2] at p1
      have FIN2 := hidA (FIN.out x1 x2 hx1 hx2)
      rw [← hx1, ← hx2, ← hq1, ← hq2] at HRX
      clear hx1 hx2 hq1 hq2 FIN
      go_upto_region 5 with fail
      rw [← hW3, ← hg]
      clear hW3 hg a0 a1
      by_cases c1' : x1 ≤ q1
      · have d1 : decide (x1 ≤ q1) = true := decide_eq_true c1'
        have E : Hid (R = false) := by unfold Hid; rw [HRX.out, if_pos (.inl c1')]
        clear HRX FIN2
        obtain rfl : R = false := E.out
        go_wp2_with fail
        go_ret
        exact ⟨rfl, W3B.out.1⟩
      · have d1 : decide (x1 ≤ q1) = false := decide_eq_false c1'
        by_cases c2' : n ≤ x1
        · have d2 : decide (n ≤ x1) = true := decide_eq_true c2'
          have E : Hid (R = false) := by unfold Hid; rw [HRX.out, if_pos (.inr (.inl c2'))]
          clear HRX FIN2
          obtain rfl : R = false := E.out
          go_wp2_with fail
          go_ret
          exact ⟨rfl, W3B.out.1⟩
        · have d2 : decide (n ≤ x1) = false := decide_eq_false c2'
          by_cases c3' : x2 ≤ q2
          · have d3 : decide (x2 ≤ q2) = true := decide_eq_true c3'
            have E : Hid (R = false) := by unfold Hid; rw [HRX.out, if_pos (.inr (.inr (.inl c3')))]
            clear HRX FIN2
            obtain rfl : R = false := E.out
            go_wp2_with fail
            go_ret
            exact ⟨rfl, W3B.out.1⟩
          · have d3 : decide (x2 ≤ q2) = false := decide_eq_false c3'
            by_cases c4' : m ≤ x2
            · have d4 : decide (m ≤ x2) = true := decide_eq_true c4'
              have E : Hid (R = false) := by unfold Hid; rw [HRX.out, if_pos (.inr (.inr (.inr c4')))]
              clear HRX FIN2
              obtain rfl : R = false := E.out
              go_wp2_with fail
              go_ret
              exact ⟨rfl, W3B.out.1⟩
            · have d4 : decide (m ≤ x2) = false := decide_eq_false c4'
              have E : Hid (R = Al.rise n m x (l.drop (k + 1))) := by
                unfold Hid
                have h := HRX.out
                rw [if_neg (by rintro (h | h | h | h) <;> contradiction)] at h
                exact h
              have F := hidA (FIN2.out E.out)
              clear HRX FIN2 E W3B c1' c2' c3' c4'
              go_wp2_with fail
              go_roundg gk
              case measure => omega
              case rel => exact ⟨k + 1, x, hk3, congrArg _ WK.out, F⟩
end Go.Proofs.YthglhcabdadlpaaDoor
