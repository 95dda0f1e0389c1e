/- Layer 4: variables in memory; Find, for every variables. -/
import Derived.Test.YtobiedmmjiedlaaZCkC
import Derived.Test.YtobiedmmjiedlaaZFolT
import Derived.BigQuiet
namespace Go.Proofs.Ytobiedmmjiedlaa
open Go.RowKit

structure CkVa where
  name : List UInt8
  ty : Int
  sz : Int
  fr : Int
  tl : Int
def ckV0 : CkVa := ⟨[], 0, 0, 0, 0⟩
/-- A variable's fields, as they lie from a place on. -/
structure VaAt (w : World) (g o : Nat) (x : CkVa) : Prop where
  c0 : w.cell? ⟨g, o, none⟩ = some (.string ⟨x.name.toArray⟩)
  c1 : w.cell? ⟨g, o + 1, none⟩ = some (.int .i64 x.ty)
  c2 : w.cell? ⟨g, o + 2, none⟩ = some (.int .i64 x.sz)
  c3 : w.cell? ⟨g, o + 3, none⟩ = some (.int .i64 x.fr)
  c4 : w.cell? ⟨g, o + 4, none⟩ = some (.int .i64 x.tl)
/-- A slice of variables. -/
def VaS (w : World) (sa : Option Addr) (l : List CkVa) : Prop := l.length ≤ 1000000000000000 ∧ (0 < l.length → ∃ g o, sa = some ⟨g, o, none⟩ ∧ g < w.heap.size ∧ ∀ j, j < l.length → VaAt w g (o + j * 5) (l.getD j ckV0))
theorem VaS.later {w w' : World} {sa : Option Addr} {l : List CkVa} (h : VaS w sa l) (b : Below w.heap.size w w') : VaS w' sa l :=
  ⟨h.1, fun h0 => by
    obtain ⟨g, o, e, hg, hc⟩ := h.2 h0
    exact ⟨g, o, e, Nat.lt_of_lt_of_le hg b.size, fun j hj => ⟨(b.cell hg).trans (hc j hj).c0, (b.cell hg).trans (hc j hj).c1, (b.cell hg).trans (hc j hj).c2, (b.cell hg).trans (hc j hj).c3, (b.cell hg).trans (hc j hj).c4⟩⟩⟩
/-- The first variable of a name that is in scope. -/
def ckFi : List CkVa → List UInt8 → Int → Nat → Int
  | [], _, _, _ => -1
  | v :: r, n, m, k => if v.name = n ∧ v.fr ≤ m ∧ m ≤ v.tl then k else ckFi r n m (k + 1)
theorem ckFi_hit {l : List CkVa} {n : List UInt8} {m : Int} {k : Nat} (h : k < l.length) (e : (l.getD k ckV0).name = n ∧ (l.getD k ckV0).fr ≤ m ∧ m ≤ (l.getD k ckV0).tl) : ckFi (l.drop k) n m k = k := by
  rw [drop_getD (d := ckV0) h, ckFi, if_pos e]
theorem ckFi_miss {l : List CkVa} {n : List UInt8} {m : Int} {k : Nat} (h : k < l.length) (e : ¬ ((l.getD k ckV0).name = n ∧ (l.getD k ckV0).fr ≤ m ∧ m ≤ (l.getD k ckV0).tl)) : ckFi (l.drop k) n m k = ckFi (l.drop (k + 1)) n m (k + 1) := by
  rw [drop_getD (d := ckV0) h, ckFi, if_neg e]
theorem ckFi_end (l : List CkVa) (n : List UInt8) (m : Int) : ckFi (l.drop l.length) n m l.length = -1 := by
  rw [List.drop_length, ckFi]
theorem ret_num {a b : Int} (h : a = b) : Ending.returned (.int .i64 a) = .returned (.int .i64 b) := by rw [h]
set_option maxRecDepth 100000 in
set_option maxHeartbeats 2000000 in
theorem ckFind_any (sa : Option Addr) (c : Nat) (l : List CkVa) (n : List UInt8) (m : Int) (w : World) (h : VaS w sa l) : Calls Try.prog 79 #[.slice sa l.length c, .string ⟨n.toArray⟩, .int .i64 m] w fun e w' => e = .returned (.int .i64 (ckFi l n m 0)) ∧ Below w.heap.size w w' := by
  have HL : Hid _ := h.1
  have HC : Hid (VaS w sa l) := h
  clear h
  go_enter Try.func79, Try.ntmps79
  go_wp2_with fail
  go_loopw [11] (fun i wr => ∃ k : Nat, k ≤ l.length ∧ i = .int .i64 k ∧ Hid (ckFi (l.drop k) n m k = ckFi l n m 0) ∧ Hid (Below w.heap.size w wr)) (fun i _ => l.length - (intOf i).toNat)
  case atStart => exact ⟨0, by omega, rfl, rfl, Below.refl _ _⟩
  case round =>
    obtain ⟨k, hk, rfl, N, B⟩ := hrel
    by_cases hlt : k < l.length
    · obtain ⟨g, o, rfl, hg, hc⟩ := (HC.out.later B.out).2 (by omega)
      obtain ⟨c0, c1, c2, c3, c4⟩ := hc k hlt
      have E1 : Hid _ := ckFi_hit (l := l) (n := n) (m := m) hlt
      have E2 : Hid _ := ckFi_miss (l := l) (n := n) (m := m) hlt
      clear hc
      generalize l.getD k ckV0 = x at *
      obtain ⟨xn, xt, xs, xf, xl⟩ := x
      have hji : (k : Int) < (l.length : Int) := by omega
      have hj0 : (0 : Int) ≤ (k : Int) := by omega
      have F1 : Hid ((xn = n ∧ xf ≤ m ∧ m ≤ xl) → ckFi (l.drop k) n m k = k) := E1.out
      have F2 : Hid (¬ (xn = n ∧ xf ≤ m ∧ m ≤ xl) → ckFi (l.drop k) n m k = ckFi (l.drop (k + 1)) n m (k + 1)) := E2.out
      have BB : Hid (∀ b, Below w.heap.size w (wr.alloc b)) := fun b => B.out.trans ((box_below wr b).mono B.out.size)
      clear E1 E2
      dsimp only at c0 c1 c2 c3 c4
      by_cases hn : xn = n
      · have en := text_t hn
        by_cases hf : xf ≤ m
        · by_cases ht : m ≤ xl
          · have G : Hid _ := F1.out ⟨hn, hf, ht⟩
            clear F1 F2 hn
            go_wp2_with fail
            go_ret
            exact ⟨ret_num (by rw [← N.out, G.out]), BB.out _⟩
          · have G : Hid _ := F2.out fun q => ht q.2.2
            clear F1 F2 hn
            have hL := HL.out
            go_wp2_with fail
            go_roundw
            case rel => exact ⟨k + 1, by omega, by go_num, by rw [← N.out, G.out]; rfl, BB.out _⟩
            case measure => simp [intOf]; omega
        · have G : Hid _ := F2.out fun q => hf q.2.1
          clear F1 F2 hn
          have hL := HL.out
          go_wp2_with fail
          go_roundw
          case rel => exact ⟨k + 1, by omega, by go_num, by rw [← N.out, G.out]; rfl, BB.out _⟩
          case measure => simp [intOf]; omega
      · have en := text_f hn
        have G : Hid _ := F2.out fun q => hn q.1
        clear F1 F2 hn
        have hL := HL.out
        go_wp2_with fail
        go_roundw
        case rel => exact ⟨k + 1, by omega, by go_num, by rw [← N.out, G.out]; rfl, BB.out _⟩
        case measure => simp [intOf]; omega
    · obtain rfl : k = l.length := by omega
      have G : Hid (-1 = ckFi l n m 0) := by rw [← N.out, ckFi_end]; rfl
      clear N
      go_wp2_with fail
      go_ret
      exact ⟨ret_num G.out, B.out⟩
end Go.Proofs.Ytobiedmmjiedlaa
