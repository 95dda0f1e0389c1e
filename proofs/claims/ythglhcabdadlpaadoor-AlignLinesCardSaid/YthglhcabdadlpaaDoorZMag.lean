/- Layer 15: rise. -/
/- Layer 15: gaps. -/
/- Layer 15: gaps, Regions. -/
/- The plain mathematics of layer 1: wraps of 64 bits, and the number that digits write up to a limit. No Go in sight; no condition. -/
/- num.magnitude answers, for every text and every limit from 9 to 2^64 - 1, the number that the digits write if it is at most the limit, and whether there is one. -/
import Derived.Test.YthglhcabdadlpaaDoorZAlJ
import Derived.RowKit
import Derived.Lib.ItoaNum
import Derived.Test.YthglhcabdadlpaaDoorRows
import Derived.WalkKit
import Derived.WalkMore
import Derived.WalkSpells
import Derived.WalkLawsBesides
namespace Go.Proofs.YthglhcabdadlpaaDoor
open Go.RowKit
set_option linter.unusedVariables false
set_option linter.unusedSimpArgs false
set_option maxRecDepth 100000
theorem boxSet {w : World} {p : Nat} {a b x y : Value} {T : TypeId} (h : w.heap[p]? = some (.cells #[a, b] T (0, 0))) : ((w.setCell ⟨p, 0, none⟩ x).setCell ⟨p, 1, none⟩ y).heap[p]? = some (.cells #[x, y] T (0, 0)) := by
  have h1 := heap_setCell_same w p 0 _ _ x h
  exact heap_setCell_same _ p 1 _ _ y h1
theorem box_at {w : World} {p : Nat} {a b : Value} {T : TypeId} (h : w.heap[p]? = some (.cells #[a, b] T (0, 0))) : w.cell? ⟨p, 0, none⟩ = some a ∧ w.cell? ⟨p, 1, none⟩ = some b ∧ w.frozen? ⟨p, 0, none⟩ = false ∧ w.frozen? ⟨p, 1, none⟩ = false := by
  refine ⟨by simp [World.cell?, h], by simp [World.cell?, h], by simp [World.frozen?, h], by simp [World.frozen?, h]⟩
set_option maxHeartbeats 8000000 in
theorem rise_any (w : World) (a : Option Addr) (ca : Nat) (l : List Al.Ev) (n m : Int) {B : Nat} (ha : EvR B w a l) (hB : B ≤ w.heap.size) (hl : l.length ≤ 1000000) : Calls Tryd.prog 39 #[.int .i64 n, .int .i64 m, .slice a l.length ca] w fun e w' => e = .returned (.bool (Al.rise n m (-1, -1) l)) ∧ Below w.heap.size w w' := by
  have HA := hidA ha
  have HBB := hidA hB
  obtain ⟨W0, hW0⟩ : ∃ W0, W0 = w.alloc (.cells #[.int .i64 (-1), .int .i64 (-1)] 64) := ⟨_, rfl⟩
  obtain ⟨p, hp⟩ : ∃ p, p = w.heap.size := ⟨_, rfl⟩
  have B0 : Hid (Below p w W0 ∧ W0.heap[p]? = some (.cells #[.int .i64 (-1), .int .i64 (-1)] 64 (0, 0)) ∧ p = w.heap.size) := ⟨by rw [hW0, hp]; exact (Below.refl _ _).alloc (Nat.le_refl _) _, by rw [hW0, hp]; exact Array.getElem?_push_size, hp⟩
  obtain ⟨R, hR⟩ : ∃ R, R = Al.rise n m (-1, -1) l := ⟨_, rfl⟩
  have HR := hidA hR
  rw [← hR]
  obtain ⟨N, hN⟩ : ∃ N, N = l.length := ⟨_, rfl⟩
  have HN := hidA hN
  rw [← hN] at hl ⊢
  have HL := hidA hl
  rw [show Below w.heap.size = Below p from by rw [hp]]
  clear ha hB hR hN hl
  go_enter Tryd.func39, Tryd.ntmps39
  go_upto_region 2 with fail
  rw [← hp, ← hW0]
  clear hp hW0
  go_wp2_with fail
  go_loopg [13] N (fun gk y wr => ∃ (k : Nat) (q : Al.Ev), k + gk = N ∧ y = .int .i64 k ∧ Hid (Below p w wr ∧ wr.heap[p]? = some (.cells #[.int .i64 q.1, .int .i64 q.2] 64 (0, 0)) ∧ R = Al.rise n m q (l.drop k)))
  case atStart => exact ⟨0, (-1, -1), by omega, rfl, B0.out.1, B0.out.2.1, HR.out⟩
  case round =>
    obtain ⟨k, q, hk, rfl, RR⟩ := hrel
    rcases gk with _ | gk
    · obtain rfl : N = k := by omega
      have dk : decide ((N : Int) < (N : Int)) = false := decide_eq_false (Int.lt_irrefl _)
      have FIN : Hid (R = true ∧ Below p w wr) := ⟨by rw [RR.out.2.2, List.drop_eq_nil_of_le (by rw [HN.out]; exact Nat.le_refl _)]; rfl, RR.out.1⟩
      clear RR HR
      obtain rfl : R = true := FIN.out.1
      go_wp2_with fail
      go_ret
      exact ⟨rfl, FIN.out.2⟩
    · obtain ⟨k6, dk, dk2, hkN, hk3⟩ := mch_k hk
      obtain ⟨x, hx⟩ : ∃ x, l[k]? = some x := ⟨_, List.getElem?_eq_getElem (by rw [← HN.out]; exact hkN)⟩
      have hdr : l.drop k = x :: l.drop (k + 1) := by
        obtain ⟨h1, h2⟩ := List.getElem?_eq_some_iff.1 hx
        rw [List.drop_eq_getElem_cons h1, h2]
      have HRK : Hid (R = Al.rise n m q (x :: l.drop (k + 1))) := by unfold Hid; rw [← hdr]; exact RR.out.2.2
      obtain ⟨ga, oa, rfl, hga, cs⟩ := (HA.out.later RR.out.1 (by rw [B0.out.2.2]; exact HBB.out)) (by rw [← HN.out]; exact Nat.lt_of_le_of_lt (Nat.zero_le k) hkN)
      have a0 := (cs k x hx).1
      have a1 := (cs k x hx).2
      obtain ⟨W3, hW3⟩ : ∃ W3, W3 = wr.alloc (.cells #[.int .i64 x.1, .int .i64 x.2] 64) := ⟨_, rfl⟩
      obtain ⟨g, hg⟩ : ∃ g, g = wr.heap.size := ⟨_, rfl⟩
      have hpw : p < wr.heap.size := (Array.getElem?_eq_some_iff.1 RR.out.2.1).1
      have W3B : Hid (Below p w W3 ∧ W3.heap[p]? = some (.cells #[.int .i64 q.1, .int .i64 q.2] 64 (0, 0))) := by
        have h1 : Below wr.heap.size wr W3 := by rw [hW3]; exact (Below.refl _ _).alloc (Nat.le_refl _) _
        exact ⟨RR.out.1.trans (h1.mono (Nat.le_of_lt hpw)), (h1.block p hpw).trans RR.out.2.1⟩
      have W3C : W3.cell? ⟨g, 0, none⟩ = some (.int .i64 x.1) ∧ W3.cell? ⟨g, 1, none⟩ = some (.int .i64 x.2) := by rw [hW3, hg]; exact box2A _ _ _ _
      obtain ⟨c0, c1⟩ := W3C
      obtain ⟨p0, p1, y0, y1⟩ := box_at W3B.out.2
      have FIN : Hid (∀ x1 x2 : Int, x1 = x.1 → x2 = x.2 → R = Al.rise n m x (l.drop (k + 1)) → Below p w ((W3.setCell ⟨p, 0, none⟩ (.int .i64 x1)).setCell ⟨p, 1, none⟩ (.int .i64 x2)) ∧ ((W3.setCell ⟨p, 0, none⟩ (.int .i64 x1)).setCell ⟨p, 1, none⟩ (.int .i64 x2)).heap[p]? = some (.cells #[.int .i64 x.1, .int .i64 x.2] 64 (0, 0)) ∧ R = Al.rise n m x (l.drop (k + 1))) := fun x1 x2 e1 e2 h =>
        ⟨below_set (below_set W3B.out.1 (Nat.le_refl _) _) (Nat.le_refl _) _, by rw [e1, e2]; exact boxSet W3B.out.2, h⟩
      have HRX : Hid (R = if x.1 ≤ q.1 ∨ n ≤ x.1 ∨ x.2 ≤ q.2 ∨ m ≤ x.2 then false else Al.rise n m x (l.drop (k + 1))) := HRK.out
      have WK := hidA (wrK k (Nat.le_trans (Nat.le_of_lt hkN) HL.out))
      clear HRK HR hx hdr cs hpw RR
      obtain ⟨x1, hx1⟩ : ∃ x1, x1 = x.1 := ⟨_, rfl⟩
      obtain ⟨x2, hx2⟩ : ∃ x2, x2 = x.2 := ⟨_, rfl⟩
      obtain ⟨q1, hq1⟩ : ∃ q1, q1 = q.1 := ⟨_, rfl⟩
      obtain ⟨q2, hq2⟩ : ∃ q2, q2 = q.2 := ⟨_, rfl⟩
      rw [← hx1] at a0 c0 hW3
      rw [← hx2] at a1 c1 hW3
      rw [← hq1] at p0
      rw [← hq2] at p1
      have FIN2 := hidA (FIN.out x1 x2 hx1 hx2)
      rw [← hx1, ← hx2, ← hq1, ← hq2] at HRX
      clear hx1 hx2 hq1 hq2 FIN
      go_upto_region 5 with fail
      rw [← hW3, ← hg]
      clear hW3 hg a0 a1
      by_cases c1' : x1 ≤ q1
      · have d1 : decide (x1 ≤ q1) = true := decide_eq_true c1'
        have E : Hid (R = false) := by unfold Hid; rw [HRX.out, if_pos (.inl c1')]
        clear HRX FIN2
        obtain rfl : R = false := E.out
        go_wp2_with fail
        go_ret
        exact ⟨rfl, W3B.out.1⟩
      · have d1 : decide (x1 ≤ q1) = false := decide_eq_false c1'
        by_cases c2' : n ≤ x1
        · have d2 : decide (n ≤ x1) = true := decide_eq_true c2'
          have E : Hid (R = false) := by unfold Hid; rw [HRX.out, if_pos (.inr (.inl c2'))]
          clear HRX FIN2
          obtain rfl : R = false := E.out
          go_wp2_with fail
          go_ret
          exact ⟨rfl, W3B.out.1⟩
        · have d2 : decide (n ≤ x1) = false := decide_eq_false c2'
          by_cases c3' : x2 ≤ q2
          · have d3 : decide (x2 ≤ q2) = true := decide_eq_true c3'
            have E : Hid (R = false) := by unfold Hid; rw [HRX.out, if_pos (.inr (.inr (.inl c3')))]
            clear HRX FIN2
            obtain rfl : R = false := E.out
            go_wp2_with fail
            go_ret
            exact ⟨rfl, W3B.out.1⟩
          · have d3 : decide (x2 ≤ q2) = false := decide_eq_false c3'
            by_cases c4' : m ≤ x2
            · have d4 : decide (m ≤ x2) = true := decide_eq_true c4'
              have E : Hid (R = false) := by unfold Hid; rw [HRX.out, if_pos (.inr (.inr (.inr c4')))]
              clear HRX FIN2
              obtain rfl : R = false := E.out
              go_wp2_with fail
              go_ret
              exact ⟨rfl, W3B.out.1⟩
            · have d4 : decide (m ≤ x2) = false := decide_eq_false c4'
              have E : Hid (R = Al.rise n m x (l.drop (k + 1))) := by
                unfold Hid
                have h := HRX.out
                rw [if_neg (by rintro (h | h | h | h) <;> contradiction)] at h
                exact h
              have F := hidA (FIN2.out E.out)
              clear HRX FIN2 E W3B c1' c2' c3' c4'
              go_wp2_with fail
              go_roundg gk
              case measure => omega
              case rel => exact ⟨k + 1, x, hk3, congrArg _ WK.out, F⟩
end Go.Proofs.YthglhcabdadlpaaDoor

namespace Go.Proofs.YthglhcabdadlpaaDoor
open Go.RowKit
set_option linter.unusedVariables false
set_option linter.unusedSimpArgs false
set_option maxRecDepth 100000
/-- The cells of regions. -/
def rgC (l : List Al.Rg) : List Value := l.flatMap fun r => [.int .i64 r.fa, .int .i64 r.ta, .int .i64 r.fb, .int .i64 r.tb]
theorem rgC_app (l m : List Al.Rg) : rgC (l ++ m) = rgC l ++ rgC m := by simp [rgC]
theorem rgC_one (r : Al.Rg) : ∀ u ∈ rgC [r], u.oneCell' = true := fun u h => by
  simp [rgC] at h
  rcases h with rfl | rfl | rfl | rfl <;> rfl
def OwG (w : World) (base : Nat) (ty : TypeId) (v : Value) (l : List Al.Rg) : Prop := w.ownsRow base ty 4 v l.length (rgC l)
theorem OwG.nil (w : World) (base : Nat) (ty : TypeId) : OwG w base ty (.slice none 0 0) [] := World.ownsRow_nil _ _ _ _
theorem OwG.later {w w' : World} {base : Nat} {ty : TypeId} {v : Value} {l : List Al.Rg} (h : OwG w base ty v l) (b : Below w.heap.size w w') : OwG w' base ty v l := ownA h b
theorem OwG.base {w : World} {b b' : Nat} {ty : TypeId} {v : Value} {l : List Al.Rg} (h : OwG w b ty v l) (hb : b' ≤ b) : OwG w b' ty v l := by
  have h0 : w.ownsRow b ty 4 v l.length (rgC l) := h
  refine ⟨h0.1, ?_⟩
  rcases h0.2 with h | ⟨g, cap, cur, e, hg, r⟩
  · exact .inl h
  · exact .inr ⟨g, cap, cur, e, Nat.le_trans hb hg, r⟩
theorem OwG.set {w : World} {base : Nat} {ty : TypeId} {v : Value} {l : List Al.Rg} (h : OwG w base ty v l) {p : Nat} (hp : p < base) (c : Nat) (u : Value) : OwG (w.setCell ⟨p, c, none⟩ u) base ty v l := ownsRow_setCell_below (a := ⟨p, c, none⟩) h hp u
theorem four4A (w : World) (a b c d : Value) (t : TypeId) : ∀ (j : Nat) (u : Value), [a, b, c, d][j]? = some u → (w.alloc (.cells #[a, b, c, d] t)).cell? ((⟨w.heap.size, 0, none⟩ : Addr).add j) = some u
  | 0, u, h => by simp at h; subst h; simp [Addr.add]
  | 1, u, h => by simp at h; subst h; simp [Addr.add]
  | 2, u, h => by simp at h; subst h; simp [Addr.add]
  | 3, u, h => by simp at h; subst h; simp [Addr.add]
  | j + 4, u, h => by simp at h
theorem box4 {w : World} {r : Nat} {a b c d : Value} {T : TypeId} (h : w.heap[r]? = some (.cells #[a, b, c, d] T (0, 0))) : w.cell? ⟨r, 0, none⟩ = some a ∧ w.cell? ⟨r, 1, none⟩ = some b ∧ w.cell? ⟨r, 2, none⟩ = some c ∧ w.cell? ⟨r, 3, none⟩ = some d ∧ w.frozen? ⟨r, 0, none⟩ = false ∧ w.frozen? ⟨r, 1, none⟩ = false ∧ w.frozen? ⟨r, 2, none⟩ = false ∧ w.frozen? ⟨r, 3, none⟩ = false := by
  refine ⟨by simp [World.cell?, h], by simp [World.cell?, h], by simp [World.cell?, h], by simp [World.cell?, h], by simp [World.frozen?, h], by simp [World.frozen?, h], by simp [World.frozen?, h], by simp [World.frozen?, h]⟩
theorem box1 {w : World} {r : Nat} {a : Value} {T : TypeId} (h : w.heap[r]? = some (.cells #[a] T (0, 0))) : w.cell? ⟨r, 0, none⟩ = some a ∧ w.frozen? ⟨r, 0, none⟩ = false := ⟨by simp [World.cell?, h], by simp [World.frozen?, h]⟩
theorem infoRg : ∃ i, Tryd.prog.info? 59 = some i ∧ i.zero = some (.agg #[.int .i64 0, .int .i64 0, .int .i64 0, .int .i64 0]) ∧ i.size = 4 ∧ i.bytes = 32 := infoP _ _ _ _ _ (by kernel_rfl)
/-- The regions so far in their box, and the one that is made next in its own. -/
structure GpR (w : World) (p k : Nat) (v : Value) (acc : List Al.Rg) (fa ta fb tb : Int) (wr : World) : Prop where
  b : Below p w wr
  all : wr.heap[p]? = some (.cells #[v] 42 (0, 0))
  r : wr.heap[p + 1]? = some (.cells #[.int .i64 fa, .int .i64 ta, .int .i64 fb, .int .i64 tb] 59 (0, 0))
  row : OwG wr (p + 2) 59 v acc
  len : acc.length ≤ k
theorem GpR.lt {w wr : World} {p k : Nat} {v : Value} {acc : List Al.Rg} {fa ta fb tb : Int} (h : GpR w p k v acc fa ta fb tb wr) : p + 1 < wr.heap.size := (Array.getElem?_eq_some_iff.1 h.r).1
theorem GpR.later {w wr w2 : World} {p k : Nat} {v : Value} {acc : List Al.Rg} {fa ta fb tb : Int} (h : GpR w p k v acc fa ta fb tb wr) (b : Below wr.heap.size wr w2) : GpR w p k v acc fa ta fb tb w2 :=
  ⟨h.b.trans (b.mono (by have := h.lt; omega)), (b.block p (by have := h.lt; omega)).trans h.all, (b.block (p + 1) h.lt).trans h.r, h.row.later b, h.len⟩
theorem GpR.to {w wr : World} {p k : Nat} {v : Value} {acc : List Al.Rg} {fa ta fb tb : Int} (h : GpR w p k v acc fa ta fb tb wr) (a b : Int) : GpR w p k v acc fa a fb b ((wr.setCell ⟨p + 1, 1, none⟩ (.int .i64 a)).setCell ⟨p + 1, 3, none⟩ (.int .i64 b)) := by
  refine ⟨below_set (below_set h.b (by omega) _) (by omega) _, ?_, ?_, (h.row.set (by omega) _ _).set (by omega) _ _, h.len⟩
  · rw [heap_setCell_other _ _ p _ (by simp), heap_setCell_other _ _ p _ (by simp)]
    exact h.all
  · have h1 := heap_setCell_same wr (p + 1) 1 _ _ (.int .i64 a) h.r
    exact heap_setCell_same _ (p + 1) 3 _ _ (.int .i64 b) h1
theorem GpR.grow {w wr w8 : World} {p k : Nat} {v v8 : Value} {acc : List Al.Rg} {fa ta fb tb : Int} {o : Obj} (h : GpR w p k v acc fa ta fb tb wr) (h8 : w8.ownsRow (p + 2) 59 4 v8 (acc.length + 1) (rgC acc ++ [.int .i64 fa, .int .i64 ta, .int .i64 fb, .int .i64 tb])) (g8 : (wr.alloc o).grownBy w8 v.ownBlock) : GpR w p (k + 1) v8 (acc ++ [⟨fa, ta, fb, tb⟩]) fa ta fb tb (w8.setCell ⟨p, 0, none⟩ v8) := by
  have hl := h.lt
  have hk : ∀ x, x < p + 2 → x < wr.heap.size → w8.heap[x]? = wr.heap[x]? := fun x hx hs =>
    (g8.block x (by simp; omega) (fun e => by have := (World.ownsRow.lt (show wr.ownsRow (p + 2) _ 4 v acc.length (rgC acc) from h.row) _ e.symm).1; omega)).trans (((Below.refl wr.heap.size wr).alloc (Nat.le_refl _) o).block x hs)
  have b8 : Below p w w8 := h.b.trans ⟨g8.os, g8.tape, g8.output, by have := g8.size; simp at this; omega, fun x hx => hk x (by omega) (by omega)⟩
  refine ⟨below_set b8 (Nat.le_refl _) _, ?_, ?_, ?_, by rw [List.length_append]; exact Nat.succ_le_succ h.len⟩
  · exact heap_setCell_same w8 p 0 _ _ v8 ((hk p (by omega) (by omega)).trans h.all)
  · rw [heap_setCell_other _ _ (p + 1) _ (by simp)]
    exact (hk (p + 1) (by omega) hl).trans h.r
  · refine OwG.set (w := w8) (p := p) (base := p + 2) (l := acc ++ [⟨fa, ta, fb, tb⟩]) ?_ (by omega) 0 v8
    unfold OwG
    rw [rgC_app, List.length_append]
    exact h8
theorem own63g {k : Nat} (h : k ≤ 1000) : k + 1 ≤ maxLen ∧ (k + 1) * 32 ≤ 140737488355328 := by unfold maxLen; omega
/-- What the closure leaves. -/
def GpF (p : Nat) (wr : World) (v : Value) (w' : World) : Prop := ∀ x, x < wr.heap.size → x ≠ p → x ≠ p + 1 → some x ≠ v.ownBlock → w'.heap[x]? = wr.heap[x]?
def GpQ (w wr : World) (p k : Nat) (v : Value) (acc : List Al.Rg) (fa fb a b : Int) (e : Ending) (w' : World) : Prop := e = .returned (.tuple #[]) ∧ (∃ v', GpR w p k v' (acc ++ Al.one fa a fb b) fa a fb b w') ∧ GpF p wr v w'
theorem GpF.to (p : Nat) (wr : World) (v : Value) (a b : Value) : GpF p wr v ((wr.setCell ⟨p + 1, 1, none⟩ a).setCell ⟨p + 1, 3, none⟩ b) := fun x _ h1 h2 _ => by
  rw [heap_setCell_other _ _ x _ (by simp; omega), heap_setCell_other _ _ x _ (by simp; omega)]
theorem GpF.grow {p : Nat} {wr w1 w8 : World} {v v8 : Value} {o : Obj} (h : GpF p wr v w1) (hs : wr.heap.size ≤ w1.heap.size) (g8 : (w1.alloc o).grownBy w8 v.ownBlock) : GpF p wr v (w8.setCell ⟨p, 0, none⟩ v8) := fun x hx h1 h2 h3 => by
  rw [heap_setCell_other _ _ x _ (by simp; omega), ← h x hx h1 h2 h3]
  exact (g8.block x (by simp; omega) h3).trans (((Below.refl w1.heap.size w1).alloc (Nat.le_refl _) o).block x (by omega))
set_option maxHeartbeats 8000000 in
theorem until_any (w wr : World) (p k : Nat) (v : Value) (acc : List Al.Rg) (fa ta fb tb a b : Int) (h : GpR w p k v acc fa ta fb tb wr) (hk : k ≤ 1000) (A2 : Option Addr) (L C : Nat) :
    Calls Tryd.prog 53 #[.int .i64 a, .int .i64 b, .pointer (some ⟨p + 1, 0, none⟩), .pointer (some ⟨p, 0, none⟩)] wr (GpQ w wr p (k + 1) v acc fa fb a b) := by
  obtain ⟨i0, hi, zi0, zi1, zi2⟩ := infoRg
  have HH := hidA h
  have H1 := hidA (h.to a b)
  have FR := hidA (GpF.to p wr v (.int .i64 a) (.int .i64 b))
  obtain ⟨W1, hW1⟩ : ∃ W1, W1 = (wr.setCell ⟨p + 1, 1, none⟩ (.int .i64 a)).setCell ⟨p + 1, 3, none⟩ (.int .i64 b) := ⟨_, rfl⟩
  rw [← hW1] at H1 FR
  have SZ : Hid (wr.heap.size ≤ W1.heap.size) := by unfold Hid; rw [hW1]; simp
  obtain ⟨-, b1, -, b3, -, f1, -, f3⟩ := box4 h.r
  obtain ⟨c0, c1, c2, c3, -, -, -, -⟩ := box4 H1.out.r
  obtain ⟨d0, -⟩ := box1 H1.out.all
  obtain ⟨q, hq⟩ : ∃ q, q = p + 1 := ⟨_, rfl⟩
  have HQ := hidA hq
  rw [← hq] at hW1 b1 b3 f1 f3 c0 c1 c2 c3 ⊢
  have HK := hidA hk
  obtain ⟨Q, hQ⟩ : ∃ Q, Q = GpQ w wr p (k + 1) v acc fa fb a b := ⟨_, rfl⟩
  have Q0 : Hid (∀ v' w', ¬ (fa < a ∨ fb < b) → GpR w p k v' acc fa a fb b w' → GpF p wr v w' → Q (.returned (.tuple #[])) w') := fun v' w' hn h hf => by
    rw [hQ]
    refine ⟨rfl, ⟨v', ?_⟩, hf⟩
    unfold Al.one
    rw [if_neg hn, List.append_nil]
    exact ⟨h.b, h.all, h.r, h.row, Nat.le_trans h.len (Nat.le_succ _)⟩
  have Q1 : Hid (∀ v' w', (fa < a ∨ fb < b) → GpR w p (k + 1) v' (acc ++ [⟨fa, a, fb, b⟩]) fa a fb b w' → GpF p wr v w' → Q (.returned (.tuple #[])) w') := fun v' w' hn h hf => by
    rw [hQ]
    refine ⟨rfl, ⟨v', ?_⟩, hf⟩
    unfold Al.one
    rw [if_pos hn]
    exact h
  rw [← hQ]
  clear hQ h hk hq
  go_enter Tryd.func53, Tryd.ntmps53
  go_upto_region 1 with fail
  rw [← hW1]
  clear hW1 b1 b3 f1 f3
  obtain ⟨LN, hLN⟩ : ∃ LN, LN = acc.length := ⟨_, rfl⟩
  have OR3 : Hid (W1.ownsRow (p + 2) 59 4 v LN (rgC acc)) := by
    rw [hLN]
    exact H1.out.row
  have H63 := hidA (own63g (k := LN) (by rw [hLN]; exact Nat.le_trans H1.out.len HK.out))
  have ONE := hidA (rgC_one ⟨fa, a, fb, b⟩)
  have HS3 : Hid (p + 2 ≤ W1.heap.size) := H1.out.lt
  have F8 : Hid (∀ v8 w8, w8.ownsRow (p + 2) 59 4 v8 (LN + 1) (rgC acc ++ [.int .i64 fa, .int .i64 a, .int .i64 fb, .int .i64 b]) → (W1.alloc (.cells #[.int .i64 fa, .int .i64 a, .int .i64 fb, .int .i64 b] 59)).grownBy w8 v.ownBlock → (w8.cell? ⟨p, 0, none⟩ = some v ∧ w8.frozen? ⟨p, 0, none⟩ = false) ∧ GpR w p (k + 1) v8 (acc ++ [⟨fa, a, fb, b⟩]) fa a fb b (w8.setCell ⟨p, 0, none⟩ v8)) := fun v8 w8 h8 g8 => by
    have hl := H1.out.lt
    have hk : w8.heap[p]? = W1.heap[p]? := (g8.block p (by simp; omega) (fun e => by have := (World.ownsRow.lt OR3.out _ e.symm).1; omega)).trans (((Below.refl W1.heap.size W1).alloc (Nat.le_refl _) _).block p (by omega))
    exact ⟨box1 (hk.trans H1.out.all), H1.out.grow (by rw [← hLN]; exact h8) g8⟩
  clear hLN
  by_cases c : fa < a
  · have d1 : decide (fa < a) = true := decide_eq_true c
    have F9 : Hid (∀ v8 w8, w8.ownsRow (p + 2) 59 4 v8 (LN + 1) (rgC acc ++ [.int .i64 fa, .int .i64 a, .int .i64 fb, .int .i64 b]) → (W1.alloc (.cells #[.int .i64 fa, .int .i64 a, .int .i64 fb, .int .i64 b] 59)).grownBy w8 v.ownBlock → (w8.cell? ⟨p, 0, none⟩ = some v ∧ w8.frozen? ⟨p, 0, none⟩ = false) ∧ Q (.returned (.tuple #[])) (w8.setCell ⟨p, 0, none⟩ v8)) := fun v8 w8 h8 g8 => ⟨(F8.out v8 w8 h8 g8).1, Q1.out _ _ (.inl c) (F8.out v8 w8 h8 g8).2 (FR.out.grow SZ.out g8)⟩
    clear c F8 Q0 Q1
    go_wp2_with (at_builtin; refine wpList_append_tolA rfl _ _ 42 rfl (p + 2) 59 i0 (.agg #[.int .i64 0, .int .i64 0, .int .i64 0, .int .i64 0]) 4 32 Tryd.underlying42 hi zi0 zi1 zi2 rfl (by decide) _ _ _ rfl (ownA OR3.out ((Below.refl _ _).alloc (Nat.le_refl _) _)) ⟨W1.heap.size, 0, none⟩ 1 1 [.int .i64 fa, .int .i64 a, .int .i64 fb, .int .i64 b] rfl rfl (four4A _ _ _ _ _ _) ONE.out H63.out.1 H63.out.2 (Nat.le_trans HS3.out ((Below.refl W1.heap.size W1).alloc (Nat.le_refl _) _).size) (by decide) ?_)
    intro v8 w8 h8 g8 o8
    obtain ⟨va8, vc8, rfl⟩ := ownShA h8
    obtain ⟨⟨z1, z2⟩, z3⟩ := F9.out _ w8 h8 g8
    have Z3 := hidA z3
    clear h8 g8 o8 F9 z3
    go_wp2_with fail
    go_end0
    exact Z3.out
  · have d1 : decide (fa < a) = false := decide_eq_false c
    by_cases c2 : fb < b
    · have d2 : decide (fb < b) = true := decide_eq_true c2
      have F9 : Hid (∀ v8 w8, w8.ownsRow (p + 2) 59 4 v8 (LN + 1) (rgC acc ++ [.int .i64 fa, .int .i64 a, .int .i64 fb, .int .i64 b]) → (W1.alloc (.cells #[.int .i64 fa, .int .i64 a, .int .i64 fb, .int .i64 b] 59)).grownBy w8 v.ownBlock → (w8.cell? ⟨p, 0, none⟩ = some v ∧ w8.frozen? ⟨p, 0, none⟩ = false) ∧ Q (.returned (.tuple #[])) (w8.setCell ⟨p, 0, none⟩ v8)) := fun v8 w8 h8 g8 => ⟨(F8.out v8 w8 h8 g8).1, Q1.out _ _ (.inr c2) (F8.out v8 w8 h8 g8).2 (FR.out.grow SZ.out g8)⟩
      clear c c2 F8 Q0 Q1
      go_wp2_with (at_builtin; refine wpList_append_tolA rfl _ _ 42 rfl (p + 2) 59 i0 (.agg #[.int .i64 0, .int .i64 0, .int .i64 0, .int .i64 0]) 4 32 Tryd.underlying42 hi zi0 zi1 zi2 rfl (by decide) _ _ _ rfl (ownA OR3.out ((Below.refl _ _).alloc (Nat.le_refl _) _)) ⟨W1.heap.size, 0, none⟩ 1 1 [.int .i64 fa, .int .i64 a, .int .i64 fb, .int .i64 b] rfl rfl (four4A _ _ _ _ _ _) ONE.out H63.out.1 H63.out.2 (Nat.le_trans HS3.out ((Below.refl W1.heap.size W1).alloc (Nat.le_refl _) _).size) (by decide) ?_)
      intro v8 w8 h8 g8 o8
      obtain ⟨va8, vc8, rfl⟩ := ownShA h8
      obtain ⟨⟨z1, z2⟩, z3⟩ := F9.out _ w8 h8 g8
      have Z3 := hidA z3
      clear h8 g8 o8 F9 z3
      go_wp2_with fail
      go_end0
      exact Z3.out
    · have d2 : decide (fb < b) = false := decide_eq_false c2
      have Z3 := hidA (Q0.out v W1 (fun h => h.elim c c2) H1.out FR.out)
      clear c c2 F8 Q0 Q1
      go_wp2_with fail
      go_end0
      exact Z3.out
end Go.Proofs.YthglhcabdadlpaaDoor

namespace Go.Proofs.YthglhcabdadlpaaDoor
open Go.RowKit
set_option linter.unusedVariables false
set_option linter.unusedSimpArgs false
set_option maxRecDepth 100000
theorem GpR.put {w wr : World} {p k : Nat} {v : Value} {acc : List Al.Rg} {fa ta fb tb : Int} (h : GpR w p k v acc fa ta fb tb wr) (a b c d : Int) : GpR w p k v acc a b c d ((((wr.setCell ⟨p + 1, 0, none⟩ (.int .i64 a)).setCell ⟨p + 1, 1, none⟩ (.int .i64 b)).setCell ⟨p + 1, 2, none⟩ (.int .i64 c)).setCell ⟨p + 1, 3, none⟩ (.int .i64 d)) := by
  refine ⟨below_set (below_set (below_set (below_set h.b (by omega) _) (by omega) _) (by omega) _) (by omega) _, ?_, ?_, (((h.row.set (by omega) _ _).set (by omega) _ _).set (by omega) _ _).set (by omega) _ _, h.len⟩
  · rw [heap_setCell_other _ _ p _ (by simp), heap_setCell_other _ _ p _ (by simp), heap_setCell_other _ _ p _ (by simp), heap_setCell_other _ _ p _ (by simp)]
    exact h.all
  · have h1 := heap_setCell_same wr (p + 1) 0 _ _ (.int .i64 a) h.r
    have h2 := heap_setCell_same _ (p + 1) 1 _ _ (.int .i64 b) h1
    have h3 := heap_setCell_same _ (p + 1) 2 _ _ (.int .i64 c) h2
    exact heap_setCell_same _ (p + 1) 3 _ _ (.int .i64 d) h3
theorem enter_gp (c : Array Value) (w : World) : (callFunc 53 c).run Tryd.prog w = .ok (.enter 53 c) w := by kernel_rfl
def GsQ (w : World) (n m : Int) (l : List Al.Ev) (e : Ending) (w' : World) : Prop := ∃ v, e = .returned v ∧ OwG w' w.heap.size 59 v (Al.gaps n m 0 0 l) ∧ Below w.heap.size w w'
theorem gaps_step {n m fa fb : Int} {l : List Al.Ev} {k : Nat} {x : Al.Ev} {acc T : List Al.Rg} (hx : l[k]? = some x) (h : acc ++ Al.gaps n m fa fb (l.drop k) = T) : (acc ++ Al.one fa x.1 fb x.2) ++ Al.gaps n m (x.1 + 1) (x.2 + 1) (l.drop (k + 1)) = T := by
  obtain ⟨h1, h2⟩ := List.getElem?_eq_some_iff.1 hx
  rw [List.drop_eq_getElem_cons h1, h2, Al.gaps] at h
  rw [← h, List.append_assoc]
theorem wrI (x n : Int) (h0 : -1 ≤ x) (h : x < n) (hn : n ≤ 9223372036854775807) : wrap64 (x + 1) = x + 1 := by unfold wrap64; omega
set_option maxHeartbeats 8000000 in
theorem gaps_any (w : World) (a : Option Addr) (ca : Nat) (l : List Al.Ev) (n m : Int) {B : Nat} (ha : EvR B w a l) (hB : B ≤ w.heap.size) (hl : l.length ≤ 900) (hr : Al.rise n m (-1, -1) l = true) (hn : n ≤ 9223372036854775807) (hm : m ≤ 9223372036854775807) :
    Calls Tryd.prog 41 #[.int .i64 n, .int .i64 m, .slice a l.length ca] w (GsQ w n m l) := by
  have HA := hidA ha
  have HBB := hidA hB
  have HRM : Hid (∀ (k : Nat) (x : Al.Ev), l[k]? = some x → wrap64 (x.1 + 1) = x.1 + 1 ∧ wrap64 (x.2 + 1) = x.2 + 1) := fun k x hx => by
    obtain ⟨h1, h2, h3, h4⟩ := Al.rise_mem hr x (List.mem_of_getElem? hx)
    exact ⟨wrI _ n (by simp at h1; omega) h2 hn, wrI _ m (by simp at h3; omega) h4 hm⟩
  obtain ⟨p, hp⟩ : ∃ p, p = w.heap.size := ⟨_, rfl⟩
  obtain ⟨W0, hW0⟩ : ∃ W0, W0 = (w.alloc (.cells #[.slice none 0 0] 42)).alloc (.cells #[.int .i64 0, .int .i64 0, .int .i64 0, .int .i64 0] 59) := ⟨_, rfl⟩
  have G0 : Hid (GpR w p 0 (.slice none 0 0) [] 0 0 0 0 W0) := by
    have s1 : (w.alloc (.cells #[.slice none 0 0] 42)).heap.size = p + 1 := by rw [hp]; simp
    refine ⟨?_, ?_, ?_, OwG.nil _ _ _, Nat.le_refl _⟩
    · rw [hW0, hp]; exact ((Below.refl _ _).alloc (Nat.le_refl _) _).alloc (by simp) _
    · have h1 : (w.alloc (.cells #[.slice none 0 0] 42)).heap[p]? = some (.cells #[.slice none 0 0] 42 (0, 0)) := by rw [hp]; exact Array.getElem?_push_size
      rw [hW0]
      exact (((Below.refl (p + 1) _).alloc (by rw [s1]; exact Nat.le_refl _) _).block p (Nat.lt_succ_self p)).trans h1
    · rw [hW0, ← s1]; exact Array.getElem?_push_size
  obtain ⟨Q, hQ⟩ : ∃ Q, Q = GsQ w n m l := ⟨_, rfl⟩
  have HQ : Hid (∀ v w', OwG w' (p + 2) 59 v (Al.gaps n m 0 0 l) → Below p w w' → Q (.returned v) w') := fun v w' h1 h2 => by
    rw [hQ]
    rw [hp] at h1 h2
    exact ⟨v, rfl, h1.base (by omega), h2⟩
  rw [← hQ]
  obtain ⟨N, hN⟩ : ∃ N, N = l.length := ⟨_, rfl⟩
  have HN := hidA hN
  rw [← hN] at hl ⊢
  have HL := hidA hl
  have HP := hidA hp
  obtain ⟨q, hq⟩ : ∃ q, q = p + 1 := ⟨_, rfl⟩
  have HQQ := hidA hq
  have hqs : q = (w.alloc (.cells #[.slice none 0 0] 42)).heap.size := by rw [hq, hp]; simp
  have hF := enter_gp
  clear ha hB hQ hN hl hr hn hm
  go_enter Tryd.func41, Tryd.ntmps41
  go_upto_region 3 with fail
  rw [← hW0, ← hp, ← hq]
  clear hW0 hp hq hqs
  go_wp2_with fail
  go_loopg [15] N (fun gk y wr => ∃ (k : Nat) (fa ta fb tb : Int) (acc : List Al.Rg) (v : Value), k + gk = N ∧ y = .int .i64 k ∧ Hid (GpR w p k v acc fa ta fb tb wr ∧ acc ++ Al.gaps n m fa fb (l.drop k) = Al.gaps n m 0 0 l))
  case atStart => exact ⟨0, 0, 0, 0, 0, [], _, by omega, rfl, G0.out, rfl⟩
  case round =>
    obtain ⟨k, fa, ta, fb, tb, acc, v, hk, rfl, RR⟩ := hrel
    rcases gk with _ | gk
    · obtain rfl : N = k := by omega
      have dk : decide ((N : Int) < (N : Int)) = false := decide_eq_false (Int.lt_irrefl _)
      have U := until_any w wr p N v acc fa ta fb tb n m RR.out.1 (Nat.le_trans HL.out (by decide)) none 0 0
      rw [← HQQ.out] at U
      have UU := hidA U
      have AA : Hid (acc ++ Al.one fa n fb m = Al.gaps n m 0 0 l) := by
        have h := RR.out.2
        rw [List.drop_eq_nil_of_le (by rw [HN.out]; exact Nat.le_refl _)] at h
        exact h
      clear U RR G0
      go_wp2_with fail
      refine UU.out.mono ?_
      rintro e w4 ⟨rfl, ⟨v', h4⟩, -⟩
      rw [AA.out] at h4
      obtain ⟨va, vc, rfl⟩ := ownShA h4.row
      have FIN := hidA (HQ.out _ _ h4.row h4.b)
      obtain ⟨c0, -⟩ := box1 h4.all
      clear h4 UU AA
      go_wp2_with fail
      exact FIN.out
    · obtain ⟨k6, dk, dk2, hkN, hk3⟩ := mch_k hk
      obtain ⟨x, hx⟩ : ∃ x, l[k]? = some x := ⟨_, List.getElem?_eq_getElem (by rw [← HN.out]; exact hkN)⟩
      have BW : Below w.heap.size w wr := by rw [← HP.out]; exact RR.out.1.b
      obtain ⟨ga, oa, rfl, hga, cs⟩ := (HA.out.later BW HBB.out) (by rw [← HN.out]; exact Nat.lt_of_le_of_lt (Nat.zero_le k) hkN)
      have a0 := (cs k x hx).1
      have a1 := (cs k x hx).2
      obtain ⟨W3, hW3⟩ : ∃ W3, W3 = wr.alloc (.cells #[.int .i64 x.1, .int .i64 x.2] 64) := ⟨_, rfl⟩
      obtain ⟨g, hg⟩ : ∃ g, g = wr.heap.size := ⟨_, rfl⟩
      have W3B : Hid (Below wr.heap.size wr W3 ∧ g < W3.heap.size) := ⟨by rw [hW3]; exact (Below.refl _ _).alloc (Nat.le_refl _) _, by rw [hW3, hg]; simp⟩
      have W3C : W3.cell? ⟨g, 0, none⟩ = some (.int .i64 x.1) ∧ W3.cell? ⟨g, 1, none⟩ = some (.int .i64 x.2) := by rw [hW3, hg]; exact box2A _ _ _ _
      obtain ⟨c0, c1⟩ := W3C
      have NE : Hid (g ≠ p ∧ g ≠ p + 1 ∧ some g ≠ v.ownBlock) := by
        have h1 := RR.out.1.lt
        refine ⟨by omega, by omega, fun e => ?_⟩
        have := (World.ownsRow.lt (show wr.ownsRow (p + 2) _ 4 v acc.length (rgC acc) from RR.out.1.row) _ e.symm).2
        omega
      have U := until_any w W3 p k v acc fa ta fb tb x.1 x.2 (RR.out.1.later W3B.out.1) (Nat.le_trans (Nat.le_of_lt hkN) (Nat.le_trans HL.out (by decide))) none 0 0
      rw [← HQQ.out] at U
      have UU := hidA U
      obtain ⟨e1, e2⟩ := HRM.out k x hx
      have NX := hidA (gaps_step hx RR.out.2)
      have WK := hidA (wrK k (Nat.le_trans (Nat.le_of_lt hkN) (Nat.le_trans HL.out (by decide))))
      clear U hx cs BW RR
      go_upto_region 7 with fail
      rw [← hW3, ← hg]
      clear hW3 hg a0 a1
      go_wp2_with fail
      refine UU.out.mono ?_
      rintro e w4 ⟨rfl, ⟨v', h4⟩, f4⟩
      have hfg := f4 g W3B.out.2 NE.out.1 NE.out.2.1 NE.out.2.2
      have e0 : w4.cell? ⟨g, 0, none⟩ = some (.int .i64 x.1) := by simp only [World.cell?, hfg]; exact c0
      have e3 : w4.cell? ⟨g, 1, none⟩ = some (.int .i64 x.2) := by simp only [World.cell?, hfg]; exact c1
      obtain ⟨-, -, -, -, f0, f1, f2, f3⟩ := box4 h4.r
      obtain ⟨k0, k1, k2, k3, -, -, -, -⟩ := box4 h4.r
      rw [← HQQ.out] at f0 f1 f2 f3 k0 k1 k2 k3
      have PT := hidA (h4.put (x.1 + 1) 0 (x.2 + 1) 0)
      rw [← HQQ.out] at PT
      clear h4 f4 hfg c0 c1 UU
      go_wp2_with fail
      go_roundg gk
      case measure => omega
      case rel => exact ⟨k + 1, x.1 + 1, 0, x.2 + 1, 0, _, v', hk3, congrArg _ WK.out, PT.out, NX.out⟩
end Go.Proofs.YthglhcabdadlpaaDoor

namespace Go.Proofs.YthglhcabdadlpaaDoor.Pl
open Go.RowKit

theorem w_add_l (a b : Int) : wrap64 (wrap64 a + b) = wrap64 (a + b) := by unfold wrap64; omega
theorem w_add_r (a b : Int) : wrap64 (a + wrap64 b) = wrap64 (a + b) := by unfold wrap64; omega
theorem w_sub_l (a b : Int) : wrap64 (wrap64 a - b) = wrap64 (a - b) := by unfold wrap64; omega
theorem w_sub_r (a b : Int) : wrap64 (a - wrap64 b) = wrap64 (a - b) := by unfold wrap64; omega
theorem w_ex (a : Int) : ∃ k, wrap64 a = a + 18446744073709551616 * k := ⟨-((a + 9223372036854775808) / 18446744073709551616), by unfold wrap64; omega⟩
theorem w_cong (a k : Int) : wrap64 (a + 18446744073709551616 * k) = wrap64 a := by unfold wrap64; omega
theorem w_mul_l (a b : Int) : wrap64 (wrap64 a * b) = wrap64 (a * b) := by
  obtain ⟨k, hk⟩ := w_ex a
  rw [hk, Int.add_mul, Int.mul_assoc, w_cong]
theorem w_mul_l_add (a b c : Int) : wrap64 (wrap64 a * b + c) = wrap64 (a * b + c) := by
  rw [← w_add_l (wrap64 a * b) c, w_mul_l, w_add_l]
theorem w_mul_r (a b : Int) : wrap64 (a * wrap64 b) = wrap64 (a * b) := by
  rw [Int.mul_comm, w_mul_l, Int.mul_comm]
theorem w_id (a : Int) (h0 : -9223372036854775808 ≤ a) (h1 : a ≤ 9223372036854775807) : wrap64 a = a := by unfold wrap64; omega
theorem w_bd (a : Int) : -9223372036854775808 ≤ wrap64 a ∧ wrap64 a ≤ 9223372036854775807 := by unfold wrap64; omega

theorem u64w (n : Int) : IntKind.wrap .u64 n = n % 18446744073709551616 := by
  simp [IntKind.wrap, IntKind.signed, IntKind.bits]
theorem neg_u64w (a : Int) (h : a < 0) (h0 : -9223372036854775808 ≤ a) : IntKind.wrap .u64 (-IntKind.wrap .u64 a) = -a := by
  rw [u64w, u64w]; omega

/-- The quotient, cut towards 0 and begun anew; what is left. -/
def quot (a b : Int) : Int := wrap64 (a.tdiv b)
def rest (a b : Int) : Int := a.tmod b
theorem tdiv_back (a b : Int) (h0 : -9223372036854775808 ≤ a) (h1 : a ≤ 9223372036854775807) : wrap64 (wrap64 (quot a b * b) + rest a b) = a := by
  unfold quot rest
  rw [w_add_l, w_mul_l_add, Int.mul_comm, Int.mul_tdiv_add_tmod, w_id a h0 h1]
/-- How far a number is from 0. -/
def far (a : Int) : Int := (a.natAbs : Int)
theorem far_neg {a : Int} (h : a < 0) : far a = -a := by unfold far; omega
theorem far_pos {a : Int} (h : ¬ a < 0) : far a = a := by unfold far; omega
theorem tmod_lt (a b : Int) (hb : b ≠ 0) : far (rest a b) < far b := by
  unfold far rest
  have := Int.natAbs_tmod a b
  have h2 := Nat.mod_lt a.natAbs (Int.natAbs_pos.2 hb)
  omega
theorem tmod_bd (a b : Int) (hb : b ≠ 0) (h2 : -9223372036854775808 ≤ b) (h3 : b ≤ 9223372036854775807) : -9223372036854775808 ≤ rest a b ∧ rest a b ≤ 9223372036854775807 := by
  have := tmod_lt a b hb
  unfold far at this
  omega
theorem tmod_sign (a b : Int) (h : rest a b ≠ 0) : (a < 0 ∧ rest a b < 0) ∨ (¬ a < 0 ∧ ¬ rest a b < 0) := by
  unfold rest at *
  rcases Int.lt_or_le a 0 with ha | ha
  · left
    refine ⟨ha, ?_⟩
    have := Int.tmod_nonneg (a := -a) b (by omega)
    rw [Int.neg_tmod] at this
    omega
  · right
    have := Int.tmod_nonneg b ha
    omega

theorem bd_of_wf {n : Int} (h : (Lit.int .i64 n).wf = true) : -9223372036854775808 ≤ n ∧ n ≤ 9223372036854775807 := by
  simp only [Lit.wf, IntKind.min, IntKind.max, IntKind.signed, IntKind.bits, Bool.and_eq_true, decide_eq_true_eq, if_true] at h
  omega

/-- The j-th binary digit of what is left of n by 2 to the 64. -/
def bit (n : Int) (j : Nat) : Int := wrap64 ((IntKind.wrap .u64 n / 2 ^ j).tmod 2)

/-- The number that the digits write, if it is at most L: 'r' digits are behind us, they write 'n'. -/
def mag (L : Nat) : List UInt8 → Nat → Nat → Option Nat
  | [], r, n => if r = 0 then none else some n
  | c :: t, r, n => if 48 ≤ c.toNat ∧ c.toNat ≤ 57 ∧ ¬ (0 < r ∧ n = 0) ∧ n ≤ (L - (c.toNat - 48)) / 10 then mag L t (r + 1) (n * 10 + (c.toNat - 48)) else none

theorem mag_nil (L r n : Nat) : mag L [] r n = if r = 0 then none else some n := rfl
theorem mag_go {L : Nat} {c : UInt8} {t : List UInt8} {r n : Nat} (h1 : 48 ≤ c.toNat) (h2 : c.toNat ≤ 57) (h3 : ¬ (0 < r ∧ n = 0)) (h4 : n ≤ (L - (c.toNat - 48)) / 10) :
    mag L (c :: t) r n = mag L t (r + 1) (n * 10 + (c.toNat - 48)) := by
  rw [mag, if_pos ⟨h1, h2, h3, h4⟩]
theorem mag_no {L : Nat} {c : UInt8} {t : List UInt8} {r n : Nat} (h : c.toNat < 48 ∨ 57 < c.toNat ∨ (0 < r ∧ n = 0) ∨ (L - (c.toNat - 48)) / 10 < n) :
    mag L (c :: t) r n = none := by
  rw [mag, if_neg]
  rintro ⟨h1, h2, h3, h4⟩
  rcases h with h | h | h | h
  · omega
  · omega
  · exact h3 h
  · omega

theorem drop_at (s : ByteArray) (k : Nat) (h : k < s.size) : s.data.toList.drop k = s[k] :: s.data.toList.drop (k + 1) := by
  rw [List.drop_eq_getElem_cons (by simpa using h)]; rfl

theorem mag_stop {s : ByteArray} {L : Int} {k m : Nat} (h : k < s.size) (h9 : 9 ≤ L) (H : mag L.toNat s.data.toList 0 0 = mag L.toNat (s.data.toList.drop k) k m)
    (hc : (s[k].toNat : Int) < 48 ∨ 57 < (s[k].toNat : Int) ∨ (0 < k ∧ m = 0) ∨ (48 ≤ (s[k].toNat : Int) ∧ (s[k].toNat : Int) ≤ 57 ∧ (L - ((s[k].toNat : Int) - 48)) / 10 < m)) : mag L.toNat s.data.toList 0 0 = none := by
  rw [H, drop_at s k h]
  apply mag_no
  omega

theorem mag_step {s : ByteArray} {L : Int} {k m : Nat} (h : k < s.size) (h9 : 9 ≤ L) (H : mag L.toNat s.data.toList 0 0 = mag L.toNat (s.data.toList.drop k) k m)
    (h1 : 48 ≤ (s[k].toNat : Int)) (h2 : (s[k].toNat : Int) ≤ 57) (h3 : ¬ (0 < k ∧ m = 0)) (h4 : (m : Int) ≤ (L - ((s[k].toNat : Int) - 48)) / 10) :
    mag L.toNat s.data.toList 0 0 = mag L.toNat (s.data.toList.drop (k + 1)) (k + 1) (m * 10 + (s[k].toNat - 48)) := by
  rw [H, drop_at s k h]
  exact mag_go (by omega) (by omega) h3 (by omega)

theorem mag_end {s : ByteArray} {L k m : Nat} (h : ¬ k < s.size) (hk : k ≤ s.size) (H : mag L s.data.toList 0 0 = mag L (s.data.toList.drop k) k m) :
    mag L s.data.toList 0 0 = if k = 0 then none else some m := by
  rw [H, List.drop_eq_nil_of_le (by simp; omega), mag_nil]

/-- How far a number may lie from 0 (below it there is one more). -/
def lim (b : Bool) : Int := if b then 9223372036854775808 else 9223372036854775807
theorem lim_bd (b : Bool) : 9 ≤ lim b ∧ lim b ≤ 18446744073709551615 := by cases b <;> decide
theorem lim_bd' (b : Bool) : lim b ≤ 9223372036854775808 := by cases b <;> decide
theorem lim_pos : lim false ≤ 9223372036854775807 := by decide

theorem mag_le (L : Nat) (h9 : 9 ≤ L) : ∀ (l : List UInt8) (r n m : Nat), n ≤ L → mag L l r n = some m → m ≤ L
  | [], r, n, m, hn, h => by
    rw [mag_nil] at h
    split at h
    · cases h
    · cases h; exact hn
  | c :: t, r, n, m, hn, h => by
    rw [mag] at h
    split at h
    · rename_i hc
      exact mag_le L h9 t _ _ m (by omega) h
    · cases h

/-- What num.Parse answers: the number, if the text is one's. -/
def parse (l : List UInt8) : Option Int :=
  match l with
  | 45 :: t => (mag (lim true).toNat t 0 0).bind fun n : Nat => if n = 0 then none else some (-(n : Int))
  | l => (mag (lim false).toNat l 0 0).map fun n : Nat => (n : Int)

/-- The error's number beside it: 0, or 10 (no number). -/
def errno (o : Option Int) : Int := if o.isSome then 0 else 10
theorem errno_none : errno none = 10 := rfl
theorem errno_some (n : Int) : errno (some n) = 0 := rfl

theorem parse_neg (t : List UInt8) : parse (45 :: t) = (mag (lim true).toNat t 0 0).bind fun n : Nat => if n = 0 then none else some (-(n : Int)) := rfl
theorem parse_pos (l : List UInt8) (h : ∀ t, l ≠ 45 :: t) : parse l = (mag (lim false).toNat l 0 0).map fun n : Nat => (n : Int) := by
  unfold parse
  split
  · rename_i t; exact absurd rfl (h t)
  · rfl

end Go.Proofs.YthglhcabdadlpaaDoor.Pl

namespace Go.Proofs.YthglhcabdadlpaaDoor
open Go.RowKit

theorem ret_none {x : Option Nat} (h : x = none) : Ending.returned (.tuple #[.int .u64 0, .bool false]) = .returned (.tuple #[.int .u64 ((x.getD 0 : Nat) : Int), .bool x.isSome]) := by rw [h]; rfl
theorem ret_some {x : Option Nat} {m : Nat} (h : x = some m) : Ending.returned (.tuple #[.int .u64 (m : Int), .bool true]) = .returned (.tuple #[.int .u64 ((x.getD 0 : Nat) : Int), .bool x.isSome]) := by rw [h]; rfl

end Go.Proofs.YthglhcabdadlpaaDoor
