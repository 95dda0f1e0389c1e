/- Layer 15: gaps, Regions. -/
import Derived.Test.YthglhcabdadlpaaDoorAlL
namespace Go.Proofs.YthglhcabdadlpaaDoor
open Go.RowKit
set_option linter.unusedVariables false
set_option linter.unusedSimpArgs false
set_option maxRecDepth 100000
theorem GpR.put {w wr : World} {p k : Nat} {v : Value} {acc : List Al.Rg} {fa ta fb tb : Int} (h : GpR w p k v acc fa ta fb tb wr) (a b c d : Int) : GpR w p k v acc a b c d ((((wr.setCell ⟨p + 1, 0, none⟩ (.int .i64 a)).setCell ⟨p + 1, 1, none⟩ (.int .i64 b)).setCell ⟨p + 1, 2, none⟩ (.int .i64 c)).setCell ⟨p + 1, 3, none⟩ (.int .i64 d)) := by
  refine ⟨below_set (below_set (below_set (below_set h.b (by omega) _) (by omega) _) (by omega) _) (by omega) _, ?_, ?_, (((h.row.set (by omega) _ _).set (by omega) _ _).set (by omega) _ _).set (by omega) _ _, h.len⟩
  · rw [heap_setCell_other _ _ p _ (by simp), heap_setCell_other _ _ p _ (by simp), heap_setCell_other _ _ p _ (by simp), heap_setCell_other _ _ p _ (by simp)]
    exact h.all
  · have h1 := heap_setCell_same wr (p + 1) 0 _ _ (.int .i64 a) h.r
    have h2 := heap_setCell_same _ (p + 1) 1 _ _ (.int .i64 b) h1
    have h3 := heap_setCell_same _ (p + 1) 2 _ _ (.int .i64 c) h2
    exact heap_setCell_same _ (p + 1) 3 _ _ (.int .i64 d) h3
theorem enter_gp (c : Array Value) (w : World) : (callFunc 53 c).run Tryd.prog w = .ok (.enter 53 c) w := by kernel_rfl
def GsQ (w : World) (n m : Int) (l : List Al.Ev) (e : Ending) (w' : World) : Prop := ∃ v, e = .returned v ∧ OwG w' w.heap.size 59 v (Al.gaps n m 0 0 l) ∧ Below w.heap.size w w'
theorem gaps_step {n m fa fb : Int} {l : List Al.Ev} {k : Nat} {x : Al.Ev} {acc T : List Al.Rg} (hx : l[k]? = some x) (h : acc ++ Al.gaps n m fa fb (l.drop k) = T) : (acc ++ Al.one fa x.1 fb x.2) ++ Al.gaps n m (x.1 + 1) (x.2 + 1) (l.drop (k + 1)) = T := by
  obtain ⟨h1, h2⟩ := List.getElem?_eq_some_iff.1 hx
  rw [List.drop_eq_getElem_cons h1, h2, Al.gaps] at h
  rw [← h, List.append_assoc]
theorem wrI (x n : Int) (h0 : -1 ≤ x) (h : x < n) (hn : n ≤ 9223372036854775807) : wrap64 (x + 1) = x + 1 := by unfold wrap64; omega
set_option maxHeartbeats 8000000 in
theorem gaps_any (w : World) (a : Option Addr) (ca : Nat) (l : List Al.Ev) (n m : Int) {B : Nat} (ha : EvR B w a l) (hB : B ≤ w.heap.size) (hl : l.length ≤ 900) (hr : Al.rise n m (-1, -1) l = true) (hn : n ≤ 9223372036854775807) (hm : m ≤ 9223372036854775807) :
    Calls Tryd.prog 41 #[.int .i64 n, .int .i64 m, .slice a l.length ca] w (GsQ w n m l) := by
  have HA := hidA ha
  have HBB := hidA hB
  have HRM : Hid (∀ (k : Nat) (x : Al.Ev), l[k]? = some x → wrap64 (x.1 + 1) = x.1 + 1 ∧ wrap64 (x.2 + 1) = x.2 + 1) := fun k x hx => by
    obtain ⟨h1, h2, h3, h4⟩ := Al.rise_mem hr x (List.mem_of_getElem? hx)
    exact ⟨wrI _ n (by simp at h1; omega) h2 hn, wrI _ m (by simp at h3; omega) h4 hm⟩
  obtain ⟨p, hp⟩ : ∃ p, p = w.heap.size := ⟨_, rfl⟩
  obtain ⟨W0, hW0⟩ : ∃ W0, W0 = (w.alloc (.cells #[.slice none 0 0] 42)).alloc (.cells #[.int .i64 0, .int .i64 0, .int .i64 0, .int .i64 0] 59) := ⟨_, rfl⟩
  have G0 : Hid (GpR w p 0 (.slice none 0 0) [] 0 0 0 0 W0) := by
    have s1 : (w.alloc (.cells #[.slice none 0 0] 42)).heap.size = p + 1 := by rw [hp]; simp
    refine ⟨?_, ?_, ?_, OwG.nil _ _ _, Nat.le_refl _⟩
    · rw [hW0, hp]; exact ((Below.refl _ _).alloc (Nat.le_refl _) _).alloc (by simp) _
    · have h1 : (w.alloc (.cells #[.slice none 0 0] 42)).heap[p]? = some (.cells #[.slice none 0 0] 42 (0, 0)) := by rw [hp]; exact Array.getElem?_push_size
      rw [hW0]
      exact (((Below.refl (p + 1) _).alloc (by rw [s1]; exact Nat.le_refl _) _).block p (Nat.lt_succ_self p)).trans h1
    · rw [hW0, ← s1]; exact Array.getElem?_push_size
  obtain ⟨Q, hQ⟩ : ∃ Q, Q = GsQ w n m l := ⟨_, rfl⟩
  have HQ : Hid (∀ v w', OwG w' (p + 2) 59 v (Al.gaps n m 0 0 l) → Below p w w' → Q (.returned v) w') := fun v w' h1 h2 => by
    rw [hQ]
    rw [hp] at h1 h2
    exact ⟨v, rfl, h1.base (by omega), h2⟩
  rw [← hQ]
  obtain ⟨N, hN⟩ : ∃ N, N = l.length := ⟨_, rfl⟩
  have HN := hidA hN
  rw [← hN] at hl ⊢
  have HL := hidA hl
  have HP := hidA hp
  obtain ⟨q, hq⟩ : ∃ q, q = p + 1 := ⟨_, rfl⟩
  have HQQ := hidA hq
  have hqs : q = (w.alloc (.cells #[.slice none 0 0] 42)).heap.size := by rw [hq, hp]; simp
  have hF := enter_gp
  clear ha hB hQ hN hl hr hn hm
  go_enter Tryd.func41, Tryd.ntmps41
  go_upto_region 3 with fail
  rw [← hW0, ← hp, ← hq]
  clear hW0 hp hq hqs
  go_wp2_with fail
  go_loopg [15] N (fun gk y wr => ∃ (k : Nat) (fa ta fb tb : Int) (acc : List Al.Rg) (v : Value), k + gk = N ∧ y = .int .i64 k ∧ Hid (GpR w p k v acc fa ta fb tb wr ∧ acc ++ Al.gaps n m fa fb (l.drop k) = Al.gaps n m 0 0 l))
  case atStart => exact ⟨0, 0, 0, 0, 0, [], _, by omega, rfl, G0.out, rfl⟩
  case round =>
    obtain ⟨k, fa, ta, fb, tb, acc, v, hk, rfl, RR⟩ := hrel
    rcases gk with _ | gk
    · obtain rfl : N = k := by omega
      have dk : decide ((N : Int) < (N : Int)) = false := decide_eq_false (Int.lt_irrefl _)
      have U := until_any w wr p N v acc fa ta fb tb n m RR.out.1 (Nat.le_trans HL.out (by decide)) none 0 0
      rw [← HQQ.out] at U
      have UU := hidA U
      have AA : Hid (acc ++ Al.one fa n fb m = Al.gaps n m 0 0 l) := by
        have h := RR.out.2
        rw [List.drop_eq_nil_of_le (by rw [HN.out]; exact Nat.le_refl _)] at h
        exact h
      clear U RR G0
      go_wp2_with fail
      refine UU.out.mono ?_
      rintro e w4 ⟨rfl, ⟨v', h4⟩, -⟩
      rw [AA.out] at h4
      obtain ⟨va, vc, rfl⟩ := ownShA h4.row
      have FIN := hidA (HQ.out _ _ h4.row h4.b)
      obtain ⟨c0, -⟩ := box1 h4.all
      clear h4 UU AA
      go_wp2_with fail
      exact FIN.out
    · obtain ⟨k6, dk, dk2, hkN, hk3⟩ := mch_k hk
      obtain ⟨x, hx⟩ : ∃ x, l[k]? = some x := ⟨_, List.getElem?_eq_getElem (by rw [← HN.out]; exact hkN)⟩
      have BW : Below w.heap.size w wr := by rw [← HP.out]; exact RR.out.1.b
      obtain ⟨ga, oa, rfl, hga, cs⟩ := (HA.out.later BW HBB.out) (by rw [← HN.out]; exact Nat.lt_of_le_of_lt (Nat.zero_le k) hkN)
      have a0 := (cs k x hx).1
      have a1 := (cs k x hx).2
      obtain ⟨W3, hW3⟩ : ∃ W3, W3 = wr.alloc (.cells #[.int .i64 x.1, .int .i64 x.2] 64) := ⟨_, rfl⟩
      obtain ⟨g, hg⟩ : ∃ g, g = wr.heap.size := ⟨_, rfl⟩
      have W3B : Hid (Below wr.heap.size wr W3 ∧ g < W3.heap.size) := ⟨by rw [hW3]; exact (Below.refl _ _).alloc (Nat.le_refl _) _, by rw [hW3, hg]; simp⟩
      have W3C : W3.cell? ⟨g, 0, none⟩ = some (.int .i64 x.1) ∧ W3.cell? ⟨g, 1, none⟩ = some (.int .i64 x.2) := by rw [hW3, hg]; exact box2A _ _ _ _
      obtain ⟨c0, c1⟩ := W3C
      have NE : Hid (g ≠ p ∧ g ≠ p + 1 ∧ some g ≠ v.ownBlock) := by
        have h1 := RR.out.1.lt
        refine ⟨by omega, by omega, fun e => ?_⟩
        have := (World.ownsRow.lt (show wr.ownsRow (p + 2) _ 4 v acc.length (rgC acc) from RR.out.1.row) _ e.symm).2
        omega
      have U := until_any w W3 p k v acc fa ta fb tb x.1 x.2 (RR.out.1.later W3B.out.1) (Nat.le_trans (Nat.le_of_lt hkN) (Nat.le_trans HL.out (by decide))) none 0 0
      rw [← HQQ.out] at U
      have UU := hidA U
      obtain ⟨e1, e2⟩ := HRM.out k x hx
      have NX := hidA (gaps_step hx RR.out.2)
      have WK := hidA (wrK k (Nat.le_trans (Nat.le_of_lt hkN) (Nat.le_trans HL.out (by decide))))
      clear U hx cs BW RR
      go_upto_region 7 with fail
      rw [← hW3, ← hg]
      clear hW3 hg a0 a1
      go_wp2_with fail
      refine UU.out.mono ?_
      rintro e w4 ⟨rfl, ⟨v', h4⟩, f4⟩
      have hfg := f4 g W3B.out.2 NE.out.1 NE.out.2.1 NE.out.2.2
      have e0 : w4.cell? ⟨g, 0, none⟩ = some (.int .i64 x.1) := by simp only [World.cell?, hfg]; exact c0
      have e3 : w4.cell? ⟨g, 1, none⟩ = some (.int .i64 x.2) := by simp only [World.cell?, hfg]; exact c1
      obtain ⟨-, -, -, -, f0, f1, f2, f3⟩ := box4 h4.r
      obtain ⟨k0, k1, k2, k3, -, -, -, -⟩ := box4 h4.r
      rw [← HQQ.out] at f0 f1 f2 f3 k0 k1 k2 k3
      have PT := hidA (h4.put (x.1 + 1) 0 (x.2 + 1) 0)
      rw [← HQQ.out] at PT
      clear h4 f4 hfg c0 c1 UU
      go_wp2_with fail
      go_roundg gk
      case measure => omega
      case rel => exact ⟨k + 1, x.1 + 1, 0, x.2 + 1, 0, _, v', hk3, congrArg _ WK.out, PT.out, NX.out⟩
end Go.Proofs.YthglhcabdadlpaaDoor
