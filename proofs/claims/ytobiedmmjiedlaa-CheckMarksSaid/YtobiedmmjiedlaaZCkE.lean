/- Layer 4: the scope in memory; named, single, array. -/
import Derived.Test.YtobiedmmjiedlaaZCkD
namespace Go.Proofs.Ytobiedmmjiedlaa
open Go.RowKit

def ckNm : List CkVa → List UInt8 → Int → Option CkVa
  | [], _, _ => none
  | v :: r, n, m => if v.name = n ∧ v.fr ≤ m ∧ m ≤ v.tl then some v else ckNm r n m
theorem ckNm_is (n : List UInt8) (m : Int) : ∀ (l : List CkVa) (k : Nat), (ckFi l n m k = -1 ∧ ckNm l n m = none) ∨ ∃ j, ckFi l n m k = ((k + j : Nat) : Int) ∧ j < l.length ∧ ckNm l n m = some (l.getD j ckV0)
  | [], k => .inl ⟨rfl, rfl⟩
  | v :: r, k => by
    by_cases c : v.name = n ∧ v.fr ≤ m ∧ m ≤ v.tl
    · exact .inr ⟨0, by rw [ckFi, if_pos c]; rfl, by simp, by rw [ckNm, if_pos c]; rfl⟩
    · rw [ckFi, if_neg c, ckNm, if_neg c]
      rcases ckNm_is n m r (k + 1) with h | ⟨j, h1, h2, h3⟩
      · exact .inl h
      · exact .inr ⟨j + 1, by rw [h1]; congr 1; omega, by simpa using h2, by rw [h3]; rfl⟩
/-- The scope, as it lies from a block's begin on. -/
structure Sco (w : World) (p : Nat) (sa : Option Addr) (c : Nat) (l : List CkVa) (m : Int) : Prop where
  c0 : w.cell? ⟨p, 0, none⟩ = some (.slice sa l.length c)
  c1 : w.cell? ⟨p, 1, none⟩ = some (.int .i64 m)
  lt : p < w.heap.size
  vs : VaS w sa l
theorem Sco.later {w w' : World} {p : Nat} {sa : Option Addr} {c : Nat} {l : List CkVa} {m : Int} (h : Sco w p sa c l m) (b : Below w.heap.size w w') : Sco w' p sa c l m :=
  ⟨(b.cell h.lt).trans h.c0, (b.cell h.lt).trans h.c1, Nat.lt_of_lt_of_le h.lt b.size, h.vs.later b⟩
abbrev zVa : Obj := .cells #[.string ⟨#[]⟩, .int .i64 0, .int .i64 0, .int .i64 0, .int .i64 0] 57
def vaV (x : CkVa) : Value := .agg #[.string ⟨x.name.toArray⟩, .int .i64 x.ty, .int .i64 x.sz, .int .i64 x.fr, .int .i64 x.tl]
set_option maxRecDepth 100000 in
set_option maxHeartbeats 2000000 in
theorem ckNamed_no (p : Nat) (sa : Option Addr) (c : Nat) (l : List CkVa) (m : Int) (n : List UInt8) (w : World) (h : Sco w p sa c l m) (hn : ckNm l n m = none) : Calls Try.prog 67 #[.pointer (some ⟨p, 0, none⟩), .string ⟨n.toArray⟩] w fun e w' => e = ckPan 40 ∧ Below w.heap.size w w' := by
  have hi : ckFi l n m 0 = -1 := by
    rcases ckNm_is n m l 0 with q | ⟨j, _, _, q⟩
    · exact q.1
    · rw [hn] at q; cases q
  have EF : Hid (∀ W, Below w.heap.size w W → Calls Try.prog 79 #[.slice sa l.length c, .string ⟨n.toArray⟩, .int .i64 m] W fun e w' => e = .returned (.int .i64 (-1)) ∧ Below W.heap.size W w') := fun W hW => by have := ckFind_any sa c l n m W (h.vs.later hW); rw [hi] at this; exact this
  have HS : Hid (Sco w p sa c l m) := h
  obtain ⟨c0, c1, hl, -⟩ := h
  have nz : ¬ p = w.heap.size := by omega
  clear hi hn
  go_enter Try.func67, Try.ntmps67
  go_wp2_with fail
  go_region_with (go_at_call 79; refine Calls.mono (EF.out _ (by go_grown)) ?_; rintro e w1 ⟨rfl, b1⟩; have B1 : Hid (Below w.heap.size w w1) := Below.trans (by go_grown) (b1.mono (by go_size)); clear b1)
  all_goals
    go_wp2_with fail
    refine Calls.mono (ckMust_no _ _) ?_
    rintro e w2 ⟨rfl, b2⟩
    unfold ckPan
    go_wp2_with fail
    exact ⟨rfl, rfl, B1.out.trans (b2.mono B1.out.size)⟩
set_option maxRecDepth 100000 in
set_option maxHeartbeats 2000000 in
theorem ckNamed_yes (p : Nat) (sa : Option Addr) (c : Nat) (l : List CkVa) (m : Int) (n : List UInt8) (w : World) (h : Sco w p sa c l m) (x : CkVa) (hn : ckNm l n m = some x) : Calls Try.prog 67 #[.pointer (some ⟨p, 0, none⟩), .string ⟨n.toArray⟩] w fun e w' => e = .returned (vaV x) ∧ Below w.heap.size w w' := by
  obtain ⟨j, hi, hj, hx⟩ : ∃ j : Nat, ckFi l n m 0 = (j : Int) ∧ j < l.length ∧ l.getD j ckV0 = x := by
    rcases ckNm_is n m l 0 with ⟨_, q⟩ | ⟨j, q1, q2, q⟩
    · rw [hn] at q; cases q
    · rw [hn] at q
      cases q
      exact ⟨j, by rw [q1, Nat.zero_add], q2, rfl⟩
  obtain ⟨g, o, hsa, hg, hc⟩ := h.vs.2 (by omega)
  have hcx := hc j hj
  rw [hx] at hcx
  have HX : Hid (VaAt w g (o + j * 5) x) := hcx
  have HG : Hid (g < w.heap.size) := hg
  have hji : (j : Int) < (l.length : Int) := by omega
  have hj0 : (0 : Int) ≤ (j : Int) := by omega
  have EF : Hid (∀ W, Below w.heap.size w W → Calls Try.prog 79 #[.slice sa l.length c, .string ⟨n.toArray⟩, .int .i64 m] W fun e w' => e = .returned (.int .i64 (j : Int)) ∧ Below W.heap.size W w') := fun W hW => by have := ckFind_any sa c l n m W (h.vs.later hW); rw [hi] at this; exact this
  have HS : Hid (Sco w p sa c l m) := h
  obtain ⟨c0, c1, hl, -⟩ := h
  have nz : ¬ p = w.heap.size := by omega
  clear hi hn hc hg hcx hx hj
  subst hsa
  go_enter Try.func67, Try.ntmps67
  go_wp2_with fail
  go_region_with (go_at_call 79; refine Calls.mono (EF.out _ (by go_grown)) ?_; rintro e w1 ⟨rfl, b1⟩; have BV : Hid (Below (w.alloc zVa).heap.size (w.alloc zVa) w1) := Below.trans (by go_grown) (b1.mono (by go_size)); clear b1)
  all_goals
    go_wp2_with fail
    refine Calls.mono (ckMust_yes _ _) ?_
    rintro e w2 ⟨rfl, rfl⟩
    have B1 : Hid (Below w.heap.size w w2) := (box_below w zVa).trans (BV.out.mono (by simp))
    have hz : w.heap.size < (w.alloc zVa).heap.size := by simp
    have hz2 : w.heap.size < w2.heap.size := Nat.lt_of_lt_of_le hz BV.out.size
    have q0 : w2.cell? ⟨w.heap.size, 0, none⟩ = some (.string ⟨#[]⟩) := (BV.out.cell (p := ⟨w.heap.size, 0, none⟩) hz).trans (by simp [go_sem])
    have q1 : w2.cell? ⟨w.heap.size, 1, none⟩ = some (.int .i64 0) := (BV.out.cell (p := ⟨w.heap.size, 1, none⟩) hz).trans (by simp [go_sem])
    have q2 : w2.cell? ⟨w.heap.size, 2, none⟩ = some (.int .i64 0) := (BV.out.cell (p := ⟨w.heap.size, 2, none⟩) hz).trans (by simp [go_sem])
    have q3 : w2.cell? ⟨w.heap.size, 3, none⟩ = some (.int .i64 0) := (BV.out.cell (p := ⟨w.heap.size, 3, none⟩) hz).trans (by simp [go_sem])
    have q4 : w2.cell? ⟨w.heap.size, 4, none⟩ = some (.int .i64 0) := (BV.out.cell (p := ⟨w.heap.size, 4, none⟩) hz).trans (by simp [go_sem])
    have f0 : w2.frozen? ⟨w.heap.size, 0, none⟩ = false := (BV.out.frozen (p := ⟨w.heap.size, 0, none⟩) hz).trans (by simp [go_sem])
    have f1 : w2.frozen? ⟨w.heap.size, 1, none⟩ = false := (BV.out.frozen (p := ⟨w.heap.size, 1, none⟩) hz).trans (by simp [go_sem])
    have f2 : w2.frozen? ⟨w.heap.size, 2, none⟩ = false := (BV.out.frozen (p := ⟨w.heap.size, 2, none⟩) hz).trans (by simp [go_sem])
    have f3 : w2.frozen? ⟨w.heap.size, 3, none⟩ = false := (BV.out.frozen (p := ⟨w.heap.size, 3, none⟩) hz).trans (by simp [go_sem])
    have f4 : w2.frozen? ⟨w.heap.size, 4, none⟩ = false := (BV.out.frozen (p := ⟨w.heap.size, 4, none⟩) hz).trans (by simp [go_sem])
    have d0 := (B1.out.cell (p := ⟨p, 0, none⟩) hl).trans c0
    obtain ⟨x0, x1, x2, x3, x4⟩ := HX.out
    have y0 := (B1.out.cell (p := ⟨g, o + j * 5, none⟩) HG.out).trans x0
    have y1 := (B1.out.cell (p := ⟨g, o + j * 5 + 1, none⟩) HG.out).trans x1
    have y2 := (B1.out.cell (p := ⟨g, o + j * 5 + 2, none⟩) HG.out).trans x2
    have y3 := (B1.out.cell (p := ⟨g, o + j * 5 + 3, none⟩) HG.out).trans x3
    have y4 := (B1.out.cell (p := ⟨g, o + j * 5 + 4, none⟩) HG.out).trans x4
    clear x0 x1 x2 x3 x4 HX HG BV hz HS c0 c1
    go_wp2_with fail
    refine bodyPost_ret (v := vaV x) (by simp [results, Try.results67, go_sem, q0, q1, q2, q3, q4, vaV]) rfl ?_
    exact ⟨rfl, ((((B1.out.setCell (by simp) _).setCell (by simp) _).setCell (by simp) _).setCell (by simp) _).setCell (by simp) _⟩
end Go.Proofs.Ytobiedmmjiedlaa
