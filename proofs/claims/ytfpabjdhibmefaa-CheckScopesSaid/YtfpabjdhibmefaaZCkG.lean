/- Layer 4: isArray, single, array. -/
/- Layer 4: typeOf, for every expression. -/
import Derived.Test.YtfpabjdhibmefaaZCkE
namespace Go.Proofs.Ytfpabjdhibmefaa
open Go.RowKit

set_option maxRecDepth 100000 in
set_option maxHeartbeats 2000000 in
theorem ckIsArray_any (x : CkVa) (w : World) : Calls Try.prog 74 #[vaV x] w fun e w' => e = .returned (.bool (decide (0 < x.sz))) ∧ Below w.heap.size w w' := by
  unfold vaV
  go_enter Try.func74, Try.ntmps74
  go_wp2_with fail
  go_ret
  exact ⟨rfl, by go_grown⟩
def ckSi (l : List CkVa) (n : List UInt8) (m : Int) : Except Int Int :=
  match ckNm l n m with
  | none => .error 40
  | some x => if 0 < x.sz then .error 41 else .ok x.ty
set_option maxRecDepth 100000 in
set_option maxHeartbeats 2000000 in
theorem ckSingle_no (p : Nat) (sa : Option Addr) (c : Nat) (l : List CkVa) (m : Int) (n : List UInt8) (w : World) (h : Sco w p sa c l m) (hn : ckNm l n m = none) : Calls Try.prog 48 #[.pointer (some ⟨p, 0, none⟩), .string ⟨n.toArray⟩] w fun e w' => e = ckPan 40 ∧ Below w.heap.size w w' := by
  have EN : Hid (∀ W, Below w.heap.size w W → Calls Try.prog 73 #[.pointer (some ⟨p, 0, none⟩), .string ⟨n.toArray⟩] W fun e w' => e = ckPan 40 ∧ Below W.heap.size W w') := fun W hW => ckNamed_no p sa c l m n W (h.later hW) hn
  clear h hn
  go_enter Try.func48, Try.ntmps48
  go_wp2_with fail
  refine Calls.mono (EN.out _ (by go_grown)) ?_
  rintro e w1 ⟨rfl, b1⟩
  have B1 : Hid (Below w.heap.size w w1) := Below.trans (by go_grown) (b1.mono (by go_size))
  clear b1
  unfold ckPan
  go_wp2_with fail
  exact ⟨rfl, rfl, B1.out⟩
set_option maxRecDepth 100000 in
set_option maxHeartbeats 2000000 in
theorem ckSingle_yes (p : Nat) (sa : Option Addr) (c : Nat) (l : List CkVa) (m : Int) (n : List UInt8) (w : World) (h : Sco w p sa c l m) (x : CkVa) (hn : ckNm l n m = some x) (hs : ¬ 0 < x.sz) : Calls Try.prog 48 #[.pointer (some ⟨p, 0, none⟩), .string ⟨n.toArray⟩] w fun e w' => e = .returned (.int .i64 x.ty) ∧ Below w.heap.size w w' := by
  have EN : Hid (∀ W, Below w.heap.size w W → Calls Try.prog 73 #[.pointer (some ⟨p, 0, none⟩), .string ⟨n.toArray⟩] W fun e w' => e = .returned (vaV x) ∧ Below W.heap.size W w') := fun W hW => ckNamed_yes p sa c l m n W (h.later hW) x hn
  have EA : Hid (∀ W, Calls Try.prog 74 #[.agg #[.string ⟨x.name.toArray⟩, .int .i64 x.ty, .int .i64 x.sz, .int .i64 x.fr, .int .i64 x.tl]] W fun e w' => e = .returned (.bool false) ∧ Below W.heap.size W w') := fun W => by have := ckIsArray_any x W; rw [decide_eq_false hs] at this; exact this
  clear h hn hs
  go_enter Try.func48, Try.ntmps48
  go_wp2_with fail
  refine Calls.mono (EN.out _ (by go_grown)) ?_
  rintro e w1 ⟨rfl, b1⟩
  have B1 : Hid (Below w.heap.size w w1) := Below.trans (by go_grown) (b1.mono (by go_size))
  clear b1
  unfold vaV
  go_wp2_with fail
  refine Calls.mono (EA.out _) ?_
  rintro e w2 ⟨rfl, b2⟩
  have B2 : Hid (Below w.heap.size w w2) := (B1.out.trans ((box_below w1 _).mono B1.out.size)).trans (b2.mono (by have := B1.out.size; simp; omega))
  have q1 : w2.cell? ⟨w1.heap.size, 1, none⟩ = some (.int .i64 x.ty) := (b2.cell (p := ⟨w1.heap.size, 1, none⟩) (by simp)).trans (by simp [go_sem])
  clear b2
  go_wp2_with fail
  refine Calls.mono (ckMust_yes _ _) ?_
  rintro e w3 ⟨rfl, rfl⟩
  go_wp2_with fail
  go_ret
  exact ⟨rfl, B2.out⟩
set_option maxRecDepth 100000 in
set_option maxHeartbeats 2000000 in
theorem ckSingle_arr (p : Nat) (sa : Option Addr) (c : Nat) (l : List CkVa) (m : Int) (n : List UInt8) (w : World) (h : Sco w p sa c l m) (x : CkVa) (hn : ckNm l n m = some x) (hs : 0 < x.sz) : Calls Try.prog 48 #[.pointer (some ⟨p, 0, none⟩), .string ⟨n.toArray⟩] w fun e w' => e = ckPan 41 ∧ Below w.heap.size w w' := by
  have EN : Hid (∀ W, Below w.heap.size w W → Calls Try.prog 73 #[.pointer (some ⟨p, 0, none⟩), .string ⟨n.toArray⟩] W fun e w' => e = .returned (vaV x) ∧ Below W.heap.size W w') := fun W hW => ckNamed_yes p sa c l m n W (h.later hW) x hn
  have EA : Hid (∀ W, Calls Try.prog 74 #[.agg #[.string ⟨x.name.toArray⟩, .int .i64 x.ty, .int .i64 x.sz, .int .i64 x.fr, .int .i64 x.tl]] W fun e w' => e = .returned (.bool true) ∧ Below W.heap.size W w') := fun W => by have := ckIsArray_any x W; rw [decide_eq_true hs] at this; exact this
  clear h hn hs
  go_enter Try.func48, Try.ntmps48
  go_wp2_with fail
  refine Calls.mono (EN.out _ (by go_grown)) ?_
  rintro e w1 ⟨rfl, b1⟩
  have B1 : Hid (Below w.heap.size w w1) := Below.trans (by go_grown) (b1.mono (by go_size))
  clear b1
  unfold vaV
  go_wp2_with fail
  refine Calls.mono (EA.out _) ?_
  rintro e w2 ⟨rfl, b2⟩
  have B2 : Hid (Below w.heap.size w w2) := (B1.out.trans ((box_below w1 _).mono B1.out.size)).trans (b2.mono (by have := B1.out.size; simp; omega))
  clear b2
  go_wp2_with fail
  refine Calls.mono (ckMust_no _ _) ?_
  rintro e w3 ⟨rfl, b3⟩
  have B3 : Hid (Below w.heap.size w w3) := B2.out.trans (b3.mono B2.out.size)
  clear b3
  unfold ckPan
  go_wp2_with fail
  exact ⟨rfl, rfl, B3.out⟩
theorem ckSingle_any (p : Nat) (sa : Option Addr) (c : Nat) (l : List CkVa) (m : Int) (n : List UInt8) (w : World) (h : Sco w p sa c l m) : Calls Try.prog 48 #[.pointer (some ⟨p, 0, none⟩), .string ⟨n.toArray⟩] w fun e w' => e = ckEnd (ckSi l n m) ∧ Below w.heap.size w w' := by
  cases hn : ckNm l n m with
  | none =>
    have : ckSi l n m = .error 40 := by unfold ckSi; rw [hn]
    rw [this]
    exact ckSingle_no p sa c l m n w h hn
  | some x =>
    by_cases hs : 0 < x.sz
    · have : ckSi l n m = .error 41 := by unfold ckSi; rw [hn]; exact if_pos hs
      rw [this]
      exact ckSingle_arr p sa c l m n w h x hn hs
    · have : ckSi l n m = .ok x.ty := by unfold ckSi; rw [hn]; exact if_neg hs
      rw [this]
      exact ckSingle_yes p sa c l m n w h x hn hs
/-- An array's name, or what is thrown. -/
def ckAr (l : List CkVa) (n : List UInt8) (m : Int) : Option Int :=
  match ckNm l n m with
  | none => some 40
  | some x => if 0 < x.sz then none else some 41
def ckEndU : Option Int → Ending
  | none => .returned (.tuple #[])
  | some e => ckPan e
set_option maxRecDepth 100000 in
set_option maxHeartbeats 2000000 in
theorem ckArray_no (p : Nat) (sa : Option Addr) (c : Nat) (l : List CkVa) (m : Int) (n : List UInt8) (w : World) (h : Sco w p sa c l m) (hn : ckNm l n m = none) : Calls Try.prog 49 #[.pointer (some ⟨p, 0, none⟩), .string ⟨n.toArray⟩] w fun e w' => e = ckPan 40 ∧ Below w.heap.size w w' := by
  have EN : Hid (∀ W, Below w.heap.size w W → Calls Try.prog 73 #[.pointer (some ⟨p, 0, none⟩), .string ⟨n.toArray⟩] W fun e w' => e = ckPan 40 ∧ Below W.heap.size W w') := fun W hW => ckNamed_no p sa c l m n W (h.later hW) hn
  clear h hn
  go_enter Try.func49, Try.ntmps49
  go_wp2_with fail
  refine Calls.mono (EN.out _ (by go_grown)) ?_
  rintro e w1 ⟨rfl, b1⟩
  have B1 : Hid (Below w.heap.size w w1) := Below.trans (by go_grown) (b1.mono (by go_size))
  clear b1
  unfold ckPan
  go_wp2_with fail
  exact ⟨rfl, rfl, B1.out⟩
set_option maxRecDepth 100000 in
set_option maxHeartbeats 2000000 in
theorem ckArray_yes (p : Nat) (sa : Option Addr) (c : Nat) (l : List CkVa) (m : Int) (n : List UInt8) (w : World) (h : Sco w p sa c l m) (x : CkVa) (hn : ckNm l n m = some x) (hs : 0 < x.sz) : Calls Try.prog 49 #[.pointer (some ⟨p, 0, none⟩), .string ⟨n.toArray⟩] w fun e w' => e = .returned (.tuple #[]) ∧ Below w.heap.size w w' := by
  have EN : Hid (∀ W, Below w.heap.size w W → Calls Try.prog 73 #[.pointer (some ⟨p, 0, none⟩), .string ⟨n.toArray⟩] W fun e w' => e = .returned (vaV x) ∧ Below W.heap.size W w') := fun W hW => ckNamed_yes p sa c l m n W (h.later hW) x hn
  have EA : Hid (∀ W, Calls Try.prog 74 #[.agg #[.string ⟨x.name.toArray⟩, .int .i64 x.ty, .int .i64 x.sz, .int .i64 x.fr, .int .i64 x.tl]] W fun e w' => e = .returned (.bool true) ∧ Below W.heap.size W w') := fun W => by have := ckIsArray_any x W; rw [decide_eq_true hs] at this; exact this
  clear h hn hs
  go_enter Try.func49, Try.ntmps49
  go_wp2_with fail
  refine Calls.mono (EN.out _ (by go_grown)) ?_
  rintro e w1 ⟨rfl, b1⟩
  have B1 : Hid (Below w.heap.size w w1) := Below.trans (by go_grown) (b1.mono (by go_size))
  clear b1
  unfold vaV
  go_wp2_with fail
  refine Calls.mono (EA.out _) ?_
  rintro e w2 ⟨rfl, b2⟩
  have B2 : Hid (Below w.heap.size w w2) := B1.out.trans (b2.mono B1.out.size)
  clear b2
  go_wp2_with fail
  refine Calls.mono (ckMust_yes _ _) ?_
  rintro e w3 ⟨rfl, rfl⟩
  go_wp2_with fail
  exact ⟨rfl, .tuple #[], by simp [results, Try.results49, go_sem], rfl, B2.out⟩
set_option maxRecDepth 100000 in
set_option maxHeartbeats 2000000 in
theorem ckArray_one (p : Nat) (sa : Option Addr) (c : Nat) (l : List CkVa) (m : Int) (n : List UInt8) (w : World) (h : Sco w p sa c l m) (x : CkVa) (hn : ckNm l n m = some x) (hs : ¬ 0 < x.sz) : Calls Try.prog 49 #[.pointer (some ⟨p, 0, none⟩), .string ⟨n.toArray⟩] w fun e w' => e = ckPan 41 ∧ Below w.heap.size w w' := by
  have EN : Hid (∀ W, Below w.heap.size w W → Calls Try.prog 73 #[.pointer (some ⟨p, 0, none⟩), .string ⟨n.toArray⟩] W fun e w' => e = .returned (vaV x) ∧ Below W.heap.size W w') := fun W hW => ckNamed_yes p sa c l m n W (h.later hW) x hn
  have EA : Hid (∀ W, Calls Try.prog 74 #[.agg #[.string ⟨x.name.toArray⟩, .int .i64 x.ty, .int .i64 x.sz, .int .i64 x.fr, .int .i64 x.tl]] W fun e w' => e = .returned (.bool false) ∧ Below W.heap.size W w') := fun W => by have := ckIsArray_any x W; rw [decide_eq_false hs] at this; exact this
  clear h hn hs
  go_enter Try.func49, Try.ntmps49
  go_wp2_with fail
  refine Calls.mono (EN.out _ (by go_grown)) ?_
  rintro e w1 ⟨rfl, b1⟩
  have B1 : Hid (Below w.heap.size w w1) := Below.trans (by go_grown) (b1.mono (by go_size))
  clear b1
  unfold vaV
  go_wp2_with fail
  refine Calls.mono (EA.out _) ?_
  rintro e w2 ⟨rfl, b2⟩
  have B2 : Hid (Below w.heap.size w w2) := B1.out.trans (b2.mono B1.out.size)
  clear b2
  go_wp2_with fail
  refine Calls.mono (ckMust_no _ _) ?_
  rintro e w3 ⟨rfl, b3⟩
  have B3 : Hid (Below w.heap.size w w3) := B2.out.trans (b3.mono B2.out.size)
  clear b3
  unfold ckPan
  go_wp2_with fail
  exact ⟨rfl, rfl, B3.out⟩
theorem ckArray_any (p : Nat) (sa : Option Addr) (c : Nat) (l : List CkVa) (m : Int) (n : List UInt8) (w : World) (h : Sco w p sa c l m) : Calls Try.prog 49 #[.pointer (some ⟨p, 0, none⟩), .string ⟨n.toArray⟩] w fun e w' => e = ckEndU (ckAr l n m) ∧ Below w.heap.size w w' := by
  cases hn : ckNm l n m with
  | none =>
    have : ckAr l n m = some 40 := by unfold ckAr; rw [hn]
    rw [this]
    exact ckArray_no p sa c l m n w h hn
  | some x =>
    by_cases hs : 0 < x.sz
    · have : ckAr l n m = none := by unfold ckAr; rw [hn]; exact if_pos hs
      rw [this]
      exact ckArray_yes p sa c l m n w h x hn hs
    · have : ckAr l n m = some 41 := by unfold ckAr; rw [hn]; exact if_neg hs
      rw [this]
      exact ckArray_one p sa c l m n w h x hn hs
end Go.Proofs.Ytfpabjdhibmefaa

namespace Go.Proofs.Ytfpabjdhibmefaa
open Go.RowKit

def exV (k : Int) (n : List UInt8) (m : Int) (sa : Option Addr) (sn sc : Nat) : Value := .agg #[.int .i64 k, .string ⟨n.toArray⟩, .int .i64 m, .slice sa sn sc]
set_option maxRecDepth 100000 in
set_option maxHeartbeats 2000000 in
theorem ckTy_form (q : Value) (k : Int) (n : List UInt8) (m : Int) (sa : Option Addr) (sn sc : Nat) (w : World) (hb : ckBu k m sn = false) : Calls Try.prog 33 #[q, exV k n m sa sn sc] w fun e w' => e = ckEnd (.error 32) ∧ Below w.heap.size w w' := by
  have EB : Hid (∀ W, Calls Try.prog 47 #[.agg #[.int .i64 k, .string ⟨n.toArray⟩, .int .i64 m, .slice sa sn sc]] W fun e w' => e = .returned (.bool false) ∧ Below W.heap.size W w') := fun W => by have := ckBuilt_any k n m sa sn sc W; rw [hb] at this; exact this
  clear hb
  unfold exV
  go_enter Try.func33, Try.ntmps33
  go_wp2_with fail
  refine Calls.mono (EB.out _) ?_
  rintro e w1 ⟨rfl, b1⟩
  have B1 : Hid (Below w.heap.size w w1) := Below.trans (by go_grown) (b1.mono (by go_size))
  clear b1
  go_wp2_with fail
  refine Calls.mono (ckMust_no _ _) ?_
  rintro e w2 ⟨rfl, b2⟩
  have B2 : Hid (Below w.heap.size w w2) := B1.out.trans (b2.mono B1.out.size)
  clear b2
  unfold ckPan
  go_wp2_with fail
  exact ⟨rfl, rfl, B2.out⟩
set_option maxRecDepth 100000 in
set_option maxHeartbeats 2000000 in
theorem ckTy_int (q : Value) (n : List UInt8) (m : Int) (sa : Option Addr) (sn sc : Nat) (w : World) (hb : ckBu 1 m sn = true) : Calls Try.prog 33 #[q, exV 1 n m sa sn sc] w fun e w' => e = ckEnd (.ok 1) ∧ Below w.heap.size w w' := by
  have EB : Hid (∀ W, Calls Try.prog 47 #[.agg #[.int .i64 1, .string ⟨n.toArray⟩, .int .i64 m, .slice sa sn sc]] W fun e w' => e = .returned (.bool true) ∧ Below W.heap.size W w') := fun W => by have := ckBuilt_any 1 n m sa sn sc W; rw [hb] at this; exact this
  clear hb
  unfold exV
  go_enter Try.func33, Try.ntmps33
  go_wp2_with fail
  refine Calls.mono (EB.out _) ?_
  rintro e w1 ⟨rfl, b1⟩
  have B1 : Hid (Below w.heap.size w w1) := Below.trans (by go_grown) (b1.mono (by go_size))
  have z1 : w.heap.size < w1.heap.size := Nat.lt_of_lt_of_le (by simp) b1.size
  have d0 : w1.cell? ⟨w.heap.size, 0, none⟩ = some (.int .i64 1) := (b1.cell (p := ⟨w.heap.size, 0, none⟩) (by simp)).trans (by simp [go_sem])
  have d1 : w1.cell? ⟨w.heap.size, 1, none⟩ = some (.string ⟨n.toArray⟩) := (b1.cell (p := ⟨w.heap.size, 1, none⟩) (by simp)).trans (by simp [go_sem])
  have d3 : w1.cell? ⟨w.heap.size, 3, none⟩ = some (.slice sa sn sc) := (b1.cell (p := ⟨w.heap.size, 3, none⟩) (by simp)).trans (by simp [go_sem])
  clear b1
  go_wp2_with fail
  refine Calls.mono (ckMust_yes _ _) ?_
  rintro e w2 ⟨rfl, rfl⟩
  go_wp2_with fail
  go_ret
  exact ⟨rfl, B1.out⟩
set_option maxRecDepth 100000 in
set_option maxHeartbeats 2000000 in
theorem ckTy_bool (q : Value) (n : List UInt8) (m : Int) (sa : Option Addr) (sn sc : Nat) (w : World) (hb : ckBu 2 m sn = true) : Calls Try.prog 33 #[q, exV 2 n m sa sn sc] w fun e w' => e = ckEnd (.ok 2) ∧ Below w.heap.size w w' := by
  have EB : Hid (∀ W, Calls Try.prog 47 #[.agg #[.int .i64 2, .string ⟨n.toArray⟩, .int .i64 m, .slice sa sn sc]] W fun e w' => e = .returned (.bool true) ∧ Below W.heap.size W w') := fun W => by have := ckBuilt_any 2 n m sa sn sc W; rw [hb] at this; exact this
  clear hb
  unfold exV
  go_enter Try.func33, Try.ntmps33
  go_wp2_with fail
  refine Calls.mono (EB.out _) ?_
  rintro e w1 ⟨rfl, b1⟩
  have B1 : Hid (Below w.heap.size w w1) := Below.trans (by go_grown) (b1.mono (by go_size))
  have z1 : w.heap.size < w1.heap.size := Nat.lt_of_lt_of_le (by simp) b1.size
  have d0 : w1.cell? ⟨w.heap.size, 0, none⟩ = some (.int .i64 2) := (b1.cell (p := ⟨w.heap.size, 0, none⟩) (by simp)).trans (by simp [go_sem])
  have d1 : w1.cell? ⟨w.heap.size, 1, none⟩ = some (.string ⟨n.toArray⟩) := (b1.cell (p := ⟨w.heap.size, 1, none⟩) (by simp)).trans (by simp [go_sem])
  have d3 : w1.cell? ⟨w.heap.size, 3, none⟩ = some (.slice sa sn sc) := (b1.cell (p := ⟨w.heap.size, 3, none⟩) (by simp)).trans (by simp [go_sem])
  clear b1
  go_wp2_with fail
  refine Calls.mono (ckMust_yes _ _) ?_
  rintro e w2 ⟨rfl, rfl⟩
  go_wp2_with fail
  go_ret
  exact ⟨rfl, B1.out⟩
set_option maxRecDepth 100000 in
set_option maxHeartbeats 2000000 in
theorem ckTy_var (p : Nat) (va : Option Addr) (vc : Nat) (l : List CkVa) (mk : Int) (n : List UInt8) (m : Int) (sa : Option Addr) (sn sc : Nat) (w : World) (h : Sco w p va vc l mk) (hb : ckBu 3 m sn = true) (r : Except Int Int) (hr : ckSi l n mk = r) : Calls Try.prog 33 #[.pointer (some ⟨p, 0, none⟩), exV 3 n m sa sn sc] w fun e w' => e = ckEnd r ∧ Below w.heap.size w w' := by
  have ES : Hid (∀ W, Below w.heap.size w W → Calls Try.prog 48 #[.pointer (some ⟨p, 0, none⟩), .string ⟨n.toArray⟩] W fun e w' => e = ckEnd r ∧ Below W.heap.size W w') := fun W hW => by have := ckSingle_any p va vc l mk n W (h.later hW); rw [hr] at this; exact this
  have EB : Hid (∀ W, Calls Try.prog 47 #[.agg #[.int .i64 3, .string ⟨n.toArray⟩, .int .i64 m, .slice sa sn sc]] W fun e w' => e = .returned (.bool true) ∧ Below W.heap.size W w') := fun W => by have := ckBuilt_any 3 n m sa sn sc W; rw [hb] at this; exact this
  clear hb hr h
  unfold exV
  go_enter Try.func33, Try.ntmps33
  go_wp2_with fail
  refine Calls.mono (EB.out _) ?_
  rintro e w1 ⟨rfl, b1⟩
  have B1 : Hid (Below w.heap.size w w1) := Below.trans (by go_grown) (b1.mono (by go_size))
  have z1 : w.heap.size < w1.heap.size := Nat.lt_of_lt_of_le (by simp) b1.size
  have d0 : w1.cell? ⟨w.heap.size, 0, none⟩ = some (.int .i64 3) := (b1.cell (p := ⟨w.heap.size, 0, none⟩) (by simp)).trans (by simp [go_sem])
  have d1 : w1.cell? ⟨w.heap.size, 1, none⟩ = some (.string ⟨n.toArray⟩) := (b1.cell (p := ⟨w.heap.size, 1, none⟩) (by simp)).trans (by simp [go_sem])
  have d3 : w1.cell? ⟨w.heap.size, 3, none⟩ = some (.slice sa sn sc) := (b1.cell (p := ⟨w.heap.size, 3, none⟩) (by simp)).trans (by simp [go_sem])
  clear b1
  go_wp2_with fail
  refine Calls.mono (ckMust_yes _ _) ?_
  rintro e w2 ⟨rfl, rfl⟩
  go_wp2_with fail
  refine Calls.mono (ES.out _ B1.out) ?_
  rintro e w3 ⟨rfl, b3⟩
  have B3 : Hid (Below w.heap.size w w3) := B1.out.trans (b3.mono B1.out.size)
  clear b3
  cases r with
  | ok t =>
    dsimp only [ckEnd]
    go_wp2_with fail
    go_ret
    exact ⟨rfl, B3.out⟩
  | error er =>
    dsimp only [ckEnd, ckPan]
    go_wp2_with fail
    exact ⟨rfl, rfl, B3.out⟩
end Go.Proofs.Ytfpabjdhibmefaa
