/- Layer 9: slices.Clone: a row of its own. -/
/- CodeMore: codes in memory, cell by cell, and an owned row of codes. -/
/- Layer 9: codes and numbers within blocks; copied: codes in memory of their own. -/
/- Layer 9: the elder world plays no part in what a machine does; a machine with all that belongs to it. -/
/- Layer 9: New: a machine that begins. -/
import Derived.Test.YtkjkiknpgggadaaDoorSWordsPl
import Derived.Test.YtkjkiknpgggadaaDoorSVmM
import Derived.Deep.DeepAppendWide
import Derived.Test.YtkjkiknpgggadaaDoorSCdA
import Derived.Test.YtkjkiknpgggadaaDoorSVmG
import Derived.Deep.LoopGhost
import Derived.Test.YtkjkiknpgggadaaDoorSVmSt
namespace Go.Proofs.YtkjkiknpgggadaaDoor
open Go.RowKit
set_option linter.unusedVariables false
set_option linter.unusedSimpArgs false

theorem cl_below {w w8 : World} {o : Obj} (g8 : (w.alloc o).grownBy w8 (some w.heap.size)) : Below w.heap.size w w8 :=
  ⟨g8.os, g8.tape, g8.output, Nat.le_trans (by simp) g8.size, fun k hk => (g8.block k (by simp; omega) (fun e => by cases e; omega)).trans (by rw [((Below.refl w.heap.size w).alloc (Nat.le_refl _) o).block k hk])⟩
theorem infNu : (Tryd.prog.info? 2).map (fun i => (i.zero, i.size, i.bytes)) = some (some (.int .i64 0), 1, 8) := by kernel_rfl
set_option maxRecDepth 100000 in
set_option maxHeartbeats 4000000 in
theorem cloneNu (w : World) (a : Option Addr) (n c : Nat) (xs : List Value) (ha : a = none → n = 0) (hl : xs.length = n * 1) (hx : ∀ ad, a = some ad → ∀ j u, xs[j]? = some u → w.cell? (ad.add j) = some u) (h1 : ∀ u ∈ xs, u.oneCell' = true) (hb : n ≤ 1000000000000) :
    Calls Tryd.prog 42 #[.slice a n c] w fun e w' => ∃ v', e = .returned v' ∧ w'.ownsRow w.heap.size 2 1 v' n xs ∧ Below w.heap.size w w' := by
  obtain ⟨i0, hi, hz0, hz1, hz2⟩ := info_parts infNu
  cases a with
  | none =>
    obtain rfl := ha rfl
    obtain rfl : xs = [] := List.length_eq_zero_iff.1 (by simpa using hl)
    have FIN : Hid (∃ v', Ending.returned (.slice none 0 0) = .returned v' ∧ w.ownsRow w.heap.size 2 1 v' 0 [] ∧ Below w.heap.size w w) := ⟨_, rfl, World.ownsRow_nil _ _ _ _, Below.refl _ _⟩
    have hq : Sem.run Tryd.prog (binOp BinOp.eql 23 (.slice none 0 c) (.slice none 0 0)) w = .ok (.bool true) w := by kernel_rfl
    clear hx h1 hl
    go_enter Tryd.func42, Tryd.ntmps42
    go_wp2_with fail
    go_ret
    exact FIN.out
  | some ad =>
    have HX : Hid (∀ j u, xs[j]? = some u → w.cell? (ad.add j) = some u) := hx ad rfl
    have HL : Hid (xs.length = n * 1) := hl
    have H1 : Hid (∀ u ∈ xs, u.oneCell' = true) := h1
    have H63 : Hid (0 + n ≤ maxLen ∧ ((0 + n) + (0 + n) / 4 + 192) * 8 ≤ 281474976710656) := by unfold Hid maxLen; omega
    have HAD : Hid (∀ (W : World) (o : Obj) (j : Nat) (u : Value), W.cell? (ad.add j) = some u → (W.alloc o).cell? (ad.add j) = some u) := fun W o j u h => by
      have hb : (ad.add j).block < W.heap.size := by
        unfold World.cell? at h
        split at h
        · rename_i e
          exact (Array.getElem?_eq_some_iff.1 e).1
        · cases h
      exact (((Below.refl W.heap.size W).alloc (Nat.le_refl _) o).cell (p := ad.add j) hb).trans h
    clear hx hl h1 ha
    obtain ⟨ab, ao, asp⟩ := ad
    have hq : Sem.run Tryd.prog (binOp BinOp.eql 23 (.slice (some ⟨ab, ao, asp⟩) n c) (.slice none 0 0)) w = .ok (.bool false) w := by kernel_rfl
    go_enter Tryd.func42, Tryd.ntmps42
    go_wp2_with (at_builtin; refine wpList_append_own_wide _ rfl _ _ 23 rfl w.heap.size 2 i0 (.int .i64 0) 1 8 Tryd.underlying23 hi hz0 hz1 hz2 rfl (by decide) (.slice (some ⟨w.heap.size, 0, none⟩) 0 0) 0 [] rfl (World.ownsRow_lit w #[] 0 (Nat.le_refl _) (Nat.zero_le _) rfl) ⟨ab, ao, asp⟩ n c xs rfl HL.out (fun j u h => HAD.out _ _ j u (HX.out j u h)) H1.out H63.out.1 H63.out.2 (by simp) ?_)
    intro v8 w8 h8 g8 o8
    have FIN : Hid (∃ v', Ending.returned v8 = .returned v' ∧ w8.ownsRow w.heap.size 2 1 v' n xs ∧ Below w.heap.size w w8) := ⟨_, rfl, h8, cl_below g8⟩
    obtain ⟨va8, cap8, hv8⟩ := own_shp h8
    subst hv8
    clear h8 g8 o8
    go_wp2_with fail
    go_ret
    exact FIN.out
theorem infCo : (Tryd.prog.info? 41).map (fun i => (i.zero, i.size, i.bytes)) = some (some (.agg #[.slice none 0 0, .int .i64 0, .int .i64 0, .bool false]), 4, 48) := by kernel_rfl
set_option maxRecDepth 100000 in
set_option maxHeartbeats 4000000 in
theorem cloneCo (w : World) (a : Option Addr) (n c : Nat) (xs : List Value) (ha : a = none → n = 0) (hl : xs.length = n * 4) (hx : ∀ ad, a = some ad → ∀ j u, xs[j]? = some u → w.cell? (ad.add j) = some u) (h1 : ∀ u ∈ xs, u.oneCell' = true) (hb : n ≤ 1000000000000) :
    Calls Tryd.prog 58 #[.slice a n c] w fun e w' => ∃ v', e = .returned v' ∧ w'.ownsRow w.heap.size 41 4 v' n xs ∧ Below w.heap.size w w' := by
  obtain ⟨i0, hi, hz0, hz1, hz2⟩ := info_parts infCo
  cases a with
  | none =>
    obtain rfl := ha rfl
    obtain rfl : xs = [] := List.length_eq_zero_iff.1 (by simpa using hl)
    have FIN : Hid (∃ v', Ending.returned (.slice none 0 0) = .returned v' ∧ w.ownsRow w.heap.size 41 4 v' 0 [] ∧ Below w.heap.size w w) := ⟨_, rfl, World.ownsRow_nil _ _ _ _, Below.refl _ _⟩
    have hq : Sem.run Tryd.prog (binOp BinOp.eql 22 (.slice none 0 c) (.slice none 0 0)) w = .ok (.bool true) w := by kernel_rfl
    clear hx h1 hl
    go_enter Tryd.func58, Tryd.ntmps58
    go_wp2_with fail
    go_ret
    exact FIN.out
  | some ad =>
    have HX : Hid (∀ j u, xs[j]? = some u → w.cell? (ad.add j) = some u) := hx ad rfl
    have HL : Hid (xs.length = n * 4) := hl
    have H1 : Hid (∀ u ∈ xs, u.oneCell' = true) := h1
    have H63 : Hid (0 + n ≤ maxLen ∧ ((0 + n) + (0 + n) / 4 + 192) * 48 ≤ 281474976710656) := by unfold Hid maxLen; omega
    have HAD : Hid (∀ (W : World) (o : Obj) (j : Nat) (u : Value), W.cell? (ad.add j) = some u → (W.alloc o).cell? (ad.add j) = some u) := fun W o j u h => by
      have hb : (ad.add j).block < W.heap.size := by
        unfold World.cell? at h
        split at h
        · rename_i e
          exact (Array.getElem?_eq_some_iff.1 e).1
        · cases h
      exact (((Below.refl W.heap.size W).alloc (Nat.le_refl _) o).cell (p := ad.add j) hb).trans h
    clear hx hl h1 ha
    obtain ⟨ab, ao, asp⟩ := ad
    have hq : Sem.run Tryd.prog (binOp BinOp.eql 22 (.slice (some ⟨ab, ao, asp⟩) n c) (.slice none 0 0)) w = .ok (.bool false) w := by kernel_rfl
    go_enter Tryd.func58, Tryd.ntmps58
    go_wp2_with (at_builtin; refine wpList_append_own_wide _ rfl _ _ 22 rfl w.heap.size 41 i0 (.agg #[.slice none 0 0, .int .i64 0, .int .i64 0, .bool false]) 4 48 Tryd.underlying22 hi hz0 hz1 hz2 rfl (by decide) (.slice (some ⟨w.heap.size, 0, none⟩) 0 0) 0 [] rfl (World.ownsRow_lit w #[] 0 (Nat.le_refl _) (Nat.zero_le _) rfl) ⟨ab, ao, asp⟩ n c xs rfl HL.out (fun j u h => HAD.out _ _ j u (HX.out j u h)) H1.out H63.out.1 H63.out.2 (by simp) ?_)
    intro v8 w8 h8 g8 o8
    have FIN : Hid (∃ v', Ending.returned v8 = .returned v' ∧ w8.ownsRow w.heap.size 41 4 v' n xs ∧ Below w.heap.size w w8) := ⟨_, rfl, h8, cl_below g8⟩
    obtain ⟨va8, cap8, hv8⟩ := own_shp h8
    subst hv8
    clear h8 g8 o8
    go_wp2_with fail
    go_ret
    exact FIN.out
theorem infIn : (Tryd.prog.info? 47).map (fun i => (i.zero, i.size, i.bytes)) = some (some (.agg #[.int .i64 0, .int .i64 0, .int .i64 0]), 3, 24) := by kernel_rfl
set_option maxRecDepth 100000 in
set_option maxHeartbeats 4000000 in
theorem cloneIn (w : World) (a : Option Addr) (n c : Nat) (xs : List Value) (ha : a = none → n = 0) (hl : xs.length = n * 3) (hx : ∀ ad, a = some ad → ∀ j u, xs[j]? = some u → w.cell? (ad.add j) = some u) (h1 : ∀ u ∈ xs, u.oneCell' = true) (hb : n ≤ 1000000000000) :
    Calls Tryd.prog 59 #[.slice a n c] w fun e w' => ∃ v', e = .returned v' ∧ w'.ownsRow w.heap.size 47 3 v' n xs ∧ Below w.heap.size w w' := by
  obtain ⟨i0, hi, hz0, hz1, hz2⟩ := info_parts infIn
  cases a with
  | none =>
    obtain rfl := ha rfl
    obtain rfl : xs = [] := List.length_eq_zero_iff.1 (by simpa using hl)
    have FIN : Hid (∃ v', Ending.returned (.slice none 0 0) = .returned v' ∧ w.ownsRow w.heap.size 47 3 v' 0 [] ∧ Below w.heap.size w w) := ⟨_, rfl, World.ownsRow_nil _ _ _ _, Below.refl _ _⟩
    have hq : Sem.run Tryd.prog (binOp BinOp.eql 39 (.slice none 0 c) (.slice none 0 0)) w = .ok (.bool true) w := by kernel_rfl
    clear hx h1 hl
    go_enter Tryd.func59, Tryd.ntmps59
    go_wp2_with fail
    go_ret
    exact FIN.out
  | some ad =>
    have HX : Hid (∀ j u, xs[j]? = some u → w.cell? (ad.add j) = some u) := hx ad rfl
    have HL : Hid (xs.length = n * 3) := hl
    have H1 : Hid (∀ u ∈ xs, u.oneCell' = true) := h1
    have H63 : Hid (0 + n ≤ maxLen ∧ ((0 + n) + (0 + n) / 4 + 192) * 24 ≤ 281474976710656) := by unfold Hid maxLen; omega
    have HAD : Hid (∀ (W : World) (o : Obj) (j : Nat) (u : Value), W.cell? (ad.add j) = some u → (W.alloc o).cell? (ad.add j) = some u) := fun W o j u h => by
      have hb : (ad.add j).block < W.heap.size := by
        unfold World.cell? at h
        split at h
        · rename_i e
          exact (Array.getElem?_eq_some_iff.1 e).1
        · cases h
      exact (((Below.refl W.heap.size W).alloc (Nat.le_refl _) o).cell (p := ad.add j) hb).trans h
    clear hx hl h1 ha
    obtain ⟨ab, ao, asp⟩ := ad
    have hq : Sem.run Tryd.prog (binOp BinOp.eql 39 (.slice (some ⟨ab, ao, asp⟩) n c) (.slice none 0 0)) w = .ok (.bool false) w := by kernel_rfl
    go_enter Tryd.func59, Tryd.ntmps59
    go_wp2_with (at_builtin; refine wpList_append_own_wide _ rfl _ _ 39 rfl w.heap.size 47 i0 (.agg #[.int .i64 0, .int .i64 0, .int .i64 0]) 3 24 Tryd.underlying39 hi hz0 hz1 hz2 rfl (by decide) (.slice (some ⟨w.heap.size, 0, none⟩) 0 0) 0 [] rfl (World.ownsRow_lit w #[] 0 (Nat.le_refl _) (Nat.zero_le _) rfl) ⟨ab, ao, asp⟩ n c xs rfl HL.out (fun j u h => HAD.out _ _ j u (HX.out j u h)) H1.out H63.out.1 H63.out.2 (by simp) ?_)
    intro v8 w8 h8 g8 o8
    have FIN : Hid (∃ v', Ending.returned v8 = .returned v' ∧ w8.ownsRow w.heap.size 47 3 v' n xs ∧ Below w.heap.size w w8) := ⟨_, rfl, h8, cl_below g8⟩
    obtain ⟨va8, cap8, hv8⟩ := own_shp h8
    subst hv8
    clear h8 g8 o8
    go_wp2_with fail
    go_ret
    exact FIN.out
theorem infEv : (Tryd.prog.info? 50).map (fun i => (i.zero, i.size, i.bytes)) = some (some (.agg #[.int .i64 0, .int .i64 0]), 2, 16) := by kernel_rfl
set_option maxRecDepth 100000 in
set_option maxHeartbeats 4000000 in
theorem cloneEv (w : World) (a : Option Addr) (n c : Nat) (xs : List Value) (ha : a = none → n = 0) (hl : xs.length = n * 2) (hx : ∀ ad, a = some ad → ∀ j u, xs[j]? = some u → w.cell? (ad.add j) = some u) (h1 : ∀ u ∈ xs, u.oneCell' = true) (hb : n ≤ 1000000000000) :
    Calls Tryd.prog 41 #[.slice a n c] w fun e w' => ∃ v', e = .returned v' ∧ w'.ownsRow w.heap.size 50 2 v' n xs ∧ Below w.heap.size w w' := by
  obtain ⟨i0, hi, hz0, hz1, hz2⟩ := info_parts infEv
  cases a with
  | none =>
    obtain rfl := ha rfl
    obtain rfl : xs = [] := List.length_eq_zero_iff.1 (by simpa using hl)
    have FIN : Hid (∃ v', Ending.returned (.slice none 0 0) = .returned v' ∧ w.ownsRow w.heap.size 50 2 v' 0 [] ∧ Below w.heap.size w w) := ⟨_, rfl, World.ownsRow_nil _ _ _ _, Below.refl _ _⟩
    have hq : Sem.run Tryd.prog (binOp BinOp.eql 33 (.slice none 0 c) (.slice none 0 0)) w = .ok (.bool true) w := by kernel_rfl
    clear hx h1 hl
    go_enter Tryd.func41, Tryd.ntmps41
    go_wp2_with fail
    go_ret
    exact FIN.out
  | some ad =>
    have HX : Hid (∀ j u, xs[j]? = some u → w.cell? (ad.add j) = some u) := hx ad rfl
    have HL : Hid (xs.length = n * 2) := hl
    have H1 : Hid (∀ u ∈ xs, u.oneCell' = true) := h1
    have H63 : Hid (0 + n ≤ maxLen ∧ ((0 + n) + (0 + n) / 4 + 192) * 16 ≤ 281474976710656) := by unfold Hid maxLen; omega
    have HAD : Hid (∀ (W : World) (o : Obj) (j : Nat) (u : Value), W.cell? (ad.add j) = some u → (W.alloc o).cell? (ad.add j) = some u) := fun W o j u h => by
      have hb : (ad.add j).block < W.heap.size := by
        unfold World.cell? at h
        split at h
        · rename_i e
          exact (Array.getElem?_eq_some_iff.1 e).1
        · cases h
      exact (((Below.refl W.heap.size W).alloc (Nat.le_refl _) o).cell (p := ad.add j) hb).trans h
    clear hx hl h1 ha
    obtain ⟨ab, ao, asp⟩ := ad
    have hq : Sem.run Tryd.prog (binOp BinOp.eql 33 (.slice (some ⟨ab, ao, asp⟩) n c) (.slice none 0 0)) w = .ok (.bool false) w := by kernel_rfl
    go_enter Tryd.func41, Tryd.ntmps41
    go_wp2_with (at_builtin; refine wpList_append_own_wide _ rfl _ _ 33 rfl w.heap.size 50 i0 (.agg #[.int .i64 0, .int .i64 0]) 2 16 Tryd.underlying33 hi hz0 hz1 hz2 rfl (by decide) (.slice (some ⟨w.heap.size, 0, none⟩) 0 0) 0 [] rfl (World.ownsRow_lit w #[] 0 (Nat.le_refl _) (Nat.zero_le _) rfl) ⟨ab, ao, asp⟩ n c xs rfl HL.out (fun j u h => HAD.out _ _ j u (HX.out j u h)) H1.out H63.out.1 H63.out.2 (by simp) ?_)
    intro v8 w8 h8 g8 o8
    have FIN : Hid (∃ v', Ending.returned v8 = .returned v' ∧ w8.ownsRow w.heap.size 50 2 v' n xs ∧ Below w.heap.size w w8) := ⟨_, rfl, h8, cl_below g8⟩
    obtain ⟨va8, cap8, hv8⟩ := own_shp h8
    subst hv8
    clear h8 g8 o8
    go_wp2_with fail
    go_ret
    exact FIN.out
end Go.Proofs.YtkjkiknpgggadaaDoor

namespace Go.Proofs.YtkjkiknpgggadaaDoor
open Go.RowKit
set_option linter.unusedVariables false

theorem adM (g o n : Nat) : (⟨g, o, none⟩ : Addr).add n = ⟨g, o + n, none⟩ := by simp [Addr.add]
structure Lc where
  ia : Option Addr
  ic : Nat
  c : Cd.Co
def Lc.cs (p : Lc) : List Value := [.slice p.ia p.c.ins.length p.ic, .int .i64 p.c.cells, .int .i64 p.c.params, .bool p.c.ans]
def LcS (ps : List Lc) : List Value := ps.flatMap Lc.cs
theorem LcS_len : ∀ ps : List Lc, (LcS ps).length = ps.length * 4
  | [] => rfl
  | p :: ps => by
    have := LcS_len ps
    unfold LcS at this ⊢
    rw [List.flatMap_cons, List.length_append, this, List.length_cons]
    show 4 + _ = _
    omega
theorem LcS_one (ps : List Lc) : ∀ u ∈ LcS ps, u.oneCell' = true := by
  intro u hu
  obtain ⟨p, _, hp⟩ := List.mem_flatMap.1 hu
  unfold Lc.cs at hp
  simp only [List.mem_cons, List.not_mem_nil, or_false] at hp
  rcases hp with rfl | rfl | rfl | rfl <;> rfl
theorem LcS_get : ∀ (ps : List Lc) (j : Nat) (p : Lc), ps[j]? = some p → (LcS ps)[j * 4]? = some (.slice p.ia p.c.ins.length p.ic) ∧ (LcS ps)[j * 4 + 1]? = some (.int .i64 p.c.cells) ∧ (LcS ps)[j * 4 + 2]? = some (.int .i64 p.c.params) ∧ (LcS ps)[j * 4 + 3]? = some (.bool p.c.ans)
  | [], j, p, h => by simp at h
  | q :: ps, 0, p, h => by
    simp at h
    subst h
    exact ⟨rfl, rfl, rfl, rfl⟩
  | q :: ps, j + 1, p, h => by
    have ih := LcS_get ps j p (by simpa using h)
    have e : ∀ k, (LcS (q :: ps))[(j + 1) * 4 + k]? = (LcS ps)[j * 4 + k]? := fun k => by
      unfold LcS
      rw [List.flatMap_cons, List.getElem?_append_right (by show 4 ≤ _; omega)]
      congr 1
      show _ - 4 = _
      omega
    exact ⟨(e 0).trans ih.1, (e 1).trans ih.2.1, (e 2).trans ih.2.2.1, (e 3).trans ih.2.2.2⟩
theorem LcS_app (ps qs : List Lc) : LcS (ps ++ qs) = LcS ps ++ LcS qs := List.flatMap_append
structure LcM (B : Nat) (w : World) (a : Addr) (l : List Cd.Co) (ps : List Lc) : Prop where
  eq : ps.map Lc.c = l
  get : ∀ j u, (LcS ps)[j]? = some u → w.cell? (a.add j) = some u
  hi : ∀ p ∈ ps, InS B w p.ia p.c.ins ∧ p.c.ins.length ≤ p.ic
theorem lists_of {α β : Type} {R : Nat → α → β → Prop} : ∀ (l : List α) (k : Nat), (∀ j c, l[j]? = some c → ∃ y, R (k + j) c y) → ∃ ys : List β, ys.length = l.length ∧ ∀ j c y, l[j]? = some c → ys[j]? = some y → R (k + j) c y
  | [], k, _ => ⟨[], rfl, fun j c y h => by simp at h⟩
  | c :: l, k, h => by
    obtain ⟨y, hy⟩ := h 0 c rfl
    obtain ⟨ys, e, hs⟩ := lists_of l (k + 1) fun j d hj => by
      obtain ⟨z, hz⟩ := h (j + 1) d (by simpa using hj)
      exact ⟨z, by rw [Nat.add_assoc, Nat.add_comm 1 j]; exact hz⟩
    refine ⟨y :: ys, by simp [e], fun j d z hd hz => ?_⟩
    match j with
    | 0 => simp at hd hz; subst hd; subst hz; exact hy
    | j + 1 =>
      have := hs j d z (by simpa using hd) (by simpa using hz)
      rw [Nat.add_assoc, Nat.add_comm 1 j] at this
      exact this
theorem CoS.lcm {B : Nat} {w : World} {la : Option Addr} {l : List Cd.Co} (h : CoS B w la l) (h0 : 0 < l.length) : ∃ g o ps, la = some ⟨g, o, none⟩ ∧ g < B ∧ LcM B w ⟨g, o, none⟩ l ps := by
  obtain ⟨g, o, rfl, hg, hc⟩ := h.2 h0
  obtain ⟨ys, e, hs⟩ := lists_of (R := fun j c (y : Option Addr × Nat) => CoAt B w g (o + j * 4) c y.1 y.2) l 0 fun j c hj => by
    obtain ⟨ia, ic, q⟩ := hc j c hj
    exact ⟨(ia, ic), by rw [Nat.zero_add]; exact q⟩
  refine ⟨g, o, (l.zip ys).map fun p => ⟨p.2.1, p.2.2, p.1⟩, rfl, hg, ?_, fun j u hu => ?_, fun p hp => ?_⟩
  · rw [List.map_map]
    show (l.zip ys).map (fun p => p.1) = l
    rw [List.map_fst_zip]
    omega
  · obtain ⟨k, r, rfl, h4⟩ : ∃ k r, j = k * 4 + r ∧ r < 4 := ⟨j / 4, j % 4, by omega, Nat.mod_lt _ (by decide)⟩
    have hj : k < l.length := by
      have := (List.getElem?_eq_some_iff.1 hu).1
      rw [LcS_len, List.length_map, List.length_zip, e, Nat.min_self] at this
      omega
    obtain ⟨c, hc1⟩ : ∃ c, l[k]? = some c := ⟨_, List.getElem?_eq_getElem hj⟩
    obtain ⟨y, hy⟩ : ∃ y, ys[k]? = some y := ⟨_, List.getElem?_eq_getElem (by omega)⟩
    have hp : ((l.zip ys).map fun p => (⟨p.2.1, p.2.2, p.1⟩ : Lc))[k]? = some ⟨y.1, y.2, c⟩ := by
      rw [List.getElem?_map, (List.getElem?_zip_eq_some (z := (c, y))).2 ⟨hc1, hy⟩]
      rfl
    have q := hs k _ _ hc1 hy
    rw [Nat.zero_add] at q
    obtain ⟨a0, a1, a2, a3⟩ := LcS_get _ _ _ hp
    rw [adM]
    match r, h4 with
    | 0, _ => rw [Nat.add_zero] at hu; rw [a0] at hu; rw [Nat.add_zero, ← hu]; exact q.c0
    | 1, _ => rw [a1] at hu; rw [← hu, ← Nat.add_assoc]; exact q.c1
    | 2, _ => rw [a2] at hu; rw [← hu, ← Nat.add_assoc]; exact q.c2
    | 3, _ => rw [a3] at hu; rw [← hu, ← Nat.add_assoc]; exact q.c3
  · obtain ⟨x, hx, rfl⟩ := List.mem_map.1 hp
    obtain ⟨j, hj⟩ := List.getElem?_of_mem hx
    have hj1 : l[j]? = some x.1 := by
      have := (List.getElem?_zip_eq_some.1 hj).1
      exact this
    have hj2 : ys[j]? = some x.2 := (List.getElem?_zip_eq_some.1 hj).2
    have q := hs j _ _ hj1 hj2
    exact ⟨q.hi, q.hc⟩
end Go.Proofs.YtkjkiknpgggadaaDoor

namespace Go.Proofs.YtkjkiknpgggadaaDoor
open Go.RowKit
set_option linter.unusedVariables false
set_option linter.unusedSimpArgs false

def InX (l : List Cd.In) : List Value := l.flatMap fun i => [.int .i64 i.op, .int .i64 i.n, .int .i64 i.m]
theorem InX_len : ∀ l : List Cd.In, (InX l).length = l.length * 3
  | [] => rfl
  | p :: ps => by
    have := InX_len ps
    simp only [InX, List.flatMap_cons, List.length_append, List.length_cons, List.length_nil] at this ⊢
    omega
theorem InX_one (ps : List Cd.In) : ∀ u ∈ InX ps, u.oneCell' = true := by
  intro u hu
  obtain ⟨p, _, hp⟩ := List.mem_flatMap.1 hu
  simp only [List.mem_cons, List.not_mem_nil, or_false] at hp
  rcases hp with rfl | rfl | rfl <;> rfl
theorem InX_get : ∀ (ps : List Cd.In) (j : Nat) (p : Cd.In), ps[j]? = some p → (InX ps)[j * 3]? = some (.int .i64 p.op) ∧ (InX ps)[j * 3 + 1]? = some (.int .i64 p.n) ∧ (InX ps)[j * 3 + 2]? = some (.int .i64 p.m)
  | [], j, p, h => by simp at h
  | q :: ps, 0, p, h => by
    simp at h
    subst h
    exact ⟨rfl, rfl, rfl⟩
  | q :: ps, j + 1, p, h => by
    have ih := InX_get ps j p (by simpa using h)
    have e : ∀ k, (InX (q :: ps))[(j + 1) * 3 + k]? = (InX ps)[j * 3 + k]? := fun k => by
      unfold InX
      rw [List.flatMap_cons, List.getElem?_append_right (by show 3 ≤ _; omega)]
      congr 1
      show _ - 3 = _
      omega
    exact ⟨(e 0).trans ih.1, (e 1).trans ih.2.1, (e 2).trans ih.2.2⟩
theorem InX_cell {w : World} {g o : Nat} {l : List Cd.In} (h : ∀ j i, l[j]? = some i → InAt w g (o + j * 3) i) : ∀ j u, (InX l)[j]? = some u → w.cell? ((⟨g, o, none⟩ : Addr).add j) = some u := fun j u hu => by
  obtain ⟨k, r, rfl, h3⟩ : ∃ k r, j = k * 3 + r ∧ r < 3 := ⟨j / 3, j % 3, by omega, Nat.mod_lt _ (by decide)⟩
  have hj : k < l.length := by
    have := (List.getElem?_eq_some_iff.1 hu).1
    rw [InX_len] at this
    omega
  have e := List.getElem?_eq_getElem hj
  have q := InX_get l k _ e
  have a := h k _ e
  rw [adM]
  match r, h3 with
  | 0, _ => rw [Nat.add_zero, q.1] at hu; cases hu; exact a.c0
  | 1, _ => rw [q.2.1] at hu; cases hu; exact a.c1
  | 2, _ => rw [q.2.2] at hu; cases hu; exact a.c2
theorem own_inW {w : World} {base n : Nat} {e : TypeId} {v : Value} {l : List Cd.In} (h : w.ownsRow base e 3 v n (InX l)) (hn : n = l.length) (hb : n ≤ 1000000000000000) : ∃ a cap, v = .slice a n cap ∧ n ≤ cap ∧ InW base w.heap.size w a l := by
  have hc := @World.ownsRow.cells _ _ _ _ _ _ _ h
  have hl := h.lt
  rcases h.2 with ⟨hv, h1⟩ | ⟨g, cap, cur, rfl, hbg, _, hcap, _⟩
  · exact ⟨none, 0, by rw [hv, h1], by omega, by omega, fun h0 => by omega⟩
  · refine ⟨_, cap, rfl, hcap, by omega, fun _ => ⟨g, 0, rfl, hbg, (hl g rfl).2, fun j i hj => ?_⟩⟩
    obtain ⟨a0, a1, a2⟩ := InX_get _ _ _ hj
    have get := fun j u hu => @hc g rfl j u hu
    refine ⟨?_, ?_, ?_⟩
    · have := get _ _ a0; rw [adM] at this; exact this
    · have := get _ _ a1; rw [adM] at this; rw [Nat.add_assoc]; exact this
    · have := get _ _ a2; rw [adM] at this; rw [Nat.add_assoc]; exact this
theorem own_nuW {w : World} {base n : Nat} {e : TypeId} {v : Value} {l : List Int} (h : w.ownsRow base e 1 v n (nC l)) (hn : n = l.length) : ∃ a cap, v = .slice a n cap ∧ n ≤ cap ∧ NuW base w.heap.size w a l := by
  have hc := @World.ownsRow.cells _ _ _ _ _ _ _ h
  have hl := h.lt
  rcases h.2 with ⟨hv, h1⟩ | ⟨g, cap, cur, rfl, hbg, _, hcap, _⟩
  · exact ⟨none, 0, by rw [hv, h1], by omega, fun h0 => by omega⟩
  · refine ⟨_, cap, rfl, hcap, fun _ => ⟨g, 0, rfl, hbg, (hl g rfl).2, fun j i hj => ?_⟩⟩
    have := @hc g rfl j (.int .i64 i) (by simp [nC, hj])
    rw [adM] at this
    exact this
theorem cloneIns (w : World) (ia : Option Addr) (ic : Nat) (l : List Cd.In) (h : InS w.heap.size w ia l) (hb : l.length ≤ 1000000) : Calls Tryd.prog 59 #[.slice ia l.length ic] w fun e w' => ∃ a' c', e = .returned (.slice a' l.length c') ∧ l.length ≤ c' ∧ InW w.heap.size w'.heap.size w' a' l ∧ Below w.heap.size w w' := by
  refine (cloneIn w ia l.length ic (InX l) (fun e => ?_) (InX_len l) (fun ad e => ?_) (InX_one l) (by omega)).mono fun e w' ⟨v', h1, h2, h3⟩ => ?_
  · rcases Nat.eq_zero_or_pos l.length with h0 | h0
    · exact h0
    · obtain ⟨g, o, e2, _⟩ := h.2 h0
      rw [e] at e2
      cases e2
  · rcases Nat.eq_zero_or_pos l.length with h0 | h0
    · have : l = [] := List.length_eq_zero_iff.1 h0
      subst this
      intro j u hu
      simp [InX] at hu
    · obtain ⟨g, o, e2, _, hc⟩ := h.2 h0
      rw [e] at e2
      cases e2
      exact InX_cell hc
  · obtain ⟨a, cap, e1, h4, h5⟩ := own_inW h2 rfl (by omega)
    exact ⟨a, cap, by rw [h1, e1], h4, h5, h3⟩
theorem nC_one (l : List Int) : ∀ u ∈ nC l, u.oneCell' = true := fun u hu => by
  simp only [nC, List.mem_map] at hu
  obtain ⟨x, _, rfl⟩ := hu
  rfl
theorem cloneNums (w : World) (ia : Option Addr) (ic : Nat) (l : List Int) (h : NuS w.heap.size w ia l) (hb : l.length ≤ 1000000) : Calls Tryd.prog 42 #[.slice ia l.length ic] w fun e w' => ∃ a' c', e = .returned (.slice a' l.length c') ∧ l.length ≤ c' ∧ NuW w.heap.size w'.heap.size w' a' l ∧ Below w.heap.size w w' := by
  refine (cloneNu w ia l.length ic (nC l) (fun e => ?_) (by simp [nC]) (fun ad e => ?_) (nC_one l) (by omega)).mono fun e w' ⟨v', h1, h2, h3⟩ => ?_
  · rcases Nat.eq_zero_or_pos l.length with h0 | h0
    · exact h0
    · obtain ⟨g, o, e2, _⟩ := h h0
      rw [e] at e2
      cases e2
  · rcases Nat.eq_zero_or_pos l.length with h0 | h0
    · have : l = [] := List.length_eq_zero_iff.1 h0
      subst this
      intro j u hu
      simp [nC] at hu
    · obtain ⟨g, o, e2, _, hc⟩ := h h0
      rw [e] at e2
      cases e2
      intro j u hu
      rw [adM]
      simp only [nC, List.getElem?_map, Option.map_eq_some_iff] at hu
      obtain ⟨x, hx, rfl⟩ := hu
      exact hc j x hx
  · obtain ⟨a, cap, e1, h4, h5⟩ := own_nuW h2 rfl
    exact ⟨a, cap, by rw [h1, e1], h4, h5, h3⟩
theorem LcS_set : ∀ (ps : List Lc) (k : Nat) (p : Lc) (a : Option Addr) (cap : Nat), ps[k]? = some p → (LcS ps).set (k * 4) (.slice a p.c.ins.length cap) = LcS (ps.set k ⟨a, cap, p.c⟩)
  | [], k, p, a, cap, h => by simp at h
  | q :: ps, 0, p, a, cap, h => by
    simp at h
    subst h
    rfl
  | q :: ps, k + 1, p, a, cap, h => by
    have ih := LcS_set ps k p a cap (by simpa using h)
    unfold LcS at ih ⊢
    rw [List.flatMap_cons, List.set_append_right _ _ (by show 4 ≤ _; omega), List.set_cons_succ, List.flatMap_cons, ← ih]
    congr 2
    show _ - 4 = _
    omega
theorem own_cell {w : World} {base n g cap sz : Nat} {e : TypeId} {xs : List Value} (h : w.ownsRow base e sz (.slice (some ⟨g, 0, none⟩) n cap) n xs) {j : Nat} (hj : j < n * sz) : ∃ u, w.cell? ⟨g, j, none⟩ = some u ∧ w.frozen? ⟨g, j, none⟩ = false := by
  rcases h.2 with ⟨e, _⟩ | ⟨g', cap', cur, e, hb, hh, h1, h2, h3, h4⟩
  · cases e
  · cases e
    have hl : j < cur.size := by rw [h3]; exact Nat.lt_of_lt_of_le hj (Nat.mul_le_mul_right _ h1)
    exact ⟨cur[j], by simp [World.cell?, hh, hl], by simp [World.frozen?, hh]⟩
theorem set_same {α : Type} : ∀ {l : List α} {k : Nat} {c : α}, l[k]? = some c → l.set k c = l
  | [], k, c, h => by simp at h
  | x :: l, 0, c, h => by simp at h; subst h; rfl
  | x :: l, k + 1, c, h => by rw [List.set_cons_succ, set_same (by simpa using h)]
structure CpI (w : World) (l : List Cd.Co) (g cap k : Nat) (qs : List Lc) (wr : World) : Prop where
  b : Below w.heap.size w wr
  eq : qs.map Lc.c = l
  row : wr.ownsRow w.heap.size 41 4 (.slice (some ⟨g, 0, none⟩) l.length cap) l.length (LcS qs)
  hi : ∀ j q, j < k → qs[j]? = some q → InW (g + 1) wr.heap.size wr q.ia q.c.ins ∧ q.c.ins.length ≤ q.ic
theorem CpI.bg {w : World} {l : List Cd.Co} {g cap k : Nat} {qs : List Lc} {wr : World} (h : CpI w l g cap k qs wr) : w.heap.size ≤ g ∧ g < wr.heap.size := h.row.lt g rfl
theorem CpI.step {w : World} {l : List Cd.Co} {g cap k : Nat} {qs : List Lc} {wr : World} (h : CpI w l g cap k qs wr) {W1 w2 : World} (b1 : Below wr.heap.size wr W1) (b2 : Below W1.heap.size W1 w2) {c : Cd.Co} (hc : l[k]? = some c) {a : Option Addr} {ic : Nat} (hi : InW W1.heap.size w2.heap.size w2 a c.ins) (hcap : c.ins.length ≤ ic) : CpI w l g cap (k + 1) (qs.set k ⟨a, ic, c⟩) (w2.setCell ⟨g, k * 4, none⟩ (.slice a c.ins.length ic)) := by
  have bg := h.bg
  have hk : k < l.length := (List.getElem?_eq_some_iff.1 hc).1
  have hb : Below wr.heap.size wr w2 := b1.trans (b2.mono b1.size)
  obtain ⟨q, hq, hqc⟩ : ∃ q, qs[k]? = some q ∧ q.c = c := by
    have := hc
    rw [← h.eq, List.getElem?_map] at this
    obtain ⟨p, hp, e⟩ := Option.map_eq_some_iff.1 this
    exact ⟨p, hp, e⟩
  have r2 := own_setc (own_lat h.row hb) (i := k * 4) (by omega) (.slice a c.ins.length ic)
  have e1 := LcS_set qs k q a ic hq
  rw [hqc] at e1
  rw [e1] at r2
  have sz : (w2.setCell ⟨g, k * 4, none⟩ (.slice a c.ins.length ic)).heap.size = w2.heap.size := by simp
  refine ⟨(h.b.trans (hb.mono h.b.size)).trans ⟨rfl, rfl, rfl, by simp, fun j hj => heap_setCell_other _ _ j _ (by simp; omega)⟩, ?_, r2, fun j p hj hp => ?_⟩
  · rw [List.map_set, h.eq]
    exact set_same hc
  · have kp : Kpt (g + 1) w2.heap.size w2 (w2.setCell ⟨g, k * 4, none⟩ (.slice a c.ins.length ic)) := fun b h1 h2 => heap_setCell_other _ _ b _ (by simp; omega)
    rw [sz]
    by_cases hjk : j = k
    · subst hjk
      rw [List.getElem?_set_self (by rw [← List.length_map (f := Lc.c), h.eq]; exact hk)] at hp
      cases hp
      exact ⟨(hi.mono (by have := b1.size; omega) (Nat.le_refl _)).keep kp, hcap⟩
    · rw [List.getElem?_set_ne (fun e => hjk e.symm)] at hp
      have := h.hi j p (by omega) hp
      exact ⟨((this.1.keep (bl_kpt hb)).mono (Nat.le_refl _) hb.size).keep kp, this.2⟩
theorem CpI.done {w : World} {l : List Cd.Co} {g cap k : Nat} {qs : List Lc} {wr : World} (h : CpI w l g cap k qs wr) (hk : l.length ≤ k) (hb : l.length ≤ 1000) : CoW w.heap.size wr.heap.size wr (some ⟨g, 0, none⟩) l := by
  have bg := h.bg
  have hc := @World.ownsRow.cells _ _ _ _ _ _ _ h.row
  refine ⟨by omega, fun _ => ⟨g, 0, rfl, bg.1, bg.2, fun j c hj => ?_⟩⟩
  have hj' := hj
  rw [← h.eq, List.getElem?_map] at hj'
  obtain ⟨p, hp, rfl⟩ := Option.map_eq_some_iff.1 hj'
  obtain ⟨a0, a1, a2, a3⟩ := LcS_get _ _ _ hp
  have q := h.hi j p (by have := (List.getElem?_eq_some_iff.1 hj).1; omega) hp
  have get := fun j u hu => @hc g rfl j u hu
  refine ⟨p.ia, p.ic, ?_, ?_, ?_, ?_, q.1.mono (by omega) (Nat.le_refl _), q.2⟩
  · have := get _ _ a0; rw [adM] at this; exact this
  · have := get _ _ a1; rw [adM] at this; rw [Nat.add_assoc]; exact this
  · have := get _ _ a2; rw [adM] at this; rw [Nat.add_assoc]; exact this
  · have := get _ _ a3; rw [adM] at this; rw [Nat.add_assoc]; exact this
abbrev coBx (c : Cd.Co) (ia : Option Addr) (ic : Nat) : Obj := .cells #[.slice ia c.ins.length ic, .int .i64 c.cells, .int .i64 c.params, .bool c.ans] 41
def CpL (w : World) (l : List Cd.Co) (g cap : Nat) (i : Value) (wr : World) : Prop := ∃ (k : Nat) (qs : List Lc), k ≤ l.length ∧ i = .int .i64 k ∧ Hid (CpI w l g cap k qs wr)
set_option maxRecDepth 100000 in
set_option maxHeartbeats 8000000 in
theorem vmCopied (w : World) (la : Option Addr) (lc : Nat) (l : List Cd.Co) (h : CoS w.heap.size w la l) (h0 : 0 < l.length) (hb : l.length ≤ 1000) (hi : ∀ c ∈ l, c.ins.length ≤ 1000000) :
    Calls Tryd.prog 45 #[.slice la l.length lc] w fun e w' => ∃ a' c', e = .returned (.slice a' l.length c') ∧ CoW w.heap.size w'.heap.size w' a' l ∧ Below w.heap.size w w' := by
  obtain ⟨lg, lo, ps, rfl, hlg, lm⟩ := h.lcm h0
  have hpl : ps.length = l.length := by rw [← lm.eq, List.length_map]
  have EC : Hid (Calls Tryd.prog 58 #[.slice (some ⟨lg, lo, none⟩) l.length lc] w fun e w' => ∃ g cap, e = .returned (.slice (some ⟨g, 0, none⟩) l.length cap) ∧ CpI w l g cap 0 ps w') := by
    refine (cloneCo w _ l.length lc (LcS ps) (fun e => by cases e) (by rw [LcS_len, hpl]) (fun ad e => by cases e; exact lm.get) (LcS_one ps) (by omega)).mono fun e w' ⟨v', h1, h2, h3⟩ => ?_
    obtain ⟨g, cap, hv⟩ : ∃ g cap, v' = .slice (some ⟨g, 0, none⟩) l.length cap := by
      rcases h2.2 with ⟨_, e0⟩ | ⟨g, cap, cur, e, _⟩
      · omega
      · exact ⟨g, cap, e⟩
    subst hv
    exact ⟨g, cap, h1, h3, lm.eq, h2, fun j q hj => by omega⟩
  have HC : Hid (CoS w.heap.size w (some ⟨lg, lo, none⟩) l) := h
  have HI : Hid (∀ c ∈ l, c.ins.length ≤ 1000000) := hi
  have HB : Hid (l.length ≤ 1000) := hb
  obtain ⟨L, hL⟩ : ∃ L, L = l.length := ⟨_, rfl⟩
  have HL : Hid (L = l.length) := hL
  rw [← hL] at hb h0 EC ⊢
  clear h hi lm hpl hL
  go_enter Tryd.func45, Tryd.ntmps45
  go_wp2_with fail
  refine Calls.mono EC.out ?_
  rintro e1 w1 ⟨g, cap, rfl, I1⟩
  have II : Hid (CpI w l g cap 0 ps w1) := I1
  clear I1 EC
  go_wp2_with fail
  go_loopw [10] (fun i wr => CpL w l g cap i wr) (fun i _ => L - (intOf i).toNat)
  case atStart => exact ⟨0, ps, by omega, rfl, II⟩
  case round =>
    obtain ⟨k, qs, hk, rfl, CI⟩ := hrel
    rw [← HL.out] at hk
    clear II
    by_cases hlt : k < L
    · have hki : (k : Int) < (L : Int) := by omega
      have dk : decide ((k : Int) < (L : Int)) = true := decide_eq_true hki
      have dkn : decide (k < L) = true := decide_eq_true hlt
      have hkl : k < l.length := by rw [← HL.out]; exact hlt
      obtain ⟨c, hc⟩ : ∃ c, l[k]? = some c := ⟨_, List.getElem?_eq_getElem hkl⟩
      obtain ⟨g', o', ia, ic, e, hg', ca⟩ := (HC.out.later CI.out.b).at hc
      cases e
      have bg := CI.out.bg
      have row := CI.out.row
      have hgk := own_cell row (j := k * 4) (by omega)
      have c0 := ca.c0
      have c1 := ca.c1
      have c2 := ca.c2
      have c3 := ca.c3
      obtain ⟨W1, hW1⟩ : ∃ W1, W1 = wr.alloc (coBx c ia ic) := ⟨_, rfl⟩
      obtain ⟨cb, hcb⟩ : ∃ cb, cb = wr.heap.size := ⟨_, rfl⟩
      have b1 : Below wr.heap.size wr W1 := by rw [hW1]; exact (Below.refl _ _).alloc (Nat.le_refl _) _
      have x1 : W1.heap[cb]? = some (coBx c ia ic) := by rw [hW1, hcb]; exact alloc_at wr _
      have d0 : W1.cell? ⟨cb, 0, none⟩ = some (.slice ia c.ins.length ic) := by simp [World.cell?, x1]
      have ECl : Hid _ := cloneIns W1 ia ic c.ins ((ca.hi.later (b1.mono CI.out.b.size)).mono (Nat.le_trans CI.out.b.size b1.size)) (HI.out c (List.mem_of_getElem? hc))
      have HCI : Hid (l[k]? = some c) := hc
      have B1 : Hid (Below wr.heap.size wr W1) := b1
      have hcap : L ≤ cap := by
        rcases row.2 with ⟨e, _⟩ | ⟨_, _, _, e, _, _, h1, _⟩
        · cases e
        · cases e
          rw [HL.out]
          exact h1
      have hgz : ¬ g = cb := by omega
      obtain ⟨nI, hnI⟩ : ∃ nI, nI = c.ins.length := ⟨_, rfl⟩
      have HNI : Hid (nI = c.ins.length) := hnI
      clear ca hg' row b1 x1 hkl hc
      go_upto_region 5 with fail
      rw [← hW1, ← hcb]
      clear hW1 hcb c0 c1 c2 c3
      go_wp2_with fail
      refine Calls.mono ECl.out ?_
      rintro e4 w4 ⟨a4, c4, rfl, hc4, i4, b4⟩
      have bz := B1.out.trans (b4.mono B1.out.size)
      obtain ⟨u, hu, hfu⟩ := hgk
      have z0 := (bz.cell (p := ⟨g, k * 4, none⟩) bg.2).trans hu
      have zf := (bz.frozen (p := ⟨g, k * 4, none⟩) bg.2).trans hfu
      have SN : Hid _ := CI.out.step B1.out b4 HCI.out i4 hc4
      clear i4 b4 bz ECl CI hu hfu hc4 B1 d0
      go_wp2_with fail
      go_roundw
      case rel => exact ⟨k + 1, _, by rw [← HL.out]; omega, by go_num, SN⟩
      case measure => simp [intOf]; omega
    · have hki : ¬ (k : Int) < (L : Int) := by omega
      have dk : decide ((k : Int) < (L : Int)) = false := decide_eq_false hki
      have dkn : decide (k < L) = false := decide_eq_false hlt
      have FIN : Hid (∃ a' c', Ending.returned (.slice (some ⟨g, 0, none⟩) L cap) = .returned (.slice a' L c') ∧ CoW w.heap.size wr.heap.size wr a' l ∧ Below w.heap.size w wr) := ⟨_, _, rfl, CI.out.done (by rw [← HL.out]; omega) HB.out, CI.out.b⟩
      clear CI
      go_wp2_with fail
      go_ret
      first
        | exact FIN.out
        | simpa using FIN.out
end Go.Proofs.YtkjkiknpgggadaaDoor

namespace Go.Proofs.YtkjkiknpgggadaaDoor
open Go.RowKit
set_option linter.unusedVariables false
set_option linter.unusedSimpArgs false

namespace Vm
def Mc.gh (M : Mc) (G : Gh) : Mc := { M with g := G }
theorem gh_ite {c : Prop} [Decidable c] (A B : Mc) (G : Gh) : (if c then A else B).gh G = if c then A.gh G else B.gh G := by split <;> rfl
theorem jn_gh (M : Mc) (G : Gh) (op a b : Int) : jn (M.gh G) op a b = (jn M op a b).gh G := by
  unfold jn
  cases bt op a b <;> rfl
theorem rk_gh (M : Mc) (G : Gh) (f : Fr) (i : Cd.In) : rk (M.gh G) f i = (rk M f i).gh G := by
  unfold rk
  simp only [gh_ite]
  by_cases h1 : i.op = 1
  · simp only [if_pos h1]; rfl
  simp only [if_neg h1]
  by_cases h2 : i.op = 2
  · simp only [if_pos h2]; rfl
  simp only [if_neg h2]
  by_cases h3 : i.op = 3
  · simp only [if_pos h3]; rfl
  simp only [if_neg h3]
  by_cases h4 : i.op = 4
  · simp only [if_pos h4]
    unfold ix
    rw [gh_ite]
    rfl
  simp only [if_neg h4]
  by_cases h5 : i.op = 5
  · simp only [if_pos h5]
    unfold pt
    rw [gh_ite]
    rfl
  simp only [if_neg h5]
  by_cases h6 : i.op = 6
  · simp only [if_pos h6]; rfl
  simp only [if_neg h6]
  by_cases h15 : i.op = 15
  · simp only [if_pos h15]; rfl
  simp only [if_neg h15]
  by_cases h16 : i.op = 16
  · simp only [if_pos h16]; rfl
  simp only [if_neg h16]
  by_cases h25 : i.op = 25
  · simp only [if_pos h25]; rfl
  simp only [if_neg h25]
  exact jn_gh { M with stack := M.stack.dropLast.dropLast } G _ _ _
theorem ex_gh (M : Mc) (G : Gh) (fs : List Fr) (f : Fr) (i : Cd.In) : ex (M.gh G) fs f i = (ex M fs f i).gh G := by
  unfold ex
  simp only [gh_ite]
  by_cases h1 : i.op = 17
  · simp only [if_pos h1]; rfl
  simp only [if_neg h1]
  by_cases h2 : i.op = 18
  · simp only [if_pos h2]; rfl
  simp only [if_neg h2]
  by_cases h3 : i.op = 19
  · simp only [if_pos h3]
    show (if M.frames.length = 50 then trp (M.gh G) 4 else match M.codes[i.n.toNat]? with | some d => en (M.gh G) i.n.toNat d.cells.toNat i.m.toNat | none => M.gh G) = _
    cases M.codes[i.n.toNat]? <;> rfl
  simp only [if_neg h3]
  by_cases h4 : i.op = 20
  · simp only [if_pos h4]
    unfold lv
    rw [gh_ite]
    rfl
  simp only [if_neg h4]
  by_cases h5 : i.op = 21
  · simp only [if_pos h5]; rfl
  simp only [if_neg h5]
  by_cases h6 : i.op = 22
  · simp only [if_pos h6]
    unfold rd
    show (match M.input[M.read]? with | none => { M.gh G with events := M.events ++ [(4, 5)], run := false } | some n => { M.gh G with read := M.read + 1, events := M.events ++ [(2, n)], stack := M.stack ++ [n] }) = _
    cases M.input[M.read]? <;> rfl
  simp only [if_neg h6]
  by_cases h7 : i.op = 23
  · simp only [if_pos h7]; rfl
  simp only [if_neg h7]
  exact rk_gh M G f i
theorem go_gh : ∀ (n : Nat) (M : Mc) (G : Gh), go n (M.gh G) = (go n M).gh G
  | 0, M, G => rfl
  | n + 1, M, G => by
    rw [go, go]
    show (match it M with | none => M.gh G | some (fs, f, _, i) => _) = _
    cases hi : it M with
    | none => rfl
    | some x =>
      obtain ⟨fs, f, c, i⟩ := x
      dsimp only
      simp only [gh_ite]
      by_cases h24 : i.op = 24
      · simp only [if_pos h24]; rfl
      simp only [if_neg h24]
      have e : ex { M.gh G with frames := fs ++ [{ f with place := f.place + 1 }] } fs { f with place := f.place + 1 } i = (ex { M with frames := fs ++ [{ f with place := f.place + 1 }] } fs { f with place := f.place + 1 } i).gh G := ex_gh { M with frames := fs ++ [{ f with place := f.place + 1 }] } G fs { f with place := f.place + 1 } i
      rw [e, go_gh n _ G]
      rfl
theorem fin_gh (t : Int) (M : Mc) (G : Gh) : fin t (M.gh G) = (fin t M).gh G := by
  unfold fin
  rw [gh_ite]
  rfl
theorem step_gh (M : Mc) (G : Gh) : step (M.gh G) = (step M).gh G := by
  unfold step
  rw [gh_ite, go_gh]
  show (if M.run = true then fin M.ticks ((go 1048576 M).gh G) else M.gh G) = _
  rw [fin_gh]
theorem ticked_gh (M : Mc) (G : Gh) : ticked (M.gh G) = ticked M := by
  unfold ticked
  rw [go_gh]
  rfl
theorem WF.gh {B : Int} {M : Mc} (w : WF B M) (G : Gh) : WF B (M.gh G) := ⟨w.len, w.fit, w.fs, w.f1, w.f50, w.rd, w.inp, w.fu, w.ti, w.su⟩
end Vm
def VOwn (V : VmV) (k : Nat) : Prop := V.sv.ownBlock = some k ∨ V.ev.ownBlock = some k ∨ V.fv.ownBlock = some k ∨ V.cv.ownBlock = some k
theorem VmS.regh {m : Nat} {w : World} {V : VmV} {M : Vm.Mc} (h : VmS m w V M) : VmS m w V (M.gh ⟨w, VOwn V, M.g.lo⟩) :=
  ⟨h.box, ⟨h.rows.oa, h.rows.ob, h.rows.oc, h.rows.od, h.rows.ab, h.rows.ac, h.rows.ad, h.rows.bc, h.rows.bd, h.rows.cd, ⟨Nat.le_refl _, fun _ _ _ _ => rfl⟩, fun k e => .inl (.inl e), fun k e => .inl (.inr (.inl e)), fun k e => .inl (.inr (.inr (.inl e))), fun k e => .inl (.inr (.inr (.inr e)))⟩, h.co, h.inp⟩
structure Frm (m : Nat) (w w' : World) (V V' : VmV) : Prop where
  b : Below m w w'
  eq : ∀ k, k < w.heap.size → k ≠ m → ¬ VOwn V k → w'.heap[k]? = w.heap[k]?
  ow : ∀ k, VOwn V' k → VOwn V k ∨ w.heap.size ≤ k
theorem VmS.frm {m lo : Nat} {w w' : World} {V V' : VmV} {N : Vm.Mc} (h : VmS m w' V' (N.gh ⟨w, VOwn V, lo⟩)) (b : Below m w w') : Frm m w w' V V' :=
  ⟨b, fun k hk n o => h.rows.gk.eq k hk (by omega) o, fun k o => by
    rcases o with o | o | o | o
    · exact h.rows.ga k o
    · exact h.rows.gb k o
    · exact h.rows.gc k o
    · exact h.rows.gd k o⟩
structure VmO (lo m : Nat) (w : World) (V : VmV) (M : Vm.Mc) : Prop where
  s : ∃ G, VmS m w V (M.gh G) ∧ G.lo = lo
  lm : lo ≤ m
theorem VmO.re {lo m : Nat} {w : World} {V : VmV} {M : Vm.Mc} (h : VmO lo m w V M) : VmS m w V (M.gh ⟨w, VOwn V, lo⟩) := by
  obtain ⟨G, h1, h2⟩ := h.s
  have := h1.regh
  rw [show (M.gh G).g.lo = lo from h2] at this
  exact this
theorem VmO.own_lt {lo m : Nat} {w : World} {V : VmV} {M : Vm.Mc} (h : VmO lo m w V M) {k : Nat} (o : VOwn V k) : m < k ∧ k < w.heap.size := by
  have r := h.re.rows
  rcases o with o | o | o | o
  · have := World.ownsRow.lt r.oa k o; omega
  · have := World.ownsRow.lt r.ob k o; omega
  · have := World.ownsRow.lt r.oc k o; omega
  · have := World.ownsRow.lt r.od k o; omega
theorem VmO.lt {lo m : Nat} {w : World} {V : VmV} {M : Vm.Mc} (h : VmO lo m w V M) : m < w.heap.size := h.re.lt
theorem VmO.later {lo m : Nat} {w w' : World} {V : VmV} {M : Vm.Mc} (h : VmO lo m w V M) (b : Below w.heap.size w w') : VmO lo m w' V M := by
  obtain ⟨G, h1, h2⟩ := h.s
  exact ⟨⟨G, h1.later b, h2⟩, h.lm⟩
def Sup (lo m : Nat) (V : VmV) (k : Nat) : Prop := (lo ≤ k ∧ k ≤ m) ∨ VOwn V k
theorem own_of {w w' : World} {base n sz : Nat} {e : TypeId} {v : Value} {xs : List Value} (h : w.ownsRow base e sz v n xs) (k : ∀ g, v.ownBlock = some g → w'.heap[g]? = w.heap[g]?) : w'.ownsRow base e sz v n xs := by
  refine ⟨h.1, ?_⟩
  rcases h.2 with h0 | ⟨g, cap, cur, e, hb, hh, h1⟩
  · exact .inl h0
  · exact .inr ⟨g, cap, cur, e, hb, (k g (by rw [e]; rfl)).trans hh, h1⟩
theorem VmO.keep {lo m : Nat} {w w' : World} {V : VmV} {M : Vm.Mc} (h : VmO lo m w V M) (k : ∀ b, Sup lo m V b → w'.heap[b]? = w.heap[b]?) : VmO lo m w' V M := by
  have s := h.re
  have r := s.rows
  have kp : Kpt lo m w w' := fun b h1 h2 => k b (.inl ⟨h1, by omega⟩)
  refine ⟨⟨⟨w', VOwn V, lo⟩, ⟨(k m (.inl ⟨h.lm, Nat.le_refl _⟩)).trans s.box, ⟨own_of r.oa fun g e => k g (.inr (.inl e)), own_of r.ob fun g e => k g (.inr (.inr (.inl e))), own_of r.oc fun g e => k g (.inr (.inr (.inr (.inl e)))), own_of r.od fun g e => k g (.inr (.inr (.inr (.inr e)))), r.ab, r.ac, r.ad, r.bc, r.bd, r.cd, ⟨Nat.le_refl _, fun _ _ _ _ => rfl⟩, fun k e => .inl (.inl e), fun k e => .inl (.inr (.inl e)), fun k e => .inl (.inr (.inr (.inl e))), fun k e => .inl (.inr (.inr (.inr e)))⟩, s.co.keep kp, s.inp.keep kp⟩, rfl⟩, h.lm⟩
theorem VmO.next {lo m : Nat} {w w' : World} {V : VmV} {M N : Vm.Mc} (h : VmO lo m w V M) (q : VmQ m w w' (N.gh ⟨w, VOwn V, lo⟩)) : ∃ V', VmO lo m w' V' N ∧ Frm m w w' V V' := by
  obtain ⟨b, V', s⟩ := q
  exact ⟨V', ⟨⟨_, s, rfl⟩, h.lm⟩, s.frm b⟩
theorem oStep (lo m : Nat) (w : World) (V : VmV) (M : Vm.Mc) (B : Int) (h : VmO lo m w V M) (wf : Vm.WF B M) (hrun : M.run = true) (he : M.events.length + 1048577 ≤ 1000000000) :
    Calls Tryd.prog 8 #[.pointer (some ⟨m, 0, none⟩)] w fun e w' => e = .returned (.bool (Vm.ticked M)) ∧ ∃ V', VmO lo m w' V' (Vm.step M) ∧ Frm m w w' V V' := by
  refine (vmStep m w V (M.gh ⟨w, VOwn V, lo⟩) B h.re (wf.gh _) hrun he).mono fun e w' ⟨h1, h2⟩ => ⟨?_, ?_⟩
  · rw [h1, Vm.ticked_gh]
  · rw [Vm.step_gh] at h2
    exact h.next h2
end Go.Proofs.YtkjkiknpgggadaaDoor

namespace Go.Proofs.YtkjkiknpgggadaaDoor
open Go.RowKit
set_option linter.unusedVariables false
set_option linter.unusedSimpArgs false

namespace Vm
def ini (l : List Cd.Co) (inp : List Int) (fuel : Int) (G : Gh) : Mc := ⟨l, inp, 0, fuel, 0, 0, 0, 0, 0, [], [], [], [], true, G⟩
def beg (l : List Cd.Co) (p k : Nat) (inp : List Int) (fuel : Int) (G : Gh) : Mc := en (ini l inp fuel G) p k 0
theorem beg_wf {B : Int} {l : List Cd.Co} {p : Nat} {c : Cd.Co} {inp : List Int} {fuel : Int} {G : Gh} (hs : Cd.Snd B l p) (hc : l[p]? = some c) (hf : 0 ≤ fuel ∧ fuel ≤ 1048576) (hi : inp.length ≤ 1000) : WF B (beg l p c.cells.toNat inp fuel G) := by
  obtain ⟨h1, h2, ⟨c', hc', hp, ha⟩, h4⟩ := hs
  rw [Int.toNat_natCast, hc] at hc'
  cases hc'
  have a0 : Cd.an c = 0 := by
    unfold Cd.an
    rw [ha]
    rfl
  refine ⟨h1, h4, ?_, Nat.le_refl _, by show 1 ≤ 50; omega, Nat.zero_le _, by show inp.length ≤ _; omega, hf.1, Int.le_refl _, by show 0 + fuel ≤ _; omega⟩
  have r : Fs l [] 0 0 (Cd.an c) := by
    rw [a0]
    exact .nil
  have x := Fs.snoc (l := l) [] ⟨p, 0, -1, 0⟩ 0 0 0 0 c r hc rfl .zero
  show Fs l [⟨p, 0, -1, 0⟩] ([] ++ ([] ++ List.replicate (c.cells.toNat - 0) (0 : Int))).length 0 0
  simpa using x
end Vm
theorem ini_s {lo : Nat} {w0 w w' : World} {ca ia : Option Addr} {cc ic : Nat} {l : List Cd.Co} {inp : List Int} {fuel : Int} (hlo : lo = w0.heap.size) (b : Below lo w0 w) (hc : CoW lo w.heap.size w ca l) (hi : NuW lo w.heap.size w ia inp) (hw : w' = w.alloc (vmB ⟨ca, cc, ia, ic, .slice none 0 0, .slice none 0 0, .slice none 0 0, .slice none 0 0⟩ (Vm.ini l inp fuel ⟨w0, fun _ => False, lo⟩))) : VmS w.heap.size w' ⟨ca, cc, ia, ic, .slice none 0 0, .slice none 0 0, .slice none 0 0, .slice none 0 0⟩ (Vm.ini l inp fuel ⟨w0, fun _ => False, lo⟩) := by
  subst hw
  have y : Below w.heap.size w (w.alloc (vmB ⟨ca, cc, ia, ic, .slice none 0 0, .slice none 0 0, .slice none 0 0, .slice none 0 0⟩ (Vm.ini l inp fuel ⟨w0, fun _ => False, lo⟩))) := (Below.refl _ _).alloc (Nat.le_refl _) _
  have n : ∀ v : Value, v = .slice none 0 0 → Gn ⟨w0, fun _ => False, lo⟩ v := fun v e k h => by subst e; cases h
  have a : ∀ v u : Value, v = .slice none 0 0 → Apt v u := fun v u e g h => by subst e; cases h
  refine ⟨alloc_at w _, ⟨World.ownsRow_nil _ _ _ _, World.ownsRow_nil _ _ _ _, World.ownsRow_nil _ _ _ _, World.ownsRow_nil _ _ _ _, a _ _ rfl, a _ _ rfl, a _ _ rfl, a _ _ rfl, a _ _ rfl, a _ _ rfl, ⟨?_, fun k hk _ _ => ?_⟩, n _ rfl, n _ rfl, n _ rfl, n _ rfl⟩, hc.keep (bl_kpt y), hi.keep (bl_kpt y)⟩
  · show w0.heap.size ≤ _
    rw [← hlo]
    exact Nat.le_trans (hlo ▸ b.size) y.size
  · have hk' : k < lo := by rw [hlo]; exact hk
    exact (y.block k (Nat.lt_of_lt_of_le hk' (hlo ▸ b.size))).trans (b.block k hk')
set_option maxRecDepth 100000 in
set_option maxHeartbeats 8000000 in
theorem vmNewC (B : Nat) (w : World) (la ia : Option Addr) (lc ic : Nat) (l : List Cd.Co) (inp : List Int) (main fuel : Int) (h : CdH B w la l) (hs : ¬ Cd.Snd Cd.top l main) :
    Calls Tryd.prog 15 #[.slice la l.length lc, .int .i64 main, .slice ia inp.length ic, .int .i64 fuel] w fun e w' => e = .returned (.tuple #[.pointer none, .int .i64 60]) ∧ Below w.heap.size w w' := by
  have ES : Hid (Calls Tryd.prog 44 #[.slice la l.length lc, .int .i64 main] w fun e w' => e = .returned (.bool false) ∧ Below w.heap.size w w') := (cdSnd_any main B la lc l w h).mono fun e w' ⟨b, h1, h2, h3⟩ => ⟨by
    cases b with
    | false => exact h1
    | true => exact absurd (h2.1 rfl) hs, h3⟩
  generalize inp.length = nI
  generalize l.length = L at ES ⊢
  clear h hs
  go_enter Tryd.func15, Tryd.ntmps15
  go_wp2_with fail
  refine Calls.mono ES.out ?_
  rintro e1 w1 ⟨rfl, b1⟩
  have FIN : Hid (Below w.heap.size w w1) := b1
  clear b1 ES
  go_wp2_with fail
  first
    | (go_ret2; exact ⟨rfl, FIN.out⟩)
    | (refine bodyPost_ret (v := .tuple #[.pointer none, .int .i64 60]) (by simp [results, Tryd.results15, go_sem]) rfl ?_; exact ⟨rfl, FIN.out⟩)
def VmArg (fuel : Int) (n : Nat) : Prop := 0 ≤ fuel ∧ fuel ≤ 1048576 ∧ n ≤ 1000
set_option maxRecDepth 100000 in
set_option maxHeartbeats 8000000 in
theorem vmNewA (B : Nat) (w : World) (la ia : Option Addr) (lc ic : Nat) (l : List Cd.Co) (inp : List Int) (main fuel : Int) (h : CdH B w la l) (hs : Cd.Snd Cd.top l main) (ha : ¬ VmArg fuel inp.length) :
    Calls Tryd.prog 15 #[.slice la l.length lc, .int .i64 main, .slice ia inp.length ic, .int .i64 fuel] w fun e w' => e = .returned (.tuple #[.pointer none, .int .i64 1]) ∧ Below w.heap.size w w' := by
  have ES : Hid (Calls Tryd.prog 44 #[.slice la l.length lc, .int .i64 main] w fun e w' => e = .returned (.bool true) ∧ Below w.heap.size w w') := (cdSnd_any main B la lc l w h).mono fun e w' ⟨b, h1, h2, h3⟩ => ⟨by rw [h1, h2.2 hs], h3⟩
  unfold VmArg at ha
  generalize inp.length = nI at ha ⊢
  generalize l.length = L at ES ⊢
  clear h hs
  go_enter Tryd.func15, Tryd.ntmps15
  go_wp2_with fail
  refine Calls.mono ES.out ?_
  rintro e1 w1 ⟨rfl, b1⟩
  have FIN : Hid (Below w.heap.size w w1) := b1
  clear b1 ES
  by_cases h1 : fuel < 0
  · have d1 : decide (fuel < 0) = true := decide_eq_true h1
    go_wp2_with fail
    first
      | (go_ret2; exact ⟨rfl, FIN.out⟩)
      | (refine bodyPost_ret (v := .tuple #[.pointer none, .int .i64 1]) (by simp [results, Tryd.results15, go_sem]) rfl ?_; exact ⟨rfl, FIN.out⟩)
  · have d1 : decide (fuel < 0) = false := decide_eq_false h1
    by_cases h2 : fuel > 1048576
    · have d2 : decide (fuel > 1048576) = true := decide_eq_true h2
      go_wp2_with fail
      first
        | (go_ret2; exact ⟨rfl, FIN.out⟩)
        | (refine bodyPost_ret (v := .tuple #[.pointer none, .int .i64 1]) (by simp [results, Tryd.results15, go_sem]) rfl ?_; exact ⟨rfl, FIN.out⟩)
    · have d2 : decide (fuel > 1048576) = false := decide_eq_false h2
      have h3 : (nI : Int) > 1000 := by omega
      have h4 : nI > 1000 := by omega
      go_wp2_with fail
      first
        | (go_ret2; exact ⟨rfl, FIN.out⟩)
        | (refine bodyPost_ret (v := .tuple #[.pointer none, .int .i64 1]) (by simp [results, Tryd.results15, go_sem]) rfl ?_; exact ⟨rfl, FIN.out⟩)
set_option maxRecDepth 100000 in
set_option maxHeartbeats 8000000 in
theorem vmNewO (B : Nat) (w : World) (la ia : Option Addr) (lc ic : Nat) (l : List Cd.Co) (inp : List Int) (p : Nat) (c : Cd.Co) (fuel : Int) (h : CdH B w la l) (hi : NuS w.heap.size w ia inp) (hs : Cd.Snd Cd.top l p) (hc : l[p]? = some c) (ha : VmArg fuel inp.length) :
    Calls Tryd.prog 15 #[.slice la l.length lc, .int .i64 p, .slice ia inp.length ic, .int .i64 fuel] w fun e w' => ∃ m V, e = .returned (.tuple #[.pointer (some ⟨m, 0, none⟩), .int .i64 0]) ∧ VmO w.heap.size m w' V (Vm.beg l p c.cells.toNat inp fuel ⟨w, fun _ => False, w.heap.size⟩) ∧ Below w.heap.size w w' := by
  have ES : Hid (Calls Tryd.prog 44 #[.slice la l.length lc, .int .i64 p] w fun e w' => e = .returned (.bool true) ∧ Below w.heap.size w w') := (cdSnd_any p B la lc l w h).mono fun e w' ⟨b, h1, h2, h3⟩ => ⟨by rw [h1, h2.2 hs], h3⟩
  have hl40 := hs.1
  have hpl : p < l.length := (List.getElem?_eq_some_iff.1 hc).1
  have fit : ∀ d ∈ l, d.ins.length ≤ 1000000 ∧ 0 ≤ d.cells ∧ d.cells ≤ 65536 := fun d hd => by
    have := (hs.2.2.2 d hd).sz
    unfold Cd.sz at this
    simp at this
    omega
  have fc := fit c (List.mem_of_getElem? hc)
  obtain ⟨k, hk⟩ : ∃ k : Nat, c.cells = k := ⟨c.cells.toNat, by omega⟩
  rw [hk, Int.toNat_natCast]
  obtain ⟨ha1, ha2, ha3⟩ := ha
  have ECp : Hid (∀ X, Below w.heap.size w X → Calls Tryd.prog 45 #[.slice la l.length lc] X fun e w' => ∃ a' c', e = .returned (.slice a' l.length c') ∧ CoW X.heap.size w'.heap.size w' a' l ∧ Below X.heap.size X w') := fun X hX => vmCopied X la lc l ((h.co.later (hX.mono h.hB)).mono (Nat.le_trans h.hB hX.size)) (by omega) (by omega) (fun d hd => (fit d hd).1)
  have ECn : Hid (∀ X, Below w.heap.size w X → Calls Tryd.prog 42 #[.slice ia inp.length ic] X fun e w' => ∃ a' c', e = .returned (.slice a' inp.length c') ∧ inp.length ≤ c' ∧ NuW X.heap.size w'.heap.size w' a' inp ∧ Below X.heap.size X w') := fun X hX => cloneNums X ia ic inp ((fun h0 => by
    obtain ⟨g, o, e, hg, hc⟩ := (hi.later hX) h0
    exact ⟨g, o, e, Nat.lt_of_lt_of_le hg hX.size, hc⟩) : NuS X.heap.size X ia inp) (by omega)
  have HC : Hid (l[p]? = some c ∧ c.cells = k ∧ k ≤ 65536) := ⟨hc, hk, by omega⟩
  obtain ⟨nI, hn⟩ : ∃ nI, nI = inp.length := ⟨_, rfl⟩
  obtain ⟨L, hL⟩ : ∃ L, L = l.length := ⟨_, rfl⟩
  have HN : Hid (nI = inp.length ∧ L = l.length) := ⟨hn, hL⟩
  rw [← hn] at ECn ha3 ⊢
  rw [← hL] at ES ECp ⊢
  have d1 : ¬ fuel < 0 := by omega
  have d2 : ¬ fuel > 1048576 := by omega
  have d3 : ¬ (nI : Int) > 1000 := by omega
  have d4 : ¬ nI > 1000 := by omega
  clear h hi hs hc hl40 hpl fit fc hk hn hL ha3
  go_enter Tryd.func15, Tryd.ntmps15
  go_wp2_with fail
  refine Calls.mono ES.out ?_
  rintro e1 w1 ⟨rfl, b1⟩
  have B1 : Hid (Below w.heap.size w w1) := b1
  clear b1 ES
  go_wp2_with fail
  refine Calls.mono (ECp.out _ B1.out) ?_
  rintro e2 w2 ⟨a2, c2, rfl, co2, b2⟩
  have B2 : Hid (Below w.heap.size w w2) := B1.out.trans (b2.mono B1.out.size)
  have C2 : Hid (CoW w.heap.size w2.heap.size w2 a2 l) := co2.mono B1.out.size (Nat.le_refl _)
  clear b2 co2 ECp B1
  go_wp2_with fail
  refine Calls.mono (ECn.out _ B2.out) ?_
  rintro e3 w3 ⟨a3, c3, rfl, hc3, in3, b3⟩
  have B3 : Hid (Below w.heap.size w w3) := B2.out.trans (b3.mono B2.out.size)
  have C3 : Hid (CoW w.heap.size w3.heap.size w3 a2 l) := (C2.out.keep (bl_kpt b3)).mono (Nat.le_refl _) b3.size
  have I3 : Hid (NuW w.heap.size w3.heap.size w3 a3 inp) := in3.mono B2.out.size (Nat.le_refl _)
  clear b3 in3 hc3 C2 B2 ECn
  obtain ⟨W4, hW4⟩ : ∃ W4, W4 = w3.alloc (vmB ⟨a2, c2, a3, c3, .slice none 0 0, .slice none 0 0, .slice none 0 0, .slice none 0 0⟩ (Vm.ini l inp fuel ⟨w, fun _ => False, w.heap.size⟩)) := ⟨_, rfl⟩
  obtain ⟨m, hm⟩ : ∃ m, m = w3.heap.size := ⟨_, rfl⟩
  have S4 := ini_s rfl B3.out C3.out I3.out hW4
  rw [← hm] at S4
  have B4 : Hid (Below w.heap.size w W4) := B3.out.trans (by rw [hW4]; exact ((Below.refl w3.heap.size w3).alloc (Nat.le_refl _) _).mono B3.out.size)
  have HM : Hid (w.heap.size ≤ m) := by unfold Hid; rw [hm]; exact B3.out.size
  have EE : Hid _ := vmEnter m W4 _ _ c p k 0 S4 HC.out.1 HC.out.2.1 (by show 0 + k ≤ _; have := HC.out.2.2; omega) (by show 0 ≤ 1000000; omega) (by show 0 ≤ 1000000; omega) (Nat.zero_le _) (Nat.zero_le _)
  unfold vmB at hW4
  unfold Vm.ini at hW4
  dsimp only at hW4
  rw [← HN.out.1, ← HN.out.2] at hW4
  clear S4 C3 I3 B3
  go_upto_region 6 with fail
  rw [← hm]
  rw [show ((0 : Nat) : Int) = 0 from rfl] at hW4
  rw [← hW4]
  clear hW4 hm
  go_wp2_with fail
  refine Calls.mono EE.out ?_
  rintro e5 w5 ⟨rfl, b5, V5, s5⟩
  have FIN : Hid (∃ V, VmO w.heap.size m w5 V (Vm.beg l p k inp fuel ⟨w, fun _ => False, w.heap.size⟩) ∧ Below w.heap.size w w5) := ⟨V5, ⟨⟨_, s5, rfl⟩, HM.out⟩, B4.out.trans (b5.mono HM.out)⟩
  clear b5 s5 EE B4
  go_wp2_with fail
  refine bodyPost_ret (v := .tuple #[.pointer (some ⟨m, 0, none⟩), .int .i64 0]) (by simp [results, Tryd.results15, go_sem]) rfl ?_
  obtain ⟨V, q1, q2⟩ := FIN.out
  exact ⟨m, V, rfl, q1, q2⟩
end Go.Proofs.YtkjkiknpgggadaaDoor

