/- Layer 9: slices.Clone: a row of its own. -/
/- Layer 8, plain: sound codes with one more behind them. -/
/- CodeMore: codes in memory, cell by cell, and an owned row of codes. -/
import Derived.Test.YtkjkiknpgggadaaDoorSWordsPl
import Derived.Test.YtkjkiknpgggadaaDoorSVmM
import Derived.Deep.DeepAppendWide
import Derived.Test.YtkjkiknpgggadaaDoorSCdA
namespace Go.Proofs.YtkjkiknpgggadaaDoor
open Go.RowKit
set_option linter.unusedVariables false
set_option linter.unusedSimpArgs false

theorem cl_below {w w8 : World} {o : Obj} (g8 : (w.alloc o).grownBy w8 (some w.heap.size)) : Below w.heap.size w w8 :=
  ⟨g8.os, g8.tape, g8.output, Nat.le_trans (by simp) g8.size, fun k hk => (g8.block k (by simp; omega) (fun e => by cases e; omega)).trans (by rw [((Below.refl w.heap.size w).alloc (Nat.le_refl _) o).block k hk])⟩
theorem infNu : (Tryd.prog.info? 2).map (fun i => (i.zero, i.size, i.bytes)) = some (some (.int .i64 0), 1, 8) := by kernel_rfl
set_option maxRecDepth 100000 in
set_option maxHeartbeats 4000000 in
theorem cloneNu (w : World) (a : Option Addr) (n c : Nat) (xs : List Value) (ha : a = none → n = 0) (hl : xs.length = n * 1) (hx : ∀ ad, a = some ad → ∀ j u, xs[j]? = some u → w.cell? (ad.add j) = some u) (h1 : ∀ u ∈ xs, u.oneCell' = true) (hb : n ≤ 1000000000000) :
    Calls Tryd.prog 42 #[.slice a n c] w fun e w' => ∃ v', e = .returned v' ∧ w'.ownsRow w.heap.size 2 1 v' n xs ∧ Below w.heap.size w w' := by
  obtain ⟨i0, hi, hz0, hz1, hz2⟩ := info_parts infNu
  cases a with
  | none =>
    obtain rfl := ha rfl
    obtain rfl : xs = [] := List.length_eq_zero_iff.1 (by simpa using hl)
    have FIN : Hid (∃ v', Ending.returned (.slice none 0 0) = .returned v' ∧ w.ownsRow w.heap.size 2 1 v' 0 [] ∧ Below w.heap.size w w) := ⟨_, rfl, World.ownsRow_nil _ _ _ _, Below.refl _ _⟩
    have hq : Sem.run Tryd.prog (binOp BinOp.eql 23 (.slice none 0 c) (.slice none 0 0)) w = .ok (.bool true) w := by kernel_rfl
    clear hx h1 hl
    go_enter Tryd.func42, Tryd.ntmps42
    go_wp2_with fail
    go_ret
    exact FIN.out
  | some ad =>
    have HX : Hid (∀ j u, xs[j]? = some u → w.cell? (ad.add j) = some u) := hx ad rfl
    have HL : Hid (xs.length = n * 1) := hl
    have H1 : Hid (∀ u ∈ xs, u.oneCell' = true) := h1
    have H63 : Hid (0 + n ≤ maxLen ∧ ((0 + n) + (0 + n) / 4 + 192) * 8 ≤ 281474976710656) := by unfold Hid maxLen; omega
    have HAD : Hid (∀ (W : World) (o : Obj) (j : Nat) (u : Value), W.cell? (ad.add j) = some u → (W.alloc o).cell? (ad.add j) = some u) := fun W o j u h => by
      have hb : (ad.add j).block < W.heap.size := by
        unfold World.cell? at h
        split at h
        · rename_i e
          exact (Array.getElem?_eq_some_iff.1 e).1
        · cases h
      exact (((Below.refl W.heap.size W).alloc (Nat.le_refl _) o).cell (p := ad.add j) hb).trans h
    clear hx hl h1 ha
    obtain ⟨ab, ao, asp⟩ := ad
    have hq : Sem.run Tryd.prog (binOp BinOp.eql 23 (.slice (some ⟨ab, ao, asp⟩) n c) (.slice none 0 0)) w = .ok (.bool false) w := by kernel_rfl
    go_enter Tryd.func42, Tryd.ntmps42
    go_wp2_with (at_builtin; refine wpList_append_own_wide _ rfl _ _ 23 rfl w.heap.size 2 i0 (.int .i64 0) 1 8 Tryd.underlying23 hi hz0 hz1 hz2 rfl (by decide) (.slice (some ⟨w.heap.size, 0, none⟩) 0 0) 0 [] rfl (World.ownsRow_lit w #[] 0 (Nat.le_refl _) (Nat.zero_le _) rfl) ⟨ab, ao, asp⟩ n c xs rfl HL.out (fun j u h => HAD.out _ _ j u (HX.out j u h)) H1.out H63.out.1 H63.out.2 (by simp) ?_)
    intro v8 w8 h8 g8 o8
    have FIN : Hid (∃ v', Ending.returned v8 = .returned v' ∧ w8.ownsRow w.heap.size 2 1 v' n xs ∧ Below w.heap.size w w8) := ⟨_, rfl, h8, cl_below g8⟩
    obtain ⟨va8, cap8, hv8⟩ := own_shp h8
    subst hv8
    clear h8 g8 o8
    go_wp2_with fail
    go_ret
    exact FIN.out
theorem infCo : (Tryd.prog.info? 41).map (fun i => (i.zero, i.size, i.bytes)) = some (some (.agg #[.slice none 0 0, .int .i64 0, .int .i64 0, .bool false]), 4, 48) := by kernel_rfl
set_option maxRecDepth 100000 in
set_option maxHeartbeats 4000000 in
theorem cloneCo (w : World) (a : Option Addr) (n c : Nat) (xs : List Value) (ha : a = none → n = 0) (hl : xs.length = n * 4) (hx : ∀ ad, a = some ad → ∀ j u, xs[j]? = some u → w.cell? (ad.add j) = some u) (h1 : ∀ u ∈ xs, u.oneCell' = true) (hb : n ≤ 1000000000000) :
    Calls Tryd.prog 58 #[.slice a n c] w fun e w' => ∃ v', e = .returned v' ∧ w'.ownsRow w.heap.size 41 4 v' n xs ∧ Below w.heap.size w w' := by
  obtain ⟨i0, hi, hz0, hz1, hz2⟩ := info_parts infCo
  cases a with
  | none =>
    obtain rfl := ha rfl
    obtain rfl : xs = [] := List.length_eq_zero_iff.1 (by simpa using hl)
    have FIN : Hid (∃ v', Ending.returned (.slice none 0 0) = .returned v' ∧ w.ownsRow w.heap.size 41 4 v' 0 [] ∧ Below w.heap.size w w) := ⟨_, rfl, World.ownsRow_nil _ _ _ _, Below.refl _ _⟩
    have hq : Sem.run Tryd.prog (binOp BinOp.eql 22 (.slice none 0 c) (.slice none 0 0)) w = .ok (.bool true) w := by kernel_rfl
    clear hx h1 hl
    go_enter Tryd.func58, Tryd.ntmps58
    go_wp2_with fail
    go_ret
    exact FIN.out
  | some ad =>
    have HX : Hid (∀ j u, xs[j]? = some u → w.cell? (ad.add j) = some u) := hx ad rfl
    have HL : Hid (xs.length = n * 4) := hl
    have H1 : Hid (∀ u ∈ xs, u.oneCell' = true) := h1
    have H63 : Hid (0 + n ≤ maxLen ∧ ((0 + n) + (0 + n) / 4 + 192) * 48 ≤ 281474976710656) := by unfold Hid maxLen; omega
    have HAD : Hid (∀ (W : World) (o : Obj) (j : Nat) (u : Value), W.cell? (ad.add j) = some u → (W.alloc o).cell? (ad.add j) = some u) := fun W o j u h => by
      have hb : (ad.add j).block < W.heap.size := by
        unfold World.cell? at h
        split at h
        · rename_i e
          exact (Array.getElem?_eq_some_iff.1 e).1
        · cases h
      exact (((Below.refl W.heap.size W).alloc (Nat.le_refl _) o).cell (p := ad.add j) hb).trans h
    clear hx hl h1 ha
    obtain ⟨ab, ao, asp⟩ := ad
    have hq : Sem.run Tryd.prog (binOp BinOp.eql 22 (.slice (some ⟨ab, ao, asp⟩) n c) (.slice none 0 0)) w = .ok (.bool false) w := by kernel_rfl
    go_enter Tryd.func58, Tryd.ntmps58
    go_wp2_with (at_builtin; refine wpList_append_own_wide _ rfl _ _ 22 rfl w.heap.size 41 i0 (.agg #[.slice none 0 0, .int .i64 0, .int .i64 0, .bool false]) 4 48 Tryd.underlying22 hi hz0 hz1 hz2 rfl (by decide) (.slice (some ⟨w.heap.size, 0, none⟩) 0 0) 0 [] rfl (World.ownsRow_lit w #[] 0 (Nat.le_refl _) (Nat.zero_le _) rfl) ⟨ab, ao, asp⟩ n c xs rfl HL.out (fun j u h => HAD.out _ _ j u (HX.out j u h)) H1.out H63.out.1 H63.out.2 (by simp) ?_)
    intro v8 w8 h8 g8 o8
    have FIN : Hid (∃ v', Ending.returned v8 = .returned v' ∧ w8.ownsRow w.heap.size 41 4 v' n xs ∧ Below w.heap.size w w8) := ⟨_, rfl, h8, cl_below g8⟩
    obtain ⟨va8, cap8, hv8⟩ := own_shp h8
    subst hv8
    clear h8 g8 o8
    go_wp2_with fail
    go_ret
    exact FIN.out
theorem infIn : (Tryd.prog.info? 47).map (fun i => (i.zero, i.size, i.bytes)) = some (some (.agg #[.int .i64 0, .int .i64 0, .int .i64 0]), 3, 24) := by kernel_rfl
set_option maxRecDepth 100000 in
set_option maxHeartbeats 4000000 in
theorem cloneIn (w : World) (a : Option Addr) (n c : Nat) (xs : List Value) (ha : a = none → n = 0) (hl : xs.length = n * 3) (hx : ∀ ad, a = some ad → ∀ j u, xs[j]? = some u → w.cell? (ad.add j) = some u) (h1 : ∀ u ∈ xs, u.oneCell' = true) (hb : n ≤ 1000000000000) :
    Calls Tryd.prog 59 #[.slice a n c] w fun e w' => ∃ v', e = .returned v' ∧ w'.ownsRow w.heap.size 47 3 v' n xs ∧ Below w.heap.size w w' := by
  obtain ⟨i0, hi, hz0, hz1, hz2⟩ := info_parts infIn
  cases a with
  | none =>
    obtain rfl := ha rfl
    obtain rfl : xs = [] := List.length_eq_zero_iff.1 (by simpa using hl)
    have FIN : Hid (∃ v', Ending.returned (.slice none 0 0) = .returned v' ∧ w.ownsRow w.heap.size 47 3 v' 0 [] ∧ Below w.heap.size w w) := ⟨_, rfl, World.ownsRow_nil _ _ _ _, Below.refl _ _⟩
    have hq : Sem.run Tryd.prog (binOp BinOp.eql 39 (.slice none 0 c) (.slice none 0 0)) w = .ok (.bool true) w := by kernel_rfl
    clear hx h1 hl
    go_enter Tryd.func59, Tryd.ntmps59
    go_wp2_with fail
    go_ret
    exact FIN.out
  | some ad =>
    have HX : Hid (∀ j u, xs[j]? = some u → w.cell? (ad.add j) = some u) := hx ad rfl
    have HL : Hid (xs.length = n * 3) := hl
    have H1 : Hid (∀ u ∈ xs, u.oneCell' = true) := h1
    have H63 : Hid (0 + n ≤ maxLen ∧ ((0 + n) + (0 + n) / 4 + 192) * 24 ≤ 281474976710656) := by unfold Hid maxLen; omega
    have HAD : Hid (∀ (W : World) (o : Obj) (j : Nat) (u : Value), W.cell? (ad.add j) = some u → (W.alloc o).cell? (ad.add j) = some u) := fun W o j u h => by
      have hb : (ad.add j).block < W.heap.size := by
        unfold World.cell? at h
        split at h
        · rename_i e
          exact (Array.getElem?_eq_some_iff.1 e).1
        · cases h
      exact (((Below.refl W.heap.size W).alloc (Nat.le_refl _) o).cell (p := ad.add j) hb).trans h
    clear hx hl h1 ha
    obtain ⟨ab, ao, asp⟩ := ad
    have hq : Sem.run Tryd.prog (binOp BinOp.eql 39 (.slice (some ⟨ab, ao, asp⟩) n c) (.slice none 0 0)) w = .ok (.bool false) w := by kernel_rfl
    go_enter Tryd.func59, Tryd.ntmps59
    go_wp2_with (at_builtin; refine wpList_append_own_wide _ rfl _ _ 39 rfl w.heap.size 47 i0 (.agg #[.int .i64 0, .int .i64 0, .int .i64 0]) 3 24 Tryd.underlying39 hi hz0 hz1 hz2 rfl (by decide) (.slice (some ⟨w.heap.size, 0, none⟩) 0 0) 0 [] rfl (World.ownsRow_lit w #[] 0 (Nat.le_refl _) (Nat.zero_le _) rfl) ⟨ab, ao, asp⟩ n c xs rfl HL.out (fun j u h => HAD.out _ _ j u (HX.out j u h)) H1.out H63.out.1 H63.out.2 (by simp) ?_)
    intro v8 w8 h8 g8 o8
    have FIN : Hid (∃ v', Ending.returned v8 = .returned v' ∧ w8.ownsRow w.heap.size 47 3 v' n xs ∧ Below w.heap.size w w8) := ⟨_, rfl, h8, cl_below g8⟩
    obtain ⟨va8, cap8, hv8⟩ := own_shp h8
    subst hv8
    clear h8 g8 o8
    go_wp2_with fail
    go_ret
    exact FIN.out
theorem infEv : (Tryd.prog.info? 50).map (fun i => (i.zero, i.size, i.bytes)) = some (some (.agg #[.int .i64 0, .int .i64 0]), 2, 16) := by kernel_rfl
set_option maxRecDepth 100000 in
set_option maxHeartbeats 4000000 in
theorem cloneEv (w : World) (a : Option Addr) (n c : Nat) (xs : List Value) (ha : a = none → n = 0) (hl : xs.length = n * 2) (hx : ∀ ad, a = some ad → ∀ j u, xs[j]? = some u → w.cell? (ad.add j) = some u) (h1 : ∀ u ∈ xs, u.oneCell' = true) (hb : n ≤ 1000000000000) :
    Calls Tryd.prog 41 #[.slice a n c] w fun e w' => ∃ v', e = .returned v' ∧ w'.ownsRow w.heap.size 50 2 v' n xs ∧ Below w.heap.size w w' := by
  obtain ⟨i0, hi, hz0, hz1, hz2⟩ := info_parts infEv
  cases a with
  | none =>
    obtain rfl := ha rfl
    obtain rfl : xs = [] := List.length_eq_zero_iff.1 (by simpa using hl)
    have FIN : Hid (∃ v', Ending.returned (.slice none 0 0) = .returned v' ∧ w.ownsRow w.heap.size 50 2 v' 0 [] ∧ Below w.heap.size w w) := ⟨_, rfl, World.ownsRow_nil _ _ _ _, Below.refl _ _⟩
    have hq : Sem.run Tryd.prog (binOp BinOp.eql 33 (.slice none 0 c) (.slice none 0 0)) w = .ok (.bool true) w := by kernel_rfl
    clear hx h1 hl
    go_enter Tryd.func41, Tryd.ntmps41
    go_wp2_with fail
    go_ret
    exact FIN.out
  | some ad =>
    have HX : Hid (∀ j u, xs[j]? = some u → w.cell? (ad.add j) = some u) := hx ad rfl
    have HL : Hid (xs.length = n * 2) := hl
    have H1 : Hid (∀ u ∈ xs, u.oneCell' = true) := h1
    have H63 : Hid (0 + n ≤ maxLen ∧ ((0 + n) + (0 + n) / 4 + 192) * 16 ≤ 281474976710656) := by unfold Hid maxLen; omega
    have HAD : Hid (∀ (W : World) (o : Obj) (j : Nat) (u : Value), W.cell? (ad.add j) = some u → (W.alloc o).cell? (ad.add j) = some u) := fun W o j u h => by
      have hb : (ad.add j).block < W.heap.size := by
        unfold World.cell? at h
        split at h
        · rename_i e
          exact (Array.getElem?_eq_some_iff.1 e).1
        · cases h
      exact (((Below.refl W.heap.size W).alloc (Nat.le_refl _) o).cell (p := ad.add j) hb).trans h
    clear hx hl h1 ha
    obtain ⟨ab, ao, asp⟩ := ad
    have hq : Sem.run Tryd.prog (binOp BinOp.eql 33 (.slice (some ⟨ab, ao, asp⟩) n c) (.slice none 0 0)) w = .ok (.bool false) w := by kernel_rfl
    go_enter Tryd.func41, Tryd.ntmps41
    go_wp2_with (at_builtin; refine wpList_append_own_wide _ rfl _ _ 33 rfl w.heap.size 50 i0 (.agg #[.int .i64 0, .int .i64 0]) 2 16 Tryd.underlying33 hi hz0 hz1 hz2 rfl (by decide) (.slice (some ⟨w.heap.size, 0, none⟩) 0 0) 0 [] rfl (World.ownsRow_lit w #[] 0 (Nat.le_refl _) (Nat.zero_le _) rfl) ⟨ab, ao, asp⟩ n c xs rfl HL.out (fun j u h => HAD.out _ _ j u (HX.out j u h)) H1.out H63.out.1 H63.out.2 (by simp) ?_)
    intro v8 w8 h8 g8 o8
    have FIN : Hid (∃ v', Ending.returned v8 = .returned v' ∧ w8.ownsRow w.heap.size 50 2 v' n xs ∧ Below w.heap.size w w8) := ⟨_, rfl, h8, cl_below g8⟩
    obtain ⟨va8, cap8, hv8⟩ := own_shp h8
    subst hv8
    clear h8 g8 o8
    go_wp2_with fail
    go_ret
    exact FIN.out
end Go.Proofs.YtkjkiknpgggadaaDoor

namespace Go.Proofs.YtkjkiknpgggadaaDoor.Cd
open Go.RowKit

theorem get_more {l : List Co} {x d : Co} {k : Nat} (h : l[k]? = some d) : (l ++ [x])[k]? = some d := by
  have := (List.getElem?_eq_some_iff.1 h).1
  rw [List.getElem?_append_left this, h]
theorem mc_more {B : Int} {l : List Co} {x : Co} {i : In} (h : mc B l i = true) : mc B (l ++ [x]) i = true ∧ ∃ d, l[i.n.toNat]? = some d := by
  unfold mc at h ⊢
  cases e : l[i.n.toNat]? with
  | none => rw [e] at h; simp at h
  | some d =>
    rw [e] at h
    rw [get_more e]
    exact ⟨h, d, rfl⟩
theorem al_more {B : Int} {l : List Co} {c x : Co} {i : In} (h : al B l c i = true) : al B (l ++ [x]) c i = true ∧ lv (l ++ [x]) i = lv l i := by
  unfold al at h ⊢
  unfold lv
  by_cases h19 : i.op = 19
  · have e1 : ¬ (i.op = 2 ∨ i.op = 3) := by omega
    have e2 : ¬ (i.op = 4 ∨ i.op = 5 ∨ i.op = 6) := by omega
    have e3 : ¬ (i.op = 17 ∨ i.op = 18) := by omega
    rw [if_neg e1, if_neg e2, if_neg e3, if_pos h19] at h ⊢
    obtain ⟨a, d, e⟩ := mc_more (x := x) h
    refine ⟨a, ?_⟩
    rw [if_pos h19, if_pos h19, e, get_more e]
  · rw [if_neg h19, if_neg h19]
    rw [if_neg h19] at h
    rw [if_neg h19]
    exact ⟨h, rfl⟩
theorem Rc.less {B : Int} {l : List Co} {c x : Co} (ha : ∀ i, i ∈ c.ins → hl i = true ∧ Cd.al B l c i = true) {p h : Int} (r : Rc (l ++ [x]) c p h) : Rc l c p h := by
  induction r with
  | zero => exact .zero
  | one p h i r hp e ho ih =>
    have := (al_more (x := x) (ha i (List.mem_of_getElem? e)).2).2
    rw [this]
    exact .one p h i ih hp e ho
  | two p h i r hp e ho ih =>
    have := (al_more (x := x) (ha i (List.mem_of_getElem? e)).2).2
    rw [this]
    exact .two p h i ih hp e ho
theorem Fit.more {B : Int} {l : List Co} {c x : Co} (h : Fit B l c) : Fit B (l ++ [x]) c :=
  ⟨h.sz, fun i hi => ⟨(h.al i hi).1, (al_more (h.al i hi).2).1⟩, fun p y r => h.lo p y (r.less h.al), fun p y y' r r' => h.eq p y y' (r.less h.al) (r'.less h.al)⟩
end Go.Proofs.YtkjkiknpgggadaaDoor.Cd

namespace Go.Proofs.YtkjkiknpgggadaaDoor
open Go.RowKit
set_option linter.unusedVariables false

theorem adM (g o n : Nat) : (⟨g, o, none⟩ : Addr).add n = ⟨g, o + n, none⟩ := by simp [Addr.add]
/-- A code as it lies: where its instructions are, how many there may be, and itself. -/
structure Lc where
  ia : Option Addr
  ic : Nat
  c : Cd.Co
def Lc.cs (p : Lc) : List Value := [.slice p.ia p.c.ins.length p.ic, .int .i64 p.c.cells, .int .i64 p.c.params, .bool p.c.ans]
def LcS (ps : List Lc) : List Value := ps.flatMap Lc.cs
theorem LcS_len : ∀ ps : List Lc, (LcS ps).length = ps.length * 4
  | [] => rfl
  | p :: ps => by
    have := LcS_len ps
    unfold LcS at this ⊢
    rw [List.flatMap_cons, List.length_append, this, List.length_cons]
    show 4 + _ = _
    omega
theorem LcS_one (ps : List Lc) : ∀ u ∈ LcS ps, u.oneCell' = true := by
  intro u hu
  obtain ⟨p, _, hp⟩ := List.mem_flatMap.1 hu
  unfold Lc.cs at hp
  simp only [List.mem_cons, List.not_mem_nil, or_false] at hp
  rcases hp with rfl | rfl | rfl | rfl <;> rfl
theorem LcS_get : ∀ (ps : List Lc) (j : Nat) (p : Lc), ps[j]? = some p → (LcS ps)[j * 4]? = some (.slice p.ia p.c.ins.length p.ic) ∧ (LcS ps)[j * 4 + 1]? = some (.int .i64 p.c.cells) ∧ (LcS ps)[j * 4 + 2]? = some (.int .i64 p.c.params) ∧ (LcS ps)[j * 4 + 3]? = some (.bool p.c.ans)
  | [], j, p, h => by simp at h
  | q :: ps, 0, p, h => by
    simp at h
    subst h
    exact ⟨rfl, rfl, rfl, rfl⟩
  | q :: ps, j + 1, p, h => by
    have ih := LcS_get ps j p (by simpa using h)
    have e : ∀ k, (LcS (q :: ps))[(j + 1) * 4 + k]? = (LcS ps)[j * 4 + k]? := fun k => by
      unfold LcS
      rw [List.flatMap_cons, List.getElem?_append_right (by show 4 ≤ _; omega)]
      congr 1
      show _ - 4 = _
      omega
    exact ⟨(e 0).trans ih.1, (e 1).trans ih.2.1, (e 2).trans ih.2.2.1, (e 3).trans ih.2.2.2⟩
/-- What lies for codes. -/
structure LcM (B : Nat) (w : World) (a : Addr) (l : List Cd.Co) (ps : List Lc) : Prop where
  eq : ps.map Lc.c = l
  get : ∀ j u, (LcS ps)[j]? = some u → w.cell? (a.add j) = some u
  hi : ∀ p ∈ ps, InS B w p.ia p.c.ins ∧ p.c.ins.length ≤ p.ic
theorem lists_of {α β : Type} {R : Nat → α → β → Prop} : ∀ (l : List α) (k : Nat), (∀ j c, l[j]? = some c → ∃ y, R (k + j) c y) → ∃ ys : List β, ys.length = l.length ∧ ∀ j c y, l[j]? = some c → ys[j]? = some y → R (k + j) c y
  | [], k, _ => ⟨[], rfl, fun j c y h => by simp at h⟩
  | c :: l, k, h => by
    obtain ⟨y, hy⟩ := h 0 c rfl
    obtain ⟨ys, e, hs⟩ := lists_of l (k + 1) fun j d hj => by
      obtain ⟨z, hz⟩ := h (j + 1) d (by simpa using hj)
      exact ⟨z, by rw [Nat.add_assoc, Nat.add_comm 1 j]; exact hz⟩
    refine ⟨y :: ys, by simp [e], fun j d z hd hz => ?_⟩
    match j with
    | 0 => simp at hd hz; subst hd; subst hz; exact hy
    | j + 1 =>
      have := hs j d z (by simpa using hd) (by simpa using hz)
      rw [Nat.add_assoc, Nat.add_comm 1 j] at this
      exact this
theorem CoS.lcm {B : Nat} {w : World} {la : Option Addr} {l : List Cd.Co} (h : CoS B w la l) (h0 : 0 < l.length) : ∃ g o ps, la = some ⟨g, o, none⟩ ∧ g < B ∧ LcM B w ⟨g, o, none⟩ l ps := by
  obtain ⟨g, o, rfl, hg, hc⟩ := h.2 h0
  obtain ⟨ys, e, hs⟩ := lists_of (R := fun j c (y : Option Addr × Nat) => CoAt B w g (o + j * 4) c y.1 y.2) l 0 fun j c hj => by
    obtain ⟨ia, ic, q⟩ := hc j c hj
    exact ⟨(ia, ic), by rw [Nat.zero_add]; exact q⟩
  refine ⟨g, o, (l.zip ys).map fun p => ⟨p.2.1, p.2.2, p.1⟩, rfl, hg, ?_, fun j u hu => ?_, fun p hp => ?_⟩
  · rw [List.map_map]
    show (l.zip ys).map (fun p => p.1) = l
    rw [List.map_fst_zip]
    omega
  · obtain ⟨k, r, rfl, h4⟩ : ∃ k r, j = k * 4 + r ∧ r < 4 := ⟨j / 4, j % 4, by omega, Nat.mod_lt _ (by decide)⟩
    have hj : k < l.length := by
      have := (List.getElem?_eq_some_iff.1 hu).1
      rw [LcS_len, List.length_map, List.length_zip, e, Nat.min_self] at this
      omega
    obtain ⟨c, hc1⟩ : ∃ c, l[k]? = some c := ⟨_, List.getElem?_eq_getElem hj⟩
    obtain ⟨y, hy⟩ : ∃ y, ys[k]? = some y := ⟨_, List.getElem?_eq_getElem (by omega)⟩
    have hp : ((l.zip ys).map fun p => (⟨p.2.1, p.2.2, p.1⟩ : Lc))[k]? = some ⟨y.1, y.2, c⟩ := by
      rw [List.getElem?_map, (List.getElem?_zip_eq_some (z := (c, y))).2 ⟨hc1, hy⟩]
      rfl
    have q := hs k _ _ hc1 hy
    rw [Nat.zero_add] at q
    obtain ⟨a0, a1, a2, a3⟩ := LcS_get _ _ _ hp
    rw [adM]
    match r, h4 with
    | 0, _ => rw [Nat.add_zero] at hu; rw [a0] at hu; rw [Nat.add_zero, ← hu]; exact q.c0
    | 1, _ => rw [a1] at hu; rw [← hu, ← Nat.add_assoc]; exact q.c1
    | 2, _ => rw [a2] at hu; rw [← hu, ← Nat.add_assoc]; exact q.c2
    | 3, _ => rw [a3] at hu; rw [← hu, ← Nat.add_assoc]; exact q.c3
  · obtain ⟨x, hx, rfl⟩ := List.mem_map.1 hp
    obtain ⟨j, hj⟩ := List.getElem?_of_mem hx
    have hj1 : l[j]? = some x.1 := by
      have := (List.getElem?_zip_eq_some.1 hj).1
      exact this
    have hj2 : ys[j]? = some x.2 := (List.getElem?_zip_eq_some.1 hj).2
    have q := hs j _ _ hj1 hj2
    exact ⟨q.hi, q.hc⟩
end Go.Proofs.YtkjkiknpgggadaaDoor

