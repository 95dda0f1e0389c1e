/- Layer 9: slices.Clone: a row of its own. -/
import Derived.Test.YtodpdnidinnjjaaDoorTVmT
import Derived.Test.YtodpdnidinnjjaaDoorTCdK
import Derived.Deep.DeepAppendWide
namespace Go.Proofs.YtodpdnidinnjjaaDoor
open Go.RowKit
set_option linter.unusedVariables false
set_option linter.unusedSimpArgs false

theorem cl_below {w w8 : World} {o : Obj} (g8 : (w.alloc o).grownBy w8 (some w.heap.size)) : Below w.heap.size w w8 :=
  ⟨g8.os, g8.tape, g8.output, Nat.le_trans (by simp) g8.size, fun k hk => (g8.block k (by simp; omega) (fun e => by cases e; omega)).trans (by rw [((Below.refl w.heap.size w).alloc (Nat.le_refl _) o).block k hk])⟩
theorem infNu : (Tryd.prog.info? 2).map (fun i => (i.zero, i.size, i.bytes)) = some (some (.int .i64 0), 1, 8) := by kernel_rfl
set_option maxRecDepth 100000 in
set_option maxHeartbeats 4000000 in
theorem cloneNu (w : World) (a : Option Addr) (n c : Nat) (xs : List Value) (ha : a = none → n = 0) (hl : xs.length = n * 1) (hx : ∀ ad, a = some ad → ∀ j u, xs[j]? = some u → w.cell? (ad.add j) = some u) (h1 : ∀ u ∈ xs, u.oneCell' = true) (hb : n ≤ 1000000000000) :
    Calls Tryd.prog 48 #[.slice a n c] w fun e w' => ∃ v', e = .returned v' ∧ w'.ownsRow w.heap.size 2 1 v' n xs ∧ Below w.heap.size w w' := by
  obtain ⟨i0, hi, hz0, hz1, hz2⟩ := info_parts infNu
  cases a with
  | none =>
    obtain rfl := ha rfl
    obtain rfl : xs = [] := List.length_eq_zero_iff.1 (by simpa using hl)
    have FIN : Hid (∃ v', Ending.returned (.slice none 0 0) = .returned v' ∧ w.ownsRow w.heap.size 2 1 v' 0 [] ∧ Below w.heap.size w w) := ⟨_, rfl, World.ownsRow_nil _ _ _ _, Below.refl _ _⟩
    have hq : Sem.run Tryd.prog (binOp BinOp.eql 23 (.slice none 0 c) (.slice none 0 0)) w = .ok (.bool true) w := by kernel_rfl
    clear hx h1 hl
    go_enter Tryd.func48, Tryd.ntmps48
    go_wp2_with fail
    go_ret
    exact FIN.out
  | some ad =>
    have HX : Hid (∀ j u, xs[j]? = some u → w.cell? (ad.add j) = some u) := hx ad rfl
    have HL : Hid (xs.length = n * 1) := hl
    have H1 : Hid (∀ u ∈ xs, u.oneCell' = true) := h1
    have H63 : Hid (0 + n ≤ maxLen ∧ ((0 + n) + (0 + n) / 4 + 192) * 8 ≤ 281474976710656) := by unfold Hid maxLen; omega
    have HAD : Hid (∀ (W : World) (o : Obj) (j : Nat) (u : Value), W.cell? (ad.add j) = some u → (W.alloc o).cell? (ad.add j) = some u) := fun W o j u h => by
      have hb : (ad.add j).block < W.heap.size := by
        unfold World.cell? at h
        split at h
        · rename_i e
          exact (Array.getElem?_eq_some_iff.1 e).1
        · cases h
      exact (((Below.refl W.heap.size W).alloc (Nat.le_refl _) o).cell (p := ad.add j) hb).trans h
    clear hx hl h1 ha
    obtain ⟨ab, ao, asp⟩ := ad
    have hq : Sem.run Tryd.prog (binOp BinOp.eql 23 (.slice (some ⟨ab, ao, asp⟩) n c) (.slice none 0 0)) w = .ok (.bool false) w := by kernel_rfl
    go_enter Tryd.func48, Tryd.ntmps48
    go_wp2_with (at_builtin; refine wpList_append_own_wide _ rfl _ _ 23 rfl w.heap.size 2 i0 (.int .i64 0) 1 8 Tryd.underlying23 hi hz0 hz1 hz2 rfl (by decide) (.slice (some ⟨w.heap.size, 0, none⟩) 0 0) 0 [] rfl (World.ownsRow_lit w #[] 0 (Nat.le_refl _) (Nat.zero_le _) rfl) ⟨ab, ao, asp⟩ n c xs rfl HL.out (fun j u h => HAD.out _ _ j u (HX.out j u h)) H1.out H63.out.1 H63.out.2 (by simp) ?_)
    intro v8 w8 h8 g8 o8
    have FIN : Hid (∃ v', Ending.returned v8 = .returned v' ∧ w8.ownsRow w.heap.size 2 1 v' n xs ∧ Below w.heap.size w w8) := ⟨_, rfl, h8, cl_below g8⟩
    obtain ⟨va8, cap8, hv8⟩ := own_shp h8
    subst hv8
    clear h8 g8 o8
    go_wp2_with fail
    go_ret
    exact FIN.out
theorem infCo : (Tryd.prog.info? 53).map (fun i => (i.zero, i.size, i.bytes)) = some (some (.agg #[.slice none 0 0, .int .i64 0, .int .i64 0, .bool false]), 4, 48) := by kernel_rfl
set_option maxRecDepth 100000 in
set_option maxHeartbeats 4000000 in
theorem cloneCo (w : World) (a : Option Addr) (n c : Nat) (xs : List Value) (ha : a = none → n = 0) (hl : xs.length = n * 4) (hx : ∀ ad, a = some ad → ∀ j u, xs[j]? = some u → w.cell? (ad.add j) = some u) (h1 : ∀ u ∈ xs, u.oneCell' = true) (hb : n ≤ 1000000000000) :
    Calls Tryd.prog 67 #[.slice a n c] w fun e w' => ∃ v', e = .returned v' ∧ w'.ownsRow w.heap.size 53 4 v' n xs ∧ Below w.heap.size w w' := by
  obtain ⟨i0, hi, hz0, hz1, hz2⟩ := info_parts infCo
  cases a with
  | none =>
    obtain rfl := ha rfl
    obtain rfl : xs = [] := List.length_eq_zero_iff.1 (by simpa using hl)
    have FIN : Hid (∃ v', Ending.returned (.slice none 0 0) = .returned v' ∧ w.ownsRow w.heap.size 53 4 v' 0 [] ∧ Below w.heap.size w w) := ⟨_, rfl, World.ownsRow_nil _ _ _ _, Below.refl _ _⟩
    have hq : Sem.run Tryd.prog (binOp BinOp.eql 22 (.slice none 0 c) (.slice none 0 0)) w = .ok (.bool true) w := by kernel_rfl
    clear hx h1 hl
    go_enter Tryd.func67, Tryd.ntmps67
    go_wp2_with fail
    go_ret
    exact FIN.out
  | some ad =>
    have HX : Hid (∀ j u, xs[j]? = some u → w.cell? (ad.add j) = some u) := hx ad rfl
    have HL : Hid (xs.length = n * 4) := hl
    have H1 : Hid (∀ u ∈ xs, u.oneCell' = true) := h1
    have H63 : Hid (0 + n ≤ maxLen ∧ ((0 + n) + (0 + n) / 4 + 192) * 48 ≤ 281474976710656) := by unfold Hid maxLen; omega
    have HAD : Hid (∀ (W : World) (o : Obj) (j : Nat) (u : Value), W.cell? (ad.add j) = some u → (W.alloc o).cell? (ad.add j) = some u) := fun W o j u h => by
      have hb : (ad.add j).block < W.heap.size := by
        unfold World.cell? at h
        split at h
        · rename_i e
          exact (Array.getElem?_eq_some_iff.1 e).1
        · cases h
      exact (((Below.refl W.heap.size W).alloc (Nat.le_refl _) o).cell (p := ad.add j) hb).trans h
    clear hx hl h1 ha
    obtain ⟨ab, ao, asp⟩ := ad
    have hq : Sem.run Tryd.prog (binOp BinOp.eql 22 (.slice (some ⟨ab, ao, asp⟩) n c) (.slice none 0 0)) w = .ok (.bool false) w := by kernel_rfl
    go_enter Tryd.func67, Tryd.ntmps67
    go_wp2_with (at_builtin; refine wpList_append_own_wide _ rfl _ _ 22 rfl w.heap.size 53 i0 (.agg #[.slice none 0 0, .int .i64 0, .int .i64 0, .bool false]) 4 48 Tryd.underlying22 hi hz0 hz1 hz2 rfl (by decide) (.slice (some ⟨w.heap.size, 0, none⟩) 0 0) 0 [] rfl (World.ownsRow_lit w #[] 0 (Nat.le_refl _) (Nat.zero_le _) rfl) ⟨ab, ao, asp⟩ n c xs rfl HL.out (fun j u h => HAD.out _ _ j u (HX.out j u h)) H1.out H63.out.1 H63.out.2 (by simp) ?_)
    intro v8 w8 h8 g8 o8
    have FIN : Hid (∃ v', Ending.returned v8 = .returned v' ∧ w8.ownsRow w.heap.size 53 4 v' n xs ∧ Below w.heap.size w w8) := ⟨_, rfl, h8, cl_below g8⟩
    obtain ⟨va8, cap8, hv8⟩ := own_shp h8
    subst hv8
    clear h8 g8 o8
    go_wp2_with fail
    go_ret
    exact FIN.out
theorem infIn : (Tryd.prog.info? 57).map (fun i => (i.zero, i.size, i.bytes)) = some (some (.agg #[.int .i64 0, .int .i64 0, .int .i64 0]), 3, 24) := by kernel_rfl
set_option maxRecDepth 100000 in
set_option maxHeartbeats 4000000 in
theorem cloneIn (w : World) (a : Option Addr) (n c : Nat) (xs : List Value) (ha : a = none → n = 0) (hl : xs.length = n * 3) (hx : ∀ ad, a = some ad → ∀ j u, xs[j]? = some u → w.cell? (ad.add j) = some u) (h1 : ∀ u ∈ xs, u.oneCell' = true) (hb : n ≤ 1000000000000) :
    Calls Tryd.prog 68 #[.slice a n c] w fun e w' => ∃ v', e = .returned v' ∧ w'.ownsRow w.heap.size 57 3 v' n xs ∧ Below w.heap.size w w' := by
  obtain ⟨i0, hi, hz0, hz1, hz2⟩ := info_parts infIn
  cases a with
  | none =>
    obtain rfl := ha rfl
    obtain rfl : xs = [] := List.length_eq_zero_iff.1 (by simpa using hl)
    have FIN : Hid (∃ v', Ending.returned (.slice none 0 0) = .returned v' ∧ w.ownsRow w.heap.size 57 3 v' 0 [] ∧ Below w.heap.size w w) := ⟨_, rfl, World.ownsRow_nil _ _ _ _, Below.refl _ _⟩
    have hq : Sem.run Tryd.prog (binOp BinOp.eql 51 (.slice none 0 c) (.slice none 0 0)) w = .ok (.bool true) w := by kernel_rfl
    clear hx h1 hl
    go_enter Tryd.func68, Tryd.ntmps68
    go_wp2_with fail
    go_ret
    exact FIN.out
  | some ad =>
    have HX : Hid (∀ j u, xs[j]? = some u → w.cell? (ad.add j) = some u) := hx ad rfl
    have HL : Hid (xs.length = n * 3) := hl
    have H1 : Hid (∀ u ∈ xs, u.oneCell' = true) := h1
    have H63 : Hid (0 + n ≤ maxLen ∧ ((0 + n) + (0 + n) / 4 + 192) * 24 ≤ 281474976710656) := by unfold Hid maxLen; omega
    have HAD : Hid (∀ (W : World) (o : Obj) (j : Nat) (u : Value), W.cell? (ad.add j) = some u → (W.alloc o).cell? (ad.add j) = some u) := fun W o j u h => by
      have hb : (ad.add j).block < W.heap.size := by
        unfold World.cell? at h
        split at h
        · rename_i e
          exact (Array.getElem?_eq_some_iff.1 e).1
        · cases h
      exact (((Below.refl W.heap.size W).alloc (Nat.le_refl _) o).cell (p := ad.add j) hb).trans h
    clear hx hl h1 ha
    obtain ⟨ab, ao, asp⟩ := ad
    have hq : Sem.run Tryd.prog (binOp BinOp.eql 51 (.slice (some ⟨ab, ao, asp⟩) n c) (.slice none 0 0)) w = .ok (.bool false) w := by kernel_rfl
    go_enter Tryd.func68, Tryd.ntmps68
    go_wp2_with (at_builtin; refine wpList_append_own_wide _ rfl _ _ 51 rfl w.heap.size 57 i0 (.agg #[.int .i64 0, .int .i64 0, .int .i64 0]) 3 24 Tryd.underlying51 hi hz0 hz1 hz2 rfl (by decide) (.slice (some ⟨w.heap.size, 0, none⟩) 0 0) 0 [] rfl (World.ownsRow_lit w #[] 0 (Nat.le_refl _) (Nat.zero_le _) rfl) ⟨ab, ao, asp⟩ n c xs rfl HL.out (fun j u h => HAD.out _ _ j u (HX.out j u h)) H1.out H63.out.1 H63.out.2 (by simp) ?_)
    intro v8 w8 h8 g8 o8
    have FIN : Hid (∃ v', Ending.returned v8 = .returned v' ∧ w8.ownsRow w.heap.size 57 3 v' n xs ∧ Below w.heap.size w w8) := ⟨_, rfl, h8, cl_below g8⟩
    obtain ⟨va8, cap8, hv8⟩ := own_shp h8
    subst hv8
    clear h8 g8 o8
    go_wp2_with fail
    go_ret
    exact FIN.out
theorem infEv : (Tryd.prog.info? 43).map (fun i => (i.zero, i.size, i.bytes)) = some (some (.agg #[.int .i64 0, .int .i64 0]), 2, 16) := by kernel_rfl
set_option maxRecDepth 100000 in
set_option maxHeartbeats 4000000 in
theorem cloneEv (w : World) (a : Option Addr) (n c : Nat) (xs : List Value) (ha : a = none → n = 0) (hl : xs.length = n * 2) (hx : ∀ ad, a = some ad → ∀ j u, xs[j]? = some u → w.cell? (ad.add j) = some u) (h1 : ∀ u ∈ xs, u.oneCell' = true) (hb : n ≤ 1000000000000) :
    Calls Tryd.prog 45 #[.slice a n c] w fun e w' => ∃ v', e = .returned v' ∧ w'.ownsRow w.heap.size 43 2 v' n xs ∧ Below w.heap.size w w' := by
  obtain ⟨i0, hi, hz0, hz1, hz2⟩ := info_parts infEv
  cases a with
  | none =>
    obtain rfl := ha rfl
    obtain rfl : xs = [] := List.length_eq_zero_iff.1 (by simpa using hl)
    have FIN : Hid (∃ v', Ending.returned (.slice none 0 0) = .returned v' ∧ w.ownsRow w.heap.size 43 2 v' 0 [] ∧ Below w.heap.size w w) := ⟨_, rfl, World.ownsRow_nil _ _ _ _, Below.refl _ _⟩
    have hq : Sem.run Tryd.prog (binOp BinOp.eql 33 (.slice none 0 c) (.slice none 0 0)) w = .ok (.bool true) w := by kernel_rfl
    clear hx h1 hl
    go_enter Tryd.func45, Tryd.ntmps45
    go_wp2_with fail
    go_ret
    exact FIN.out
  | some ad =>
    have HX : Hid (∀ j u, xs[j]? = some u → w.cell? (ad.add j) = some u) := hx ad rfl
    have HL : Hid (xs.length = n * 2) := hl
    have H1 : Hid (∀ u ∈ xs, u.oneCell' = true) := h1
    have H63 : Hid (0 + n ≤ maxLen ∧ ((0 + n) + (0 + n) / 4 + 192) * 16 ≤ 281474976710656) := by unfold Hid maxLen; omega
    have HAD : Hid (∀ (W : World) (o : Obj) (j : Nat) (u : Value), W.cell? (ad.add j) = some u → (W.alloc o).cell? (ad.add j) = some u) := fun W o j u h => by
      have hb : (ad.add j).block < W.heap.size := by
        unfold World.cell? at h
        split at h
        · rename_i e
          exact (Array.getElem?_eq_some_iff.1 e).1
        · cases h
      exact (((Below.refl W.heap.size W).alloc (Nat.le_refl _) o).cell (p := ad.add j) hb).trans h
    clear hx hl h1 ha
    obtain ⟨ab, ao, asp⟩ := ad
    have hq : Sem.run Tryd.prog (binOp BinOp.eql 33 (.slice (some ⟨ab, ao, asp⟩) n c) (.slice none 0 0)) w = .ok (.bool false) w := by kernel_rfl
    go_enter Tryd.func45, Tryd.ntmps45
    go_wp2_with (at_builtin; refine wpList_append_own_wide _ rfl _ _ 33 rfl w.heap.size 43 i0 (.agg #[.int .i64 0, .int .i64 0]) 2 16 Tryd.underlying33 hi hz0 hz1 hz2 rfl (by decide) (.slice (some ⟨w.heap.size, 0, none⟩) 0 0) 0 [] rfl (World.ownsRow_lit w #[] 0 (Nat.le_refl _) (Nat.zero_le _) rfl) ⟨ab, ao, asp⟩ n c xs rfl HL.out (fun j u h => HAD.out _ _ j u (HX.out j u h)) H1.out H63.out.1 H63.out.2 (by simp) ?_)
    intro v8 w8 h8 g8 o8
    have FIN : Hid (∃ v', Ending.returned v8 = .returned v' ∧ w8.ownsRow w.heap.size 43 2 v' n xs ∧ Below w.heap.size w w8) := ⟨_, rfl, h8, cl_below g8⟩
    obtain ⟨va8, cap8, hv8⟩ := own_shp h8
    subst hv8
    clear h8 g8 o8
    go_wp2_with fail
    go_ret
    exact FIN.out
end Go.Proofs.YtodpdnidinnjjaaDoor
