/- CodeMore: the walk, where there are no codes. -/
import Derived.Test.YtdaipapfkekfpaaDoorCdMw
namespace Go.Proofs.YtdaipapfkekfpaaDoor
open Go.RowKit
set_option linter.unusedVariables false
set_option linter.unusedSimpArgs false

theorem more_mem0 {B N ic cap : Nat} {ia va : Option Addr} {c : Cd.Co} {w w9 : World} {T : TypeId} (h : Tt B w ∧ Tm B w ∧ InS B w ia c.ins ∧ N = c.ins.length ∧ c.ins.length ≤ ic ∧ c.Ok)
    (R9 : w9.ownsRow w.heap.size T 4 (.slice va (0 + 1) cap) (0 + 1) ([] ++ [.slice ia N ic, .int .i64 c.cells, .int .i64 c.params, .bool c.ans])) (B9 : Below w.heap.size w w9) : CdH w9.heap.size w9 va [c] := by
  obtain ⟨ht, hm, hi, rfl, hn, ok⟩ := h
  have b := B9.mono ht.hB
  have hs : B ≤ w9.heap.size := Nat.le_trans ht.hB B9.size
  have e : ([] ++ [.slice ia c.ins.length ic, .int .i64 c.cells, .int .i64 c.params, .bool c.ans] : List Value) = LcS [⟨ia, ic, c⟩] := rfl
  rw [e] at R9
  obtain ⟨a, cp, hv, co⟩ := own_cos R9 rfl (by omega) (by omega) (fun p hp => by
    simp at hp
    subst hp
    exact ⟨(hi.later b).mono hs, hn⟩)
  cases hv
  exact ⟨Nat.le_refl _, co, fun d hd => by
    simp at hd
    subst hd
    exact ok, (ht.tn.later b).mono hs, (hm.later b).mono hs⟩
set_option maxRecDepth 100000 in
set_option maxHeartbeats 8000000 in
theorem more8_nil (lc : Nat) (main : Int) (ia : Option Addr) (ic : Nat) (c : Cd.Co) (B : Nat) (w : World) (ht : Tt B w) (hm : Tm B w) (hci : InS B w ia c.ins) (hcc : c.ins.length ≤ ic) (ok : c.Ok) : Calls Tryd.prog 7 #[.slice none 0 lc, .int .i64 main, coV ia ic c] w fun e w' => e = .returned (.bool true) ∧ Below w.heap.size w w' := by
  obtain ⟨i0, hi, hz0, hz1, hz2⟩ := info_parts infoCo
  obtain ⟨N, hN⟩ : ∃ N, N = c.ins.length := ⟨_, rfl⟩
  have H63 : Hid (0 + 1 ≤ maxLen ∧ ((0 + 1) + (0 + 1) / 4 + 192) * 48 ≤ 281474976710656) := by unfold Hid maxLen; omega
  obtain ⟨W, hW⟩ : ∃ W, W = w.alloc (coB ia N ic c) := ⟨_, rfl⟩
  obtain ⟨bx, hbx⟩ : ∃ bx, bx = w.heap.size := ⟨_, rfl⟩
  have BW : Hid (Below w.heap.size w W) := by unfold Hid; rw [hW]; exact (Below.refl _ _).alloc (Nat.le_refl _) _
  have bl : bx < W.heap.size := by rw [hbx, hW]; simp
  have hb : W.heap[bx]? = some (coB ia N ic c) := by rw [hbx, hW]; exact Array.getElem?_push_size
  have t0 : W.cell? ⟨bx, 0, none⟩ = some (.slice ia N ic) := by simp [World.cell?, hb]
  have t1 : W.cell? ⟨bx, 1, none⟩ = some (.int .i64 c.cells) := by simp [World.cell?, hb]
  have t2 : W.cell? ⟨bx, 2, none⟩ = some (.int .i64 c.params) := by simp [World.cell?, hb]
  have t3 : W.cell? ⟨bx, 3, none⟩ = some (.bool c.ans) := by simp [World.cell?, hb]
  have HB : Hid (W.heap[bx]? = some (coB ia N ic c)) := hb
  have bln : ¬ bx = W.heap.size := Nat.ne_of_lt bl
  show Calls _ _ #[_, _, .agg #[.slice ia c.ins.length ic, .int .i64 c.cells, .int .i64 c.params, .bool c.ans]] _ _
  rw [← hN]
  have HALL : Hid (Tt B w ∧ Tm B w ∧ InS B w ia c.ins ∧ N = c.ins.length ∧ c.ins.length ≤ ic ∧ c.Ok) := ⟨ht, hm, hci, hN, hcc, ok⟩
  clear ht hm hci hcc ok hN hb
  go_enter Tryd.func7, Tryd.ntmps7
  go_upto_region 1 with fail
  rw [← hW, ← hbx]
  clear hW hbx
  go_upto_region 2 with fail
  go_region_law (first
      | (rw [if_pos (by rfl)]; refine wp_append_own_wide _ _ _ 36 rfl w.heap.size 33 i0 (.agg #[.slice none 0 0, .int .i64 0, .int .i64 0, .bool false]) 4 48 Tryd.underlying36 hi hz0 hz1 hz2 rfl (by decide) (.slice none 0 0) 0 [] rfl (World.ownsRow_nil _ _ _ _) ⟨W.heap.size, 0, none⟩ 1 1 [.slice ia N ic, .int .i64 c.cells, .int .i64 c.params, .bool c.ans] rfl rfl (cells4_of (by first | (simp; done) | (simp [go_sem]; done) | fail) (by first | (simp; done) | (simp [go_sem]; done) | fail) (by first | (simp; done) | (simp [go_sem]; done) | fail) (by first | (simp; done) | (simp [go_sem]; done) | fail)) (co_oneN ia N ic c) H63.out.1 H63.out.2 (by have := BW.out.size; simp; omega) ?_; intro v9 w9 h9 g9 o9; have b9 := grown_none g9 rfl; have B9 : Hid (Below w.heap.size w w9) := BW.out.trans ((Below.trans (by go_grown : Below W.heap.size W _) (b9.mono (by go_size))).mono BW.out.size); obtain ⟨va9, cap9, hv9⟩ := ownSh h9; subst hv9; have C9 : Hid (CdH w9.heap.size w9 va9 [c]) := more_mem0 HALL.out h9 B9.out; clear g9 o9 h9 b9))
  all_goals
    have EG : Hid (∀ X, Below w9.heap.size w9 X → Calls Tryd.prog 16 #[.slice va9 1 cap9] X fun e w' => ∃ b : Bool, e = .returned (.bool b) ∧ Below w9.heap.size w9 w') := fun X hX => by
      have := great8_any w9.heap.size va9 cap9 [c] X (C9.out.later hX)
      exact this.mono fun e w' ⟨v, a, ⟨b, hb⟩, d⟩ => ⟨b, by rw [a, hb], hX.trans (d.mono hX.size)⟩
    have EZ : Hid (∀ X, Below w9.heap.size w9 X → Calls Tryd.prog 17 #[.slice va9 1 cap9, .int .i64 70000] X fun e w' => ∃ n : Int, e = .returned (.int .i64 n) ∧ Below w9.heap.size w9 w') := fun X hX => by
      have := rSize_any w9.heap.size va9 cap9 [c] 70000 X (C9.out.later hX)
      exact this.mono fun e w' ⟨v, a, ⟨b, hb⟩, d⟩ => ⟨b, by rw [a, hb], hX.trans (d.mono hX.size)⟩
    have EL : Hid (∀ X, Below w9.heap.size w9 X → Calls Tryd.prog 18 #[.slice none 0 lc, .int .i64 main] X fun e w' => e = .returned (.bool false) ∧ Below w9.heap.size w9 w') := fun X hX => by
      refine (cdSnd_out main none lc [] X (fun h => by have := h.2; simp at this; omega)).mono fun e w' ⟨b, a, d, f⟩ => ⟨?_, hX.trans (f.mono hX.size)⟩
      have hb : b = false := by
        cases b with
        | false => rfl
        | true =>
          obtain ⟨_, _, ⟨z, h3, _⟩, _⟩ := d.1 rfl
          simp at h3
      rw [a, hb]
    have EK : Hid (∀ X, Below w9.heap.size w9 X → Calls Tryd.prog 9 #[] X fun e w' => e = .returned (.bool true) ∧ Below w.heap.size w w') := fun X hX => by
      have b := B9.out.trans (hX.mono B9.out.size)
      exact (known8 B X (HALL.out.1.later b) (HALL.out.2.1.later (b.mono HALL.out.1.hB))).mono fun e w' ⟨a, d⟩ => ⟨a, b.trans (d.mono b.size)⟩
    have B0 : Hid (Below w9.heap.size w9 w9) := Below.refl _ _
    clear C9 HALL t0 t1 t2 t3 HB
    go_wp2_with fail
    refine Calls.mono (EG.out _ B0.out) ?_
    rintro e10 w10 ⟨bg, rfl, b10⟩
    have B10 : Hid (Below w9.heap.size w9 w10) := b10
    clear b10
    cases bg with
    | true =>
      go_wp2_with fail
      refine Calls.mono (EK.out _ B10.out) ?_
      rintro e20 w20 ⟨rfl, b20⟩
      have B20 : Hid (Below w.heap.size w w20) := b20
      clear b20
      go_wp2_with fail
      go_ret
      exact ⟨rfl, B20.out⟩
    | false =>
      go_wp2_with fail
      refine Calls.mono (EZ.out _ B10.out) ?_
      rintro e11 w11 ⟨n, rfl, b11⟩
      have B11 : Hid (Below w9.heap.size w9 w11) := b11
      clear b11 B10
      by_cases hn : (70000 : Int) < n
      · have dn : decide ((70000 : Int) < n) = true := decide_eq_true hn
        go_wp2_with fail
        refine Calls.mono (EK.out _ B11.out) ?_
        rintro e20 w20 ⟨rfl, b20⟩
        have B20 : Hid (Below w.heap.size w w20) := b20
        clear b20
        go_wp2_with fail
        go_ret
        exact ⟨rfl, B20.out⟩
      · have dn : decide ((70000 : Int) < n) = false := decide_eq_false hn
        go_wp2_with fail
        refine Calls.mono (EL.out _ B11.out) ?_
        rintro e12 w12 ⟨rfl, b12⟩
        have B12 : Hid (Below w9.heap.size w9 w12) := b12
        clear b12 B11
        go_wp2_with fail
        refine Calls.mono (EK.out _ B12.out) ?_
        rintro e20 w20 ⟨rfl, b20⟩
        have B20 : Hid (Below w.heap.size w w20) := b20
        clear b20
        go_wp2_with fail
        go_ret
        exact ⟨rfl, B20.out⟩
set_option maxRecDepth 100000 in
set_option maxHeartbeats 8000000 in
theorem more8_emp (ad : Addr) (lc : Nat) (main : Int) (ia : Option Addr) (ic : Nat) (c : Cd.Co) (B : Nat) (w : World) (ht : Tt B w) (hm : Tm B w) (hci : InS B w ia c.ins) (hcc : c.ins.length ≤ ic) (ok : c.Ok) : Calls Tryd.prog 7 #[.slice (some ad) 0 lc, .int .i64 main, coV ia ic c] w fun e w' => e = .returned (.bool true) ∧ Below w.heap.size w w' := by
  obtain ⟨i0, hi, hz0, hz1, hz2⟩ := info_parts infoCo
  obtain ⟨N, hN⟩ : ∃ N, N = c.ins.length := ⟨_, rfl⟩
  have H63 : Hid (0 + 1 ≤ maxLen ∧ ((0 + 1) + (0 + 1) / 4 + 192) * 48 ≤ 281474976710656) := by unfold Hid maxLen; omega
  obtain ⟨W, hW⟩ : ∃ W, W = w.alloc (coB ia N ic c) := ⟨_, rfl⟩
  obtain ⟨bx, hbx⟩ : ∃ bx, bx = w.heap.size := ⟨_, rfl⟩
  have BW : Hid (Below w.heap.size w W) := by unfold Hid; rw [hW]; exact (Below.refl _ _).alloc (Nat.le_refl _) _
  have bl : bx < W.heap.size := by rw [hbx, hW]; simp
  have hb : W.heap[bx]? = some (coB ia N ic c) := by rw [hbx, hW]; exact Array.getElem?_push_size
  have t0 : W.cell? ⟨bx, 0, none⟩ = some (.slice ia N ic) := by simp [World.cell?, hb]
  have t1 : W.cell? ⟨bx, 1, none⟩ = some (.int .i64 c.cells) := by simp [World.cell?, hb]
  have t2 : W.cell? ⟨bx, 2, none⟩ = some (.int .i64 c.params) := by simp [World.cell?, hb]
  have t3 : W.cell? ⟨bx, 3, none⟩ = some (.bool c.ans) := by simp [World.cell?, hb]
  have HB : Hid (W.heap[bx]? = some (coB ia N ic c)) := hb
  have bln : ¬ bx = W.heap.size := Nat.ne_of_lt bl
  show Calls _ _ #[_, _, .agg #[.slice ia c.ins.length ic, .int .i64 c.cells, .int .i64 c.params, .bool c.ans]] _ _
  rw [← hN]
  have HALL : Hid (Tt B w ∧ Tm B w ∧ InS B w ia c.ins ∧ N = c.ins.length ∧ c.ins.length ≤ ic ∧ c.Ok) := ⟨ht, hm, hci, hN, hcc, ok⟩
  clear ht hm hci hcc ok hN hb
  go_enter Tryd.func7, Tryd.ntmps7
  go_upto_region 1 with fail
  rw [← hW, ← hbx]
  clear hW hbx
  go_upto_region 2 with fail
  go_region_law (first
      | (rw [if_pos (by rfl)]; refine wp_append_own_wide _ _ _ 36 rfl w.heap.size 33 i0 (.agg #[.slice none 0 0, .int .i64 0, .int .i64 0, .bool false]) 4 48 Tryd.underlying36 hi hz0 hz1 hz2 rfl (by decide) (.slice none 0 0) 0 [] rfl (World.ownsRow_nil _ _ _ _) ⟨W.heap.size, 0, none⟩ 1 1 [.slice ia N ic, .int .i64 c.cells, .int .i64 c.params, .bool c.ans] rfl rfl (cells4_of (by first | (simp; done) | (simp [go_sem]; done) | fail) (by first | (simp; done) | (simp [go_sem]; done) | fail) (by first | (simp; done) | (simp [go_sem]; done) | fail) (by first | (simp; done) | (simp [go_sem]; done) | fail)) (co_oneN ia N ic c) H63.out.1 H63.out.2 (by have := BW.out.size; simp; omega) ?_; intro v9 w9 h9 g9 o9; have b9 := grown_none g9 rfl; have B9 : Hid (Below w.heap.size w w9) := BW.out.trans ((Below.trans (by go_grown : Below W.heap.size W _) (b9.mono (by go_size))).mono BW.out.size); obtain ⟨va9, cap9, hv9⟩ := ownSh h9; subst hv9; have C9 : Hid (CdH w9.heap.size w9 va9 [c]) := more_mem0 HALL.out h9 B9.out; clear g9 o9 h9 b9))
  all_goals
    have EG : Hid (∀ X, Below w9.heap.size w9 X → Calls Tryd.prog 16 #[.slice va9 1 cap9] X fun e w' => ∃ b : Bool, e = .returned (.bool b) ∧ Below w9.heap.size w9 w') := fun X hX => by
      have := great8_any w9.heap.size va9 cap9 [c] X (C9.out.later hX)
      exact this.mono fun e w' ⟨v, a, ⟨b, hb⟩, d⟩ => ⟨b, by rw [a, hb], hX.trans (d.mono hX.size)⟩
    have EZ : Hid (∀ X, Below w9.heap.size w9 X → Calls Tryd.prog 17 #[.slice va9 1 cap9, .int .i64 70000] X fun e w' => ∃ n : Int, e = .returned (.int .i64 n) ∧ Below w9.heap.size w9 w') := fun X hX => by
      have := rSize_any w9.heap.size va9 cap9 [c] 70000 X (C9.out.later hX)
      exact this.mono fun e w' ⟨v, a, ⟨b, hb⟩, d⟩ => ⟨b, by rw [a, hb], hX.trans (d.mono hX.size)⟩
    have EL : Hid (∀ X, Below w9.heap.size w9 X → Calls Tryd.prog 18 #[.slice (some ad) 0 lc, .int .i64 main] X fun e w' => e = .returned (.bool false) ∧ Below w9.heap.size w9 w') := fun X hX => by
      refine (cdSnd_out main (some ad) lc [] X (fun h => by have := h.2; simp at this; omega)).mono fun e w' ⟨b, a, d, f⟩ => ⟨?_, hX.trans (f.mono hX.size)⟩
      have hb : b = false := by
        cases b with
        | false => rfl
        | true =>
          obtain ⟨_, _, ⟨z, h3, _⟩, _⟩ := d.1 rfl
          simp at h3
      rw [a, hb]
    have EK : Hid (∀ X, Below w9.heap.size w9 X → Calls Tryd.prog 9 #[] X fun e w' => e = .returned (.bool true) ∧ Below w.heap.size w w') := fun X hX => by
      have b := B9.out.trans (hX.mono B9.out.size)
      exact (known8 B X (HALL.out.1.later b) (HALL.out.2.1.later (b.mono HALL.out.1.hB))).mono fun e w' ⟨a, d⟩ => ⟨a, b.trans (d.mono b.size)⟩
    have B0 : Hid (Below w9.heap.size w9 w9) := Below.refl _ _
    clear C9 HALL t0 t1 t2 t3 HB
    go_wp2_with fail
    refine Calls.mono (EG.out _ B0.out) ?_
    rintro e10 w10 ⟨bg, rfl, b10⟩
    have B10 : Hid (Below w9.heap.size w9 w10) := b10
    clear b10
    cases bg with
    | true =>
      go_wp2_with fail
      refine Calls.mono (EK.out _ B10.out) ?_
      rintro e20 w20 ⟨rfl, b20⟩
      have B20 : Hid (Below w.heap.size w w20) := b20
      clear b20
      go_wp2_with fail
      go_ret
      exact ⟨rfl, B20.out⟩
    | false =>
      go_wp2_with fail
      refine Calls.mono (EZ.out _ B10.out) ?_
      rintro e11 w11 ⟨n, rfl, b11⟩
      have B11 : Hid (Below w9.heap.size w9 w11) := b11
      clear b11 B10
      by_cases hn : (70000 : Int) < n
      · have dn : decide ((70000 : Int) < n) = true := decide_eq_true hn
        go_wp2_with fail
        refine Calls.mono (EK.out _ B11.out) ?_
        rintro e20 w20 ⟨rfl, b20⟩
        have B20 : Hid (Below w.heap.size w w20) := b20
        clear b20
        go_wp2_with fail
        go_ret
        exact ⟨rfl, B20.out⟩
      · have dn : decide ((70000 : Int) < n) = false := decide_eq_false hn
        go_wp2_with fail
        refine Calls.mono (EL.out _ B11.out) ?_
        rintro e12 w12 ⟨rfl, b12⟩
        have B12 : Hid (Below w9.heap.size w9 w12) := b12
        clear b12 B11
        go_wp2_with fail
        refine Calls.mono (EK.out _ B12.out) ?_
        rintro e20 w20 ⟨rfl, b20⟩
        have B20 : Hid (Below w.heap.size w w20) := b20
        clear b20
        go_wp2_with fail
        go_ret
        exact ⟨rfl, B20.out⟩
end Go.Proofs.YtdaipapfkekfpaaDoor
