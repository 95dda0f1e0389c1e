/- Layer 8: what an instruction takes and leaves, and which places come next (the document's effect and follow). -/
import Derived.Test.YtodpdnidinnjjaaDoorUCdR
import Derived.Test.YtodpdnidinnjjaaDoorUCdNp
import Derived.Test.YtodpdnidinnjjaaDoorUCdJ
import Derived.Deep.DeepAppendWide
import Derived.BigQuiet
namespace Go.Proofs.YtodpdnidinnjjaaDoor
open Go.RowKit
set_option linter.unusedVariables false
set_option linter.unusedSimpArgs false

abbrev rowBx (x : List UInt8) (n t l : Int) : Obj := .cells #[.string ⟨x.toArray⟩, .int .i64 n, .int .i64 t, .int .i64 l] 96
set_option maxRecDepth 100000 in
set_option maxHeartbeats 8000000 in
/-- No call. -/
theorem rEff_no (k : Nat) (n m : Int) (B : Nat) (la : Option Addr) (lc : Nat) (l : List Cd.Co) (w : World) (h1 : 1 ≤ k) (h2 : k ≤ 25) (h9 : k ≠ 19) : Calls Tryd.prog 84 #[.slice la l.length lc, inV ⟨k, n, m⟩] w fun e w' => e = .returned (.tuple #[.int .i64 (Cd.tk ⟨k, n, m⟩), .int .i64 (Cd.lv l ⟨k, n, m⟩)]) ∧ Below w.heap.size w w' := by
  obtain ⟨x, hx⟩ : ∃ x, x = Cd.wd k := ⟨_, rfl⟩
  obtain ⟨u, hu⟩ : ∃ u, u = Cd.nm k := ⟨_, rfl⟩
  obtain ⟨t, ht⟩ : ∃ t, t = Cd.takesL.getD k 0 := ⟨_, rfl⟩
  obtain ⟨v, hv⟩ : ∃ v, v = Cd.leavesL.getD k 0 := ⟨_, rfl⟩
  have EO : Hid (∀ W, Calls Tryd.prog 63 #[.int .i64 (k : Int)] W fun e w' => e = .returned (.agg #[.string ⟨x.toArray⟩, .int .i64 u, .int .i64 t, .int .i64 v]) ∧ Below W.heap.size W w') := fun W => by
    have := rOf_any (k : Int) W
    unfold ofV at this
    rw [if_pos ⟨by omega, by omega⟩, Int.toNat_natCast, ← hx, ← hu, ← ht, ← hv] at this
    exact this
  have ET : Hid (Cd.tk ⟨k, n, m⟩ = if k = 20 then n else t) := by
    unfold Hid Cd.tk
    dsimp only
    rw [if_neg (by omega), Int.toNat_natCast, ht]
    by_cases e : k = 20
    · rw [if_pos (by omega), if_pos e]
    · rw [if_neg (by omega), if_neg e]
  have EL : Hid (Cd.lv l ⟨k, n, m⟩ = if k = 20 then 0 else v) := by
    unfold Hid Cd.lv
    dsimp only
    rw [if_neg (by omega), Int.toNat_natCast, hv]
    by_cases e : k = 20
    · rw [if_pos (by omega), if_pos e]
    · rw [if_neg (by omega), if_neg e]
  rw [ET.out, EL.out]
  by_cases h20 : k = 20
  · rw [if_pos h20, if_pos h20]
    have k20 : ((k : Int) == 20) = true := by rw [h20]; rfl
    clear h20
    obtain ⟨W, hW⟩ : ∃ W, W = w.alloc (inB ⟨k, n, m⟩) := ⟨_, rfl⟩
    obtain ⟨b, hb⟩ : ∃ b, b = w.heap.size := ⟨_, rfl⟩
    obtain ⟨b0, b1, b2, bw⟩ := in_box w ⟨k, n, m⟩ b W hb hW
    dsimp only at b0 b1 b2
    have bl : b < W.heap.size := by rw [hb, hW]; simp
    have BW : Hid (Below w.heap.size w W) := bw
    clear hx hu ht hv bw ET EL
    go_enter Tryd.func84, Tryd.ntmps84
    go_upto_region 1 with fail
    first | rw [← hW, ← hb] | rw [← hW]
    clear hW hb
    go_wp2_with fail
    refine Calls.mono (EO.out _) ?_
    rintro e1 w1 ⟨rfl, y1⟩
    have B1 : Hid (Below w.heap.size w w1) := BW.out.trans (y1.mono BW.out.size)
    have d0 := (y1.cell (p := ⟨b, 0, none⟩) bl).trans b0
    have d1 := (y1.cell (p := ⟨b, 1, none⟩) bl).trans b1
    have d2 := (y1.cell (p := ⟨b, 2, none⟩) bl).trans b2
    have bl1 : b < w1.heap.size := Nat.lt_of_lt_of_le bl y1.size
    clear y1 EO b0 b1 b2 bl BW
    obtain ⟨W5, hW5⟩ : ∃ W5, W5 = w1.alloc (rowBx x u t v) := ⟨_, rfl⟩
    obtain ⟨rb, hrb⟩ : ∃ rb, rb = w1.heap.size := ⟨_, rfl⟩
    have b5 : Below w1.heap.size w1 W5 := by rw [hW5]; exact (Below.refl _ _).alloc (Nat.le_refl _) _
    have r2 : W5.cell? ⟨rb, 2, none⟩ = some (.int .i64 t) := by rw [hW5, hrb]; simp [go_sem]
    have r3 : W5.cell? ⟨rb, 3, none⟩ = some (.int .i64 v) := by rw [hW5, hrb]; simp [go_sem]
    have f0 := (b5.cell (p := ⟨b, 0, none⟩) bl1).trans d0
    have f1 := (b5.cell (p := ⟨b, 1, none⟩) bl1).trans d1
    have f2 := (b5.cell (p := ⟨b, 2, none⟩) bl1).trans d2
    have B5 : Hid (Below w.heap.size w W5) := B1.out.trans (b5.mono B1.out.size)
    clear b5 d0 d1 d2 bl1 B1
    go_upto_region 2 with fail
    rw [← hW5, ← hrb]
    clear hW5 hrb
    clear h9 h1 h2
    go_wp2_with fail
    go_ret2
    exact ⟨rfl, B5.out⟩
  · rw [if_neg h20, if_neg h20]
    have e20 : ((k : Int) == 20) = false := beq_eq_false_iff_ne.2 (by omega)
    have e19 : ((k : Int) == 19) = false := beq_eq_false_iff_ne.2 (by omega)
    have g19 : ((k : Int) != 19) = true := by simp [bne, e19]
    obtain ⟨W, hW⟩ : ∃ W, W = w.alloc (inB ⟨k, n, m⟩) := ⟨_, rfl⟩
    obtain ⟨b, hb⟩ : ∃ b, b = w.heap.size := ⟨_, rfl⟩
    obtain ⟨b0, b1, b2, bw⟩ := in_box w ⟨k, n, m⟩ b W hb hW
    dsimp only at b0 b1 b2
    have bl : b < W.heap.size := by rw [hb, hW]; simp
    have BW : Hid (Below w.heap.size w W) := bw
    clear hx hu ht hv bw ET EL
    go_enter Tryd.func84, Tryd.ntmps84
    go_upto_region 1 with fail
    first | rw [← hW, ← hb] | rw [← hW]
    clear hW hb
    go_wp2_with fail
    refine Calls.mono (EO.out _) ?_
    rintro e1 w1 ⟨rfl, y1⟩
    have B1 : Hid (Below w.heap.size w w1) := BW.out.trans (y1.mono BW.out.size)
    have d0 := (y1.cell (p := ⟨b, 0, none⟩) bl).trans b0
    have d1 := (y1.cell (p := ⟨b, 1, none⟩) bl).trans b1
    have d2 := (y1.cell (p := ⟨b, 2, none⟩) bl).trans b2
    have bl1 : b < w1.heap.size := Nat.lt_of_lt_of_le bl y1.size
    clear y1 EO b0 b1 b2 bl BW
    obtain ⟨W5, hW5⟩ : ∃ W5, W5 = w1.alloc (rowBx x u t v) := ⟨_, rfl⟩
    obtain ⟨rb, hrb⟩ : ∃ rb, rb = w1.heap.size := ⟨_, rfl⟩
    have b5 : Below w1.heap.size w1 W5 := by rw [hW5]; exact (Below.refl _ _).alloc (Nat.le_refl _) _
    have r2 : W5.cell? ⟨rb, 2, none⟩ = some (.int .i64 t) := by rw [hW5, hrb]; simp [go_sem]
    have r3 : W5.cell? ⟨rb, 3, none⟩ = some (.int .i64 v) := by rw [hW5, hrb]; simp [go_sem]
    have f0 := (b5.cell (p := ⟨b, 0, none⟩) bl1).trans d0
    have f1 := (b5.cell (p := ⟨b, 1, none⟩) bl1).trans d1
    have f2 := (b5.cell (p := ⟨b, 2, none⟩) bl1).trans d2
    have B5 : Hid (Below w.heap.size w W5) := B1.out.trans (b5.mono B1.out.size)
    clear b5 d0 d1 d2 bl1 B1
    go_upto_region 2 with fail
    rw [← hW5, ← hrb]
    clear hW5 hrb
    clear h20 h9 h1 h2
    go_wp2_with fail
    go_quiet (fail)
    have BQ := below_drewN B5.out nq
    clear B5 f0 f1 f2 r2 r3
    generalize W5.drewN nq = W6 at BQ ⊢
    go_wp2_with fail
    go_ret2
    exact ⟨rfl, BQ⟩
set_option maxRecDepth 100000 in
set_option maxHeartbeats 8000000 in
/-- A call. -/
theorem rEff_call (k : Nat) (m : Int) (d : Cd.Co) (B : Nat) (la : Option Addr) (lc : Nat) (l : List Cd.Co) (w : World) (hB : B ≤ w.heap.size) (hc : CoS B w la l) (hd : l[k]? = some d) : Calls Tryd.prog 84 #[.slice la l.length lc, inV ⟨19, k, m⟩] w fun e w' => e = .returned (.tuple #[.int .i64 (Cd.tk ⟨19, k, m⟩), .int .i64 (Cd.lv l ⟨19, k, m⟩)]) ∧ Below w.heap.size w w' := by
  obtain ⟨x, hx⟩ : ∃ x, x = Cd.wd 19 := ⟨_, rfl⟩
  obtain ⟨u, hu⟩ : ∃ u, u = Cd.nm 19 := ⟨_, rfl⟩
  obtain ⟨t, ht⟩ : ∃ t, t = Cd.takesL.getD (19 : Int).toNat 0 := ⟨_, rfl⟩
  obtain ⟨v, hv⟩ : ∃ v, v = Cd.leavesL.getD (19 : Int).toNat 0 := ⟨_, rfl⟩
  have EO : Hid (∀ W, Calls Tryd.prog 63 #[.int .i64 19] W fun e w' => e = .returned (.agg #[.string ⟨x.toArray⟩, .int .i64 u, .int .i64 t, .int .i64 v]) ∧ Below W.heap.size W w') := fun W => by
    have := rOf_any 19 W
    unfold ofV at this
    rw [if_pos ⟨by omega, by omega⟩, ← hx, ← hu, ← ht, ← hv] at this
    exact this
  have ET : Hid (Cd.tk ⟨19, k, m⟩ = m) := by unfold Hid Cd.tk; rw [if_pos rfl]
  have EL : Hid (Cd.lv l ⟨19, k, m⟩ = if d.ans then 1 else 0) := by
    unfold Hid Cd.lv
    dsimp only
    rw [if_pos rfl, Int.toNat_natCast, hd]
    rfl
  rw [ET.out, EL.out]
  obtain ⟨g, o, ia, ic, rfl, hg, at_⟩ := hc.at hd
  have kl : k < l.length := (List.getElem?_eq_some_iff.1 hd).1
  have hki : (k : Int) < (l.length : Int) := by omega
  have hk0 : (0 : Int) ≤ (k : Int) := by omega
  have HC3 : Hid (∀ X, Below w.heap.size w X → X.cell? ⟨g, o + k * 4 + 3, none⟩ = some (.bool d.ans)) := fun X hX => (hX.cell (p := ⟨g, _, none⟩) (Nat.lt_of_lt_of_le hg hB)).trans at_.c3
  generalize l.length = L at hki kl ⊢
  generalize d.ans = da at HC3 ⊢
  obtain ⟨W, hW⟩ : ∃ W, W = w.alloc (inB ⟨19, k, m⟩) := ⟨_, rfl⟩
  obtain ⟨b, hb⟩ : ∃ b, b = w.heap.size := ⟨_, rfl⟩
  obtain ⟨b0, b1, b2, bw⟩ := in_box w ⟨19, k, m⟩ b W hb hW
  dsimp only at b0 b1 b2
  have bl : b < W.heap.size := by rw [hb, hW]; simp
  have BW : Hid (Below w.heap.size w W) := bw
  clear hx hu ht hv bw ET EL at_ hd hc
  go_enter Tryd.func84, Tryd.ntmps84
  go_upto_region 1 with fail
  rw [← hW, ← hb]
  clear hW hb
  go_wp2_with fail
  refine Calls.mono (EO.out _) ?_
  rintro e1 w1 ⟨rfl, y1⟩
  have B1 : Hid (Below w.heap.size w w1) := BW.out.trans (y1.mono BW.out.size)
  have d0 := (y1.cell (p := ⟨b, 0, none⟩) bl).trans b0
  have d1 := (y1.cell (p := ⟨b, 1, none⟩) bl).trans b1
  have d2 := (y1.cell (p := ⟨b, 2, none⟩) bl).trans b2
  have bl1 : b < w1.heap.size := Nat.lt_of_lt_of_le bl y1.size
  clear y1 EO b0 b1 b2 bl BW
  obtain ⟨W5, hW5⟩ : ∃ W5, W5 = w1.alloc (rowBx x u t v) := ⟨_, rfl⟩
  have b5 : Below w1.heap.size w1 W5 := by rw [hW5]; exact (Below.refl _ _).alloc (Nat.le_refl _) _
  have f0 := (b5.cell (p := ⟨b, 0, none⟩) bl1).trans d0
  have f1 := (b5.cell (p := ⟨b, 1, none⟩) bl1).trans d1
  have f2 := (b5.cell (p := ⟨b, 2, none⟩) bl1).trans d2
  have B5 : Hid (Below w.heap.size w W5) := B1.out.trans (b5.mono B1.out.size)
  have c3 := HC3.out _ B5.out
  clear b5 d0 d1 d2 bl1 B1 HC3
  go_upto_region 2 with fail
  rw [← hW5]
  clear hW5
  cases da with
  | true =>
    go_wp2_with fail
    go_ret2
    exact ⟨rfl, B5.out⟩
  | false =>
    go_wp2_with fail
    go_ret2
    exact ⟨rfl, B5.out⟩
/-- What an instruction takes and leaves. -/
theorem rEff_any (i : Cd.In) (B : Nat) (la : Option Addr) (lc : Nat) (l : List Cd.Co) (w : World) (hB : B ≤ w.heap.size) (hc : CoS B w la l) (h1 : 1 ≤ i.op) (h2 : i.op ≤ 25) (h9 : i.op = 19 → 0 ≤ i.n ∧ i.n < l.length) : Calls Tryd.prog 84 #[.slice la l.length lc, inV i] w fun e w' => e = .returned (.tuple #[.int .i64 (Cd.tk i), .int .i64 (Cd.lv l i)]) ∧ Below w.heap.size w w' := by
  obtain ⟨op, n, m⟩ := i
  dsimp only at h1 h2 h9
  by_cases e : op = 19
  · subst e
    obtain ⟨k, rfl⟩ : ∃ k : Nat, n = k := ⟨n.toNat, by have := h9 rfl; omega⟩
    exact rEff_call k m _ B la lc l w hB hc (List.getElem?_eq_getElem (by have := h9 rfl; omega))
  · obtain ⟨k, rfl⟩ : ∃ k : Nat, op = k := ⟨op.toNat, by omega⟩
    exact rEff_no k n m B la lc l w (by omega) (by omega) (by omega)
/-- Numbers in a row of their own, above B. -/
def FlS (B : Nat) (w : World) (a : Option Addr) (l : List Int) : Prop := 0 < l.length → ∃ g, a = some ⟨g, 0, none⟩ ∧ B ≤ g ∧ g < w.heap.size ∧ ∀ j x, l[j]? = some x → w.cell? ⟨g, j, none⟩ = some (.int .i64 x)
/-- What follow answers. -/
def FlE (w : World) (l : List Int) (e : Ending) (w' : World) : Prop := ∃ a c, e = .returned (.slice a l.length c) ∧ FlS w.heap.size w' a l ∧ Below w.heap.size w w'
theorem flE_one {w w' : World} {B : Nat} {x : Int} (hb : Below w.heap.size w w') (h : w.heap.size ≤ B) (hl : B < w'.heap.size) (hc : w'.cell? ⟨B, 0, none⟩ = some (.int .i64 x)) : FlE w [x] (.returned (.slice (some ⟨B, 0, none⟩) 1 1)) w' :=
  ⟨some ⟨B, 0, none⟩, 1, rfl, fun _ => ⟨B, rfl, h, hl, fun j y hj => by
    match j, hj with
    | 0, hj => simp at hj; subst hj; exact hc
    | j + 1, hj => simp at hj⟩, hb⟩
theorem flE_row {w w' : World} {v : Value} {e : TypeId} {l : List Int} {n : Nat} (hn : n = l.length) (hb : Below w.heap.size w w') (h : w'.ownsRow w.heap.size e 1 v n (nC l)) : FlE w l (.returned v) w' := by
  have hc := @World.ownsRow.cells _ _ _ _ _ _ _ h
  have hl := World.ownsRow.lt h
  rcases h.2 with ⟨rfl, h0⟩ | ⟨g, cap, cur, rfl, hbb, _⟩
  · exact ⟨none, 0, by rw [← hn, h0], fun h1 => by omega, hb⟩
  · refine ⟨_, cap, by rw [hn], fun _ => ⟨g, rfl, hbb, (hl g rfl).2, fun j x hx => ?_⟩, hb⟩
    have := @hc g rfl j (.int .i64 x) (by simp [nC, hx])
    have e : (⟨g, 0, none⟩ : Addr).add j = ⟨g, j, none⟩ := by unfold Addr.add; split <;> simp_all
    rwa [e] at this
theorem one_at (w : World) (v : Value) (t : TypeId) : ∀ (j : Nat) u, [v][j]? = some u → (w.alloc (.cells #[v] t)).cell? ((⟨w.heap.size, 0, none⟩ : Addr).add j) = some u := by
  intro j u hj
  match j, hj with
  | 0, hj => simp at hj; subst hj; simp [Addr.add]
  | n + 1, hj => simp at hj
set_option maxRecDepth 100000 in
set_option maxHeartbeats 8000000 in
theorem rFol_any (i : Cd.In) (p : Nat) (hp : p ≤ 1000000) (w : World) : Calls Tryd.prog 85 #[inV i, .int .i64 p] w (FlE w (Cd.fl i p)) := by
  obtain ⟨i0, hi, hz0, hz1, hz2⟩ := info_parts cInt
  obtain ⟨op, n, m⟩ := i
  obtain ⟨W, hW⟩ : ∃ W, W = w.alloc (inB ⟨op, n, m⟩) := ⟨_, rfl⟩
  obtain ⟨b, hb⟩ : ∃ b, b = w.heap.size := ⟨_, rfl⟩
  obtain ⟨b0, b1, b2, bw⟩ := in_box w ⟨op, n, m⟩ b W hb hW
  dsimp only at b0 b1 b2
  have bl : b < W.heap.size := by rw [hb, hW]; simp
  have BW : Hid (Below w.heap.size w W) := bw
  have hnb : ¬ b = W.heap.size := by omega
  unfold Cd.fl
  dsimp only
  clear bw
  by_cases h20 : op = 20
  · subst h20
    rw [if_pos rfl]
    go_enter Tryd.func85, Tryd.ntmps85
    go_upto_region 1 with fail
    first | rw [← hW, ← hb] | rw [← hW]
    clear hW hb
    go_wp2_with fail
    go_ret
    exact ⟨none, 0, rfl, fun h => by simp at h, BW.out⟩
  · have e20 : (op == 20) = false := beq_eq_false_iff_ne.2 h20
    rw [if_neg h20]
    by_cases h17 : op = 17
    · subst h17
      rw [if_pos rfl]
      clear h20
      go_enter Tryd.func85, Tryd.ntmps85
      go_upto_region 1 with fail
      rw [← hW, ← hb]
      clear hW hb
      go_wp2_with fail
      go_ret
      exact flE_one (BW.out.trans (Below.mono (by go_grown) BW.out.size)) BW.out.size (by simp) (by simp [go_sem])
    · have e17 : (op == 17) = false := beq_eq_false_iff_ne.2 h17
      rw [if_neg h17]
      by_cases h18 : op = 18
      · subst h18
        rw [if_pos rfl]
        clear h20 h17
        obtain ⟨W4, hW4⟩ : ∃ W4, W4 = W.alloc (.cells #[.int .i64 ((p : Int) + 1)] 3) := ⟨_, rfl⟩
        have R4 : Hid (W4.ownsRow w.heap.size 3 1 (.slice (some ⟨W.heap.size, 0, none⟩) 1 1) 1 [.int .i64 ((p : Int) + 1)]) := by
          unfold Hid
          rw [hW4]
          exact World.ownsRow_lit W #[.int .i64 ((p : Int) + 1)] 1 BW.out.size (by unfold maxLen; omega) rfl
        have b4 : Below W.heap.size W W4 := by rw [hW4]; exact (Below.refl _ _).alloc (Nat.le_refl _) _
        have d0 := (b4.cell (p := ⟨b, 0, none⟩) bl).trans b0
        have d1 := (b4.cell (p := ⟨b, 1, none⟩) bl).trans b1
        have B4 : Hid (Below w.heap.size w W4) := BW.out.trans (b4.mono BW.out.size)
        have bl4 : b < W4.heap.size := Nat.lt_of_lt_of_le bl b4.size
        have nb4 : ¬ b = W4.heap.size := by omega
        have hz4 : w.heap.size ≤ W4.heap.size := B4.out.size
        have H63 : Hid (1 + 1 ≤ maxLen ∧ ((1 + 1) + (1 + 1) / 4 + 192) * 8 ≤ 281474976710656) := by unfold Hid maxLen; omega
        have ONE1 : Hid (∀ u ∈ [Value.int .i64 n], u.oneCell' = true) := fun y hy => by simp at hy; subst hy; rfl
        go_enter Tryd.func85, Tryd.ntmps85
        go_upto_region 1 with fail
        rw [← hW, ← hb]
        clear hW hb
        go_upto_region 6 with fail
        rw [← hW4]
        clear hW4 b4 b0 b1 b2 bl hnb
        go_wp2_with (at_builtin; refine wpList_append_own_wide _ rfl _ _ 101 rfl w.heap.size 3 i0 (.int .i64 0) 1 8 Tryd.underlying101 hi hz0 hz1 hz2 rfl (by decide) _ _ _ rfl (own_lat R4.out ((Below.refl _ _).alloc (Nat.le_refl _) _)) ⟨W4.heap.size, 0, none⟩ 1 1 [.int .i64 n] rfl rfl (one_at _ _ _) ONE1.out H63.out.1 H63.out.2 (by simp; omega) ?_)
        intro v9 w9 h9 g9 o9
        have FIN : Hid (FlE w [(p : Int) + 1, n] (.returned v9) w9) := flE_row (n := 1 + 1) rfl (B4.out.trans ⟨g9.os, g9.tape, g9.output, by have := g9.size; simp at this; omega, fun k hk => by
          have e1 := g9.block k (by simp; have := B4.out.size; omega) (fun e => by simp [Value.ownBlock] at e; have := BW.out.size; omega)
          rw [e1]
          exact ((Below.refl W4.heap.size W4).alloc (Nat.le_refl _) _).block k (by have := B4.out.size; omega)⟩) h9
        obtain ⟨va9, cap9, hv9⟩ := own_shp h9
        subst hv9
        clear h9 g9 o9
        go_wp2_with fail
        go_ret
        exact FIN.out
      · have e18 : (op == 18) = false := beq_eq_false_iff_ne.2 h18
        rw [if_neg h18]
        clear h20 h17 h18
        obtain ⟨W4, hW4⟩ : ∃ W4, W4 = W.alloc (.cells #[.int .i64 ((p : Int) + 1)] 3) := ⟨_, rfl⟩
        have b4 : Below W.heap.size W W4 := by rw [hW4]; exact (Below.refl _ _).alloc (Nat.le_refl _) _
        have d0 := (b4.cell (p := ⟨b, 0, none⟩) bl).trans b0
        have FIN : Hid (FlE w [(p : Int) + 1] (.returned (.slice (some ⟨W.heap.size, 0, none⟩) 1 1)) W4) := flE_one (BW.out.trans (b4.mono BW.out.size)) BW.out.size (by rw [hW4]; simp) (by rw [hW4]; simp [go_sem])
        go_enter Tryd.func85, Tryd.ntmps85
        go_upto_region 1 with fail
        rw [← hW, ← hb]
        clear hW hb
        go_upto_region 6 with fail
        rw [← hW4]
        clear hW4 b4 b0 b1 b2 bl hnb
        go_wp2_with fail
        go_ret
        exact FIN.out
end Go.Proofs.YtodpdnidinnjjaaDoor
