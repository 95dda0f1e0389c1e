/- Layer 8: the climber in memory; its looks at one instruction, each for every instruction. -/
import Derived.Test.YtkjkiknpgggadaaDoorSCdA
namespace Go.Proofs.YtkjkiknpgggadaaDoor
open Go.RowKit

def Clm (w : World) (p : Nat) (la : Option Addr) (ln lc : Nat) (ia : Option Addr) (il ic : Nat) (c : Cd.Co) (hv wv : Value) : Prop :=
  w.heap[p]? = some (.cells #[.slice la ln lc, .slice ia il ic, .int .i64 c.cells, .int .i64 c.params, .bool c.ans, hv, wv] 112 (0, 0))
theorem Clm.lt {w : World} {p : Nat} {la : Option Addr} {ln lc : Nat} {ia : Option Addr} {il ic : Nat} {c : Cd.Co} {hv wv : Value} (h : Clm w p la ln lc ia il ic c hv wv) : p < w.heap.size := (Array.getElem?_eq_some_iff.1 h).1
theorem Clm.cell {w : World} {p : Nat} {la : Option Addr} {ln lc : Nat} {ia : Option Addr} {il ic : Nat} {c : Cd.Co} {hv wv : Value} (h : Clm w p la ln lc ia il ic c hv wv) :
    w.cell? ⟨p, 0, none⟩ = some (.slice la ln lc) ∧ w.cell? ⟨p, 1, none⟩ = some (.slice ia il ic) ∧ w.cell? ⟨p, 2, none⟩ = some (.int .i64 c.cells) ∧ w.cell? ⟨p, 3, none⟩ = some (.int .i64 c.params) ∧ w.cell? ⟨p, 4, none⟩ = some (.bool c.ans) ∧ w.cell? ⟨p, 5, none⟩ = some hv ∧ w.cell? ⟨p, 6, none⟩ = some wv := by
  unfold Clm at h
  refine ⟨?_, ?_, ?_, ?_, ?_, ?_, ?_⟩ <;> simp [World.cell?, h]
theorem Clm.frozen {w : World} {p : Nat} {la : Option Addr} {ln lc : Nat} {ia : Option Addr} {il ic : Nat} {c : Cd.Co} {hv wv : Value} (h : Clm w p la ln lc ia il ic c hv wv) (k : Nat) : w.frozen? ⟨p, k, none⟩ = false := by
  unfold Clm at h
  simp [World.frozen?, h]
theorem Clm.later {w w' : World} {B p : Nat} {la : Option Addr} {ln lc : Nat} {ia : Option Addr} {il ic : Nat} {c : Cd.Co} {hv wv : Value} (h : Clm w p la ln lc ia il ic c hv wv) (b : Below B w w') (hB : p < B) : Clm w' p la ln lc ia il ic c hv wv := (b.block p hB).trans h
set_option maxHeartbeats 1000000 in
theorem cdCells_any (f s : Int) (p : Nat) (la : Option Addr) (ln lc : Nat) (ia : Option Addr) (il ic : Nat) (c : Cd.Co) (hv wv : Value) (w : World) (h : Clm w p la ln lc ia il ic c hv wv) (hc : 0 ≤ c.cells ∧ c.cells ≤ 65536) (hs : 0 ≤ s ∧ s ≤ 64) :
    Calls Tryd.prog 96 #[.pointer (some ⟨p, 0, none⟩), .int .i64 f, .int .i64 s] w fun e w' => e = .returned (.bool (Cd.hc c f s)) ∧ w' = w := by
  have c2 := h.cell.2.2.1
  clear h
  have E : Hid (Cd.hc c f s = (decide (0 ≤ f) && decide (f ≤ c.cells - s))) := rfl
  obtain ⟨cells, hcl⟩ : ∃ x, x = c.cells := ⟨_, rfl⟩
  rw [← hcl] at c2 E hc
  clear hcl
  have w1 : wrap64 cells = cells := by unfold wrap64; omega
  have w2 : wrap64 (cells - s) = cells - s := by unfold wrap64; omega
  by_cases h1 : 0 ≤ f
  · by_cases h2 : f ≤ cells - s
    · go_enter Tryd.func96, Tryd.ntmps96
      go_wp2_with fail
      go_ret
      exact ⟨retB (by rw [E.out, decide_eq_true h1, decide_eq_true h2]; rfl), rfl⟩
    · go_enter Tryd.func96, Tryd.ntmps96
      go_wp2_with fail
      go_ret
      exact ⟨retB (by rw [E.out, decide_eq_true h1, decide_eq_false (by omega)]; rfl), rfl⟩
  · go_enter Tryd.func96, Tryd.ntmps96
    go_wp2_with fail
    go_ret
    exact ⟨retB (by rw [E.out, decide_eq_false (by omega)]; rfl), rfl⟩
theorem cdMay_out (B : Int) (l : List Cd.Co) (i : Cd.In) (h : ¬ (0 ≤ i.n ∧ i.n < l.length)) : Cd.mc B l i = false := by
  unfold Cd.mc
  by_cases h0 : 0 ≤ i.n
  · have : l[i.n.toNat]? = none := List.getElem?_eq_none (by omega)
    rw [this]
    simp
  · rw [decide_eq_false h0]
    rfl
theorem cdMay_in (B : Int) (l : List Cd.Co) (i : Cd.In) (d : Cd.Co) (h0 : 0 ≤ i.n) (e : l[i.n.toNat]? = some d) (hd : d.params ≤ B) : Cd.mc B l i = (decide (0 ≤ i.m) && (i.m == d.params)) := by
  unfold Cd.mc
  rw [e, decide_eq_true h0]
  dsimp only
  rw [decide_eq_true hd]
  simp
abbrev Cd.top : Int := 9223372036854775807
abbrev inB (i : Cd.In) : Obj := .cells #[.int .i64 i.op, .int .i64 i.n, .int .i64 i.m] 47
theorem in_box (w : World) (i : Cd.In) (b : Nat) (W : World) (hb : b = w.heap.size) (hW : W = w.alloc (inB i)) : W.cell? ⟨b, 0, none⟩ = some (.int .i64 i.op) ∧ W.cell? ⟨b, 1, none⟩ = some (.int .i64 i.n) ∧ W.cell? ⟨b, 2, none⟩ = some (.int .i64 i.m) ∧ Below w.heap.size w W := by
  subst hb hW
  exact ⟨by simp [go_sem], by simp [go_sem], by simp [go_sem], (Below.refl _ _).alloc (Nat.le_refl _) _⟩
set_option maxRecDepth 100000 in
set_option maxHeartbeats 4000000 in
theorem cdMay_any (i : Cd.In) (B p : Nat) (la : Option Addr) (lc : Nat) (l : List Cd.Co) (ia : Option Addr) (il ic : Nat) (c : Cd.Co) (hv wv : Value) (w : World) (hB : B ≤ w.heap.size) (h : Clm w p la l.length lc ia il ic c hv wv) (hl : CoS B w la l) (hok : ∀ d, d ∈ l → d.Ok) :
    Calls Tryd.prog 97 #[.pointer (some ⟨p, 0, none⟩), inV i] w fun e w' => e = .returned (.bool (Cd.mc Cd.top l i)) ∧ Below w.heap.size w w' := by
  obtain ⟨W, hW⟩ : ∃ W, W = w.alloc (inB i) := ⟨_, rfl⟩
  obtain ⟨b, hb⟩ : ∃ b, b = w.heap.size := ⟨_, rfl⟩
  obtain ⟨b0, b1, b2, bw⟩ := in_box w i b W hb hW
  have p0 := (bw.cell (p := ⟨p, 0, none⟩) h.lt).trans h.cell.1
  have BW : Hid (Below w.heap.size w W) := bw
  obtain ⟨op, n, m⟩ := i
  dsimp only at b0 b1 b2
  clear h
  by_cases h1 : 0 ≤ n
  · have d1 : decide (0 ≤ n) = true := decide_eq_true h1
    by_cases h2 : n < l.length
    · have d2 : decide (n < l.length) = true := decide_eq_true h2
      obtain ⟨k, rfl⟩ : ∃ k : Nat, n = k := ⟨n.toNat, by omega⟩
      obtain ⟨d, ed⟩ : ∃ d, l[k]? = some d := ⟨_, List.getElem?_eq_getElem (by omega)⟩
      obtain ⟨g, o, ia', ic', rfl, hg, at_⟩ := hl.at ed
      have g2 := (bw.cell (p := ⟨g, o + k * 4 + 2, none⟩) (Nat.lt_of_lt_of_le hg hB)).trans at_.c2
      have E := cdMay_in Cd.top l ⟨op, k, m⟩ d h1 (by simpa using ed) (by have := (hok d (List.mem_of_getElem? ed)).2.2.2; unfold Cd.top; omega)
      dsimp only at E
      rw [E]
      clear hl at_ ed hok E bw
      generalize d.params = x at g2 ⊢
      by_cases h3 : 0 ≤ m
      · have d3 : decide (0 ≤ m) = true := decide_eq_true h3
        by_cases h4 : m = x
        · have d4 : (m == x) = true := by rw [h4]; exact beq_self_eq_true _
          clear h4
          go_enter Tryd.func97, Tryd.ntmps97
          go_upto_region 1 with fail
          rw [← hW, ← hb]
          clear hW hb
          go_quiet (fail)
          have BQ := below_drewN BW.out nq
          clear BW
          generalize W.drewN nq = W5 at BQ ⊢
          go_wp2_with fail
          go_ret
          exact ⟨retB (by rw [d3, d4]; rfl), BQ⟩
        · have d4 : (m == x) = false := by simpa using h4
          clear h4
          go_enter Tryd.func97, Tryd.ntmps97
          go_upto_region 1 with fail
          rw [← hW, ← hb]
          clear hW hb
          go_quiet (fail)
          have BQ := below_drewN BW.out nq
          clear BW
          generalize W.drewN nq = W5 at BQ ⊢
          go_wp2_with fail
          go_ret
          exact ⟨retB (by rw [d3, d4]; rfl), BQ⟩
      · have d3 : decide (0 ≤ m) = false := decide_eq_false h3
        clear h3
        go_enter Tryd.func97, Tryd.ntmps97
        go_upto_region 1 with fail
        rw [← hW, ← hb]
        clear hW hb
        go_quiet (fail)
        have BQ := below_drewN BW.out nq
        clear BW
        generalize W.drewN nq = W5 at BQ ⊢
        go_wp2_with fail
        go_ret
        exact ⟨retB (by rw [d3]; rfl), BQ⟩
    · have d2 : decide (n < l.length) = false := decide_eq_false h2
      have E : Hid (Cd.mc Cd.top l ⟨op, n, m⟩ = false) := cdMay_out _ _ _ (fun hh => h2 hh.2)
      rw [E.out]
      clear h2 hl hok bw
      go_enter Tryd.func97, Tryd.ntmps97
      go_upto_region 1 with fail
      rw [← hW, ← hb]
      clear hW hb
      go_quiet (fail)
      have BQ := below_drewN BW.out nq
      clear BW
      generalize W.drewN nq = W5 at BQ ⊢
      go_wp2_with fail
      go_ret
      exact ⟨rfl, BQ⟩
  · have d1 : decide (0 ≤ n) = false := decide_eq_false h1
    have E : Hid (Cd.mc Cd.top l ⟨op, n, m⟩ = false) := cdMay_out _ _ _ (fun hh => h1 hh.1)
    rw [E.out]
    clear h1 hl hok bw
    go_enter Tryd.func97, Tryd.ntmps97
    go_upto_region 1 with fail
    rw [← hW, ← hb]
    clear hW hb
    go_quiet (fail)
    have BQ := below_drewN BW.out nq
    clear BW
    generalize W.drewN nq = W5 at BQ ⊢
    go_wp2_with fail
    go_ret
    exact ⟨rfl, BQ⟩
end Go.Proofs.YtkjkiknpgggadaaDoor

