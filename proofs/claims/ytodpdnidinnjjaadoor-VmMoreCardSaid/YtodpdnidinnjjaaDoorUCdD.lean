/- Layer 8: what an instruction takes and leaves; a code's sizes (the program's moves, hasSizes). -/
import Derived.Test.YtodpdnidinnjjaaDoorUCdC
namespace Go.Proofs.YtodpdnidinnjjaaDoor
open Go.RowKit
set_option linter.unusedVariables false

/-- Two numbers are answered. -/
abbrev two2 (a b : Int) : Value := .tuple #[.int .i64 a, .int .i64 b]
theorem ret2 {a b c d : Int} (h1 : a = c) (h2 : b = d) : Ending.returned (two2 a b) = .returned (two2 c d) := by rw [h1, h2]
set_option maxRecDepth 100000 in
set_option maxHeartbeats 4000000 in
theorem cdMv_20 (n m : Int) (p : Nat) (l : List Cd.Co) (w : World) : Calls Tryd.prog 100 #[.pointer (some ⟨p, 0, none⟩), inV ⟨20, n, m⟩] w fun e w' => e = .returned (two2 (Cd.tk ⟨20, n, m⟩) (Cd.lv l ⟨20, n, m⟩)) ∧ Below w.heap.size w w' := by
  have E : Hid (Cd.tk ⟨20, n, m⟩ = n ∧ Cd.lv l ⟨20, n, m⟩ = 0) := by unfold Hid Cd.tk Cd.lv; simp
  rw [E.out.1, E.out.2]
  go_enter Tryd.func100, Tryd.ntmps100
  go_wp2_with fail
  go_ret2
  exact ⟨rfl, by go_grown⟩
set_option maxRecDepth 100000 in
set_option maxHeartbeats 4000000 in
theorem cdMv_tab (k : Nat) (n m : Int) (B p : Nat) (l : List Cd.Co) (w : World) (hB : B ≤ w.heap.size) (ht : Tm B w) (h1 : 1 ≤ k) (h2 : k ≤ 25) (h3 : ¬ k = 19) (h4 : ¬ k = 20) : Calls Tryd.prog 100 #[.pointer (some ⟨p, 0, none⟩), inV ⟨k, n, m⟩] w fun e w' => e = .returned (two2 (Cd.tk ⟨k, n, m⟩) (Cd.lv l ⟨k, n, m⟩)) ∧ Below w.heap.size w w' := by
  obtain ⟨W, hW⟩ : ∃ W, W = w.alloc (inB ⟨k, n, m⟩) := ⟨_, rfl⟩
  obtain ⟨b, hb⟩ : ∃ b, b = w.heap.size := ⟨_, rfl⟩
  obtain ⟨b0, b1, b2, bw⟩ := in_box w ⟨k, n, m⟩ b W hb hW
  have BW : Hid (Below w.heap.size w W) := bw
  have t := ht.later (bw.mono hB)
  have c0 := t.tk k (by omega)
  have c1 := t.lv k (by omega)
  have E : Hid (Cd.tk ⟨k, n, m⟩ = Cd.takesL.getD k 0 ∧ Cd.lv l ⟨k, n, m⟩ = Cd.leavesL.getD k 0) := by
    unfold Hid Cd.tk Cd.lv
    dsimp only
    rw [if_neg (by omega), if_neg (by omega), if_neg (by omega), if_neg (by omega), Int.toNat_natCast]
    exact ⟨rfl, rfl⟩
  rw [E.out.1, E.out.2]
  dsimp only at b0 b1 b2
  generalize Cd.takesL.getD k 0 = x0 at c0 ⊢
  generalize Cd.leavesL.getD k 0 = x1 at c1 ⊢
  have e3 : ((k : Int) == 19) = false := beq_eq_false_iff_ne.2 (by omega)
  have e4 : ((k : Int) == 20) = false := beq_eq_false_iff_ne.2 (by omega)
  have g3 : (k : Int) < 26 := by omega
  have g4 : (0 : Int) ≤ (k : Int) := by omega
  clear ht t bw E h3 h4
  go_enter Tryd.func100, Tryd.ntmps100
  go_upto_region 1 with fail
  rw [← hW, ← hb]
  clear hW hb
  go_wp2_with fail
  go_quiet (fail)
  have BQ := below_drewN BW.out nq
  clear BW
  generalize W.drewN nq = W5 at BQ ⊢
  go_wp2_with fail
  go_ret2
  exact ⟨rfl, BQ⟩
set_option maxRecDepth 100000 in
set_option maxHeartbeats 4000000 in
theorem cdMv_19 (k : Nat) (d : Cd.Co) (m : Int) (B p : Nat) (la : Option Addr) (lc : Nat) (l : List Cd.Co) (ia : Option Addr) (ic : Nat) (c : Cd.Co) (hv wv : Value) (w : World) (h : ClA B w p la lc l ia ic c hv wv) (ed : l[k]? = some d) : Calls Tryd.prog 100 #[.pointer (some ⟨p, 0, none⟩), inV ⟨19, k, m⟩] w fun e w' => e = .returned (two2 (Cd.tk ⟨19, k, m⟩) (Cd.lv l ⟨19, k, m⟩)) ∧ Below w.heap.size w w' := by
  obtain ⟨W, hW⟩ : ∃ W, W = w.alloc (inB ⟨19, k, m⟩) := ⟨_, rfl⟩
  obtain ⟨b, hb⟩ : ∃ b, b = w.heap.size := ⟨_, rfl⟩
  obtain ⟨b0, b1, b2, bw⟩ := in_box w ⟨19, k, m⟩ b W hb hW
  have BW : Hid (Below w.heap.size w W) := bw
  have H := h.later bw
  obtain ⟨g, o, ja, jc, rfl, hg, at_⟩ := H.co.at ed
  obtain ⟨hk, _⟩ := List.getElem?_eq_some_iff.1 ed
  have p0 := H.cl.cell.1
  have c0 := at_.c0
  have c1 := at_.c1
  have c2 := at_.c2
  have c3 := at_.c3
  have bl : b < W.heap.size := by rw [hb, hW]; simp
  have pl : p < W.heap.size := H.cl.lt
  have gl : g < W.heap.size := Nat.lt_of_lt_of_le hg H.hB
  have E : Hid (Cd.tk ⟨19, k, m⟩ = m ∧ Cd.lv l ⟨19, k, m⟩ = if d.ans then 1 else 0) := by
    unfold Hid Cd.tk Cd.lv Cd.an
    simp [ed]
  rw [E.out.1, E.out.2]
  have HE : Hid (∀ x, Calls Tryd.prog 106 #[.agg #[.slice ja d.ins.length jc, .int .i64 d.cells, .int .i64 d.params, .bool d.ans]] x fun e w' => e = .returned (.int .i64 (if d.ans then 1 else 0)) ∧ Below x.heap.size x w') := fun x => cdAns_any ja d.ins.length jc d.cells d.params d.ans x
  have hki : (k : Int) < (l.length : Int) := by omega
  have hk0 : (0 : Int) ≤ (k : Int) := by omega
  clear h H at_ E ed hg
  dsimp only at b0 b1 b2
  generalize d.ins.length = L at c0 HE
  generalize d.cells = d2 at c1 HE
  generalize d.params = d3 at c2 HE
  generalize d.ans = d4 at c3 HE ⊢
  generalize (if d4 then (1 : Int) else 0) = an at HE ⊢
  go_enter Tryd.func100, Tryd.ntmps100
  go_upto_region 1 with fail
  rw [← hW, ← hb]
  clear hW hb
  go_wp2_with fail
  go_region_held3 (fun w' => w'.cell? ⟨b, 1, none⟩ = some (.int .i64 k) ∧ w'.cell? ⟨b, 2, none⟩ = some (.int .i64 m) ∧ w'.cell? ⟨p, 0, none⟩ = some (.slice (some ⟨g, o, none⟩) l.length lc) ∧ w'.cell? ⟨g, o + k * 4, none⟩ = some (.slice ja L jc) ∧ w'.cell? ⟨g, o + k * 4 + 1, none⟩ = some (.int .i64 d2) ∧ w'.cell? ⟨g, o + k * 4 + 2, none⟩ = some (.int .i64 d3) ∧ w'.cell? ⟨g, o + k * 4 + 3, none⟩ = some (.bool d4)) (first | (exact ⟨q0, q1, q2, q3, q4, q5, q6⟩) | go_keep) (first | (go_at_call 106; refine Calls.mono (HE.out _) ?_; rintro e5 w5 ⟨rfl, y5⟩; have q0 : w5.cell? ⟨b, 1, none⟩ = some (.int .i64 k) := (y5.cell (p := ⟨b, 1, none⟩) (by simpa using bl)).trans (by simpa [go_sem] using b1); have q1 : w5.cell? ⟨b, 2, none⟩ = some (.int .i64 m) := (y5.cell (p := ⟨b, 2, none⟩) (by simpa using bl)).trans (by simpa [go_sem] using b2); have q2 : w5.cell? ⟨p, 0, none⟩ = some (.slice (some ⟨g, o, none⟩) l.length lc) := (y5.cell (p := ⟨p, 0, none⟩) (by simpa using pl)).trans (by simpa [go_sem] using p0); have q3 : w5.cell? ⟨g, o + k * 4, none⟩ = some (.slice ja L jc) := (y5.cell (p := ⟨g, o + k * 4, none⟩) (by simpa using gl)).trans (by simpa [go_sem] using c0); have q4 : w5.cell? ⟨g, o + k * 4 + 1, none⟩ = some (.int .i64 d2) := (y5.cell (p := ⟨g, o + k * 4 + 1, none⟩) (by simpa using gl)).trans (by simpa [go_sem] using c1); have q5 : w5.cell? ⟨g, o + k * 4 + 2, none⟩ = some (.int .i64 d3) := (y5.cell (p := ⟨g, o + k * 4 + 2, none⟩) (by simpa using gl)).trans (by simpa [go_sem] using c2); have q6 : w5.cell? ⟨g, o + k * 4 + 3, none⟩ = some (.bool d4) := (y5.cell (p := ⟨g, o + k * 4 + 3, none⟩) (by simpa using gl)).trans (by simpa [go_sem] using c3); have B5 : Hid (Below w.heap.size w w5) := BW.out.trans (Below.mono (Below.trans (by go_grown) y5) BW.out.size); clear y5))
  all_goals
    go_wp2_with fail
    go_ret2
    exact ⟨rfl, by first | exact B5.out | exact B5.out.trans (by go_grown)⟩
/-- What an instruction takes and leaves. -/
theorem cdMv_any (i : Cd.In) (B p : Nat) (la : Option Addr) (lc : Nat) (l : List Cd.Co) (ia : Option Addr) (ic : Nat) (c : Cd.Co) (hv wv : Value) (w : World) (h : ClA B w p la lc l ia ic c hv wv) (h1 : 1 ≤ i.op) (h2 : i.op ≤ 25) (h3 : i.op = 19 → 0 ≤ i.n ∧ i.n < l.length) : Calls Tryd.prog 100 #[.pointer (some ⟨p, 0, none⟩), inV i] w fun e w' => e = .returned (two2 (Cd.tk i) (Cd.lv l i)) ∧ Below w.heap.size w w' := by
  obtain ⟨op, n, m⟩ := i
  dsimp only at h1 h2 h3
  by_cases q19 : op = 19
  · subst q19
    obtain ⟨a, b⟩ := h3 rfl
    obtain ⟨k, rfl⟩ : ∃ k : Nat, n = k := ⟨n.toNat, by omega⟩
    exact cdMv_19 k _ m B p la lc l ia ic c hv wv w h (List.getElem?_eq_getElem (by omega))
  · by_cases q20 : op = 20
    · subst q20
      exact cdMv_20 n m p l w
    · obtain ⟨k, rfl⟩ : ∃ k : Nat, op = k := ⟨op.toNat, by omega⟩
      exact cdMv_tab k n m B p l w h.hB h.tm (by omega) (by omega) (by omega) (by omega)
end Go.Proofs.YtodpdnidinnjjaaDoor
