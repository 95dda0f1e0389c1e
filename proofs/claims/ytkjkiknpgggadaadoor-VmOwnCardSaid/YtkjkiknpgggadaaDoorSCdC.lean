/- Layer 8: which numbers an instruction may have (the program's allows), for every instruction. -/
import Derived.Test.YtkjkiknpgggadaaDoorSCdB
namespace Go.Proofs.YtkjkiknpgggadaaDoor
open Go.RowKit
set_option linter.unusedVariables false

structure ClA (B : Nat) (w : World) (p : Nat) (la : Option Addr) (lc : Nat) (l : List Cd.Co) (ia : Option Addr) (ic : Nat) (c : Cd.Co) (hv wv : Value) : Prop where
  hB : B ≤ w.heap.size
  cl : Clm w p la l.length lc ia c.ins.length ic c hv wv
  co : CoS B w la l
  ok : ∀ d, d ∈ l → d.Ok
  tn : Tn B w
  tm : Tm B w
  is : InS B w ia c.ins
  ck : c.Ok
theorem ClA.later {B : Nat} {w w' : World} {p : Nat} {la : Option Addr} {lc : Nat} {l : List Cd.Co} {ia : Option Addr} {ic : Nat} {c : Cd.Co} {hv wv : Value} (h : ClA B w p la lc l ia ic c hv wv) (b : Below w.heap.size w w') : ClA B w' p la lc l ia ic c hv wv :=
  ⟨Nat.le_trans h.hB b.size, h.cl.later b h.cl.lt, h.co.later (b.mono h.hB), h.ok, h.tn.later (b.mono h.hB), h.tm.later (b.mono h.hB), h.is.later (b.mono h.hB), h.ck⟩
set_option maxRecDepth 100000 in
set_option maxHeartbeats 4000000 in
theorem cdAl_2 (n m : Int) (B p : Nat) (la : Option Addr) (lc : Nat) (l : List Cd.Co) (ia : Option Addr) (ic : Nat) (c : Cd.Co) (hv wv : Value) (w : World) (h : ClA B w p la lc l ia ic c hv wv) (hc : 0 ≤ c.cells ∧ c.cells ≤ 65536) :
    Calls Tryd.prog 89 #[.pointer (some ⟨p, 0, none⟩), inV ⟨2, n, m⟩] w fun e w' => e = .returned (.bool (Cd.al Cd.top l c ⟨2, n, m⟩)) ∧ Below w.heap.size w w' := by
  obtain ⟨W, hW⟩ : ∃ W, W = w.alloc (inB ⟨2, n, m⟩) := ⟨_, rfl⟩
  obtain ⟨b, hb⟩ : ∃ b, b = w.heap.size := ⟨_, rfl⟩
  obtain ⟨b0, b1, b2, bw⟩ := in_box w ⟨2, n, m⟩ b W hb hW
  have BW : Hid (Below w.heap.size w W) := bw
  have HC : Hid (ClA B W p la lc l ia ic c hv wv) := h.later bw
  dsimp only at b0 b1 b2
  have E : Hid (Cd.al Cd.top l c ⟨2, n, m⟩ = Cd.hc c n 1) := by unfold Hid Cd.al; simp
  have EC := cdCells_any n 1 p la l.length lc ia c.ins.length ic c hv wv W HC.out.cl hc (by omega)
  have HE : Hid _ := EC
  rw [E.out]
  clear h hc bw EC
  go_enter Tryd.func89, Tryd.ntmps89
  go_upto_region 1 with fail
  rw [← hW, ← hb]
  clear hW hb
  go_wp2_with fail
  refine Calls.mono HE.out ?_
  rintro e w5 ⟨rfl, rfl⟩
  go_wp2_with fail
  go_ret
  exact ⟨rfl, BW.out⟩
set_option maxRecDepth 100000 in
set_option maxHeartbeats 4000000 in
theorem cdAl_3 (n m : Int) (B p : Nat) (la : Option Addr) (lc : Nat) (l : List Cd.Co) (ia : Option Addr) (ic : Nat) (c : Cd.Co) (hv wv : Value) (w : World) (h : ClA B w p la lc l ia ic c hv wv) (hc : 0 ≤ c.cells ∧ c.cells ≤ 65536) :
    Calls Tryd.prog 89 #[.pointer (some ⟨p, 0, none⟩), inV ⟨3, n, m⟩] w fun e w' => e = .returned (.bool (Cd.al Cd.top l c ⟨3, n, m⟩)) ∧ Below w.heap.size w w' := by
  obtain ⟨W, hW⟩ : ∃ W, W = w.alloc (inB ⟨3, n, m⟩) := ⟨_, rfl⟩
  obtain ⟨b, hb⟩ : ∃ b, b = w.heap.size := ⟨_, rfl⟩
  obtain ⟨b0, b1, b2, bw⟩ := in_box w ⟨3, n, m⟩ b W hb hW
  have BW : Hid (Below w.heap.size w W) := bw
  have HC : Hid (ClA B W p la lc l ia ic c hv wv) := h.later bw
  dsimp only at b0 b1 b2
  have E : Hid (Cd.al Cd.top l c ⟨3, n, m⟩ = Cd.hc c n 1) := by unfold Hid Cd.al; simp
  have EC := cdCells_any n 1 p la l.length lc ia c.ins.length ic c hv wv W HC.out.cl hc (by omega)
  have HE : Hid _ := EC
  rw [E.out]
  clear h hc bw EC
  go_enter Tryd.func89, Tryd.ntmps89
  go_upto_region 1 with fail
  rw [← hW, ← hb]
  clear hW hb
  go_wp2_with fail
  refine Calls.mono HE.out ?_
  rintro e w5 ⟨rfl, rfl⟩
  go_wp2_with fail
  go_ret
  exact ⟨rfl, BW.out⟩
set_option maxRecDepth 100000 in
set_option maxHeartbeats 4000000 in
theorem cdAl_4 (n m : Int) (B p : Nat) (la : Option Addr) (lc : Nat) (l : List Cd.Co) (ia : Option Addr) (ic : Nat) (c : Cd.Co) (hv wv : Value) (w : World) (h : ClA B w p la lc l ia ic c hv wv) (hc : 0 ≤ c.cells ∧ c.cells ≤ 65536) :
    Calls Tryd.prog 89 #[.pointer (some ⟨p, 0, none⟩), inV ⟨4, n, m⟩] w fun e w' => e = .returned (.bool (Cd.al Cd.top l c ⟨4, n, m⟩)) ∧ Below w.heap.size w w' := by
  obtain ⟨W, hW⟩ : ∃ W, W = w.alloc (inB ⟨4, n, m⟩) := ⟨_, rfl⟩
  obtain ⟨b, hb⟩ : ∃ b, b = w.heap.size := ⟨_, rfl⟩
  obtain ⟨b0, b1, b2, bw⟩ := in_box w ⟨4, n, m⟩ b W hb hW
  have BW : Hid (Below w.heap.size w W) := bw
  have HC : Hid (ClA B W p la lc l ia ic c hv wv) := h.later bw
  dsimp only at b0 b1 b2
  have E : Hid (Cd.al Cd.top l c ⟨4, n, m⟩ = (decide (1 ≤ m) && decide (m ≤ 64) && Cd.hc c n m)) := by unfold Hid Cd.al; simp
  rw [E.out]
  by_cases h1 : 1 ≤ m
  · have d1 : decide (1 ≤ m) = true := decide_eq_true h1
    rw [d1]
    by_cases h2 : m ≤ 64
    · have d2 : decide (m ≤ 64) = true := decide_eq_true h2
      rw [d2]
      have HE : Hid _ := cdCells_any n m p la l.length lc ia c.ins.length ic c hv wv W HC.out.cl hc ⟨by omega, h2⟩
      clear h hc bw
      go_enter Tryd.func89, Tryd.ntmps89
      go_upto_region 1 with fail
      rw [← hW, ← hb]
      clear hW hb
      go_wp2_with fail
      refine Calls.mono HE.out ?_
      rintro e w5 ⟨rfl, rfl⟩
      go_wp2_with fail
      go_ret
      exact ⟨by simp, BW.out⟩
    · have d2 : decide (m ≤ 64) = false := decide_eq_false h2
      rw [d2]
      clear h hc bw
      go_enter Tryd.func89, Tryd.ntmps89
      go_upto_region 1 with fail
      rw [← hW, ← hb]
      clear hW hb
      go_wp2_with fail
      go_ret
      exact ⟨rfl, BW.out⟩
  · have d1 : decide (1 ≤ m) = false := decide_eq_false h1
    rw [d1]
    clear h hc bw
    go_enter Tryd.func89, Tryd.ntmps89
    go_upto_region 1 with fail
    rw [← hW, ← hb]
    clear hW hb
    go_wp2_with fail
    go_ret
    exact ⟨rfl, BW.out⟩
set_option maxRecDepth 100000 in
set_option maxHeartbeats 4000000 in
theorem cdAl_5 (n m : Int) (B p : Nat) (la : Option Addr) (lc : Nat) (l : List Cd.Co) (ia : Option Addr) (ic : Nat) (c : Cd.Co) (hv wv : Value) (w : World) (h : ClA B w p la lc l ia ic c hv wv) (hc : 0 ≤ c.cells ∧ c.cells ≤ 65536) :
    Calls Tryd.prog 89 #[.pointer (some ⟨p, 0, none⟩), inV ⟨5, n, m⟩] w fun e w' => e = .returned (.bool (Cd.al Cd.top l c ⟨5, n, m⟩)) ∧ Below w.heap.size w w' := by
  obtain ⟨W, hW⟩ : ∃ W, W = w.alloc (inB ⟨5, n, m⟩) := ⟨_, rfl⟩
  obtain ⟨b, hb⟩ : ∃ b, b = w.heap.size := ⟨_, rfl⟩
  obtain ⟨b0, b1, b2, bw⟩ := in_box w ⟨5, n, m⟩ b W hb hW
  have BW : Hid (Below w.heap.size w W) := bw
  have HC : Hid (ClA B W p la lc l ia ic c hv wv) := h.later bw
  dsimp only at b0 b1 b2
  have E : Hid (Cd.al Cd.top l c ⟨5, n, m⟩ = (decide (1 ≤ m) && decide (m ≤ 64) && Cd.hc c n m)) := by unfold Hid Cd.al; simp
  rw [E.out]
  by_cases h1 : 1 ≤ m
  · have d1 : decide (1 ≤ m) = true := decide_eq_true h1
    rw [d1]
    by_cases h2 : m ≤ 64
    · have d2 : decide (m ≤ 64) = true := decide_eq_true h2
      rw [d2]
      have HE : Hid _ := cdCells_any n m p la l.length lc ia c.ins.length ic c hv wv W HC.out.cl hc ⟨by omega, h2⟩
      clear h hc bw
      go_enter Tryd.func89, Tryd.ntmps89
      go_upto_region 1 with fail
      rw [← hW, ← hb]
      clear hW hb
      go_wp2_with fail
      refine Calls.mono HE.out ?_
      rintro e w5 ⟨rfl, rfl⟩
      go_wp2_with fail
      go_ret
      exact ⟨by simp, BW.out⟩
    · have d2 : decide (m ≤ 64) = false := decide_eq_false h2
      rw [d2]
      clear h hc bw
      go_enter Tryd.func89, Tryd.ntmps89
      go_upto_region 1 with fail
      rw [← hW, ← hb]
      clear hW hb
      go_wp2_with fail
      go_ret
      exact ⟨rfl, BW.out⟩
  · have d1 : decide (1 ≤ m) = false := decide_eq_false h1
    rw [d1]
    clear h hc bw
    go_enter Tryd.func89, Tryd.ntmps89
    go_upto_region 1 with fail
    rw [← hW, ← hb]
    clear hW hb
    go_wp2_with fail
    go_ret
    exact ⟨rfl, BW.out⟩
set_option maxRecDepth 100000 in
set_option maxHeartbeats 4000000 in
theorem cdAl_6 (n m : Int) (B p : Nat) (la : Option Addr) (lc : Nat) (l : List Cd.Co) (ia : Option Addr) (ic : Nat) (c : Cd.Co) (hv wv : Value) (w : World) (h : ClA B w p la lc l ia ic c hv wv) (hc : 0 ≤ c.cells ∧ c.cells ≤ 65536) :
    Calls Tryd.prog 89 #[.pointer (some ⟨p, 0, none⟩), inV ⟨6, n, m⟩] w fun e w' => e = .returned (.bool (Cd.al Cd.top l c ⟨6, n, m⟩)) ∧ Below w.heap.size w w' := by
  obtain ⟨W, hW⟩ : ∃ W, W = w.alloc (inB ⟨6, n, m⟩) := ⟨_, rfl⟩
  obtain ⟨b, hb⟩ : ∃ b, b = w.heap.size := ⟨_, rfl⟩
  obtain ⟨b0, b1, b2, bw⟩ := in_box w ⟨6, n, m⟩ b W hb hW
  have BW : Hid (Below w.heap.size w W) := bw
  have HC : Hid (ClA B W p la lc l ia ic c hv wv) := h.later bw
  dsimp only at b0 b1 b2
  have E : Hid (Cd.al Cd.top l c ⟨6, n, m⟩ = (decide (1 ≤ m) && decide (m ≤ 64) && Cd.hc c n m)) := by unfold Hid Cd.al; simp
  rw [E.out]
  by_cases h1 : 1 ≤ m
  · have d1 : decide (1 ≤ m) = true := decide_eq_true h1
    rw [d1]
    by_cases h2 : m ≤ 64
    · have d2 : decide (m ≤ 64) = true := decide_eq_true h2
      rw [d2]
      have HE : Hid _ := cdCells_any n m p la l.length lc ia c.ins.length ic c hv wv W HC.out.cl hc ⟨by omega, h2⟩
      clear h hc bw
      go_enter Tryd.func89, Tryd.ntmps89
      go_upto_region 1 with fail
      rw [← hW, ← hb]
      clear hW hb
      go_wp2_with fail
      refine Calls.mono HE.out ?_
      rintro e w5 ⟨rfl, rfl⟩
      go_wp2_with fail
      go_ret
      exact ⟨by simp, BW.out⟩
    · have d2 : decide (m ≤ 64) = false := decide_eq_false h2
      rw [d2]
      clear h hc bw
      go_enter Tryd.func89, Tryd.ntmps89
      go_upto_region 1 with fail
      rw [← hW, ← hb]
      clear hW hb
      go_wp2_with fail
      go_ret
      exact ⟨rfl, BW.out⟩
  · have d1 : decide (1 ≤ m) = false := decide_eq_false h1
    rw [d1]
    clear h hc bw
    go_enter Tryd.func89, Tryd.ntmps89
    go_upto_region 1 with fail
    rw [← hW, ← hb]
    clear hW hb
    go_wp2_with fail
    go_ret
    exact ⟨rfl, BW.out⟩
set_option maxRecDepth 100000 in
set_option maxHeartbeats 4000000 in
theorem cdAl_17 (n m : Int) (B p : Nat) (la : Option Addr) (lc : Nat) (l : List Cd.Co) (ia : Option Addr) (ic : Nat) (c : Cd.Co) (hv wv : Value) (w : World) (h : ClA B w p la lc l ia ic c hv wv) (hc : 0 ≤ c.cells ∧ c.cells ≤ 65536) :
    Calls Tryd.prog 89 #[.pointer (some ⟨p, 0, none⟩), inV ⟨17, n, m⟩] w fun e w' => e = .returned (.bool (Cd.al Cd.top l c ⟨17, n, m⟩)) ∧ Below w.heap.size w w' := by
  obtain ⟨W, hW⟩ : ∃ W, W = w.alloc (inB ⟨17, n, m⟩) := ⟨_, rfl⟩
  obtain ⟨b, hb⟩ : ∃ b, b = w.heap.size := ⟨_, rfl⟩
  obtain ⟨b0, b1, b2, bw⟩ := in_box w ⟨17, n, m⟩ b W hb hW
  have BW : Hid (Below w.heap.size w W) := bw
  have HC : Hid (ClA B W p la lc l ia ic c hv wv) := h.later bw
  dsimp only at b0 b1 b2
  have p1 := HC.out.cl.cell.2.1
  have E : Hid (Cd.al Cd.top l c ⟨17, n, m⟩ = (decide (0 ≤ n) && decide (n < c.ins.length))) := by unfold Hid Cd.al; simp
  rw [E.out]
  generalize c.ins.length = L at p1 ⊢
  by_cases h1 : 0 ≤ n
  · have d1 : decide (0 ≤ n) = true := decide_eq_true h1
    rw [d1]
    by_cases h2 : n < (L : Int)
    · have d2 : decide (n < (L : Int)) = true := decide_eq_true h2
      rw [d2]
      clear h hc bw E
      go_enter Tryd.func89, Tryd.ntmps89
      go_upto_region 1 with fail
      rw [← hW, ← hb]
      clear hW hb
      go_wp2_with fail
      go_quiet (fail)
      have BQ := below_drewN BW.out nq
      clear BW HC
      generalize W.drewN nq = W5 at BQ ⊢
      go_wp2_with fail
      go_ret
      exact ⟨rfl, BQ⟩
    · have d2 : decide (n < (L : Int)) = false := decide_eq_false h2
      rw [d2]
      clear h hc bw E
      go_enter Tryd.func89, Tryd.ntmps89
      go_upto_region 1 with fail
      rw [← hW, ← hb]
      clear hW hb
      go_wp2_with fail
      go_quiet (fail)
      have BQ := below_drewN BW.out nq
      clear BW HC
      generalize W.drewN nq = W5 at BQ ⊢
      go_wp2_with fail
      go_ret
      exact ⟨rfl, BQ⟩
  · have d1 : decide (0 ≤ n) = false := decide_eq_false h1
    rw [d1]
    clear h hc bw E
    go_enter Tryd.func89, Tryd.ntmps89
    go_upto_region 1 with fail
    rw [← hW, ← hb]
    clear hW hb
    go_wp2_with fail
    go_quiet (fail)
    have BQ := below_drewN BW.out nq
    clear BW HC
    generalize W.drewN nq = W5 at BQ ⊢
    go_wp2_with fail
    go_ret
    exact ⟨rfl, BQ⟩
set_option maxRecDepth 100000 in
set_option maxHeartbeats 4000000 in
theorem cdAl_18 (n m : Int) (B p : Nat) (la : Option Addr) (lc : Nat) (l : List Cd.Co) (ia : Option Addr) (ic : Nat) (c : Cd.Co) (hv wv : Value) (w : World) (h : ClA B w p la lc l ia ic c hv wv) (hc : 0 ≤ c.cells ∧ c.cells ≤ 65536) :
    Calls Tryd.prog 89 #[.pointer (some ⟨p, 0, none⟩), inV ⟨18, n, m⟩] w fun e w' => e = .returned (.bool (Cd.al Cd.top l c ⟨18, n, m⟩)) ∧ Below w.heap.size w w' := by
  obtain ⟨W, hW⟩ : ∃ W, W = w.alloc (inB ⟨18, n, m⟩) := ⟨_, rfl⟩
  obtain ⟨b, hb⟩ : ∃ b, b = w.heap.size := ⟨_, rfl⟩
  obtain ⟨b0, b1, b2, bw⟩ := in_box w ⟨18, n, m⟩ b W hb hW
  have BW : Hid (Below w.heap.size w W) := bw
  have HC : Hid (ClA B W p la lc l ia ic c hv wv) := h.later bw
  dsimp only at b0 b1 b2
  have p1 := HC.out.cl.cell.2.1
  have E : Hid (Cd.al Cd.top l c ⟨18, n, m⟩ = (decide (0 ≤ n) && decide (n < c.ins.length))) := by unfold Hid Cd.al; simp
  rw [E.out]
  generalize c.ins.length = L at p1 ⊢
  by_cases h1 : 0 ≤ n
  · have d1 : decide (0 ≤ n) = true := decide_eq_true h1
    rw [d1]
    by_cases h2 : n < (L : Int)
    · have d2 : decide (n < (L : Int)) = true := decide_eq_true h2
      rw [d2]
      clear h hc bw E
      go_enter Tryd.func89, Tryd.ntmps89
      go_upto_region 1 with fail
      rw [← hW, ← hb]
      clear hW hb
      go_wp2_with fail
      go_quiet (fail)
      have BQ := below_drewN BW.out nq
      clear BW HC
      generalize W.drewN nq = W5 at BQ ⊢
      go_wp2_with fail
      go_ret
      exact ⟨rfl, BQ⟩
    · have d2 : decide (n < (L : Int)) = false := decide_eq_false h2
      rw [d2]
      clear h hc bw E
      go_enter Tryd.func89, Tryd.ntmps89
      go_upto_region 1 with fail
      rw [← hW, ← hb]
      clear hW hb
      go_wp2_with fail
      go_quiet (fail)
      have BQ := below_drewN BW.out nq
      clear BW HC
      generalize W.drewN nq = W5 at BQ ⊢
      go_wp2_with fail
      go_ret
      exact ⟨rfl, BQ⟩
  · have d1 : decide (0 ≤ n) = false := decide_eq_false h1
    rw [d1]
    clear h hc bw E
    go_enter Tryd.func89, Tryd.ntmps89
    go_upto_region 1 with fail
    rw [← hW, ← hb]
    clear hW hb
    go_wp2_with fail
    go_quiet (fail)
    have BQ := below_drewN BW.out nq
    clear BW HC
    generalize W.drewN nq = W5 at BQ ⊢
    go_wp2_with fail
    go_ret
    exact ⟨rfl, BQ⟩
set_option maxRecDepth 100000 in
set_option maxHeartbeats 4000000 in
theorem cdAl_19 (n m : Int) (B p : Nat) (la : Option Addr) (lc : Nat) (l : List Cd.Co) (ia : Option Addr) (ic : Nat) (c : Cd.Co) (hv wv : Value) (w : World) (h : ClA B w p la lc l ia ic c hv wv) (hc : 0 ≤ c.cells ∧ c.cells ≤ 65536) :
    Calls Tryd.prog 89 #[.pointer (some ⟨p, 0, none⟩), inV ⟨19, n, m⟩] w fun e w' => e = .returned (.bool (Cd.al Cd.top l c ⟨19, n, m⟩)) ∧ Below w.heap.size w w' := by
  obtain ⟨W, hW⟩ : ∃ W, W = w.alloc (inB ⟨19, n, m⟩) := ⟨_, rfl⟩
  obtain ⟨b, hb⟩ : ∃ b, b = w.heap.size := ⟨_, rfl⟩
  obtain ⟨b0, b1, b2, bw⟩ := in_box w ⟨19, n, m⟩ b W hb hW
  have BW : Hid (Below w.heap.size w W) := bw
  have HC : Hid (ClA B W p la lc l ia ic c hv wv) := h.later bw
  dsimp only at b0 b1 b2
  have E : Hid (Cd.al Cd.top l c ⟨19, n, m⟩ = Cd.mc Cd.top l ⟨19, n, m⟩) := by unfold Hid Cd.al; simp
  have HE : Hid _ := cdMay_any ⟨19, n, m⟩ B p la lc l ia c.ins.length ic c hv wv W HC.out.hB HC.out.cl HC.out.co HC.out.ok
  rw [E.out]
  clear h hc bw
  go_enter Tryd.func89, Tryd.ntmps89
  go_upto_region 1 with fail
  rw [← hW, ← hb]
  clear hW hb
  go_wp2_with fail
  refine Calls.mono HE.out ?_
  rintro e w5 ⟨rfl, b5⟩
  have BZ : Hid (Below w.heap.size w w5) := BW.out.trans (b5.mono BW.out.size)
  clear b5
  go_wp2_with fail
  go_ret
  exact ⟨rfl, BZ.out⟩
set_option maxRecDepth 100000 in
set_option maxHeartbeats 4000000 in
theorem cdAl_20 (n m : Int) (B p : Nat) (la : Option Addr) (lc : Nat) (l : List Cd.Co) (ia : Option Addr) (ic : Nat) (c : Cd.Co) (hv wv : Value) (w : World) (h : ClA B w p la lc l ia ic c hv wv) (hc : 0 ≤ c.cells ∧ c.cells ≤ 65536) :
    Calls Tryd.prog 89 #[.pointer (some ⟨p, 0, none⟩), inV ⟨20, n, m⟩] w fun e w' => e = .returned (.bool (Cd.al Cd.top l c ⟨20, n, m⟩)) ∧ Below w.heap.size w w' := by
  obtain ⟨W, hW⟩ : ∃ W, W = w.alloc (inB ⟨20, n, m⟩) := ⟨_, rfl⟩
  obtain ⟨b, hb⟩ : ∃ b, b = w.heap.size := ⟨_, rfl⟩
  obtain ⟨b0, b1, b2, bw⟩ := in_box w ⟨20, n, m⟩ b W hb hW
  have BW : Hid (Below w.heap.size w W) := bw
  have HC : Hid (ClA B W p la lc l ia ic c hv wv) := h.later bw
  dsimp only at b0 b1 b2
  have p1 := HC.out.cl.cell.2.1
  have p2 := HC.out.cl.cell.2.2.1
  have p3 := HC.out.cl.cell.2.2.2.1
  have p4 := HC.out.cl.cell.2.2.2.2.1
  have E : Hid (Cd.al Cd.top l c ⟨20, n, m⟩ = (n == if c.ans then 1 else 0)) := by unfold Hid Cd.al Cd.an; simp
  rw [E.out]
  have HE : Hid (∀ x, Calls Tryd.prog 98 #[.agg #[.slice ia c.ins.length ic, .int .i64 c.cells, .int .i64 c.params, .bool c.ans]] x fun e w' => e = .returned (.int .i64 (if c.ans then 1 else 0)) ∧ Below x.heap.size x w') := fun x => cdAns_any ia c.ins.length ic c.cells c.params c.ans x
  have bl : b < W.heap.size := by rw [hb, hW]; simp
  have pl : p < W.heap.size := HC.out.cl.lt
  clear h hc bw HC E
  generalize c.ins.length = L at p1 HE
  generalize c.cells = c2 at p2 HE
  generalize c.params = c3 at p3 HE
  generalize c.ans = c4 at p4 HE ⊢
  generalize (if c4 then (1 : Int) else 0) = an at HE ⊢
  go_enter Tryd.func89, Tryd.ntmps89
  go_upto_region 1 with fail
  rw [← hW, ← hb]
  clear hW hb
  go_wp2_with fail
  go_region_held3 (fun w' => w'.cell? ⟨b, 1, none⟩ = some (.int .i64 n) ∧ w'.cell? ⟨p, 1, none⟩ = some (.slice ia L ic) ∧ w'.cell? ⟨p, 2, none⟩ = some (.int .i64 c2) ∧ w'.cell? ⟨p, 3, none⟩ = some (.int .i64 c3) ∧ w'.cell? ⟨p, 4, none⟩ = some (.bool c4)) (first | (exact ⟨q0, q1, q2, q3, q4⟩) | go_keep) (first | (go_at_call 98; refine Calls.mono (HE.out _) ?_; rintro e5 w5 ⟨rfl, b5⟩; have q0 : w5.cell? ⟨b, 1, none⟩ = some (.int .i64 n) := (b5.cell (p := ⟨b, 1, none⟩) (by simpa using bl)).trans (by simpa [go_sem] using b1); have q1 : w5.cell? ⟨p, 1, none⟩ = some (.slice ia L ic) := (b5.cell (p := ⟨p, 1, none⟩) (by simpa using pl)).trans (by simpa [go_sem] using p1); have q2 : w5.cell? ⟨p, 2, none⟩ = some (.int .i64 c2) := (b5.cell (p := ⟨p, 2, none⟩) (by simpa using pl)).trans (by simpa [go_sem] using p2); have q3 : w5.cell? ⟨p, 3, none⟩ = some (.int .i64 c3) := (b5.cell (p := ⟨p, 3, none⟩) (by simpa using pl)).trans (by simpa [go_sem] using p3); have q4 : w5.cell? ⟨p, 4, none⟩ = some (.bool c4) := (b5.cell (p := ⟨p, 4, none⟩) (by simpa using pl)).trans (by simpa [go_sem] using p4); have B5 : Hid (Below w.heap.size w w5) := BW.out.trans (Below.mono (Below.trans (by go_grown) b5) BW.out.size); clear b5))
  all_goals
    go_wp2_with fail
    go_ret
    exact ⟨rfl, by first | exact B5.out | exact B5.out.trans (by go_grown)⟩
set_option maxRecDepth 100000 in
set_option maxHeartbeats 4000000 in
theorem cdAl_24 (n m : Int) (B p : Nat) (la : Option Addr) (lc : Nat) (l : List Cd.Co) (ia : Option Addr) (ic : Nat) (c : Cd.Co) (hv wv : Value) (w : World) (h : ClA B w p la lc l ia ic c hv wv) (hc : 0 ≤ c.cells ∧ c.cells ≤ 65536) :
    Calls Tryd.prog 89 #[.pointer (some ⟨p, 0, none⟩), inV ⟨24, n, m⟩] w fun e w' => e = .returned (.bool (Cd.al Cd.top l c ⟨24, n, m⟩)) ∧ Below w.heap.size w w' := by
  obtain ⟨W, hW⟩ : ∃ W, W = w.alloc (inB ⟨24, n, m⟩) := ⟨_, rfl⟩
  obtain ⟨b, hb⟩ : ∃ b, b = w.heap.size := ⟨_, rfl⟩
  obtain ⟨b0, b1, b2, bw⟩ := in_box w ⟨24, n, m⟩ b W hb hW
  have BW : Hid (Below w.heap.size w W) := bw
  have HC : Hid (ClA B W p la lc l ia ic c hv wv) := h.later bw
  dsimp only at b0 b1 b2
  have E : Hid (Cd.al Cd.top l c ⟨24, n, m⟩ = (decide (0 ≤ n) && decide (1 ≤ m) && decide (m ≤ 3))) := by unfold Hid Cd.al; simp
  rw [E.out]
  clear h hc bw HC
  by_cases h1 : 0 ≤ n
  · by_cases h2 : 1 ≤ m
    · by_cases h3 : m ≤ 3
      · rw [decide_eq_true h1, decide_eq_true h2, decide_eq_true h3]
        go_enter Tryd.func89, Tryd.ntmps89
        go_upto_region 1 with fail
        rw [← hW, ← hb]
        clear hW hb
        go_wp2_with fail
        go_ret
        exact ⟨rfl, BW.out⟩
      · rw [decide_eq_true h1, decide_eq_true h2, decide_eq_false h3]
        go_enter Tryd.func89, Tryd.ntmps89
        go_upto_region 1 with fail
        rw [← hW, ← hb]
        clear hW hb
        go_wp2_with fail
        go_ret
        exact ⟨rfl, BW.out⟩
    · rw [decide_eq_true h1, decide_eq_false h2]
      go_enter Tryd.func89, Tryd.ntmps89
      go_upto_region 1 with fail
      rw [← hW, ← hb]
      clear hW hb
      go_wp2_with fail
      go_ret
      exact ⟨rfl, BW.out⟩
  · rw [decide_eq_false h1]
    go_enter Tryd.func89, Tryd.ntmps89
    go_upto_region 1 with fail
    rw [← hW, ← hb]
    clear hW hb
    go_wp2_with fail
    go_ret
    exact ⟨rfl, BW.out⟩
set_option maxRecDepth 100000 in
set_option maxHeartbeats 4000000 in
theorem cdAl_no (op n m : Int) (q2 : ¬ op = 2) (q3 : ¬ op = 3) (q4 : ¬ op = 4) (q5 : ¬ op = 5) (q6 : ¬ op = 6) (q17 : ¬ op = 17) (q18 : ¬ op = 18) (q19 : ¬ op = 19) (q20 : ¬ op = 20) (q24 : ¬ op = 24) (B p : Nat) (la : Option Addr) (lc : Nat) (l : List Cd.Co) (ia : Option Addr) (ic : Nat) (c : Cd.Co) (hv wv : Value) (w : World) (h : ClA B w p la lc l ia ic c hv wv) (hc : 0 ≤ c.cells ∧ c.cells ≤ 65536) :
    Calls Tryd.prog 89 #[.pointer (some ⟨p, 0, none⟩), inV ⟨op, n, m⟩] w fun e w' => e = .returned (.bool (Cd.al Cd.top l c ⟨op, n, m⟩)) ∧ Below w.heap.size w w' := by
  obtain ⟨W, hW⟩ : ∃ W, W = w.alloc (inB ⟨op, n, m⟩) := ⟨_, rfl⟩
  obtain ⟨b, hb⟩ : ∃ b, b = w.heap.size := ⟨_, rfl⟩
  obtain ⟨b0, b1, b2, bw⟩ := in_box w ⟨op, n, m⟩ b W hb hW
  have BW : Hid (Below w.heap.size w W) := bw
  have HC : Hid (ClA B W p la lc l ia ic c hv wv) := h.later bw
  dsimp only at b0 b1 b2
  have E : Hid (Cd.al Cd.top l c ⟨op, n, m⟩ = true) := by unfold Hid Cd.al; simp [q2, q3, q4, q5, q6, q17, q18, q19, q20, q24]
  rw [E.out]
  have e2 : (op == 2) = false := by simpa using q2
  have e3 : (op == 3) = false := by simpa using q3
  have e4 : (op == 4) = false := by simpa using q4
  have e5 : (op == 5) = false := by simpa using q5
  have e6 : (op == 6) = false := by simpa using q6
  have e17 : (op == 17) = false := by simpa using q17
  have e18 : (op == 18) = false := by simpa using q18
  have e19 : (op == 19) = false := by simpa using q19
  have e20 : (op == 20) = false := by simpa using q20
  have e24 : (op == 24) = false := by simpa using q24
  clear h hc bw HC q2 q3 q4 q5 q6 q17 q18 q19 q20 q24
  go_enter Tryd.func89, Tryd.ntmps89
  go_upto_region 1 with fail
  rw [← hW, ← hb]
  clear hW hb
  go_wp2_with fail
  go_ret
  exact ⟨rfl, BW.out⟩
theorem cdAl_any (i : Cd.In) (B p : Nat) (la : Option Addr) (lc : Nat) (l : List Cd.Co) (ia : Option Addr) (ic : Nat) (c : Cd.Co) (hv wv : Value) (w : World) (h : ClA B w p la lc l ia ic c hv wv) (hc : 0 ≤ c.cells ∧ c.cells ≤ 65536) :
    Calls Tryd.prog 89 #[.pointer (some ⟨p, 0, none⟩), inV i] w fun e w' => e = .returned (.bool (Cd.al Cd.top l c i)) ∧ Below w.heap.size w w' := by
  obtain ⟨op, n, m⟩ := i
  by_cases q2 : op = 2
  · subst q2; exact cdAl_2 n m B p la lc l ia ic c hv wv w h hc
  by_cases q3 : op = 3
  · subst q3; exact cdAl_3 n m B p la lc l ia ic c hv wv w h hc
  by_cases q4 : op = 4
  · subst q4; exact cdAl_4 n m B p la lc l ia ic c hv wv w h hc
  by_cases q5 : op = 5
  · subst q5; exact cdAl_5 n m B p la lc l ia ic c hv wv w h hc
  by_cases q6 : op = 6
  · subst q6; exact cdAl_6 n m B p la lc l ia ic c hv wv w h hc
  by_cases q17 : op = 17
  · subst q17; exact cdAl_17 n m B p la lc l ia ic c hv wv w h hc
  by_cases q18 : op = 18
  · subst q18; exact cdAl_18 n m B p la lc l ia ic c hv wv w h hc
  by_cases q19 : op = 19
  · subst q19; exact cdAl_19 n m B p la lc l ia ic c hv wv w h hc
  by_cases q20 : op = 20
  · subst q20; exact cdAl_20 n m B p la lc l ia ic c hv wv w h hc
  by_cases q24 : op = 24
  · subst q24; exact cdAl_24 n m B p la lc l ia ic c hv wv w h hc
  exact cdAl_no op n m q2 q3 q4 q5 q6 q17 q18 q19 q20 q24 B p la lc l ia ic c hv wv w h hc
end Go.Proofs.YtkjkiknpgggadaaDoor

