/- Layer 8: whether a code's numbers and instructions may be (the document's shape), for every code. -/
/- Layer 8: the document's Heights in memory: the code's box, the row of heights. -/
import Derived.Test.YtkjkiknpgggadaaDoorSCdNa
import Derived.Test.YtkjkiknpgggadaaDoorSCdI
import Derived.Test.YtkjkiknpgggadaaDoorSCdS
import Derived.Deep.LoopGhost
namespace Go.Proofs.YtkjkiknpgggadaaDoor
open Go.RowKit
set_option linter.unusedVariables false
set_option linter.unusedSimpArgs false

theorem sz_is (N : Nat) (c : Cd.Co) (h : N = c.ins.length) : Cd.sz c = true ↔ ¬ (N : Int) = 0 ∧ ¬ (65536 : Int) < N ∧ ¬ c.cells < 0 ∧ ¬ 65536 < c.cells ∧ ¬ c.params < 0 ∧ ¬ 8 < c.params ∧ ¬ c.cells < c.params := by
  unfold Cd.sz
  simp only [Bool.and_eq_true, decide_eq_true_eq]
  omega
theorem co_box (w : World) (ia : Option Addr) (N ic : Nat) (c : Cd.Co) (b : Nat) (W : World) (hb : b = w.heap.size) (hW : W = w.alloc (coB ia N ic c)) : W.cell? ⟨b, 0, none⟩ = some (.slice ia N ic) ∧ W.cell? ⟨b, 1, none⟩ = some (.int .i64 c.cells) ∧ W.cell? ⟨b, 2, none⟩ = some (.int .i64 c.params) ∧ W.cell? ⟨b, 3, none⟩ = some (.bool c.ans) ∧ Below w.heap.size w W ∧ b < W.heap.size := by
  subst hb hW
  refine ⟨?_, ?_, ?_, ?_, (Below.refl _ _).alloc (Nat.le_refl _) _, ?_⟩ <;> simp [go_sem]
structure CoXn (w W : World) (b : Nat) (ia : Option Addr) (N ic : Nat) (c : Cd.Co) : Prop where
  a0 : W.cell? ⟨b, 0, none⟩ = some (.slice ia N ic)
  a1 : W.cell? ⟨b, 1, none⟩ = some (.int .i64 c.cells)
  a2 : W.cell? ⟨b, 2, none⟩ = some (.int .i64 c.params)
  a3 : W.cell? ⟨b, 3, none⟩ = some (.bool c.ans)
  bw : Below w.heap.size w W
  lt : b < W.heap.size
theorem CoXn.later {w W W' : World} {b : Nat} {ia : Option Addr} {N ic : Nat} {c : Cd.Co} (h : CoXn w W b ia N ic c) (y : Below W.heap.size W W') : CoXn w W' b ia N ic c :=
  ⟨(y.cell (p := ⟨b, 0, none⟩) h.lt).trans h.a0, (y.cell (p := ⟨b, 1, none⟩) h.lt).trans h.a1, (y.cell (p := ⟨b, 2, none⟩) h.lt).trans h.a2, (y.cell (p := ⟨b, 3, none⟩) h.lt).trans h.a3, h.bw.trans (y.mono h.bw.size), Nat.lt_of_lt_of_le h.lt y.size⟩
set_option maxRecDepth 100000 in
set_option maxHeartbeats 8000000 in
theorem rShape_sz (la : Option Addr) (L lc : Nat) (ia : Option Addr) (ic : Nat) (c : Cd.Co) (w : World) (hs : Cd.sz c = false) : Calls Tryd.prog 70 #[.slice la L lc, coV ia ic c] w fun e w' => e = .returned (.bool false) ∧ Below w.heap.size w w' := by
  obtain ⟨N, hN⟩ : ∃ N, N = c.ins.length := ⟨_, rfl⟩
  have hz : ¬ (¬ (N : Int) = 0 ∧ ¬ (65536 : Int) < N ∧ ¬ c.cells < 0 ∧ ¬ 65536 < c.cells ∧ ¬ c.params < 0 ∧ ¬ 8 < c.params ∧ ¬ c.cells < c.params) := fun h => by
    have := (sz_is N c hN).2 h
    rw [hs] at this
    cases this
  show Calls _ _ #[_, .agg #[.slice ia c.ins.length ic, .int .i64 c.cells, .int .i64 c.params, .bool c.ans]] _ _
  rw [← hN]
  obtain ⟨W, hW⟩ : ∃ W, W = w.alloc (coB ia N ic c) := ⟨_, rfl⟩
  obtain ⟨b, hb⟩ : ∃ b, b = w.heap.size := ⟨_, rfl⟩
  obtain ⟨a0, a1, a2, a3, bw, bl⟩ := co_box w ia N ic c b W hb hW
  have BW : Hid (Below w.heap.size w W) := bw
  clear bw hs hN
  obtain ⟨is, x, q, an⟩ := c
  dsimp only at *
  by_cases h1 : (N : Int) = 0
  · have e1 : ((N : Int) == 0) = true := by rw [h1]; rfl
    clear hz h1
    go_enter Tryd.func70, Tryd.ntmps70
    go_upto_region 1 with fail
    rw [← hW, ← hb]
    clear hW hb
    go_wp2_with fail
    go_ret
    exact ⟨rfl, BW.out⟩
  have e1 : ((N : Int) == 0) = false := beq_eq_false_iff_ne.2 h1
  by_cases h2 : (65536 : Int) < N
  · have d2 : decide ((65536 : Int) < N) = true := decide_eq_true h2
    clear hz h1
    go_enter Tryd.func70, Tryd.ntmps70
    go_upto_region 1 with fail
    rw [← hW, ← hb]
    clear hW hb
    go_wp2_with fail
    go_ret
    exact ⟨rfl, BW.out⟩
  have d2 : decide ((65536 : Int) < N) = false := decide_eq_false h2
  by_cases h3 : x < 0
  · have d3 : decide (x < 0) = true := decide_eq_true h3
    clear hz h1
    go_enter Tryd.func70, Tryd.ntmps70
    go_upto_region 1 with fail
    rw [← hW, ← hb]
    clear hW hb
    go_wp2_with fail
    go_ret
    exact ⟨rfl, BW.out⟩
  have d3 : decide (x < 0) = false := decide_eq_false h3
  by_cases h4 : 65536 < x
  · have d4 : decide (65536 < x) = true := decide_eq_true h4
    clear hz h1
    go_enter Tryd.func70, Tryd.ntmps70
    go_upto_region 1 with fail
    rw [← hW, ← hb]
    clear hW hb
    go_wp2_with fail
    go_ret
    exact ⟨rfl, BW.out⟩
  have d4 : decide (65536 < x) = false := decide_eq_false h4
  by_cases h5 : q < 0
  · have d5 : decide (q < 0) = true := decide_eq_true h5
    clear hz h1
    go_enter Tryd.func70, Tryd.ntmps70
    go_upto_region 1 with fail
    rw [← hW, ← hb]
    clear hW hb
    go_wp2_with fail
    go_ret
    exact ⟨rfl, BW.out⟩
  have d5 : decide (q < 0) = false := decide_eq_false h5
  by_cases h6 : 8 < q
  · have d6 : decide (8 < q) = true := decide_eq_true h6
    clear hz h1
    go_enter Tryd.func70, Tryd.ntmps70
    go_upto_region 1 with fail
    rw [← hW, ← hb]
    clear hW hb
    go_wp2_with fail
    go_ret
    exact ⟨rfl, BW.out⟩
  have d6 : decide (8 < q) = false := decide_eq_false h6
  have h7 : x < q := by omega
  have d7 : decide (x < q) = true := decide_eq_true h7
  clear hz h1
  go_enter Tryd.func70, Tryd.ntmps70
  go_upto_region 1 with fail
  rw [← hW, ← hb]
  clear hW hb
  go_wp2_with fail
  go_ret
  exact ⟨rfl, BW.out⟩
set_option maxRecDepth 100000 in
set_option maxHeartbeats 8000000 in
theorem rShape_in (B : Nat) (la : Option Addr) (lc : Nat) (l : List Cd.Co) (ia : Option Addr) (ic : Nat) (c : Cd.Co) (w : World) (h : MyA B w la l c) (hii : InS B w ia c.ins) (hs : Cd.sz c = true) : Calls Tryd.prog 70 #[.slice la l.length lc, coV ia ic c] w fun e w' => e = .returned (.bool (Cd.fm 8 l c)) ∧ Below w.heap.size w w' := by
  obtain ⟨N, hN⟩ : ∃ N, N = c.ins.length := ⟨_, rfl⟩
  obtain ⟨z1, z2, z3, z4, z5, z6, z7⟩ := (sz_is N c hN).1 hs
  have HA : Hid (MyA B w la l c) := h
  have HI : Hid (InS B w ia c.ins) := hii
  show Calls _ _ #[_, .agg #[.slice ia c.ins.length ic, .int .i64 c.cells, .int .i64 c.params, .bool c.ans]] _ _
  rw [← hN]
  have HN : Hid (N = c.ins.length) := hN
  obtain ⟨W, hW⟩ : ∃ W, W = w.alloc (coB ia N ic c) := ⟨_, rfl⟩
  obtain ⟨b, hb⟩ : ∃ b, b = w.heap.size := ⟨_, rfl⟩
  obtain ⟨a0, a1, a2, a3, bw, bl⟩ := co_box w ia N ic c b W hb hW
  have X0 : Hid (CoXn w W b ia N ic c) := ⟨a0, a1, a2, a3, bw, bl⟩
  have e1 : ((N : Int) == 0) = false := beq_eq_false_iff_ne.2 z1
  have d2 : decide ((65536 : Int) < N) = false := decide_eq_false z2
  have d3 : decide (c.cells < 0) = false := decide_eq_false z3
  have d4 : decide (65536 < c.cells) = false := decide_eq_false z4
  have d5 : decide (c.params < 0) = false := decide_eq_false z5
  have d6 : decide (8 < c.params) = false := decide_eq_false z6
  have d7 : decide (c.cells < c.params) = false := decide_eq_false z7
  have hN6 : N ≤ 65536 := by omega
  clear bw hs hN h hii z1
  go_enter Tryd.func70, Tryd.ntmps70
  go_upto_region 1 with fail
  rw [← hW, ← hb]
  clear hW hb
  go_wp2_with fail
  go_loopw [6] (fun i wr => ∃ j : Nat, j ≤ N ∧ i = .int .i64 j ∧ Hid (CoXn w wr b ia N ic c) ∧ Hid (∀ q i, q < j → c.ins[q]? = some i → (Cd.hl i && Cd.al 8 l c i) = true)) (fun i _ => N - (intOf i).toNat)
  case atStart => exact ⟨0, by omega, rfl, X0, fun q _ hq => absurd hq (Nat.not_lt_zero q)⟩
  case round =>
    clear a0 a1 a2 a3 bl X0 z2 z3 z4 z5 z6 z7 d2 d3 d4 d5 d6 d7 e1
    obtain ⟨j, hj, rfl, X, NN⟩ := hrel
    by_cases hlt : j < N
    · obtain ⟨x, ex⟩ : ∃ x, c.ins[j]? = some x := ⟨_, List.getElem?_eq_getElem (by rw [← HN.out]; exact hlt)⟩
      obtain ⟨a0, a1, a2, a3, bw, bl⟩ := X.out
      have BR : Hid (Below w.heap.size w wr) := bw
      obtain ⟨g, o, rfl, hg, at_⟩ := (HI.out.later (bw.mono HA.out.hB)).at ex
      have hgw : g < wr.heap.size := Nat.lt_of_lt_of_le hg (Nat.le_trans HA.out.hB bw.size)
      have c0 := at_.c0
      have c1 := at_.c1
      have c2 := at_.c2
      have EX : Hid (c.ins[j]? = some x) := ex
      have hok : x.Ok := HA.out.ck.1 x (List.mem_of_getElem? ex)
      obtain ⟨r, hr⟩ : ∃ r, r = (Cd.hl x && Cd.al 8 l c x) := ⟨_, rfl⟩
      have EM : Hid (∀ X, Below wr.heap.size wr X → Calls Tryd.prog 87 #[.slice la l.length lc, .agg #[.slice (some ⟨g, o, none⟩) N ic, .int .i64 c.cells, .int .i64 c.params, .bool c.ans], .agg #[.int .i64 x.op, .int .i64 x.n, .int .i64 x.m]] X fun e w' => e = .returned (.bool r) ∧ Below X.heap.size X w') := fun X hX => by
        have bX : Below w.heap.size w X := BR.out.trans (hX.mono BR.out.size)
        have := rMay_any x B la lc l (some ⟨g, o, none⟩) ic c X ⟨Nat.le_trans HA.out.hB bX.size, HA.out.co.later (bX.mono HA.out.hB), HA.out.ok, HA.out.ck⟩ hok
        rw [← hr] at this
        rw [HN.out]
        exact this
      have HR : Hid (r = (Cd.hl x && Cd.al 8 l c x)) := hr
      have hji : (j : Int) < (N : Int) := by omega
      have hj0 : (0 : Int) ≤ (j : Int) := by omega
      clear at_ ex bw hr hok X
      generalize l.length = L at EM ⊢
      go_wp2_with fail
      go_region_held3 (fun w' => w'.cell? ⟨b, 0, none⟩ = some (.slice (some ⟨g, o, none⟩) N ic) ∧ w'.cell? ⟨b, 1, none⟩ = some (.int .i64 c.cells) ∧ w'.cell? ⟨b, 2, none⟩ = some (.int .i64 c.params) ∧ w'.cell? ⟨b, 3, none⟩ = some (.bool c.ans) ∧ w'.cell? ⟨g, o + j * 3, none⟩ = some (.int .i64 x.op) ∧ w'.cell? ⟨g, o + j * 3 + 1, none⟩ = some (.int .i64 x.n) ∧ w'.cell? ⟨g, o + j * 3 + 2, none⟩ = some (.int .i64 x.m)) (first | (exact ⟨q0, q1, q2, q3, q4, q5, q6⟩) | go_keep) (first | (go_at_call 87; refine Calls.mono (EM.out _ (by go_grown)) ?_; rintro e5 w5 ⟨rfl, b5⟩; have q0 : w5.cell? ⟨b, 0, none⟩ = some (.slice (some ⟨g, o, none⟩) N ic) := (b5.cell (p := ⟨b, 0, none⟩) (by simpa using bl)).trans (by simpa [go_sem] using a0); have q1 : w5.cell? ⟨b, 1, none⟩ = some (.int .i64 c.cells) := (b5.cell (p := ⟨b, 1, none⟩) (by simpa using bl)).trans (by simpa [go_sem] using a1); have q2 : w5.cell? ⟨b, 2, none⟩ = some (.int .i64 c.params) := (b5.cell (p := ⟨b, 2, none⟩) (by simpa using bl)).trans (by simpa [go_sem] using a2); have q3 : w5.cell? ⟨b, 3, none⟩ = some (.bool c.ans) := (b5.cell (p := ⟨b, 3, none⟩) (by simpa using bl)).trans (by simpa [go_sem] using a3); have q4 : w5.cell? ⟨g, o + j * 3, none⟩ = some (.int .i64 x.op) := (b5.cell (p := ⟨g, o + j * 3, none⟩) (by simpa using hgw)).trans (by simpa [go_sem] using c0); have q5 : w5.cell? ⟨g, o + j * 3 + 1, none⟩ = some (.int .i64 x.n) := (b5.cell (p := ⟨g, o + j * 3 + 1, none⟩) (by simpa using hgw)).trans (by simpa [go_sem] using c1); have q6 : w5.cell? ⟨g, o + j * 3 + 2, none⟩ = some (.int .i64 x.m) := (b5.cell (p := ⟨g, o + j * 3 + 2, none⟩) (by simpa using hgw)).trans (by simpa [go_sem] using c2); have b6 : Below wr.heap.size wr w5 := Below.trans (by go_grown) b5; have X5 : Hid (CoXn w w5 b (some ⟨g, o, none⟩) N ic c) := ⟨q0, q1, q2, q3, BR.out.trans (b6.mono BR.out.size), Nat.lt_of_lt_of_le bl b6.size⟩; clear b5 b6))
      all_goals
        have X9 : Hid (CoXn w _ b (some ⟨g, o, none⟩) N ic c) := X5.out.later ⟨rfl, rfl, rfl, Nat.le_refl _, fun _ _ => rfl⟩
        clear X5 q0 q1 q2 q3 q4 q5 q6 a0 a1 a2 a3 c0 c1 c2 BR
        cases r with
        | false =>
          have G : Hid (false = Cd.fm 8 l c) := (cdFm_no EX.out HR.out.symm).symm
          go_wp2_with fail
          go_ret
          exact ⟨retB G.out, X9.out.bw⟩
        | true =>
          have G : Hid (∀ q i, q < j + 1 → c.ins[q]? = some i → (Cd.hl i && Cd.al 8 l c i) = true) := fun q i hq ei => by
            by_cases hq2 : q < j
            · exact NN.out q i hq2 ei
            · have e : q = j := by omega
              rw [e, EX.out] at ei
              cases ei
              exact HR.out.symm
          clear NN
          go_wp2_with fail
          go_roundw
          case rel => exact ⟨j + 1, by omega, by go_num, X9, G⟩
          case measure => simp [intOf]; omega
    · obtain rfl : j = N := by omega
      have G : Hid (true = Cd.fm 8 l c) := (cdFm_yes fun q i hq ei => NN.out q i (by rw [HN.out]; exact hq) ei).symm
      have BR : Hid (Below w.heap.size w wr) := X.out.bw
      clear NN X
      go_wp2_with fail
      go_ret
      exact ⟨retB G.out, BR.out⟩
theorem rShape_any (B : Nat) (la : Option Addr) (lc : Nat) (l : List Cd.Co) (ia : Option Addr) (ic : Nat) (c : Cd.Co) (w : World) (h : MyA B w la l c) (hii : InS B w ia c.ins) : Calls Tryd.prog 70 #[.slice la l.length lc, coV ia ic c] w fun e w' => e = .returned (.bool (Cd.sz c && Cd.fm 8 l c)) ∧ Below w.heap.size w w' := by
  cases hs : Cd.sz c with
  | false => exact rShape_sz la l.length lc ia ic c w hs
  | true => exact rShape_in B la lc l ia ic c w h hii hs
end Go.Proofs.YtkjkiknpgggadaaDoor

namespace Go.Proofs.YtkjkiknpgggadaaDoor
open Go.RowKit
set_option linter.unusedVariables false
set_option linter.unusedSimpArgs false

structure HtM (w : World) (b : Nat) (ia : Option Addr) (N ic : Nat) (c : Cd.Co) (g : Nat) (hs : List Int) (wr : World) : Prop where
  x : CoXn w wr b ia N ic c
  hh : ∃ rest, wr.heap[g]? = some (.cells (nC hs ++ rest).toArray 3 (0, 0))
  wg : w.heap.size ≤ g
  bg : b < g
theorem HtM.lt {w : World} {b : Nat} {ia : Option Addr} {N ic : Nat} {c : Cd.Co} {g : Nat} {hs : List Int} {wr : World} (h : HtM w b ia N ic c g hs wr) : g < wr.heap.size := by
  obtain ⟨r, e⟩ := h.hh
  exact (Array.getElem?_eq_some_iff.1 e).1
theorem HtM.later {w : World} {b : Nat} {ia : Option Addr} {N ic : Nat} {c : Cd.Co} {g : Nat} {hs : List Int} {wr wx : World} (h : HtM w b ia N ic c g hs wr) (y : Below wr.heap.size wr wx) : HtM w b ia N ic c g hs wx := by
  obtain ⟨r, e⟩ := h.hh
  exact ⟨h.x.later y, ⟨r, (y.block g h.lt).trans e⟩, h.wg, h.bg⟩
theorem HtM.at {w : World} {b : Nat} {ia : Option Addr} {N ic : Nat} {c : Cd.Co} {g : Nat} {hs : List Int} {wr : World} (h : HtM w b ia N ic c g hs wr) {q : Nat} {x : Int} (e : hs[q]? = some x) : wr.cell? ⟨g, q, none⟩ = some (.int .i64 x) ∧ wr.frozen? ⟨g, q, none⟩ = false := by
  obtain ⟨r, er⟩ := h.hh
  have ql := (List.getElem?_eq_some_iff.1 e).1
  have e2 : (nC hs ++ r)[q]? = some (.int .i64 x) := by
    rw [List.getElem?_append_left (by simpa [nC] using ql)]
    simp [nC, e]
  constructor
  · simp only [World.cell?, er]
    simpa using e2
  · simp [World.frozen?, er]
theorem HtM.set {w : World} {b : Nat} {ia : Option Addr} {N ic : Nat} {c : Cd.Co} {g : Nat} {hs : List Int} {wr : World} (h : HtM w b ia N ic c g hs wr) {q : Nat} (ql : q < hs.length) (x : Int) : HtM w b ia N ic c g (hs.set q x) (wr.setCell ⟨g, q, none⟩ (.int .i64 x)) := by
  obtain ⟨r, er⟩ := h.hh
  have bg : Below g wr (wr.setCell ⟨g, q, none⟩ (.int .i64 x)) := ⟨rfl, rfl, rfl, by simp, fun k hk => heap_setCell_other wr _ k _ (by simp; omega)⟩
  have bl : b < g := h.bg
  refine ⟨⟨(bg.cell (p := ⟨b, 0, none⟩) bl).trans h.x.a0, (bg.cell (p := ⟨b, 1, none⟩) bl).trans h.x.a1, (bg.cell (p := ⟨b, 2, none⟩) bl).trans h.x.a2, (bg.cell (p := ⟨b, 3, none⟩) bl).trans h.x.a3, h.x.bw.trans (bg.mono h.wg), by simpa using h.x.lt⟩, ⟨r, ?_⟩, h.wg, h.bg⟩
  rw [heap_setCell_same _ _ _ _ _ _ er, List.setIfInBounds_toArray, List.set_append_left _ _ (by simpa [nC] using ql)]
  simp [nC, List.map_set]
def HtA (w : World) (b : Nat) (ia : Option Addr) (N ic : Nat) (c : Cd.Co) (gk : Nat) (v i : Value) (wr : World) : Prop :=
  ∃ k : Nat, k + gk = N ∧ i = .int .i64 k ∧ (∃ a cap, v = .slice a k cap) ∧ Hid (wr.ownsRow (b + 1) 3 1 v k (nC (List.replicate k (-1)))) ∧ Hid (CoXn w wr b ia N ic c)
theorem nC_rep (k : Nat) : nC (List.replicate (k + 1) (-1)) = nC (List.replicate k (-1)) ++ [.int .i64 (-1)] := by
  rw [List.replicate_succ']
  simp [nC]
theorem HtA.step {w : World} {b : Nat} {ia : Option Addr} {N ic : Nat} {c : Cd.Co} {k : Nat} {v v8 : Value} {wr w8 : World} {o : Obj} (R : wr.ownsRow (b + 1) 3 1 v k (nC (List.replicate k (-1)))) (X : CoXn w wr b ia N ic c) (hb : b = w.heap.size) (h8 : w8.ownsRow (b + 1) 3 1 v8 (k + 1) (nC (List.replicate k (-1)) ++ [.int .i64 (-1)])) (g8 : (wr.alloc o).grownBy w8 v.ownBlock) : w8.ownsRow (b + 1) 3 1 v8 (k + 1) (nC (List.replicate (k + 1) (-1))) ∧ CoXn w w8 b ia N ic c := by
  refine ⟨by rw [nC_rep]; exact h8, ?_⟩
  have hl := X.lt
  have kb : ∀ j, j ≤ b → w8.heap[j]? = wr.heap[j]? := fun j hj => by
    rw [g8.block j (by simp; omega) (fun e => by have := (World.ownsRow.lt R _ e.symm).1; omega)]
    exact ((Below.refl wr.heap.size wr).alloc (Nat.le_refl _) o).block j (by omega)
  have kk := kb b (Nat.le_refl _)
  have sz : wr.heap.size ≤ w8.heap.size := by have := g8.size; simp at this; omega
  refine ⟨(World.cell?_of_block (w := wr) (a := ⟨b, 0, none⟩) kk).trans X.a0, (World.cell?_of_block (w := wr) (a := ⟨b, 1, none⟩) kk).trans X.a1, (World.cell?_of_block (w := wr) (a := ⟨b, 2, none⟩) kk).trans X.a2, (World.cell?_of_block (w := wr) (a := ⟨b, 3, none⟩) kk).trans X.a3, ?_, by omega⟩
  exact X.bw.trans ⟨g8.os, g8.tape, g8.output, sz, fun j hj => kb j (by omega)⟩
theorem HtA.whole {w : World} {b : Nat} {ia : Option Addr} {N ic : Nat} {c : Cd.Co} {v : Value} {wr : World} (R : wr.ownsRow (b + 1) 3 1 v N (nC (List.replicate N (-1)))) (X : CoXn w wr b ia N ic c) (hb : b = w.heap.size) (h0 : 0 < N) : ∃ g cap, v = .slice (some ⟨g, 0, none⟩) N cap ∧ HtM w b ia N ic c g (List.replicate N (-1)) wr := by
  rcases R.2 with ⟨_, e⟩ | ⟨g, cap, cur, rfl, hbb, hh, hnc, _, hcs, ht⟩
  · omega
  · refine ⟨g, cap, rfl, X, ⟨cur.toList.drop N, ?_⟩, by omega, by omega⟩
    have e : nC (List.replicate N (-1)) = cur.toList.take N := by
      have := ht
      rw [Nat.mul_one] at this
      exact this.symm
    rw [hh, e, List.take_append_drop]
def RhE (w : World) (r : Option (List Int)) (e : Ending) (w' : World) : Prop := match r with
  | none => e = .returned (.tuple #[.slice none 0 0, .bool false])
  | some H => ∃ g cap rest, e = .returned (.tuple #[.slice (some ⟨g, 0, none⟩) H.length cap, .bool true]) ∧ w.heap.size ≤ g ∧ w'.heap[g]? = some (.cells (nC H ++ rest).toArray 3 (0, 0))
def RhQ (l : List Cd.Co) (c : Cd.Co) (w : World) (e : Ending) (w' : World) : Prop := ∃ r, Cd.HR 8 l c r ∧ Below w.heap.size w w' ∧ RhE w r e w'
def Cd.lf (hs : List Int) : Nat := hs.count (-1)
def HtR (w : World) (b : Nat) (ia : Option Addr) (N ic : Nat) (c : Cd.Co) (l : List Cd.Co) (g : Nat) (gk : Nat) (m : Value) (wr : World) : Prop :=
  ∃ hs more, m = .bool more ∧ Hid (HtM w b ia N ic c g hs wr) ∧ Hid (Cd.RI l c hs) ∧ Hid (gk = if more then Cd.lf hs + 1 else 0) ∧ Hid (more = false → ∀ p, p < N → Cd.Gd l c hs p)
structure HtK (l : List Cd.Co) (c : Cd.Co) (C at_ : Nat) (hs : List Int) (more : Bool) : Prop where
  ri : Cd.RI l c hs
  le : Cd.lf hs ≤ C
  lt : more = true → Cd.lf hs < C
  gd : more = false → ∀ p, p < at_ → Cd.Gd l c hs p
def HtP (w : World) (b : Nat) (ia : Option Addr) (N ic : Nat) (c : Cd.Co) (l : List Cd.Co) (g C : Nat) (gk : Nat) (m i : Value) (wr : World) : Prop :=
  ∃ (at_ : Nat) (hs : List Int) (more : Bool), at_ + gk = N ∧ i = .int .i64 at_ ∧ m = .bool more ∧ Hid (HtM w b ia N ic c g hs wr) ∧ Hid (HtK l c C at_ hs more)
def HtQ (w : World) (b : Nat) (ia : Option Addr) (N ic : Nat) (c : Cd.Co) (l : List Cd.Co) (g C at_ : Nat) (h h' : Int) (fs : List Int) (a : Option Addr) (gk : Nat) (m i : Value) (wr : World) : Prop :=
  ∃ (j : Nat) (hs : List Int) (more : Bool), j + gk = fs.length ∧ i = .int .i64 j ∧ m = .bool more ∧ Hid (HtM w b ia N ic c g hs wr) ∧ Hid (HtK l c C at_ hs more) ∧ Hid (hs[at_]? = some h) ∧ Hid (∀ q, q ∈ fs.take j → 0 ≤ q ∧ hs[q.toNat]? = some h') ∧ Hid (FlS (g + 1) wr a fs)
theorem FlS.later {B : Nat} {w w' : World} {a : Option Addr} {l : List Int} (h : FlS B w a l) (y : Below w.heap.size w w') : FlS B w' a l := fun h0 => by
  obtain ⟨g, e, h1, h2, h3⟩ := h h0
  exact ⟨g, e, h1, Nat.lt_of_lt_of_le h2 y.size, fun j x hx => (y.cell (p := ⟨g, j, none⟩) h2).trans (h3 j x hx)⟩
theorem FlS.set {B : Nat} {w : World} {a : Option Addr} {l : List Int} (h : FlS B w a l) {g q : Nat} (hg : g < B) (v : Value) : FlS B (w.setCell ⟨g, q, none⟩ v) a l := fun h0 => by
  obtain ⟨g', e, h1, h2, h3⟩ := h h0
  exact ⟨g', e, h1, by simpa using h2, fun j x hx => by
    have k : (w.setCell ⟨g, q, none⟩ v).heap[g']? = w.heap[g']? := heap_setCell_other w _ g' _ (by simp; omega)
    exact (World.cell?_of_block (w := w) (a := ⟨g', j, none⟩) k).trans (h3 j x hx)⟩
theorem HtK.set {l : List Cd.Co} {c : Cd.Co} {C at_ : Nat} {hs : List Int} {more : Bool} (K : HtK l c C at_ hs more) {q : Nat} {x : Int} (e : hs[q]? = some (-1)) (r : Cd.Rc l c q x) (h0 : 0 ≤ x) (h1 : x ≤ 4097) : HtK l c C at_ (hs.set q x) true := by
  have := Cd.count_set hs q x e (by omega)
  have l1 := K.le
  unfold Cd.lf at *
  exact ⟨K.ri.set e r h0 h1, by unfold Cd.lf; omega, fun _ => by unfold Cd.lf; omega, fun e => by cases e⟩
theorem HtK.next {l : List Cd.Co} {c : Cd.Co} {C at_ : Nat} {hs : List Int} {more : Bool} (K : HtK l c C at_ hs more) (G : Cd.Gd l c hs at_) : HtK l c C (at_ + 1) hs more :=
  ⟨K.ri, K.le, K.lt, fun e p hp => by
    by_cases h : p < at_
    · exact K.gd e p h
    · obtain rfl : p = at_ := by omega
      exact G⟩
end Go.Proofs.YtkjkiknpgggadaaDoor

