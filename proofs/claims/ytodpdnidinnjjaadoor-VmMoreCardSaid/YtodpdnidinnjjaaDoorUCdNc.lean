/- Layer 8: whether a code's numbers and instructions may be (the document's shape), for every code. -/
import Derived.Test.YtodpdnidinnjjaaDoorUCdNa
import Derived.Test.YtodpdnidinnjjaaDoorUCdH
namespace Go.Proofs.YtodpdnidinnjjaaDoor
open Go.RowKit
set_option linter.unusedVariables false
set_option linter.unusedSimpArgs false

theorem sz_is (N : Nat) (c : Cd.Co) (h : N = c.ins.length) : Cd.sz c = true ↔ ¬ (N : Int) = 0 ∧ ¬ (65536 : Int) < N ∧ ¬ c.cells < 0 ∧ ¬ 65536 < c.cells ∧ ¬ c.params < 0 ∧ ¬ 8 < c.params ∧ ¬ c.cells < c.params := by
  unfold Cd.sz
  simp only [Bool.and_eq_true, decide_eq_true_eq]
  omega
theorem co_box (w : World) (ia : Option Addr) (N ic : Nat) (c : Cd.Co) (b : Nat) (W : World) (hb : b = w.heap.size) (hW : W = w.alloc (coB ia N ic c)) : W.cell? ⟨b, 0, none⟩ = some (.slice ia N ic) ∧ W.cell? ⟨b, 1, none⟩ = some (.int .i64 c.cells) ∧ W.cell? ⟨b, 2, none⟩ = some (.int .i64 c.params) ∧ W.cell? ⟨b, 3, none⟩ = some (.bool c.ans) ∧ Below w.heap.size w W ∧ b < W.heap.size := by
  subst hb hW
  refine ⟨?_, ?_, ?_, ?_, (Below.refl _ _).alloc (Nat.le_refl _) _, ?_⟩ <;> simp [go_sem]
/-- The code's box. -/
structure CoXn (w W : World) (b : Nat) (ia : Option Addr) (N ic : Nat) (c : Cd.Co) : Prop where
  a0 : W.cell? ⟨b, 0, none⟩ = some (.slice ia N ic)
  a1 : W.cell? ⟨b, 1, none⟩ = some (.int .i64 c.cells)
  a2 : W.cell? ⟨b, 2, none⟩ = some (.int .i64 c.params)
  a3 : W.cell? ⟨b, 3, none⟩ = some (.bool c.ans)
  bw : Below w.heap.size w W
  lt : b < W.heap.size
theorem CoXn.later {w W W' : World} {b : Nat} {ia : Option Addr} {N ic : Nat} {c : Cd.Co} (h : CoXn w W b ia N ic c) (y : Below W.heap.size W W') : CoXn w W' b ia N ic c :=
  ⟨(y.cell (p := ⟨b, 0, none⟩) h.lt).trans h.a0, (y.cell (p := ⟨b, 1, none⟩) h.lt).trans h.a1, (y.cell (p := ⟨b, 2, none⟩) h.lt).trans h.a2, (y.cell (p := ⟨b, 3, none⟩) h.lt).trans h.a3, h.bw.trans (y.mono h.bw.size), Nat.lt_of_lt_of_le h.lt y.size⟩
set_option maxRecDepth 100000 in
set_option maxHeartbeats 8000000 in
theorem rShape_sz (la : Option Addr) (L lc : Nat) (ia : Option Addr) (ic : Nat) (c : Cd.Co) (w : World) (hs : Cd.sz c = false) : Calls Tryd.prog 83 #[.slice la L lc, coV ia ic c] w fun e w' => e = .returned (.bool false) ∧ Below w.heap.size w w' := by
  obtain ⟨N, hN⟩ : ∃ N, N = c.ins.length := ⟨_, rfl⟩
  have hz : ¬ (¬ (N : Int) = 0 ∧ ¬ (65536 : Int) < N ∧ ¬ c.cells < 0 ∧ ¬ 65536 < c.cells ∧ ¬ c.params < 0 ∧ ¬ 8 < c.params ∧ ¬ c.cells < c.params) := fun h => by
    have := (sz_is N c hN).2 h
    rw [hs] at this
    cases this
  show Calls _ _ #[_, .agg #[.slice ia c.ins.length ic, .int .i64 c.cells, .int .i64 c.params, .bool c.ans]] _ _
  rw [← hN]
  obtain ⟨W, hW⟩ : ∃ W, W = w.alloc (coB ia N ic c) := ⟨_, rfl⟩
  obtain ⟨b, hb⟩ : ∃ b, b = w.heap.size := ⟨_, rfl⟩
  obtain ⟨a0, a1, a2, a3, bw, bl⟩ := co_box w ia N ic c b W hb hW
  have BW : Hid (Below w.heap.size w W) := bw
  clear bw hs hN
  obtain ⟨is, x, q, an⟩ := c
  dsimp only at *
  by_cases h1 : (N : Int) = 0
  · have e1 : ((N : Int) == 0) = true := by rw [h1]; rfl
    clear hz h1
    go_enter Tryd.func83, Tryd.ntmps83
    go_upto_region 1 with fail
    rw [← hW, ← hb]
    clear hW hb
    go_wp2_with fail
    go_ret
    exact ⟨rfl, BW.out⟩
  have e1 : ((N : Int) == 0) = false := beq_eq_false_iff_ne.2 h1
  by_cases h2 : (65536 : Int) < N
  · have d2 : decide ((65536 : Int) < N) = true := decide_eq_true h2
    clear hz h1
    go_enter Tryd.func83, Tryd.ntmps83
    go_upto_region 1 with fail
    rw [← hW, ← hb]
    clear hW hb
    go_wp2_with fail
    go_ret
    exact ⟨rfl, BW.out⟩
  have d2 : decide ((65536 : Int) < N) = false := decide_eq_false h2
  by_cases h3 : x < 0
  · have d3 : decide (x < 0) = true := decide_eq_true h3
    clear hz h1
    go_enter Tryd.func83, Tryd.ntmps83
    go_upto_region 1 with fail
    rw [← hW, ← hb]
    clear hW hb
    go_wp2_with fail
    go_ret
    exact ⟨rfl, BW.out⟩
  have d3 : decide (x < 0) = false := decide_eq_false h3
  by_cases h4 : 65536 < x
  · have d4 : decide (65536 < x) = true := decide_eq_true h4
    clear hz h1
    go_enter Tryd.func83, Tryd.ntmps83
    go_upto_region 1 with fail
    rw [← hW, ← hb]
    clear hW hb
    go_wp2_with fail
    go_ret
    exact ⟨rfl, BW.out⟩
  have d4 : decide (65536 < x) = false := decide_eq_false h4
  by_cases h5 : q < 0
  · have d5 : decide (q < 0) = true := decide_eq_true h5
    clear hz h1
    go_enter Tryd.func83, Tryd.ntmps83
    go_upto_region 1 with fail
    rw [← hW, ← hb]
    clear hW hb
    go_wp2_with fail
    go_ret
    exact ⟨rfl, BW.out⟩
  have d5 : decide (q < 0) = false := decide_eq_false h5
  by_cases h6 : 8 < q
  · have d6 : decide (8 < q) = true := decide_eq_true h6
    clear hz h1
    go_enter Tryd.func83, Tryd.ntmps83
    go_upto_region 1 with fail
    rw [← hW, ← hb]
    clear hW hb
    go_wp2_with fail
    go_ret
    exact ⟨rfl, BW.out⟩
  have d6 : decide (8 < q) = false := decide_eq_false h6
  have h7 : x < q := by omega
  have d7 : decide (x < q) = true := decide_eq_true h7
  clear hz h1
  go_enter Tryd.func83, Tryd.ntmps83
  go_upto_region 1 with fail
  rw [← hW, ← hb]
  clear hW hb
  go_wp2_with fail
  go_ret
  exact ⟨rfl, BW.out⟩
set_option maxRecDepth 100000 in
set_option maxHeartbeats 8000000 in
theorem rShape_in (B : Nat) (la : Option Addr) (lc : Nat) (l : List Cd.Co) (ia : Option Addr) (ic : Nat) (c : Cd.Co) (w : World) (h : MyA B w la l c) (hii : InS B w ia c.ins) (hs : Cd.sz c = true) : Calls Tryd.prog 83 #[.slice la l.length lc, coV ia ic c] w fun e w' => e = .returned (.bool (Cd.fm 8 l c)) ∧ Below w.heap.size w w' := by
  obtain ⟨N, hN⟩ : ∃ N, N = c.ins.length := ⟨_, rfl⟩
  obtain ⟨z1, z2, z3, z4, z5, z6, z7⟩ := (sz_is N c hN).1 hs
  have HA : Hid (MyA B w la l c) := h
  have HI : Hid (InS B w ia c.ins) := hii
  show Calls _ _ #[_, .agg #[.slice ia c.ins.length ic, .int .i64 c.cells, .int .i64 c.params, .bool c.ans]] _ _
  rw [← hN]
  have HN : Hid (N = c.ins.length) := hN
  obtain ⟨W, hW⟩ : ∃ W, W = w.alloc (coB ia N ic c) := ⟨_, rfl⟩
  obtain ⟨b, hb⟩ : ∃ b, b = w.heap.size := ⟨_, rfl⟩
  obtain ⟨a0, a1, a2, a3, bw, bl⟩ := co_box w ia N ic c b W hb hW
  have X0 : Hid (CoXn w W b ia N ic c) := ⟨a0, a1, a2, a3, bw, bl⟩
  have e1 : ((N : Int) == 0) = false := beq_eq_false_iff_ne.2 z1
  have d2 : decide ((65536 : Int) < N) = false := decide_eq_false z2
  have d3 : decide (c.cells < 0) = false := decide_eq_false z3
  have d4 : decide (65536 < c.cells) = false := decide_eq_false z4
  have d5 : decide (c.params < 0) = false := decide_eq_false z5
  have d6 : decide (8 < c.params) = false := decide_eq_false z6
  have d7 : decide (c.cells < c.params) = false := decide_eq_false z7
  have hN6 : N ≤ 65536 := by omega
  clear bw hs hN h hii z1
  go_enter Tryd.func83, Tryd.ntmps83
  go_upto_region 1 with fail
  rw [← hW, ← hb]
  clear hW hb
  go_wp2_with fail
  go_loopw [6] (fun i wr => ∃ j : Nat, j ≤ N ∧ i = .int .i64 j ∧ Hid (CoXn w wr b ia N ic c) ∧ Hid (∀ q i, q < j → c.ins[q]? = some i → (Cd.hl i && Cd.al 8 l c i) = true)) (fun i _ => N - (intOf i).toNat)
  case atStart => exact ⟨0, by omega, rfl, X0, fun q _ hq => absurd hq (Nat.not_lt_zero q)⟩
  case round =>
    clear a0 a1 a2 a3 bl X0 z2 z3 z4 z5 z6 z7 d2 d3 d4 d5 d6 d7 e1
    obtain ⟨j, hj, rfl, X, NN⟩ := hrel
    by_cases hlt : j < N
    · obtain ⟨x, ex⟩ : ∃ x, c.ins[j]? = some x := ⟨_, List.getElem?_eq_getElem (by rw [← HN.out]; exact hlt)⟩
      obtain ⟨a0, a1, a2, a3, bw, bl⟩ := X.out
      have BR : Hid (Below w.heap.size w wr) := bw
      obtain ⟨g, o, rfl, hg, at_⟩ := (HI.out.later (bw.mono HA.out.hB)).at ex
      have hgw : g < wr.heap.size := Nat.lt_of_lt_of_le hg (Nat.le_trans HA.out.hB bw.size)
      have c0 := at_.c0
      have c1 := at_.c1
      have c2 := at_.c2
      have EX : Hid (c.ins[j]? = some x) := ex
      have hok : x.Ok := HA.out.ck.1 x (List.mem_of_getElem? ex)
      obtain ⟨r, hr⟩ : ∃ r, r = (Cd.hl x && Cd.al 8 l c x) := ⟨_, rfl⟩
      have EM : Hid (∀ X, Below wr.heap.size wr X → Calls Tryd.prog 103 #[.slice la l.length lc, .agg #[.slice (some ⟨g, o, none⟩) N ic, .int .i64 c.cells, .int .i64 c.params, .bool c.ans], .agg #[.int .i64 x.op, .int .i64 x.n, .int .i64 x.m]] X fun e w' => e = .returned (.bool r) ∧ Below X.heap.size X w') := fun X hX => by
        have bX : Below w.heap.size w X := BR.out.trans (hX.mono BR.out.size)
        have := rMay_any x B la lc l (some ⟨g, o, none⟩) ic c X ⟨Nat.le_trans HA.out.hB bX.size, HA.out.co.later (bX.mono HA.out.hB), HA.out.ok, HA.out.ck⟩ hok
        rw [← hr] at this
        rw [HN.out]
        exact this
      have HR : Hid (r = (Cd.hl x && Cd.al 8 l c x)) := hr
      have hji : (j : Int) < (N : Int) := by omega
      have hj0 : (0 : Int) ≤ (j : Int) := by omega
      clear at_ ex bw hr hok X
      generalize l.length = L at EM ⊢
      go_wp2_with fail
      go_region_held3 (fun w' => w'.cell? ⟨b, 0, none⟩ = some (.slice (some ⟨g, o, none⟩) N ic) ∧ w'.cell? ⟨b, 1, none⟩ = some (.int .i64 c.cells) ∧ w'.cell? ⟨b, 2, none⟩ = some (.int .i64 c.params) ∧ w'.cell? ⟨b, 3, none⟩ = some (.bool c.ans) ∧ w'.cell? ⟨g, o + j * 3, none⟩ = some (.int .i64 x.op) ∧ w'.cell? ⟨g, o + j * 3 + 1, none⟩ = some (.int .i64 x.n) ∧ w'.cell? ⟨g, o + j * 3 + 2, none⟩ = some (.int .i64 x.m)) (first | (exact ⟨q0, q1, q2, q3, q4, q5, q6⟩) | go_keep) (first | (go_at_call 103; refine Calls.mono (EM.out _ (by go_grown)) ?_; rintro e5 w5 ⟨rfl, b5⟩; have q0 : w5.cell? ⟨b, 0, none⟩ = some (.slice (some ⟨g, o, none⟩) N ic) := (b5.cell (p := ⟨b, 0, none⟩) (by simpa using bl)).trans (by simpa [go_sem] using a0); have q1 : w5.cell? ⟨b, 1, none⟩ = some (.int .i64 c.cells) := (b5.cell (p := ⟨b, 1, none⟩) (by simpa using bl)).trans (by simpa [go_sem] using a1); have q2 : w5.cell? ⟨b, 2, none⟩ = some (.int .i64 c.params) := (b5.cell (p := ⟨b, 2, none⟩) (by simpa using bl)).trans (by simpa [go_sem] using a2); have q3 : w5.cell? ⟨b, 3, none⟩ = some (.bool c.ans) := (b5.cell (p := ⟨b, 3, none⟩) (by simpa using bl)).trans (by simpa [go_sem] using a3); have q4 : w5.cell? ⟨g, o + j * 3, none⟩ = some (.int .i64 x.op) := (b5.cell (p := ⟨g, o + j * 3, none⟩) (by simpa using hgw)).trans (by simpa [go_sem] using c0); have q5 : w5.cell? ⟨g, o + j * 3 + 1, none⟩ = some (.int .i64 x.n) := (b5.cell (p := ⟨g, o + j * 3 + 1, none⟩) (by simpa using hgw)).trans (by simpa [go_sem] using c1); have q6 : w5.cell? ⟨g, o + j * 3 + 2, none⟩ = some (.int .i64 x.m) := (b5.cell (p := ⟨g, o + j * 3 + 2, none⟩) (by simpa using hgw)).trans (by simpa [go_sem] using c2); have b6 : Below wr.heap.size wr w5 := Below.trans (by go_grown) b5; have X5 : Hid (CoXn w w5 b (some ⟨g, o, none⟩) N ic c) := ⟨q0, q1, q2, q3, BR.out.trans (b6.mono BR.out.size), Nat.lt_of_lt_of_le bl b6.size⟩; clear b5 b6))
      all_goals
        have X9 : Hid (CoXn w _ b (some ⟨g, o, none⟩) N ic c) := X5.out.later ⟨rfl, rfl, rfl, Nat.le_refl _, fun _ _ => rfl⟩
        clear X5 q0 q1 q2 q3 q4 q5 q6 a0 a1 a2 a3 c0 c1 c2 BR
        cases r with
        | false =>
          have G : Hid (false = Cd.fm 8 l c) := (cdFm_no EX.out HR.out.symm).symm
          go_wp2_with fail
          go_ret
          exact ⟨retB G.out, X9.out.bw⟩
        | true =>
          have G : Hid (∀ q i, q < j + 1 → c.ins[q]? = some i → (Cd.hl i && Cd.al 8 l c i) = true) := fun q i hq ei => by
            by_cases hq2 : q < j
            · exact NN.out q i hq2 ei
            · have e : q = j := by omega
              rw [e, EX.out] at ei
              cases ei
              exact HR.out.symm
          clear NN
          go_wp2_with fail
          go_roundw
          case rel => exact ⟨j + 1, by omega, by go_num, X9, G⟩
          case measure => simp [intOf]; omega
    · obtain rfl : j = N := by omega
      have G : Hid (true = Cd.fm 8 l c) := (cdFm_yes fun q i hq ei => NN.out q i (by rw [HN.out]; exact hq) ei).symm
      have BR : Hid (Below w.heap.size w wr) := X.out.bw
      clear NN X
      go_wp2_with fail
      go_ret
      exact ⟨retB G.out, BR.out⟩
/-- Whether a code's numbers and instructions may be. -/
theorem rShape_any (B : Nat) (la : Option Addr) (lc : Nat) (l : List Cd.Co) (ia : Option Addr) (ic : Nat) (c : Cd.Co) (w : World) (h : MyA B w la l c) (hii : InS B w ia c.ins) : Calls Tryd.prog 83 #[.slice la l.length lc, coV ia ic c] w fun e w' => e = .returned (.bool (Cd.sz c && Cd.fm 8 l c)) ∧ Below w.heap.size w w' := by
  cases hs : Cd.sz c with
  | false => exact rShape_sz la l.length lc ia ic c w hs
  | true => exact rShape_in B la lc l ia ic c w h hii hs
end Go.Proofs.YtodpdnidinnjjaaDoor
