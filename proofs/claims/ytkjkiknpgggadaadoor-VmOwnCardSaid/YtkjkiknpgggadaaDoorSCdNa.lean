/- Layer 8: which instructions may be (the document's cells and may), for every instruction of every code. -/
import Derived.Test.YtkjkiknpgggadaaDoorSCdS
import Derived.Test.YtkjkiknpgggadaaDoorSCdI
import Derived.BigQuiet
import Derived.Deep.RegionHeld3
namespace Go.Proofs.YtkjkiknpgggadaaDoor
open Go.RowKit
set_option linter.unusedVariables false
set_option linter.unusedSimpArgs false

def Cd.rc (x n m : Int) : Bool := decide (0 ≤ n) && decide (1 ≤ m) && decide (m ≤ x) && decide (n ≤ x - m)

set_option maxRecDepth 100000 in
set_option maxHeartbeats 4000000 in
theorem rcells_any (ia : Option Addr) (N ic : Nat) (c : Cd.Co) (n m : Int) (w : World) (hc : Cd.I6 c.cells) : Calls Tryd.prog 95 #[.agg #[.slice ia N ic, .int .i64 c.cells, .int .i64 c.params, .bool c.ans], .int .i64 n, .int .i64 m] w fun e w' => e = .returned (.bool (Cd.rc c.cells n m)) ∧ Below w.heap.size w w' := by
  unfold Cd.rc
  obtain ⟨hc1, hc2⟩ := hc
  obtain ⟨is, x, p, a⟩ := c
  dsimp only at *
  by_cases h1 : 0 ≤ n
  · by_cases h2 : 1 ≤ m
    · by_cases h3 : m ≤ x
      · by_cases h4 : n ≤ x - m
        · skip
          rw [decide_eq_true h1, decide_eq_true h2, decide_eq_true h3, decide_eq_true h4]
          go_enter Tryd.func95, Tryd.ntmps95
          go_wp2_with fail
          go_ret
          exact ⟨rfl, by go_grown⟩
        · skip
          rw [decide_eq_true h1, decide_eq_true h2, decide_eq_true h3, decide_eq_false h4]
          go_enter Tryd.func95, Tryd.ntmps95
          go_wp2_with fail
          go_ret
          exact ⟨rfl, by go_grown⟩
      · skip
        rw [decide_eq_true h1, decide_eq_true h2, decide_eq_false h3]
        go_enter Tryd.func95, Tryd.ntmps95
        go_wp2_with fail
        go_ret
        exact ⟨rfl, by go_grown⟩
    · skip
      rw [decide_eq_true h1, decide_eq_false h2]
      go_enter Tryd.func95, Tryd.ntmps95
      go_wp2_with fail
      go_ret
      exact ⟨rfl, by go_grown⟩
  · skip
    rw [decide_eq_false h1]
    go_enter Tryd.func95, Tryd.ntmps95
    go_wp2_with fail
    go_ret
    exact ⟨rfl, by go_grown⟩
theorem rc_one (c : Cd.Co) (n : Int) : Cd.rc c.cells n 1 = Cd.hc c n 1 := by
  unfold Cd.rc Cd.hc
  rw [Bool.eq_iff_iff]
  simp only [Bool.and_eq_true, decide_eq_true_eq]
  omega
theorem rc_many (c : Cd.Co) (n m : Int) : (Cd.rc c.cells n m && decide (m ≤ 64)) = (decide (1 ≤ m) && decide (m ≤ 64) && Cd.hc c n m) := by
  unfold Cd.rc Cd.hc
  rw [Bool.eq_iff_iff]
  simp only [Bool.and_eq_true, decide_eq_true_eq]
  omega
structure MyB (w W : World) (b : Nat) (ia : Option Addr) (N ic : Nat) (c : Cd.Co) (i : Cd.In) : Prop where
  a0 : W.cell? ⟨b, 0, none⟩ = some (.slice ia N ic)
  a1 : W.cell? ⟨b, 1, none⟩ = some (.int .i64 c.cells)
  a2 : W.cell? ⟨b, 2, none⟩ = some (.int .i64 c.params)
  a3 : W.cell? ⟨b, 3, none⟩ = some (.bool c.ans)
  i0 : W.cell? ⟨b + 1, 0, none⟩ = some (.int .i64 i.op)
  i1 : W.cell? ⟨b + 1, 1, none⟩ = some (.int .i64 i.n)
  i2 : W.cell? ⟨b + 1, 2, none⟩ = some (.int .i64 i.m)
  bw : Below w.heap.size w W
  lt : b + 1 < W.heap.size
theorem MyB.later {w W W' : World} {b : Nat} {ia : Option Addr} {N ic : Nat} {c : Cd.Co} {i : Cd.In} (h : MyB w W b ia N ic c i) (y : Below W.heap.size W W') : MyB w W' b ia N ic c i :=
  have l0 : b < W.heap.size := by have := h.lt; omega
  ⟨(y.cell (p := ⟨b, 0, none⟩) l0).trans h.a0, (y.cell (p := ⟨b, 1, none⟩) l0).trans h.a1, (y.cell (p := ⟨b, 2, none⟩) l0).trans h.a2, (y.cell (p := ⟨b, 3, none⟩) l0).trans h.a3, (y.cell (p := ⟨b + 1, 0, none⟩) h.lt).trans h.i0, (y.cell (p := ⟨b + 1, 1, none⟩) h.lt).trans h.i1, (y.cell (p := ⟨b + 1, 2, none⟩) h.lt).trans h.i2, h.bw.trans (y.mono h.bw.size), Nat.lt_of_lt_of_le h.lt y.size⟩
theorem myB_mk (w W : World) (b : Nat) (ia : Option Addr) (N ic : Nat) (c : Cd.Co) (i : Cd.In) (hb : b = w.heap.size) (hW : W = (w.alloc (coB ia N ic c)).alloc (inB i)) : MyB w W b ia N ic c i := by
  subst hb hW
  have b1 : Below w.heap.size w (w.alloc (coB ia N ic c)) := (Below.refl _ _).alloc (Nat.le_refl _) _
  constructor
  case bw => exact b1.alloc b1.size _
  all_goals simp [go_sem]
structure MyA (B : Nat) (w : World) (la : Option Addr) (l : List Cd.Co) (c : Cd.Co) : Prop where
  hB : B ≤ w.heap.size
  co : CoS B w la l
  ok : ∀ d, d ∈ l → d.Ok
  ck : c.Ok

set_option maxRecDepth 100000 in
set_option maxHeartbeats 4000000 in
theorem rMay_hl (i : Cd.In) (B : Nat) (la : Option Addr) (lc : Nat) (l : List Cd.Co) (ia : Option Addr) (ic : Nat) (c : Cd.Co) (w : World) (h : MyA B w la l c)  (hi : Cd.In.Ok i) (hl : Cd.hl i = false) :
    Calls Tryd.prog 87 #[.slice la l.length lc, coV ia ic c, inV i] w fun e w' => e = .returned (.bool false) ∧ Below w.heap.size w w' := by
  obtain ⟨W, hW⟩ : ∃ W, W = (w.alloc (coB ia c.ins.length ic c)).alloc (inB i) := ⟨_, rfl⟩
  obtain ⟨b, hb⟩ : ∃ b, b = w.heap.size := ⟨_, rfl⟩
  have MB := myB_mk w W b ia c.ins.length ic c i hb hW
  obtain ⟨t, ht⟩ : ∃ t : ByteArray, txE i = .tuple #[.string t, .int .i64 61] := by unfold txE; rw [hl]; exact ⟨_, rfl⟩
  have ET : Hid (Calls Tryd.prog 94 #[inV i] W fun e w' => e = .returned (.tuple #[.string t, .int .i64 61]) ∧ Below W.heap.size W w') := by
    have := rText_any i W hi
    rw [ht] at this
    exact this
  have HM : Hid (MyB w W b ia c.ins.length ic c i) := MB
  obtain ⟨a0, a1, a2, a3, i0, i1, i2, bw, lt⟩ := MB
  try dsimp only at i0 i1 i2
  have HA : Hid (MyA B w la l c) := h
  clear bw ht hi
  clear hl h
  go_enter Tryd.func87, Tryd.ntmps87
  go_upto_region 1 with fail
  rw [← hW, ← hb]
  clear hW hb
  go_wp2_with fail
  refine Calls.mono ET.out ?_
  rintro e1 w1 ⟨rfl, y1⟩
  have M1 : Hid _ := HM.out.later y1
  clear a0 a1 a2 a3 i0 i1 i2 lt y1 ET HM
  obtain ⟨a0, a1, a2, a3, i0, i1, i2, bw, lt⟩ := M1.out
  try dsimp only at i0 i1 i2
  have B1 : Hid (Below w.heap.size w w1) := bw
  clear bw
  go_wp2_with fail
  go_ret
  exact ⟨rfl, B1.out⟩
set_option maxRecDepth 100000 in
set_option maxHeartbeats 4000000 in
theorem rMay_2 (n m : Int) (B : Nat) (la : Option Addr) (lc : Nat) (l : List Cd.Co) (ia : Option Addr) (ic : Nat) (c : Cd.Co) (w : World) (h : MyA B w la l c)  (hi : Cd.In.Ok ⟨2, n, m⟩) (hl : Cd.hl ⟨2, n, m⟩ = true) :
    Calls Tryd.prog 87 #[.slice la l.length lc, coV ia ic c, inV ⟨2, n, m⟩] w fun e w' => e = .returned (.bool (Cd.al 8 l c ⟨2, n, m⟩)) ∧ Below w.heap.size w w' := by
  obtain ⟨W, hW⟩ : ∃ W, W = (w.alloc (coB ia c.ins.length ic c)).alloc (inB ⟨2, n, m⟩) := ⟨_, rfl⟩
  obtain ⟨b, hb⟩ : ∃ b, b = w.heap.size := ⟨_, rfl⟩
  have MB := myB_mk w W b ia c.ins.length ic c ⟨2, n, m⟩ hb hW
  obtain ⟨t, ht⟩ : ∃ t : ByteArray, txE ⟨2, n, m⟩ = .tuple #[.string t, .int .i64 0] := by unfold txE; rw [hl]; exact ⟨_, rfl⟩
  have ET : Hid (Calls Tryd.prog 94 #[inV ⟨2, n, m⟩] W fun e w' => e = .returned (.tuple #[.string t, .int .i64 0]) ∧ Below W.heap.size W w') := by
    have := rText_any ⟨2, n, m⟩ W hi
    rw [ht] at this
    exact this
  have HM : Hid (MyB w W b ia c.ins.length ic c ⟨2, n, m⟩) := MB
  obtain ⟨a0, a1, a2, a3, i0, i1, i2, bw, lt⟩ := MB
  try dsimp only at i0 i1 i2
  have HA : Hid (MyA B w la l c) := h
  clear bw ht hi
  have E : Hid (Cd.al 8 l c ⟨2, n, m⟩ = Cd.rc c.cells n 1) := by unfold Hid; rw [rc_one]; unfold Cd.al; simp
  have EC : Hid (∀ X, _) := fun X => rcells_any ia c.ins.length ic c n 1 X h.ck.2.1
  rw [E.out]
  clear h hl
  go_enter Tryd.func87, Tryd.ntmps87
  go_upto_region 1 with fail
  rw [← hW, ← hb]
  clear hW hb
  go_wp2_with fail
  refine Calls.mono ET.out ?_
  rintro e1 w1 ⟨rfl, y1⟩
  have M1 : Hid _ := HM.out.later y1
  clear a0 a1 a2 a3 i0 i1 i2 lt y1 ET HM
  obtain ⟨a0, a1, a2, a3, i0, i1, i2, bw, lt⟩ := M1.out
  try dsimp only at i0 i1 i2
  have B1 : Hid (Below w.heap.size w w1) := bw
  clear bw
  go_wp2_with fail
  refine Calls.mono (EC.out _) ?_
  rintro e2 w2 ⟨rfl, y2⟩
  have B2 : Hid (Below w.heap.size w w2) := B1.out.trans (y2.mono B1.out.size)
  clear y2
  go_wp2_with fail
  go_ret
  exact ⟨rfl, B2.out⟩
set_option maxRecDepth 100000 in
set_option maxHeartbeats 4000000 in
theorem rMay_3 (n m : Int) (B : Nat) (la : Option Addr) (lc : Nat) (l : List Cd.Co) (ia : Option Addr) (ic : Nat) (c : Cd.Co) (w : World) (h : MyA B w la l c)  (hi : Cd.In.Ok ⟨3, n, m⟩) (hl : Cd.hl ⟨3, n, m⟩ = true) :
    Calls Tryd.prog 87 #[.slice la l.length lc, coV ia ic c, inV ⟨3, n, m⟩] w fun e w' => e = .returned (.bool (Cd.al 8 l c ⟨3, n, m⟩)) ∧ Below w.heap.size w w' := by
  obtain ⟨W, hW⟩ : ∃ W, W = (w.alloc (coB ia c.ins.length ic c)).alloc (inB ⟨3, n, m⟩) := ⟨_, rfl⟩
  obtain ⟨b, hb⟩ : ∃ b, b = w.heap.size := ⟨_, rfl⟩
  have MB := myB_mk w W b ia c.ins.length ic c ⟨3, n, m⟩ hb hW
  obtain ⟨t, ht⟩ : ∃ t : ByteArray, txE ⟨3, n, m⟩ = .tuple #[.string t, .int .i64 0] := by unfold txE; rw [hl]; exact ⟨_, rfl⟩
  have ET : Hid (Calls Tryd.prog 94 #[inV ⟨3, n, m⟩] W fun e w' => e = .returned (.tuple #[.string t, .int .i64 0]) ∧ Below W.heap.size W w') := by
    have := rText_any ⟨3, n, m⟩ W hi
    rw [ht] at this
    exact this
  have HM : Hid (MyB w W b ia c.ins.length ic c ⟨3, n, m⟩) := MB
  obtain ⟨a0, a1, a2, a3, i0, i1, i2, bw, lt⟩ := MB
  try dsimp only at i0 i1 i2
  have HA : Hid (MyA B w la l c) := h
  clear bw ht hi
  have E : Hid (Cd.al 8 l c ⟨3, n, m⟩ = Cd.rc c.cells n 1) := by unfold Hid; rw [rc_one]; unfold Cd.al; simp
  have EC : Hid (∀ X, _) := fun X => rcells_any ia c.ins.length ic c n 1 X h.ck.2.1
  rw [E.out]
  clear h hl
  go_enter Tryd.func87, Tryd.ntmps87
  go_upto_region 1 with fail
  rw [← hW, ← hb]
  clear hW hb
  go_wp2_with fail
  refine Calls.mono ET.out ?_
  rintro e1 w1 ⟨rfl, y1⟩
  have M1 : Hid _ := HM.out.later y1
  clear a0 a1 a2 a3 i0 i1 i2 lt y1 ET HM
  obtain ⟨a0, a1, a2, a3, i0, i1, i2, bw, lt⟩ := M1.out
  try dsimp only at i0 i1 i2
  have B1 : Hid (Below w.heap.size w w1) := bw
  clear bw
  go_wp2_with fail
  refine Calls.mono (EC.out _) ?_
  rintro e2 w2 ⟨rfl, y2⟩
  have B2 : Hid (Below w.heap.size w w2) := B1.out.trans (y2.mono B1.out.size)
  clear y2
  go_wp2_with fail
  go_ret
  exact ⟨rfl, B2.out⟩
set_option maxRecDepth 100000 in
set_option maxHeartbeats 4000000 in
theorem rMay_4 (n m : Int) (B : Nat) (la : Option Addr) (lc : Nat) (l : List Cd.Co) (ia : Option Addr) (ic : Nat) (c : Cd.Co) (w : World) (h : MyA B w la l c)  (hi : Cd.In.Ok ⟨4, n, m⟩) (hl : Cd.hl ⟨4, n, m⟩ = true) :
    Calls Tryd.prog 87 #[.slice la l.length lc, coV ia ic c, inV ⟨4, n, m⟩] w fun e w' => e = .returned (.bool (Cd.al 8 l c ⟨4, n, m⟩)) ∧ Below w.heap.size w w' := by
  obtain ⟨W, hW⟩ : ∃ W, W = (w.alloc (coB ia c.ins.length ic c)).alloc (inB ⟨4, n, m⟩) := ⟨_, rfl⟩
  obtain ⟨b, hb⟩ : ∃ b, b = w.heap.size := ⟨_, rfl⟩
  have MB := myB_mk w W b ia c.ins.length ic c ⟨4, n, m⟩ hb hW
  obtain ⟨t, ht⟩ : ∃ t : ByteArray, txE ⟨4, n, m⟩ = .tuple #[.string t, .int .i64 0] := by unfold txE; rw [hl]; exact ⟨_, rfl⟩
  have ET : Hid (Calls Tryd.prog 94 #[inV ⟨4, n, m⟩] W fun e w' => e = .returned (.tuple #[.string t, .int .i64 0]) ∧ Below W.heap.size W w') := by
    have := rText_any ⟨4, n, m⟩ W hi
    rw [ht] at this
    exact this
  have HM : Hid (MyB w W b ia c.ins.length ic c ⟨4, n, m⟩) := MB
  obtain ⟨a0, a1, a2, a3, i0, i1, i2, bw, lt⟩ := MB
  try dsimp only at i0 i1 i2
  have HA : Hid (MyA B w la l c) := h
  clear bw ht hi
  have E : Hid (Cd.al 8 l c ⟨4, n, m⟩ = (Cd.rc c.cells n m && decide (m ≤ 64))) := by unfold Hid; rw [rc_many]; unfold Cd.al; simp
  have EC : Hid (∀ X, Calls Tryd.prog 95 #[.agg #[.slice ia c.ins.length ic, .int .i64 c.cells, .int .i64 c.params, .bool c.ans], .int .i64 n, .int .i64 m] X fun e w' => e = .returned (.bool (Cd.rc c.cells n m)) ∧ Below X.heap.size X w') := fun X => rcells_any ia c.ins.length ic c n m X h.ck.2.1
  rw [E.out]
  clear h hl E
  generalize Cd.rc c.cells n m = r at EC ⊢
  cases r with
  | false =>
    go_enter Tryd.func87, Tryd.ntmps87
    go_upto_region 1 with fail
    rw [← hW, ← hb]
    clear hW hb
    go_wp2_with fail
    refine Calls.mono ET.out ?_
    rintro e1 w1 ⟨rfl, y1⟩
    have M1 : Hid _ := HM.out.later y1
    clear a0 a1 a2 a3 i0 i1 i2 lt y1 ET HM
    obtain ⟨a0, a1, a2, a3, i0, i1, i2, bw, lt⟩ := M1.out
    try dsimp only at i0 i1 i2
    have B1 : Hid (Below w.heap.size w w1) := bw
    clear bw
    go_wp2_with fail
    refine Calls.mono (EC.out _) ?_
    rintro e2 w2 ⟨rfl, y2⟩
    have B2 : Hid (Below w.heap.size w w2) := B1.out.trans (y2.mono B1.out.size)
    have i2' := (y2.cell (p := ⟨b + 1, 2, none⟩) lt).trans i2
    clear y2
    go_wp2_with fail
    go_ret
    exact ⟨rfl, B2.out⟩
  | true =>
    by_cases h6 : m ≤ 64
    · rw [decide_eq_true h6]
      go_enter Tryd.func87, Tryd.ntmps87
      go_upto_region 1 with fail
      rw [← hW, ← hb]
      clear hW hb
      go_wp2_with fail
      refine Calls.mono ET.out ?_
      rintro e1 w1 ⟨rfl, y1⟩
      have M1 : Hid _ := HM.out.later y1
      clear a0 a1 a2 a3 i0 i1 i2 lt y1 ET HM
      obtain ⟨a0, a1, a2, a3, i0, i1, i2, bw, lt⟩ := M1.out
      try dsimp only at i0 i1 i2
      have B1 : Hid (Below w.heap.size w w1) := bw
      clear bw
      go_wp2_with fail
      refine Calls.mono (EC.out _) ?_
      rintro e2 w2 ⟨rfl, y2⟩
      have B2 : Hid (Below w.heap.size w w2) := B1.out.trans (y2.mono B1.out.size)
      have i2' := (y2.cell (p := ⟨b + 1, 2, none⟩) lt).trans i2
      clear y2
      go_wp2_with fail
      go_ret
      exact ⟨rfl, B2.out⟩
    · have d6 : decide (m ≤ 64) = false := decide_eq_false h6
      rw [d6]
      go_enter Tryd.func87, Tryd.ntmps87
      go_upto_region 1 with fail
      rw [← hW, ← hb]
      clear hW hb
      go_wp2_with fail
      refine Calls.mono ET.out ?_
      rintro e1 w1 ⟨rfl, y1⟩
      have M1 : Hid _ := HM.out.later y1
      clear a0 a1 a2 a3 i0 i1 i2 lt y1 ET HM
      obtain ⟨a0, a1, a2, a3, i0, i1, i2, bw, lt⟩ := M1.out
      try dsimp only at i0 i1 i2
      have B1 : Hid (Below w.heap.size w w1) := bw
      clear bw
      go_wp2_with fail
      refine Calls.mono (EC.out _) ?_
      rintro e2 w2 ⟨rfl, y2⟩
      have B2 : Hid (Below w.heap.size w w2) := B1.out.trans (y2.mono B1.out.size)
      have i2' := (y2.cell (p := ⟨b + 1, 2, none⟩) lt).trans i2
      clear y2
      go_wp2_with fail
      go_ret
      exact ⟨rfl, B2.out⟩
set_option maxRecDepth 100000 in
set_option maxHeartbeats 4000000 in
theorem rMay_5 (n m : Int) (B : Nat) (la : Option Addr) (lc : Nat) (l : List Cd.Co) (ia : Option Addr) (ic : Nat) (c : Cd.Co) (w : World) (h : MyA B w la l c)  (hi : Cd.In.Ok ⟨5, n, m⟩) (hl : Cd.hl ⟨5, n, m⟩ = true) :
    Calls Tryd.prog 87 #[.slice la l.length lc, coV ia ic c, inV ⟨5, n, m⟩] w fun e w' => e = .returned (.bool (Cd.al 8 l c ⟨5, n, m⟩)) ∧ Below w.heap.size w w' := by
  obtain ⟨W, hW⟩ : ∃ W, W = (w.alloc (coB ia c.ins.length ic c)).alloc (inB ⟨5, n, m⟩) := ⟨_, rfl⟩
  obtain ⟨b, hb⟩ : ∃ b, b = w.heap.size := ⟨_, rfl⟩
  have MB := myB_mk w W b ia c.ins.length ic c ⟨5, n, m⟩ hb hW
  obtain ⟨t, ht⟩ : ∃ t : ByteArray, txE ⟨5, n, m⟩ = .tuple #[.string t, .int .i64 0] := by unfold txE; rw [hl]; exact ⟨_, rfl⟩
  have ET : Hid (Calls Tryd.prog 94 #[inV ⟨5, n, m⟩] W fun e w' => e = .returned (.tuple #[.string t, .int .i64 0]) ∧ Below W.heap.size W w') := by
    have := rText_any ⟨5, n, m⟩ W hi
    rw [ht] at this
    exact this
  have HM : Hid (MyB w W b ia c.ins.length ic c ⟨5, n, m⟩) := MB
  obtain ⟨a0, a1, a2, a3, i0, i1, i2, bw, lt⟩ := MB
  try dsimp only at i0 i1 i2
  have HA : Hid (MyA B w la l c) := h
  clear bw ht hi
  have E : Hid (Cd.al 8 l c ⟨5, n, m⟩ = (Cd.rc c.cells n m && decide (m ≤ 64))) := by unfold Hid; rw [rc_many]; unfold Cd.al; simp
  have EC : Hid (∀ X, Calls Tryd.prog 95 #[.agg #[.slice ia c.ins.length ic, .int .i64 c.cells, .int .i64 c.params, .bool c.ans], .int .i64 n, .int .i64 m] X fun e w' => e = .returned (.bool (Cd.rc c.cells n m)) ∧ Below X.heap.size X w') := fun X => rcells_any ia c.ins.length ic c n m X h.ck.2.1
  rw [E.out]
  clear h hl E
  generalize Cd.rc c.cells n m = r at EC ⊢
  cases r with
  | false =>
    go_enter Tryd.func87, Tryd.ntmps87
    go_upto_region 1 with fail
    rw [← hW, ← hb]
    clear hW hb
    go_wp2_with fail
    refine Calls.mono ET.out ?_
    rintro e1 w1 ⟨rfl, y1⟩
    have M1 : Hid _ := HM.out.later y1
    clear a0 a1 a2 a3 i0 i1 i2 lt y1 ET HM
    obtain ⟨a0, a1, a2, a3, i0, i1, i2, bw, lt⟩ := M1.out
    try dsimp only at i0 i1 i2
    have B1 : Hid (Below w.heap.size w w1) := bw
    clear bw
    go_wp2_with fail
    refine Calls.mono (EC.out _) ?_
    rintro e2 w2 ⟨rfl, y2⟩
    have B2 : Hid (Below w.heap.size w w2) := B1.out.trans (y2.mono B1.out.size)
    have i2' := (y2.cell (p := ⟨b + 1, 2, none⟩) lt).trans i2
    clear y2
    go_wp2_with fail
    go_ret
    exact ⟨rfl, B2.out⟩
  | true =>
    by_cases h6 : m ≤ 64
    · rw [decide_eq_true h6]
      go_enter Tryd.func87, Tryd.ntmps87
      go_upto_region 1 with fail
      rw [← hW, ← hb]
      clear hW hb
      go_wp2_with fail
      refine Calls.mono ET.out ?_
      rintro e1 w1 ⟨rfl, y1⟩
      have M1 : Hid _ := HM.out.later y1
      clear a0 a1 a2 a3 i0 i1 i2 lt y1 ET HM
      obtain ⟨a0, a1, a2, a3, i0, i1, i2, bw, lt⟩ := M1.out
      try dsimp only at i0 i1 i2
      have B1 : Hid (Below w.heap.size w w1) := bw
      clear bw
      go_wp2_with fail
      refine Calls.mono (EC.out _) ?_
      rintro e2 w2 ⟨rfl, y2⟩
      have B2 : Hid (Below w.heap.size w w2) := B1.out.trans (y2.mono B1.out.size)
      have i2' := (y2.cell (p := ⟨b + 1, 2, none⟩) lt).trans i2
      clear y2
      go_wp2_with fail
      go_ret
      exact ⟨rfl, B2.out⟩
    · have d6 : decide (m ≤ 64) = false := decide_eq_false h6
      rw [d6]
      go_enter Tryd.func87, Tryd.ntmps87
      go_upto_region 1 with fail
      rw [← hW, ← hb]
      clear hW hb
      go_wp2_with fail
      refine Calls.mono ET.out ?_
      rintro e1 w1 ⟨rfl, y1⟩
      have M1 : Hid _ := HM.out.later y1
      clear a0 a1 a2 a3 i0 i1 i2 lt y1 ET HM
      obtain ⟨a0, a1, a2, a3, i0, i1, i2, bw, lt⟩ := M1.out
      try dsimp only at i0 i1 i2
      have B1 : Hid (Below w.heap.size w w1) := bw
      clear bw
      go_wp2_with fail
      refine Calls.mono (EC.out _) ?_
      rintro e2 w2 ⟨rfl, y2⟩
      have B2 : Hid (Below w.heap.size w w2) := B1.out.trans (y2.mono B1.out.size)
      have i2' := (y2.cell (p := ⟨b + 1, 2, none⟩) lt).trans i2
      clear y2
      go_wp2_with fail
      go_ret
      exact ⟨rfl, B2.out⟩
set_option maxRecDepth 100000 in
set_option maxHeartbeats 4000000 in
theorem rMay_6 (n m : Int) (B : Nat) (la : Option Addr) (lc : Nat) (l : List Cd.Co) (ia : Option Addr) (ic : Nat) (c : Cd.Co) (w : World) (h : MyA B w la l c)  (hi : Cd.In.Ok ⟨6, n, m⟩) (hl : Cd.hl ⟨6, n, m⟩ = true) :
    Calls Tryd.prog 87 #[.slice la l.length lc, coV ia ic c, inV ⟨6, n, m⟩] w fun e w' => e = .returned (.bool (Cd.al 8 l c ⟨6, n, m⟩)) ∧ Below w.heap.size w w' := by
  obtain ⟨W, hW⟩ : ∃ W, W = (w.alloc (coB ia c.ins.length ic c)).alloc (inB ⟨6, n, m⟩) := ⟨_, rfl⟩
  obtain ⟨b, hb⟩ : ∃ b, b = w.heap.size := ⟨_, rfl⟩
  have MB := myB_mk w W b ia c.ins.length ic c ⟨6, n, m⟩ hb hW
  obtain ⟨t, ht⟩ : ∃ t : ByteArray, txE ⟨6, n, m⟩ = .tuple #[.string t, .int .i64 0] := by unfold txE; rw [hl]; exact ⟨_, rfl⟩
  have ET : Hid (Calls Tryd.prog 94 #[inV ⟨6, n, m⟩] W fun e w' => e = .returned (.tuple #[.string t, .int .i64 0]) ∧ Below W.heap.size W w') := by
    have := rText_any ⟨6, n, m⟩ W hi
    rw [ht] at this
    exact this
  have HM : Hid (MyB w W b ia c.ins.length ic c ⟨6, n, m⟩) := MB
  obtain ⟨a0, a1, a2, a3, i0, i1, i2, bw, lt⟩ := MB
  try dsimp only at i0 i1 i2
  have HA : Hid (MyA B w la l c) := h
  clear bw ht hi
  have E : Hid (Cd.al 8 l c ⟨6, n, m⟩ = (Cd.rc c.cells n m && decide (m ≤ 64))) := by unfold Hid; rw [rc_many]; unfold Cd.al; simp
  have EC : Hid (∀ X, Calls Tryd.prog 95 #[.agg #[.slice ia c.ins.length ic, .int .i64 c.cells, .int .i64 c.params, .bool c.ans], .int .i64 n, .int .i64 m] X fun e w' => e = .returned (.bool (Cd.rc c.cells n m)) ∧ Below X.heap.size X w') := fun X => rcells_any ia c.ins.length ic c n m X h.ck.2.1
  rw [E.out]
  clear h hl E
  generalize Cd.rc c.cells n m = r at EC ⊢
  cases r with
  | false =>
    go_enter Tryd.func87, Tryd.ntmps87
    go_upto_region 1 with fail
    rw [← hW, ← hb]
    clear hW hb
    go_wp2_with fail
    refine Calls.mono ET.out ?_
    rintro e1 w1 ⟨rfl, y1⟩
    have M1 : Hid _ := HM.out.later y1
    clear a0 a1 a2 a3 i0 i1 i2 lt y1 ET HM
    obtain ⟨a0, a1, a2, a3, i0, i1, i2, bw, lt⟩ := M1.out
    try dsimp only at i0 i1 i2
    have B1 : Hid (Below w.heap.size w w1) := bw
    clear bw
    go_wp2_with fail
    refine Calls.mono (EC.out _) ?_
    rintro e2 w2 ⟨rfl, y2⟩
    have B2 : Hid (Below w.heap.size w w2) := B1.out.trans (y2.mono B1.out.size)
    have i2' := (y2.cell (p := ⟨b + 1, 2, none⟩) lt).trans i2
    clear y2
    go_wp2_with fail
    go_ret
    exact ⟨rfl, B2.out⟩
  | true =>
    by_cases h6 : m ≤ 64
    · rw [decide_eq_true h6]
      go_enter Tryd.func87, Tryd.ntmps87
      go_upto_region 1 with fail
      rw [← hW, ← hb]
      clear hW hb
      go_wp2_with fail
      refine Calls.mono ET.out ?_
      rintro e1 w1 ⟨rfl, y1⟩
      have M1 : Hid _ := HM.out.later y1
      clear a0 a1 a2 a3 i0 i1 i2 lt y1 ET HM
      obtain ⟨a0, a1, a2, a3, i0, i1, i2, bw, lt⟩ := M1.out
      try dsimp only at i0 i1 i2
      have B1 : Hid (Below w.heap.size w w1) := bw
      clear bw
      go_wp2_with fail
      refine Calls.mono (EC.out _) ?_
      rintro e2 w2 ⟨rfl, y2⟩
      have B2 : Hid (Below w.heap.size w w2) := B1.out.trans (y2.mono B1.out.size)
      have i2' := (y2.cell (p := ⟨b + 1, 2, none⟩) lt).trans i2
      clear y2
      go_wp2_with fail
      go_ret
      exact ⟨rfl, B2.out⟩
    · have d6 : decide (m ≤ 64) = false := decide_eq_false h6
      rw [d6]
      go_enter Tryd.func87, Tryd.ntmps87
      go_upto_region 1 with fail
      rw [← hW, ← hb]
      clear hW hb
      go_wp2_with fail
      refine Calls.mono ET.out ?_
      rintro e1 w1 ⟨rfl, y1⟩
      have M1 : Hid _ := HM.out.later y1
      clear a0 a1 a2 a3 i0 i1 i2 lt y1 ET HM
      obtain ⟨a0, a1, a2, a3, i0, i1, i2, bw, lt⟩ := M1.out
      try dsimp only at i0 i1 i2
      have B1 : Hid (Below w.heap.size w w1) := bw
      clear bw
      go_wp2_with fail
      refine Calls.mono (EC.out _) ?_
      rintro e2 w2 ⟨rfl, y2⟩
      have B2 : Hid (Below w.heap.size w w2) := B1.out.trans (y2.mono B1.out.size)
      have i2' := (y2.cell (p := ⟨b + 1, 2, none⟩) lt).trans i2
      clear y2
      go_wp2_with fail
      go_ret
      exact ⟨rfl, B2.out⟩
set_option maxRecDepth 100000 in
set_option maxHeartbeats 4000000 in
theorem rMay_17 (n m : Int) (B : Nat) (la : Option Addr) (lc : Nat) (l : List Cd.Co) (ia : Option Addr) (ic : Nat) (c : Cd.Co) (w : World) (h : MyA B w la l c)  (hi : Cd.In.Ok ⟨17, n, m⟩) (hl : Cd.hl ⟨17, n, m⟩ = true) :
    Calls Tryd.prog 87 #[.slice la l.length lc, coV ia ic c, inV ⟨17, n, m⟩] w fun e w' => e = .returned (.bool (Cd.al 8 l c ⟨17, n, m⟩)) ∧ Below w.heap.size w w' := by
  obtain ⟨W, hW⟩ : ∃ W, W = (w.alloc (coB ia c.ins.length ic c)).alloc (inB ⟨17, n, m⟩) := ⟨_, rfl⟩
  obtain ⟨b, hb⟩ : ∃ b, b = w.heap.size := ⟨_, rfl⟩
  have MB := myB_mk w W b ia c.ins.length ic c ⟨17, n, m⟩ hb hW
  obtain ⟨t, ht⟩ : ∃ t : ByteArray, txE ⟨17, n, m⟩ = .tuple #[.string t, .int .i64 0] := by unfold txE; rw [hl]; exact ⟨_, rfl⟩
  have ET : Hid (Calls Tryd.prog 94 #[inV ⟨17, n, m⟩] W fun e w' => e = .returned (.tuple #[.string t, .int .i64 0]) ∧ Below W.heap.size W w') := by
    have := rText_any ⟨17, n, m⟩ W hi
    rw [ht] at this
    exact this
  have HM : Hid (MyB w W b ia c.ins.length ic c ⟨17, n, m⟩) := MB
  obtain ⟨a0, a1, a2, a3, i0, i1, i2, bw, lt⟩ := MB
  try dsimp only at i0 i1 i2
  have HA : Hid (MyA B w la l c) := h
  clear bw ht hi
  have E : Hid (Cd.al 8 l c ⟨17, n, m⟩ = (decide (0 ≤ n) && decide (n < c.ins.length))) := by unfold Hid Cd.al; simp
  rw [E.out]
  clear h hl E
  show Calls _ _ #[_, .agg #[.slice ia c.ins.length ic, .int .i64 c.cells, .int .i64 c.params, .bool c.ans], _] _ _
  generalize c.ins.length = L at a0 HM hW ⊢
  by_cases h1 : 0 ≤ n
  · have d1 : decide (0 ≤ n) = true := decide_eq_true h1
    rw [d1]
    by_cases h2 : n < (L : Int)
    · have d2 : decide (n < (L : Int)) = true := decide_eq_true h2
      rw [d2]
      go_enter Tryd.func87, Tryd.ntmps87
      go_upto_region 1 with fail
      rw [← hW, ← hb]
      clear hW hb
      go_wp2_with fail
      refine Calls.mono ET.out ?_
      rintro e1 w1 ⟨rfl, y1⟩
      have M1 : Hid _ := HM.out.later y1
      clear a0 a1 a2 a3 i0 i1 i2 lt y1 ET HM
      obtain ⟨a0, a1, a2, a3, i0, i1, i2, bw, lt⟩ := M1.out
      try dsimp only at i0 i1 i2
      have B1 : Hid (Below w.heap.size w w1) := bw
      clear bw
      first
        | (go_wp2_with fail; go_ret; exact ⟨rfl, B1.out⟩)
        | (go_wp2_with fail; go_quiet (fail); have BQ := below_drewN B1.out nq; clear B1 a0 a1 a2 a3 i0 i1 i2 lt; generalize w1.drewN nq = W5 at BQ ⊢; go_wp2_with fail; go_ret; exact ⟨rfl, BQ⟩)
    · have d2 : decide (n < (L : Int)) = false := decide_eq_false h2
      rw [d2]
      go_enter Tryd.func87, Tryd.ntmps87
      go_upto_region 1 with fail
      rw [← hW, ← hb]
      clear hW hb
      go_wp2_with fail
      refine Calls.mono ET.out ?_
      rintro e1 w1 ⟨rfl, y1⟩
      have M1 : Hid _ := HM.out.later y1
      clear a0 a1 a2 a3 i0 i1 i2 lt y1 ET HM
      obtain ⟨a0, a1, a2, a3, i0, i1, i2, bw, lt⟩ := M1.out
      try dsimp only at i0 i1 i2
      have B1 : Hid (Below w.heap.size w w1) := bw
      clear bw
      first
        | (go_wp2_with fail; go_ret; exact ⟨rfl, B1.out⟩)
        | (go_wp2_with fail; go_quiet (fail); have BQ := below_drewN B1.out nq; clear B1 a0 a1 a2 a3 i0 i1 i2 lt; generalize w1.drewN nq = W5 at BQ ⊢; go_wp2_with fail; go_ret; exact ⟨rfl, BQ⟩)
  · have d1 : decide (0 ≤ n) = false := decide_eq_false h1
    rw [d1]
    go_enter Tryd.func87, Tryd.ntmps87
    go_upto_region 1 with fail
    rw [← hW, ← hb]
    clear hW hb
    go_wp2_with fail
    refine Calls.mono ET.out ?_
    rintro e1 w1 ⟨rfl, y1⟩
    have M1 : Hid _ := HM.out.later y1
    clear a0 a1 a2 a3 i0 i1 i2 lt y1 ET HM
    obtain ⟨a0, a1, a2, a3, i0, i1, i2, bw, lt⟩ := M1.out
    try dsimp only at i0 i1 i2
    have B1 : Hid (Below w.heap.size w w1) := bw
    clear bw
    first
      | (go_wp2_with fail; go_ret; exact ⟨rfl, B1.out⟩)
      | (go_wp2_with fail; go_quiet (fail); have BQ := below_drewN B1.out nq; clear B1 a0 a1 a2 a3 i0 i1 i2 lt; generalize w1.drewN nq = W5 at BQ ⊢; go_wp2_with fail; go_ret; exact ⟨rfl, BQ⟩)
set_option maxRecDepth 100000 in
set_option maxHeartbeats 4000000 in
theorem rMay_18 (n m : Int) (B : Nat) (la : Option Addr) (lc : Nat) (l : List Cd.Co) (ia : Option Addr) (ic : Nat) (c : Cd.Co) (w : World) (h : MyA B w la l c)  (hi : Cd.In.Ok ⟨18, n, m⟩) (hl : Cd.hl ⟨18, n, m⟩ = true) :
    Calls Tryd.prog 87 #[.slice la l.length lc, coV ia ic c, inV ⟨18, n, m⟩] w fun e w' => e = .returned (.bool (Cd.al 8 l c ⟨18, n, m⟩)) ∧ Below w.heap.size w w' := by
  obtain ⟨W, hW⟩ : ∃ W, W = (w.alloc (coB ia c.ins.length ic c)).alloc (inB ⟨18, n, m⟩) := ⟨_, rfl⟩
  obtain ⟨b, hb⟩ : ∃ b, b = w.heap.size := ⟨_, rfl⟩
  have MB := myB_mk w W b ia c.ins.length ic c ⟨18, n, m⟩ hb hW
  obtain ⟨t, ht⟩ : ∃ t : ByteArray, txE ⟨18, n, m⟩ = .tuple #[.string t, .int .i64 0] := by unfold txE; rw [hl]; exact ⟨_, rfl⟩
  have ET : Hid (Calls Tryd.prog 94 #[inV ⟨18, n, m⟩] W fun e w' => e = .returned (.tuple #[.string t, .int .i64 0]) ∧ Below W.heap.size W w') := by
    have := rText_any ⟨18, n, m⟩ W hi
    rw [ht] at this
    exact this
  have HM : Hid (MyB w W b ia c.ins.length ic c ⟨18, n, m⟩) := MB
  obtain ⟨a0, a1, a2, a3, i0, i1, i2, bw, lt⟩ := MB
  try dsimp only at i0 i1 i2
  have HA : Hid (MyA B w la l c) := h
  clear bw ht hi
  have E : Hid (Cd.al 8 l c ⟨18, n, m⟩ = (decide (0 ≤ n) && decide (n < c.ins.length))) := by unfold Hid Cd.al; simp
  rw [E.out]
  clear h hl E
  show Calls _ _ #[_, .agg #[.slice ia c.ins.length ic, .int .i64 c.cells, .int .i64 c.params, .bool c.ans], _] _ _
  generalize c.ins.length = L at a0 HM hW ⊢
  by_cases h1 : 0 ≤ n
  · have d1 : decide (0 ≤ n) = true := decide_eq_true h1
    rw [d1]
    by_cases h2 : n < (L : Int)
    · have d2 : decide (n < (L : Int)) = true := decide_eq_true h2
      rw [d2]
      go_enter Tryd.func87, Tryd.ntmps87
      go_upto_region 1 with fail
      rw [← hW, ← hb]
      clear hW hb
      go_wp2_with fail
      refine Calls.mono ET.out ?_
      rintro e1 w1 ⟨rfl, y1⟩
      have M1 : Hid _ := HM.out.later y1
      clear a0 a1 a2 a3 i0 i1 i2 lt y1 ET HM
      obtain ⟨a0, a1, a2, a3, i0, i1, i2, bw, lt⟩ := M1.out
      try dsimp only at i0 i1 i2
      have B1 : Hid (Below w.heap.size w w1) := bw
      clear bw
      first
        | (go_wp2_with fail; go_ret; exact ⟨rfl, B1.out⟩)
        | (go_wp2_with fail; go_quiet (fail); have BQ := below_drewN B1.out nq; clear B1 a0 a1 a2 a3 i0 i1 i2 lt; generalize w1.drewN nq = W5 at BQ ⊢; go_wp2_with fail; go_ret; exact ⟨rfl, BQ⟩)
    · have d2 : decide (n < (L : Int)) = false := decide_eq_false h2
      rw [d2]
      go_enter Tryd.func87, Tryd.ntmps87
      go_upto_region 1 with fail
      rw [← hW, ← hb]
      clear hW hb
      go_wp2_with fail
      refine Calls.mono ET.out ?_
      rintro e1 w1 ⟨rfl, y1⟩
      have M1 : Hid _ := HM.out.later y1
      clear a0 a1 a2 a3 i0 i1 i2 lt y1 ET HM
      obtain ⟨a0, a1, a2, a3, i0, i1, i2, bw, lt⟩ := M1.out
      try dsimp only at i0 i1 i2
      have B1 : Hid (Below w.heap.size w w1) := bw
      clear bw
      first
        | (go_wp2_with fail; go_ret; exact ⟨rfl, B1.out⟩)
        | (go_wp2_with fail; go_quiet (fail); have BQ := below_drewN B1.out nq; clear B1 a0 a1 a2 a3 i0 i1 i2 lt; generalize w1.drewN nq = W5 at BQ ⊢; go_wp2_with fail; go_ret; exact ⟨rfl, BQ⟩)
  · have d1 : decide (0 ≤ n) = false := decide_eq_false h1
    rw [d1]
    go_enter Tryd.func87, Tryd.ntmps87
    go_upto_region 1 with fail
    rw [← hW, ← hb]
    clear hW hb
    go_wp2_with fail
    refine Calls.mono ET.out ?_
    rintro e1 w1 ⟨rfl, y1⟩
    have M1 : Hid _ := HM.out.later y1
    clear a0 a1 a2 a3 i0 i1 i2 lt y1 ET HM
    obtain ⟨a0, a1, a2, a3, i0, i1, i2, bw, lt⟩ := M1.out
    try dsimp only at i0 i1 i2
    have B1 : Hid (Below w.heap.size w w1) := bw
    clear bw
    first
      | (go_wp2_with fail; go_ret; exact ⟨rfl, B1.out⟩)
      | (go_wp2_with fail; go_quiet (fail); have BQ := below_drewN B1.out nq; clear B1 a0 a1 a2 a3 i0 i1 i2 lt; generalize w1.drewN nq = W5 at BQ ⊢; go_wp2_with fail; go_ret; exact ⟨rfl, BQ⟩)
set_option maxRecDepth 100000 in
set_option maxHeartbeats 4000000 in
theorem rMay_19o (n m : Int) (B : Nat) (la : Option Addr) (lc : Nat) (l : List Cd.Co) (ia : Option Addr) (ic : Nat) (c : Cd.Co) (w : World) (h : MyA B w la l c) (hn : ¬ (0 ≤ n ∧ n < l.length)) (hi : Cd.In.Ok ⟨19, n, m⟩) (hl : Cd.hl ⟨19, n, m⟩ = true) :
    Calls Tryd.prog 87 #[.slice la l.length lc, coV ia ic c, inV ⟨19, n, m⟩] w fun e w' => e = .returned (.bool (Cd.al 8 l c ⟨19, n, m⟩)) ∧ Below w.heap.size w w' := by
  obtain ⟨W, hW⟩ : ∃ W, W = (w.alloc (coB ia c.ins.length ic c)).alloc (inB ⟨19, n, m⟩) := ⟨_, rfl⟩
  obtain ⟨b, hb⟩ : ∃ b, b = w.heap.size := ⟨_, rfl⟩
  have MB := myB_mk w W b ia c.ins.length ic c ⟨19, n, m⟩ hb hW
  obtain ⟨t, ht⟩ : ∃ t : ByteArray, txE ⟨19, n, m⟩ = .tuple #[.string t, .int .i64 0] := by unfold txE; rw [hl]; exact ⟨_, rfl⟩
  have ET : Hid (Calls Tryd.prog 94 #[inV ⟨19, n, m⟩] W fun e w' => e = .returned (.tuple #[.string t, .int .i64 0]) ∧ Below W.heap.size W w') := by
    have := rText_any ⟨19, n, m⟩ W hi
    rw [ht] at this
    exact this
  have HM : Hid (MyB w W b ia c.ins.length ic c ⟨19, n, m⟩) := MB
  obtain ⟨a0, a1, a2, a3, i0, i1, i2, bw, lt⟩ := MB
  try dsimp only at i0 i1 i2
  have HA : Hid (MyA B w la l c) := h
  clear bw ht hi
  have E : Hid (Cd.al 8 l c ⟨19, n, m⟩ = false) := by unfold Hid; show (if _ then _ else _) = false; simp; exact cdMay_out 8 l ⟨19, n, m⟩ hn
  rw [E.out]
  clear h hl E HA
  generalize l.length = L at hn ⊢
  by_cases h1 : n < 0
  · clear hn
    go_enter Tryd.func87, Tryd.ntmps87
    go_upto_region 1 with fail
    rw [← hW, ← hb]
    clear hW hb
    go_wp2_with fail
    refine Calls.mono ET.out ?_
    rintro e1 w1 ⟨rfl, y1⟩
    have M1 : Hid _ := HM.out.later y1
    clear a0 a1 a2 a3 i0 i1 i2 lt y1 ET HM
    obtain ⟨a0, a1, a2, a3, i0, i1, i2, bw, lt⟩ := M1.out
    try dsimp only at i0 i1 i2
    have B1 : Hid (Below w.heap.size w w1) := bw
    clear bw
    go_wp2_with fail
    go_ret
    exact ⟨rfl, B1.out⟩
  · have h2 : (L : Int) ≤ n := by omega
    have d2 : decide ((L : Int) ≤ n) = true := decide_eq_true h2
    clear hn
    go_enter Tryd.func87, Tryd.ntmps87
    go_upto_region 1 with fail
    rw [← hW, ← hb]
    clear hW hb
    go_wp2_with fail
    refine Calls.mono ET.out ?_
    rintro e1 w1 ⟨rfl, y1⟩
    have M1 : Hid _ := HM.out.later y1
    clear a0 a1 a2 a3 i0 i1 i2 lt y1 ET HM
    obtain ⟨a0, a1, a2, a3, i0, i1, i2, bw, lt⟩ := M1.out
    try dsimp only at i0 i1 i2
    have B1 : Hid (Below w.heap.size w w1) := bw
    clear bw
    go_wp2_with fail
    go_ret
    exact ⟨rfl, B1.out⟩
set_option maxRecDepth 100000 in
set_option maxHeartbeats 4000000 in
theorem rMay_19i (k : Nat) (m : Int) (d : Cd.Co) (B : Nat) (la : Option Addr) (lc : Nat) (l : List Cd.Co) (ia : Option Addr) (ic : Nat) (c : Cd.Co) (w : World) (h : MyA B w la l c) (hd : l[k]? = some d) (hi : Cd.In.Ok ⟨19, (k : Int), m⟩) (hl : Cd.hl ⟨19, (k : Int), m⟩ = true) :
    Calls Tryd.prog 87 #[.slice la l.length lc, coV ia ic c, inV ⟨19, (k : Int), m⟩] w fun e w' => e = .returned (.bool (Cd.al 8 l c ⟨19, (k : Int), m⟩)) ∧ Below w.heap.size w w' := by
  obtain ⟨W, hW⟩ : ∃ W, W = (w.alloc (coB ia c.ins.length ic c)).alloc (inB ⟨19, (k : Int), m⟩) := ⟨_, rfl⟩
  obtain ⟨b, hb⟩ : ∃ b, b = w.heap.size := ⟨_, rfl⟩
  have MB := myB_mk w W b ia c.ins.length ic c ⟨19, (k : Int), m⟩ hb hW
  obtain ⟨t, ht⟩ : ∃ t : ByteArray, txE ⟨19, (k : Int), m⟩ = .tuple #[.string t, .int .i64 0] := by unfold txE; rw [hl]; exact ⟨_, rfl⟩
  have ET : Hid (Calls Tryd.prog 94 #[inV ⟨19, (k : Int), m⟩] W fun e w' => e = .returned (.tuple #[.string t, .int .i64 0]) ∧ Below W.heap.size W w') := by
    have := rText_any ⟨19, (k : Int), m⟩ W hi
    rw [ht] at this
    exact this
  have HM : Hid (MyB w W b ia c.ins.length ic c ⟨19, (k : Int), m⟩) := MB
  obtain ⟨a0, a1, a2, a3, i0, i1, i2, bw, lt⟩ := MB
  try dsimp only at i0 i1 i2
  have HA : Hid (MyA B w la l c) := h
  clear bw ht hi
  have kl : k < l.length := (List.getElem?_eq_some_iff.1 hd).1
  have E : Hid (Cd.al 8 l c ⟨19, (k : Int), m⟩ = ((d.params == m) && decide (0 ≤ d.params) && decide (d.params ≤ 8))) := by
    unfold Hid
    show (if _ then _ else _) = _
    simp [Cd.mc, hd]
    rw [Bool.eq_iff_iff]
    simp only [Bool.and_eq_true, decide_eq_true_eq, beq_iff_eq]
    omega
  rw [E.out]
  have at0 := (h.co.later (MyB.bw HM.out |>.mono h.hB)).at hd
  obtain ⟨g, o, ja, jc, rfl, hg, at_⟩ := h.co.at hd
  have hgb : g < w.heap.size := Nat.lt_of_lt_of_le hg h.hB
  have c2 := at_.c2
  have HC2 : Hid (∀ X, Below w.heap.size w X → X.cell? ⟨g, o + k * 4 + 2, none⟩ = some (.int .i64 d.params)) := fun X hX => (hX.cell (p := ⟨g, _, none⟩) hgb).trans c2
  have n0 : ¬ (k : Int) < 0 := by omega
  have n1 : ¬ (l.length : Int) ≤ (k : Int) := by omega
  have n2 : (k : Int) < (l.length : Int) := by omega
  have n3 : (0 : Int) ≤ (k : Int) := by omega
  generalize l.length = L at n1 n2 kl ⊢
  clear at_ h hl E HA at0 c2
  generalize d.params = dp at HC2 ⊢
  by_cases h1 : dp = m
  · have e1 : (dp == m) = true := by rw [h1]; exact beq_self_eq_true _
    rw [e1]
    by_cases h2 : 0 ≤ dp
    · have d2 : decide (0 ≤ dp) = true := decide_eq_true h2
      rw [d2]
      by_cases h3 : dp ≤ 8
      · have d3 : decide (dp ≤ 8) = true := decide_eq_true h3
        rw [d3]
        clear h1
        go_enter Tryd.func87, Tryd.ntmps87
        go_upto_region 1 with fail
        rw [← hW, ← hb]
        clear hW hb
        go_wp2_with fail
        refine Calls.mono ET.out ?_
        rintro e1 w1 ⟨rfl, y1⟩
        have M1 : Hid _ := HM.out.later y1
        clear a0 a1 a2 a3 i0 i1 i2 lt y1 ET HM
        obtain ⟨a0, a1, a2, a3, i0, i1, i2, bw, lt⟩ := M1.out
        try dsimp only at i0 i1 i2
        have B1 : Hid (Below w.heap.size w w1) := bw
        clear bw
        have c2 := HC2.out _ B1.out
        clear M1 HC2
        first
          | (go_wp2_with fail; go_ret; exact ⟨rfl, B1.out⟩)
          | (go_wp2_with fail; go_quiet (fail); have BQ := below_drewN B1.out nq; clear B1 a0 a1 a2 a3 i0 i1 i2 lt c2; generalize w1.drewN nq = W5 at BQ ⊢; go_wp2_with fail; go_ret; exact ⟨rfl, BQ⟩)
      · have d3 : decide (dp ≤ 8) = false := decide_eq_false h3
        rw [d3]
        clear h1
        go_enter Tryd.func87, Tryd.ntmps87
        go_upto_region 1 with fail
        rw [← hW, ← hb]
        clear hW hb
        go_wp2_with fail
        refine Calls.mono ET.out ?_
        rintro e1 w1 ⟨rfl, y1⟩
        have M1 : Hid _ := HM.out.later y1
        clear a0 a1 a2 a3 i0 i1 i2 lt y1 ET HM
        obtain ⟨a0, a1, a2, a3, i0, i1, i2, bw, lt⟩ := M1.out
        try dsimp only at i0 i1 i2
        have B1 : Hid (Below w.heap.size w w1) := bw
        clear bw
        have c2 := HC2.out _ B1.out
        clear M1 HC2
        first
          | (go_wp2_with fail; go_ret; exact ⟨rfl, B1.out⟩)
          | (go_wp2_with fail; go_quiet (fail); have BQ := below_drewN B1.out nq; clear B1 a0 a1 a2 a3 i0 i1 i2 lt c2; generalize w1.drewN nq = W5 at BQ ⊢; go_wp2_with fail; go_ret; exact ⟨rfl, BQ⟩)
    · have d2 : decide (0 ≤ dp) = false := decide_eq_false h2
      rw [d2]
      clear h1
      go_enter Tryd.func87, Tryd.ntmps87
      go_upto_region 1 with fail
      rw [← hW, ← hb]
      clear hW hb
      go_wp2_with fail
      refine Calls.mono ET.out ?_
      rintro e1 w1 ⟨rfl, y1⟩
      have M1 : Hid _ := HM.out.later y1
      clear a0 a1 a2 a3 i0 i1 i2 lt y1 ET HM
      obtain ⟨a0, a1, a2, a3, i0, i1, i2, bw, lt⟩ := M1.out
      try dsimp only at i0 i1 i2
      have B1 : Hid (Below w.heap.size w w1) := bw
      clear bw
      have c2 := HC2.out _ B1.out
      clear M1 HC2
      first
        | (go_wp2_with fail; go_ret; exact ⟨rfl, B1.out⟩)
        | (go_wp2_with fail; go_quiet (fail); have BQ := below_drewN B1.out nq; clear B1 a0 a1 a2 a3 i0 i1 i2 lt c2; generalize w1.drewN nq = W5 at BQ ⊢; go_wp2_with fail; go_ret; exact ⟨rfl, BQ⟩)
  · have e1 : (dp == m) = false := beq_eq_false_iff_ne.2 h1
    rw [e1]
    clear h1
    go_enter Tryd.func87, Tryd.ntmps87
    go_upto_region 1 with fail
    rw [← hW, ← hb]
    clear hW hb
    go_wp2_with fail
    refine Calls.mono ET.out ?_
    rintro e1 w1 ⟨rfl, y1⟩
    have M1 : Hid _ := HM.out.later y1
    clear a0 a1 a2 a3 i0 i1 i2 lt y1 ET HM
    obtain ⟨a0, a1, a2, a3, i0, i1, i2, bw, lt⟩ := M1.out
    try dsimp only at i0 i1 i2
    have B1 : Hid (Below w.heap.size w w1) := bw
    clear bw
    have c2 := HC2.out _ B1.out
    clear M1 HC2
    first
      | (go_wp2_with fail; go_ret; exact ⟨rfl, B1.out⟩)
      | (go_wp2_with fail; go_quiet (fail); have BQ := below_drewN B1.out nq; clear B1 a0 a1 a2 a3 i0 i1 i2 lt c2; generalize w1.drewN nq = W5 at BQ ⊢; go_wp2_with fail; go_ret; exact ⟨rfl, BQ⟩)
set_option maxRecDepth 100000 in
set_option maxHeartbeats 4000000 in
theorem rMay_20 (n m : Int) (B : Nat) (la : Option Addr) (lc : Nat) (l : List Cd.Co) (ia : Option Addr) (ic : Nat) (c : Cd.Co) (w : World) (h : MyA B w la l c)  (hi : Cd.In.Ok ⟨20, n, m⟩) (hl : Cd.hl ⟨20, n, m⟩ = true) :
    Calls Tryd.prog 87 #[.slice la l.length lc, coV ia ic c, inV ⟨20, n, m⟩] w fun e w' => e = .returned (.bool (Cd.al 8 l c ⟨20, n, m⟩)) ∧ Below w.heap.size w w' := by
  obtain ⟨W, hW⟩ : ∃ W, W = (w.alloc (coB ia c.ins.length ic c)).alloc (inB ⟨20, n, m⟩) := ⟨_, rfl⟩
  obtain ⟨b, hb⟩ : ∃ b, b = w.heap.size := ⟨_, rfl⟩
  have MB := myB_mk w W b ia c.ins.length ic c ⟨20, n, m⟩ hb hW
  obtain ⟨t, ht⟩ : ∃ t : ByteArray, txE ⟨20, n, m⟩ = .tuple #[.string t, .int .i64 0] := by unfold txE; rw [hl]; exact ⟨_, rfl⟩
  have ET : Hid (Calls Tryd.prog 94 #[inV ⟨20, n, m⟩] W fun e w' => e = .returned (.tuple #[.string t, .int .i64 0]) ∧ Below W.heap.size W w') := by
    have := rText_any ⟨20, n, m⟩ W hi
    rw [ht] at this
    exact this
  have HM : Hid (MyB w W b ia c.ins.length ic c ⟨20, n, m⟩) := MB
  obtain ⟨a0, a1, a2, a3, i0, i1, i2, bw, lt⟩ := MB
  try dsimp only at i0 i1 i2
  have HA : Hid (MyA B w la l c) := h
  clear bw ht hi
  have E : Hid (Cd.al 8 l c ⟨20, n, m⟩ = (n == if c.ans then 1 else 0)) := by unfold Hid Cd.al Cd.an; simp
  rw [E.out]
  clear h hl E HA
  show Calls _ _ #[_, .agg #[.slice ia c.ins.length ic, .int .i64 c.cells, .int .i64 c.params, .bool c.ans], _] _ _
  obtain ⟨ii, cc, cp, ca⟩ := c
  dsimp only at *
  cases ca with
  | false =>
    go_enter Tryd.func87, Tryd.ntmps87
    go_upto_region 1 with fail
    rw [← hW, ← hb]
    clear hW hb
    go_wp2_with fail
    refine Calls.mono ET.out ?_
    rintro e1 w1 ⟨rfl, y1⟩
    have M1 : Hid _ := HM.out.later y1
    clear a0 a1 a2 a3 i0 i1 i2 lt y1 ET HM
    obtain ⟨a0, a1, a2, a3, i0, i1, i2, bw, lt⟩ := M1.out
    try dsimp only at i0 i1 i2
    have B1 : Hid (Below w.heap.size w w1) := bw
    clear bw
    go_wp2_with fail
    go_ret
    exact ⟨rfl, B1.out⟩
  | true =>
    go_enter Tryd.func87, Tryd.ntmps87
    go_upto_region 1 with fail
    rw [← hW, ← hb]
    clear hW hb
    go_wp2_with fail
    refine Calls.mono ET.out ?_
    rintro e1 w1 ⟨rfl, y1⟩
    have M1 : Hid _ := HM.out.later y1
    clear a0 a1 a2 a3 i0 i1 i2 lt y1 ET HM
    obtain ⟨a0, a1, a2, a3, i0, i1, i2, bw, lt⟩ := M1.out
    try dsimp only at i0 i1 i2
    have B1 : Hid (Below w.heap.size w w1) := bw
    clear bw
    go_wp2_with fail
    go_ret
    exact ⟨rfl, B1.out⟩
set_option maxRecDepth 100000 in
set_option maxHeartbeats 4000000 in
theorem rMay_24 (n m : Int) (B : Nat) (la : Option Addr) (lc : Nat) (l : List Cd.Co) (ia : Option Addr) (ic : Nat) (c : Cd.Co) (w : World) (h : MyA B w la l c)  (hi : Cd.In.Ok ⟨24, n, m⟩) (hl : Cd.hl ⟨24, n, m⟩ = true) :
    Calls Tryd.prog 87 #[.slice la l.length lc, coV ia ic c, inV ⟨24, n, m⟩] w fun e w' => e = .returned (.bool (Cd.al 8 l c ⟨24, n, m⟩)) ∧ Below w.heap.size w w' := by
  obtain ⟨W, hW⟩ : ∃ W, W = (w.alloc (coB ia c.ins.length ic c)).alloc (inB ⟨24, n, m⟩) := ⟨_, rfl⟩
  obtain ⟨b, hb⟩ : ∃ b, b = w.heap.size := ⟨_, rfl⟩
  have MB := myB_mk w W b ia c.ins.length ic c ⟨24, n, m⟩ hb hW
  obtain ⟨t, ht⟩ : ∃ t : ByteArray, txE ⟨24, n, m⟩ = .tuple #[.string t, .int .i64 0] := by unfold txE; rw [hl]; exact ⟨_, rfl⟩
  have ET : Hid (Calls Tryd.prog 94 #[inV ⟨24, n, m⟩] W fun e w' => e = .returned (.tuple #[.string t, .int .i64 0]) ∧ Below W.heap.size W w') := by
    have := rText_any ⟨24, n, m⟩ W hi
    rw [ht] at this
    exact this
  have HM : Hid (MyB w W b ia c.ins.length ic c ⟨24, n, m⟩) := MB
  obtain ⟨a0, a1, a2, a3, i0, i1, i2, bw, lt⟩ := MB
  try dsimp only at i0 i1 i2
  have HA : Hid (MyA B w la l c) := h
  clear bw ht hi
  have E : Hid (Cd.al 8 l c ⟨24, n, m⟩ = (decide (0 ≤ n) && decide (1 ≤ m) && decide (m ≤ 3))) := by unfold Hid Cd.al; simp
  rw [E.out]
  clear h hl E HA
  by_cases h1 : 0 ≤ n
  · by_cases h2 : 1 ≤ m
    · by_cases h3 : m ≤ 3
      · rw [decide_eq_true h1, decide_eq_true h2, decide_eq_true h3]
        go_enter Tryd.func87, Tryd.ntmps87
        go_upto_region 1 with fail
        rw [← hW, ← hb]
        clear hW hb
        go_wp2_with fail
        refine Calls.mono ET.out ?_
        rintro e1 w1 ⟨rfl, y1⟩
        have M1 : Hid _ := HM.out.later y1
        clear a0 a1 a2 a3 i0 i1 i2 lt y1 ET HM
        obtain ⟨a0, a1, a2, a3, i0, i1, i2, bw, lt⟩ := M1.out
        try dsimp only at i0 i1 i2
        have B1 : Hid (Below w.heap.size w w1) := bw
        clear bw
        first
          | (go_wp2_with fail; go_ret; exact ⟨rfl, B1.out⟩)
          | (go_wp2_with fail; go_quiet (fail); have BQ := below_drewN B1.out nq; clear B1 a0 a1 a2 a3 i0 i1 i2 lt; generalize w1.drewN nq = W5 at BQ ⊢; go_wp2_with fail; go_ret; exact ⟨rfl, BQ⟩)
      · have d3 : decide (m ≤ 3) = false := decide_eq_false h3
        rw [decide_eq_true h1, decide_eq_true h2, d3]
        go_enter Tryd.func87, Tryd.ntmps87
        go_upto_region 1 with fail
        rw [← hW, ← hb]
        clear hW hb
        go_wp2_with fail
        refine Calls.mono ET.out ?_
        rintro e1 w1 ⟨rfl, y1⟩
        have M1 : Hid _ := HM.out.later y1
        clear a0 a1 a2 a3 i0 i1 i2 lt y1 ET HM
        obtain ⟨a0, a1, a2, a3, i0, i1, i2, bw, lt⟩ := M1.out
        try dsimp only at i0 i1 i2
        have B1 : Hid (Below w.heap.size w w1) := bw
        clear bw
        first
          | (go_wp2_with fail; go_ret; exact ⟨rfl, B1.out⟩)
          | (go_wp2_with fail; go_quiet (fail); have BQ := below_drewN B1.out nq; clear B1 a0 a1 a2 a3 i0 i1 i2 lt; generalize w1.drewN nq = W5 at BQ ⊢; go_wp2_with fail; go_ret; exact ⟨rfl, BQ⟩)
    · rw [decide_eq_true h1, decide_eq_false h2]
      go_enter Tryd.func87, Tryd.ntmps87
      go_upto_region 1 with fail
      rw [← hW, ← hb]
      clear hW hb
      go_wp2_with fail
      refine Calls.mono ET.out ?_
      rintro e1 w1 ⟨rfl, y1⟩
      have M1 : Hid _ := HM.out.later y1
      clear a0 a1 a2 a3 i0 i1 i2 lt y1 ET HM
      obtain ⟨a0, a1, a2, a3, i0, i1, i2, bw, lt⟩ := M1.out
      try dsimp only at i0 i1 i2
      have B1 : Hid (Below w.heap.size w w1) := bw
      clear bw
      first
        | (go_wp2_with fail; go_ret; exact ⟨rfl, B1.out⟩)
        | (go_wp2_with fail; go_quiet (fail); have BQ := below_drewN B1.out nq; clear B1 a0 a1 a2 a3 i0 i1 i2 lt; generalize w1.drewN nq = W5 at BQ ⊢; go_wp2_with fail; go_ret; exact ⟨rfl, BQ⟩)
  · rw [decide_eq_false h1]
    go_enter Tryd.func87, Tryd.ntmps87
    go_upto_region 1 with fail
    rw [← hW, ← hb]
    clear hW hb
    go_wp2_with fail
    refine Calls.mono ET.out ?_
    rintro e1 w1 ⟨rfl, y1⟩
    have M1 : Hid _ := HM.out.later y1
    clear a0 a1 a2 a3 i0 i1 i2 lt y1 ET HM
    obtain ⟨a0, a1, a2, a3, i0, i1, i2, bw, lt⟩ := M1.out
    try dsimp only at i0 i1 i2
    have B1 : Hid (Below w.heap.size w w1) := bw
    clear bw
    first
      | (go_wp2_with fail; go_ret; exact ⟨rfl, B1.out⟩)
      | (go_wp2_with fail; go_quiet (fail); have BQ := below_drewN B1.out nq; clear B1 a0 a1 a2 a3 i0 i1 i2 lt; generalize w1.drewN nq = W5 at BQ ⊢; go_wp2_with fail; go_ret; exact ⟨rfl, BQ⟩)
set_option maxRecDepth 100000 in
set_option maxHeartbeats 4000000 in
theorem rMay_no (op n m : Int) (q2 : ¬ op = 2) (q3 : ¬ op = 3) (q4 : ¬ op = 4) (q5 : ¬ op = 5) (q6 : ¬ op = 6) (q17 : ¬ op = 17) (q18 : ¬ op = 18) (q19 : ¬ op = 19) (q20 : ¬ op = 20) (q24 : ¬ op = 24) (B : Nat) (la : Option Addr) (lc : Nat) (l : List Cd.Co) (ia : Option Addr) (ic : Nat) (c : Cd.Co) (w : World) (h : MyA B w la l c)  (hi : Cd.In.Ok ⟨op, n, m⟩) (hl : Cd.hl ⟨op, n, m⟩ = true) :
    Calls Tryd.prog 87 #[.slice la l.length lc, coV ia ic c, inV ⟨op, n, m⟩] w fun e w' => e = .returned (.bool (Cd.al 8 l c ⟨op, n, m⟩)) ∧ Below w.heap.size w w' := by
  obtain ⟨W, hW⟩ : ∃ W, W = (w.alloc (coB ia c.ins.length ic c)).alloc (inB ⟨op, n, m⟩) := ⟨_, rfl⟩
  obtain ⟨b, hb⟩ : ∃ b, b = w.heap.size := ⟨_, rfl⟩
  have MB := myB_mk w W b ia c.ins.length ic c ⟨op, n, m⟩ hb hW
  obtain ⟨t, ht⟩ : ∃ t : ByteArray, txE ⟨op, n, m⟩ = .tuple #[.string t, .int .i64 0] := by unfold txE; rw [hl]; exact ⟨_, rfl⟩
  have ET : Hid (Calls Tryd.prog 94 #[inV ⟨op, n, m⟩] W fun e w' => e = .returned (.tuple #[.string t, .int .i64 0]) ∧ Below W.heap.size W w') := by
    have := rText_any ⟨op, n, m⟩ W hi
    rw [ht] at this
    exact this
  have HM : Hid (MyB w W b ia c.ins.length ic c ⟨op, n, m⟩) := MB
  obtain ⟨a0, a1, a2, a3, i0, i1, i2, bw, lt⟩ := MB
  try dsimp only at i0 i1 i2
  have HA : Hid (MyA B w la l c) := h
  clear bw ht hi
  have E : Hid (Cd.al 8 l c ⟨op, n, m⟩ = true) := by unfold Hid Cd.al; simp [q2, q3, q4, q5, q6, q17, q18, q19, q20, q24]
  rw [E.out]
  have e2 : (op == 2) = false := by simpa using q2
  have e3 : (op == 3) = false := by simpa using q3
  have e4 : (op == 4) = false := by simpa using q4
  have e5 : (op == 5) = false := by simpa using q5
  have e6 : (op == 6) = false := by simpa using q6
  have e17 : (op == 17) = false := by simpa using q17
  have e18 : (op == 18) = false := by simpa using q18
  have e19 : (op == 19) = false := by simpa using q19
  have e20 : (op == 20) = false := by simpa using q20
  have e24 : (op == 24) = false := by simpa using q24
  clear h hl E q2 q3 q4 q5 q6 q17 q18 q19 q20 q24
  go_enter Tryd.func87, Tryd.ntmps87
  go_upto_region 1 with fail
  rw [← hW, ← hb]
  clear hW hb
  go_wp2_with fail
  refine Calls.mono ET.out ?_
  rintro e1 w1 ⟨rfl, y1⟩
  have M1 : Hid _ := HM.out.later y1
  clear a0 a1 a2 a3 i0 i1 i2 lt y1 ET HM
  obtain ⟨a0, a1, a2, a3, i0, i1, i2, bw, lt⟩ := M1.out
  try dsimp only at i0 i1 i2
  have B1 : Hid (Below w.heap.size w w1) := bw
  clear bw
  go_wp2_with fail
  go_ret
  exact ⟨rfl, B1.out⟩
theorem rMay_any (i : Cd.In) (B : Nat) (la : Option Addr) (lc : Nat) (l : List Cd.Co) (ia : Option Addr) (ic : Nat) (c : Cd.Co) (w : World) (h : MyA B w la l c) (hi : i.Ok) :
    Calls Tryd.prog 87 #[.slice la l.length lc, coV ia ic c, inV i] w fun e w' => e = .returned (.bool (Cd.hl i && Cd.al 8 l c i)) ∧ Below w.heap.size w w' := by
  cases hl : Cd.hl i with
  | false => exact rMay_hl i B la lc l ia ic c w h hi hl
  | true =>
    rw [Bool.true_and]
    obtain ⟨op, n, m⟩ := i
    by_cases q2 : op = 2
    · subst q2
      exact rMay_2 n m B la lc l ia ic c w h hi hl
    by_cases q3 : op = 3
    · subst q3
      exact rMay_3 n m B la lc l ia ic c w h hi hl
    by_cases q4 : op = 4
    · subst q4
      exact rMay_4 n m B la lc l ia ic c w h hi hl
    by_cases q5 : op = 5
    · subst q5
      exact rMay_5 n m B la lc l ia ic c w h hi hl
    by_cases q6 : op = 6
    · subst q6
      exact rMay_6 n m B la lc l ia ic c w h hi hl
    by_cases q17 : op = 17
    · subst q17
      exact rMay_17 n m B la lc l ia ic c w h hi hl
    by_cases q18 : op = 18
    · subst q18
      exact rMay_18 n m B la lc l ia ic c w h hi hl
    by_cases q19 : op = 19
    · subst q19
      by_cases hn : 0 ≤ n ∧ n < l.length
      · obtain ⟨j, rfl⟩ : ∃ j : Nat, n = j := ⟨n.toNat, by omega⟩
        exact rMay_19i j m _ B la lc l ia ic c w h (List.getElem?_eq_getElem (by omega)) hi hl
      · exact rMay_19o n m B la lc l ia ic c w h hn hi hl
    by_cases q20 : op = 20
    · subst q20
      exact rMay_20 n m B la lc l ia ic c w h hi hl
    by_cases q24 : op = 24
    · subst q24
      exact rMay_24 n m B la lc l ia ic c w h hi hl
    exact rMay_no op n m q2 q3 q4 q5 q6 q17 q18 q19 q20 q24 B la lc l ia ic c w h hi hl
end Go.Proofs.YtkjkiknpgggadaaDoor

