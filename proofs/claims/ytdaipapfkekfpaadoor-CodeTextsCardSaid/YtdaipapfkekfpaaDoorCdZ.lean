/- Layer 8: the document's instruction of a line is the program's. -/
import Derived.Test.YtdaipapfkekfpaaDoorCdS
import Derived.Test.YtdaipapfkekfpaaDoorRWords
import Derived.Deep.LoopGhost
namespace Go.Proofs.YtdaipapfkekfpaaDoor
open Go.RowKit
set_option linter.unusedVariables false
set_option linter.unusedSimpArgs false

/-- What the document's Words leave of a text. -/
def RwP (s : ByteArray) (w : World) (e : Ending) (w' : World) : Prop := ∃ b cap, e = .returned (.slice (some ⟨b, 0, none⟩) (Pl.ws s.data.toList).length cap) ∧ b < w'.heap.size ∧ (∀ j x, (Pl.ws s.data.toList)[j]? = some x → w'.cell? ⟨b, j, none⟩ = some (.string ⟨x.toArray⟩)) ∧ Below w.heap.size w w'
theorem rdWords (s : ByteArray) (w : World) (hs : s.size ≤ 3000) (h0 : 0 < s.size) : Calls Tryd.prog 29 #[.string s] w (RwP s w) := by
  refine (rwords_some s w hs h0).mono ?_
  rintro e w' ⟨v, xs, rfl, ow, hx, hb⟩
  have hl : (Pl.ws s.data.toList).length = xs.length := by rw [← hx, List.length_map]
  have hne : xs ≠ [] := by
    intro e
    rw [e] at hx
    exact Pl.ws_ne _ hx.symm
  obtain ⟨b, cap, hv, hc, sa⟩ := ow.sa hne
  refine ⟨b, cap, by rw [hl, hv], sa.lt, fun j x e => ?_, hb⟩
  have hj : j < xs.length := by rw [← hl]; exact (List.getElem?_eq_some_iff.1 e).1
  have := sa.get j hj
  rw [Nat.zero_add] at this
  rw [this, List.getD_eq_getElem?_getD, List.getElem?_eq_getElem hj]
  rw [← hx, List.getElem?_map, List.getElem?_eq_getElem hj] at e
  simp only [Option.map_some, Option.some.injEq] at e
  rw [← e, strB]
  rfl
/-- The operation that was found among those below k. -/
def opB (a : List UInt8) (k : Nat) : Int := if Cd.opOf a < k then (Cd.opOf a : Int) else 0
theorem opB_hit {a : List UInt8} {k : Nat} (h1 : 1 ≤ k) (h2 : k < 26) (h : Cd.wordL.getD k [] = a) : opB a (k + 1) = k := by
  have : Cd.opOf a = k := by rw [← h]; exact Cd.opOf_at k h2 h1
  unfold opB
  rw [this, if_pos (by omega)]
theorem opB_miss {a : List UInt8} {k : Nat} (h1 : 1 ≤ k) (h : Cd.wordL.getD k [] ≠ a) : opB a (k + 1) = opB a k := by
  unfold opB
  by_cases e : Cd.opOf a = k
  · exfalso
    refine h ?_
    have := (Cd.opOf_is (w := a) (by omega)).2.2
    rw [e] at this
    rw [List.getD_eq_getElem?_getD, this]
    rfl
  · by_cases c : Cd.opOf a < k
    · rw [if_pos c, if_pos (by omega)]
    · rw [if_neg c, if_neg (by omega)]
theorem opB_all (a : List UInt8) : opB a 26 = Cd.opOf a := by
  unfold opB
  by_cases e : Cd.opOf a = 0
  · rw [e]; rfl
  · have := (Cd.opOf_is e).2.1
    rw [if_pos (by omega)]
theorem opB_one (a : List UInt8) : opB a 1 = 0 := by
  unfold opB
  split
  · omega
  · rfl
/-- What Parse leaves: as the program's. -/
theorem pzE_mk (s : List UInt8) : pzE s = if Cd.hl (Cd.mk s) = true ∧ Cd.tx (Cd.mk s) = s then iE (Cd.mk s) 0 else iE ⟨0, 0, 0⟩ 61 := by
  unfold pzE
  rw [Cd.pz_mk]
  by_cases h : Cd.hl (Cd.mk s) = true ∧ Cd.tx (Cd.mk s) = s
  · rw [if_pos h, if_pos h]
  · rw [if_neg h, if_neg h]
theorem mk_ok (s : List UInt8) : (Cd.mk s).Ok := by
  have h := Cd.mk_w64 s
  refine ⟨?_, h.1, h.2⟩
  have key : ∀ a, Cd.I6 (Cd.opOf a : Nat) := fun a => by
    by_cases e : Cd.opOf a = 0
    · rw [e]; exact ⟨by decide, by decide⟩
    · have := (Cd.opOf_is e).2.1
      exact ⟨by omega, by omega⟩
  unfold Cd.mk
  split
  · exact ⟨by decide, by decide⟩
  · split
    · exact ⟨by decide, by decide⟩
    · exact key _
    · exact key _
    · exact key _
/-- The box of the instruction while it is made. -/
def IbX (W : World) (ib : Nat) (x : Int) (n m : Int) (wr : World) : Prop := wr.heap[ib]? = some (.cells #[.int .i64 x, .int .i64 n, .int .i64 m] 23 (0, 0)) ∧ Below ib W wr
theorem IbX.cell {W wr : World} {ib : Nat} {x n m : Int} (h : IbX W ib x n m wr) : wr.cell? ⟨ib, 0, none⟩ = some (.int .i64 x) ∧ wr.cell? ⟨ib, 1, none⟩ = some (.int .i64 n) ∧ wr.cell? ⟨ib, 2, none⟩ = some (.int .i64 m) ∧ (∀ c : Nat, wr.frozen? ⟨ib, c, none⟩ = false) ∧ ib < wr.heap.size :=
  ⟨by simp [World.cell?, h.1], by simp [World.cell?, h.1], by simp [World.cell?, h.1], fun c => by simp [World.frozen?, h.1], (Array.getElem?_eq_some_iff.1 h.1).1⟩
theorem IbX.later {W wr w' : World} {ib : Nat} {x n m : Int} (h : IbX W ib x n m wr) (b : Below wr.heap.size wr w') : IbX W ib x n m w' :=
  ⟨(b.block ib h.cell.2.2.2.2).trans h.1, h.2.trans (b.mono (Nat.le_of_lt h.cell.2.2.2.2))⟩
theorem IbX.set {W wr : World} {ib : Nat} {x n m : Int} (h : IbX W ib x n m wr) (c : Nat) (v : Value) : Below ib W (wr.setCell ⟨ib, c, none⟩ v) := h.2.trans ⟨rfl, rfl, rfl, by simp, fun k hk => heap_setCell_other _ _ k _ (by simp; omega)⟩
theorem IbX.op {W wr : World} {ib : Nat} {x n m : Int} (h : IbX W ib x n m wr) (y : Int) : IbX W ib y n m (wr.setCell ⟨ib, 0, none⟩ (.int .i64 y)) := ⟨heap_setCell_same _ _ _ _ _ _ h.1, h.set 0 _⟩
theorem IbX.n {W wr : World} {ib : Nat} {x n m : Int} (h : IbX W ib x n m wr) (y : Int) : IbX W ib x y m (wr.setCell ⟨ib, 1, none⟩ (.int .i64 y)) := ⟨heap_setCell_same _ _ _ _ _ _ h.1, h.set 1 _⟩
theorem IbX.m {W wr : World} {ib : Nat} {x n m : Int} (h : IbX W ib x n m wr) (y : Int) : IbX W ib x n y (wr.setCell ⟨ib, 2, none⟩ (.int .i64 y)) := ⟨heap_setCell_same _ _ _ _ _ _ h.1, h.set 2 _⟩
theorem rowFld (a b c d : Value) (w : World) : (Instr.field 53 (.agg #[a, b, c, d]) 0).run Tryd.prog w = .ok a w := by kernel_rfl
theorem rOf_in (k : Nat) (h1 : 1 ≤ k) (h2 : k < 26) (W : World) : Calls Tryd.prog 24 #[.int .i64 (k : Int)] W fun e w' => ∃ n t l, e = .returned (.agg #[.string ⟨(Cd.wordL.getD k []).toArray⟩, .int .i64 n, .int .i64 t, .int .i64 l]) ∧ Below W.heap.size W w' := by
  refine (rOf_any (k : Int) W).mono fun e w' ⟨a, b⟩ => ⟨Cd.nm k, Cd.takesL.getD k 0, Cd.leavesL.getD k 0, ?_, b⟩
  rw [a]
  unfold ofV Cd.wd
  rw [if_pos ⟨by omega, by omega⟩, Int.toNat_natCast]
set_option maxRecDepth 100000 in
set_option maxHeartbeats 8000000 in
theorem rParse_1 (sl : List UInt8) (a : List UInt8) (w : World) (hs : sl.length ≤ 3000) (h0 : 0 < sl.length) (hw : Pl.ws sl = [a]) : Calls Tryd.prog 13 #[.string ⟨sl.toArray⟩] w fun e w' => e = .returned (pzE sl) ∧ Below w.heap.size w w' := by
  have HMK : Hid (Cd.mk sl = ⟨Cd.opOf a, 0, 0⟩) := by
    unfold Hid Cd.mk
    rw [if_neg (by intro e; rw [e] at h0; simp at h0), hw]
  obtain ⟨b, hbx⟩ : ∃ b, b = w.heap.size := ⟨_, rfl⟩
  obtain ⟨W, hW⟩ : ∃ W, W = w.alloc (inB ⟨0, 0, 0⟩) := ⟨_, rfl⟩
  obtain ⟨b0, b1, b2, bw⟩ := in_box w ⟨0, 0, 0⟩ b W hbx hW
  dsimp only at b0 b1 b2
  have HBX : Hid (w.heap.size ≤ b) := Nat.le_of_eq hbx.symm
  have bl : b < W.heap.size := by rw [hbx, hW]; simp
  have bf : ∀ c : Nat, W.frozen? ⟨b, c, none⟩ = false := fun c => by rw [hbx, hW]; simp [go_sem]
  have EW : Hid _ := rdWords ⟨sl.toArray⟩ W (by rw [bsz]; exact hs) (by rw [bsz]; exact h0)
  have BW : Hid (Below w.heap.size w W) := bw
  clear bw hs h0
  go_enter Tryd.func13, Tryd.ntmps13
  go_upto_region 1 with fail
  rw [← hW, ← hbx]
  clear hW hbx
  go_wp2_with fail
  refine Calls.mono EW.out ?_
  rintro e1 w1 ⟨g, cap, rfl, hg, hc, y1⟩
  rw [hw] at hc ⊢
  have c0 := hc 0 a rfl
  obtain ⟨W2, hW2⟩ : ∃ W2, W2 = w1.alloc (inB ⟨0, 0, 0⟩) := ⟨_, rfl⟩
  obtain ⟨ib, hib⟩ : ∃ ib, ib = w1.heap.size := ⟨_, rfl⟩
  have y2 : Below w1.heap.size w1 W2 := by rw [hW2]; exact (Below.refl _ _).alloc (Nat.le_refl _) _
  have gib : g < ib := by rw [hib]; exact hg
  have bib : b < ib := by rw [hib]; exact Nat.lt_of_lt_of_le bl y1.size
  have IB0 : Hid (IbX W2 ib (opB a 1) 0 0 W2) := ⟨by rw [opB_one, hW2, hib]; exact Array.getElem?_push_size, Below.refl _ _⟩
  have k0 := (y2.cell (p := ⟨g, 0, none⟩) hg).trans c0
  have KW : Hid (W2.cell? ⟨g, 0, none⟩ = some (.string ⟨a.toArray⟩)) := k0
  have yb := y1.trans (y2.mono y1.size)
  have d0 := (yb.cell (p := ⟨b, 0, none⟩) bl).trans b0
  have d1 := (yb.cell (p := ⟨b, 1, none⟩) bl).trans b1
  have d2 := (yb.cell (p := ⟨b, 2, none⟩) bl).trans b2
  have f0 := (yb.frozen (p := ⟨b, 0, none⟩) bl).trans (bf 0)
  have f1 := (yb.frozen (p := ⟨b, 1, none⟩) bl).trans (bf 1)
  have f2 := (yb.frozen (p := ⟨b, 2, none⟩) bl).trans (bf 2)
  have KB : Hid ((W2.cell? ⟨b, 0, none⟩ = some (.int .i64 0) ∧ W2.cell? ⟨b, 1, none⟩ = some (.int .i64 0) ∧ W2.cell? ⟨b, 2, none⟩ = some (.int .i64 0)) ∧ W2.frozen? ⟨b, 0, none⟩ = false ∧ W2.frozen? ⟨b, 1, none⟩ = false ∧ W2.frozen? ⟨b, 2, none⟩ = false) := ⟨⟨d0, d1, d2⟩, f0, f1, f2⟩
  have BI : Hid (Below w.heap.size w W2 ∧ w.heap.size ≤ ib) := ⟨BW.out.trans (yb.mono BW.out.size), by have := BW.out.size; have := y1.size; omega⟩
  clear hc y1 y2 yb EW b0 b1 b2 bf bl hw d0 d1 d2 f0 f1 f2 c0 k0
  go_upto_region 3 with fail
  rw [← hW2, ← hib]
  clear hW2 hib hg
  go_wp2_with fail
  go_loopw [6] (fun i wr => ∃ k : Nat, 1 ≤ k ∧ k ≤ 26 ∧ i = .int .i64 k ∧ Hid (IbX W2 ib (opB a k) 0 0 wr)) (fun i _ => 26 - (intOf i).toNat)
  case atStart => exact ⟨1, by omega, by omega, rfl, IB0⟩
  case round =>
    obtain ⟨k, hk1, hk, rfl, IB⟩ := hrel
    by_cases hlt : k < 26
    · have cg := (IB.out.2.cell (p := ⟨g, 0, none⟩) gib).trans KW.out
      have hd0 : decide ((0 : Int) < (1 : Int)) = true := decide_eq_true (by omega)
      have EO : Hid (∀ X, Below wr.heap.size wr X → Calls Tryd.prog 24 #[.int .i64 (k : Int)] X fun e w' => ∃ n t l, e = .returned (.agg #[.string ⟨(Cd.wordL.getD k []).toArray⟩, .int .i64 n, .int .i64 t, .int .i64 l]) ∧ Below wr.heap.size wr w') := fun X hX => (rOf_in k hk1 hlt X).mono fun e w' ⟨n, t, l, a, b⟩ => ⟨n, t, l, a, hX.trans (b.mono hX.size)⟩
      have OH : Hid (Cd.wordL.getD k [] = a → opB a (k + 1) = k) := opB_hit hk1 hlt
      have OM : Hid (Cd.wordL.getD k [] ≠ a → opB a (k + 1) = opB a k) := opB_miss hk1
      generalize Cd.wordL.getD k [] = x at EO OH OM
      have hfl := rowFld
      have g25 : (k : Int) ≤ 25 := by omega
      have gwr : g < wr.heap.size := Nat.lt_trans gib IB.out.cell.2.2.2.2
      by_cases he : x = a
      · have heb : (x == a) = true := by rw [he]; exact beq_self_eq_true _
        have hec : (a == x) = true := by rw [he]; exact beq_self_eq_true _
        have OK1 : Hid (opB a (k + 1) = k) := OH.out he
        clear he OH OM
        go_wp2_with fail
        go_region_held3 (fun w' => w'.cell? ⟨g, 0, none⟩ = some (.string ⟨a.toArray⟩)) (first | (exact q0) | go_keep) (first | (go_at_call 24; refine Calls.mono (EO.out _ (by go_grown)) ?_; rintro e5 w5 ⟨n5, t5, l5, rfl, b5⟩; have q0 : w5.cell? ⟨g, 0, none⟩ = some (.string ⟨a.toArray⟩) := (b5.cell (p := ⟨g, 0, none⟩) gwr).trans cg; have B5 : Hid (Below wr.heap.size wr w5) := b5; clear b5))
        all_goals
          have I5 : Hid (IbX W2 ib (opB a k) 0 0 w5) := IB.out.later B5.out
          have o0 := I5.out.cell.1
          have of0 := I5.out.cell.2.2.2.1 0
          have I6 : Hid (IbX W2 ib (opB a (k + 1)) 0 0 (w5.setCell ⟨ib, 0, none⟩ (.int .i64 (k : Int)))) := by rw [OK1.out]; exact I5.out.op k
          clear I5 B5 IB q0 cg
          go_wp2_with fail
          go_roundw
          case rel => exact ⟨k + 1, by omega, by omega, by go_num, I6.out.later ⟨rfl, rfl, rfl, Nat.le_refl _, fun _ _ => rfl⟩⟩
          case measure => simp [intOf]; omega
      · have heb : (x == a) = false := beq_eq_false_iff_ne.2 he
        have hec : (a == x) = false := beq_eq_false_iff_ne.2 (fun e => he e.symm)
        have OK1 : Hid (opB a (k + 1) = opB a k) := OM.out he
        clear he OH OM
        go_wp2_with fail
        go_region_held3 (fun w' => w'.cell? ⟨g, 0, none⟩ = some (.string ⟨a.toArray⟩)) (first | (exact q0) | go_keep) (first | (go_at_call 24; refine Calls.mono (EO.out _ (by go_grown)) ?_; rintro e5 w5 ⟨n5, t5, l5, rfl, b5⟩; have q0 : w5.cell? ⟨g, 0, none⟩ = some (.string ⟨a.toArray⟩) := (b5.cell (p := ⟨g, 0, none⟩) gwr).trans cg; have B5 : Hid (Below wr.heap.size wr w5) := b5; clear b5))
        all_goals
          have I6 : Hid (IbX W2 ib (opB a (k + 1)) 0 0 w5) := by rw [OK1.out]; exact IB.out.later B5.out
          clear B5 IB q0 cg
          go_wp2_with fail
          go_roundw
          case rel => exact ⟨k + 1, by omega, by omega, by go_num, I6.out.later ⟨rfl, rfl, rfl, Nat.le_refl _, fun _ _ => rfl⟩⟩
          case measure => simp [intOf]; omega
    · obtain rfl : k = 26 := by omega
      have IA : Hid (IbX W2 ib (Cd.opOf a : Nat) 0 0 wr) := by rw [← opB_all]; exact IB.out
      clear IB
      have BZ : Hid (Below ib W2 wr) := IA.out.2
      have o0 := IA.out.cell.1
      have o1 := IA.out.cell.2.1
      have o2 := IA.out.cell.2.2.1
      have ET : Hid (Calls Tryd.prog 11 #[inV ⟨(Cd.opOf a : Nat), 0, 0⟩] wr fun e w' => e = .returned (txE (Cd.mk sl)) ∧ Below wr.heap.size wr w') := by rw [← HMK.out]; exact rText_any (Cd.mk sl) wr (mk_ok sl)
      have RZ : Hid (pzE sl = if Cd.hl (Cd.mk sl) = true ∧ Cd.tx (Cd.mk sl) = sl then iE ⟨(Cd.opOf a : Nat), 0, 0⟩ 0 else iE ⟨0, 0, 0⟩ 61) := by rw [← HMK.out]; exact pzE_mk sl
      go_wp2_with fail
      refine Calls.mono ET.out ?_
      rintro e14 w14 ⟨rfl, y14⟩
      have I14 : Hid (IbX W2 ib (Cd.opOf a : Nat) 0 0 w14) := IA.out.later y14
      have B14 : Hid (Below w.heap.size w w14) := BI.out.1.trans (I14.out.2.mono BI.out.2)
      have d0 := (I14.out.2.cell (p := ⟨b, 0, none⟩) bib).trans KB.out.1.1
      have d1 := (I14.out.2.cell (p := ⟨b, 1, none⟩) bib).trans KB.out.1.2.1
      have d2 := (I14.out.2.cell (p := ⟨b, 2, none⟩) bib).trans KB.out.1.2.2
      have f0 := (I14.out.2.frozen (p := ⟨b, 0, none⟩) bib).trans KB.out.2.1
      have f1 := (I14.out.2.frozen (p := ⟨b, 1, none⟩) bib).trans KB.out.2.2.1
      have f2 := (I14.out.2.frozen (p := ⟨b, 2, none⟩) bib).trans KB.out.2.2.2
      have q0 := I14.out.cell.1
      have q1 := I14.out.cell.2.1
      have q2 := I14.out.cell.2.2.1
      clear o0 o1 o2 y14 ET IA
      obtain ⟨op, hop⟩ : ∃ op : Int, op = (Cd.opOf a : Nat) := ⟨_, rfl⟩
      rw [← hop] at q0 RZ
      clear hop I14
      unfold txE
      generalize Cd.hl (Cd.mk sl) = hh at RZ ⊢
      generalize Cd.tx (Cd.mk sl) = tt at RZ ⊢
      cases hh with
      | false =>
        have RY : Hid (pzE sl = iE ⟨0, 0, 0⟩ 61) := by rw [RZ.out, if_neg (by simp)]; rfl
        clear RZ
        rw [if_neg (by simp)]
        go_wp2_with fail
        refine bodyPost_ret (v := iE ⟨0, 0, 0⟩ 61) (by simp [results, Tryd.results13, go_sem, d0, d1, d2]) rfl ?_
        exact ⟨by rw [RY.out], belS (belS (belS B14.out HBX.out) HBX.out) HBX.out⟩
      | true =>
        rw [if_pos rfl]
        by_cases he : tt = sl
        · have RY : Hid (pzE sl = iE ⟨op, 0, 0⟩ 0) := by rw [RZ.out, if_pos ⟨rfl, he⟩]; rfl
          have he1 : (tt == sl) = true := by rw [he]; exact beq_self_eq_true _
          have he2 : (tt != sl) = false := by simp [bne, he1]
          clear RZ he
          go_wp2_with fail
          refine bodyPost_ret (v := iE ⟨op, 0, 0⟩ 0) (by simp [results, Tryd.results13, go_sem, d0, d1, d2]) rfl ?_
          exact ⟨by rw [RY.out], belS (belS (belS B14.out HBX.out) HBX.out) HBX.out⟩
        · have RY : Hid (pzE sl = iE ⟨0, 0, 0⟩ 61) := by rw [RZ.out, if_neg (fun h => he h.2)]; rfl
          have he1 : (tt == sl) = false := beq_eq_false_iff_ne.2 he
          have he2 : (tt != sl) = true := by simp [bne, he1]
          clear RZ he
          go_wp2_with fail
          refine bodyPost_ret (v := iE ⟨0, 0, 0⟩ 61) (by simp [results, Tryd.results13, go_sem, d0, d1, d2]) rfl ?_
          exact ⟨by rw [RY.out], belS (belS (belS B14.out HBX.out) HBX.out) HBX.out⟩
set_option maxRecDepth 100000 in
set_option maxHeartbeats 8000000 in
theorem rParse_2 (sl : List UInt8) (a : List UInt8) (c : List UInt8) (w : World) (hs : sl.length ≤ 3000) (h0 : 0 < sl.length) (hw : Pl.ws sl = [a, c]) : Calls Tryd.prog 13 #[.string ⟨sl.toArray⟩] w fun e w' => e = .returned (pzE sl) ∧ Below w.heap.size w w' := by
  have HMK : Hid (Cd.mk sl = ⟨Cd.opOf a, (Pl.parse c).getD 0, 0⟩) := by
    unfold Hid Cd.mk
    rw [if_neg (by intro e; rw [e] at h0; simp at h0), hw]
  have Hc : Hid (c.length ≤ 3000) := by
    have := ws_mem sl c (by rw [hw]; simp)
    exact (by omega : c.length ≤ 3000)
  obtain ⟨b, hbx⟩ : ∃ b, b = w.heap.size := ⟨_, rfl⟩
  obtain ⟨W, hW⟩ : ∃ W, W = w.alloc (inB ⟨0, 0, 0⟩) := ⟨_, rfl⟩
  obtain ⟨b0, b1, b2, bw⟩ := in_box w ⟨0, 0, 0⟩ b W hbx hW
  dsimp only at b0 b1 b2
  have HBX : Hid (w.heap.size ≤ b) := Nat.le_of_eq hbx.symm
  have bl : b < W.heap.size := by rw [hbx, hW]; simp
  have bf : ∀ c : Nat, W.frozen? ⟨b, c, none⟩ = false := fun c => by rw [hbx, hW]; simp [go_sem]
  have EW : Hid _ := rdWords ⟨sl.toArray⟩ W (by rw [bsz]; exact hs) (by rw [bsz]; exact h0)
  have BW : Hid (Below w.heap.size w W) := bw
  clear bw hs h0
  go_enter Tryd.func13, Tryd.ntmps13
  go_upto_region 1 with fail
  rw [← hW, ← hbx]
  clear hW hbx
  go_wp2_with fail
  refine Calls.mono EW.out ?_
  rintro e1 w1 ⟨g, cap, rfl, hg, hc, y1⟩
  rw [hw] at hc ⊢
  have c0 := hc 0 a rfl
  have c1 := hc 1 c rfl
  obtain ⟨W2, hW2⟩ : ∃ W2, W2 = w1.alloc (inB ⟨0, 0, 0⟩) := ⟨_, rfl⟩
  obtain ⟨ib, hib⟩ : ∃ ib, ib = w1.heap.size := ⟨_, rfl⟩
  have y2 : Below w1.heap.size w1 W2 := by rw [hW2]; exact (Below.refl _ _).alloc (Nat.le_refl _) _
  have gib : g < ib := by rw [hib]; exact hg
  have bib : b < ib := by rw [hib]; exact Nat.lt_of_lt_of_le bl y1.size
  have IB0 : Hid (IbX W2 ib (opB a 1) 0 0 W2) := ⟨by rw [opB_one, hW2, hib]; exact Array.getElem?_push_size, Below.refl _ _⟩
  have k0 := (y2.cell (p := ⟨g, 0, none⟩) hg).trans c0
  have k1 := (y2.cell (p := ⟨g, 1, none⟩) hg).trans c1
  have KW : Hid (W2.cell? ⟨g, 0, none⟩ = some (.string ⟨a.toArray⟩) ∧ W2.cell? ⟨g, 1, none⟩ = some (.string ⟨c.toArray⟩)) := ⟨k0, k1⟩
  have yb := y1.trans (y2.mono y1.size)
  have d0 := (yb.cell (p := ⟨b, 0, none⟩) bl).trans b0
  have d1 := (yb.cell (p := ⟨b, 1, none⟩) bl).trans b1
  have d2 := (yb.cell (p := ⟨b, 2, none⟩) bl).trans b2
  have f0 := (yb.frozen (p := ⟨b, 0, none⟩) bl).trans (bf 0)
  have f1 := (yb.frozen (p := ⟨b, 1, none⟩) bl).trans (bf 1)
  have f2 := (yb.frozen (p := ⟨b, 2, none⟩) bl).trans (bf 2)
  have KB : Hid ((W2.cell? ⟨b, 0, none⟩ = some (.int .i64 0) ∧ W2.cell? ⟨b, 1, none⟩ = some (.int .i64 0) ∧ W2.cell? ⟨b, 2, none⟩ = some (.int .i64 0)) ∧ W2.frozen? ⟨b, 0, none⟩ = false ∧ W2.frozen? ⟨b, 1, none⟩ = false ∧ W2.frozen? ⟨b, 2, none⟩ = false) := ⟨⟨d0, d1, d2⟩, f0, f1, f2⟩
  have BI : Hid (Below w.heap.size w W2 ∧ w.heap.size ≤ ib) := ⟨BW.out.trans (yb.mono BW.out.size), by have := BW.out.size; have := y1.size; omega⟩
  clear hc y1 y2 yb EW b0 b1 b2 bf bl hw d0 d1 d2 f0 f1 f2 c0 c1 k0 k1
  go_upto_region 3 with fail
  rw [← hW2, ← hib]
  clear hW2 hib hg
  go_wp2_with fail
  go_loopw [6] (fun i wr => ∃ k : Nat, 1 ≤ k ∧ k ≤ 26 ∧ i = .int .i64 k ∧ Hid (IbX W2 ib (opB a k) 0 0 wr)) (fun i _ => 26 - (intOf i).toNat)
  case atStart => exact ⟨1, by omega, by omega, rfl, IB0⟩
  case round =>
    obtain ⟨k, hk1, hk, rfl, IB⟩ := hrel
    by_cases hlt : k < 26
    · have cg := (IB.out.2.cell (p := ⟨g, 0, none⟩) gib).trans KW.out.1
      have hd0 : decide ((0 : Int) < (2 : Int)) = true := decide_eq_true (by omega)
      have EO : Hid (∀ X, Below wr.heap.size wr X → Calls Tryd.prog 24 #[.int .i64 (k : Int)] X fun e w' => ∃ n t l, e = .returned (.agg #[.string ⟨(Cd.wordL.getD k []).toArray⟩, .int .i64 n, .int .i64 t, .int .i64 l]) ∧ Below wr.heap.size wr w') := fun X hX => (rOf_in k hk1 hlt X).mono fun e w' ⟨n, t, l, a, b⟩ => ⟨n, t, l, a, hX.trans (b.mono hX.size)⟩
      have OH : Hid (Cd.wordL.getD k [] = a → opB a (k + 1) = k) := opB_hit hk1 hlt
      have OM : Hid (Cd.wordL.getD k [] ≠ a → opB a (k + 1) = opB a k) := opB_miss hk1
      generalize Cd.wordL.getD k [] = x at EO OH OM
      have hfl := rowFld
      have g25 : (k : Int) ≤ 25 := by omega
      have gwr : g < wr.heap.size := Nat.lt_trans gib IB.out.cell.2.2.2.2
      by_cases he : x = a
      · have heb : (x == a) = true := by rw [he]; exact beq_self_eq_true _
        have hec : (a == x) = true := by rw [he]; exact beq_self_eq_true _
        have OK1 : Hid (opB a (k + 1) = k) := OH.out he
        clear he OH OM
        go_wp2_with fail
        go_region_held3 (fun w' => w'.cell? ⟨g, 0, none⟩ = some (.string ⟨a.toArray⟩)) (first | (exact q0) | go_keep) (first | (go_at_call 24; refine Calls.mono (EO.out _ (by go_grown)) ?_; rintro e5 w5 ⟨n5, t5, l5, rfl, b5⟩; have q0 : w5.cell? ⟨g, 0, none⟩ = some (.string ⟨a.toArray⟩) := (b5.cell (p := ⟨g, 0, none⟩) gwr).trans cg; have B5 : Hid (Below wr.heap.size wr w5) := b5; clear b5))
        all_goals
          have I5 : Hid (IbX W2 ib (opB a k) 0 0 w5) := IB.out.later B5.out
          have o0 := I5.out.cell.1
          have of0 := I5.out.cell.2.2.2.1 0
          have I6 : Hid (IbX W2 ib (opB a (k + 1)) 0 0 (w5.setCell ⟨ib, 0, none⟩ (.int .i64 (k : Int)))) := by rw [OK1.out]; exact I5.out.op k
          clear I5 B5 IB q0 cg
          go_wp2_with fail
          go_roundw
          case rel => exact ⟨k + 1, by omega, by omega, by go_num, I6.out.later ⟨rfl, rfl, rfl, Nat.le_refl _, fun _ _ => rfl⟩⟩
          case measure => simp [intOf]; omega
      · have heb : (x == a) = false := beq_eq_false_iff_ne.2 he
        have hec : (a == x) = false := beq_eq_false_iff_ne.2 (fun e => he e.symm)
        have OK1 : Hid (opB a (k + 1) = opB a k) := OM.out he
        clear he OH OM
        go_wp2_with fail
        go_region_held3 (fun w' => w'.cell? ⟨g, 0, none⟩ = some (.string ⟨a.toArray⟩)) (first | (exact q0) | go_keep) (first | (go_at_call 24; refine Calls.mono (EO.out _ (by go_grown)) ?_; rintro e5 w5 ⟨n5, t5, l5, rfl, b5⟩; have q0 : w5.cell? ⟨g, 0, none⟩ = some (.string ⟨a.toArray⟩) := (b5.cell (p := ⟨g, 0, none⟩) gwr).trans cg; have B5 : Hid (Below wr.heap.size wr w5) := b5; clear b5))
        all_goals
          have I6 : Hid (IbX W2 ib (opB a (k + 1)) 0 0 w5) := by rw [OK1.out]; exact IB.out.later B5.out
          clear B5 IB q0 cg
          go_wp2_with fail
          go_roundw
          case rel => exact ⟨k + 1, by omega, by omega, by go_num, I6.out.later ⟨rfl, rfl, rfl, Nat.le_refl _, fun _ _ => rfl⟩⟩
          case measure => simp [intOf]; omega
    · obtain rfl : k = 26 := by omega
      have IA : Hid (IbX W2 ib (Cd.opOf a : Nat) 0 0 wr) := by rw [← opB_all]; exact IB.out
      clear IB
      have BZ : Hid (Below ib W2 wr) := IA.out.2
      have cg0 := (IA.out.2.cell (p := ⟨g, 1, none⟩) gib).trans KW.out.2
      have EP0 : Hid _ := rparse_any ⟨c.toArray⟩ wr (by rw [bsz]; have := Hc.out; omega)
      go_wp2_with fail
      refine Calls.mono EP0.out ?_
      rintro e9 w9 ⟨rfl, y9⟩
      have IP0 : Hid (IbX W2 ib (Cd.opOf a : Nat) 0 0 w9) := IA.out.later y9
      have p0 := IP0.out.cell.2.1
      have pf0 := IP0.out.cell.2.2.2.1 1
      obtain ⟨v0, hv0⟩ : ∃ v, v = ((Pl.parse c).getD 0) := ⟨_, rfl⟩
      have IQ0 : Hid (IbX W2 ib (Cd.opOf a : Nat) v0 0 (w9.setCell ⟨ib, 1, none⟩ (.int .i64 v0))) := IP0.out.n v0
      dsimp only
      rw [← hv0]
      have HV0 : Hid (v0 = ((Pl.parse c).getD 0)) := hv0
      clear y9 EP0 cg0 hv0
      go_upto_region 11 with fail
      obtain ⟨X0, hX0⟩ : ∃ X, X = w9.setCell ⟨ib, 1, none⟩ (.int .i64 v0) := ⟨_, rfl⟩
      rw [← hX0] at IQ0 ⊢
      clear hX0 p0 pf0 IP0
      rw [← HV0.out] at HMK
      have o0 := IQ0.out.cell.1
      have o1 := IQ0.out.cell.2.1
      have o2 := IQ0.out.cell.2.2.1
      have ET : Hid (Calls Tryd.prog 11 #[inV ⟨(Cd.opOf a : Nat), v0, 0⟩] X0 fun e w' => e = .returned (txE (Cd.mk sl)) ∧ Below X0.heap.size X0 w') := by rw [← HMK.out]; exact rText_any (Cd.mk sl) X0 (mk_ok sl)
      have RZ : Hid (pzE sl = if Cd.hl (Cd.mk sl) = true ∧ Cd.tx (Cd.mk sl) = sl then iE ⟨(Cd.opOf a : Nat), v0, 0⟩ 0 else iE ⟨0, 0, 0⟩ 61) := by rw [← HMK.out]; exact pzE_mk sl
      go_wp2_with fail
      refine Calls.mono ET.out ?_
      rintro e14 w14 ⟨rfl, y14⟩
      have I14 : Hid (IbX W2 ib (Cd.opOf a : Nat) v0 0 w14) := IQ0.out.later y14
      have B14 : Hid (Below w.heap.size w w14) := BI.out.1.trans (I14.out.2.mono BI.out.2)
      have d0 := (I14.out.2.cell (p := ⟨b, 0, none⟩) bib).trans KB.out.1.1
      have d1 := (I14.out.2.cell (p := ⟨b, 1, none⟩) bib).trans KB.out.1.2.1
      have d2 := (I14.out.2.cell (p := ⟨b, 2, none⟩) bib).trans KB.out.1.2.2
      have f0 := (I14.out.2.frozen (p := ⟨b, 0, none⟩) bib).trans KB.out.2.1
      have f1 := (I14.out.2.frozen (p := ⟨b, 1, none⟩) bib).trans KB.out.2.2.1
      have f2 := (I14.out.2.frozen (p := ⟨b, 2, none⟩) bib).trans KB.out.2.2.2
      have q0 := I14.out.cell.1
      have q1 := I14.out.cell.2.1
      have q2 := I14.out.cell.2.2.1
      clear o0 o1 o2 y14 ET IA
      obtain ⟨op, hop⟩ : ∃ op : Int, op = (Cd.opOf a : Nat) := ⟨_, rfl⟩
      rw [← hop] at q0 RZ
      clear hop I14
      unfold txE
      generalize Cd.hl (Cd.mk sl) = hh at RZ ⊢
      generalize Cd.tx (Cd.mk sl) = tt at RZ ⊢
      cases hh with
      | false =>
        have RY : Hid (pzE sl = iE ⟨0, 0, 0⟩ 61) := by rw [RZ.out, if_neg (by simp)]; rfl
        clear RZ
        rw [if_neg (by simp)]
        go_wp2_with fail
        refine bodyPost_ret (v := iE ⟨0, 0, 0⟩ 61) (by simp [results, Tryd.results13, go_sem, d0, d1, d2]) rfl ?_
        exact ⟨by rw [RY.out], belS (belS (belS B14.out HBX.out) HBX.out) HBX.out⟩
      | true =>
        rw [if_pos rfl]
        by_cases he : tt = sl
        · have RY : Hid (pzE sl = iE ⟨op, v0, 0⟩ 0) := by rw [RZ.out, if_pos ⟨rfl, he⟩]; rfl
          have he1 : (tt == sl) = true := by rw [he]; exact beq_self_eq_true _
          have he2 : (tt != sl) = false := by simp [bne, he1]
          clear RZ he
          go_wp2_with fail
          refine bodyPost_ret (v := iE ⟨op, v0, 0⟩ 0) (by simp [results, Tryd.results13, go_sem, d0, d1, d2]) rfl ?_
          exact ⟨by rw [RY.out], belS (belS (belS B14.out HBX.out) HBX.out) HBX.out⟩
        · have RY : Hid (pzE sl = iE ⟨0, 0, 0⟩ 61) := by rw [RZ.out, if_neg (fun h => he h.2)]; rfl
          have he1 : (tt == sl) = false := beq_eq_false_iff_ne.2 he
          have he2 : (tt != sl) = true := by simp [bne, he1]
          clear RZ he
          go_wp2_with fail
          refine bodyPost_ret (v := iE ⟨0, 0, 0⟩ 61) (by simp [results, Tryd.results13, go_sem, d0, d1, d2]) rfl ?_
          exact ⟨by rw [RY.out], belS (belS (belS B14.out HBX.out) HBX.out) HBX.out⟩
set_option maxRecDepth 100000 in
set_option maxHeartbeats 8000000 in
theorem rParse_N (sl : List UInt8) (a : List UInt8) (c : List UInt8) (d : List UInt8) (r : List (List UInt8)) (w : World) (hs : sl.length ≤ 3000) (h0 : 0 < sl.length) (hw : Pl.ws sl = a :: c :: d :: r) : Calls Tryd.prog 13 #[.string ⟨sl.toArray⟩] w fun e w' => e = .returned (pzE sl) ∧ Below w.heap.size w w' := by
  have HMK : Hid (Cd.mk sl = ⟨Cd.opOf a, (Pl.parse c).getD 0, (Pl.parse d).getD 0⟩) := by
    unfold Hid Cd.mk
    rw [if_neg (by intro e; rw [e] at h0; simp at h0), hw]
  have Hc : Hid (c.length ≤ 3000) := by
    have := ws_mem sl c (by rw [hw]; simp)
    exact (by omega : c.length ≤ 3000)
  have Hd : Hid (d.length ≤ 3000) := by
    have := ws_mem sl d (by rw [hw]; simp)
    exact (by omega : d.length ≤ 3000)
  obtain ⟨N, hN⟩ : ∃ N, N = (a :: c :: d :: r).length := ⟨_, rfl⟩
  have hN3 : 3 ≤ N := by rw [hN]; simp
  have i1 : (1 : Int) < (N : Int) := by omega
  have i2 : (2 : Int) < (N : Int) := by omega
  have i0 : (0 : Int) < (N : Int) := by omega
  have n0 : 0 < N := by omega
  have n1 : 1 < N := by omega
  have n2 : 2 < N := by omega
  have dn0 : decide (0 < N) = true := decide_eq_true n0
  obtain ⟨b, hbx⟩ : ∃ b, b = w.heap.size := ⟨_, rfl⟩
  obtain ⟨W, hW⟩ : ∃ W, W = w.alloc (inB ⟨0, 0, 0⟩) := ⟨_, rfl⟩
  obtain ⟨b0, b1, b2, bw⟩ := in_box w ⟨0, 0, 0⟩ b W hbx hW
  dsimp only at b0 b1 b2
  have HBX : Hid (w.heap.size ≤ b) := Nat.le_of_eq hbx.symm
  have bl : b < W.heap.size := by rw [hbx, hW]; simp
  have bf : ∀ c : Nat, W.frozen? ⟨b, c, none⟩ = false := fun c => by rw [hbx, hW]; simp [go_sem]
  have EW : Hid _ := rdWords ⟨sl.toArray⟩ W (by rw [bsz]; exact hs) (by rw [bsz]; exact h0)
  have BW : Hid (Below w.heap.size w W) := bw
  clear bw hs h0
  go_enter Tryd.func13, Tryd.ntmps13
  go_upto_region 1 with fail
  rw [← hW, ← hbx]
  clear hW hbx
  go_wp2_with fail
  refine Calls.mono EW.out ?_
  rintro e1 w1 ⟨g, cap, rfl, hg, hc, y1⟩
  rw [hw] at hc ⊢
  rw [← hN]
  have c0 := hc 0 a rfl
  have c1 := hc 1 c rfl
  have c2 := hc 2 d rfl
  obtain ⟨W2, hW2⟩ : ∃ W2, W2 = w1.alloc (inB ⟨0, 0, 0⟩) := ⟨_, rfl⟩
  obtain ⟨ib, hib⟩ : ∃ ib, ib = w1.heap.size := ⟨_, rfl⟩
  have y2 : Below w1.heap.size w1 W2 := by rw [hW2]; exact (Below.refl _ _).alloc (Nat.le_refl _) _
  have gib : g < ib := by rw [hib]; exact hg
  have bib : b < ib := by rw [hib]; exact Nat.lt_of_lt_of_le bl y1.size
  have IB0 : Hid (IbX W2 ib (opB a 1) 0 0 W2) := ⟨by rw [opB_one, hW2, hib]; exact Array.getElem?_push_size, Below.refl _ _⟩
  have k0 := (y2.cell (p := ⟨g, 0, none⟩) hg).trans c0
  have k1 := (y2.cell (p := ⟨g, 1, none⟩) hg).trans c1
  have k2 := (y2.cell (p := ⟨g, 2, none⟩) hg).trans c2
  have KW : Hid (W2.cell? ⟨g, 0, none⟩ = some (.string ⟨a.toArray⟩) ∧ W2.cell? ⟨g, 1, none⟩ = some (.string ⟨c.toArray⟩) ∧ W2.cell? ⟨g, 2, none⟩ = some (.string ⟨d.toArray⟩)) := ⟨k0, k1, k2⟩
  have yb := y1.trans (y2.mono y1.size)
  have d0 := (yb.cell (p := ⟨b, 0, none⟩) bl).trans b0
  have d1 := (yb.cell (p := ⟨b, 1, none⟩) bl).trans b1
  have d2 := (yb.cell (p := ⟨b, 2, none⟩) bl).trans b2
  have f0 := (yb.frozen (p := ⟨b, 0, none⟩) bl).trans (bf 0)
  have f1 := (yb.frozen (p := ⟨b, 1, none⟩) bl).trans (bf 1)
  have f2 := (yb.frozen (p := ⟨b, 2, none⟩) bl).trans (bf 2)
  have KB : Hid ((W2.cell? ⟨b, 0, none⟩ = some (.int .i64 0) ∧ W2.cell? ⟨b, 1, none⟩ = some (.int .i64 0) ∧ W2.cell? ⟨b, 2, none⟩ = some (.int .i64 0)) ∧ W2.frozen? ⟨b, 0, none⟩ = false ∧ W2.frozen? ⟨b, 1, none⟩ = false ∧ W2.frozen? ⟨b, 2, none⟩ = false) := ⟨⟨d0, d1, d2⟩, f0, f1, f2⟩
  have BI : Hid (Below w.heap.size w W2 ∧ w.heap.size ≤ ib) := ⟨BW.out.trans (yb.mono BW.out.size), by have := BW.out.size; have := y1.size; omega⟩
  clear hc y1 y2 yb EW b0 b1 b2 bf bl hw d0 d1 d2 f0 f1 f2 c0 c1 c2 k0 k1 k2 hN
  go_upto_region 3 with fail
  rw [← hW2, ← hib]
  clear hW2 hib hg
  go_wp2_with fail
  go_loopw [6] (fun i wr => ∃ k : Nat, 1 ≤ k ∧ k ≤ 26 ∧ i = .int .i64 k ∧ Hid (IbX W2 ib (opB a k) 0 0 wr)) (fun i _ => 26 - (intOf i).toNat)
  case atStart => exact ⟨1, by omega, by omega, rfl, IB0⟩
  case round =>
    obtain ⟨k, hk1, hk, rfl, IB⟩ := hrel
    by_cases hlt : k < 26
    · have cg := (IB.out.2.cell (p := ⟨g, 0, none⟩) gib).trans KW.out.1
      have hd0 : decide ((0 : Int) < (N : Int)) = true := decide_eq_true (by omega)
      have EO : Hid (∀ X, Below wr.heap.size wr X → Calls Tryd.prog 24 #[.int .i64 (k : Int)] X fun e w' => ∃ n t l, e = .returned (.agg #[.string ⟨(Cd.wordL.getD k []).toArray⟩, .int .i64 n, .int .i64 t, .int .i64 l]) ∧ Below wr.heap.size wr w') := fun X hX => (rOf_in k hk1 hlt X).mono fun e w' ⟨n, t, l, a, b⟩ => ⟨n, t, l, a, hX.trans (b.mono hX.size)⟩
      have OH : Hid (Cd.wordL.getD k [] = a → opB a (k + 1) = k) := opB_hit hk1 hlt
      have OM : Hid (Cd.wordL.getD k [] ≠ a → opB a (k + 1) = opB a k) := opB_miss hk1
      generalize Cd.wordL.getD k [] = x at EO OH OM
      have hfl := rowFld
      have g25 : (k : Int) ≤ 25 := by omega
      have gwr : g < wr.heap.size := Nat.lt_trans gib IB.out.cell.2.2.2.2
      by_cases he : x = a
      · have heb : (x == a) = true := by rw [he]; exact beq_self_eq_true _
        have hec : (a == x) = true := by rw [he]; exact beq_self_eq_true _
        have OK1 : Hid (opB a (k + 1) = k) := OH.out he
        clear he OH OM
        go_wp2_with fail
        go_region_held3 (fun w' => w'.cell? ⟨g, 0, none⟩ = some (.string ⟨a.toArray⟩)) (first | (exact q0) | go_keep) (first | (go_at_call 24; refine Calls.mono (EO.out _ (by go_grown)) ?_; rintro e5 w5 ⟨n5, t5, l5, rfl, b5⟩; have q0 : w5.cell? ⟨g, 0, none⟩ = some (.string ⟨a.toArray⟩) := (b5.cell (p := ⟨g, 0, none⟩) gwr).trans cg; have B5 : Hid (Below wr.heap.size wr w5) := b5; clear b5))
        all_goals
          have I5 : Hid (IbX W2 ib (opB a k) 0 0 w5) := IB.out.later B5.out
          have o0 := I5.out.cell.1
          have of0 := I5.out.cell.2.2.2.1 0
          have I6 : Hid (IbX W2 ib (opB a (k + 1)) 0 0 (w5.setCell ⟨ib, 0, none⟩ (.int .i64 (k : Int)))) := by rw [OK1.out]; exact I5.out.op k
          clear I5 B5 IB q0 cg
          go_wp2_with fail
          go_roundw
          case rel => exact ⟨k + 1, by omega, by omega, by go_num, I6.out.later ⟨rfl, rfl, rfl, Nat.le_refl _, fun _ _ => rfl⟩⟩
          case measure => simp [intOf]; omega
      · have heb : (x == a) = false := beq_eq_false_iff_ne.2 he
        have hec : (a == x) = false := beq_eq_false_iff_ne.2 (fun e => he e.symm)
        have OK1 : Hid (opB a (k + 1) = opB a k) := OM.out he
        clear he OH OM
        go_wp2_with fail
        go_region_held3 (fun w' => w'.cell? ⟨g, 0, none⟩ = some (.string ⟨a.toArray⟩)) (first | (exact q0) | go_keep) (first | (go_at_call 24; refine Calls.mono (EO.out _ (by go_grown)) ?_; rintro e5 w5 ⟨n5, t5, l5, rfl, b5⟩; have q0 : w5.cell? ⟨g, 0, none⟩ = some (.string ⟨a.toArray⟩) := (b5.cell (p := ⟨g, 0, none⟩) gwr).trans cg; have B5 : Hid (Below wr.heap.size wr w5) := b5; clear b5))
        all_goals
          have I6 : Hid (IbX W2 ib (opB a (k + 1)) 0 0 w5) := by rw [OK1.out]; exact IB.out.later B5.out
          clear B5 IB q0 cg
          go_wp2_with fail
          go_roundw
          case rel => exact ⟨k + 1, by omega, by omega, by go_num, I6.out.later ⟨rfl, rfl, rfl, Nat.le_refl _, fun _ _ => rfl⟩⟩
          case measure => simp [intOf]; omega
    · obtain rfl : k = 26 := by omega
      have IA : Hid (IbX W2 ib (Cd.opOf a : Nat) 0 0 wr) := by rw [← opB_all]; exact IB.out
      clear IB
      have BZ : Hid (Below ib W2 wr) := IA.out.2
      have cg0 := (IA.out.2.cell (p := ⟨g, 1, none⟩) gib).trans KW.out.2.1
      have EP0 : Hid _ := rparse_any ⟨c.toArray⟩ wr (by rw [bsz]; have := Hc.out; omega)
      go_wp2_with fail
      refine Calls.mono EP0.out ?_
      rintro e9 w9 ⟨rfl, y9⟩
      have IP0 : Hid (IbX W2 ib (Cd.opOf a : Nat) 0 0 w9) := IA.out.later y9
      have p0 := IP0.out.cell.2.1
      have pf0 := IP0.out.cell.2.2.2.1 1
      obtain ⟨v0, hv0⟩ : ∃ v, v = ((Pl.parse c).getD 0) := ⟨_, rfl⟩
      have IQ0 : Hid (IbX W2 ib (Cd.opOf a : Nat) v0 0 (w9.setCell ⟨ib, 1, none⟩ (.int .i64 v0))) := IP0.out.n v0
      dsimp only
      rw [← hv0]
      have HV0 : Hid (v0 = ((Pl.parse c).getD 0)) := hv0
      clear y9 EP0 cg0 hv0
      go_upto_region 11 with fail
      obtain ⟨X0, hX0⟩ : ∃ X, X = w9.setCell ⟨ib, 1, none⟩ (.int .i64 v0) := ⟨_, rfl⟩
      rw [← hX0] at IQ0 ⊢
      clear hX0 p0 pf0 IP0
      have cg1 := (IQ0.out.2.cell (p := ⟨g, 2, none⟩) gib).trans KW.out.2.2
      have EP1 : Hid _ := rparse_any ⟨d.toArray⟩ X0 (by rw [bsz]; have := Hd.out; omega)
      go_wp2_with fail
      refine Calls.mono EP1.out ?_
      rintro e10 w10 ⟨rfl, y10⟩
      have IP1 : Hid (IbX W2 ib (Cd.opOf a : Nat) v0 0 w10) := IQ0.out.later y10
      have p1 := IP1.out.cell.2.2.1
      have pf1 := IP1.out.cell.2.2.2.1 2
      obtain ⟨v1, hv1⟩ : ∃ v, v = ((Pl.parse d).getD 0) := ⟨_, rfl⟩
      have IQ1 : Hid (IbX W2 ib (Cd.opOf a : Nat) v0 v1 (w10.setCell ⟨ib, 2, none⟩ (.int .i64 v1))) := IP1.out.m v1
      dsimp only
      rw [← hv1]
      have HV1 : Hid (v1 = ((Pl.parse d).getD 0)) := hv1
      clear y10 EP1 cg1 hv1
      go_upto_region 14 with fail
      obtain ⟨X1, hX1⟩ : ∃ X, X = w10.setCell ⟨ib, 2, none⟩ (.int .i64 v1) := ⟨_, rfl⟩
      rw [← hX1] at IQ1 ⊢
      clear hX1 p1 pf1 IP1
      rw [← HV0.out, ← HV1.out] at HMK
      have o0 := IQ1.out.cell.1
      have o1 := IQ1.out.cell.2.1
      have o2 := IQ1.out.cell.2.2.1
      have ET : Hid (Calls Tryd.prog 11 #[inV ⟨(Cd.opOf a : Nat), v0, v1⟩] X1 fun e w' => e = .returned (txE (Cd.mk sl)) ∧ Below X1.heap.size X1 w') := by rw [← HMK.out]; exact rText_any (Cd.mk sl) X1 (mk_ok sl)
      have RZ : Hid (pzE sl = if Cd.hl (Cd.mk sl) = true ∧ Cd.tx (Cd.mk sl) = sl then iE ⟨(Cd.opOf a : Nat), v0, v1⟩ 0 else iE ⟨0, 0, 0⟩ 61) := by rw [← HMK.out]; exact pzE_mk sl
      go_wp2_with fail
      refine Calls.mono ET.out ?_
      rintro e14 w14 ⟨rfl, y14⟩
      have I14 : Hid (IbX W2 ib (Cd.opOf a : Nat) v0 v1 w14) := IQ1.out.later y14
      have B14 : Hid (Below w.heap.size w w14) := BI.out.1.trans (I14.out.2.mono BI.out.2)
      have d0 := (I14.out.2.cell (p := ⟨b, 0, none⟩) bib).trans KB.out.1.1
      have d1 := (I14.out.2.cell (p := ⟨b, 1, none⟩) bib).trans KB.out.1.2.1
      have d2 := (I14.out.2.cell (p := ⟨b, 2, none⟩) bib).trans KB.out.1.2.2
      have f0 := (I14.out.2.frozen (p := ⟨b, 0, none⟩) bib).trans KB.out.2.1
      have f1 := (I14.out.2.frozen (p := ⟨b, 1, none⟩) bib).trans KB.out.2.2.1
      have f2 := (I14.out.2.frozen (p := ⟨b, 2, none⟩) bib).trans KB.out.2.2.2
      have q0 := I14.out.cell.1
      have q1 := I14.out.cell.2.1
      have q2 := I14.out.cell.2.2.1
      clear o0 o1 o2 y14 ET IA
      obtain ⟨op, hop⟩ : ∃ op : Int, op = (Cd.opOf a : Nat) := ⟨_, rfl⟩
      rw [← hop] at q0 RZ
      clear hop I14
      unfold txE
      generalize Cd.hl (Cd.mk sl) = hh at RZ ⊢
      generalize Cd.tx (Cd.mk sl) = tt at RZ ⊢
      cases hh with
      | false =>
        have RY : Hid (pzE sl = iE ⟨0, 0, 0⟩ 61) := by rw [RZ.out, if_neg (by simp)]; rfl
        clear RZ
        rw [if_neg (by simp)]
        go_wp2_with fail
        refine bodyPost_ret (v := iE ⟨0, 0, 0⟩ 61) (by simp [results, Tryd.results13, go_sem, d0, d1, d2]) rfl ?_
        exact ⟨by rw [RY.out], belS (belS (belS B14.out HBX.out) HBX.out) HBX.out⟩
      | true =>
        rw [if_pos rfl]
        by_cases he : tt = sl
        · have RY : Hid (pzE sl = iE ⟨op, v0, v1⟩ 0) := by rw [RZ.out, if_pos ⟨rfl, he⟩]; rfl
          have he1 : (tt == sl) = true := by rw [he]; exact beq_self_eq_true _
          have he2 : (tt != sl) = false := by simp [bne, he1]
          clear RZ he
          go_wp2_with fail
          refine bodyPost_ret (v := iE ⟨op, v0, v1⟩ 0) (by simp [results, Tryd.results13, go_sem, d0, d1, d2]) rfl ?_
          exact ⟨by rw [RY.out], belS (belS (belS B14.out HBX.out) HBX.out) HBX.out⟩
        · have RY : Hid (pzE sl = iE ⟨0, 0, 0⟩ 61) := by rw [RZ.out, if_neg (fun h => he h.2)]; rfl
          have he1 : (tt == sl) = false := beq_eq_false_iff_ne.2 he
          have he2 : (tt != sl) = true := by simp [bne, he1]
          clear RZ he
          go_wp2_with fail
          refine bodyPost_ret (v := iE ⟨0, 0, 0⟩ 61) (by simp [results, Tryd.results13, go_sem, d0, d1, d2]) rfl ?_
          exact ⟨by rw [RY.out], belS (belS (belS B14.out HBX.out) HBX.out) HBX.out⟩
set_option maxRecDepth 100000 in
set_option maxHeartbeats 8000000 in
theorem rParse_empty (s : ByteArray) (w : World) (h0 : s.size = 0) : Calls Tryd.prog 13 #[.string s] w fun e w' => e = .returned (pzE s.data.toList) ∧ Below w.heap.size w w' := by
  have hz : Cd.pz s.data.toList = none := by
    have : s.data.toList = [] := by rw [← List.length_eq_zero_iff, Array.length_toList, ByteArray.size_data]; exact h0
    rw [this]
    unfold Cd.pz
    rw [if_pos rfl]
  rw [pzE_no hz]
  have EW : Hid (∀ W, Calls Tryd.prog 29 #[.string s] W fun e w' => e = .returned (.slice none 0 0) ∧ w' = W) := fun W => rwords_none s W h0
  have ET : Hid (∀ W, Calls Tryd.prog 11 #[.agg #[.int .i64 0, .int .i64 0, .int .i64 0]] W fun e w' => e = .returned (sE [] 61) ∧ Below W.heap.size W w') := fun W => by
    have := rText_any ⟨0, 0, 0⟩ W ⟨⟨by decide, by decide⟩, ⟨by decide, by decide⟩, by decide, by decide⟩
    exact this
  obtain ⟨b, hbx⟩ : ∃ b, b = w.heap.size := ⟨_, rfl⟩
  obtain ⟨W, hW⟩ : ∃ W, W = w.alloc (inB ⟨0, 0, 0⟩) := ⟨_, rfl⟩
  obtain ⟨b0, b1, b2, bw⟩ := in_box w ⟨0, 0, 0⟩ b W hbx hW
  dsimp only at b0 b1 b2
  have HBX : Hid (w.heap.size ≤ b) := Nat.le_of_eq hbx.symm
  have bl : b < W.heap.size := by rw [hbx, hW]; simp
  have bf : ∀ c : Nat, W.frozen? ⟨b, c, none⟩ = false := fun c => by rw [hbx, hW]; simp [go_sem]
  have BW : Hid (Below w.heap.size w W) := bw
  clear bw h0 hz
  go_enter Tryd.func13, Tryd.ntmps13
  go_upto_region 1 with fail
  rw [← hW, ← hbx]
  clear hW hbx
  go_wp2_with fail
  refine Calls.mono (EW.out _) ?_
  rintro e1 w1 ⟨rfl, rfl⟩
  obtain ⟨W2, hW2⟩ : ∃ W2, W2 = w1.alloc (inB ⟨0, 0, 0⟩) := ⟨_, rfl⟩
  obtain ⟨ib, hib⟩ : ∃ ib, ib = w1.heap.size := ⟨_, rfl⟩
  have y2 : Below w1.heap.size w1 W2 := by rw [hW2]; exact (Below.refl _ _).alloc (Nat.le_refl _) _
  have bib : b < ib := by rw [hib]; exact bl
  have IB0 : Hid (IbX W2 ib 0 0 0 W2) := ⟨by rw [hW2, hib]; exact Array.getElem?_push_size, Below.refl _ _⟩
  have d0 := (y2.cell (p := ⟨b, 0, none⟩) bl).trans b0
  have d1 := (y2.cell (p := ⟨b, 1, none⟩) bl).trans b1
  have d2 := (y2.cell (p := ⟨b, 2, none⟩) bl).trans b2
  have f0 := (y2.frozen (p := ⟨b, 0, none⟩) bl).trans (bf 0)
  have f1 := (y2.frozen (p := ⟨b, 1, none⟩) bl).trans (bf 1)
  have f2 := (y2.frozen (p := ⟨b, 2, none⟩) bl).trans (bf 2)
  have KB : Hid ((W2.cell? ⟨b, 0, none⟩ = some (.int .i64 0) ∧ W2.cell? ⟨b, 1, none⟩ = some (.int .i64 0) ∧ W2.cell? ⟨b, 2, none⟩ = some (.int .i64 0)) ∧ W2.frozen? ⟨b, 0, none⟩ = false ∧ W2.frozen? ⟨b, 1, none⟩ = false ∧ W2.frozen? ⟨b, 2, none⟩ = false) := ⟨⟨d0, d1, d2⟩, f0, f1, f2⟩
  have BI : Hid (Below w.heap.size w W2 ∧ w.heap.size ≤ ib) := ⟨BW.out.trans (y2.mono BW.out.size), by have := BW.out.size; omega⟩
  clear y2 EW b0 b1 b2 bf bl d0 d1 d2 f0 f1 f2
  go_upto_region 3 with fail
  rw [← hW2, ← hib]
  clear hW2 hib
  go_wp2_with fail
  go_loopw [6] (fun i wr => ∃ k : Nat, 1 ≤ k ∧ k ≤ 26 ∧ i = .int .i64 k ∧ Hid (IbX W2 ib 0 0 0 wr)) (fun i _ => 26 - (intOf i).toNat)
  case atStart => exact ⟨1, by omega, by omega, rfl, IB0⟩
  case round =>
    obtain ⟨k, hk1, hk, rfl, IB⟩ := hrel
    by_cases hlt : k < 26
    · have g25 : (k : Int) ≤ 25 := by omega
      go_wp2_with fail
      go_quiet (fail)
      all_goals
        go_wp2_with fail
        go_roundw
        case rel => exact ⟨k + 1, by omega, by omega, by go_num, IB.out.later ⟨rfl, rfl, rfl, Nat.le_refl _, fun _ _ => rfl⟩⟩
        case measure => simp [intOf]; omega
    · obtain rfl : k = 26 := by omega
      have o0 := IB.out.cell.1
      have o1 := IB.out.cell.2.1
      have o2 := IB.out.cell.2.2.1
      go_wp2_with fail
      refine Calls.mono (ET.out _) ?_
      rintro e14 w14 ⟨rfl, y14⟩
      have I14 : Hid (IbX W2 ib 0 0 0 w14) := IB.out.later y14
      have B14 : Hid (Below w.heap.size w w14) := BI.out.1.trans (I14.out.2.mono BI.out.2)
      have d0 := (I14.out.2.cell (p := ⟨b, 0, none⟩) bib).trans KB.out.1.1
      have d1 := (I14.out.2.cell (p := ⟨b, 1, none⟩) bib).trans KB.out.1.2.1
      have d2 := (I14.out.2.cell (p := ⟨b, 2, none⟩) bib).trans KB.out.1.2.2
      have f0 := (I14.out.2.frozen (p := ⟨b, 0, none⟩) bib).trans KB.out.2.1
      have f1 := (I14.out.2.frozen (p := ⟨b, 1, none⟩) bib).trans KB.out.2.2.1
      have f2 := (I14.out.2.frozen (p := ⟨b, 2, none⟩) bib).trans KB.out.2.2.2
      clear o0 o1 o2 y14 ET IB I14
      go_wp2_with fail
      refine bodyPost_ret (v := iE ⟨0, 0, 0⟩ 61) (by simp [results, Tryd.results13, go_sem, d0, d1, d2]) rfl ?_
      exact ⟨rfl, belS (belS (belS B14.out HBX.out) HBX.out) HBX.out⟩
/-- The document's instruction of every line of at most 3000 bytes. -/
theorem rParse_any (s : ByteArray) (w : World) (hs : s.size ≤ 3000) : Calls Tryd.prog 13 #[.string s] w fun e w' => e = .returned (pzE s.data.toList) ∧ Below w.heap.size w w' := by
  by_cases h0 : s.size = 0
  · exact rParse_empty s w h0
  · have hl : s.data.toList.length = s.size := by rw [Array.length_toList, ByteArray.size_data]
    have h1 : 0 < s.data.toList.length := by omega
    have h2 : s.data.toList.length ≤ 3000 := by omega
    have key := fun (a : List UInt8) (e : Pl.ws s.data.toList = [a]) => rParse_1 s.data.toList a w h2 h1 e
    have key2 := fun (a c : List UInt8) (e : Pl.ws s.data.toList = [a, c]) => rParse_2 s.data.toList a c w h2 h1 e
    have key3 := fun (a c d : List UInt8) (r : List (List UInt8)) (e : Pl.ws s.data.toList = a :: c :: d :: r) => rParse_N s.data.toList a c d r w h2 h1 e
    have hb : (⟨s.data.toList.toArray⟩ : ByteArray) = s := by rw [Array.toArray_toList]
    rw [hb] at key key2 key3
    match e : Pl.ws s.data.toList with
    | [] => exact absurd e (Pl.ws_ne _)
    | [a] => exact key a e
    | [a, c] => exact key2 a c e
    | a :: c :: d :: r => exact key3 a c d r e
end Go.Proofs.YtdaipapfkekfpaaDoor
