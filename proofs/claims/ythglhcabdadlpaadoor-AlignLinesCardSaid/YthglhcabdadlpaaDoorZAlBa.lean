/- Layer 15: the document's Size. -/
import Derived.Test.YthglhcabdadlpaaDoorZMag
import Derived.Test.YthglhcabdadlpaaDoorZAlPn
namespace Go.Proofs.YthglhcabdadlpaaDoor
open Go.RowKit
set_option linter.unusedVariables false
set_option linter.unusedSimpArgs false
set_option maxRecDepth 100000
/-- The cells of numbers. -/
def nuC (l : List Nat) : List Value := l.map fun (x : Nat) => Value.int .i64 (x : Int)
theorem nuC_app (l m : List Nat) : nuC (l ++ m) = nuC l ++ nuC m := by simp [nuC]
/-- A row of numbers that is owned. -/
def OwI (w : World) (base : Nat) (v : Value) (l : List Nat) : Prop := w.ownsRow base 3 1 v l.length (nuC l)
theorem OwI.later {w w' : World} {base : Nat} {v : Value} {l : List Nat} (h : OwI w base v l) (b : Below w.heap.size w w') : OwI w' base v l := ownA h b
theorem OwI.base {w : World} {b b' : Nat} {v : Value} {l : List Nat} (h : OwI w b v l) (hb : b' ≤ b) : OwI w b' v l := by
  have h0 : w.ownsRow b 3 1 v l.length (nuC l) := h
  refine ⟨h0.1, ?_⟩
  rcases h0.2 with h | ⟨g, cap, cur, e, hg, r⟩
  · exact .inl h
  · exact .inr ⟨g, cap, cur, e, Nat.le_trans hb hg, r⟩
theorem OwI.at {w : World} {base : Nat} {v : Value} {l : List Nat} (h : OwI w base v l) (h0 : 0 < l.length) : ∃ g c, v = .slice (some ⟨g, 0, none⟩) l.length c ∧ ∀ (j : Nat) (x : Nat), l[j]? = some x → w.cell? ⟨g, j, none⟩ = some (.int .i64 (x : Int)) := by
  have h1 : w.ownsRow base 3 1 v l.length (nuC l) := h
  rcases h1.2 with ⟨_, hn⟩ | ⟨g, cap, cur, rfl, hbg, hg, _⟩
  · omega
  · have hc := h1.cells (g := g) rfl
    refine ⟨g, cap, rfl, fun j x hj => ?_⟩
    have := hc j (.int .i64 (x : Int)) (by unfold nuC; rw [List.getElem?_map, hj]; rfl)
    rwa [add0A] at this
theorem OwI.grown {wr w8 : World} {base : Nat} {v v8 : Value} {l : List Nat} {o : Obj} {x : Nat} (ho : OwI wr base v l) (hb : base ≤ wr.heap.size) (h8 : w8.ownsRow base 3 1 v8 (l.length + 1) (nuC l ++ [.int .i64 (x : Int)])) (g8 : (wr.alloc o).grownBy w8 v.ownBlock) : OwI w8 base v8 (l ++ [x]) ∧ Below base wr w8 := by
  refine ⟨?_, ((Below.refl base wr).alloc hb o).trans ⟨g8.os, g8.tape, g8.output, g8.size, fun k hk => g8.block k (by simp; omega) (fun e => by have := (World.ownsRow.lt (show wr.ownsRow base _ 1 v l.length (nuC l) from ho) _ e.symm).1; omega)⟩⟩
  unfold OwI
  rw [nuC_app, List.length_append]
  exact h8
theorem infoInA : ∃ i, Tryd.prog.info? 3 = some i ∧ i.zero = some (.int .i64 0) ∧ i.size = 1 ∧ i.bytes = 8 := infoP _ _ _ _ _ (by kernel_rfl)
theorem one1A (w : World) (a : Value) (t : TypeId) : ∀ (j : Nat) (u : Value), [a][j]? = some u → (w.alloc (.cells #[a] t)).cell? ((⟨w.heap.size, 0, none⟩ : Addr).add j) = some u
  | 0, u, h => by simp at h; subst h; simp [Addr.add]
  | j + 1, u, h => by simp at h
theorem own63i {k : Nat} (h : k ≤ 1000) : k + 1 ≤ maxLen ∧ (k + 1) * 8 ≤ 140737488355328 := by unfold maxLen; omega
namespace Al
/-- The sizes of what two rows begin with: i of the first, each number of the second. -/
def rowL (l m : List Ev) (i : Nat) : List Nat := (List.range (m.length + 1)).map fun j => lcs (l.take i) (m.take j)
theorem rowL_len (l m : List Ev) (i : Nat) : (rowL l m i).length = m.length + 1 := by simp [rowL]
theorem rowL_get {l m : List Ev} {i j : Nat} (h : j ≤ m.length) : (rowL l m i)[j]? = some (lcs (l.take i) (m.take j)) := by
  unfold rowL
  rw [List.getElem?_map, List.getElem?_range (by omega)]
  rfl
theorem rowL_take {l m : List Ev} {i j : Nat} (h : j ≤ m.length) : (rowL l m i).take (j + 1) = (rowL l m i).take j ++ [lcs (l.take i) (m.take j)] := by
  rw [List.take_add_one, rowL_get h]
  rfl
theorem rowL_zero (l m : List Ev) : rowL l m 0 = List.replicate (m.length + 1) 0 := by
  apply List.ext_getElem?
  intro j
  by_cases h : j ≤ m.length
  · rw [rowL_get h, List.getElem?_replicate, if_pos (by omega), List.take_zero, lcs_nil]
  · rw [List.getElem?_eq_none (by rw [rowL_len]; omega), List.getElem?_eq_none (by simp; omega)]
theorem rowL_step {l m : List Ev} {i j : Nat} {x y : Ev} (hx : l[i]? = some x) (hy : m[j]? = some y) : lcs (l.take (i + 1)) (m.take (j + 1)) = stp x y (lcs (l.take i) (m.take (j + 1))) (lcs (l.take (i + 1)) (m.take j)) (lcs (l.take i) (m.take j)) := by
  have e1 : l.take (i + 1) = l.take i ++ [x] := by rw [List.take_add_one, hx]; rfl
  have e2 : m.take (j + 1) = m.take j ++ [y] := by rw [List.take_add_one, hy]; rfl
  rw [e1, e2, lcs_stp]
theorem rowL_bd (l m : List Ev) (i j : Nat) (h : l.length ≤ 100) : lcs (l.take i) (m.take j) ≤ 100 := by
  have := (lcs_bd (l.take i) (m.take j)).1
  simp only [List.length_take] at this
  omega
end Al
theorem sz_mk (wz : World) (N : Nat) (h : N ≤ 1000) : (Instr.makeSlice 78 (.int .i64 (N : Int)) (.int .i64 (N : Int))).run Tryd.prog wz = .ok (.slice (some ⟨wz.heap.size, 0, none⟩) N N) (wz.alloc (.cells (madeCells (Value.int .i64 0).cells (N * 1)) 3)) := by
  obtain ⟨i0, hi, hz0, hz1, hz2⟩ := infoInA
  have := run_make (P := Tryd.prog) wz 78 3 i0 (.int .i64 0) Tryd.underlying78 hi hz0 .i64 .i64 (N : Int) (N : Int) (by omega) (Int.le_refl _) (by rw [hz2]; omega) (by omega)
  rw [hz1] at this
  simpa using this
theorem made64 (N : Nat) : (madeCells (Value.int .i64 0).cells (N * 1)).toList = nuC (List.replicate N 0) := by
  apply List.ext_getElem?
  intro j
  unfold nuC
  by_cases h : j < N
  · simp [madeCells, Value.cells, h, Nat.mod_one]
  · simp [madeCells, Value.cells, h]
theorem OwI.made (wz : World) (N : Nat) (h : N ≤ 1000) : OwI (wz.alloc (.cells (madeCells (Value.int .i64 0).cells (N * 1)) 3)) wz.heap.size (.slice (some ⟨wz.heap.size, 0, none⟩) N N) (List.replicate N 0) := by
  unfold OwI
  rw [List.length_replicate, ← made64]
  exact World.ownsRow_lit (base := wz.heap.size) (size := 1) (e := 3) wz _ N (Nat.le_refl _) (by unfold maxLen; omega) (by simp [madeCells, Value.cells])
theorem ix_numsB {i n : Nat} (h : i < n) : (i : Int) < (n : Int) ∧ decide (i < n) = true ∧ (0 : Int) ≤ (i : Int) := ⟨by omega, decide_eq_true h, by omega⟩
theorem wrM (M : Nat) (h : M ≤ 100) : wrap64 ((M : Int) + 1) = ((M + 1 : Nat) : Int) := by unfold wrap64; omega
theorem wrM' (M : Nat) (h : M ≤ 200) : IntKind.i64.wrap ((M : Int) + 1) = ((M + 1 : Nat) : Int) := by rw [IntKind.wrap_i64]; omega
theorem stp_of {x y : Al.Ev} {U L D D1 n R : Nat} (hD : D1 = D + 1) (hn : n = if U < L then L else U) (h : R = if x = y ∧ n < D1 then D1 else n) : R = Al.stp x y U L D := by
  subst hD hn
  exact h
set_option maxHeartbeats 16000000 in
theorem rsize_any (w : World) (a b : Option Addr) (ca cb : Nat) (l m : List Al.Ev) {B : Nat} (ha : EvR B w a l) (hb : EvR B w b m) (hB : B ≤ w.heap.size) (hl : l.length ≤ 100) (hm : m.length ≤ 100) : Calls Tryd.prog 31 #[.slice a l.length ca, .slice b m.length cb] w fun e w' => e = .returned (.int .i64 (Al.lcs l m : Nat)) ∧ Below w.heap.size w w' := by
  obtain ⟨i0, hi, zi0, zi1, zi2⟩ := infoInA
  have HA := hidA ha
  have HB := hidA hb
  have HBB := hidA hB
  obtain ⟨S, hS⟩ : ∃ S, S = w.heap.size := ⟨_, rfl⟩
  have HS := hidA hS
  rw [← hS]
  obtain ⟨N, hN⟩ : ∃ N, N = l.length := ⟨_, rfl⟩
  obtain ⟨M, hM⟩ : ∃ M, M = m.length := ⟨_, rfl⟩
  have HN : Hid (N = l.length ∧ M = m.length ∧ N ≤ 100 ∧ M ≤ 100) := ⟨hN, hM, by rw [hN]; exact hl, by rw [hM]; exact hm⟩
  have e1 : wrap64 ((M : Int) + 1) = ((M + 1 : Nat) : Int) := wrM M HN.out.2.2.2
  obtain ⟨M1, hM1⟩ : ∃ M1, M1 = M + 1 := ⟨_, rfl⟩
  rw [← hM1] at e1
  have HM1 := hidA hM1
  have HMK : ∀ wz : World, (Instr.makeSlice 78 (.int .i64 (M1 : Int)) (.int .i64 (M1 : Int))).run Tryd.prog wz = .ok (.slice (some ⟨wz.heap.size, 0, none⟩) M1 M1) (wz.alloc (.cells (madeCells (Value.int .i64 0).cells (M1 * 1)) 3)) := fun wz => sz_mk wz M1 (by rw [hM1]; omega)
  obtain ⟨MC, hMC⟩ : ∃ MC, MC = madeCells (Value.int .i64 0).cells (M1 * 1) := ⟨_, rfl⟩
  rw [← hMC] at HMK
  obtain ⟨W0, hW0⟩ : ∃ W0, W0 = w.alloc (.cells MC 3) := ⟨_, rfl⟩
  have O0 : Hid (OwI W0 S (.slice (some ⟨S, 0, none⟩) M1 M1) (Al.rowL l m 0)) := by
    have h := OwI.made w M1 (by rw [hM1]; omega)
    rw [Al.rowL_zero, ← hM, ← hM1, hW0, hMC, hS]
    exact h
  have BW0 : Hid (Below S w W0) := by rw [hW0, hS]; exact (Below.refl _ _).alloc (Nat.le_refl _) _
  have FIN : Hid (Al.lcs (l.take N) (m.take M) = Al.lcs l m) := by rw [List.take_of_length_le (by rw [hN]; exact Nat.le_refl _), List.take_of_length_le (by rw [hM]; exact Nat.le_refl _)]; exact hidA rfl
  rw [← hN, ← hM]
  clear ha hb hB hl hm hN hM hM1 hMC
  go_enter Tryd.func31, Tryd.ntmps31
  go_upto_region 2 with fail
  rw [← hW0, ← hS]
  try rw [e1]
  clear hW0 hS HMK e1
  go_wp2_with fail
  go_loopg [5, 6] N (fun gk y5 y6 wr => ∃ i : Nat, i + gk = N ∧ y6 = .int .i64 i ∧ Hid (OwI wr S y5 (Al.rowL l m i) ∧ Below S w wr))
  case atStart => exact ⟨0, by omega, rfl, O0.out, BW0.out⟩
  case round =>
    obtain ⟨i, hk, rfl, RR⟩ := hrel
    have SW : Hid (S ≤ wr.heap.size) := by rw [HS.out]; exact RR.out.2.size
    obtain ⟨g5, c5, hv5, cs5⟩ := RR.out.1.at (by rw [Al.rowL_len]; exact Nat.succ_pos _)
    rw [Al.rowL_len, ← HN.out.2.1, ← HM1.out] at hv5
    rcases gk with _ | gO
    · obtain rfl : N = i := by omega
      have dk : decide ((N : Int) < (N : Int)) = false := decide_eq_false (Int.lt_irrefl _)
      obtain ⟨u1, u2, u3⟩ := ix_numsB (show M < M1 by rw [HM1.out]; exact Nat.lt_succ_self M)
      have c0 := cs5 M _ (Al.rowL_get (by rw [HN.out.2.1]; exact Nat.le_refl _))
      rw [FIN.out] at c0
      have BF := hidA RR.out.2
      subst hv5
      clear cs5 RR O0
      go_wp2_with fail
      go_ret
      exact ⟨rfl, BF.out⟩
    · obtain ⟨k6, dk, dk2, hiN, hk3⟩ := mch_k hk
      obtain ⟨x, hx⟩ : ∃ x, l[i]? = some x := ⟨_, List.getElem?_eq_getElem (by rw [← HN.out.1]; exact hiN)⟩
      have BW : Hid (Below w.heap.size w wr) := by rw [← HS.out]; exact RR.out.2
      have WKi := hidA (wrK i (Nat.le_trans (Nat.le_of_lt hiN) (Nat.le_trans HN.out.2.2.1 (by decide))))
      have R5 := hidA cs5
      have HX := hidA hx
      have RB := hidA RR.out.2
      have R5S : Hid (g5 < wr.heap.size) := by
        have h1 : wr.ownsRow S 3 1 u5 (Al.rowL l m i).length (nuC (Al.rowL l m i)) := RR.out.1
        exact (World.ownsRow.lt h1 g5 (by rw [hv5]; rfl)).2
      subst hv5
      clear cs5 RR hx
      obtain ⟨Wi, hWi⟩ : ∃ Wi, Wi = wr := ⟨_, rfl⟩
      subst hWi
      have H63 := hidA (own63i (k := 0) (by decide))
      have ON0 : Hid (Wi.ownsRow Wi.heap.size 3 1 (.slice none 0 0) 0 []) := World.ownsRow_nil _ _ _ _
      have ONE0 : Hid (∀ u ∈ [Value.int .i64 0], u.oneCell' = true) := fun u h => by simp at h; subst h; rfl
      go_wp2_with (at_builtin; refine wpList_append_tolA rfl _ _ 78 rfl Wi.heap.size 3 i0 (.int .i64 0) 1 8 Tryd.underlying78 hi zi0 zi1 zi2 rfl (by decide) _ _ _ rfl (ownA ON0.out ((Below.refl _ _).alloc (Nat.le_refl _) _)) ⟨Wi.heap.size, 0, none⟩ 1 1 [.int .i64 0] rfl rfl (one1A _ _ _) ONE0.out H63.out.1 H63.out.2 (by simp) (by decide) ?_)
      intro v8 w8 h8 g8 o8
      have ON1 : Hid (OwI w8 Wi.heap.size v8 ((Al.rowL l m (i + 1)).take 1) ∧ Below Wi.heap.size Wi w8) := by
        have h := OwI.grown (wr := Wi) (base := Wi.heap.size) (v := .slice none 0 0) (l := []) (x := 0) ON0.out (Nat.le_refl _) h8 g8
        rw [Al.rowL_take (Nat.zero_le _), List.take_zero, List.take_zero, Al.lcs_nilr]
        exact h
      clear h8 g8 o8 H63 ONE0
      go_wp2_with fail
      go_loopg [7, 8, 9] M (fun gj y7 y8 y9 wz => ∃ j : Nat, j + gj = M ∧ y8 = .int .i64 j ∧ Hid (OwI wz Wi.heap.size y7 ((Al.rowL l m (i + 1)).take (j + 1)) ∧ Below Wi.heap.size Wi wz))
      case atStart => exact ⟨0, by omega, rfl, ON1.out⟩
      case round =>
        obtain ⟨j, hj, rfl, QR⟩ := hrel
        rcases gk with _ | gj
        · obtain rfl : M = j := by omega
          have dj : decide ((M : Int) < (M : Int)) = false := decide_eq_false (Int.lt_irrefl _)
          have NX : Hid (OwI wr S u7 (Al.rowL l m (i + 1)) ∧ Below S w wr) := by
            have h := QR.out.1.base SW.out
            rw [List.take_of_length_le (by rw [Al.rowL_len, HN.out.2.1]; exact Nat.le_refl _)] at h
            exact ⟨h, RB.out.trans (QR.out.2.mono SW.out)⟩
          clear QR
          go_wp2_with fail
          go_roundg gO
          case measure => omega
          case rel => exact ⟨i + 1, hk3, congrArg _ WKi.out, NX.out⟩
        · obtain ⟨j6, dj, dj2, hjM, hj3⟩ := mch_k hj
          obtain ⟨y, hy⟩ : ∃ y, m[j]? = some y := ⟨_, List.getElem?_eq_getElem (by rw [← HN.out.2.1]; exact hjM)⟩
          have BWr : Below w.heap.size w wr := by rw [← HS.out]; exact RB.out.trans (QR.out.2.mono SW.out)
          obtain ⟨ga, oa, rfl, hga, csa⟩ := (HA.out.later BWr HBB.out) (by rw [← HN.out.1]; exact Nat.lt_of_le_of_lt (Nat.zero_le i) hiN)
          obtain ⟨gb, ob, rfl, hgb, csb⟩ := (HB.out.later BWr HBB.out) (by rw [← HN.out.2.1]; exact Nat.lt_of_le_of_lt (Nat.zero_le j) hjM)
          have a0 := (csa i x HX.out).1
          have a1 := (csa i x HX.out).2
          have b0 := (csb j y hy).1
          have b1 := (csb j y hy).2
          obtain ⟨U, hU⟩ : ∃ U, U = Al.lcs (l.take i) (m.take (j + 1)) := ⟨_, rfl⟩
          obtain ⟨L, hL⟩ : ∃ L, L = Al.lcs (l.take (i + 1)) (m.take j) := ⟨_, rfl⟩
          obtain ⟨D, hD⟩ : ∃ D, D = Al.lcs (l.take i) (m.take j) := ⟨_, rfl⟩
          have ST : Hid (Al.lcs (l.take (i + 1)) (m.take (j + 1)) = Al.stp x y U L D) := by unfold Hid; rw [Al.rowL_step HX.out hy, hU, hL, hD]
          have hDb : D ≤ 100 := by rw [hD]; exact Al.rowL_bd _ _ _ _ (by rw [← HN.out.1]; exact HN.out.2.2.1)
          have r1 : wr.cell? ⟨g5, j + 1, none⟩ = some (.int .i64 (U : Int)) := by
            rw [hU]
            exact (QR.out.2.cell (p := ⟨g5, _, none⟩) R5S.out).trans (R5.out (j + 1) _ (Al.rowL_get (by rw [← HN.out.2.1]; exact hjM)))
          have r0 : wr.cell? ⟨g5, j, none⟩ = some (.int .i64 (D : Int)) := by
            rw [hD]
            exact (QR.out.2.cell (p := ⟨g5, _, none⟩) R5S.out).trans (R5.out j _ (Al.rowL_get (by rw [← HN.out.2.1]; exact Nat.le_of_lt hjM)))
          have tl : ((Al.rowL l m (i + 1)).take (j + 1)).length = j + 1 := by rw [List.length_take, Al.rowL_len, ← HN.out.2.1]; exact Nat.min_eq_left (Nat.succ_le_succ (Nat.le_of_lt hjM))
          obtain ⟨g7, c7, hv7, cs7⟩ := QR.out.1.at (by rw [tl]; exact Nat.succ_pos _)
          rw [tl] at hv7
          have n0 : wr.cell? ⟨g7, j, none⟩ = some (.int .i64 (L : Int)) := by
            rw [hL]
            refine cs7 j _ ?_
            rw [List.getElem?_take, if_pos (Nat.lt_succ_self j)]
            exact Al.rowL_get (by rw [← HN.out.2.1]; exact Nat.le_of_lt hjM)
          obtain ⟨acc, hacc⟩ : ∃ acc, acc = (Al.rowL l m (i + 1)).take (j + 1) := ⟨_, rfl⟩
          have TK : Hid ((Al.rowL l m (i + 1)).take (j + 1 + 1) = acc ++ [Al.stp x y U L D]) := by unfold Hid; rw [Al.rowL_take (by rw [← HN.out.2.1]; exact hjM), ST.out, hacc]
          have FINJ : Hid (∀ (W : World) (R : Nat) (v8 : Value) (w8 : World) (o : Obj), W.heap = wr.heap → W.os = wr.os → W.tape = wr.tape → W.output = wr.output → R = Al.stp x y U L D → w8.ownsRow Wi.heap.size 3 1 v8 (j + 1 + 1) (nuC acc ++ [.int .i64 (R : Int)]) → (W.alloc o).grownBy w8 u7.ownBlock → OwI w8 Wi.heap.size v8 ((Al.rowL l m (i + 1)).take (j + 1 + 1)) ∧ Below Wi.heap.size Wi w8) := fun W R v8 w8 o e1 e2 e3 e4 hR h8 g8 => by
            have bw : Below wr.heap.size wr W := ⟨e2, e3, e4, by rw [e1]; exact Nat.le_refl _, fun k hk => by rw [e1]⟩
            have ow : OwI W Wi.heap.size u7 acc := by rw [hacc]; exact QR.out.1.later bw
            have hl8 : acc.length = j + 1 := by rw [hacc]; exact tl
            have h := OwI.grown ow (by rw [e1]; exact QR.out.2.size) (by rw [hl8]; exact h8) g8
            rw [TK.out, ← hR]
            exact ⟨h.1, QR.out.2.trans ((bw.mono QR.out.2.size).trans h.2)⟩
          have OR7 : Hid (∀ W : World, W.heap = wr.heap → W.os = wr.os → W.tape = wr.tape → W.output = wr.output → W.ownsRow Wi.heap.size 3 1 u7 (j + 1) (nuC acc)) := fun W e1 e2 e3 e4 => by
            have bw : Below wr.heap.size wr W := ⟨e2, e3, e4, by rw [e1]; exact Nat.le_refl _, fun k hk => by rw [e1]⟩
            have h : W.ownsRow Wi.heap.size 3 1 u7 ((Al.rowL l m (i + 1)).take (j + 1)).length (nuC ((Al.rowL l m (i + 1)).take (j + 1))) := QR.out.1.later bw
            rw [tl, ← hacc] at h
            exact h
          have HSZ : Hid (Wi.heap.size ≤ wr.heap.size) := QR.out.2.size
          subst hv7
          obtain ⟨v1, v2, v3⟩ := ix_numsB (show j + 1 < M1 by rw [HM1.out]; exact Nat.succ_lt_succ hjM)
          obtain ⟨t1, t2, t3⟩ := ix_numsB (show j < M1 by rw [HM1.out]; exact Nat.lt_succ_of_lt hjM)
          obtain ⟨s1, s2, s3⟩ := ix_numsB (show j < j + 1 from Nat.lt_succ_self j)
          have ej : wrap64 ((j : Int) + 1) = ((j + 1 : Nat) : Int) := wrK j (Nat.le_trans (Nat.le_of_lt hjM) (Nat.le_trans HN.out.2.2.2 (by decide)))
          have eD : wrap64 ((D : Int) + 1) = ((D + 1 : Nat) : Int) := wrK D (Nat.le_trans hDb (by decide))
          have eD2 : IntKind.i64.wrap ((D : Int) + 1) = ((D + 1 : Nat) : Int) := wrM' D (Nat.le_trans hDb (by decide))
          obtain ⟨J1, hJ1⟩ : ∃ J1, J1 = j + 1 := ⟨_, rfl⟩
          obtain ⟨D1, hD1⟩ : ∃ D1, D1 = D + 1 := ⟨_, rfl⟩
          have HJ1 := hidA hJ1
          have HD1 := hidA hD1
          have WKj := hidA ej
          rw [← hJ1] at ej r1 v1 v2 v3 s1 s2 OR7 FINJ ⊢
          rw [← hD1] at eD eD2
          have H63 := hidA (own63i (k := J1) (by rw [hJ1]; exact Nat.succ_le_of_lt (Nat.lt_of_lt_of_le hjM (Nat.le_trans HN.out.2.2.2 (by decide)))))
          clear hU hL hD csa csb hy cs7 hacc tl TK ST QR hJ1 hD1 hDb BWr ON1
          have XY := hidA (Classical.em (x = y))
          have EVN : Hid (x ≠ y → (x.1 == y.1) = false ∨ (x.1 == y.1) = true ∧ (x.2 == y.2) = false) := fun h => ev_ne h
          have STP : Hid (∀ n R : Nat, n = (if U < L then L else U) → (R = if x = y ∧ n < D1 then D1 else n) → R = Al.stp x y U L D) := fun n R h1 h2 => stp_of HD1.out h1 h2
          by_cases cu : U < L
          · have du : decide ((U : Int) < (L : Int)) = true := decide_eq_true (Int.ofNat_lt.2 cu)
            have EN : Hid ((L : Nat) = if U < L then L else U) := by unfold Hid; rw [if_pos cu]
            have du2 : decide (U < L) = true := decide_eq_true cu
            clear cu
            rcases XY.out with hxy | hxy
            · by_cases cd : L < D1
              · have dd : decide ((L : Int) < (D1 : Int)) = true := decide_eq_true (Int.ofNat_lt.2 cd)
                have dd2 : decide (L < D1) = true := decide_eq_true cd
                have HR : Hid ((D1 : Nat) = Al.stp x y U L D) := STP.out _ _ EN.out (by rw [if_pos ⟨hxy, cd⟩])
                have ONE : Hid (∀ u ∈ [Value.int .i64 (D1 : Int)], u.oneCell' = true) := fun u h => by simp at h; subst h; rfl
                have z0 : (x.1 == y.1) = true := by rw [hxy]; exact beq_self_eq_true _
                have z9 : (x.2 == y.2) = true := by rw [hxy]; exact beq_self_eq_true _
                clear cd hxy XY EVN STP EN
                generalize x.1 = x1 at a0 z0
                generalize x.2 = x2 at a1 z9
                generalize y.1 = y1 at b0 z0
                generalize y.2 = y2 at b1 z9
                go_upto_region 13 with fail
                go_quiet (fail)
                go_wp2_with (at_builtin; refine wpList_append_tolA rfl _ _ 78 rfl Wi.heap.size 3 i0 (.int .i64 0) 1 8 Tryd.underlying78 hi zi0 zi1 zi2 rfl (by decide) _ _ _ rfl (ownA (OR7.out (wr.drewN nq) (by rfl) (by rfl) (by rfl) (by rfl)) ((Below.refl _ _).alloc (Nat.le_refl _) _)) ⟨(wr.drewN nq).heap.size, 0, none⟩ 1 1 [.int .i64 (D1 : Int)] rfl rfl (one1A _ _ _) ONE.out H63.out.1 H63.out.2 (Nat.le_trans HSZ.out ((Below.refl wr.heap.size wr).alloc (Nat.le_refl _) _).size) (by decide) ?_)
                intro v8 w8 h8 g8 o8
                have F8 := hidA (FINJ.out (wr.drewN nq) D1 v8 w8 _ (by rfl) (by rfl) (by rfl) (by rfl) HR.out h8 g8)
                clear h8 g8 o8
                go_wp2_with fail
                go_roundg gj
                case measure => omega
                case rel => exact ⟨j + 1, hj3, congrArg _ WKj.out, by have h := F8; rw [HJ1.out] at h; exact h⟩
              · have dd : decide ((L : Int) < (D1 : Int)) = false := decide_eq_false (fun h => cd (Int.ofNat_lt.1 h))
                have dd2 : decide (L < D1) = false := decide_eq_false cd
                have HR : Hid ((L : Nat) = Al.stp x y U L D) := STP.out _ _ EN.out (by rw [if_neg (fun h => cd h.2)])
                have ONE : Hid (∀ u ∈ [Value.int .i64 (L : Int)], u.oneCell' = true) := fun u h => by simp at h; subst h; rfl
                have z0 : (x.1 == y.1) = true := by rw [hxy]; exact beq_self_eq_true _
                have z9 : (x.2 == y.2) = true := by rw [hxy]; exact beq_self_eq_true _
                clear cd hxy XY EVN STP EN
                generalize x.1 = x1 at a0 z0
                generalize x.2 = x2 at a1 z9
                generalize y.1 = y1 at b0 z0
                generalize y.2 = y2 at b1 z9
                go_upto_region 13 with fail
                go_quiet (fail)
                go_wp2_with (at_builtin; refine wpList_append_tolA rfl _ _ 78 rfl Wi.heap.size 3 i0 (.int .i64 0) 1 8 Tryd.underlying78 hi zi0 zi1 zi2 rfl (by decide) _ _ _ rfl (ownA (OR7.out (wr.drewN nq) (by rfl) (by rfl) (by rfl) (by rfl)) ((Below.refl _ _).alloc (Nat.le_refl _) _)) ⟨(wr.drewN nq).heap.size, 0, none⟩ 1 1 [.int .i64 (L : Int)] rfl rfl (one1A _ _ _) ONE.out H63.out.1 H63.out.2 (Nat.le_trans HSZ.out ((Below.refl wr.heap.size wr).alloc (Nat.le_refl _) _).size) (by decide) ?_)
                intro v8 w8 h8 g8 o8
                have F8 := hidA (FINJ.out (wr.drewN nq) L v8 w8 _ (by rfl) (by rfl) (by rfl) (by rfl) HR.out h8 g8)
                clear h8 g8 o8
                go_wp2_with fail
                go_roundg gj
                case measure => omega
                case rel => exact ⟨j + 1, hj3, congrArg _ WKj.out, by have h := F8; rw [HJ1.out] at h; exact h⟩
            · have HR : Hid ((L : Nat) = Al.stp x y U L D) := STP.out _ _ EN.out (by rw [if_neg (fun h => hxy h.1)])
              have ONE : Hid (∀ u ∈ [Value.int .i64 (L : Int)], u.oneCell' = true) := fun u h => by simp at h; subst h; rfl
              have zz := EVN.out hxy
              clear hxy XY EVN STP EN
              generalize x.1 = x1 at a0 zz
              generalize x.2 = x2 at a1 zz
              generalize y.1 = y1 at b0 zz
              generalize y.2 = y2 at b1 zz
              rcases zz with z0 | ⟨z0, z9⟩
              all_goals
                go_upto_region 13 with fail
                go_quiet (fail)
                go_wp2_with (at_builtin; refine wpList_append_tolA rfl _ _ 78 rfl Wi.heap.size 3 i0 (.int .i64 0) 1 8 Tryd.underlying78 hi zi0 zi1 zi2 rfl (by decide) _ _ _ rfl (ownA (OR7.out (wr.drewN nq) (by rfl) (by rfl) (by rfl) (by rfl)) ((Below.refl _ _).alloc (Nat.le_refl _) _)) ⟨(wr.drewN nq).heap.size, 0, none⟩ 1 1 [.int .i64 (L : Int)] rfl rfl (one1A _ _ _) ONE.out H63.out.1 H63.out.2 (Nat.le_trans HSZ.out ((Below.refl wr.heap.size wr).alloc (Nat.le_refl _) _).size) (by decide) ?_)
                intro v8 w8 h8 g8 o8
                have F8 := hidA (FINJ.out (wr.drewN nq) L v8 w8 _ (by rfl) (by rfl) (by rfl) (by rfl) HR.out h8 g8)
                clear h8 g8 o8
                go_wp2_with fail
                go_roundg gj
                case measure => omega
                case rel => exact ⟨j + 1, hj3, congrArg _ WKj.out, by have h := F8; rw [HJ1.out] at h; exact h⟩
          · have du : decide ((U : Int) < (L : Int)) = false := decide_eq_false (fun h => cu (Int.ofNat_lt.1 h))
            have EN : Hid ((U : Nat) = if U < L then L else U) := by unfold Hid; rw [if_neg cu]
            have du2 : decide (U < L) = false := decide_eq_false cu
            clear cu
            rcases XY.out with hxy | hxy
            · by_cases cd : U < D1
              · have dd : decide ((U : Int) < (D1 : Int)) = true := decide_eq_true (Int.ofNat_lt.2 cd)
                have dd2 : decide (U < D1) = true := decide_eq_true cd
                have HR : Hid ((D1 : Nat) = Al.stp x y U L D) := STP.out _ _ EN.out (by rw [if_pos ⟨hxy, cd⟩])
                have ONE : Hid (∀ u ∈ [Value.int .i64 (D1 : Int)], u.oneCell' = true) := fun u h => by simp at h; subst h; rfl
                have z0 : (x.1 == y.1) = true := by rw [hxy]; exact beq_self_eq_true _
                have z9 : (x.2 == y.2) = true := by rw [hxy]; exact beq_self_eq_true _
                clear cd hxy XY EVN STP EN
                generalize x.1 = x1 at a0 z0
                generalize x.2 = x2 at a1 z9
                generalize y.1 = y1 at b0 z0
                generalize y.2 = y2 at b1 z9
                go_upto_region 13 with fail
                go_quiet (fail)
                go_wp2_with (at_builtin; refine wpList_append_tolA rfl _ _ 78 rfl Wi.heap.size 3 i0 (.int .i64 0) 1 8 Tryd.underlying78 hi zi0 zi1 zi2 rfl (by decide) _ _ _ rfl (ownA (OR7.out (wr.drewN nq) (by rfl) (by rfl) (by rfl) (by rfl)) ((Below.refl _ _).alloc (Nat.le_refl _) _)) ⟨(wr.drewN nq).heap.size, 0, none⟩ 1 1 [.int .i64 (D1 : Int)] rfl rfl (one1A _ _ _) ONE.out H63.out.1 H63.out.2 (Nat.le_trans HSZ.out ((Below.refl wr.heap.size wr).alloc (Nat.le_refl _) _).size) (by decide) ?_)
                intro v8 w8 h8 g8 o8
                have F8 := hidA (FINJ.out (wr.drewN nq) D1 v8 w8 _ (by rfl) (by rfl) (by rfl) (by rfl) HR.out h8 g8)
                clear h8 g8 o8
                go_wp2_with fail
                go_roundg gj
                case measure => omega
                case rel => exact ⟨j + 1, hj3, congrArg _ WKj.out, by have h := F8; rw [HJ1.out] at h; exact h⟩
              · have dd : decide ((U : Int) < (D1 : Int)) = false := decide_eq_false (fun h => cd (Int.ofNat_lt.1 h))
                have dd2 : decide (U < D1) = false := decide_eq_false cd
                have HR : Hid ((U : Nat) = Al.stp x y U L D) := STP.out _ _ EN.out (by rw [if_neg (fun h => cd h.2)])
                have ONE : Hid (∀ u ∈ [Value.int .i64 (U : Int)], u.oneCell' = true) := fun u h => by simp at h; subst h; rfl
                have z0 : (x.1 == y.1) = true := by rw [hxy]; exact beq_self_eq_true _
                have z9 : (x.2 == y.2) = true := by rw [hxy]; exact beq_self_eq_true _
                clear cd hxy XY EVN STP EN
                generalize x.1 = x1 at a0 z0
                generalize x.2 = x2 at a1 z9
                generalize y.1 = y1 at b0 z0
                generalize y.2 = y2 at b1 z9
                go_upto_region 13 with fail
                go_quiet (fail)
                go_wp2_with (at_builtin; refine wpList_append_tolA rfl _ _ 78 rfl Wi.heap.size 3 i0 (.int .i64 0) 1 8 Tryd.underlying78 hi zi0 zi1 zi2 rfl (by decide) _ _ _ rfl (ownA (OR7.out (wr.drewN nq) (by rfl) (by rfl) (by rfl) (by rfl)) ((Below.refl _ _).alloc (Nat.le_refl _) _)) ⟨(wr.drewN nq).heap.size, 0, none⟩ 1 1 [.int .i64 (U : Int)] rfl rfl (one1A _ _ _) ONE.out H63.out.1 H63.out.2 (Nat.le_trans HSZ.out ((Below.refl wr.heap.size wr).alloc (Nat.le_refl _) _).size) (by decide) ?_)
                intro v8 w8 h8 g8 o8
                have F8 := hidA (FINJ.out (wr.drewN nq) U v8 w8 _ (by rfl) (by rfl) (by rfl) (by rfl) HR.out h8 g8)
                clear h8 g8 o8
                go_wp2_with fail
                go_roundg gj
                case measure => omega
                case rel => exact ⟨j + 1, hj3, congrArg _ WKj.out, by have h := F8; rw [HJ1.out] at h; exact h⟩
            · have HR : Hid ((U : Nat) = Al.stp x y U L D) := STP.out _ _ EN.out (by rw [if_neg (fun h => hxy h.1)])
              have ONE : Hid (∀ u ∈ [Value.int .i64 (U : Int)], u.oneCell' = true) := fun u h => by simp at h; subst h; rfl
              have zz := EVN.out hxy
              clear hxy XY EVN STP EN
              generalize x.1 = x1 at a0 zz
              generalize x.2 = x2 at a1 zz
              generalize y.1 = y1 at b0 zz
              generalize y.2 = y2 at b1 zz
              rcases zz with z0 | ⟨z0, z9⟩
              all_goals
                go_upto_region 13 with fail
                go_quiet (fail)
                go_wp2_with (at_builtin; refine wpList_append_tolA rfl _ _ 78 rfl Wi.heap.size 3 i0 (.int .i64 0) 1 8 Tryd.underlying78 hi zi0 zi1 zi2 rfl (by decide) _ _ _ rfl (ownA (OR7.out (wr.drewN nq) (by rfl) (by rfl) (by rfl) (by rfl)) ((Below.refl _ _).alloc (Nat.le_refl _) _)) ⟨(wr.drewN nq).heap.size, 0, none⟩ 1 1 [.int .i64 (U : Int)] rfl rfl (one1A _ _ _) ONE.out H63.out.1 H63.out.2 (Nat.le_trans HSZ.out ((Below.refl wr.heap.size wr).alloc (Nat.le_refl _) _).size) (by decide) ?_)
                intro v8 w8 h8 g8 o8
                have F8 := hidA (FINJ.out (wr.drewN nq) U v8 w8 _ (by rfl) (by rfl) (by rfl) (by rfl) HR.out h8 g8)
                clear h8 g8 o8
                go_wp2_with fail
                go_roundg gj
                case measure => omega
                case rel => exact ⟨j + 1, hj3, congrArg _ WKj.out, by have h := F8; rw [HJ1.out] at h; exact h⟩
end Go.Proofs.YthglhcabdadlpaaDoor
