/- Layer 8: the instruction of a line (the program's Parse), for every text of at most 3000 bytes. -/
import Derived.Test.YtdllgbhdodjdbaaDoorCdT
import Derived.Test.YtdllgbhdodjdbaaDoorBase
namespace Go.Proofs.YtdllgbhdodjdbaaDoor
open Go.RowKit
set_option linter.unusedVariables false
set_option linter.unusedSimpArgs false

theorem strB (s : ByteArray) : (⟨s.data.toList.toArray⟩ : ByteArray) = s := by
  cases s with | mk d => rfl
/-- An instruction and an error are answered. -/
abbrev iE (i : Cd.In) (e : Int) : Value := .tuple #[inV i, .int .i64 e]
/-- What Parse answers. -/
def pzE (s : List UInt8) : Value := match Cd.pz s with | some i => iE i 0 | none => iE ⟨0, 0, 0⟩ 61
theorem pzE_no {s : List UInt8} (h : Cd.pz s = none) : pzE s = iE ⟨0, 0, 0⟩ 61 := by unfold pzE; rw [h]
theorem pzE_yes {s : List UInt8} {i : Cd.In} (h : Cd.pz s = some i) : pzE s = iE i 0 := by unfold pzE; rw [h]
/-- What num.Words leaves of a text. -/
def WdP (s : ByteArray) (w : World) (e : Ending) (w' : World) : Prop := ∃ b, e = .returned (.slice (some ⟨b, 0, none⟩) (Pl.ws s.data.toList).length (Pl.ws s.data.toList).length) ∧ b < w'.heap.size ∧ (∀ j x, (Pl.ws s.data.toList)[j]? = some x → w'.cell? ⟨b, j, none⟩ = some (.string ⟨x.toArray⟩)) ∧ Below w.heap.size w w'
theorem cdWords (s : ByteArray) (w : World) (hs : s.size ≤ 3000) (h0 : 0 < s.size) (hm : Mx w) : Calls Tryd.prog 63 #[.string s] w (WdP s w) := by
  refine (words_some s w hs h0 hm).mono ?_
  rintro e w' ⟨b, xs, rfl, sa, hx, hb⟩
  have hl : (Pl.ws s.data.toList).length = xs.length := by rw [← hx, List.length_map]
  refine ⟨b, by rw [hl], sa.lt, fun j x e => ?_, hb⟩
  have hj : j < xs.length := by rw [← hl]; exact (List.getElem?_eq_some_iff.1 e).1
  have := sa.get j hj
  rw [Nat.zero_add] at this
  rw [this, List.getD_eq_getElem?_getD, List.getElem?_eq_getElem hj]
  rw [← hx, List.getElem?_map, List.getElem?_eq_getElem hj] at e
  simp only [Option.map_some, Option.some.injEq] at e
  rw [← e, strB]
  rfl
theorem size_ne {s : ByteArray} (h : 0 < s.size) : s.data.toList ≠ [] := by
  intro e
  have : s.data.toList.length = s.size := by rw [Array.length_toList, ByteArray.size_data]
  rw [e] at this
  simp at this
  omega
set_option maxRecDepth 100000 in
set_option maxHeartbeats 4000000 in
theorem cdParse_empty (s : ByteArray) (w : World) (h0 : s.size = 0) : Calls Tryd.prog 32 #[.string s] w fun e w' => e = .returned (pzE s.data.toList) ∧ Below w.heap.size w w' := by
  have hz : Cd.pz s.data.toList = none := by
    have : s.data.toList = [] := by rw [← List.length_eq_zero_iff, Array.length_toList, ByteArray.size_data]; exact h0
    rw [this]
    unfold Cd.pz
    rw [if_pos rfl]
  rw [pzE_no hz]
  have EW : Hid (∀ W, Calls Tryd.prog 63 #[.string s] W fun e w' => e = .returned (.slice none 0 0) ∧ w' = W) := fun W => words_none s W h0
  clear hz h0
  go_enter Tryd.func32, Tryd.ntmps32
  go_wp2_with fail
  refine Calls.mono (EW.out _) ?_
  rintro e1 w1 ⟨rfl, rfl⟩
  go_wp2_with fail
  refine bodyPost_ret (v := iE ⟨0, 0, 0⟩ 61) (by simp [results, Tryd.results32, go_sem]) rfl ?_
  exact ⟨rfl, by go_grown⟩
theorem belS {w w1 : World} {b c : Nat} {v : Value} (h : Below w.heap.size w w1) (hb : w.heap.size ≤ b) : Below w.heap.size w (w1.setCell ⟨b, c, none⟩ v) := h.trans ⟨rfl, rfl, rfl, by simp, fun k hk => heap_setCell_other _ _ k _ (by simp; omega)⟩
theorem ws_mem : ∀ (l x : List UInt8), x ∈ Pl.ws l → x.length ≤ l.length
  | [], x, h => by simp [Pl.ws] at h; simp [h]
  | c :: t, x, h => by
    unfold Pl.ws at h
    split at h
    · rcases List.mem_cons.1 h with rfl | h
      · simp
      · have := ws_mem t x h
        simp; omega
    · cases e : Pl.ws t with
      | nil => exact absurd e (Pl.ws_ne t)
      | cons y r =>
        rw [e, Pl.onHead] at h
        rcases List.mem_cons.1 h with rfl | h
        · have := ws_mem t y (by rw [e]; exact List.mem_cons_self ..)
          simp; omega
        · have := ws_mem t x (by rw [e]; exact List.mem_cons_of_mem _ h)
          simp; omega
theorem cdNum_some (c : List UInt8) (n : Int) (h : c.length ≤ 3000) (e : Pl.parse c = some n) (W : World) : Calls Tryd.prog 65 #[.string ⟨c.toArray⟩] W fun e w' => e = .returned (.tuple #[.int .i64 n, .int .i64 0]) ∧ w' = W := by
  have := parse_any ⟨c.toArray⟩ W (by simp [ByteArray.size]; unfold maxLen; omega)
  simp only [e] at this
  exact this
theorem cdNum_none (c : List UInt8) (h : c.length ≤ 3000) (e : Pl.parse c = none) (W : World) : Calls Tryd.prog 65 #[.string ⟨c.toArray⟩] W fun e w' => e = .returned (.tuple #[.int .i64 0, .int .i64 10]) ∧ w' = W := by
  have := parse_any ⟨c.toArray⟩ W (by simp [ByteArray.size]; unfold maxLen; omega)
  simp only [e] at this
  exact this
theorem rd3 {w w2 : World} {b : Nat} {o : Obj} {k n m x0 x1 x2 : Value} (B1 : Below w.heap.size w w2) (hb : w.heap.size ≤ b) (bl : b < w2.heap.size) (d0 : w2.cell? ⟨b, 0, none⟩ = some x0) (d1 : w2.cell? ⟨b, 1, none⟩ = some x1) (d2 : w2.cell? ⟨b, 2, none⟩ = some x2) :
    ((((w2.setCell ⟨b, 0, none⟩ k).setCell ⟨b, 1, none⟩ n).setCell ⟨b, 2, none⟩ m).alloc o).cell? ⟨b, 0, none⟩ = some k ∧ ((((w2.setCell ⟨b, 0, none⟩ k).setCell ⟨b, 1, none⟩ n).setCell ⟨b, 2, none⟩ m).alloc o).cell? ⟨b, 1, none⟩ = some n ∧ ((((w2.setCell ⟨b, 0, none⟩ k).setCell ⟨b, 1, none⟩ n).setCell ⟨b, 2, none⟩ m).alloc o).cell? ⟨b, 2, none⟩ = some m ∧ Below w.heap.size w ((((w2.setCell ⟨b, 0, none⟩ k).setCell ⟨b, 1, none⟩ n).setCell ⟨b, 2, none⟩ m).alloc o) := by
  obtain ⟨bx, e, P, Q⟩ := put3 (w1 := w) (w7 := w2) (a := b) (x := k) (y := n) (z := m) B1 hb bl d0 d1 d2
  have : b = bx := by simpa using e
  subst this
  obtain ⟨p0, p1, p2, p3⟩ := P.out
  have ba : Below _ _ (((((w2.setCell ⟨b, 0, none⟩ k).setCell ⟨b, 1, none⟩ n).setCell ⟨b, 2, none⟩ m)).alloc o) := (Below.refl (((w2.setCell ⟨b, 0, none⟩ k).setCell ⟨b, 1, none⟩ n).setCell ⟨b, 2, none⟩ m).heap.size (((w2.setCell ⟨b, 0, none⟩ k).setCell ⟨b, 1, none⟩ n).setCell ⟨b, 2, none⟩ m)).alloc (Nat.le_refl _) o
  exact ⟨(ba.cell (p := ⟨b, 0, none⟩) p0).trans p1, (ba.cell (p := ⟨b, 1, none⟩) p0).trans p2, (ba.cell (p := ⟨b, 2, none⟩) p0).trans p3, Q.out.trans (ba.mono Q.out.size)⟩
theorem rets {v u : Value} (h : v = u) : Ending.returned v = .returned u := by rw [h]
set_option maxRecDepth 100000 in
set_option maxHeartbeats 8000000 in
theorem cdParse_op (s : ByteArray) (B : Nat) (w : World) (ht : Tt B w) (hs : s.size ≤ 3000) (h0 : 0 < s.size) (a : List UInt8) (L : Nat) (ha : (Pl.ws s.data.toList)[0]? = some a) (hL : (Pl.ws s.data.toList).length = L) (hb : Cd.opOf a = 0) : Calls Tryd.prog 32 #[.string s] w fun e w' => e = .returned (iE ⟨0, 0, 0⟩ 61) ∧ Below w.heap.size w w' := by
  have HT : Hid (Tt B w) := ht
  obtain ⟨b, hbx⟩ : ∃ b, b = w.heap.size := ⟨_, rfl⟩
  obtain ⟨W, hW⟩ : ∃ W, W = w.alloc (inB ⟨0, 0, 0⟩) := ⟨_, rfl⟩
  obtain ⟨b0, b1, b2, bw⟩ := in_box w ⟨0, 0, 0⟩ b W hbx hW
  dsimp only at b0 b1 b2
  have HBX : Hid (w.heap.size ≤ b) := Nat.le_of_eq hbx.symm
  have bl : b < W.heap.size := by rw [hbx, hW]; simp
  have bf : ∀ c : Nat, W.frozen? ⟨b, c, none⟩ = false := fun c => by rw [hbx, hW]; simp [go_sem]
  have EW : Hid _ := cdWords s W hs h0 (ht.later bw).mx
  have BW : Hid (Below w.heap.size w W) := bw
  have HA : Hid ((Pl.ws s.data.toList)[0]? = some a) := ha
  have L0 : 0 < L := by rw [← hL]; exact (List.getElem?_eq_some_iff.1 ha).1
  clear ht ha bw
  go_enter Tryd.func32, Tryd.ntmps32
  go_upto_region 1 with fail
  rw [← hW, ← hbx]
  clear hW hbx
  go_wp2_with fail
  refine Calls.mono EW.out ?_
  rintro e1 w1 ⟨g, rfl, hg, hc, y1⟩
  rw [hL]
  have c0 := hc 0 a HA.out
  have d0 := (y1.cell (p := ⟨b, 0, none⟩) bl).trans b0
  have d1 := (y1.cell (p := ⟨b, 1, none⟩) bl).trans b1
  have d2 := (y1.cell (p := ⟨b, 2, none⟩) bl).trans b2
  have f0 := (y1.frozen (p := ⟨b, 0, none⟩) bl).trans (bf 0)
  have f1 := (y1.frozen (p := ⟨b, 1, none⟩) bl).trans (bf 1)
  have f2 := (y1.frozen (p := ⟨b, 2, none⟩) bl).trans (bf 2)
  have bl1 : b < w1.heap.size := Nat.lt_of_lt_of_le bl y1.size
  have nb1 : ¬ b = w1.heap.size := Nat.ne_of_lt bl1
  have ng1 : ¬ g = w1.heap.size := Nat.ne_of_lt hg
  have B1 : Hid (Below w.heap.size w w1) := BW.out.trans (y1.mono BW.out.size)
  have T1 := HT.out.later B1.out
  have EO : Hid _ := cdOp_any a B w1 T1.tw
  have cn : ∀ k : Nat, k < 26 → w1.cell? ⟨1, k, none⟩ = some (.int .i64 (Cd.nm k)) := fun k hk => by
    have := T1.tn.get k hk
    rw [this]
    unfold Cd.nm
    rw [Int.toNat_natCast]
  clear hc y1 EW b0 b1 b2 bf bl T1 hL
  have hLi : (0 : Int) < (L : Int) := by omega
  have hL0 : ((L : Int) == 0) = false := beq_eq_false_iff_ne.2 (by omega)
  rw [hb] at EO
  clear cn
  go_wp2_with fail
  refine Calls.mono EO.out ?_
  rintro e2 w2 ⟨rfl, rfl⟩
  go_wp2_with fail
  refine bodyPost_ret (v := iE ⟨0, 0, 0⟩ 61) (by simp [results, Tryd.results32, go_sem, nb1, d0, d1, d2]) rfl ?_
  exact ⟨rfl, belS (belS (belS B1.out HBX.out) HBX.out) HBX.out⟩
set_option maxRecDepth 100000 in
set_option maxHeartbeats 8000000 in
theorem cdParse_len (s : ByteArray) (B : Nat) (w : World) (ht : Tt B w) (hs : s.size ≤ 3000) (h0 : 0 < s.size) (a : List UInt8) (L k : Nat) (ha : (Pl.ws s.data.toList)[0]? = some a) (hL : (Pl.ws s.data.toList).length = L) (hk : Cd.opOf a = k) (hk0 : k ≠ 0) (x : Int) (hx : Cd.nm k = x) (hb : (L : Int) ≠ 1 + x) : Calls Tryd.prog 32 #[.string s] w fun e w' => e = .returned (iE ⟨0, 0, 0⟩ 61) ∧ Below w.heap.size w w' := by
  have HT : Hid (Tt B w) := ht
  obtain ⟨b, hbx⟩ : ∃ b, b = w.heap.size := ⟨_, rfl⟩
  obtain ⟨W, hW⟩ : ∃ W, W = w.alloc (inB ⟨0, 0, 0⟩) := ⟨_, rfl⟩
  obtain ⟨b0, b1, b2, bw⟩ := in_box w ⟨0, 0, 0⟩ b W hbx hW
  dsimp only at b0 b1 b2
  have HBX : Hid (w.heap.size ≤ b) := Nat.le_of_eq hbx.symm
  have bl : b < W.heap.size := by rw [hbx, hW]; simp
  have bf : ∀ c : Nat, W.frozen? ⟨b, c, none⟩ = false := fun c => by rw [hbx, hW]; simp [go_sem]
  have EW : Hid _ := cdWords s W hs h0 (ht.later bw).mx
  have BW : Hid (Below w.heap.size w W) := bw
  have HA : Hid ((Pl.ws s.data.toList)[0]? = some a) := ha
  have L0 : 0 < L := by rw [← hL]; exact (List.getElem?_eq_some_iff.1 ha).1
  clear ht ha bw
  go_enter Tryd.func32, Tryd.ntmps32
  go_upto_region 1 with fail
  rw [← hW, ← hbx]
  clear hW hbx
  go_wp2_with fail
  refine Calls.mono EW.out ?_
  rintro e1 w1 ⟨g, rfl, hg, hc, y1⟩
  rw [hL]
  have c0 := hc 0 a HA.out
  have d0 := (y1.cell (p := ⟨b, 0, none⟩) bl).trans b0
  have d1 := (y1.cell (p := ⟨b, 1, none⟩) bl).trans b1
  have d2 := (y1.cell (p := ⟨b, 2, none⟩) bl).trans b2
  have f0 := (y1.frozen (p := ⟨b, 0, none⟩) bl).trans (bf 0)
  have f1 := (y1.frozen (p := ⟨b, 1, none⟩) bl).trans (bf 1)
  have f2 := (y1.frozen (p := ⟨b, 2, none⟩) bl).trans (bf 2)
  have bl1 : b < w1.heap.size := Nat.lt_of_lt_of_le bl y1.size
  have nb1 : ¬ b = w1.heap.size := Nat.ne_of_lt bl1
  have ng1 : ¬ g = w1.heap.size := Nat.ne_of_lt hg
  have B1 : Hid (Below w.heap.size w w1) := BW.out.trans (y1.mono BW.out.size)
  have T1 := HT.out.later B1.out
  have EO : Hid _ := cdOp_any a B w1 T1.tw
  have cn : ∀ k : Nat, k < 26 → w1.cell? ⟨1, k, none⟩ = some (.int .i64 (Cd.nm k)) := fun k hk => by
    have := T1.tn.get k hk
    rw [this]
    unfold Cd.nm
    rw [Int.toNat_natCast]
  clear hc y1 EW b0 b1 b2 bf bl T1 hL
  have hk26 : k < 26 := by have := (Cd.opOf_is (w := a) (by rw [hk]; exact hk0)).2.1; omega
  have ck := cn k hk26
  rw [hx] at ck
  rw [hk] at EO
  have hkd : decide (k ≠ 0) = true := decide_eq_true hk0
  rw [hkd] at EO
  have g2 : (k : Int) < 26 := by omega
  have g0 : (0 : Int) ≤ (k : Int) := by omega
  have HK0 : Hid (k ≠ 0) := hk0
  have hLi : (0 : Int) < (L : Int) := by omega
  have hL0 : ((L : Int) == 0) = false := beq_eq_false_iff_ne.2 (by omega)
  have hx3 : x = 0 ∨ x = 1 ∨ x = 2 := by rw [← hx]; exact Cd.nm_is k
  have wx : wrap64 (1 + x) = 1 + x := by unfold wrap64; omega
  have e3 : ((L : Int) == 1 + x) = false := beq_eq_false_iff_ne.2 hb
  have e4 : ((L : Int) != 1 + x) = true := by simp [bne, e3]
  clear cn hk hk0 hkd hx hx3 hb
  go_wp2_with fail
  refine Calls.mono EO.out ?_
  rintro e2 w2 ⟨rfl, rfl⟩
  go_wp2_with fail
  refine bodyPost_ret (v := iE ⟨0, 0, 0⟩ 61) (by simp [results, Tryd.results32, go_sem, nb1, d0, d1, d2]) rfl ?_
  exact ⟨rfl, belS (belS (belS B1.out HBX.out) HBX.out) HBX.out⟩
set_option maxRecDepth 100000 in
set_option maxHeartbeats 8000000 in
theorem cdParse_0 (s : ByteArray) (B : Nat) (w : World) (ht : Tt B w) (hs : s.size ≤ 3000) (h0 : 0 < s.size) (a : List UInt8) (k : Nat) (hw : Pl.ws s.data.toList = [a]) (hk : Cd.opOf a = k) (hk0 : k ≠ 0) (hx : Cd.nm k = 0) : Calls Tryd.prog 32 #[.string s] w fun e w' => e = .returned (iE ⟨k, 0, 0⟩ 0) ∧ Below w.heap.size w w' := by
  have HT : Hid (Tt B w) := ht
  obtain ⟨b, hbx⟩ : ∃ b, b = w.heap.size := ⟨_, rfl⟩
  obtain ⟨W, hW⟩ : ∃ W, W = w.alloc (inB ⟨0, 0, 0⟩) := ⟨_, rfl⟩
  obtain ⟨b0, b1, b2, bw⟩ := in_box w ⟨0, 0, 0⟩ b W hbx hW
  dsimp only at b0 b1 b2
  have HBX : Hid (w.heap.size ≤ b) := Nat.le_of_eq hbx.symm
  have bl : b < W.heap.size := by rw [hbx, hW]; simp
  have bf : ∀ c : Nat, W.frozen? ⟨b, c, none⟩ = false := fun c => by rw [hbx, hW]; simp [go_sem]
  have EW : Hid _ := cdWords s W hs h0 (ht.later bw).mx
  have BW : Hid (Below w.heap.size w W) := bw
  clear ht bw
  go_enter Tryd.func32, Tryd.ntmps32
  go_upto_region 1 with fail
  rw [← hW, ← hbx]
  clear hW hbx
  go_wp2_with fail
  refine Calls.mono EW.out ?_
  rintro e1 w1 ⟨g, rfl, hg, hc, y1⟩
  rw [hw] at hc ⊢
  have c0 := hc 0 a rfl
  have d0 := (y1.cell (p := ⟨b, 0, none⟩) bl).trans b0
  have d1 := (y1.cell (p := ⟨b, 1, none⟩) bl).trans b1
  have d2 := (y1.cell (p := ⟨b, 2, none⟩) bl).trans b2
  have f0 := (y1.frozen (p := ⟨b, 0, none⟩) bl).trans (bf 0)
  have f1 := (y1.frozen (p := ⟨b, 1, none⟩) bl).trans (bf 1)
  have f2 := (y1.frozen (p := ⟨b, 2, none⟩) bl).trans (bf 2)
  have bl1 : b < w1.heap.size := Nat.lt_of_lt_of_le bl y1.size
  have nb1 : ¬ b = w1.heap.size := Nat.ne_of_lt bl1
  have ng1 : ¬ g = w1.heap.size := Nat.ne_of_lt hg
  have B1 : Hid (Below w.heap.size w w1) := BW.out.trans (y1.mono BW.out.size)
  have T1 := HT.out.later B1.out
  have EO : Hid _ := cdOp_any a B w1 T1.tw
  have cn : ∀ k : Nat, k < 26 → w1.cell? ⟨1, k, none⟩ = some (.int .i64 (Cd.nm k)) := fun k hk => by
    have := T1.tn.get k hk
    rw [this]
    unfold Cd.nm
    rw [Int.toNat_natCast]
  clear hc y1 EW b0 b1 b2 bf bl T1 hw
  have hk26 : k < 26 := by have := (Cd.opOf_is (w := a) (by rw [hk]; exact hk0)).2.1; omega
  have ck := cn k hk26
  rw [hx] at ck
  rw [hk] at EO
  have hkd : decide (k ≠ 0) = true := decide_eq_true hk0
  rw [hkd] at EO
  have g2 : (k : Int) < 26 := by omega
  have g0 : (0 : Int) ≤ (k : Int) := by omega
  have HK0 : Hid (k ≠ 0) := hk0
  clear cn hk hk0 hkd hx
  go_wp2_with fail
  refine Calls.mono EO.out ?_
  rintro e2 w2 ⟨rfl, rfl⟩
  go_wp2_with fail
  refine wp_loop_rounds 5 ?_
  rw [rounds_succ]
  go_wp2_with fail
  obtain ⟨r0, r1, r2, BX⟩ := rd3 (o := (.cells #[(.int .i64 0), (.int .i64 0)] 105)) (k := (.int .i64 (k : Int))) (n := (.int .i64 0)) (m := (.int .i64 0)) B1.out HBX.out bl1 d0 d1 d2
  generalize ((((w2.setCell ⟨b, 0, none⟩ (.int .i64 (k : Int))).setCell ⟨b, 1, none⟩ (.int .i64 0)).setCell ⟨b, 2, none⟩ (.int .i64 0)).alloc (.cells #[(.int .i64 0), (.int .i64 0)] 105)) = X at r0 r1 r2 BX ⊢
  refine bodyPost_ret (v := iE ⟨k, 0, 0⟩ 0) (by simp [results, Tryd.results32, go_sem, r0, r1, r2]) rfl ?_
  exact ⟨rfl, BX⟩
set_option maxRecDepth 100000 in
set_option maxHeartbeats 8000000 in
theorem cdParse_1n (s : ByteArray) (B : Nat) (w : World) (ht : Tt B w) (hs : s.size ≤ 3000) (h0 : 0 < s.size) (a : List UInt8) (c : List UInt8) (k : Nat) (hw : Pl.ws s.data.toList = [a, c]) (hk : Cd.opOf a = k) (hk0 : k ≠ 0) (hx : Cd.nm k = 1) (hc : Pl.parse c = none) : Calls Tryd.prog 32 #[.string s] w fun e w' => e = .returned (iE ⟨0, 0, 0⟩ 61) ∧ Below w.heap.size w w' := by
  have HT : Hid (Tt B w) := ht
  obtain ⟨b, hbx⟩ : ∃ b, b = w.heap.size := ⟨_, rfl⟩
  obtain ⟨W, hW⟩ : ∃ W, W = w.alloc (inB ⟨0, 0, 0⟩) := ⟨_, rfl⟩
  obtain ⟨b0, b1, b2, bw⟩ := in_box w ⟨0, 0, 0⟩ b W hbx hW
  dsimp only at b0 b1 b2
  have HBX : Hid (w.heap.size ≤ b) := Nat.le_of_eq hbx.symm
  have bl : b < W.heap.size := by rw [hbx, hW]; simp
  have bf : ∀ c : Nat, W.frozen? ⟨b, c, none⟩ = false := fun c => by rw [hbx, hW]; simp [go_sem]
  have EW : Hid _ := cdWords s W hs h0 (ht.later bw).mx
  have BW : Hid (Below w.heap.size w W) := bw
  have Hc : Hid (c.length ≤ 3000) := by
    have := ws_mem s.data.toList c (by rw [hw]; simp)
    have e : s.data.toList.length = s.size := by rw [Array.length_toList, ByteArray.size_data]
    exact (by omega : c.length ≤ 3000)
  clear ht bw
  go_enter Tryd.func32, Tryd.ntmps32
  go_upto_region 1 with fail
  rw [← hW, ← hbx]
  clear hW hbx
  go_wp2_with fail
  refine Calls.mono EW.out ?_
  rintro e1 w1 ⟨g, rfl, hg, hc, y1⟩
  rw [hw] at hc ⊢
  have c0 := hc 0 a rfl
  have c1 := hc 1 c rfl
  have d0 := (y1.cell (p := ⟨b, 0, none⟩) bl).trans b0
  have d1 := (y1.cell (p := ⟨b, 1, none⟩) bl).trans b1
  have d2 := (y1.cell (p := ⟨b, 2, none⟩) bl).trans b2
  have f0 := (y1.frozen (p := ⟨b, 0, none⟩) bl).trans (bf 0)
  have f1 := (y1.frozen (p := ⟨b, 1, none⟩) bl).trans (bf 1)
  have f2 := (y1.frozen (p := ⟨b, 2, none⟩) bl).trans (bf 2)
  have bl1 : b < w1.heap.size := Nat.lt_of_lt_of_le bl y1.size
  have nb1 : ¬ b = w1.heap.size := Nat.ne_of_lt bl1
  have ng1 : ¬ g = w1.heap.size := Nat.ne_of_lt hg
  have B1 : Hid (Below w.heap.size w w1) := BW.out.trans (y1.mono BW.out.size)
  have T1 := HT.out.later B1.out
  have EO : Hid _ := cdOp_any a B w1 T1.tw
  have cn : ∀ k : Nat, k < 26 → w1.cell? ⟨1, k, none⟩ = some (.int .i64 (Cd.nm k)) := fun k hk => by
    have := T1.tn.get k hk
    rw [this]
    unfold Cd.nm
    rw [Int.toNat_natCast]
  clear hc y1 EW b0 b1 b2 bf bl T1 hw
  have EP0 : Hid _ := fun W => cdNum_none c Hc.out hc W
  clear hc
  have hk26 : k < 26 := by have := (Cd.opOf_is (w := a) (by rw [hk]; exact hk0)).2.1; omega
  have ck := cn k hk26
  rw [hx] at ck
  rw [hk] at EO
  have hkd : decide (k ≠ 0) = true := decide_eq_true hk0
  rw [hkd] at EO
  have g2 : (k : Int) < 26 := by omega
  have g0 : (0 : Int) ≤ (k : Int) := by omega
  have HK0 : Hid (k ≠ 0) := hk0
  clear cn hk hk0 hkd hx
  go_wp2_with fail
  refine Calls.mono EO.out ?_
  rintro e2 w2 ⟨rfl, rfl⟩
  go_wp2_with fail
  refine wp_loop_rounds 5 ?_
  rw [rounds_succ]
  go_wp2_with fail
  refine Calls.mono (EP0.out _) ?_
  rintro e3 w3 ⟨rfl, rfl⟩
  go_wp2_with fail
  obtain ⟨r0, r1, r2, BX⟩ := rd3 (o := (.cells #[(.int .i64 0), (.int .i64 0)] 105)) (k := (.int .i64 0)) (n := (.int .i64 0)) (m := (.int .i64 0)) B1.out HBX.out bl1 d0 d1 d2
  generalize ((((w2.setCell ⟨b, 0, none⟩ (.int .i64 0)).setCell ⟨b, 1, none⟩ (.int .i64 0)).setCell ⟨b, 2, none⟩ (.int .i64 0)).alloc (.cells #[(.int .i64 0), (.int .i64 0)] 105)) = X at r0 r1 r2 BX ⊢
  refine bodyPost_ret (v := iE ⟨0, 0, 0⟩ 61) (by simp [results, Tryd.results32, go_sem, r0, r1, r2]) rfl ?_
  exact ⟨rfl, BX⟩
set_option maxRecDepth 100000 in
set_option maxHeartbeats 8000000 in
theorem cdParse_1y (s : ByteArray) (B : Nat) (w : World) (ht : Tt B w) (hs : s.size ≤ 3000) (h0 : 0 < s.size) (a : List UInt8) (c : List UInt8) (k : Nat) (hw : Pl.ws s.data.toList = [a, c]) (hk : Cd.opOf a = k) (hk0 : k ≠ 0) (hx : Cd.nm k = 1) (yc : Int) (hc : Pl.parse c = some yc) : Calls Tryd.prog 32 #[.string s] w fun e w' => e = .returned (iE ⟨k, yc, 0⟩ 0) ∧ Below w.heap.size w w' := by
  have HT : Hid (Tt B w) := ht
  obtain ⟨b, hbx⟩ : ∃ b, b = w.heap.size := ⟨_, rfl⟩
  obtain ⟨W, hW⟩ : ∃ W, W = w.alloc (inB ⟨0, 0, 0⟩) := ⟨_, rfl⟩
  obtain ⟨b0, b1, b2, bw⟩ := in_box w ⟨0, 0, 0⟩ b W hbx hW
  dsimp only at b0 b1 b2
  have HBX : Hid (w.heap.size ≤ b) := Nat.le_of_eq hbx.symm
  have bl : b < W.heap.size := by rw [hbx, hW]; simp
  have bf : ∀ c : Nat, W.frozen? ⟨b, c, none⟩ = false := fun c => by rw [hbx, hW]; simp [go_sem]
  have EW : Hid _ := cdWords s W hs h0 (ht.later bw).mx
  have BW : Hid (Below w.heap.size w W) := bw
  have Hc : Hid (c.length ≤ 3000) := by
    have := ws_mem s.data.toList c (by rw [hw]; simp)
    have e : s.data.toList.length = s.size := by rw [Array.length_toList, ByteArray.size_data]
    exact (by omega : c.length ≤ 3000)
  clear ht bw
  go_enter Tryd.func32, Tryd.ntmps32
  go_upto_region 1 with fail
  rw [← hW, ← hbx]
  clear hW hbx
  go_wp2_with fail
  refine Calls.mono EW.out ?_
  rintro e1 w1 ⟨g, rfl, hg, hc, y1⟩
  rw [hw] at hc ⊢
  have c0 := hc 0 a rfl
  have c1 := hc 1 c rfl
  have d0 := (y1.cell (p := ⟨b, 0, none⟩) bl).trans b0
  have d1 := (y1.cell (p := ⟨b, 1, none⟩) bl).trans b1
  have d2 := (y1.cell (p := ⟨b, 2, none⟩) bl).trans b2
  have f0 := (y1.frozen (p := ⟨b, 0, none⟩) bl).trans (bf 0)
  have f1 := (y1.frozen (p := ⟨b, 1, none⟩) bl).trans (bf 1)
  have f2 := (y1.frozen (p := ⟨b, 2, none⟩) bl).trans (bf 2)
  have bl1 : b < w1.heap.size := Nat.lt_of_lt_of_le bl y1.size
  have nb1 : ¬ b = w1.heap.size := Nat.ne_of_lt bl1
  have ng1 : ¬ g = w1.heap.size := Nat.ne_of_lt hg
  have B1 : Hid (Below w.heap.size w w1) := BW.out.trans (y1.mono BW.out.size)
  have T1 := HT.out.later B1.out
  have EO : Hid _ := cdOp_any a B w1 T1.tw
  have cn : ∀ k : Nat, k < 26 → w1.cell? ⟨1, k, none⟩ = some (.int .i64 (Cd.nm k)) := fun k hk => by
    have := T1.tn.get k hk
    rw [this]
    unfold Cd.nm
    rw [Int.toNat_natCast]
  clear hc y1 EW b0 b1 b2 bf bl T1 hw
  have EP0 : Hid _ := fun W => cdNum_some c yc Hc.out hc W
  clear hc
  have hk26 : k < 26 := by have := (Cd.opOf_is (w := a) (by rw [hk]; exact hk0)).2.1; omega
  have ck := cn k hk26
  rw [hx] at ck
  rw [hk] at EO
  have hkd : decide (k ≠ 0) = true := decide_eq_true hk0
  rw [hkd] at EO
  have g2 : (k : Int) < 26 := by omega
  have g0 : (0 : Int) ≤ (k : Int) := by omega
  have HK0 : Hid (k ≠ 0) := hk0
  clear cn hk hk0 hkd hx
  go_wp2_with fail
  refine Calls.mono EO.out ?_
  rintro e2 w2 ⟨rfl, rfl⟩
  go_wp2_with fail
  refine wp_loop_rounds 5 ?_
  rw [rounds_succ]
  go_wp2_with fail
  refine Calls.mono (EP0.out _) ?_
  rintro e3 w3 ⟨rfl, rfl⟩
  go_wp2_with fail
  rw [rounds_succ]
  go_wp2_with fail
  obtain ⟨r0, r1, r2, BX⟩ := rd3 (o := (.cells #[(.int .i64 yc), (.int .i64 0)] 105)) (k := (.int .i64 (k : Int))) (n := (.int .i64 yc)) (m := (.int .i64 0)) B1.out HBX.out bl1 d0 d1 d2
  generalize ((((w2.setCell ⟨b, 0, none⟩ (.int .i64 (k : Int))).setCell ⟨b, 1, none⟩ (.int .i64 yc)).setCell ⟨b, 2, none⟩ (.int .i64 0)).alloc (.cells #[(.int .i64 yc), (.int .i64 0)] 105)) = X at r0 r1 r2 BX ⊢
  refine bodyPost_ret (v := iE ⟨k, yc, 0⟩ 0) (by simp [results, Tryd.results32, go_sem, r0, r1, r2]) rfl ?_
  exact ⟨rfl, BX⟩
set_option maxRecDepth 100000 in
set_option maxHeartbeats 8000000 in
theorem cdParse_2n (s : ByteArray) (B : Nat) (w : World) (ht : Tt B w) (hs : s.size ≤ 3000) (h0 : 0 < s.size) (a : List UInt8) (c : List UInt8) (d : List UInt8) (k : Nat) (hw : Pl.ws s.data.toList = [a, c, d]) (hk : Cd.opOf a = k) (hk0 : k ≠ 0) (hx : Cd.nm k = 2) (hc : Pl.parse c = none) : Calls Tryd.prog 32 #[.string s] w fun e w' => e = .returned (iE ⟨0, 0, 0⟩ 61) ∧ Below w.heap.size w w' := by
  have HT : Hid (Tt B w) := ht
  obtain ⟨b, hbx⟩ : ∃ b, b = w.heap.size := ⟨_, rfl⟩
  obtain ⟨W, hW⟩ : ∃ W, W = w.alloc (inB ⟨0, 0, 0⟩) := ⟨_, rfl⟩
  obtain ⟨b0, b1, b2, bw⟩ := in_box w ⟨0, 0, 0⟩ b W hbx hW
  dsimp only at b0 b1 b2
  have HBX : Hid (w.heap.size ≤ b) := Nat.le_of_eq hbx.symm
  have bl : b < W.heap.size := by rw [hbx, hW]; simp
  have bf : ∀ c : Nat, W.frozen? ⟨b, c, none⟩ = false := fun c => by rw [hbx, hW]; simp [go_sem]
  have EW : Hid _ := cdWords s W hs h0 (ht.later bw).mx
  have BW : Hid (Below w.heap.size w W) := bw
  have Hc : Hid (c.length ≤ 3000) := by
    have := ws_mem s.data.toList c (by rw [hw]; simp)
    have e : s.data.toList.length = s.size := by rw [Array.length_toList, ByteArray.size_data]
    exact (by omega : c.length ≤ 3000)
  have Hd : Hid (d.length ≤ 3000) := by
    have := ws_mem s.data.toList d (by rw [hw]; simp)
    have e : s.data.toList.length = s.size := by rw [Array.length_toList, ByteArray.size_data]
    exact (by omega : d.length ≤ 3000)
  clear ht bw
  go_enter Tryd.func32, Tryd.ntmps32
  go_upto_region 1 with fail
  rw [← hW, ← hbx]
  clear hW hbx
  go_wp2_with fail
  refine Calls.mono EW.out ?_
  rintro e1 w1 ⟨g, rfl, hg, hc, y1⟩
  rw [hw] at hc ⊢
  have c0 := hc 0 a rfl
  have c1 := hc 1 c rfl
  have c2 := hc 2 d rfl
  have d0 := (y1.cell (p := ⟨b, 0, none⟩) bl).trans b0
  have d1 := (y1.cell (p := ⟨b, 1, none⟩) bl).trans b1
  have d2 := (y1.cell (p := ⟨b, 2, none⟩) bl).trans b2
  have f0 := (y1.frozen (p := ⟨b, 0, none⟩) bl).trans (bf 0)
  have f1 := (y1.frozen (p := ⟨b, 1, none⟩) bl).trans (bf 1)
  have f2 := (y1.frozen (p := ⟨b, 2, none⟩) bl).trans (bf 2)
  have bl1 : b < w1.heap.size := Nat.lt_of_lt_of_le bl y1.size
  have nb1 : ¬ b = w1.heap.size := Nat.ne_of_lt bl1
  have ng1 : ¬ g = w1.heap.size := Nat.ne_of_lt hg
  have B1 : Hid (Below w.heap.size w w1) := BW.out.trans (y1.mono BW.out.size)
  have T1 := HT.out.later B1.out
  have EO : Hid _ := cdOp_any a B w1 T1.tw
  have cn : ∀ k : Nat, k < 26 → w1.cell? ⟨1, k, none⟩ = some (.int .i64 (Cd.nm k)) := fun k hk => by
    have := T1.tn.get k hk
    rw [this]
    unfold Cd.nm
    rw [Int.toNat_natCast]
  clear hc y1 EW b0 b1 b2 bf bl T1 hw
  have EP0 : Hid _ := fun W => cdNum_none c Hc.out hc W
  clear hc
  have hk26 : k < 26 := by have := (Cd.opOf_is (w := a) (by rw [hk]; exact hk0)).2.1; omega
  have ck := cn k hk26
  rw [hx] at ck
  rw [hk] at EO
  have hkd : decide (k ≠ 0) = true := decide_eq_true hk0
  rw [hkd] at EO
  have g2 : (k : Int) < 26 := by omega
  have g0 : (0 : Int) ≤ (k : Int) := by omega
  have HK0 : Hid (k ≠ 0) := hk0
  clear cn hk hk0 hkd hx
  go_wp2_with fail
  refine Calls.mono EO.out ?_
  rintro e2 w2 ⟨rfl, rfl⟩
  go_wp2_with fail
  refine wp_loop_rounds 5 ?_
  rw [rounds_succ]
  go_wp2_with fail
  refine Calls.mono (EP0.out _) ?_
  rintro e3 w3 ⟨rfl, rfl⟩
  go_wp2_with fail
  obtain ⟨r0, r1, r2, BX⟩ := rd3 (o := (.cells #[(.int .i64 0), (.int .i64 0)] 105)) (k := (.int .i64 0)) (n := (.int .i64 0)) (m := (.int .i64 0)) B1.out HBX.out bl1 d0 d1 d2
  generalize ((((w2.setCell ⟨b, 0, none⟩ (.int .i64 0)).setCell ⟨b, 1, none⟩ (.int .i64 0)).setCell ⟨b, 2, none⟩ (.int .i64 0)).alloc (.cells #[(.int .i64 0), (.int .i64 0)] 105)) = X at r0 r1 r2 BX ⊢
  refine bodyPost_ret (v := iE ⟨0, 0, 0⟩ 61) (by simp [results, Tryd.results32, go_sem, r0, r1, r2]) rfl ?_
  exact ⟨rfl, BX⟩
set_option maxRecDepth 100000 in
set_option maxHeartbeats 8000000 in
theorem cdParse_2yn (s : ByteArray) (B : Nat) (w : World) (ht : Tt B w) (hs : s.size ≤ 3000) (h0 : 0 < s.size) (a : List UInt8) (c : List UInt8) (d : List UInt8) (k : Nat) (hw : Pl.ws s.data.toList = [a, c, d]) (hk : Cd.opOf a = k) (hk0 : k ≠ 0) (hx : Cd.nm k = 2) (yc : Int) (hc : Pl.parse c = some yc) (hd : Pl.parse d = none) : Calls Tryd.prog 32 #[.string s] w fun e w' => e = .returned (iE ⟨0, 0, 0⟩ 61) ∧ Below w.heap.size w w' := by
  have HT : Hid (Tt B w) := ht
  obtain ⟨b, hbx⟩ : ∃ b, b = w.heap.size := ⟨_, rfl⟩
  obtain ⟨W, hW⟩ : ∃ W, W = w.alloc (inB ⟨0, 0, 0⟩) := ⟨_, rfl⟩
  obtain ⟨b0, b1, b2, bw⟩ := in_box w ⟨0, 0, 0⟩ b W hbx hW
  dsimp only at b0 b1 b2
  have HBX : Hid (w.heap.size ≤ b) := Nat.le_of_eq hbx.symm
  have bl : b < W.heap.size := by rw [hbx, hW]; simp
  have bf : ∀ c : Nat, W.frozen? ⟨b, c, none⟩ = false := fun c => by rw [hbx, hW]; simp [go_sem]
  have EW : Hid _ := cdWords s W hs h0 (ht.later bw).mx
  have BW : Hid (Below w.heap.size w W) := bw
  have Hc : Hid (c.length ≤ 3000) := by
    have := ws_mem s.data.toList c (by rw [hw]; simp)
    have e : s.data.toList.length = s.size := by rw [Array.length_toList, ByteArray.size_data]
    exact (by omega : c.length ≤ 3000)
  have Hd : Hid (d.length ≤ 3000) := by
    have := ws_mem s.data.toList d (by rw [hw]; simp)
    have e : s.data.toList.length = s.size := by rw [Array.length_toList, ByteArray.size_data]
    exact (by omega : d.length ≤ 3000)
  clear ht bw
  go_enter Tryd.func32, Tryd.ntmps32
  go_upto_region 1 with fail
  rw [← hW, ← hbx]
  clear hW hbx
  go_wp2_with fail
  refine Calls.mono EW.out ?_
  rintro e1 w1 ⟨g, rfl, hg, hc, y1⟩
  rw [hw] at hc ⊢
  have c0 := hc 0 a rfl
  have c1 := hc 1 c rfl
  have c2 := hc 2 d rfl
  have d0 := (y1.cell (p := ⟨b, 0, none⟩) bl).trans b0
  have d1 := (y1.cell (p := ⟨b, 1, none⟩) bl).trans b1
  have d2 := (y1.cell (p := ⟨b, 2, none⟩) bl).trans b2
  have f0 := (y1.frozen (p := ⟨b, 0, none⟩) bl).trans (bf 0)
  have f1 := (y1.frozen (p := ⟨b, 1, none⟩) bl).trans (bf 1)
  have f2 := (y1.frozen (p := ⟨b, 2, none⟩) bl).trans (bf 2)
  have bl1 : b < w1.heap.size := Nat.lt_of_lt_of_le bl y1.size
  have nb1 : ¬ b = w1.heap.size := Nat.ne_of_lt bl1
  have ng1 : ¬ g = w1.heap.size := Nat.ne_of_lt hg
  have B1 : Hid (Below w.heap.size w w1) := BW.out.trans (y1.mono BW.out.size)
  have T1 := HT.out.later B1.out
  have EO : Hid _ := cdOp_any a B w1 T1.tw
  have cn : ∀ k : Nat, k < 26 → w1.cell? ⟨1, k, none⟩ = some (.int .i64 (Cd.nm k)) := fun k hk => by
    have := T1.tn.get k hk
    rw [this]
    unfold Cd.nm
    rw [Int.toNat_natCast]
  clear hc y1 EW b0 b1 b2 bf bl T1 hw
  have EP0 : Hid _ := fun W => cdNum_some c yc Hc.out hc W
  have EP1 : Hid _ := fun W => cdNum_none d Hd.out hd W
  clear hc hd
  have hk26 : k < 26 := by have := (Cd.opOf_is (w := a) (by rw [hk]; exact hk0)).2.1; omega
  have ck := cn k hk26
  rw [hx] at ck
  rw [hk] at EO
  have hkd : decide (k ≠ 0) = true := decide_eq_true hk0
  rw [hkd] at EO
  have g2 : (k : Int) < 26 := by omega
  have g0 : (0 : Int) ≤ (k : Int) := by omega
  have HK0 : Hid (k ≠ 0) := hk0
  clear cn hk hk0 hkd hx
  go_wp2_with fail
  refine Calls.mono EO.out ?_
  rintro e2 w2 ⟨rfl, rfl⟩
  go_wp2_with fail
  refine wp_loop_rounds 5 ?_
  rw [rounds_succ]
  go_wp2_with fail
  refine Calls.mono (EP0.out _) ?_
  rintro e3 w3 ⟨rfl, rfl⟩
  go_wp2_with fail
  rw [rounds_succ]
  go_wp2_with fail
  refine Calls.mono (EP1.out _) ?_
  rintro e4 w4 ⟨rfl, rfl⟩
  go_wp2_with fail
  obtain ⟨r0, r1, r2, BX⟩ := rd3 (o := (.cells #[(.int .i64 yc), (.int .i64 0)] 105)) (k := (.int .i64 0)) (n := (.int .i64 0)) (m := (.int .i64 0)) B1.out HBX.out bl1 d0 d1 d2
  generalize ((((w2.setCell ⟨b, 0, none⟩ (.int .i64 0)).setCell ⟨b, 1, none⟩ (.int .i64 0)).setCell ⟨b, 2, none⟩ (.int .i64 0)).alloc (.cells #[(.int .i64 yc), (.int .i64 0)] 105)) = X at r0 r1 r2 BX ⊢
  refine bodyPost_ret (v := iE ⟨0, 0, 0⟩ 61) (by simp [results, Tryd.results32, go_sem, r0, r1, r2]) rfl ?_
  exact ⟨rfl, BX⟩
set_option maxRecDepth 100000 in
set_option maxHeartbeats 8000000 in
theorem cdParse_2yy (s : ByteArray) (B : Nat) (w : World) (ht : Tt B w) (hs : s.size ≤ 3000) (h0 : 0 < s.size) (a : List UInt8) (c : List UInt8) (d : List UInt8) (k : Nat) (hw : Pl.ws s.data.toList = [a, c, d]) (hk : Cd.opOf a = k) (hk0 : k ≠ 0) (hx : Cd.nm k = 2) (yc : Int) (hc : Pl.parse c = some yc) (yd : Int) (hd : Pl.parse d = some yd) : Calls Tryd.prog 32 #[.string s] w fun e w' => e = .returned (iE ⟨k, yc, yd⟩ 0) ∧ Below w.heap.size w w' := by
  have HT : Hid (Tt B w) := ht
  obtain ⟨b, hbx⟩ : ∃ b, b = w.heap.size := ⟨_, rfl⟩
  obtain ⟨W, hW⟩ : ∃ W, W = w.alloc (inB ⟨0, 0, 0⟩) := ⟨_, rfl⟩
  obtain ⟨b0, b1, b2, bw⟩ := in_box w ⟨0, 0, 0⟩ b W hbx hW
  dsimp only at b0 b1 b2
  have HBX : Hid (w.heap.size ≤ b) := Nat.le_of_eq hbx.symm
  have bl : b < W.heap.size := by rw [hbx, hW]; simp
  have bf : ∀ c : Nat, W.frozen? ⟨b, c, none⟩ = false := fun c => by rw [hbx, hW]; simp [go_sem]
  have EW : Hid _ := cdWords s W hs h0 (ht.later bw).mx
  have BW : Hid (Below w.heap.size w W) := bw
  have Hc : Hid (c.length ≤ 3000) := by
    have := ws_mem s.data.toList c (by rw [hw]; simp)
    have e : s.data.toList.length = s.size := by rw [Array.length_toList, ByteArray.size_data]
    exact (by omega : c.length ≤ 3000)
  have Hd : Hid (d.length ≤ 3000) := by
    have := ws_mem s.data.toList d (by rw [hw]; simp)
    have e : s.data.toList.length = s.size := by rw [Array.length_toList, ByteArray.size_data]
    exact (by omega : d.length ≤ 3000)
  clear ht bw
  go_enter Tryd.func32, Tryd.ntmps32
  go_upto_region 1 with fail
  rw [← hW, ← hbx]
  clear hW hbx
  go_wp2_with fail
  refine Calls.mono EW.out ?_
  rintro e1 w1 ⟨g, rfl, hg, hc, y1⟩
  rw [hw] at hc ⊢
  have c0 := hc 0 a rfl
  have c1 := hc 1 c rfl
  have c2 := hc 2 d rfl
  have d0 := (y1.cell (p := ⟨b, 0, none⟩) bl).trans b0
  have d1 := (y1.cell (p := ⟨b, 1, none⟩) bl).trans b1
  have d2 := (y1.cell (p := ⟨b, 2, none⟩) bl).trans b2
  have f0 := (y1.frozen (p := ⟨b, 0, none⟩) bl).trans (bf 0)
  have f1 := (y1.frozen (p := ⟨b, 1, none⟩) bl).trans (bf 1)
  have f2 := (y1.frozen (p := ⟨b, 2, none⟩) bl).trans (bf 2)
  have bl1 : b < w1.heap.size := Nat.lt_of_lt_of_le bl y1.size
  have nb1 : ¬ b = w1.heap.size := Nat.ne_of_lt bl1
  have ng1 : ¬ g = w1.heap.size := Nat.ne_of_lt hg
  have B1 : Hid (Below w.heap.size w w1) := BW.out.trans (y1.mono BW.out.size)
  have T1 := HT.out.later B1.out
  have EO : Hid _ := cdOp_any a B w1 T1.tw
  have cn : ∀ k : Nat, k < 26 → w1.cell? ⟨1, k, none⟩ = some (.int .i64 (Cd.nm k)) := fun k hk => by
    have := T1.tn.get k hk
    rw [this]
    unfold Cd.nm
    rw [Int.toNat_natCast]
  clear hc y1 EW b0 b1 b2 bf bl T1 hw
  have EP0 : Hid _ := fun W => cdNum_some c yc Hc.out hc W
  have EP1 : Hid _ := fun W => cdNum_some d yd Hd.out hd W
  clear hc hd
  have hk26 : k < 26 := by have := (Cd.opOf_is (w := a) (by rw [hk]; exact hk0)).2.1; omega
  have ck := cn k hk26
  rw [hx] at ck
  rw [hk] at EO
  have hkd : decide (k ≠ 0) = true := decide_eq_true hk0
  rw [hkd] at EO
  have g2 : (k : Int) < 26 := by omega
  have g0 : (0 : Int) ≤ (k : Int) := by omega
  have HK0 : Hid (k ≠ 0) := hk0
  clear cn hk hk0 hkd hx
  go_wp2_with fail
  refine Calls.mono EO.out ?_
  rintro e2 w2 ⟨rfl, rfl⟩
  go_wp2_with fail
  refine wp_loop_rounds 5 ?_
  rw [rounds_succ]
  go_wp2_with fail
  refine Calls.mono (EP0.out _) ?_
  rintro e3 w3 ⟨rfl, rfl⟩
  go_wp2_with fail
  rw [rounds_succ]
  go_wp2_with fail
  refine Calls.mono (EP1.out _) ?_
  rintro e4 w4 ⟨rfl, rfl⟩
  go_wp2_with fail
  rw [rounds_succ]
  go_wp2_with fail
  obtain ⟨r0, r1, r2, BX⟩ := rd3 (o := (.cells #[(.int .i64 yc), (.int .i64 yd)] 105)) (k := (.int .i64 (k : Int))) (n := (.int .i64 yc)) (m := (.int .i64 yd)) B1.out HBX.out bl1 d0 d1 d2
  generalize ((((w2.setCell ⟨b, 0, none⟩ (.int .i64 (k : Int))).setCell ⟨b, 1, none⟩ (.int .i64 yc)).setCell ⟨b, 2, none⟩ (.int .i64 yd)).alloc (.cells #[(.int .i64 yc), (.int .i64 yd)] 105)) = X at r0 r1 r2 BX ⊢
  refine bodyPost_ret (v := iE ⟨k, yc, yd⟩ 0) (by simp [results, Tryd.results32, go_sem, r0, r1, r2]) rfl ?_
  exact ⟨rfl, BX⟩
/-- The instruction of every line of at most 3000 bytes. -/
theorem cdParse_any (s : ByteArray) (B : Nat) (w : World) (ht : Tt B w) (hs : s.size ≤ 3000) : Calls Tryd.prog 32 #[.string s] w fun e w' => e = .returned (pzE s.data.toList) ∧ Below w.heap.size w w' := by
  by_cases h0 : s.size = 0
  · exact cdParse_empty s w h0
  · have h0' : 0 < s.size := by omega
    have hne := size_ne h0'
    obtain ⟨a, r, hw⟩ : ∃ a r, Pl.ws s.data.toList = a :: r := by
      cases e : Pl.ws s.data.toList with
      | nil => exact absurd e (Pl.ws_ne _)
      | cons a r => exact ⟨a, r, rfl⟩
    have hz : Cd.pz s.data.toList = match Pl.ws s.data.toList with
      | [a] => if Cd.opOf a ≠ 0 ∧ Cd.nm (Cd.opOf a) = 0 then some ⟨Cd.opOf a, 0, 0⟩ else none
      | [a, b] => if Cd.opOf a ≠ 0 ∧ Cd.nm (Cd.opOf a) = 1 then (Pl.parse b).map fun n => ⟨Cd.opOf a, n, 0⟩ else none
      | [a, b, c] => if Cd.opOf a ≠ 0 ∧ Cd.nm (Cd.opOf a) = 2 then (Pl.parse b).bind fun n => (Pl.parse c).map fun m => ⟨Cd.opOf a, n, m⟩ else none
      | _ => none := by unfold Cd.pz; rw [if_neg hne]; rfl
    by_cases ho : Cd.opOf a = 0
    · have : Cd.pz s.data.toList = none := by
        rw [hz, hw]
        match r with
        | [] => simp [ho]
        | [b] => simp [ho]
        | [b, c] => simp [ho]
        | _ :: _ :: _ :: _ => rfl
      rw [pzE_no this]
      exact cdParse_op s B w ht hs h0' a _ (by rw [hw]; rfl) rfl ho
    · by_cases hl : (((Pl.ws s.data.toList).length : Nat) : Int) = 1 + Cd.nm (Cd.opOf a : Nat)
      · rw [hw] at hl
        match r, hw, hl with
        | [], hw, hl =>
          have hx : Cd.nm (Cd.opOf a : Nat) = 0 := by simp at hl; omega
          rw [pzE_yes (by rw [hz, hw]; exact if_pos ⟨ho, hx⟩)]
          exact cdParse_0 s B w ht hs h0' a _ hw rfl ho hx
        | [c], hw, hl =>
          have hx : Cd.nm (Cd.opOf a : Nat) = 1 := by simp at hl; omega
          cases hc : Pl.parse c with
          | none =>
            rw [pzE_no (by rw [hz, hw]; dsimp only; rw [if_pos ⟨ho, hx⟩, hc]; rfl)]
            exact cdParse_1n s B w ht hs h0' a c _ hw rfl ho hx hc
          | some y =>
            rw [pzE_yes (by rw [hz, hw]; dsimp only; rw [if_pos ⟨ho, hx⟩, hc]; rfl)]
            exact cdParse_1y s B w ht hs h0' a c _ hw rfl ho hx y hc
        | [c, d], hw, hl =>
          have hx : Cd.nm (Cd.opOf a : Nat) = 2 := by simp at hl; omega
          cases hc : Pl.parse c with
          | none =>
            rw [pzE_no (by rw [hz, hw]; dsimp only; rw [if_pos ⟨ho, hx⟩, hc]; rfl)]
            exact cdParse_2n s B w ht hs h0' a c d _ hw rfl ho hx hc
          | some y =>
            cases hd : Pl.parse d with
            | none =>
              rw [pzE_no (by rw [hz, hw]; dsimp only; rw [if_pos ⟨ho, hx⟩, hc, hd]; rfl)]
              exact cdParse_2yn s B w ht hs h0' a c d _ hw rfl ho hx y hc hd
            | some z =>
              rw [pzE_yes (by rw [hz, hw]; dsimp only; rw [if_pos ⟨ho, hx⟩, hc, hd]; rfl)]
              exact cdParse_2yy s B w ht hs h0' a c d _ hw rfl ho hx y hc z hd
        | _ :: _ :: _ :: r, hw, hl =>
          have := Cd.nm_is (Cd.opOf a : Nat)
          simp at hl
          omega
      · have : Cd.pz s.data.toList = none := by
          rw [hz, hw]
          rw [hw] at hl
          match r with
          | [] => exact if_neg fun h => hl (by rw [h.2]; rfl)
          | [b] => exact if_neg fun h => hl (by rw [h.2]; rfl)
          | [b, c] => exact if_neg fun h => hl (by rw [h.2]; rfl)
          | _ :: _ :: _ :: _ => rfl
        rw [pzE_no this]
        exact cdParse_len s B w ht hs h0' a _ _ (by rw [hw]; rfl) rfl rfl ho _ rfl hl
end Go.Proofs.YtdllgbhdodjdbaaDoor
