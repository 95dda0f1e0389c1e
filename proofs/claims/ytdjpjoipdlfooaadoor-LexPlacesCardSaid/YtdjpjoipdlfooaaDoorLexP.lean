/- LexPlaces walked. -/
import Derived.Test.YtdjpjoipdlfooaaDoorScanQ
import Derived.Test.YtdjpjoipdlfooaaDoorLexV
import Derived.Test.YtdjpjoipdlfooaaDoorLexF
namespace Go.Proofs.YtdjpjoipdlfooaaDoor
open Go.RowKit

/-- Longer than the statements look at, but not too long? -/
def lgB (n : Nat) : Bool := decide (3000 < n) && decide (n ≤ 16384)
set_option maxRecDepth 100000 in
theorem long2_any (s : ByteArray) (w : World) : Calls Tryd.prog 15 #[.string s] w fun e w' => e = .returned (.bool (lgB s.size)) ∧ w' = w := by
  by_cases h3 : 3000 < s.size
  · by_cases h4 : s.size ≤ 16384
    · have H : Hid (lgB s.size = true) := by unfold Hid lgB; simp [h3, h4]
      go_enter Tryd.func15, Tryd.ntmps15
      go_wp2_with fail
      go_ret
      rw [H.out]
      exact ⟨by go_num, rfl⟩
    · have H : Hid (lgB s.size = false) := by unfold Hid lgB; simp [h4]
      go_enter Tryd.func15, Tryd.ntmps15
      go_wp2_with fail
      go_ret
      rw [H.out]
      exact ⟨by go_num, rfl⟩
  · have H : Hid (lgB s.size = false) := by unfold Hid lgB; simp [h3]
    go_enter Tryd.func15, Tryd.ntmps15
    go_wp2_with fail
    go_ret
    rw [H.out]
    exact ⟨by go_num, rfl⟩

theorem mid_text {x : Tok} (h : midTk x = true) : x.1.text.length ≤ (txt x).length := by
  unfold txt
  split
  · rename_i hk
    unfold midTk rtk at h
    rw [hk] at h
    simp at h
    rw [h.1]; exact Nat.zero_le _
  · exact Nat.le_refl _
set_option maxRecDepth 100000 in
set_option maxHeartbeats 400000 in
theorem places_long (s : ByteArray) (w : World) (ht : Kw w ∧ Tab w) (h3 : lgB s.size = true) : Calls Tryd.prog 5 #[.string s] w fun e w' => e = .returned (.bool true) ∧ Below w.heap.size w w' := by
  have HT : Hid (Kw w ∧ Tab w) := ht
  have H3 : Hid (lgB s.size = true) := h3
  clear ht h3
  go_enter Tryd.func5, Tryd.ntmps5
  go_wp2_with fail
  refine (long2_any s _).mono ?_
  rintro e w' ⟨rfl, rfl⟩
  rw [H3.out]
  go_wp2_with fail
  refine (known2 _ HT.out.1 HT.out.2).mono ?_
  rintro e w2 ⟨rfl, b2⟩
  go_wp2_with fail
  go_ret
  exact ⟨rfl, b2⟩
set_option maxRecDepth 100000 in
set_option maxHeartbeats 400000 in
theorem places_err (s : ByteArray) (w : World) (ht : Kw w ∧ Tab w) (h3 : lgB s.size = false) (he : ¬ (Lx.scan s.data.toList).2.2 = 0) : Calls Tryd.prog 5 #[.string s] w fun e w' => e = .returned (.bool true) ∧ Below w.heap.size w w' := by
  have HT : Hid (Kw w ∧ Tab w) := ht
  have H3 : Hid (lgB s.size = false) := h3
  obtain ⟨e1, e2⟩ := scan_err he
  have E1 : Hid ((Lx.scan s.data.toList).1 = []) := e1
  have heb : ((Lx.scan s.data.toList).2.2 == 0) = false := beq_eq_false_iff_ne.2 he
  rw [size_len'] at e2
  clear ht h3 he e1
  go_enter Tryd.func5, Tryd.ntmps5
  go_wp2_with fail
  refine (long2_any s _).mono ?_
  rintro e w' ⟨rfl, rfl⟩
  rw [H3.out]
  go_wp2_with fail
  refine (scan_any s _ HT.out.1).mono ?_
  rintro e w1 ⟨v, rfl, ho, b1⟩
  rw [E1.out] at ho
  obtain ⟨ao, cap, rfl⟩ := ho.shape
  generalize (Lx.scan s.data.toList).2.2 = er at heb ⊢
  generalize (Lx.scan s.data.toList).2.1 = a at e2 ⊢
  clear ho
  have T1 : Hid (Kw w1 ∧ Tab w1) := ⟨HT.out.1.later b1, HT.out.2.later b1 (Nat.le_refl _)⟩
  go_wp2_with fail
  refine (known2 _ T1.out.1 T1.out.2).mono ?_
  rintro e w2 ⟨rfl, b2⟩
  go_wp2_with fail
  go_ret
  exact ⟨rfl, b1.trans (b2.mono b1.size)⟩

set_option maxRecDepth 100000 in
set_option maxHeartbeats 2000000 in
theorem places_ok (s : ByteArray) (R : List (Lx.Tk × Nat)) (w : World) (ht : Kw w ∧ Tab w) (h3 : s.size ≤ 3000) (hs : Lx.scan s.data.toList = (R, 0, 0)) : Calls Tryd.prog 5 #[.string s] w fun e w' => e = .returned (.bool true) ∧ Below w.heap.size w w' := by
  have HT : Hid (Kw w ∧ Tab w) := ht
  have H3 : Hid (lgB s.size = false) := by unfold Hid lgB; rw [decide_eq_false (by omega)]; rfl
  have HS : Hid (Lx.scan s.data.toList = (R, 0, 0)) := hs
  obtain ⟨hT, h4⟩ := Lx.scan_toks hs
  have hR := hT.ne
  obtain ⟨st1, st2⟩ := toks_stand hT (Nat.zero_le _)
  have HR : Hid (rightL (R.map tkI) = true) := toks_right hT
  have ST1 : Hid (∀ i, i + 1 < R.length → Stands s.data.toList R i) := st1
  have h0 : 0 < R.length := by cases R with | nil => exact absurd rfl hR | cons a b => simp
  obtain ⟨m, hm⟩ : ∃ m, R.length = m + 1 := ⟨R.length - 1, by omega⟩
  rw [hm, Nat.add_sub_cancel, size_len'] at st2
  have ST2 : Hid (R.getD m tk0 = (⟨0, [], 0⟩, s.size)) := st2
  have HM : Hid (R.length = m + 1) := hm
  have hm4 : m < 4000 := by omega
  clear ht hs hT st1 st2
  go_enter Tryd.func5, Tryd.ntmps5
  go_wp2_with fail
  refine (long2_any s _).mono ?_
  rintro e w0 ⟨rfl, hw⟩
  rw [hw, H3.out]
  clear hw
  go_wp2_with fail
  refine (scan_any s _ HT.out.1).mono ?_
  rintro e w1 ⟨v, rfl, ho, b1⟩
  rw [HS.out] at ho ⊢
  obtain ⟨g, cap, rfl, hcap, hg, T⟩ := ho.ta hR
  have TA : Hid (Ta w1 g 0 (R.map tkI)) := T
  have B1 : Hid (Below w.heap.size w w1) := b1
  have RC : Hid (Calls Tryd.prog 11 #[.slice (some ⟨g, 0, none⟩) (m + 1) cap] w1 fun e w' => e = .returned (.bool true) ∧ Below w1.heap.size w1 w') := by
    have := right_some g 0 cap (R.map tkI) w1 T (by simp; omega) (by simp; omega) (by simp; omega) (fun j hj => by
      rw [List.length_map] at hj
      rw [map_tk R j hj]
      by_cases e : j + 1 < R.length
      · have h1 := ST1.out j e
        have h2 := h1.le
        have h5 := h1.lt
        rw [size_len'] at h5
        have h6 := mid_text h1.mid
        show (tkI (R.getD j tk0)).1.text.length ≤ maxLen
        unfold maxLen; omega
      · have e2 : j = m := by omega
        rw [e2, ST2.out]; exact Nat.zero_le _) (HT.out.1.later b1)
    rw [List.length_map, hm, HR.out] at this
    exact this
  rw [hm] at hcap ⊢
  clear ho hR T b1 hm h0 h4
  go_wp2_with fail
  refine RC.out.mono ?_
  rintro e w2 ⟨rfl, b2⟩
  have B2 : Hid (Below w.heap.size w w2) := B1.out.trans (b2.mono B1.out.size)
  have TA2 : Hid (Ta w2 g 0 (R.map tkI)) := TA.out.later b2
  have hcl : w2.cell? ⟨g, m * 4 + 3, none⟩ = some (.int .i64 (s.size : Int)) := by
    have h := HM.out
    have := TA2.out.c3 m (by simp; omega)
    rw [Nat.zero_add, map_tk R m (by omega), ST2.out] at this
    exact this
  clear b2
  go_wp2_with fail
  clear hcl
  go_loopw [6] (fun i wr => ∃ k : Nat, k ≤ m ∧ i = .int .i64 k ∧ Below w2.heap.size w2 wr) (fun i _ => m - (intOf i).toNat)
  case atStart => exact ⟨0, by omega, rfl, Below.refl _ _⟩
  case round =>
    obtain ⟨k, hk, rfl, hnx⟩ := hrel
    have NX : Hid (Below w2.heap.size w2 wr) := hnx
    clear hnx
    by_cases hlt : k < m
    · have TA3 := TA2.out.later NX.out
      have hgl := TA3.lt
      have hkl : Hid (k + 1 < R.length) := by have := HM.out; unfold Hid; omega
      obtain ⟨s1, s2, s3, n0, n1, s4⟩ := ST1.out k hkl.out
      have hk1 : k < R.length := by have := hkl.out; omega
      have c0 := TA3.c0 k (by simpa using hk1)
      have c1 := TA3.c1 k (by simpa using hk1)
      have c2 := TA3.c2 k (by simpa using hk1)
      have c3 := TA3.c3 k (by simpa using hk1)
      have d3 := TA3.c3 (k + 1) (by simpa using hkl.out)
      rw [Nat.zero_add, map_tk R k hk1] at c0 c1 c2 c3
      rw [Nat.zero_add, map_tk R (k + 1) hkl.out] at d3
      generalize R.getD k tk0 = x at s1 s2 s4 n0 n1 c0 c1 c2 c3
      generalize R.getD (k + 1) tk0 = y at s2 s3 d3
      obtain ⟨⟨kd, tx, nm⟩, a⟩ := x
      obtain ⟨yt, a2⟩ := y
      have hte := mid_text s1
      obtain ⟨tb, htb⟩ : ∃ tb : ByteArray, tb = ⟨(txt (tkI (⟨kd, tx, nm⟩, a))).toArray⟩ := ⟨_, rfl⟩
      have hts : (txt (tkI (⟨kd, tx, nm⟩, a))).length = tb.size := by rw [htb, size_text]
      rw [size_len'] at s3
      have TX : Hid (∀ w, Calls Tryd.prog 16 #[.agg #[.int .i64 kd, .string ⟨tx.toArray⟩, .int .i64 nm, .int .i64 (a : Int)]] w fun e w' => e = .returned (.tuple #[.string tb, .bool true]) ∧ Below w.heap.size w w') := fun w => by
        have := rtxt_any (tkI (⟨kd, tx, nm⟩, a)) w (by simp only [tkI] at hte hts s2 ⊢; omega) n0 n1
        rw [s1, ← htb] at this
        exact this
      rw [hts] at s2 s4
      have hse : ((s.extract a (a + tb.size)).toList == tb.toList) = true := by
        rw [ByteArray.toList_eq, ByteArray.toList_eq, Lib.extract_data]
        have e : tb.data.toList = (s.data.toList.drop a).take tb.size := by rw [s4, htb]
        rw [e]
        simp [List.take_drop]
      clear s1 hte hts s4 n0 n1 htb
      simp only [tkI] at c0 c1 c2 c3 d3 s2 s3
      have g1 : decide ((a : Int) < 0) = false := decide_eq_false (by omega)
      have g2 : decide ((a2 : Int) < (a : Int) + (tb.size : Int)) = false := decide_eq_false (by omega)
      have g3 : decide ((s.size : Int) < (a2 : Int)) = false := decide_eq_false (by omega)
      have i0 : (0 : Int) ≤ (k : Int) := by omega
      have i1 : (k : Int) < (m : Int) + 1 := by omega
      have i2 : (k : Int) + 1 < (m : Int) + 1 := by omega
      have i3 : (0 : Int) ≤ (k : Int) + 1 := by omega
      have i4 : k < m + 1 := by omega
      have i5 : k + 1 < m + 1 := by omega
      have i6 : ((k : Int) + 1).toNat = k + 1 := by omega
      have i7 : (0 : Int) ≤ (a : Int) := by omega
      have i8 : (a : Int) ≤ (a : Int) + (tb.size : Int) := by omega
      have i9 : (a : Int) + (tb.size : Int) ≤ (s.size : Int) := by omega
      have w1 : IntKind.i64.wrap ((k : Int) + 1) = (k : Int) + 1 := by rw [IntKind.wrap_i64]; omega
      have w2' : IntKind.i64.wrap ((a : Int) + (tb.size : Int)) = (a : Int) + (tb.size : Int) := by rw [IntKind.wrap_i64]; omega
      have i10 : ((a : Int) + (tb.size : Int)).toNat = a + tb.size := by omega
      clear TA3
      go_wp2_with fail
      refine (TX.out _).mono ?_
      rintro e w3 ⟨rfl, b3⟩
      have e3 : w3.cell? ⟨g, k * 4 + 3, none⟩ = some (.int .i64 (a : Int)) := (b3.cell (p := ⟨g, k * 4 + 3, none⟩) hgl).trans c3
      have f3 : w3.cell? ⟨g, (k + 1) * 4 + 3, none⟩ = some (.int .i64 (a2 : Int)) := (b3.cell (p := ⟨g, (k + 1) * 4 + 3, none⟩) hgl).trans d3
      have B4 : Hid (Below w2.heap.size w2 w3) := NX.out.trans (b3.mono NX.out.size)
      clear b3 c0 c1 c2 c3 d3
      go_wp2_with fail
      go_quiet (fail)
      have B5 : Hid _ := below_drewN B4.out nq
      generalize w3.drewN nq = wq at B5 ⊢
      clear e3 f3 g1 g2 g3 i7 i8 i9 i10 w2' hse
      go_wp2_with fail
      go_roundw
      case rel => exact ⟨k + 1, by omega, by go_num, B5.out⟩
      case measure => simp [intOf]; omega
    · obtain rfl : k = m := by omega
      have B3 : Hid (Below w.heap.size w wr) := B2.out.trans (NX.out.mono B2.out.size)
      go_wp2_with fail
      refine (known2 _ (HT.out.1.later B3.out) (HT.out.2.later B3.out (Nat.le_refl _))).mono ?_
      rintro e w4 ⟨rfl, b4⟩
      go_wp2_with fail
      go_ret
      exact ⟨rfl, B3.out.trans (b4.mono B3.out.size)⟩
theorem places_walk (s : ByteArray) (w : World) (ht : Kw w ∧ Tab w) (_hz : s.size ≤ 140737488351232) : Calls Tryd.prog 5 #[.string s] w fun e w' => e = .returned (.bool true) ∧ Below w.heap.size w w' := by
  cases h3 : lgB s.size with
  | true => exact places_long s w ht h3
  | false =>
    by_cases he : (Lx.scan s.data.toList).2.2 = 0
    · refine places_ok s _ w ht ?_ (scan_ok he)
      unfold lgB at h3
      simp at h3
      by_cases h : 16384 < s.size
      · unfold Lx.scan at he
        rw [if_pos (by rw [size_len']; exact h)] at he
        exact absurd he (show ¬ (2 : Int) = 0 by decide)
      · omega
    · exact places_err s w ht h3 he
end Go.Proofs.YtdjpjoipdlfooaaDoor
