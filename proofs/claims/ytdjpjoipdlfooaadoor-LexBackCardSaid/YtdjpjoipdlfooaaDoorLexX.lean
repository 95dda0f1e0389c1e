/- The reference's Size, Right and Print of tokens, each for every tokens that are not too many. -/
import Derived.Test.YtdjpjoipdlfooaaDoorLexV
import Derived.Test.YtdjpjoipdlfooaaDoorLexT
namespace Go.Proofs.YtdjpjoipdlfooaaDoor
open Go.RowKit

set_option maxRecDepth 100000 in
set_option maxHeartbeats 400000 in
theorem rjoin_big (b o cap : Nat) (xs : List ByteArray) (w : World) (hx : Sa w b o xs) (ht : tot xs xs.length ≤ 1000000) (hl : xs.length ≤ 1000000) :
    Calls Tryd.prog 21 #[.slice (some ⟨b, o, none⟩) xs.length cap] w fun e w' => e = .returned (.string ⟨(Lib.join (xs.map (·.data.toList)) [32]).toArray⟩) ∧ w' = w := by
  have HX : Hid (Sa w b o xs) := hx
  have HT : Hid (∀ k, k ≤ xs.length → tot xs k ≤ 1000000) := fun k hk => Nat.le_trans (tot_mono xs k _ hk) ht
  clear hx ht
  go_enter Tryd.func21, Tryd.ntmps21
  go_wp2
  go_loop [3, 4] (fun t i => ∃ (k : Nat) (j : ByteArray), k ≤ xs.length ∧ i = .int .i64 k ∧ t = .string j ∧ j.size ≤ 1000000 ∧ Hid (j.data.toList = Lib.join ((xs.take k).map (·.data.toList)) [32])) (fun _ i => xs.length - (intOf i).toNat)
  case atStart => exact ⟨0, ⟨#[]⟩, by omega, rfl, rfl, Nat.zero_le _, rfl⟩
  case round =>
    obtain ⟨k, j, hk, rfl, rfl, hj, J⟩ := hrel
    by_cases hlt : k < xs.length
    · obtain ⟨s, hs⟩ : ∃ s, s = xs.getD k ByteArray.empty := ⟨_, rfl⟩
      have hA : w.cell? ⟨b, o + k, none⟩ = some (.string s) := by rw [hs]; exact HX.out.get k hlt
      have hsb : s.size ≤ 1000000 := by
        have h1 := HT.out (k + 1) hlt
        rw [tot_succ xs k hlt, ← hs] at h1
        omega
      have HS : Hid (s = xs.getD k ByteArray.empty) := hs
      clear hs
      have HL : Hid ((Lib.join ((xs.take (k + 1)).map (·.data.toList)) [32]).length ≤ 1000000) := Nat.le_trans (join_len xs (k + 1) hlt) (HT.out (k + 1) hlt)
      by_cases hk0 : 0 < k
      · have J' : Hid ((j ++ ⟨#[32]⟩ ++ s).data.toList = Lib.join ((xs.take (k + 1)).map (·.data.toList)) [32]) := by
          unfold Hid
          rw [map_take_succ xs k hlt, ← HS.out, Pl.join_snoc _ _ (by
            intro e
            have := congrArg List.length e
            rw [List.length_map, List.length_take, List.length_nil] at this
            omega), ← J.out]
          simp
        have hjs : (j ++ ⟨#[32]⟩ ++ s).size ≤ 1000000 := by
          have := HL.out
          rw [← J'.out, Array.length_toList, ByteArray.size_data] at this
          exact this
        have hj1 : (j ++ ⟨#[32]⟩ : ByteArray).size ≤ 1000001 := by rw [ByteArray.size_append]; show j.size + 1 ≤ 1000001; omega
        go_wp2
        exact ⟨⟨k + 1, _, by omega, by go_num, rfl, hjs, J'⟩, by simp [intOf]; omega⟩
      · obtain rfl : k = 0 := by omega
        have J' : Hid ((j ++ s).data.toList = Lib.join ((xs.take (0 + 1)).map (·.data.toList)) [32]) := by
          unfold Hid
          rw [map_take_succ xs 0 hlt, ← HS.out, List.take_zero, List.map_nil, List.nil_append, Lib.join_one]
          have := J.out
          rw [List.take_zero, List.map_nil, Lib.join_nil] at this
          simp [this]
        have hjs : (j ++ s).size ≤ 1000000 := by
          have := HL.out
          rw [← J'.out, Array.length_toList, ByteArray.size_data] at this
          exact this
        rw [Nat.add_zero] at hA
        go_wp2
        exact ⟨⟨1, _, by omega, rfl, rfl, hjs, J'⟩, by simp [intOf]; omega⟩
    · obtain rfl : k = xs.length := by omega
      have HJ : Hid (j.data.toList = Lib.join (xs.map (·.data.toList)) [32]) := J.out.trans (by rw [List.take_of_length_le (Nat.le_refl _)])
      go_wp2
      go_ret
      refine ⟨?_, rfl⟩
      rw [← HJ.out]
      rfl

/-- How many bytes the first k tokens have, as the reference counts. -/
def totK (ts : List Tok) : Nat → Nat
  | 0 => 0
  | k + 1 => totK ts k + 1 + (ts.getD k tok0).1.text.length
theorem totK_ge (ts : List Tok) : ∀ k, k ≤ totK ts k
  | 0 => Nat.le_refl _
  | k + 1 => by have := totK_ge ts k; unfold totK; omega
theorem totK_text (ts : List Tok) : ∀ k j, j < k → (ts.getD j tok0).1.text.length ≤ totK ts k
  | 0, j, h => absurd h (by omega)
  | k + 1, j, h => by
    unfold totK
    by_cases e : j = k
    · subst e; omega
    · have := totK_text ts k j (by omega); omega
set_option maxRecDepth 100000 in
set_option maxHeartbeats 400000 in
theorem rsize_any (b o cap : Nat) (ts : List Tok) (w : World) (h : Ta w b o ts) (hz : ∀ j, j < ts.length → (ts.getD j tok0).1.text.length ≤ 140737488351232) :
    Calls Tryd.prog 18 #[.slice (some ⟨b, o, none⟩) ts.length cap, .int .i64 6000] w fun e w' => ∃ n : Nat, e = .returned (.int .i64 (n : Int)) ∧ (n ≤ 6000 → totK ts ts.length = n) ∧ w' = w := by
  have HT : Hid (Ta w b o ts) := h
  have HZ : Hid (∀ j, j < ts.length → (ts.getD j tok0).1.text.length ≤ 140737488351232) := hz
  clear h hz
  go_enter Tryd.func18, Tryd.ntmps18
  go_wp2
  go_loop [5, 6] (fun s i => ∃ k n : Nat, k ≤ ts.length ∧ k ≤ n ∧ n ≤ 140737488357233 ∧ s = .int .i64 n ∧ i = .int .i64 k ∧ Hid (totK ts k = n)) (fun _ i => ts.length - (intOf i).toNat)
  case atStart => exact ⟨0, 0, by omega, by omega, by omega, rfl, rfl, rfl⟩
  case round =>
    obtain ⟨k, n, hk, hkn, hn, rfl, rfl, N⟩ := hrel
    by_cases hlt : k < ts.length
    · by_cases h6 : n ≤ 6000
      · have c1 := HT.out.c1 k hlt
        have N' : Hid (totK ts (k + 1) = n + 1 + (ts.getD k tok0).1.text.length) := by unfold Hid totK; rw [N.out]
        have z1 := HZ.out k hlt
        generalize (ts.getD k tok0).1.text = tx at c1 N' z1
        have hsz : (⟨tx.toArray⟩ : ByteArray).size = tx.length := size_text tx
        go_wp2
        exact ⟨⟨k + 1, n + 1 + tx.length, by omega, by omega, by omega, by go_num, by go_num, N'⟩, by simp [intOf]; omega⟩
      · go_wp2
        go_ret
        exact ⟨n, rfl, fun h => absurd h h6, rfl⟩
    · obtain rfl : k = ts.length := by omega
      go_wp2
      go_ret
      exact ⟨n, rfl, fun _ => N.out, rfl⟩
set_option maxRecDepth 100000 in
theorem rsize_none (a : Option Addr) (cap : Nat) (w : World) : Calls Tryd.prog 18 #[.slice a 0 cap, .int .i64 6000] w fun e w' => e = .returned (.int .i64 0) ∧ w' = w := by
  go_enter Tryd.func18, Tryd.ntmps18
  go_wp2
  refine wp_loop_rounds 1 ?_
  rw [rounds_succ]
  go_wp2
  go_ret
  exact ⟨rfl, rfl⟩
theorem many_tok (b o cap : Nat) (ts : List Tok) (w : World) (h : Ta w b o ts) (hz : ∀ j, j < ts.length → (ts.getD j tok0).1.text.length ≤ 140737488351232) :
    Calls Tryd.prog 7 #[.slice (some ⟨b, o, none⟩) ts.length cap] w fun e w' => ∃ m : Bool, e = .returned (.bool m) ∧ (m = false → totK ts ts.length ≤ 6000) ∧ w' = w := by
  have HA : Hid (Ta w b o ts) := h
  have HZ : Hid (∀ j, j < ts.length → (ts.getD j tok0).1.text.length ≤ 140737488351232) := hz
  clear h hz
  go_enter Tryd.func7, Tryd.ntmps7
  go_wp2_with fail
  refine (rsize_any b o cap ts _ HA.out HZ.out).mono ?_
  rintro e w' ⟨n, rfl, hn, hw⟩
  rw [hw]
  have HN : Hid (n ≤ 6000 → totK ts ts.length = n) := hn
  clear hn hw
  go_wp2_with fail
  go_ret
  refine ⟨_, rfl, fun e => ?_, rfl⟩
  simp at e
  have := HN.out (by omega)
  omega
theorem many_zero (a : Option Addr) (cap : Nat) (w : World) : Calls Tryd.prog 7 #[.slice a 0 cap] w fun e w' => e = .returned (.bool false) ∧ w' = w := by
  go_enter Tryd.func7, Tryd.ntmps7
  go_wp2_with fail
  refine (rsize_none a cap _).mono ?_
  rintro e w' ⟨rfl, hw⟩
  rw [hw]
  go_wp2_with fail
  go_ret
  exact ⟨rfl, rfl⟩

set_option maxRecDepth 100000 in
set_option maxHeartbeats 1000000 in
theorem rright_some (b o cap : Nat) (ts : List Tok) (w : World) (h : Ta w b o ts) (hn : 0 < ts.length) (hl : ts.length ≤ 1000000) (hz : ∀ j, j < ts.length → (ts.getD j tok0).1.text.length ≤ 1000000)
    (hb : ∀ j, j < ts.length → -9223372036854775808 ≤ (ts.getD j tok0).1.num ∧ (ts.getD j tok0).1.num ≤ 9223372036854775807) :
    Calls Tryd.prog 12 #[.slice (some ⟨b, o, none⟩) ts.length cap] w fun e w' => e = .returned (.bool (rightL ts)) ∧ Below w.heap.size w w' := by
  have HT : Hid (Ta w b o ts) := h
  have HZ : Hid (∀ j, j < ts.length → (ts.getD j tok0).1.text.length ≤ 1000000) := hz
  have HB : Hid (∀ j, j < ts.length → -9223372036854775808 ≤ (ts.getD j tok0).1.num ∧ (ts.getD j tok0).1.num ≤ 9223372036854775807) := hb
  clear h hz hb
  obtain ⟨m, hm⟩ : ∃ m, ts.length = m + 1 := ⟨ts.length - 1, by omega⟩
  have hm0 : ((ts.length : Int) == 0) = false := beq_eq_false_iff_ne.2 (by omega)
  have HM : Hid (ts.length = m + 1) := hm
  have hmi : (ts.length : Int) - 1 = (m : Int) := by omega
  have hm6 : m ≤ 1000000 := by omega
  have hml : m < ts.length := by omega
  obtain ⟨zk, zt, zn, zp, hx⟩ : ∃ kd tx nm pl, ts.getD m tok0 = (⟨kd, tx, nm⟩, pl) := ⟨_, _, _, _, rfl⟩
  have c0 := HT.out.c0 m hml
  have c1 := HT.out.c1 m hml
  have c2 := HT.out.c2 m hml
  have c3 := HT.out.c3 m hml
  rw [hx] at c0 c1 c2 c3
  simp only at c0 c1 c2 c3
  have HX : Hid (ts.getD m tok0 = (⟨zk, zt, zn⟩, zp)) := hx
  clear hx
  go_enter Tryd.func12, Tryd.ntmps12
  go_wp2_with fail
  clear hm hm0 c0 c1 c2 c3
  go_loopw [4, 5, 6] (fun i _ _ wr => ∃ k : Nat, k ≤ m ∧ i = .int .i64 k ∧ Below (w.alloc (.cells #[.int .i64 zk, .string ⟨zt.toArray⟩, .int .i64 zn, .int .i64 zp] 33)).heap.size (w.alloc (.cells #[.int .i64 zk, .string ⟨zt.toArray⟩, .int .i64 zn, .int .i64 zp] 33)) wr ∧ Hid (∀ j, j < k → midTk (ts.getD j tok0) = true)) (fun i _ _ _ => m - (intOf i).toNat)
  case atStart => exact ⟨0, by omega, rfl, Below.refl _ _, fun j hj => absurd hj (Nat.not_lt_zero _)⟩
  case round =>
    obtain ⟨k, hk, rfl, hbx, N⟩ := hrel
    have BX : Hid _ := hbx
    clear hbx
    have BW : Hid (Below w.heap.size w wr) := box_then BX.out rfl rfl rfl rfl
    by_cases hlt : k < m
    · have hkl : Hid (k < ts.length) := by have := HM.out; unfold Hid; omega
      have T1 := HT.out.later BW.out
      obtain ⟨kd, tx, nm, pl, hx⟩ : ∃ kd tx nm pl, ts.getD k tok0 = (⟨kd, tx, nm⟩, pl) := ⟨_, _, _, _, rfl⟩
      have c0 := T1.c0 k hkl.out
      have c1 := T1.c1 k hkl.out
      have c2 := T1.c2 k hkl.out
      have c3 := T1.c3 k hkl.out
      rw [hx] at c0 c1 c2 c3
      simp only at c0 c1 c2 c3
      have ZX := HZ.out k hkl.out
      have NX := HB.out k hkl.out
      rw [hx] at ZX NX
      have TX : Hid (∀ w, Calls Tryd.prog 16 #[.agg #[.int .i64 kd, .string ⟨tx.toArray⟩, .int .i64 nm, .int .i64 pl]] w fun e w' => e = .returned (.tuple #[.string ⟨(txt (⟨kd, tx, nm⟩, pl)).toArray⟩, .bool (midTk (⟨kd, tx, nm⟩, pl))]) ∧ Below w.heap.size w w') := fun w => rtxt_any (⟨kd, tx, nm⟩, pl) w ZX NX.1 NX.2
      have HX2 : Hid (ts.getD k tok0 = (⟨kd, tx, nm⟩, pl)) := hx
      clear hx T1 ZX NX
      have hl1 := HT.out.later BW.out
      have hbl := hl1.lt
      clear hl1
      generalize txt (⟨kd, tx, nm⟩, pl) = tt at TX
      cases hM : midTk (⟨kd, tx, nm⟩, pl) with
      | true =>
        rw [hM] at TX
        have N' : Hid (∀ j, j < k + 1 → midTk (ts.getD j tok0) = true) := fun j hj => by
          by_cases e : j = k
          · subst e; rw [HX2.out]; exact hM
          · exact N.out j (by omega)
        clear hM
        go_wp2_with fail
        refine (TX.out _).mono ?_
        rintro e w2 ⟨rfl, b2⟩
        have B2 : Hid _ := BX.out.trans (b2.mono BX.out.size)
        clear b2 c0 c1 c2 c3
        go_wp2_with fail
        go_roundw
        case rel => exact ⟨_, _, _, _, _, _, _, _, _, _, _, _, _, _, _, _, _, _, _, _, _, ⟨k + 1, by omega, by go_num, B2.out, N'⟩, rfl⟩
        case measure => simp [intOf]; omega
      | false =>
        rw [hM] at TX
        have R : Hid (rightL ts = false) := rightL_no HM.out hlt (by rw [HX2.out]; exact hM)
        clear hM
        go_wp2_with fail
        refine (TX.out _).mono ?_
        rintro e w2 ⟨rfl, b2⟩
        have B2 : Hid (Below w.heap.size w w2) := BW.out.trans (b2.mono BW.out.size)
        clear b2 c0 c1 c2 c3
        go_wp2_with fail
        go_ret
        rw [R.out]
        exact ⟨rfl, B2.out⟩
    · obtain rfl : k = m := by omega
      have R : Hid (rightL ts = (decide (zk = 0) && rtk ⟨zk, zt, zn⟩)) := by
        unfold Hid
        rw [rightL_end HM.out N.out, HX.out]
      have c0 : wr.cell? ⟨w.heap.size, 0, none⟩ = some (.int .i64 zk) := (BX.out.cell (by simp)).trans (by simp [go_sem])
      have c1 : wr.cell? ⟨w.heap.size, 1, none⟩ = some (.string ⟨zt.toArray⟩) := (BX.out.cell (by simp)).trans (by simp [go_sem])
      have c2 : wr.cell? ⟨w.heap.size, 2, none⟩ = some (.int .i64 zn) := (BX.out.cell (by simp)).trans (by simp [go_sem])
      by_cases hk0 : zk = 0
      · subst hk0
        have R2 : Hid (rightL ts = (zt.isEmpty && decide (zn = 0))) := R.out
        clear R
        cases he : zt.isEmpty with
        | true =>
          have he' := emp_true he
          by_cases hn0 : zn = 0
          · subst hn0
            have R3 : Hid (rightL ts = true) := by unfold Hid; rw [R2.out, he]; rfl
            go_wp2_with fail
            go_ret
            rw [R3.out]
            exact ⟨by simp, BW.out⟩
          · have hnb : (zn == 0) = false := beq_f hn0
            have R3 : Hid (rightL ts = false) := by unfold Hid; rw [R2.out, decide_eq_false hn0]; simp
            clear hn0
            go_wp2_with fail
            go_ret
            rw [R3.out]
            exact ⟨by simp, BW.out⟩
        | false =>
          have he' := emp_false he
          have R3 : Hid (rightL ts = false) := by unfold Hid; rw [R2.out, he]; rfl
          go_wp2_with fail
          go_ret
          rw [R3.out]
          exact ⟨by simp, BW.out⟩
      · have hkb : (zk == 0) = false := beq_f hk0
        have R3 : Hid (rightL ts = false) := by unfold Hid; rw [R.out, decide_eq_false hk0]; rfl
        clear hk0 R
        go_wp2_with fail
        go_ret
        rw [R3.out]
        exact ⟨by simp, BW.out⟩
theorem rright_none (a : Option Addr) (cap : Nat) (w : World) : Calls Tryd.prog 12 #[.slice a 0 cap] w fun e w' => e = .returned (.bool false) ∧ w' = w := by
  go_enter Tryd.func12, Tryd.ntmps12
  go_wp2
  go_ret
  exact ⟨rfl, rfl⟩
end Go.Proofs.YtdjpjoipdlfooaaDoor
