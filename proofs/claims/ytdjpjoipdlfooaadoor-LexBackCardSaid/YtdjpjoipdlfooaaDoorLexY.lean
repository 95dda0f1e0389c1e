/- The reference's Print of tokens, for every tokens whose texts are not too long; how long printed tokens are. -/
import Derived.Test.YtdjpjoipdlfooaaDoorLexX
namespace Go.Proofs.YtdjpjoipdlfooaaDoor
open Go.RowKit

theorem txt_len (x : Tok) (h0 : -9223372036854775808 ≤ x.1.num) (h1 : x.1.num ≤ 9223372036854775807) : (txt x).length ≤ x.1.text.length + 21 := by
  unfold txt
  split
  · have := Pl.itoa_len x.1.num h0 h1; omega
  · omega
/-- How long the texts are, with a byte more each. -/
theorem tot_texts (ts : List Tok) (hb : ∀ j, j < ts.length → -9223372036854775808 ≤ (ts.getD j tok0).1.num ∧ (ts.getD j tok0).1.num ≤ 9223372036854775807) : ∀ (k : Nat) (xs : List ByteArray), k ≤ ts.length → xs.map (·.data.toList) = texts ts k → tot xs xs.length ≤ totK ts k + 22 * k
  | 0, xs, _, h => by
    have : xs = [] := by
      have := congrArg List.length h
      simp [texts] at this
      exact this
    subst this
    simp [tot]
  | k + 1, xs, hk, h => by
    rw [texts_succ] at h
    obtain ⟨ys, z, rfl⟩ : ∃ ys z, xs = ys ++ [z] := by
      have hne : xs ≠ [] := by intro e; subst e; simp at h
      exact ⟨xs.dropLast, xs.getLast hne, (List.dropLast_concat_getLast hne).symm⟩
    rw [List.map_append] at h
    have hl : (ys.map (·.data.toList)).length = (texts ts k).length := by
      have := congrArg List.length h
      simp at this ⊢
      exact this
    obtain ⟨e1, e2⟩ := List.append_inj h hl
    have ih := tot_texts ts hb k ys (by omega) e1
    have hz : z.size = (txt (ts.getD k tok0)).length := by
      have := congrArg List.length (List.cons.inj e2).1
      rw [size_len'] at this
      exact this
    have ht := txt_len (ts.getD k tok0) (hb k (by omega)).1 (hb k (by omega)).2
    have hy : tot (ys ++ [z]) ys.length = tot ys ys.length := by unfold tot; rw [List.take_append_of_le_length (Nat.le_refl _)]
    rw [List.length_append, List.length_singleton, tot_succ _ _ (by simp), hy]
    have hg : (ys ++ [z]).getD ys.length ByteArray.empty = z := by simp
    rw [hg]
    unfold totK
    omega

set_option maxRecDepth 100000 in
set_option maxHeartbeats 2000000 in
theorem rprint_right (b o cap : Nat) (ts : List Tok) (w : World) (h : Ta w b o ts) (hn : 0 < ts.length) (hl : ts.length ≤ 6000) (hz : totK ts ts.length ≤ 6000)
    (hb : ∀ j, j < ts.length → -9223372036854775808 ≤ (ts.getD j tok0).1.num ∧ (ts.getD j tok0).1.num ≤ 9223372036854775807) (hr : rightL ts = true) :
    Calls Tryd.prog 10 #[.slice (some ⟨b, o, none⟩) ts.length cap] w fun e w' => e = .returned (.tuple #[.string ⟨(printL ts).toArray⟩, .int .i64 0]) ∧ Below w.heap.size w w' := by
  have HZ : Hid (∀ j, j < ts.length → (ts.getD j tok0).1.text.length ≤ 1000000) := fun j hj => by have := totK_text ts _ j hj; omega
  have RC : Hid (Calls Tryd.prog 12 #[.slice (some ⟨b, o, none⟩) ts.length cap] w fun e w' => e = .returned (.bool (rightL ts)) ∧ Below w.heap.size w w') := rright_some b o cap ts w h hn (by omega) HZ.out hb
  have HT : Hid (Ta w b o ts) := h
  have HB : Hid (∀ j, j < ts.length → -9223372036854775808 ≤ (ts.getD j tok0).1.num ∧ (ts.getD j tok0).1.num ≤ 9223372036854775807) := hb
  have HR : Hid (rightL ts = true) := hr
  have HTT : Hid (totK ts ts.length ≤ 6000) := hz
  obtain ⟨m, hm⟩ : ∃ m, ts.length = m + 1 := ⟨ts.length - 1, by omega⟩
  have HP : Hid (printL ts = Lib.join (texts ts m) [32]) := by unfold Hid printL; rw [hm, Nat.add_sub_cancel]
  have HM : Hid (ts.length = m + 1) := hm
  have hmi : (ts.length : Int) - 1 = (m : Int) := by omega
  have hm6 : m ≤ 6000 := by omega
  obtain ⟨i0, hi, hz0, hz1, hz2⟩ := info_parts infoStr
  clear h hz hb hr hm
  go_enter Tryd.func10, Tryd.ntmps10
  go_wp2_with fail
  refine RC.out.mono ?_
  rintro e w0 ⟨rfl, hb0⟩
  rw [HR.out]
  go_wp2_with fail
  have HB0 : Hid (Below w.heap.size w w0) := hb0
  go_loopw [4, 5] (fun v i wr => ∃ (k cp : Nat) (ao : Option Addr) (xs : List ByteArray), k ≤ m ∧ i = .int .i64 k ∧ v = .slice ao k cp ∧ xs.length = k ∧ OwnS wr w.heap.size (.slice ao k cp) xs ∧ Below w.heap.size w wr ∧ Hid (xs.map (·.data.toList) = texts ts k)) (fun _ i _ => m - (intOf i).toNat)
  case atStart => exact ⟨0, 0, none, [], by omega, rfl, rfl, rfl, OwnS.nil _ _, hb0, rfl⟩
  case round =>
    clear hb0
    obtain ⟨k, cp, ao, xs, hk, rfl, rfl, hxl, hown, hnx, X⟩ := hrel
    have T1 : Hid (Ta wr b o ts) := HT.out.later hnx
    have hzz := hnx.size
    by_cases hlt : k < m
    · have hkl : Hid (k < ts.length) := by have := HM.out; unfold Hid; omega
      obtain ⟨kd, tx, nm, pl, hx⟩ : ∃ kd tx nm pl, ts.getD k tok0 = (⟨kd, tx, nm⟩, pl) := ⟨_, _, _, _, rfl⟩
      have c0 := T1.out.c0 k hkl.out
      have c1 := T1.out.c1 k hkl.out
      have c2 := T1.out.c2 k hkl.out
      have c3 := T1.out.c3 k hkl.out
      rw [hx] at c0 c1 c2 c3
      have ZX := HZ.out k hkl.out
      have NX := HB.out k hkl.out
      rw [hx] at ZX NX
      have TX : Hid (∀ w, Calls Tryd.prog 16 #[.agg #[.int .i64 kd, .string ⟨tx.toArray⟩, .int .i64 nm, .int .i64 pl]] w fun e w' => e = .returned (.tuple #[.string ⟨(txt (⟨kd, tx, nm⟩, pl)).toArray⟩, .bool (midTk (⟨kd, tx, nm⟩, pl))]) ∧ Below w.heap.size w w') := fun w => rtxt_any (⟨kd, tx, nm⟩, pl) w ZX NX.1 NX.2
      have HX : Hid (txt (ts.getD k tok0) = txt (⟨kd, tx, nm⟩, pl)) := by unfold Hid; rw [hx]
      clear hx ZX NX
      simp only at c0 c1 c2 c3
      generalize txt (⟨kd, tx, nm⟩, pl) = tt at TX HX
      generalize midTk (⟨kd, tx, nm⟩, pl) = mb at TX
      go_wp2_with fail
      refine (TX.out _).mono ?_
      rintro e w1 ⟨rfl, b1⟩
      have hb1 : Below w.heap.size w w1 := hnx.trans (b1.mono hzz)
      have O1 : OwnS w1 w.heap.size (.slice ao k cp) xs := OwnS.later hown b1
      have hz1' := hb1.size
      clear b1 hown hnx T1 c0 c1 c2 c3
      subst hxl
      go_wp2_with (at_builtin; refine wpList_append_own _ rfl _ _ 36 rfl w.heap.size 9 i0 (.string ⟨#[]⟩) 1 16 Tryd.underlying36 hi hz0 hz1 hz2 rfl (by decide) _ _ _ rfl (World.ownsRow.alloc O1 _) ⟨w1.heap.size, 0, none⟩ 1 1 [.string ⟨tt.toArray⟩] rfl rfl ?c1 (one_one_s _) ?c3 ?c4 ?c5 ?_)
      case c1 => exact one_cell_s w1 _ 9
      case c3 => unfold maxLen; omega
      case c4 => omega
      case c5 => simp; omega
      intro v' w2 hown' hgrow _
      obtain ⟨R, hb2⟩ := O1.snoc hb1 hz1' hown' hgrow
      have X' : Hid ((xs ++ [(⟨tt.toArray⟩ : ByteArray)]).map (·.data.toList) = texts ts (xs.length + 1)) := by
        unfold Hid
        rw [texts_succ, List.map_append, X.out, HX.out]; rfl
      obtain ⟨ao2, cp2, hv2⟩ := R.shape
      rw [List.length_append, List.length_singleton] at hv2
      clear hown' hgrow O1 hb1
      subst hv2
      go_wp2_with fail
      go_roundw
      case rel => exact ⟨xs.length + 1, cp2, ao2, _, by omega, by go_num, rfl, by simp, R, hb2, X'⟩
      case measure => simp [intOf]; omega
    · obtain rfl : k = m := by omega
      have JL : Hid (tot xs xs.length ≤ 1000000) := by
        have h1 := HM.out
        have h2 := tot_texts ts HB.out k xs (by omega) X.out
        have h3 := HTT.out
        rw [h1] at h3
        unfold totK at h3
        unfold Hid
        omega
      have JC : Hid (Calls Tryd.prog 21 #[.slice ao k cp] wr fun e w' => e = .returned (.string ⟨(Lib.join (texts ts k) [32]).toArray⟩) ∧ w' = wr) := by
        unfold Hid
        by_cases h0 : xs = []
        · subst h0
          have hk0 : k = 0 := hxl.symm
          subst hk0
          exact rjoin_none ao cp wr
        · obtain ⟨g, c, hv, _, hs⟩ := hown.sa h0
          have := rjoin_big g 0 c xs wr hs JL.out (by omega)
          rw [X.out, ← hv] at this
          exact this
      go_wp2_with fail
      refine JC.out.mono ?_
      rintro e w1 ⟨rfl, hw⟩
      rw [hw, ← HP.out]
      clear hown T1
      go_wp2_with fail
      go_ret2
      exact ⟨rfl, hnx⟩
/-- Tokens that are not right are refused. -/
theorem rprint_wrong (b o cap : Nat) (ts : List Tok) (w : World) (h : Ta w b o ts) (hn : 0 < ts.length) (hl : ts.length ≤ 6000) (hz : totK ts ts.length ≤ 6000)
    (hb : ∀ j, j < ts.length → -9223372036854775808 ≤ (ts.getD j tok0).1.num ∧ (ts.getD j tok0).1.num ≤ 9223372036854775807) (hr : rightL ts = false) :
    Calls Tryd.prog 10 #[.slice (some ⟨b, o, none⟩) ts.length cap] w fun e w' => e = .returned (.tuple #[.string ⟨#[]⟩, .int .i64 32]) ∧ Below w.heap.size w w' := by
  have RC : Hid (Calls Tryd.prog 12 #[.slice (some ⟨b, o, none⟩) ts.length cap] w fun e w' => e = .returned (.bool (rightL ts)) ∧ Below w.heap.size w w') := rright_some b o cap ts w h hn (by omega) (fun j hj => by have := totK_text ts _ j hj; omega) hb
  have HR : Hid (rightL ts = false) := hr
  clear h hz hb hr
  go_enter Tryd.func10, Tryd.ntmps10
  go_wp2_with fail
  refine RC.out.mono ?_
  rintro e w0 ⟨rfl, hb0⟩
  rw [HR.out]
  go_wp2_with fail
  go_ret2
  exact ⟨rfl, hb0⟩
theorem rprint_none (a : Option Addr) (cap : Nat) (w : World) : Calls Tryd.prog 10 #[.slice a 0 cap] w fun e w' => e = .returned (.tuple #[.string ⟨#[]⟩, .int .i64 32]) ∧ w' = w := by
  go_enter Tryd.func10, Tryd.ntmps10
  go_wp2_with fail
  refine (rright_none a cap _).mono ?_
  rintro e w0 ⟨rfl, rfl⟩
  go_wp2_with fail
  go_ret2
  exact ⟨rfl, rfl⟩
end Go.Proofs.YtdjpjoipdlfooaaDoor
