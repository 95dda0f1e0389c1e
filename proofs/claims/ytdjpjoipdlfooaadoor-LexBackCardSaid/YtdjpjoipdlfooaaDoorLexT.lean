/- Print, for every tokens whose text is not beyond all bounds. -/
import Derived.Test.YtdjpjoipdlfooaaDoorLexS
import Derived.Test.YtdjpjoipdlfooaaDoorStrs
namespace Go.Proofs.YtdjpjoipdlfooaaDoor
open Go.RowKit

/-- A token's text: an integer's digits. -/
def txt (x : Tok) : List UInt8 := if x.1.kind = 2 then Lib.itoa x.1.num else x.1.text
def texts (ts : List Tok) (k : Nat) : List (List UInt8) := (List.range k).map fun j => txt (ts.getD j tok0)
theorem texts_succ (ts : List Tok) (k : Nat) : texts ts (k + 1) = texts ts k ++ [txt (ts.getD k tok0)] := by
  unfold texts; rw [List.range_succ, List.map_append]; rfl
/-- What Print writes: nothing of the end. -/
def printL (ts : List Tok) : List UInt8 := Lib.join (texts ts (ts.length - 1)) [32]
theorem OwnS.shape {w : World} {base : Nat} {v : Value} {xs : List ByteArray} (h : OwnS w base v xs) : ∃ ao cap, v = .slice ao xs.length cap := by
  rcases h.2 with ⟨rfl, h0⟩ | ⟨g, cap, cur, rfl, _⟩
  · exact ⟨none, 0, by rw [h0]⟩
  · exact ⟨_, cap, rfl⟩
theorem OwnS.later {w w' : World} {base : Nat} {v : Value} {xs : List ByteArray} (h : OwnS w base v xs) (hb : Below w.heap.size w w') : OwnS w' base v xs :=
  World.ownsRow.kept h (row := none) ⟨hb.os, hb.tape, hb.output, hb.size, fun k hk _ => hb.block k hk⟩ (by
    rcases h.2 with ⟨rfl, _⟩ | ⟨g, cap, cur, rfl, _⟩
    · exact .inl rfl
    · exact .inr (by simp [Value.ownBlock]))
/-- Join at a slice that the call itself made. -/
theorem join_own {w : World} {base : Nat} {v : Value} {xs : List ByteArray} (h : OwnS w base v xs) (hL : (Lib.join (xs.map (·.data.toList)) [32]).length ≤ 100000000) (hl : xs.length ≤ 100000000) :
    Calls Tryd.prog 20 #[v] w fun e w' => e = .returned (.string ⟨(Lib.join (xs.map (·.data.toList)) [32]).toArray⟩) ∧ Below w.heap.size w w' := by
  by_cases h0 : xs = []
  · subst h0
    obtain ⟨ao, cap, rfl⟩ := h.shape
    refine (join_none ao cap w).mono ?_
    rintro e w' ⟨rfl, rfl⟩
    exact ⟨rfl, Below.refl _ _⟩
  · obtain ⟨g, cap, rfl, hc, hs⟩ := h.sa h0
    exact join_core g 0 cap xs w hs hL hl hc
theorem snoc_plain {w wr w1 : World} {o : Obj} {B : Nat} {v v' : Value} {xs : List ByteArray} {s : ByteArray} (hown : OwnS wr B v xs) (hnx : Below B w wr) (hB : B ≤ wr.heap.size)
    (h' : w1.ownsRow B 9 1 v' (xs.length + 1) (xs.map Value.string ++ [.string s])) (hg : (wr.alloc o).grownBy w1 v.ownBlock) : OwnS w1 B v' (xs ++ [s]) ∧ Below B w w1 := hown.snoc hnx hB h' hg

set_option maxRecDepth 100000 in
set_option maxHeartbeats 2000000 in
theorem print_right (b o cap : Nat) (ts : List Tok) (w : World) (h : Ta w b o ts) (hn : 0 < ts.length) (hl : ts.length ≤ 1000000) (hc : ts.length ≤ cap) (hz : ∀ j, j < ts.length → (ts.getD j tok0).1.text.length ≤ maxLen)
    (hb : ∀ j, j < ts.length → -9223372036854775808 ≤ (ts.getD j tok0).1.num ∧ (ts.getD j tok0).1.num ≤ 9223372036854775807) (hJ : (printL ts).length ≤ 100000000) (hk : Kw w) (ht : Tab w) (hr : rightL ts = true) :
    Calls Tryd.prog 9 #[.slice (some ⟨b, o, none⟩) ts.length cap] w fun e w' => e = .returned (.tuple #[.string ⟨(printL ts).toArray⟩, .int .i64 0]) ∧ Below w.heap.size w w' := by
  have HK : Hid (Kw w) := hk
  have HTB : Hid (Tab w) := ht
  have HT : Hid (Ta w b o ts) := h
  have HB : Hid (∀ j, j < ts.length → -9223372036854775808 ≤ (ts.getD j tok0).1.num ∧ (ts.getD j tok0).1.num ≤ 9223372036854775807) := hb
  have HR : Hid (rightL ts = true) := hr
  obtain ⟨m, hm⟩ : ∃ m, ts.length = m + 1 := ⟨ts.length - 1, by omega⟩
  have HJ : Hid ((Lib.join (texts ts m) [32]).length ≤ 100000000) := by have := hJ; unfold printL at this; rw [hm, Nat.add_sub_cancel] at this; exact this
  have HP : Hid (printL ts = Lib.join (texts ts m) [32]) := by unfold Hid printL; rw [hm, Nat.add_sub_cancel]
  have HM : Hid (ts.length = m + 1) := hm
  have hmi : (ts.length : Int) - 1 = (m : Int) := by omega
  have hmc : m ≤ cap := by omega
  have hm6 : m ≤ 1000000 := by omega
  have RC : Hid (Calls Tryd.prog 11 #[.slice (some ⟨b, o, none⟩) ts.length cap] w fun e w' => e = .returned (.bool (rightL ts)) ∧ Below w.heap.size w w') := right_some b o cap ts w h hn hl hc hz hk
  obtain ⟨i0, hi, hz0, hz1, hz2⟩ := info_parts infoStr
  clear hk h hz hb hr ht hJ hm
  go_enter Tryd.func9, Tryd.ntmps9
  go_wp2_with fail
  refine RC.out.mono ?_
  rintro e w0 ⟨rfl, hb0⟩
  rw [HR.out]
  go_wp2_with fail
  clear hmi
  have HB0 : Hid (Below w.heap.size w w0) := hb0
  go_loopw [4, 16] (fun v i wr => ∃ (k cp : Nat) (ao : Option Addr) (xs : List ByteArray), k ≤ m ∧ i = .int .i64 k ∧ v = .slice ao k cp ∧ xs.length = k ∧ OwnS wr w.heap.size (.slice ao k cp) xs ∧ Below w.heap.size w wr ∧ Hid (xs.map (·.data.toList) = texts ts k)) (fun _ i _ => m - (intOf i).toNat)
  case atStart => exact ⟨0, 0, none, [], by omega, rfl, rfl, rfl, OwnS.nil _ _, hb0, rfl⟩
  case round =>
    clear hb0
    obtain ⟨k, cp, ao, xs, hk, rfl, rfl, hxl, hown, hnx, X⟩ := hrel
    have T1 : Hid (Ta wr b o ts) := HT.out.later hnx
    have hzz := hnx.size
    by_cases hlt : k < m
    · have hkl : Hid (k < ts.length) := by have := HM.out; unfold Hid; omega
      obtain ⟨kd, tx, nm, pl, hx⟩ : ∃ kd tx nm pl, ts.getD k tok0 = (⟨kd, tx, nm⟩, pl) := ⟨_, _, _, _, rfl⟩
      have c0 := T1.out.c0 k hkl.out
      have c1 := T1.out.c1 k hkl.out
      have c2 := T1.out.c2 k hkl.out
      have c3 := T1.out.c3 k hkl.out
      rw [hx] at c0 c1 c2 c3
      have BX := HB.out k hkl.out
      rw [hx] at BX
      have BX : Hid (-9223372036854775808 ≤ nm ∧ nm ≤ 9223372036854775807) := BX
      have HX : Hid (ts.getD k tok0 = (⟨kd, tx, nm⟩, pl)) := hx
      clear hx
      simp only at c0 c1 c2 c3
      by_cases k0 : kd = 2
      · have k0b : (kd == 2) = true := beq_iff_eq.2 k0
        have HK0 : Hid (kd = 2) := k0
        clear k0
        have TB : Hid (∀ o, Tab (wr.alloc o)) := fun o => (HTB.out.later hnx (Nat.le_refl _)).later (box_below wr o) (Nat.le_refl _)
        go_wp2_with fail
        refine (text_any nm _ (TB.out _) BX.out.1 BX.out.2).mono ?_
        rintro e w1 ⟨rfl, b1⟩
        have hb1 : Below w.heap.size w w1 := (hnx.alloc hzz _).trans (b1.mono (by simp; omega))
        have O1 : OwnS w1 w.heap.size (.slice ao k cp) xs := (OwnS.later hown (box_below wr _)).later b1
        have hz1' := hb1.size
        clear b1 hown hnx T1 c0 c1 c2 c3
        subst hxl
        go_wp2_with (at_builtin; refine wpList_append_own _ rfl _ _ 36 rfl w.heap.size 9 i0 (.string ⟨#[]⟩) 1 16 Tryd.underlying36 hi hz0 hz1 hz2 rfl (by decide) _ _ _ rfl (World.ownsRow.alloc O1 _) ⟨w1.heap.size, 0, none⟩ 1 1 [.string ⟨(Lib.itoa nm).toArray⟩] rfl rfl ?c1 (one_one_s _) ?c3 ?c4 ?c5 ?_)
        case c1 => exact one_cell_s w1 _ 9
        case c3 => unfold maxLen; omega
        case c4 => omega
        case c5 => simp; omega
        intro v' w2 hown' hgrow _
        obtain ⟨R, hb2⟩ := O1.snoc hb1 hz1' hown' hgrow
        have X' : Hid ((xs ++ [(⟨(Lib.itoa nm).toArray⟩ : ByteArray)]).map (·.data.toList) = texts ts (xs.length + 1)) := by
          unfold Hid
          rw [texts_succ, List.map_append, X.out, HX.out]
          unfold txt
          rw [if_pos HK0.out]; rfl
        obtain ⟨ao2, cp2, hv2⟩ := R.shape
        rw [List.length_append, List.length_singleton] at hv2
        clear hown' hgrow O1 hb1
        subst hv2
        go_wp2_with fail
        go_roundw
        case rel => exact ⟨xs.length + 1, cp2, ao2, _, by omega, by go_num, rfl, by simp, R, hb2, X'⟩
        case measure => simp [intOf]; omega
      · have k0b : (kd == 2) = false := beq_eq_false_iff_ne.2 k0
        have HK0 : Hid (¬ kd = 2) := k0
        clear k0
        subst hxl
        go_wp2_with (at_builtin; refine wpList_append_own _ rfl _ _ 36 rfl w.heap.size 9 i0 (.string ⟨#[]⟩) 1 16 Tryd.underlying36 hi hz0 hz1 hz2 rfl (by decide) _ _ _ rfl (World.ownsRow.alloc (World.ownsRow.alloc hown _) _) ⟨wr.heap.size + 1, 0, none⟩ 1 1 [.string ⟨tx.toArray⟩] rfl rfl ?c1 (one_one_s _) ?c3 ?c4 ?c5 ?_)
        case c3 => unfold maxLen; omega
        case c4 => omega
        case c5 => omega
        intro v' w2 hown' hgrow _
        have O1 : OwnS (wr.alloc (.cells #[.int .i64 kd, .string ⟨tx.toArray⟩, .int .i64 nm, .int .i64 pl] 33)) w.heap.size (.slice ao xs.length cp) xs := OwnS.later hown (box_below wr _)
        obtain ⟨R, hb2⟩ := O1.snoc (hnx.alloc hzz _) (by simp; omega) hown' hgrow
        have X' : Hid ((xs ++ [(⟨tx.toArray⟩ : ByteArray)]).map (·.data.toList) = texts ts (xs.length + 1)) := by
          unfold Hid
          rw [texts_succ, List.map_append, X.out, HX.out]
          unfold txt
          rw [if_neg HK0.out]; rfl
        obtain ⟨ao2, cp2, hv2⟩ := R.shape
        rw [List.length_append, List.length_singleton] at hv2
        clear hown' hgrow O1 hown hnx T1 c0 c1 c2 c3
        subst hv2
        go_wp2_with fail
        go_roundw
        case rel => exact ⟨xs.length + 1, cp2, ao2, _, by omega, by go_num, rfl, by simp, R, hb2, X'⟩
        case measure => simp [intOf]; omega
    · obtain rfl : k = m := by omega
      have JL : Hid ((Lib.join (xs.map (·.data.toList)) [32]).length ≤ 100000000) := by unfold Hid; rw [X.out]; exact HJ.out
      go_wp2_with fail
      refine (join_own hown JL.out (by omega)).mono ?_
      rintro e w1 ⟨rfl, b1⟩
      rw [X.out, ← HP.out]
      have hb1 := hnx.trans (b1.mono hzz)
      clear hown hnx b1 T1
      go_wp2_with fail
      go_ret2
      exact ⟨rfl, hb1⟩

/-- Tokens that are not right are refused. -/
theorem print_wrong (b o cap : Nat) (ts : List Tok) (w : World) (h : Ta w b o ts) (hn : 0 < ts.length) (hl : ts.length ≤ 1000000) (hc : ts.length ≤ cap) (hz : ∀ j, j < ts.length → (ts.getD j tok0).1.text.length ≤ maxLen) (hk : Kw w) (hr : rightL ts = false) :
    Calls Tryd.prog 9 #[.slice (some ⟨b, o, none⟩) ts.length cap] w fun e w' => e = .returned (.tuple #[.string ⟨#[]⟩, .int .i64 32]) ∧ Below w.heap.size w w' := by
  have HR : Hid (rightL ts = false) := hr
  have RC : Hid (Calls Tryd.prog 11 #[.slice (some ⟨b, o, none⟩) ts.length cap] w fun e w' => e = .returned (.bool (rightL ts)) ∧ Below w.heap.size w w') := right_some b o cap ts w h hn hl hc hz hk
  clear hk h hz hr
  go_enter Tryd.func9, Tryd.ntmps9
  go_wp2_with fail
  refine RC.out.mono ?_
  rintro e w0 ⟨rfl, hb0⟩
  rw [HR.out]
  go_wp2_with fail
  go_ret2
  exact ⟨rfl, hb0⟩
theorem print_none (a : Option Addr) (cap : Nat) (w : World) : Calls Tryd.prog 9 #[.slice a 0 cap] w fun e w' => e = .returned (.tuple #[.string ⟨#[]⟩, .int .i64 32]) ∧ w' = w := by
  have RC : Hid (Calls Tryd.prog 11 #[.slice a 0 cap] w fun e w' => e = .returned (.bool false) ∧ w' = w) := right_none a cap w
  go_enter Tryd.func9, Tryd.ntmps9
  go_wp2_with fail
  refine RC.out.mono ?_
  rintro e w0 ⟨rfl, rfl⟩
  go_wp2_with fail
  go_ret2
  exact ⟨rfl, rfl⟩
end Go.Proofs.YtdjpjoipdlfooaaDoor
