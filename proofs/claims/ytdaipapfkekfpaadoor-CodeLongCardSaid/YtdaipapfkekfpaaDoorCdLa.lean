/- CodeLong: the walk. -/
import Derived.Test.YtdaipapfkekfpaaDoorCdLm
namespace Go.Proofs.YtdaipapfkekfpaaDoor
open Go.RowKit
set_option linter.unusedVariables false
set_option linter.unusedSimpArgs false
theorem tm_is (n : Int) : 65531 ≤ wrap64 (65534 + n.tmod 4) ∧ wrap64 (65534 + n.tmod 4) ≤ 65537 := by
  have h1 := Int.tmod_lt_of_pos n (show (0 : Int) < 4 by decide)
  have h2 := Int.lt_tmod_of_pos n (show (0 : Int) < 4 by decide)
  unfold wrap64
  omega
theorem clr_ok : Cd.clr.Ok := ⟨⟨by decide, by decide⟩, ⟨by decide, by decide⟩, by decide, by decide⟩
theorem lve_ok : Cd.lve.Ok := ⟨⟨by decide, by decide⟩, ⟨by decide, by decide⟩, by decide, by decide⟩
theorem lnA_ok (k : Nat) : (Cd.lnA k).Ok := ⟨fun i h => by
  unfold Cd.lnA at h
  simp only [List.mem_append, List.mem_replicate, List.mem_singleton] at h
  rcases h with ⟨_, rfl⟩ | rfl
  · exact clr_ok
  · exact lve_ok, (show Cd.I6 1 from ⟨by decide, by decide⟩), (show Cd.I6 0 from ⟨by decide, by decide⟩)⟩
theorem lng_mem {w Y : World} {B bx m : Nat} {v : Value} {l : List Cd.In} {c : Cd.Co} (hb : bx = w.heap.size) (ht : Tt B w ∧ Tm B w) (h : LgR w bx (m + 1) v l Y) (hc : c.ins = l) (hq : c.cells = 1 ∧ c.params = 0 ∧ c.ans = false) (ok : c.Ok) (hm : m + 1 ≤ maxLen ∧ m + 1 ≤ 1000000000000000) : CdH (Y.alloc (.cells #[v, .int .i64 1, .int .i64 0, .bool false] 33)).heap.size (Y.alloc (.cells #[v, .int .i64 1, .int .i64 0, .bool false] 33)) (some ⟨Y.heap.size, 0, none⟩) [c] := by
  obtain ⟨ht, hm2⟩ := ht
  obtain ⟨q1, q2, q3⟩ := hq
  obtain ⟨g, cap, hv, hcap, hbg, hi⟩ := own_ins h.row h.len (by omega) hm.2
  subst hv
  generalize hZ : Y.alloc (.cells #[.slice (some ⟨g, 0, none⟩) (m + 1) cap, .int .i64 1, .int .i64 0, .bool false] 33) = Z
  have bz : Below Y.heap.size Y Z := by rw [← hZ]; exact (Below.refl _ _).alloc (Nat.le_refl _) _
  have zz : Z.heap[Y.heap.size]? = some (.cells #[.slice (some ⟨g, 0, none⟩) (m + 1) cap, .int .i64 1, .int .i64 0, .bool false] 33 (0, 0)) := by rw [← hZ]; exact Array.getElem?_push_size
  have b0 : Below B w Z := (h.k.mono (by rw [hb]; exact ht.hB)).trans (bz.mono (by have := h.k.size; have := ht.hB; omega))
  have hs : B ≤ Z.heap.size := Nat.le_trans ht.hB b0.size
  have hl : m + 1 = c.ins.length := by rw [hc]; exact h.len
  have hz : Y.heap.size < Z.heap.size := (Array.getElem?_eq_some_iff.1 zz).1
  refine ⟨Nat.le_refl _, ⟨by simp, fun _ => ⟨Y.heap.size, 0, rfl, hz, fun j d hj => ?_⟩⟩, fun d hd => by simp at hd; subst hd; exact ok, (ht.tn.later b0).mono hs, (hm2.later b0).mono hs⟩
  match j, hj with
  | 0, hj =>
    simp at hj
    subst hj
    refine ⟨some ⟨g, 0, none⟩, cap, ?_, ?_, ?_, ?_, ?_, by omega⟩
    · rw [← hl]; simp [World.cell?, zz]
    · rw [q1]; simp [World.cell?, zz]
    · rw [q2]; simp [World.cell?, zz]
    · rw [q3]; simp [World.cell?, zz]
    · rw [hc]; exact (hi.later bz).mono bz.size
  | j + 1, hj => simp at hj
theorem lnB_ok (k : Nat) (hk : k ≤ 70000) : (Cd.lnB k).Ok := ⟨fun i h => by
  unfold Cd.lnB at h
  simp only [List.cons_append, List.mem_cons, List.mem_append, List.mem_replicate, List.not_mem_nil, or_false] at h
  rcases h with rfl | ⟨_, rfl⟩ | rfl
  · exact ⟨(show Cd.I6 17 from ⟨by decide, by decide⟩), (show Cd.I6 ((k + 1 : Nat) : Int) from ⟨by omega, by omega⟩), (show Cd.I6 0 from ⟨by decide, by decide⟩)⟩
  · exact clr_ok
  · exact lve_ok, (show Cd.I6 1 from ⟨by decide, by decide⟩), (show Cd.I6 0 from ⟨by decide, by decide⟩)⟩
theorem cell_of {Y : World} {g j : Nat} {cur : Array Value} {t : TypeId} {u : Value} (hg : Y.heap[g]? = some (.cells cur t (0, 0))) (h : cur[j]? = some u) : Y.cell? ⟨g, j, none⟩ = some u := by simp [World.cell?, hg, h]
theorem set3 {cur : Array Value} {a b c : Value} {x0 x1 x2 : Value} {rs : List Value} (h : cur.toList = x0 :: x1 :: x2 :: rs) : (((cur.setIfInBounds 0 a).setIfInBounds 1 b).setIfInBounds 2 c).toList = a :: b :: c :: rs := by
  rw [Array.toList_setIfInBounds, Array.toList_setIfInBounds, Array.toList_setIfInBounds, h]
  rfl
theorem LgR.first {w Y : World} {bx m g cap : Nat} (h : LgR w bx (m + 2) (.slice (some ⟨g, 0, none⟩) (m + 2) cap) (List.replicate (m + 1) Cd.clr ++ [Cd.lve]) Y) : ∃ cur rs, bx + 1 ≤ g ∧ Y.heap[g]? = some (.cells cur 23 (0, 0)) ∧ m + 2 ≤ cap ∧ cap ≤ maxLen ∧ cur.size = cap * 3 ∧ cur.toList = .int .i64 6 :: .int .i64 0 :: .int .i64 1 :: rs ∧ rs.take ((m + 1) * 3) = InL (List.replicate m Cd.clr ++ [Cd.lve]) := by
  rcases h.row.2 with ⟨e, _⟩ | ⟨g', cap', cur, e, hb, hg, h1, h2, h3, h4⟩
  · cases e
  · cases e
    have e1 : InL (List.replicate (m + 1) Cd.clr ++ [Cd.lve]) = .int .i64 6 :: .int .i64 0 :: .int .i64 1 :: InL (List.replicate m Cd.clr ++ [Cd.lve]) := rfl
    rw [e1] at h4
    have e2 : (m + 2) * 3 = (m + 1) * 3 + 3 := by omega
    rw [e2] at h4
    match hc : cur.toList, h4 with
    | [], h4 => simp at h4
    | [a], h4 => simp at h4
    | [a, b], h4 => simp at h4
    | a :: b :: c :: rs, h4 =>
      rw [List.take_succ_cons, List.take_succ_cons, List.take_succ_cons] at h4
      injection h4 with i1 h4
      injection h4 with i2 h4
      injection h4 with i3 h4
      subst i1 i2 i3
      exact ⟨cur, rs, hb, hg, h1, h2, h3, hc, h4⟩
theorem LgR.jump {w Y : World} {bx m g cap : Nat} (h : LgR w bx (m + 2) (.slice (some ⟨g, 0, none⟩) (m + 2) cap) (List.replicate (m + 1) Cd.clr ++ [Cd.lve]) Y) : LgR w bx (m + 2) (.slice (some ⟨g, 0, none⟩) (m + 2) cap) (Cd.lnB m).ins (((Y.setCell ⟨g, 0, none⟩ (.int .i64 17)).setCell ⟨g, 1, none⟩ (.int .i64 ((m + 1 : Nat) : Int))).setCell ⟨g, 2, none⟩ (.int .i64 0)) := by
  obtain ⟨cur, rs, hb, hg, h1, h2, h3, hc, h4⟩ := h.first
  have s1 := heap_setCell_same Y g 0 _ _ (.int .i64 17) hg
  have s2 := heap_setCell_same _ g 1 _ _ (.int .i64 ((m + 1 : Nat) : Int)) s1
  have s3 := heap_setCell_same _ g 2 _ _ (.int .i64 0) s2
  have o1 : ∀ k, k ≠ g → (((Y.setCell ⟨g, 0, none⟩ (.int .i64 17)).setCell ⟨g, 1, none⟩ (.int .i64 ((m + 1 : Nat) : Int))).setCell ⟨g, 2, none⟩ (.int .i64 0)).heap[k]? = Y.heap[k]? := fun k hk => by
    rw [heap_setCell_other _ _ k _ (by simpa using hk), heap_setCell_other _ _ k _ (by simpa using hk), heap_setCell_other _ _ k _ (by simpa using hk)]
  refine ⟨⟨?_, .inr ⟨g, cap, _, rfl, hb, s3, h1, h2, by simpa using h3, ?_⟩⟩, by rw [Cd.lnB_len], ?_, ?_⟩
  · have : (InL (Cd.lnB m).ins).length = (InL (List.replicate m Cd.clr ++ [Cd.lve])).length + 3 := rfl
    have l1 := h.row.1
    have l2 : (InL (List.replicate (m + 1) Cd.clr ++ [Cd.lve])).length = (InL (List.replicate m Cd.clr ++ [Cd.lve])).length + 3 := rfl
    omega
  · rw [set3 hc]
    have e2 : (m + 2) * 3 = (m + 1) * 3 + 3 := by omega
    rw [e2, List.take_succ_cons, List.take_succ_cons, List.take_succ_cons, h4]
    rfl
  · rw [o1 bx (by omega)]
    exact h.box
  · exact h.k.trans ⟨rfl, rfl, rfl, by simp, fun k hk => o1 k (by omega)⟩
theorem rep_more (k : Nat) : List.replicate (k + 1) Cd.clr = List.replicate k Cd.clr ++ [Cd.clr] := List.replicate_succ'
theorem lg0 {w W : World} {bx : Nat} (hb : bx = w.heap.size) (hW : W = w.alloc (.cells #[.slice none 0 0, .int .i64 1, .int .i64 0, .bool false] 33)) : LgR w bx 0 (.slice none 0 0) [] W := by
  subst hb hW
  exact ⟨World.ownsRow_nil _ _ _ _, rfl, Array.getElem?_push_size, (Below.refl _ _).alloc (Nat.le_refl _) _⟩

set_option maxRecDepth 100000 in
set_option maxHeartbeats 8000000 in
theorem long8_p (n : Int) (N B : Nat) (w : World) (ht : Tt B w) (hm : Tm B w) (P : Int) (hP : wrap64 (65534 + n.tmod 4) = P) (hN : P = (N : Int)) (h1 : 65534 ≤ N) (h2 : N ≤ 65537) : Calls Tryd.prog 8 #[.int .i64 n, .bool false] w fun e w' => e = .returned (.bool true) ∧ Below w.heap.size w w' := by
  have HALL : Hid (Tt B w ∧ Tm B w) := ⟨ht, hm⟩
  clear ht hm
  go_enter Tryd.func8, Tryd.ntmps8
  go_upto_region 2 with fail
  rw [hP]
  clear hP
  generalize n.tmod 4 = T
  subst hN
  have h3 : ¬ (N : Int) < 65534 := by omega
  go_upto_region 4 with fail
  obtain ⟨i0, hi, hz0, hz1, hz2⟩ := info_parts infoIns
  obtain ⟨bx, hbx⟩ : ∃ bx, bx = w.heap.size := ⟨_, rfl⟩
  obtain ⟨W, hW⟩ : ∃ W, W = w.alloc (.cells #[.slice none 0 0, .int .i64 1, .int .i64 0, .bool false] 33) := ⟨_, rfl⟩
  have LG0 : Hid (LgR w bx 0 (.slice none 0 0) [] W) := lg0 hbx hW
  have HBX : Hid (bx = w.heap.size) := hbx
  go_upto_region 5 with fail
  rw [← hW, ← hbx]
  clear hW hbx
  go_wp2_with fail
  go_loopw [6] (fun i wr => ∃ (k : Nat) (v : Value), k + 1 ≤ N ∧ i = .int .i64 k ∧ Hid (LgR w bx k v (List.replicate k Cd.clr) wr)) (fun i _ => N - (intOf i).toNat)
  case atStart => exact ⟨0, _, by omega, rfl, LG0⟩
  case round =>
    obtain ⟨k, v, hk, rfl, LG⟩ := hrel
    obtain ⟨va, cap, hv⟩ := ownSh LG.out.row
    subst hv
    have c0 : wr.cell? ⟨bx, 0, none⟩ = some (.slice va k cap) := by simp [World.cell?, LG.out.box]
    have hlt := LG.out.lt
    have hne : ¬ bx = wr.heap.size := Nat.ne_of_lt hlt
    by_cases hl : k + 1 < N
    · have hki : (k : Int) < (N : Int) - 1 := by omega
      have ES : Hid (List.replicate (k + 1) Cd.clr = List.replicate k Cd.clr ++ [Cd.clr]) := rep_more k
      have H63 : Hid (k + 1 ≤ maxLen ∧ ((k + 1) + (k + 1) / 4 + 192) * 24 ≤ 281474976710656) := by unfold Hid maxLen; omega
      go_wp2_with (at_builtin; refine wpList_append_own_wide _ rfl _ _ 31 rfl (bx + 1) 23 i0 (.agg #[.int .i64 0, .int .i64 0, .int .i64 0]) 3 24 Tryd.underlying31 hi hz0 hz1 hz2 rfl (by decide) _ _ _ rfl (ownLt LG.out.row ((Below.refl _ _).alloc (Nat.le_refl _) _)) ⟨wr.heap.size, 0, none⟩ 1 1 (inC Cd.clr) rfl rfl (three3 _ _ _ _ _) (one3 Cd.clr) H63.out.1 H63.out.2 (by simp; omega) ?_)
      intro v8 w8 h8 g8 o8
      obtain ⟨va8, cap8, hv8⟩ := ownSh h8
      subst hv8
      have hb8 := LG.out.grow g8
      have q8 : w8.cell? ⟨bx, 0, none⟩ = some (.slice va k cap) := by simp [World.cell?, hb8]
      have f8 : w8.frozen? ⟨bx, 0, none⟩ = false := by simp [World.frozen?, hb8]
      have LN : Hid (LgR w bx (k + 1) (.slice va8 (k + 1) cap8) (List.replicate (k + 1) Cd.clr) (w8.setCell ⟨bx, 0, none⟩ (.slice va8 (k + 1) cap8))) := by rw [ES.out]; exact LG.out.step h8 g8
      clear h8 g8 o8 hb8 LG
      go_wp2_with fail
      go_roundw
      case rel => exact ⟨k + 1, _, by omega, by go_num, LN⟩
      case measure => simp [intOf]; omega
    · have hkn : ¬ (k : Int) < (N : Int) - 1 := by omega
      have HNK : Hid (N = k + 1) := by unfold Hid; omega
      have H64 : Hid (k + 1 ≤ maxLen ∧ k + 1 ≤ 1000000000000000) := by unfold Hid maxLen; omega
      have H63 : Hid (k + 1 ≤ maxLen ∧ ((k + 1) + (k + 1) / 4 + 192) * 24 ≤ 281474976710656) := by unfold Hid maxLen; omega
      go_wp2_with (at_builtin; refine wpList_append_own_wide _ rfl _ _ 31 rfl (bx + 1) 23 i0 (.agg #[.int .i64 0, .int .i64 0, .int .i64 0]) 3 24 Tryd.underlying31 hi hz0 hz1 hz2 rfl (by decide) _ _ _ rfl (ownLt LG.out.row ((Below.refl _ _).alloc (Nat.le_refl _) _)) ⟨wr.heap.size, 0, none⟩ 1 1 (inC Cd.lve) rfl rfl (three3 _ _ _ _ _) (one3 Cd.lve) H63.out.1 H63.out.2 (by simp; omega) ?_)
      intro v8 w8 h8 g8 o8
      obtain ⟨va8, cap8, hv8⟩ := ownSh h8
      subst hv8
      have hb8 := LG.out.grow g8
      have q8 : w8.cell? ⟨bx, 0, none⟩ = some (.slice va k cap) := by simp [World.cell?, hb8]
      have f8 : w8.frozen? ⟨bx, 0, none⟩ = false := by simp [World.frozen?, hb8]
      have LN : Hid (LgR w bx (k + 1) (.slice va8 (k + 1) cap8) (List.replicate k Cd.clr ++ [Cd.lve]) (w8.setCell ⟨bx, 0, none⟩ (.slice va8 (k + 1) cap8))) := LG.out.step h8 g8
      obtain ⟨Y, hY⟩ : ∃ Y, Y = w8.setCell ⟨bx, 0, none⟩ (.slice va8 (k + 1) cap8) := ⟨_, rfl⟩
      rw [← hY] at LN
      clear h8 g8 o8 hb8 LG c0 hlt hne LG0
      go_upto_region 12 with fail
      rw [← hY]
      clear hY q8 f8
      have d0 : Y.cell? ⟨bx, 0, none⟩ = some (.slice va8 (k + 1) cap8) := by simp [World.cell?, LN.out.box]
      have d1 : Y.cell? ⟨bx, 1, none⟩ = some (.int .i64 1) := by simp [World.cell?, LN.out.box]
      have d2 : Y.cell? ⟨bx, 2, none⟩ = some (.int .i64 0) := by simp [World.cell?, LN.out.box]
      have d3 : Y.cell? ⟨bx, 3, none⟩ = some (.bool false) := by simp [World.cell?, LN.out.box]
      have C9 := lng_mem (c := (Cd.lnA k)) HBX.out HALL.out LN.out rfl ⟨rfl, rfl, rfl⟩ (lnA_ok k) H64.out
      have BZ : Hid (Below w.heap.size w (Y.alloc (.cells #[.slice va8 (k + 1) cap8, .int .i64 1, .int .i64 0, .bool false] 33))) := by
        have hb := HBX.out
        have := LN.out.k
        rw [hb] at this
        exact this.alloc this.size _
      have EQ : Hid (Calls Tryd.prog 18 #[.slice (some ⟨Y.heap.size, 0, none⟩) 1 1, .int .i64 0] (Y.alloc (.cells #[.slice va8 (k + 1) cap8, .int .i64 1, .int .i64 0, .bool false] 33)) fun e w' => e = .returned (.bool (decide (N ≤ 65536))) ∧ Below w.heap.size w w') := by
        refine (cdSnd_any 0 _ (some ⟨Y.heap.size, 0, none⟩) 1 [(Cd.lnA k)] _ C9).mono fun e w' ⟨b, a, d, f⟩ => ⟨?_, BZ.out.trans (f.mono BZ.out.size)⟩
        rw [a]
        have hn := HNK.out
        have e1 : (b = true) ↔ decide (N ≤ 65536) = true := by rw [d, Cd.lnA_snd Cd.top k, decide_eq_true_iff, hn]
        rw [Bool.eq_iff_iff.2 e1]
      have EK : Hid (∀ X, Below w.heap.size w X → Calls Tryd.prog 9 #[] X fun e w' => e = .returned (.bool true) ∧ Below w.heap.size w w') := fun X b => (known8 B X (HALL.out.1.later b) (HALL.out.2.later (b.mono HALL.out.1.hB))).mono fun e w' ⟨a, d⟩ => ⟨a, b.trans (d.mono b.size)⟩
      clear C9 LN HNK H63 H64
      by_cases hs : N ≤ 65536
      · have hsi : (N : Int) ≤ 65536 := by omega
        have ds : decide ((N : Int) ≤ 65536) = true := decide_eq_true hsi
        rw [decide_eq_true hs] at EQ
        go_wp2_with fail
        refine Calls.mono EQ.out ?_
        rintro e9 w9 ⟨rfl, b9⟩
        have B9 : Hid (Below w.heap.size w w9) := b9
        clear b9
        go_wp2_with fail
        refine Calls.mono (EK.out _ B9.out) ?_
        rintro e20 w20 ⟨rfl, b20⟩
        have B20 : Hid (Below w.heap.size w w20) := b20
        clear b20
        go_wp2_with fail
        go_ret
        exact ⟨rfl, B20.out⟩
      · have hsi : ¬ (N : Int) ≤ 65536 := by omega
        have ds : decide ((N : Int) ≤ 65536) = false := decide_eq_false hsi
        rw [decide_eq_false hs] at EQ
        go_wp2_with fail
        refine Calls.mono EQ.out ?_
        rintro e9 w9 ⟨rfl, b9⟩
        have B9 : Hid (Below w.heap.size w w9) := b9
        clear b9
        go_wp2_with fail
        refine Calls.mono (EK.out _ B9.out) ?_
        rintro e20 w20 ⟨rfl, b20⟩
        have B20 : Hid (Below w.heap.size w w20) := b20
        clear b20
        go_wp2_with fail
        go_ret
        exact ⟨rfl, B20.out⟩
set_option maxRecDepth 100000 in
set_option maxHeartbeats 8000000 in
theorem long8_n (n : Int) (N B : Nat) (w : World) (ht : Tt B w) (hm : Tm B w) (P : Int) (hP : wrap64 (65534 + n.tmod 4) = P) (hN : P + 4 = (N : Int)) (h1 : 65534 ≤ N) (h2 : N ≤ 65537) (h3 : P < 65534) : Calls Tryd.prog 8 #[.int .i64 n, .bool false] w fun e w' => e = .returned (.bool true) ∧ Below w.heap.size w w' := by
  have HALL : Hid (Tt B w ∧ Tm B w) := ⟨ht, hm⟩
  clear ht hm
  go_enter Tryd.func8, Tryd.ntmps8
  go_upto_region 2 with fail
  rw [hP]
  clear hP
  generalize n.tmod 4 = T
  have hw4 : wrap64 (P + 4) = (N : Int) := by unfold wrap64; omega
  go_upto_region 4 with fail
  try rw [hw4]
  try rw [hN]
  clear hw4
  obtain ⟨i0, hi, hz0, hz1, hz2⟩ := info_parts infoIns
  obtain ⟨bx, hbx⟩ : ∃ bx, bx = w.heap.size := ⟨_, rfl⟩
  obtain ⟨W, hW⟩ : ∃ W, W = w.alloc (.cells #[.slice none 0 0, .int .i64 1, .int .i64 0, .bool false] 33) := ⟨_, rfl⟩
  have LG0 : Hid (LgR w bx 0 (.slice none 0 0) [] W) := lg0 hbx hW
  have HBX : Hid (bx = w.heap.size) := hbx
  go_upto_region 5 with fail
  rw [← hW, ← hbx]
  clear hW hbx
  go_wp2_with fail
  go_loopw [6] (fun i wr => ∃ (k : Nat) (v : Value), k + 1 ≤ N ∧ i = .int .i64 k ∧ Hid (LgR w bx k v (List.replicate k Cd.clr) wr)) (fun i _ => N - (intOf i).toNat)
  case atStart => exact ⟨0, _, by omega, rfl, LG0⟩
  case round =>
    obtain ⟨k, v, hk, rfl, LG⟩ := hrel
    obtain ⟨va, cap, hv⟩ := ownSh LG.out.row
    subst hv
    have c0 : wr.cell? ⟨bx, 0, none⟩ = some (.slice va k cap) := by simp [World.cell?, LG.out.box]
    have hlt := LG.out.lt
    have hne : ¬ bx = wr.heap.size := Nat.ne_of_lt hlt
    by_cases hl : k + 1 < N
    · have hki : (k : Int) < (N : Int) - 1 := by omega
      have ES : Hid (List.replicate (k + 1) Cd.clr = List.replicate k Cd.clr ++ [Cd.clr]) := rep_more k
      have H63 : Hid (k + 1 ≤ maxLen ∧ ((k + 1) + (k + 1) / 4 + 192) * 24 ≤ 281474976710656) := by unfold Hid maxLen; omega
      go_wp2_with (at_builtin; refine wpList_append_own_wide _ rfl _ _ 31 rfl (bx + 1) 23 i0 (.agg #[.int .i64 0, .int .i64 0, .int .i64 0]) 3 24 Tryd.underlying31 hi hz0 hz1 hz2 rfl (by decide) _ _ _ rfl (ownLt LG.out.row ((Below.refl _ _).alloc (Nat.le_refl _) _)) ⟨wr.heap.size, 0, none⟩ 1 1 (inC Cd.clr) rfl rfl (three3 _ _ _ _ _) (one3 Cd.clr) H63.out.1 H63.out.2 (by simp; omega) ?_)
      intro v8 w8 h8 g8 o8
      obtain ⟨va8, cap8, hv8⟩ := ownSh h8
      subst hv8
      have hb8 := LG.out.grow g8
      have q8 : w8.cell? ⟨bx, 0, none⟩ = some (.slice va k cap) := by simp [World.cell?, hb8]
      have f8 : w8.frozen? ⟨bx, 0, none⟩ = false := by simp [World.frozen?, hb8]
      have LN : Hid (LgR w bx (k + 1) (.slice va8 (k + 1) cap8) (List.replicate (k + 1) Cd.clr) (w8.setCell ⟨bx, 0, none⟩ (.slice va8 (k + 1) cap8))) := by rw [ES.out]; exact LG.out.step h8 g8
      clear h8 g8 o8 hb8 LG
      go_wp2_with fail
      go_roundw
      case rel => exact ⟨k + 1, _, by omega, by go_num, LN⟩
      case measure => simp [intOf]; omega
    · have hkn : ¬ (k : Int) < (N : Int) - 1 := by omega
      have HNK : Hid (N = k + 1) := by unfold Hid; omega
      have H64 : Hid (k + 1 ≤ maxLen ∧ k + 1 ≤ 1000000000000000) := by unfold Hid maxLen; omega
      have H63 : Hid (k + 1 ≤ maxLen ∧ ((k + 1) + (k + 1) / 4 + 192) * 24 ≤ 281474976710656) := by unfold Hid maxLen; omega
      go_wp2_with (at_builtin; refine wpList_append_own_wide _ rfl _ _ 31 rfl (bx + 1) 23 i0 (.agg #[.int .i64 0, .int .i64 0, .int .i64 0]) 3 24 Tryd.underlying31 hi hz0 hz1 hz2 rfl (by decide) _ _ _ rfl (ownLt LG.out.row ((Below.refl _ _).alloc (Nat.le_refl _) _)) ⟨wr.heap.size, 0, none⟩ 1 1 (inC Cd.lve) rfl rfl (three3 _ _ _ _ _) (one3 Cd.lve) H63.out.1 H63.out.2 (by simp; omega) ?_)
      intro v8 w8 h8 g8 o8
      obtain ⟨va8, cap8, hv8⟩ := ownSh h8
      subst hv8
      have hb8 := LG.out.grow g8
      have q8 : w8.cell? ⟨bx, 0, none⟩ = some (.slice va k cap) := by simp [World.cell?, hb8]
      have f8 : w8.frozen? ⟨bx, 0, none⟩ = false := by simp [World.frozen?, hb8]
      have LN : Hid (LgR w bx (k + 1) (.slice va8 (k + 1) cap8) (List.replicate k Cd.clr ++ [Cd.lve]) (w8.setCell ⟨bx, 0, none⟩ (.slice va8 (k + 1) cap8))) := LG.out.step h8 g8
      obtain ⟨Y, hY⟩ : ∃ Y, Y = w8.setCell ⟨bx, 0, none⟩ (.slice va8 (k + 1) cap8) := ⟨_, rfl⟩
      rw [← hY] at LN
      clear h8 g8 o8 hb8 LG c0 hlt hne LG0
      go_upto_region 12 with fail
      rw [← hY]
      clear hY q8 f8
      have d0 : Y.cell? ⟨bx, 0, none⟩ = some (.slice va8 (k + 1) cap8) := by simp [World.cell?, LN.out.box]
      have d1 : Y.cell? ⟨bx, 1, none⟩ = some (.int .i64 1) := by simp [World.cell?, LN.out.box]
      have d2 : Y.cell? ⟨bx, 2, none⟩ = some (.int .i64 0) := by simp [World.cell?, LN.out.box]
      have d3 : Y.cell? ⟨bx, 3, none⟩ = some (.bool false) := by simp [World.cell?, LN.out.box]
      have C9 := lng_mem (c := (Cd.lnA k)) HBX.out HALL.out LN.out rfl ⟨rfl, rfl, rfl⟩ (lnA_ok k) H64.out
      have BZ : Hid (Below w.heap.size w (Y.alloc (.cells #[.slice va8 (k + 1) cap8, .int .i64 1, .int .i64 0, .bool false] 33))) := by
        have hb := HBX.out
        have := LN.out.k
        rw [hb] at this
        exact this.alloc this.size _
      have EQ : Hid (Calls Tryd.prog 18 #[.slice (some ⟨Y.heap.size, 0, none⟩) 1 1, .int .i64 0] (Y.alloc (.cells #[.slice va8 (k + 1) cap8, .int .i64 1, .int .i64 0, .bool false] 33)) fun e w' => e = .returned (.bool (decide (N ≤ 65536))) ∧ Below w.heap.size w w') := by
        refine (cdSnd_any 0 _ (some ⟨Y.heap.size, 0, none⟩) 1 [(Cd.lnA k)] _ C9).mono fun e w' ⟨b, a, d, f⟩ => ⟨?_, BZ.out.trans (f.mono BZ.out.size)⟩
        rw [a]
        have hn := HNK.out
        have e1 : (b = true) ↔ decide (N ≤ 65536) = true := by rw [d, Cd.lnA_snd Cd.top k, decide_eq_true_iff, hn]
        rw [Bool.eq_iff_iff.2 e1]
      have EK : Hid (∀ X, Below w.heap.size w X → Calls Tryd.prog 9 #[] X fun e w' => e = .returned (.bool true) ∧ Below w.heap.size w w') := fun X b => (known8 B X (HALL.out.1.later b) (HALL.out.2.later (b.mono HALL.out.1.hB))).mono fun e w' ⟨a, d⟩ => ⟨a, b.trans (d.mono b.size)⟩
      clear C9 LN HNK H63 H64
      by_cases hs : N ≤ 65536
      · have hsi : (N : Int) ≤ 65536 := by omega
        have ds : decide ((N : Int) ≤ 65536) = true := decide_eq_true hsi
        rw [decide_eq_true hs] at EQ
        go_wp2_with fail
        refine Calls.mono EQ.out ?_
        rintro e9 w9 ⟨rfl, b9⟩
        have B9 : Hid (Below w.heap.size w w9) := b9
        clear b9
        go_wp2_with fail
        refine Calls.mono (EK.out _ B9.out) ?_
        rintro e20 w20 ⟨rfl, b20⟩
        have B20 : Hid (Below w.heap.size w w20) := b20
        clear b20
        go_wp2_with fail
        go_ret
        exact ⟨rfl, B20.out⟩
      · have hsi : ¬ (N : Int) ≤ 65536 := by omega
        have ds : decide ((N : Int) ≤ 65536) = false := decide_eq_false hsi
        rw [decide_eq_false hs] at EQ
        go_wp2_with fail
        refine Calls.mono EQ.out ?_
        rintro e9 w9 ⟨rfl, b9⟩
        have B9 : Hid (Below w.heap.size w w9) := b9
        clear b9
        go_wp2_with fail
        refine Calls.mono (EK.out _ B9.out) ?_
        rintro e20 w20 ⟨rfl, b20⟩
        have B20 : Hid (Below w.heap.size w w20) := b20
        clear b20
        go_wp2_with fail
        go_ret
        exact ⟨rfl, B20.out⟩
set_option maxRecDepth 100000 in
set_option maxHeartbeats 8000000 in
theorem long8_pj (n : Int) (N B : Nat) (w : World) (ht : Tt B w) (hm : Tm B w) (P : Int) (hP : wrap64 (65534 + n.tmod 4) = P) (hN : P = (N : Int)) (h1 : 65534 ≤ N) (h2 : N ≤ 65537) : Calls Tryd.prog 8 #[.int .i64 n, .bool true] w fun e w' => e = .returned (.bool true) ∧ Below w.heap.size w w' := by
  have HALL : Hid (Tt B w ∧ Tm B w) := ⟨ht, hm⟩
  clear ht hm
  go_enter Tryd.func8, Tryd.ntmps8
  go_upto_region 2 with fail
  rw [hP]
  clear hP
  generalize n.tmod 4 = T
  subst hN
  have h3 : ¬ (N : Int) < 65534 := by omega
  go_upto_region 4 with fail
  obtain ⟨i0, hi, hz0, hz1, hz2⟩ := info_parts infoIns
  obtain ⟨bx, hbx⟩ : ∃ bx, bx = w.heap.size := ⟨_, rfl⟩
  obtain ⟨W, hW⟩ : ∃ W, W = w.alloc (.cells #[.slice none 0 0, .int .i64 1, .int .i64 0, .bool false] 33) := ⟨_, rfl⟩
  have LG0 : Hid (LgR w bx 0 (.slice none 0 0) [] W) := lg0 hbx hW
  have HBX : Hid (bx = w.heap.size) := hbx
  go_upto_region 5 with fail
  rw [← hW, ← hbx]
  clear hW hbx
  go_wp2_with fail
  go_loopw [6] (fun i wr => ∃ (k : Nat) (v : Value), k + 1 ≤ N ∧ i = .int .i64 k ∧ Hid (LgR w bx k v (List.replicate k Cd.clr) wr)) (fun i _ => N - (intOf i).toNat)
  case atStart => exact ⟨0, _, by omega, rfl, LG0⟩
  case round =>
    obtain ⟨k, v, hk, rfl, LG⟩ := hrel
    obtain ⟨va, cap, hv⟩ := ownSh LG.out.row
    subst hv
    have c0 : wr.cell? ⟨bx, 0, none⟩ = some (.slice va k cap) := by simp [World.cell?, LG.out.box]
    have hlt := LG.out.lt
    have hne : ¬ bx = wr.heap.size := Nat.ne_of_lt hlt
    by_cases hl : k + 1 < N
    · have hki : (k : Int) < (N : Int) - 1 := by omega
      have ES : Hid (List.replicate (k + 1) Cd.clr = List.replicate k Cd.clr ++ [Cd.clr]) := rep_more k
      have H63 : Hid (k + 1 ≤ maxLen ∧ ((k + 1) + (k + 1) / 4 + 192) * 24 ≤ 281474976710656) := by unfold Hid maxLen; omega
      go_wp2_with (at_builtin; refine wpList_append_own_wide _ rfl _ _ 31 rfl (bx + 1) 23 i0 (.agg #[.int .i64 0, .int .i64 0, .int .i64 0]) 3 24 Tryd.underlying31 hi hz0 hz1 hz2 rfl (by decide) _ _ _ rfl (ownLt LG.out.row ((Below.refl _ _).alloc (Nat.le_refl _) _)) ⟨wr.heap.size, 0, none⟩ 1 1 (inC Cd.clr) rfl rfl (three3 _ _ _ _ _) (one3 Cd.clr) H63.out.1 H63.out.2 (by simp; omega) ?_)
      intro v8 w8 h8 g8 o8
      obtain ⟨va8, cap8, hv8⟩ := ownSh h8
      subst hv8
      have hb8 := LG.out.grow g8
      have q8 : w8.cell? ⟨bx, 0, none⟩ = some (.slice va k cap) := by simp [World.cell?, hb8]
      have f8 : w8.frozen? ⟨bx, 0, none⟩ = false := by simp [World.frozen?, hb8]
      have LN : Hid (LgR w bx (k + 1) (.slice va8 (k + 1) cap8) (List.replicate (k + 1) Cd.clr) (w8.setCell ⟨bx, 0, none⟩ (.slice va8 (k + 1) cap8))) := by rw [ES.out]; exact LG.out.step h8 g8
      clear h8 g8 o8 hb8 LG
      go_wp2_with fail
      go_roundw
      case rel => exact ⟨k + 1, _, by omega, by go_num, LN⟩
      case measure => simp [intOf]; omega
    · have hkn : ¬ (k : Int) < (N : Int) - 1 := by omega
      have HNK : Hid (N = k + 1) := by unfold Hid; omega
      have H64 : Hid (k + 1 ≤ maxLen ∧ k + 1 ≤ 1000000000000000) := by unfold Hid maxLen; omega
      have H63 : Hid (k + 1 ≤ maxLen ∧ ((k + 1) + (k + 1) / 4 + 192) * 24 ≤ 281474976710656) := by unfold Hid maxLen; omega
      go_wp2_with (at_builtin; refine wpList_append_own_wide _ rfl _ _ 31 rfl (bx + 1) 23 i0 (.agg #[.int .i64 0, .int .i64 0, .int .i64 0]) 3 24 Tryd.underlying31 hi hz0 hz1 hz2 rfl (by decide) _ _ _ rfl (ownLt LG.out.row ((Below.refl _ _).alloc (Nat.le_refl _) _)) ⟨wr.heap.size, 0, none⟩ 1 1 (inC Cd.lve) rfl rfl (three3 _ _ _ _ _) (one3 Cd.lve) H63.out.1 H63.out.2 (by simp; omega) ?_)
      intro v8 w8 h8 g8 o8
      obtain ⟨va8, cap8, hv8⟩ := ownSh h8
      subst hv8
      have hb8 := LG.out.grow g8
      have q8 : w8.cell? ⟨bx, 0, none⟩ = some (.slice va k cap) := by simp [World.cell?, hb8]
      have f8 : w8.frozen? ⟨bx, 0, none⟩ = false := by simp [World.frozen?, hb8]
      have LN : Hid (LgR w bx (k + 1) (.slice va8 (k + 1) cap8) (List.replicate k Cd.clr ++ [Cd.lve]) (w8.setCell ⟨bx, 0, none⟩ (.slice va8 (k + 1) cap8))) := LG.out.step h8 g8
      obtain ⟨Y, hY⟩ : ∃ Y, Y = w8.setCell ⟨bx, 0, none⟩ (.slice va8 (k + 1) cap8) := ⟨_, rfl⟩
      rw [← hY] at LN
      clear h8 g8 o8 hb8 LG c0 hlt hne LG0
      go_upto_region 11 with fail
      rw [← hY]
      clear hY q8 f8
      obtain ⟨m, hkm⟩ : ∃ m, k = m + 1 := ⟨k - 1, by omega⟩
      subst hkm
      have HM7 : Hid (m ≤ 70000) := by unfold Hid; omega
      obtain ⟨g, cap', hva, _, _, _⟩ := own_ins LN.out.row LN.out.len (by omega) H64.out.2
      cases hva
      obtain ⟨cur, rs, hbg, hg, _, _, hsz, hcl, _⟩ := LN.out.first
      have a0 : Y.cell? ⟨g, 0, none⟩ = some (.int .i64 6) := cell_of hg (by rw [← Array.getElem?_toList, hcl]; rfl)
      have a1 : Y.cell? ⟨g, 1, none⟩ = some (.int .i64 0) := cell_of hg (by rw [← Array.getElem?_toList, hcl]; rfl)
      have a2 : Y.cell? ⟨g, 2, none⟩ = some (.int .i64 1) := cell_of hg (by rw [← Array.getElem?_toList, hcl]; rfl)
      have b0 : Y.frozen? ⟨g, 0, none⟩ = false := by simp [World.frozen?, hg]
      have b1 : Y.frozen? ⟨g, 1, none⟩ = false := by simp [World.frozen?, hg]
      have b2 : Y.frozen? ⟨g, 2, none⟩ = false := by simp [World.frozen?, hg]
      have d0 : Y.cell? ⟨bx, 0, none⟩ = some (.slice (some ⟨g, 0, none⟩) (m + 2) cap8) := by simp [World.cell?, LN.out.box]
      have hN1 : (N : Int) - 1 = ((m + 1 : Nat) : Int) := by have := HNK.out; omega
      have LJ := LN.out.jump
      obtain ⟨Z, hZ⟩ : ∃ Z, Z = ((Y.setCell ⟨g, 0, none⟩ (.int .i64 17)).setCell ⟨g, 1, none⟩ (.int .i64 ((m + 1 : Nat) : Int))).setCell ⟨g, 2, none⟩ (.int .i64 0) := ⟨_, rfl⟩
      rw [← hZ] at LJ
      have LX : Hid (LgR w bx (m + 2) (.slice (some ⟨g, 0, none⟩) (m + 2) cap8) (Cd.lnB m).ins Z) := LJ
      have HZ : Hid _ := hZ
      have HN1 : Hid _ := hN1
      clear LN LJ hg hsz hcl hZ hN1
      go_upto_region 12 with fail
      rw [HN1.out, ← HZ.out]
      clear a0 a1 a2 b0 b1 b2 d0 HZ
      have LN := LX
      clear LX
      have d0 : Z.cell? ⟨bx, 0, none⟩ = some (.slice (some ⟨g, 0, none⟩) (m + 2) cap8) := by simp [World.cell?, LN.out.box]
      have d1 : Z.cell? ⟨bx, 1, none⟩ = some (.int .i64 1) := by simp [World.cell?, LN.out.box]
      have d2 : Z.cell? ⟨bx, 2, none⟩ = some (.int .i64 0) := by simp [World.cell?, LN.out.box]
      have d3 : Z.cell? ⟨bx, 3, none⟩ = some (.bool false) := by simp [World.cell?, LN.out.box]
      have C9 := lng_mem (c := (Cd.lnB m)) HBX.out HALL.out LN.out rfl ⟨rfl, rfl, rfl⟩ (lnB_ok m HM7.out) H64.out
      have BZ : Hid (Below w.heap.size w (Z.alloc (.cells #[.slice (some ⟨g, 0, none⟩) (m + 2) cap8, .int .i64 1, .int .i64 0, .bool false] 33))) := by
        have hb := HBX.out
        have := LN.out.k
        rw [hb] at this
        exact this.alloc this.size _
      have EQ : Hid (Calls Tryd.prog 18 #[.slice (some ⟨Z.heap.size, 0, none⟩) 1 1, .int .i64 0] (Z.alloc (.cells #[.slice (some ⟨g, 0, none⟩) (m + 2) cap8, .int .i64 1, .int .i64 0, .bool false] 33)) fun e w' => e = .returned (.bool (decide (N ≤ 65536))) ∧ Below w.heap.size w w') := by
        refine (cdSnd_any 0 _ (some ⟨Z.heap.size, 0, none⟩) 1 [(Cd.lnB m)] _ C9).mono fun e w' ⟨b, a, d, f⟩ => ⟨?_, BZ.out.trans (f.mono BZ.out.size)⟩
        rw [a]
        have hn := HNK.out
        have e1 : (b = true) ↔ decide (N ≤ 65536) = true := by rw [d, Cd.lnB_snd Cd.top m, decide_eq_true_iff, hn]
        rw [Bool.eq_iff_iff.2 e1]
      have EK : Hid (∀ X, Below w.heap.size w X → Calls Tryd.prog 9 #[] X fun e w' => e = .returned (.bool true) ∧ Below w.heap.size w w') := fun X b => (known8 B X (HALL.out.1.later b) (HALL.out.2.later (b.mono HALL.out.1.hB))).mono fun e w' ⟨a, d⟩ => ⟨a, b.trans (d.mono b.size)⟩
      clear C9 LN HNK H63 H64
      by_cases hs : N ≤ 65536
      · have hsi : (N : Int) ≤ 65536 := by omega
        have ds : decide ((N : Int) ≤ 65536) = true := decide_eq_true hsi
        rw [decide_eq_true hs] at EQ
        go_wp2_with fail
        refine Calls.mono EQ.out ?_
        rintro e9 w9 ⟨rfl, b9⟩
        have B9 : Hid (Below w.heap.size w w9) := b9
        clear b9
        go_wp2_with fail
        refine Calls.mono (EK.out _ B9.out) ?_
        rintro e20 w20 ⟨rfl, b20⟩
        have B20 : Hid (Below w.heap.size w w20) := b20
        clear b20
        go_wp2_with fail
        go_ret
        exact ⟨rfl, B20.out⟩
      · have hsi : ¬ (N : Int) ≤ 65536 := by omega
        have ds : decide ((N : Int) ≤ 65536) = false := decide_eq_false hsi
        rw [decide_eq_false hs] at EQ
        go_wp2_with fail
        refine Calls.mono EQ.out ?_
        rintro e9 w9 ⟨rfl, b9⟩
        have B9 : Hid (Below w.heap.size w w9) := b9
        clear b9
        go_wp2_with fail
        refine Calls.mono (EK.out _ B9.out) ?_
        rintro e20 w20 ⟨rfl, b20⟩
        have B20 : Hid (Below w.heap.size w w20) := b20
        clear b20
        go_wp2_with fail
        go_ret
        exact ⟨rfl, B20.out⟩
set_option maxRecDepth 100000 in
set_option maxHeartbeats 8000000 in
theorem long8_nj (n : Int) (N B : Nat) (w : World) (ht : Tt B w) (hm : Tm B w) (P : Int) (hP : wrap64 (65534 + n.tmod 4) = P) (hN : P + 4 = (N : Int)) (h1 : 65534 ≤ N) (h2 : N ≤ 65537) (h3 : P < 65534) : Calls Tryd.prog 8 #[.int .i64 n, .bool true] w fun e w' => e = .returned (.bool true) ∧ Below w.heap.size w w' := by
  have HALL : Hid (Tt B w ∧ Tm B w) := ⟨ht, hm⟩
  clear ht hm
  go_enter Tryd.func8, Tryd.ntmps8
  go_upto_region 2 with fail
  rw [hP]
  clear hP
  generalize n.tmod 4 = T
  have hw4 : wrap64 (P + 4) = (N : Int) := by unfold wrap64; omega
  go_upto_region 4 with fail
  try rw [hw4]
  try rw [hN]
  clear hw4
  obtain ⟨i0, hi, hz0, hz1, hz2⟩ := info_parts infoIns
  obtain ⟨bx, hbx⟩ : ∃ bx, bx = w.heap.size := ⟨_, rfl⟩
  obtain ⟨W, hW⟩ : ∃ W, W = w.alloc (.cells #[.slice none 0 0, .int .i64 1, .int .i64 0, .bool false] 33) := ⟨_, rfl⟩
  have LG0 : Hid (LgR w bx 0 (.slice none 0 0) [] W) := lg0 hbx hW
  have HBX : Hid (bx = w.heap.size) := hbx
  go_upto_region 5 with fail
  rw [← hW, ← hbx]
  clear hW hbx
  go_wp2_with fail
  go_loopw [6] (fun i wr => ∃ (k : Nat) (v : Value), k + 1 ≤ N ∧ i = .int .i64 k ∧ Hid (LgR w bx k v (List.replicate k Cd.clr) wr)) (fun i _ => N - (intOf i).toNat)
  case atStart => exact ⟨0, _, by omega, rfl, LG0⟩
  case round =>
    obtain ⟨k, v, hk, rfl, LG⟩ := hrel
    obtain ⟨va, cap, hv⟩ := ownSh LG.out.row
    subst hv
    have c0 : wr.cell? ⟨bx, 0, none⟩ = some (.slice va k cap) := by simp [World.cell?, LG.out.box]
    have hlt := LG.out.lt
    have hne : ¬ bx = wr.heap.size := Nat.ne_of_lt hlt
    by_cases hl : k + 1 < N
    · have hki : (k : Int) < (N : Int) - 1 := by omega
      have ES : Hid (List.replicate (k + 1) Cd.clr = List.replicate k Cd.clr ++ [Cd.clr]) := rep_more k
      have H63 : Hid (k + 1 ≤ maxLen ∧ ((k + 1) + (k + 1) / 4 + 192) * 24 ≤ 281474976710656) := by unfold Hid maxLen; omega
      go_wp2_with (at_builtin; refine wpList_append_own_wide _ rfl _ _ 31 rfl (bx + 1) 23 i0 (.agg #[.int .i64 0, .int .i64 0, .int .i64 0]) 3 24 Tryd.underlying31 hi hz0 hz1 hz2 rfl (by decide) _ _ _ rfl (ownLt LG.out.row ((Below.refl _ _).alloc (Nat.le_refl _) _)) ⟨wr.heap.size, 0, none⟩ 1 1 (inC Cd.clr) rfl rfl (three3 _ _ _ _ _) (one3 Cd.clr) H63.out.1 H63.out.2 (by simp; omega) ?_)
      intro v8 w8 h8 g8 o8
      obtain ⟨va8, cap8, hv8⟩ := ownSh h8
      subst hv8
      have hb8 := LG.out.grow g8
      have q8 : w8.cell? ⟨bx, 0, none⟩ = some (.slice va k cap) := by simp [World.cell?, hb8]
      have f8 : w8.frozen? ⟨bx, 0, none⟩ = false := by simp [World.frozen?, hb8]
      have LN : Hid (LgR w bx (k + 1) (.slice va8 (k + 1) cap8) (List.replicate (k + 1) Cd.clr) (w8.setCell ⟨bx, 0, none⟩ (.slice va8 (k + 1) cap8))) := by rw [ES.out]; exact LG.out.step h8 g8
      clear h8 g8 o8 hb8 LG
      go_wp2_with fail
      go_roundw
      case rel => exact ⟨k + 1, _, by omega, by go_num, LN⟩
      case measure => simp [intOf]; omega
    · have hkn : ¬ (k : Int) < (N : Int) - 1 := by omega
      have HNK : Hid (N = k + 1) := by unfold Hid; omega
      have H64 : Hid (k + 1 ≤ maxLen ∧ k + 1 ≤ 1000000000000000) := by unfold Hid maxLen; omega
      have H63 : Hid (k + 1 ≤ maxLen ∧ ((k + 1) + (k + 1) / 4 + 192) * 24 ≤ 281474976710656) := by unfold Hid maxLen; omega
      go_wp2_with (at_builtin; refine wpList_append_own_wide _ rfl _ _ 31 rfl (bx + 1) 23 i0 (.agg #[.int .i64 0, .int .i64 0, .int .i64 0]) 3 24 Tryd.underlying31 hi hz0 hz1 hz2 rfl (by decide) _ _ _ rfl (ownLt LG.out.row ((Below.refl _ _).alloc (Nat.le_refl _) _)) ⟨wr.heap.size, 0, none⟩ 1 1 (inC Cd.lve) rfl rfl (three3 _ _ _ _ _) (one3 Cd.lve) H63.out.1 H63.out.2 (by simp; omega) ?_)
      intro v8 w8 h8 g8 o8
      obtain ⟨va8, cap8, hv8⟩ := ownSh h8
      subst hv8
      have hb8 := LG.out.grow g8
      have q8 : w8.cell? ⟨bx, 0, none⟩ = some (.slice va k cap) := by simp [World.cell?, hb8]
      have f8 : w8.frozen? ⟨bx, 0, none⟩ = false := by simp [World.frozen?, hb8]
      have LN : Hid (LgR w bx (k + 1) (.slice va8 (k + 1) cap8) (List.replicate k Cd.clr ++ [Cd.lve]) (w8.setCell ⟨bx, 0, none⟩ (.slice va8 (k + 1) cap8))) := LG.out.step h8 g8
      obtain ⟨Y, hY⟩ : ∃ Y, Y = w8.setCell ⟨bx, 0, none⟩ (.slice va8 (k + 1) cap8) := ⟨_, rfl⟩
      rw [← hY] at LN
      clear h8 g8 o8 hb8 LG c0 hlt hne LG0
      go_upto_region 11 with fail
      rw [← hY]
      clear hY q8 f8
      obtain ⟨m, hkm⟩ : ∃ m, k = m + 1 := ⟨k - 1, by omega⟩
      subst hkm
      have HM7 : Hid (m ≤ 70000) := by unfold Hid; omega
      obtain ⟨g, cap', hva, _, _, _⟩ := own_ins LN.out.row LN.out.len (by omega) H64.out.2
      cases hva
      obtain ⟨cur, rs, hbg, hg, _, _, hsz, hcl, _⟩ := LN.out.first
      have a0 : Y.cell? ⟨g, 0, none⟩ = some (.int .i64 6) := cell_of hg (by rw [← Array.getElem?_toList, hcl]; rfl)
      have a1 : Y.cell? ⟨g, 1, none⟩ = some (.int .i64 0) := cell_of hg (by rw [← Array.getElem?_toList, hcl]; rfl)
      have a2 : Y.cell? ⟨g, 2, none⟩ = some (.int .i64 1) := cell_of hg (by rw [← Array.getElem?_toList, hcl]; rfl)
      have b0 : Y.frozen? ⟨g, 0, none⟩ = false := by simp [World.frozen?, hg]
      have b1 : Y.frozen? ⟨g, 1, none⟩ = false := by simp [World.frozen?, hg]
      have b2 : Y.frozen? ⟨g, 2, none⟩ = false := by simp [World.frozen?, hg]
      have d0 : Y.cell? ⟨bx, 0, none⟩ = some (.slice (some ⟨g, 0, none⟩) (m + 2) cap8) := by simp [World.cell?, LN.out.box]
      have hN1 : (N : Int) - 1 = ((m + 1 : Nat) : Int) := by have := HNK.out; omega
      have LJ := LN.out.jump
      obtain ⟨Z, hZ⟩ : ∃ Z, Z = ((Y.setCell ⟨g, 0, none⟩ (.int .i64 17)).setCell ⟨g, 1, none⟩ (.int .i64 ((m + 1 : Nat) : Int))).setCell ⟨g, 2, none⟩ (.int .i64 0) := ⟨_, rfl⟩
      rw [← hZ] at LJ
      have LX : Hid (LgR w bx (m + 2) (.slice (some ⟨g, 0, none⟩) (m + 2) cap8) (Cd.lnB m).ins Z) := LJ
      have HZ : Hid _ := hZ
      have HN1 : Hid _ := hN1
      clear LN LJ hg hsz hcl hZ hN1
      go_upto_region 12 with fail
      rw [HN1.out, ← HZ.out]
      clear a0 a1 a2 b0 b1 b2 d0 HZ
      have LN := LX
      clear LX
      have d0 : Z.cell? ⟨bx, 0, none⟩ = some (.slice (some ⟨g, 0, none⟩) (m + 2) cap8) := by simp [World.cell?, LN.out.box]
      have d1 : Z.cell? ⟨bx, 1, none⟩ = some (.int .i64 1) := by simp [World.cell?, LN.out.box]
      have d2 : Z.cell? ⟨bx, 2, none⟩ = some (.int .i64 0) := by simp [World.cell?, LN.out.box]
      have d3 : Z.cell? ⟨bx, 3, none⟩ = some (.bool false) := by simp [World.cell?, LN.out.box]
      have C9 := lng_mem (c := (Cd.lnB m)) HBX.out HALL.out LN.out rfl ⟨rfl, rfl, rfl⟩ (lnB_ok m HM7.out) H64.out
      have BZ : Hid (Below w.heap.size w (Z.alloc (.cells #[.slice (some ⟨g, 0, none⟩) (m + 2) cap8, .int .i64 1, .int .i64 0, .bool false] 33))) := by
        have hb := HBX.out
        have := LN.out.k
        rw [hb] at this
        exact this.alloc this.size _
      have EQ : Hid (Calls Tryd.prog 18 #[.slice (some ⟨Z.heap.size, 0, none⟩) 1 1, .int .i64 0] (Z.alloc (.cells #[.slice (some ⟨g, 0, none⟩) (m + 2) cap8, .int .i64 1, .int .i64 0, .bool false] 33)) fun e w' => e = .returned (.bool (decide (N ≤ 65536))) ∧ Below w.heap.size w w') := by
        refine (cdSnd_any 0 _ (some ⟨Z.heap.size, 0, none⟩) 1 [(Cd.lnB m)] _ C9).mono fun e w' ⟨b, a, d, f⟩ => ⟨?_, BZ.out.trans (f.mono BZ.out.size)⟩
        rw [a]
        have hn := HNK.out
        have e1 : (b = true) ↔ decide (N ≤ 65536) = true := by rw [d, Cd.lnB_snd Cd.top m, decide_eq_true_iff, hn]
        rw [Bool.eq_iff_iff.2 e1]
      have EK : Hid (∀ X, Below w.heap.size w X → Calls Tryd.prog 9 #[] X fun e w' => e = .returned (.bool true) ∧ Below w.heap.size w w') := fun X b => (known8 B X (HALL.out.1.later b) (HALL.out.2.later (b.mono HALL.out.1.hB))).mono fun e w' ⟨a, d⟩ => ⟨a, b.trans (d.mono b.size)⟩
      clear C9 LN HNK H63 H64
      by_cases hs : N ≤ 65536
      · have hsi : (N : Int) ≤ 65536 := by omega
        have ds : decide ((N : Int) ≤ 65536) = true := decide_eq_true hsi
        rw [decide_eq_true hs] at EQ
        go_wp2_with fail
        refine Calls.mono EQ.out ?_
        rintro e9 w9 ⟨rfl, b9⟩
        have B9 : Hid (Below w.heap.size w w9) := b9
        clear b9
        go_wp2_with fail
        refine Calls.mono (EK.out _ B9.out) ?_
        rintro e20 w20 ⟨rfl, b20⟩
        have B20 : Hid (Below w.heap.size w w20) := b20
        clear b20
        go_wp2_with fail
        go_ret
        exact ⟨rfl, B20.out⟩
      · have hsi : ¬ (N : Int) ≤ 65536 := by omega
        have ds : decide ((N : Int) ≤ 65536) = false := decide_eq_false hsi
        rw [decide_eq_false hs] at EQ
        go_wp2_with fail
        refine Calls.mono EQ.out ?_
        rintro e9 w9 ⟨rfl, b9⟩
        have B9 : Hid (Below w.heap.size w w9) := b9
        clear b9
        go_wp2_with fail
        refine Calls.mono (EK.out _ B9.out) ?_
        rintro e20 w20 ⟨rfl, b20⟩
        have B20 : Hid (Below w.heap.size w w20) := b20
        clear b20
        go_wp2_with fail
        go_ret
        exact ⟨rfl, B20.out⟩
theorem long8_walk (n : Int) (jump : Bool) (B : Nat) (w : World) (ht : Tt B w) (hm : Tm B w) (hn : (Lit.int .i64 n).wf = true) : Calls Tryd.prog 8 #[.int .i64 n, .bool jump] w fun e w' => e = .returned (.bool true) ∧ Below w.heap.size w w' := by
  obtain ⟨t1, t2⟩ := tm_is n
  obtain ⟨P, hP⟩ : ∃ P, wrap64 (65534 + n.tmod 4) = P := ⟨_, rfl⟩
  rw [hP] at t1 t2
  by_cases h : P < 65534
  · cases jump with
    | false => exact long8_n n (P + 4).toNat B w ht hm P hP (by omega) (by omega) (by omega) h
    | true => exact long8_nj n (P + 4).toNat B w ht hm P hP (by omega) (by omega) (by omega) h
  · cases jump with
    | false => exact long8_p n P.toNat B w ht hm P hP (by omega) (by omega) (by omega)
    | true => exact long8_pj n P.toNat B w ht hm P hP (by omega) (by omega) (by omega)
end Go.Proofs.YtdaipapfkekfpaaDoor
