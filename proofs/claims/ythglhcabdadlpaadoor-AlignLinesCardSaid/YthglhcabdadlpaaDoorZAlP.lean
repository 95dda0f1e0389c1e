/- Layer 15: the statements' own pairs, own; SamePairs. -/
import Derived.Test.YthglhcabdadlpaaDoorZMag
namespace Go.Proofs.YthglhcabdadlpaaDoor
open Go.RowKit
set_option linter.unusedVariables false
set_option linter.unusedSimpArgs false
set_option maxRecDepth 100000
/-- One more behind a row of two numbers each: what is put lies in the block that the world has made last. -/
theorem wp_app2 {P : Program} {V : World} {o : Oper} {a : Act} {K : Act → World → Prop} {Q : Exit → Act → World → Prop} (W7 : World) (s x : Operand) (t : TypeId)
    (ho : o.op = .call { callee := .builtin .append, args := #[s, x], argTypes := #[t, t] })
    (base : Nat) (e : TypeId) (i : TypeInfo) (z : Value) (bytes : Nat) (ht : P.underlying t = some (.slice e)) (hi : P.info? e = some i) (hz : i.zero = some z)
    (hsize : i.size = 2) (hby : i.bytes = bytes) (hzs : z.cells.size = 2)
    (v : Value) (n : Nat) (xs : List Value) (hs : a.eval s = v) (hown : W7.ownsRow base e 2 v n xs) (u1 u2 : Value)
    (hV : V.os = W7.os ∧ V.tape = W7.tape ∧ V.output = W7.output ∧ V.heap = (W7.alloc (.cells #[u1, u2] e)).heap)
    (hx : a.eval x = .slice (some ⟨W7.heap.size, 0, none⟩) 1 1) (h1 : u1.oneCell' = true) (h2 : u2.oneCell' = true)
    (h63 : n + 1 ≤ maxLen) (hbytes : (n + 1) * bytes ≤ 140737488355328) (hbase : base ≤ W7.heap.size)
    (h : ∀ v' w', w'.ownsRow base e 2 v' (n + 1) (xs ++ [u1, u2]) → GwA W7 v v' w' → K (a.put o.dst v') w') : o.wp P a V K Q := by
  obtain ⟨V1, V2, V3, V4⟩ := hV
  have hb : Below W7.heap.size W7 V := ⟨V1, V2, V3, by rw [V4]; simp, fun k hk => by rw [V4]; exact ((Below.refl W7.heap.size W7).alloc (Nat.le_refl _) _).block k hk⟩
  have hsz : V.heap.size = W7.heap.size + 1 := by rw [V4]; simp
  refine wp_append_tolA s x t ho base e i z 2 bytes ht hi hz hsize hby hzs (by decide) v n xs hs (ownA hown hb) ⟨W7.heap.size, 0, none⟩ 1 1 [u1, u2] hx rfl (fun j y hj => ?_) (by intro y hy; simp at hy; rcases hy with rfl | rfl <;> assumption) h63 hbytes (by omega) (by decide) ?_
  · have := two2 W7 u1 u2 e j y hj
    simp only [World.cell?] at this ⊢
    rw [V4]
    exact this
  · intro v8 w8 h8 g8 o8
    refine h v8 w8 h8 ⟨⟨g8.os.trans V1, g8.tape.trans V2, g8.output.trans V3, ?_, fun k hk hn => (g8.block k (by omega) hn).trans (hb.block k hk)⟩, o8.imp id fun ⟨g, h, k⟩ => ⟨g, h, by omega⟩⟩
    have := g8.size
    omega
theorem GwA.low {w w' : World} {v v' : Value} {base : Nat} {ty : TypeId} {l : List Al.Ev} (h : GwA w v v' w') (ho : OwP w base ty v l) (hb : base ≤ w.heap.size) : Below base w w' :=
  ⟨h.1.os, h.1.tape, h.1.output, h.1.size, fun k hk => h.1.block k (by omega) (fun e => by have := (World.ownsRow.lt (show w.ownsRow base ty 2 v l.length (prC l) from ho) _ e.symm).1; omega)⟩
theorem infoRp : ∃ i, Tryd.prog.info? 66 = some i ∧ i.zero = some (.agg #[.int .i64 0, .int .i64 0]) ∧ i.size = 2 ∧ i.bytes = 16 := infoP _ _ _ _ _ (by kernel_rfl)
theorem own63c {k : Nat} (h : k ≤ 100000) : k + 1 ≤ maxLen ∧ (k + 1) * 16 ≤ 140737488355328 := by unfold maxLen; omega
set_option maxHeartbeats 8000000 in
theorem pairs_any (w : World) (a : Option Addr) (ca : Nat) (l : List Al.Ev) {B : Nat} (ha : EvR B w a l) (hB : B ≤ w.heap.size) (hl : l.length ≤ 100000) : Calls Tryd.prog 18 #[.slice a l.length ca] w fun e w' => ∃ v, e = .returned v ∧ OwP w' w.heap.size 66 v l ∧ Below w.heap.size w w' := by
  obtain ⟨i0, hi, zi0, zi1, zi2⟩ := infoRp
  have HA := hidA ha
  have HBB := hidA hB
  obtain ⟨p, hp⟩ : ∃ p, p = w.heap.size := ⟨_, rfl⟩
  have HP := hidA hp
  rw [← hp]
  obtain ⟨N, hN⟩ : ∃ N, N = l.length := ⟨_, rfl⟩
  have HN := hidA hN
  rw [← hN] at hl ⊢
  have HL := hidA hl
  clear ha hB hp hN hl
  go_enter Tryd.func18, Tryd.ntmps18
  go_wp2_with fail
  go_loopg [3, 4] N (fun gk y3 y4 wr => ∃ k : Nat, k + gk = N ∧ y4 = .int .i64 k ∧ Hid (OwP wr p 66 y3 (l.take k) ∧ Below p w wr))
  case atStart => exact ⟨0, by omega, rfl, OwP.nil _ _ _, Below.refl _ _⟩
  case round =>
    obtain ⟨k, hk, rfl, RR⟩ := hrel
    rcases gk with _ | gk
    · obtain rfl : N = k := by omega
      have dk : decide ((N : Int) < (N : Int)) = false := decide_eq_false (Int.lt_irrefl _)
      have FIN : Hid (OwP wr p 66 u3 l ∧ Below p w wr) := by
        have h := RR.out
        rw [List.take_of_length_le (by rw [HN.out]; exact Nat.le_refl _)] at h
        exact h
      go_wp2_with fail
      go_ret
      exact ⟨_, rfl, FIN.out⟩
    · obtain ⟨k6, dk, dk2, hkN, hk3⟩ := mch_k hk
      obtain ⟨x, hx⟩ : ∃ x, l[k]? = some x := ⟨_, List.getElem?_eq_getElem (by rw [← HN.out]; exact hkN)⟩
      obtain ⟨ga, oa, rfl, hga, cs⟩ := (HA.out.later RR.out.2 (by rw [HP.out]; exact HBB.out)) (by rw [← HN.out]; exact Nat.lt_of_le_of_lt (Nat.zero_le k) hkN)
      have a0 := (cs k x hx).1
      have a1 := (cs k x hx).2
      have htk : l.take (k + 1) = l.take k ++ [x] := by rw [List.take_add_one, hx]; rfl
      have hlk : (l.take k).length = k := by rw [List.length_take]; exact Nat.min_eq_left (by rw [← HN.out]; exact Nat.le_of_lt hkN)
      have OR : Hid (wr.ownsRow p 66 2 u3 k (prC (l.take k))) := by
        have h : wr.ownsRow p 66 2 u3 (l.take k).length (prC (l.take k)) := RR.out.1
        rw [hlk] at h
        exact h
      have HS : Hid (p ≤ wr.heap.size) := by rw [HP.out]; exact RR.out.2.size
      have H63 := hidA (own63c (k := k) (Nat.le_trans (Nat.le_of_lt hkN) HL.out))
      have FIN : Hid (∀ v8 w8, w8.ownsRow p 66 2 v8 (k + 1) (prC (l.take k) ++ [.int .i64 x.1, .int .i64 x.2]) → GwA wr u3 v8 w8 → OwP w8 p 66 v8 (l.take (k + 1)) ∧ Below p w w8) := fun v8 w8 h8 g8 => by
        refine ⟨?_, RR.out.2.trans (g8.low RR.out.1 HS.out)⟩
        unfold OwP
        rw [htk, prC_app, List.length_append, hlk]
        exact h8
      have WK := hidA (wrK k (Nat.le_trans (Nat.le_of_lt hkN) (Nat.le_trans HL.out (by decide))))
      generalize x.1 = x1 at *
      generalize x.2 = x2 at *
      clear cs hx htk hlk
      go_upto_region 5 with fail
      go_region_law (first
        | (rw [if_pos (by rfl)]; refine wp_app2 wr _ _ 33 rfl p 66 i0 (.agg #[.int .i64 0, .int .i64 0]) 16 Tryd.underlying33 hi zi0 zi1 zi2 rfl _ _ _ rfl OR.out (.int .i64 x1) (.int .i64 x2) ⟨rfl, rfl, rfl, rfl⟩ rfl rfl rfl H63.out.1 H63.out.2 HS.out ?_; intro v8 w8 h8 g8; have F := hidA (FIN.out v8 w8 h8 g8); clear h8 g8))
      all_goals
        go_wp2_with fail
        go_roundg gk
        case measure => omega
        case rel => exact ⟨k + 1, hk3, congrArg _ WK.out, ⟨F.out.1, F.out.2⟩⟩
set_option maxHeartbeats 8000000 in
theorem own_any (w : World) (a : Option Addr) (ca : Nat) (l : List Al.Ev) {B : Nat} (ha : EvR B w a l) (hB : B ≤ w.heap.size) (hl : l.length ≤ 100000) : Calls Tryd.prog 20 #[.slice a l.length ca] w fun e w' => ∃ v, e = .returned v ∧ OwP w' w.heap.size 64 v l ∧ Below w.heap.size w w' := by
  obtain ⟨i0, hi, zi0, zi1, zi2⟩ := infoPair
  have HA := hidA ha
  have HBB := hidA hB
  obtain ⟨p, hp⟩ : ∃ p, p = w.heap.size := ⟨_, rfl⟩
  have HP := hidA hp
  rw [← hp]
  obtain ⟨N, hN⟩ : ∃ N, N = l.length := ⟨_, rfl⟩
  have HN := hidA hN
  rw [← hN] at hl ⊢
  have HL := hidA hl
  clear ha hB hp hN hl
  go_enter Tryd.func20, Tryd.ntmps20
  go_wp2_with fail
  go_loopg [3, 4] N (fun gk y3 y4 wr => ∃ k : Nat, k + gk = N ∧ y4 = .int .i64 k ∧ Hid (OwP wr p 64 y3 (l.take k) ∧ Below p w wr))
  case atStart => exact ⟨0, by omega, rfl, OwP.nil _ _ _, Below.refl _ _⟩
  case round =>
    obtain ⟨k, hk, rfl, RR⟩ := hrel
    rcases gk with _ | gk
    · obtain rfl : N = k := by omega
      have dk : decide ((N : Int) < (N : Int)) = false := decide_eq_false (Int.lt_irrefl _)
      have FIN : Hid (OwP wr p 64 u3 l ∧ Below p w wr) := by
        have h := RR.out
        rw [List.take_of_length_le (by rw [HN.out]; exact Nat.le_refl _)] at h
        exact h
      go_wp2_with fail
      go_ret
      exact ⟨_, rfl, FIN.out⟩
    · obtain ⟨k6, dk, dk2, hkN, hk3⟩ := mch_k hk
      obtain ⟨x, hx⟩ : ∃ x, l[k]? = some x := ⟨_, List.getElem?_eq_getElem (by rw [← HN.out]; exact hkN)⟩
      obtain ⟨ga, oa, rfl, hga, cs⟩ := (HA.out.later RR.out.2 (by rw [HP.out]; exact HBB.out)) (by rw [← HN.out]; exact Nat.lt_of_le_of_lt (Nat.zero_le k) hkN)
      have a0 := (cs k x hx).1
      have a1 := (cs k x hx).2
      have htk : l.take (k + 1) = l.take k ++ [x] := by rw [List.take_add_one, hx]; rfl
      have hlk : (l.take k).length = k := by rw [List.length_take]; exact Nat.min_eq_left (by rw [← HN.out]; exact Nat.le_of_lt hkN)
      have OR : Hid (wr.ownsRow p 64 2 u3 k (prC (l.take k))) := by
        have h : wr.ownsRow p 64 2 u3 (l.take k).length (prC (l.take k)) := RR.out.1
        rw [hlk] at h
        exact h
      have HS : Hid (p ≤ wr.heap.size) := by rw [HP.out]; exact RR.out.2.size
      have H63 := hidA (own63c (k := k) (Nat.le_trans (Nat.le_of_lt hkN) HL.out))
      have FIN : Hid (∀ v8 w8, w8.ownsRow p 64 2 v8 (k + 1) (prC (l.take k) ++ [.int .i64 x.1, .int .i64 x.2]) → GwA wr u3 v8 w8 → OwP w8 p 64 v8 (l.take (k + 1)) ∧ Below p w w8) := fun v8 w8 h8 g8 => by
        refine ⟨?_, RR.out.2.trans (g8.low RR.out.1 HS.out)⟩
        unfold OwP
        rw [htk, prC_app, List.length_append, hlk]
        exact h8
      have WK := hidA (wrK k (Nat.le_trans (Nat.le_of_lt hkN) (Nat.le_trans HL.out (by decide))))
      generalize x.1 = x1 at *
      generalize x.2 = x2 at *
      clear cs hx htk hlk
      go_upto_region 5 with fail
      go_region_law (first
        | (rw [if_pos (by rfl)]; refine wp_app2 wr _ _ 30 rfl p 64 i0 (.agg #[.int .i64 0, .int .i64 0]) 16 Tryd.underlying30 hi zi0 zi1 zi2 rfl _ _ _ rfl OR.out (.int .i64 x1) (.int .i64 x2) ⟨rfl, rfl, rfl, rfl⟩ rfl rfl rfl H63.out.1 H63.out.2 HS.out ?_; intro v8 w8 h8 g8; have F := hidA (FIN.out v8 w8 h8 g8); clear h8 g8))
      all_goals
        go_wp2_with fail
        go_roundg gk
        case measure => omega
        case rel => exact ⟨k + 1, hk3, congrArg _ WK.out, ⟨F.out.1, F.out.2⟩⟩
theorem ev_or {x y : Al.Ev} (h : x ≠ y) : (x.1 == y.1) = false ∨ (x.1 == y.1) = true ∧ (x.2 == y.2) = false := ev_ne h
set_option maxHeartbeats 8000000 in
theorem sameP_any (w : World) (a b : Option Addr) (ca cb : Nat) (l m : List Al.Ev) {B : Nat} (ha : EvR B w a l) (hb : EvR B w b m) (hB : B ≤ w.heap.size) (hl : l.length ≤ 100000) (hm : m.length ≤ 100000) : Calls Tryd.prog 17 #[.slice a l.length ca, .slice b m.length cb] w fun e w' => e = .returned (.bool (decide (l = m))) ∧ Below w.heap.size w w' := by
  by_cases hlm : l.length = m.length
  · have HA := hidA ha
    have HB := hidA hb
    have HBB := hidA hB
    obtain ⟨T, hT⟩ : ∃ T, T = decide (l = m) := ⟨_, rfl⟩
    rw [← hT]
    have HF : Hid (∀ k : Nat, l[k]? ≠ m[k]? → T = false) := fun k h => by rw [hT]; exact decide_eq_false (fun e => h (by rw [e]))
    obtain ⟨N, hN⟩ : ∃ N, N = l.length := ⟨_, rfl⟩
    have HT : Hid (TgI l m N → T = true) := fun h => by
      rw [hT]
      refine decide_eq_true (List.ext_getElem? fun i => ?_)
      rcases Nat.lt_or_ge i N with c | c
      · exact h i c
      · rw [List.getElem?_eq_none (by rw [← hN]; exact c), List.getElem?_eq_none (by rw [← hlm, ← hN]; exact c)]
    have HN := hidA hN
    have HM : Hid (N = m.length) := hN.trans hlm
    rw [← hlm, ← hN]
    rw [← hN] at hl
    have HL := hidA hl
    clear ha hb hB hT hN hlm hl hm
    have q0 : ((N : Int) == (N : Int)) = true := beq_self_eq_true _
    go_enter Tryd.func17, Tryd.ntmps17
    go_wp2_with fail
    go_loopg [5] N (fun gk y wr => ∃ k : Nat, k + gk = N ∧ y = .int .i64 k ∧ Hid (Below w.heap.size w wr ∧ TgI l m k))
    case atStart => exact ⟨0, by omega, rfl, Below.refl _ _, fun i hi => absurd hi (Nat.not_lt_zero i)⟩
    case round =>
      obtain ⟨k, hk, rfl, RR⟩ := hrel
      rcases gk with _ | gk
      · obtain rfl : N = k := by omega
        have dk : decide ((N : Int) < (N : Int)) = false := decide_eq_false (Int.lt_irrefl _)
        obtain rfl : T = true := HT.out RR.out.2
        go_wp2_with fail
        go_ret
        exact ⟨rfl, RR.out.1⟩
      · obtain ⟨k6, dk, dk2, hkN, hk3⟩ := mch_k hk
        obtain ⟨x, hx⟩ : ∃ x, l[k]? = some x := ⟨_, List.getElem?_eq_getElem (by rw [← HN.out]; exact hkN)⟩
        obtain ⟨y, hy⟩ : ∃ y, m[k]? = some y := ⟨_, List.getElem?_eq_getElem (by rw [← HM.out]; exact hkN)⟩
        obtain ⟨ga, oa, rfl, hga, cs⟩ := (HA.out.later RR.out.1 HBB.out) (by rw [← HN.out]; exact Nat.lt_of_le_of_lt (Nat.zero_le k) hkN)
        obtain ⟨gb, ob, rfl, hgb, cs2⟩ := (HB.out.later RR.out.1 HBB.out) (by rw [← HM.out]; exact Nat.lt_of_le_of_lt (Nat.zero_le k) hkN)
        have a0 := (cs k x hx).1
        have a1 := (cs k x hx).2
        have b0 := (cs2 k y hy).1
        have b1 := (cs2 k y hy).2
        have WK := hidA (wrK k (Nat.le_trans (Nat.le_of_lt hkN) (Nat.le_trans HL.out (by decide))))
        have BDR : Hid (∀ j, Below w.heap.size w (wr.drewN j)) := fun j => below_drA RR.out.1 j
        by_cases hxy : x = y
        · subst hxy
          have ST : Hid (TgI l m (k + 1)) := RR.out.2.step hx hy
          clear cs cs2 hx hy RR HT HF
          generalize x.1 = x1 at a0 b0
          generalize x.2 = x2 at a1 b1
          have q1 : (x1 == x1) = true := beq_self_eq_true x1
          have q2 : (x2 == x2) = true := beq_self_eq_true x2
          go_upto_region 6 with fail
          go_quiet (fail)
          have BQ := hidA (BDR.out nq)
          generalize wr.drewN nq = W5 at BQ ⊢
          clear a0 a1 b0 b1
          go_wp2_with fail
          go_roundg gk
          case measure => omega
          case rel => exact ⟨k + 1, hk3, congrArg _ WK.out, BQ.out, ST.out⟩
        · obtain rfl : T = false := HF.out k (by rw [hx, hy]; intro h; exact hxy (Option.some.inj h))
          have q := ev_ne hxy
          clear cs cs2 hx hy RR HT HF hxy
          generalize x.1 = x1 at a0 q
          generalize x.2 = x2 at a1 q
          generalize y.1 = y1 at b0 q
          generalize y.2 = y2 at b1 q
          rcases q with q1 | ⟨q1, q2⟩
          all_goals
            go_upto_region 6 with fail
            go_quiet (fail)
            have BQ := hidA (BDR.out nq)
            generalize wr.drewN nq = W5 at BQ ⊢
            clear a0 a1 b0 b1
            go_wp2_with fail
            go_ret
            exact ⟨rfl, BQ.out⟩
  · have hF : decide (l = m) = false := decide_eq_false (fun e => hlm (by rw [e]))
    rw [hF]
    have q0 : ((l.length : Int) == (m.length : Int)) = false := by simp; omega
    generalize l.length = N at *
    generalize m.length = M at *
    clear ha hb hB hl hm hF hlm
    go_enter Tryd.func17, Tryd.ntmps17
    go_wp2_with fail
    go_ret
    exact ⟨rfl, Below.refl _ _⟩
end Go.Proofs.YthglhcabdadlpaaDoor
