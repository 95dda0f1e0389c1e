/- Layer 8: the document's lines of a code; CodePrints: the walk. -/
import Derived.Test.YtdaipapfkekfpaaDoorCdS
import Derived.Test.YtdaipapfkekfpaaDoorCdW
namespace Go.Proofs.YtdaipapfkekfpaaDoor
open Go.RowKit
set_option linter.unusedVariables false
set_option linter.unusedSimpArgs false

theorem ln_cat (a x l : List UInt8) : (((((⟨a.toArray⟩ : ByteArray) ++ ⟨x.toArray⟩) ++ ⟨#[32]⟩) ++ ⟨l.toArray⟩) ++ ⟨#[10]⟩) = ⟨(a ++ (x ++ 32 :: l ++ [10])).toArray⟩ := Pl.bytes_inj (by simp)
set_option maxRecDepth 100000 in
set_option maxHeartbeats 8000000 in
theorem rPrint_any (B : Nat) (ia : Option Addr) (ic : Nat) (c : Cd.Co) (w : World) (hB : B ≤ w.heap.size) (hi : InS B w ia c.ins) (hok : c.Ok) (hl : c.ins.length ≤ 500) : Calls Tryd.prog 15 #[coV ia ic c] w fun e w' => e = .returned (.string ⟨(Cd.pr 0 c.ins).toArray⟩) ∧ Below w.heap.size w w' := by
  have HI : Hid (InS B w ia c.ins) := hi
  have HBB : Hid (B ≤ w.heap.size) := hB
  have HO : Hid (∀ i, i ∈ c.ins → i.Ok) := hok.1
  have HL : Hid (c.ins.length ≤ 500) := hl
  obtain ⟨n, hn⟩ : ∃ n, n = c.ins.length := ⟨_, rfl⟩
  have HN : Hid (n = c.ins.length) := hn
  obtain ⟨W, hW⟩ : ∃ W, W = w.alloc (coB ia n ic c) := ⟨_, rfl⟩
  obtain ⟨b, hb⟩ : ∃ b, b = w.heap.size := ⟨_, rfl⟩
  have bw : Below w.heap.size w W := by rw [hW]; exact (Below.refl _ _).alloc (Nat.le_refl _) _
  have BW : Hid (Below w.heap.size w W) := bw
  have bl : b < W.heap.size := by rw [hb, hW]; simp
  have c0 : W.cell? ⟨b, 0, none⟩ = some (.slice ia n ic) := by rw [hW, hb]; simp [go_sem]
  have HC0 : Hid (W.cell? ⟨b, 0, none⟩ = some (.slice ia n ic)) := c0
  have HBL : Hid (b < W.heap.size) := bl
  show Calls _ _ #[.agg #[.slice ia c.ins.length ic, .int .i64 c.cells, .int .i64 c.params, .bool c.ans]] _ _
  rw [← hn]
  clear hi hok hl bw hn hB bl c0
  go_enter Tryd.func15, Tryd.ntmps15
  go_upto_region 1 with fail
  rw [← hW, ← hb]
  clear hW hb
  go_wp2_with fail
  go_loopw [3, 4] (fun v i wr => ∃ j : Nat, j ≤ n ∧ i = .int .i64 j ∧ v = .string ⟨(Cd.pr 0 (c.ins.take j)).toArray⟩ ∧ Hid (Below W.heap.size W wr)) (fun _ i _ => n - (intOf i).toNat)
  case atStart => exact ⟨0, by omega, rfl, rfl, Below.refl _ _⟩
  case round =>
    obtain ⟨j, hj, rfl, rfl, BR⟩ := hrel
    have cb := (BR.out.cell (p := ⟨b, 0, none⟩) HBL.out).trans HC0.out
    by_cases hlt : j < n
    · obtain ⟨x, ex⟩ : ∃ x, c.ins[j]? = some x := ⟨_, List.getElem?_eq_getElem (by rw [← HN.out]; exact hlt)⟩
      have BA : Below w.heap.size w wr := BW.out.trans (BR.out.mono BW.out.size)
      obtain ⟨g, o, rfl, hg, at_⟩ := (HI.out.later (BA.mono HBB.out)).at ex
      have c0 := at_.c0
      have c1 := at_.c1
      have c2 := at_.c2
      have XO : Hid x.Ok := HO.out x (List.mem_of_getElem? ex)
      have PT : Hid (Cd.pr 0 (c.ins.take (j + 1)) = Cd.pr 0 (c.ins.take j) ++ Cd.ln j x) := Cd.pr_take ex
      have PL : Hid ((Cd.pr 0 (c.ins.take j)).length ≤ 100000) := by
        have := Cd.pr_len (c.ins.take j) 0 (by have := HL.out; have := HN.out; simp; omega) (fun i hi => HO.out i (List.mem_of_mem_take hi))
        have h2 := HL.out
        have h3 := HN.out
        simp at this
        exact (by omega : (Cd.pr 0 (c.ins.take j)).length ≤ 100000)
      have E1 : Hid _ := rText_any x wr XO.out
      have LT : Hid ((Cd.lt x).length ≤ 100) := Cd.lt_len XO.out
      have IT : Hid ((Lib.itoa (j : Int)).length ≤ 21) := Pl.itoa_len (j : Int) (by omega) (by have := HL.out; have := HN.out; omega)
      have E2 : Hid (∀ W, Calls Tryd.prog 25 #[.int .i64 (j : Int)] W fun e w' => e = .returned (.string ⟨(Lib.itoa (j : Int)).toArray⟩) ∧ Below W.heap.size W w') := fun W => rtext_any (j : Int) W (by omega) (by have := HL.out; have := HN.out; omega)
      have hji : (j : Int) < (n : Int) := by omega
      have hj0 : (0 : Int) ≤ (j : Int) := by omega
      clear at_ ex BA
      obtain ⟨a, ha⟩ : ∃ a, a = Cd.pr 0 (c.ins.take j) := ⟨_, rfl⟩
      rw [← ha] at PT PL ⊢
      obtain ⟨ix, hix⟩ : ∃ ix, ix = Lib.itoa (j : Int) := ⟨_, rfl⟩
      rw [← hix] at IT E2
      have HIX : Hid (ix = Lib.itoa (j : Int)) := hix
      clear ha hix
      by_cases hh : Cd.hl x = true
      · have ev : Hid (txE x = sE (Cd.lt x) 0) := by unfold Hid txE Cd.lt; rw [if_pos hh, if_pos hh]
        rw [ev.out] at E1
        obtain ⟨lx, hlx⟩ : ∃ lx, lx = Cd.lt x := ⟨_, rfl⟩
        rw [← hlx] at E1 LT
        have HLX : Hid (Cd.lt x = lx) := hlx.symm
        clear hlx hh ev
        go_wp2_with fail
        refine Calls.mono E1.out ?_
        rintro e5 w5 ⟨rfl, b5⟩
        have B5 : Hid (Below W.heap.size W w5) := BR.out.trans (b5.mono BR.out.size)
        clear b5 E1 c0 c1 c2 cb
        go_wp2_with fail
        refine Calls.mono (E2.out _) ?_
        rintro e6 w6 ⟨rfl, b6⟩
        have B6 : Hid (Below W.heap.size W w6) := B5.out.trans (b6.mono B5.out.size)
        have p1 := PL.out
        have p2 := IT.out
        have p3 := LT.out
        have z1 : (⟨a.toArray⟩ : ByteArray).size + (⟨ix.toArray⟩ : ByteArray).size ≤ 9223372036854775807 := by simp only [bsz]; omega
        have z2 : ((⟨a.toArray⟩ : ByteArray) ++ ⟨ix.toArray⟩).size + (⟨#[32]⟩ : ByteArray).size ≤ 9223372036854775807 := by simp only [ByteArray.size_append, bsz, List.length_cons, List.length_nil]; omega
        have z3 : (((⟨a.toArray⟩ : ByteArray) ++ ⟨ix.toArray⟩) ++ ⟨#[32]⟩).size + (⟨lx.toArray⟩ : ByteArray).size ≤ 9223372036854775807 := by simp only [ByteArray.size_append, bsz, List.length_cons, List.length_nil]; omega
        have z4 : ((((⟨a.toArray⟩ : ByteArray) ++ ⟨ix.toArray⟩) ++ ⟨#[32]⟩) ++ ⟨lx.toArray⟩).size + (⟨#[10]⟩ : ByteArray).size ≤ 9223372036854775807 := by simp only [ByteArray.size_append, bsz, List.length_cons, List.length_nil]; omega
        have VE : Hid (Value.string (((((⟨a.toArray⟩ : ByteArray) ++ ⟨ix.toArray⟩) ++ ⟨#[32]⟩) ++ ⟨lx.toArray⟩) ++ ⟨#[10]⟩) = .string ⟨(Cd.pr 0 (c.ins.take (j + 1))).toArray⟩) := by
          unfold Hid
          rw [PT.out]
          unfold Cd.ln
          rw [HLX.out, ← HIX.out]
          exact congrArg Value.string (ln_cat a ix lx)
        clear b6 E2 B5 p1 p2 p3
        have hL : n ≤ 500 := by have := HL.out; have := HN.out; omega
        go_wp2_with fail
        go_roundw
        case rel => exact ⟨j + 1, by omega, by go_num, VE.out, B6⟩
        case measure => simp [intOf]; omega
      · have ev : Hid (txE x = sE [] 61 ∧ Cd.lt x = [63]) := by unfold Hid txE Cd.lt; rw [if_neg hh, if_neg hh]; exact ⟨rfl, rfl⟩
        rw [ev.out.1] at E1
        have HLX : Hid (Cd.lt x = [63]) := ev.out.2
        clear hh ev LT
        go_wp2_with fail
        refine Calls.mono E1.out ?_
        rintro e5 w5 ⟨rfl, b5⟩
        have B5 : Hid (Below W.heap.size W w5) := BR.out.trans (b5.mono BR.out.size)
        clear b5 E1 c0 c1 c2 cb
        go_wp2_with fail
        refine Calls.mono (E2.out _) ?_
        rintro e6 w6 ⟨rfl, b6⟩
        have B6 : Hid (Below W.heap.size W w6) := B5.out.trans (b6.mono B5.out.size)
        have p1 := PL.out
        have p2 := IT.out
        skip
        have z1 : (⟨a.toArray⟩ : ByteArray).size + (⟨ix.toArray⟩ : ByteArray).size ≤ 9223372036854775807 := by simp only [bsz]; omega
        have z2 : ((⟨a.toArray⟩ : ByteArray) ++ ⟨ix.toArray⟩).size + (⟨#[32]⟩ : ByteArray).size ≤ 9223372036854775807 := by simp only [ByteArray.size_append, bsz, List.length_cons, List.length_nil]; omega
        have z3 : (((⟨a.toArray⟩ : ByteArray) ++ ⟨ix.toArray⟩) ++ ⟨#[32]⟩).size + (⟨#[63]⟩ : ByteArray).size ≤ 9223372036854775807 := by simp only [ByteArray.size_append, bsz, List.length_cons, List.length_nil]; omega
        have z4 : ((((⟨a.toArray⟩ : ByteArray) ++ ⟨ix.toArray⟩) ++ ⟨#[32]⟩) ++ ⟨#[63]⟩).size + (⟨#[10]⟩ : ByteArray).size ≤ 9223372036854775807 := by simp only [ByteArray.size_append, bsz, List.length_cons, List.length_nil]; omega
        have VE : Hid (Value.string (((((⟨a.toArray⟩ : ByteArray) ++ ⟨ix.toArray⟩) ++ ⟨#[32]⟩) ++ ⟨#[63]⟩) ++ ⟨#[10]⟩) = .string ⟨(Cd.pr 0 (c.ins.take (j + 1))).toArray⟩) := by
          unfold Hid
          rw [PT.out]
          unfold Cd.ln
          rw [HLX.out, ← HIX.out]
          exact congrArg Value.string (ln_cat a ix ([63] : List UInt8))
        clear b6 E2 B5 p1 p2 
        have hL : n ≤ 500 := by have := HL.out; have := HN.out; omega
        go_wp2_with fail
        go_roundw
        case rel => exact ⟨j + 1, by omega, by go_num, VE.out, B6⟩
        case measure => simp [intOf]; omega
    · obtain rfl : j = n := by omega
      have EN : Hid (Cd.pr 0 (c.ins.take j) = Cd.pr 0 c.ins) := by unfold Hid; rw [HN.out, List.take_length]
      have B9 : Hid (Below w.heap.size w wr) := BW.out.trans (BR.out.mono BW.out.size)
      rw [EN.out]
      go_wp2_with fail
      go_ret
      exact ⟨rfl, B9.out⟩
set_option maxRecDepth 100000 in
set_option maxHeartbeats 8000000 in
theorem prints_long (ia : Option Addr) (c : Cd.Co) (ic : Nat) (w : World) (hl : 500 < c.ins.length) : Calls Tryd.prog 4 #[coV ia ic c] w fun e w' => e = .returned (.bool true) ∧ Below w.heap.size w w' := by
  have hli : decide ((500 : Int) < (c.ins.length : Int)) = true := decide_eq_true (by omega)
  have hlj : (500 : Int) < (c.ins.length : Int) := by omega
  clear hl
  show Calls _ _ #[.agg #[.slice ia c.ins.length ic, .int .i64 c.cells, .int .i64 c.params, .bool c.ans]] _ _
  generalize c.ins.length = n at hli hlj ⊢
  obtain ⟨W, hW⟩ : ∃ W, W = w.alloc (coB ia n ic c) := ⟨_, rfl⟩
  obtain ⟨b, hb⟩ : ∃ b, b = w.heap.size := ⟨_, rfl⟩
  have bw : Below w.heap.size w W := by rw [hW]; exact (Below.refl _ _).alloc (Nat.le_refl _) _
  have BW : Hid (Below w.heap.size w W) := bw
  have t0 : W.cell? ⟨b, 0, none⟩ = some (.slice ia n ic) := by rw [hW, hb]; simp [go_sem]
  clear bw
  go_enter Tryd.func4, Tryd.ntmps4
  go_upto_region 1 with fail
  rw [← hW, ← hb]
  clear hW hb
  go_quiet (fail)
  have BQ := below_drewN BW.out nq
  generalize W.drewN nq = W5 at BQ ⊢
  go_wp2_with fail
  go_ret
  exact ⟨rfl, BQ⟩
set_option maxRecDepth 100000 in
set_option maxHeartbeats 8000000 in
theorem prints_short (ia : Option Addr) (c : Cd.Co) (ic : Nat) (B : Nat) (w : World) (ht : Tt B w) (hm : Tm B w) (hi : InS B w ia c.ins) (hok : c.Ok) (hl : c.ins.length ≤ 500) : Calls Tryd.prog 4 #[coV ia ic c] w fun e w' => e = .returned (.bool true) ∧ Below w.heap.size w w' := by
  obtain ⟨n, hn⟩ : ∃ n, n = c.ins.length := ⟨_, rfl⟩
  have hli : decide ((500 : Int) < (n : Int)) = false := decide_eq_false (by omega)
  obtain ⟨W, hW⟩ : ∃ W, W = w.alloc (.cells #[.slice ia n ic, .int .i64 c.cells, .int .i64 c.params, .bool c.ans] 33) := ⟨_, rfl⟩
  obtain ⟨b, hb⟩ : ∃ b, b = w.heap.size := ⟨_, rfl⟩
  have bw : Below w.heap.size w W := by rw [hW]; exact (Below.refl _ _).alloc (Nat.le_refl _) _
  have BW : Hid (Below w.heap.size w W) := bw
  have bl : b < W.heap.size := by rw [hb, hW]; simp
  have t0 : W.cell? ⟨b, 0, none⟩ = some (.slice ia n ic) := by rw [hW, hb]; simp [go_sem]
  have t1 : W.cell? ⟨b, 1, none⟩ = some (.int .i64 c.cells) := by rw [hW, hb]; simp [go_sem]
  have t2 : W.cell? ⟨b, 2, none⟩ = some (.int .i64 c.params) := by rw [hW, hb]; simp [go_sem]
  have t3 : W.cell? ⟨b, 3, none⟩ = some (.bool c.ans) := by rw [hW, hb]; simp [go_sem]
  obtain ⟨st, hst⟩ : ∃ st, st = Cd.pr 0 c.ins := ⟨_, rfl⟩
  have EP : Hid (∀ X, Below W.heap.size W X → Calls Tryd.prog 14 #[.agg #[.slice ia n ic, .int .i64 c.cells, .int .i64 c.params, .bool c.ans]] X fun e w' => e = .returned (.string ⟨st.toArray⟩) ∧ Below W.heap.size W w') := fun X hX => by
    have h2 := bw.trans (hX.mono bw.size)
    rw [hn, hst]
    exact (cdPrint_any B ia ic c X (ht.later h2) (hi.later (h2.mono ht.hB)) hok hl).mono fun e w' ⟨a, b⟩ => ⟨a, hX.trans (b.mono hX.size)⟩
  have ER : Hid (∀ X, Below W.heap.size W X → Calls Tryd.prog 15 #[.agg #[.slice ia n ic, .int .i64 c.cells, .int .i64 c.params, .bool c.ans]] X fun e w' => e = .returned (.string ⟨st.toArray⟩) ∧ Below W.heap.size W w') := fun X hX => by
    have h2 := bw.trans (hX.mono bw.size)
    rw [hn, hst]
    exact (rPrint_any B ia ic c X (ht.later h2).hB (hi.later (h2.mono ht.hB)) hok hl).mono fun e w' ⟨a, b⟩ => ⟨a, hX.trans (b.mono hX.size)⟩
  have EK : Hid (∀ X, Below W.heap.size W X → Calls Tryd.prog 9 #[] X fun e w' => e = .returned (.bool true) ∧ Below W.heap.size W w') := fun X hX => by
    have h2 := bw.trans (hX.mono bw.size)
    exact (known8 B X (ht.later h2) (hm.later (h2.mono ht.hB))).mono fun e w' ⟨a, b⟩ => ⟨a, hX.trans (b.mono hX.size)⟩
  show Calls _ _ #[.agg #[.slice ia c.ins.length ic, .int .i64 c.cells, .int .i64 c.params, .bool c.ans]] _ _
  rw [← hn]
  have se : (st == st) = true := beq_self_eq_true _
  clear ht hm hi hok hl bw hn hst
  generalize c.cells = c2 at *
  generalize c.params = c3 at *
  generalize c.ans = c4 at *
  go_enter Tryd.func4, Tryd.ntmps4
  go_upto_region 1 with fail
  rw [← hW, ← hb]
  clear hW hb
  go_region_held3 (fun w' => w'.cell? ⟨b, 0, none⟩ = some (.slice ia n ic) ∧ w'.cell? ⟨b, 1, none⟩ = some (.int .i64 c2) ∧ w'.cell? ⟨b, 2, none⟩ = some (.int .i64 c3) ∧ w'.cell? ⟨b, 3, none⟩ = some (.bool c4)) (first | (exact ⟨s0, s1, s2, s3⟩) | (exact ⟨r0, r1, r2, r3⟩) | (exact ⟨q0, q1, q2, q3⟩) | go_keep) (first
    | (go_at_call 14; refine Calls.mono (EP.out _ (by first | (exact B6.out.trans (Below.mono (by go_grown) B6.out.size)) | go_grown)) ?_; rintro e5 w5 ⟨rfl, b5⟩; have q0 : w5.cell? ⟨b, 0, none⟩ = some (.slice ia n ic) := (b5.cell (p := ⟨b, 0, none⟩) bl).trans t0; have q1 : w5.cell? ⟨b, 1, none⟩ = some (.int .i64 c2) := (b5.cell (p := ⟨b, 1, none⟩) bl).trans t1; have q2 : w5.cell? ⟨b, 2, none⟩ = some (.int .i64 c3) := (b5.cell (p := ⟨b, 2, none⟩) bl).trans t2; have q3 : w5.cell? ⟨b, 3, none⟩ = some (.bool c4) := (b5.cell (p := ⟨b, 3, none⟩) bl).trans t3; have B5 : Hid (Below W.heap.size W w5) := b5; clear b5)
    | (go_at_call 15; refine Calls.mono (ER.out _ (by first | (exact B5.out.trans (Below.mono (by go_grown) B5.out.size)) | go_grown)) ?_; rintro e6 w6 ⟨rfl, b6⟩; have r0 : w6.cell? ⟨b, 0, none⟩ = some (.slice ia n ic) := (b6.cell (p := ⟨b, 0, none⟩) bl).trans t0; have r1 : w6.cell? ⟨b, 1, none⟩ = some (.int .i64 c2) := (b6.cell (p := ⟨b, 1, none⟩) bl).trans t1; have r2 : w6.cell? ⟨b, 2, none⟩ = some (.int .i64 c3) := (b6.cell (p := ⟨b, 2, none⟩) bl).trans t2; have r3 : w6.cell? ⟨b, 3, none⟩ = some (.bool c4) := (b6.cell (p := ⟨b, 3, none⟩) bl).trans t3; have B6 : Hid (Below W.heap.size W w6) := b6; clear b6)
    | (go_at_call 9; refine Calls.mono (EK.out _ (by first | (exact B6.out.trans (Below.mono (by go_grown) B6.out.size)) | (exact B5.out.trans (Below.mono (by go_grown) B5.out.size)) | fail)) ?_; rintro e7 w7 ⟨rfl, b7⟩; have s0 : w7.cell? ⟨b, 0, none⟩ = some (.slice ia n ic) := (b7.cell (p := ⟨b, 0, none⟩) bl).trans t0; have s1 : w7.cell? ⟨b, 1, none⟩ = some (.int .i64 c2) := (b7.cell (p := ⟨b, 1, none⟩) bl).trans t1; have s2 : w7.cell? ⟨b, 2, none⟩ = some (.int .i64 c3) := (b7.cell (p := ⟨b, 2, none⟩) bl).trans t2; have s3 : w7.cell? ⟨b, 3, none⟩ = some (.bool c4) := (b7.cell (p := ⟨b, 3, none⟩) bl).trans t3; have B7 : Hid (Below W.heap.size W w7) := b7; clear b7))
  all_goals
    go_wp2_with fail
    go_ret
    exact ⟨rfl, BW.out.trans (Below.mono (by first | exact B7.out | exact B7.out.trans (Below.mono (by go_grown) B7.out.size)) BW.out.size)⟩
theorem prints_walk (ia : Option Addr) (c : Cd.Co) (ic : Nat) (B : Nat) (w : World) (ht : Tt B w) (hm : Tm B w) (hi : InS B w ia c.ins) (hok : c.Ok) : Calls Tryd.prog 4 #[coV ia ic c] w fun e w' => e = .returned (.bool true) ∧ Below w.heap.size w w' := by
  by_cases h : 500 < c.ins.length
  · exact prints_long ia c ic w h
  · exact prints_short ia c ic B w ht hm hi hok (by omega)
end Go.Proofs.YtdaipapfkekfpaaDoor
