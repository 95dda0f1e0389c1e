/- Layer 8: the document's line of every instruction. -/
import Derived.Test.YtodpdnidinnjjaaDoorUCdR
import Derived.Test.YtodpdnidinnjjaaDoorUCdT
import Derived.Test.YtodpdnidinnjjaaDoorRows
import Derived.Test.YtodpdnidinnjjaaDoorUPlain
import Derived.WalkKit
import Derived.WalkMore
import Derived.WalkSpells
import Derived.WalkLawsBesides
import Derived.Shelf.Small.Wraps
import Derived.Shelf.Strings.Prefix
import Derived.Test.YtodpdnidinnjjaaDoorProg
namespace Go.Proofs.YtodpdnidinnjjaaDoor
open Go.RowKit
set_option linter.unusedVariables false
set_option linter.unusedSimpArgs false

theorem bsz (l : List UInt8) : (⟨l.toArray⟩ : ByteArray).size = l.length := by simp [ByteArray.size]
theorem bapp (a b : List UInt8) : (⟨a.toArray⟩ : ByteArray) ++ ⟨b.toArray⟩ = ⟨(a ++ b).toArray⟩ := Pl.bytes_inj (by simp)
theorem sE_eq {s : ByteArray} {l : List UInt8} {e : Int} (h : s.data.toList = l) : Ending.returned (.tuple #[.string s, .int .i64 e]) = .returned (sE l e) := by
  rw [← h]
/-- Behind the row: the box of a row. -/
abbrev rowB (x : List UInt8) (n t l : Int) : Obj := .cells #[.string ⟨x.toArray⟩, .int .i64 n, .int .i64 t, .int .i64 l] 96
set_option maxRecDepth 100000 in
set_option maxHeartbeats 8000000 in
theorem rText_out (i : Cd.In) (w : World) (h : ¬ (1 ≤ i.op ∧ i.op ≤ 25)) : Calls Tryd.prog 107 #[inV i] w fun e w' => e = .returned (sE [] 61) ∧ Below w.heap.size w w' := by
  have EO : Hid (∀ W, Calls Tryd.prog 63 #[.int .i64 i.op] W fun e w' => e = .returned (.agg #[.string ⟨#[]⟩, .int .i64 0, .int .i64 0, .int .i64 0]) ∧ Below W.heap.size W w') := fun W => by
    have := rOf_any i.op W
    unfold ofV at this
    rw [if_neg h] at this
    exact this
  clear h
  go_enter Tryd.func107, Tryd.ntmps107
  go_wp2_with fail
  refine Calls.mono (EO.out _) ?_
  rintro e1 w1 ⟨rfl, b1⟩
  have B1 : Hid (Below w.heap.size w w1) := Below.trans (by go_grown) (b1.mono (by go_size))
  clear b1 EO
  go_wp2_with fail
  go_ret2
  exact ⟨rfl, B1.out.alloc B1.out.size _⟩
set_option maxRecDepth 100000 in
set_option maxHeartbeats 8000000 in
theorem rText_in (k : Nat) (n m : Int) (w : World) (h1 : 1 ≤ k) (h2 : k ≤ 25) (hok : Cd.In.Ok ⟨k, n, m⟩) : Calls Tryd.prog 107 #[inV ⟨k, n, m⟩] w fun e w' => e = .returned (txE ⟨k, n, m⟩) ∧ Below w.heap.size w w' := by
  obtain ⟨x, hx⟩ : ∃ x, x = Cd.wordL.getD k [] := ⟨_, rfl⟩
  obtain ⟨u, hu⟩ : ∃ u : Nat, Cd.nm k = u := by
    rcases Cd.nm_is k with e | e | e
    · exact ⟨0, e⟩
    · exact ⟨1, e⟩
    · exact ⟨2, e⟩
  have hu3 : u = 0 ∨ u = 1 ∨ u = 2 := by rcases Cd.nm_is k with e | e | e <;> omega
  obtain ⟨t, ht⟩ : ∃ t, t = Cd.takesL.getD k 0 := ⟨_, rfl⟩
  obtain ⟨v, hv⟩ : ∃ v, v = Cd.leavesL.getD k 0 := ⟨_, rfl⟩
  have EO : Hid (∀ W, Calls Tryd.prog 63 #[.int .i64 (k : Int)] W fun e w' => e = .returned (.agg #[.string ⟨x.toArray⟩, .int .i64 (u : Int), .int .i64 t, .int .i64 v]) ∧ Below W.heap.size W w') := fun W => by
    have := rOf_any (k : Int) W
    unfold ofV at this
    rw [if_pos ⟨by omega, by omega⟩, hu] at this
    unfold Cd.wd at this
    rw [Int.toNat_natCast, ← hx, ← ht, ← hv] at this
    exact this
  have xne : x ≠ [] := by rw [hx]; exact Cd.word_some k (by omega) h1
  have XL : Hid (x.length ≤ 30) := by rw [hx]; exact word_len k (by omega)
  have NL : Hid ((Lib.itoa n).length ≤ 21) := Pl.itoa_len n hok.2.1.1 hok.2.1.2
  have ML : Hid ((Lib.itoa m).length ≤ 21) := Pl.itoa_len m hok.2.2.1 hok.2.2.2
  have ET : Hid (∀ W, Calls Tryd.prog 109 #[.int .i64 n] W fun e w' => e = .returned (.string ⟨(Lib.itoa n).toArray⟩) ∧ Below W.heap.size W w') := fun W => rtext_any n W hok.2.1.1 hok.2.1.2
  have EU : Hid (∀ W, Calls Tryd.prog 109 #[.int .i64 m] W fun e w' => e = .returned (.string ⟨(Lib.itoa m).toArray⟩) ∧ Below W.heap.size W w') := fun W => rtext_any m W hok.2.2.1 hok.2.2.2
  have TX : Hid (Cd.tx ⟨k, n, m⟩ = Lib.join ([x, Lib.itoa n, Lib.itoa m].take (1 + u)) [32]) := by
    unfold Hid Cd.tx Cd.lw Cd.wd
    dsimp only
    rw [hu, Int.toNat_natCast, Int.toNat_natCast, hx]
  have HLL : Hid (Cd.hl ⟨k, n, m⟩ = ((n == 0 || decide (0 < (u : Int))) && (m == 0 || decide (1 < (u : Int))))) := by
    unfold Hid Cd.hl
    dsimp only
    rw [decide_eq_true (by omega : (1 : Int) ≤ k), decide_eq_true (by omega : (k : Int) ≤ 25), hu]
    simp
  obtain ⟨W, hW⟩ : ∃ W, W = w.alloc (inB ⟨k, n, m⟩) := ⟨_, rfl⟩
  obtain ⟨b, hb⟩ : ∃ b, b = w.heap.size := ⟨_, rfl⟩
  obtain ⟨b0, b1, b2, bw⟩ := in_box w ⟨k, n, m⟩ b W hb hW
  dsimp only at b0 b1 b2
  have bl : b < W.heap.size := by rw [hb, hW]; simp
  have BW : Hid (Below w.heap.size w W) := bw
  have xeb : (x == []) = false := beq_eq_false_iff_ne.2 xne
  have xec : (([] : List UInt8) == x) = false := beq_eq_false_iff_ne.2 (fun e => xne e.symm)
  clear hok hx hu ht hv bw xne h1 h2
  go_enter Tryd.func107, Tryd.ntmps107
  go_upto_region 1 with fail
  rw [← hW, ← hb]
  clear hW hb
  go_wp2_with fail
  refine Calls.mono (EO.out _) ?_
  rintro e1 w1 ⟨rfl, y1⟩
  have B1 : Hid (Below w.heap.size w w1) := BW.out.trans (y1.mono BW.out.size)
  have d1 := (y1.cell (p := ⟨b, 1, none⟩) bl).trans b1
  have d2 := (y1.cell (p := ⟨b, 2, none⟩) bl).trans b2
  have bl1 : b < w1.heap.size := Nat.lt_of_lt_of_le bl y1.size
  have nb1 : ¬ b = w1.heap.size := Nat.ne_of_lt bl1
  clear y1 EO b0 b1 b2 bl BW
  obtain ⟨W5, hW5⟩ : ∃ W5, W5 = w1.alloc (rowB x u t v) := ⟨_, rfl⟩
  obtain ⟨rb, hrb⟩ : ∃ rb, rb = w1.heap.size := ⟨_, rfl⟩
  have b5 : Below w1.heap.size w1 W5 := by rw [hW5]; exact (Below.refl _ _).alloc (Nat.le_refl _) _
  have r0 : W5.cell? ⟨rb, 0, none⟩ = some (.string ⟨x.toArray⟩) := by rw [hW5, hrb]; simp [go_sem]
  have r1 : W5.cell? ⟨rb, 1, none⟩ = some (.int .i64 (u : Int)) := by rw [hW5, hrb]; simp [go_sem]
  have rl : rb < W5.heap.size := by rw [hW5, hrb]; simp
  have f1 := (b5.cell (p := ⟨b, 1, none⟩) bl1).trans d1
  have f2 := (b5.cell (p := ⟨b, 2, none⟩) bl1).trans d2
  have bl5 : b < W5.heap.size := Nat.lt_of_lt_of_le bl1 b5.size
  have B5 : Hid (Below w.heap.size w W5) := B1.out.trans (b5.mono B1.out.size)
  clear b5 d1 d2 bl1 nb1 B1
  go_upto_region 2 with fail
  rw [← hW5, ← hrb]
  clear hW5 hrb
  rcases hu3 with rfl | rfl | rfl
  · by_cases hn : n = 0
    · by_cases hm : m = 0
      · have en : (n == 0) = true := by rw [hn]; rfl
        have gn : (n != 0) = false := by simp [bne, en]
        have em : (m == 0) = true := by rw [hm]; rfl
        have gm : (m != 0) = false := by simp [bne, em]
        have EV : Hid (txE ⟨k, n, m⟩ = sE (Lib.join ([x, Lib.itoa n, Lib.itoa m].take (1 + 0)) [32]) 0) := by
          unfold Hid txE
          rw [if_pos (by rw [HLL.out]; rw [en, em]; decide), TX.out]
        clear HLL TX
        clear hn hm
        go_wp2_with fail
        go_ret2
        exact ⟨by rw [EV.out]; exact sE_eq (by simp [Lib.join]), B5.out⟩
      · have en : (n == 0) = true := by rw [hn]; rfl
        have gn : (n != 0) = false := by simp [bne, en]
        have em : (m == 0) = false := beq_eq_false_iff_ne.2 hm
        have gm : (m != 0) = true := by simp [bne, em]
        have EV : Hid (txE ⟨k, n, m⟩ = sE [] 61) := by
          unfold Hid txE
          rw [if_neg (by rw [HLL.out]; rw [en, em]; decide)]
        clear HLL TX
        go_wp2_with fail
        go_ret2
        exact ⟨by rw [EV.out]; rfl, B5.out⟩
    · have en : (n == 0) = false := beq_eq_false_iff_ne.2 hn
      have gn : (n != 0) = true := by simp [bne, en]
      have EV : Hid (txE ⟨k, n, m⟩ = sE [] 61) := by
        unfold Hid txE
        rw [if_neg (by rw [HLL.out]; rw [en]; simp)]
      clear HLL TX
      go_wp2_with fail
      go_ret2
      exact ⟨by rw [EV.out]; rfl, B5.out⟩
  · by_cases hm : m = 0
    · have em : (m == 0) = true := by rw [hm]; rfl
      have gm : (m != 0) = false := by simp [bne, em]
      have EV : Hid (txE ⟨k, n, m⟩ = sE (Lib.join ([x, Lib.itoa n, Lib.itoa m].take (1 + 1)) [32]) 0) := by
        unfold Hid txE
        rw [if_pos (by rw [HLL.out]; rw [em]; simp), TX.out]
      clear HLL TX
      clear hm
      have z1 : (⟨x.toArray⟩ : ByteArray).size + (⟨#[32]⟩ : ByteArray).size ≤ 9223372036854775807 := by have := XL.out; simp only [ByteArray.size_append, bsz, List.length_cons, List.length_nil]; omega
      go_wp2_with fail
      refine Calls.mono (ET.out _) ?_
      rintro e2 w2 ⟨rfl, y2⟩
      have B6 : Hid (Below w.heap.size w w2) := B5.out.trans (y2.mono B5.out.size)
      have q1 := (y2.cell (p := ⟨rb, 1, none⟩) rl).trans r1
      have z2 : ((⟨x.toArray⟩ : ByteArray) ++ (⟨#[32]⟩ : ByteArray)).size + (⟨(Lib.itoa n).toArray⟩ : ByteArray).size ≤ 9223372036854775807 := by have h1 := XL.out; have h2 := NL.out; simp only [ByteArray.size_append, bsz, List.length_cons, List.length_nil]; omega
      clear y2 r0 r1 f1 f2 ET EU B5
      go_wp2_with fail
      go_ret2
      refine ⟨?_, B6.out⟩
      rw [EV.out]
      refine sE_eq ?_
      show _ = Lib.join [x, Lib.itoa n] [32]
      rw [Pl.join_cons2]
      simp [Lib.join]
    · have em : (m == 0) = false := beq_eq_false_iff_ne.2 hm
      have gm : (m != 0) = true := by simp [bne, em]
      have EV : Hid (txE ⟨k, n, m⟩ = sE [] 61) := by
        unfold Hid txE
        rw [if_neg (by rw [HLL.out]; rw [em]; simp)]
      clear HLL TX
      go_wp2_with fail
      go_ret2
      exact ⟨by rw [EV.out]; rfl, B5.out⟩
  · have hx2 : True := trivial
    clear hx2
    have EV : Hid (txE ⟨k, n, m⟩ = sE (Lib.join ([x, Lib.itoa n, Lib.itoa m].take (1 + 2)) [32]) 0) := by
      unfold Hid txE
      rw [if_pos (by rw [HLL.out]; simp), TX.out]
    clear HLL TX
    have z1 : (⟨x.toArray⟩ : ByteArray).size + (⟨#[32]⟩ : ByteArray).size ≤ 9223372036854775807 := by have := XL.out; simp only [ByteArray.size_append, bsz, List.length_cons, List.length_nil]; omega
    go_wp2_with fail
    refine Calls.mono (ET.out _) ?_
    rintro e2 w2 ⟨rfl, y2⟩
    have B6 : Hid (Below w.heap.size w w2) := B5.out.trans (y2.mono B5.out.size)
    have q1 := (y2.cell (p := ⟨rb, 1, none⟩) rl).trans r1
    have q2 := (y2.cell (p := ⟨b, 2, none⟩) bl5).trans f2
    have z2 : ((⟨x.toArray⟩ : ByteArray) ++ (⟨#[32]⟩ : ByteArray)).size + (⟨(Lib.itoa n).toArray⟩ : ByteArray).size ≤ 9223372036854775807 := by have h1 := XL.out; have h2 := NL.out; simp only [ByteArray.size_append, bsz, List.length_cons, List.length_nil]; omega
    have z3 : ((⟨x.toArray⟩ : ByteArray) ++ (⟨#[32]⟩ : ByteArray) ++ (⟨(Lib.itoa n).toArray⟩ : ByteArray)).size + (⟨#[32]⟩ : ByteArray).size ≤ 9223372036854775807 := by have h1 := XL.out; have h2 := NL.out; simp only [ByteArray.size_append, bsz, List.length_cons, List.length_nil]; omega
    clear y2 r0 r1 f1 f2 ET B5
    go_wp2_with fail
    refine Calls.mono (EU.out _) ?_
    rintro e3 w3 ⟨rfl, y3⟩
    have B7 : Hid (Below w.heap.size w w3) := B6.out.trans (y3.mono B6.out.size)
    have z4 : ((⟨x.toArray⟩ : ByteArray) ++ (⟨#[32]⟩ : ByteArray) ++ (⟨(Lib.itoa n).toArray⟩ : ByteArray) ++ (⟨#[32]⟩ : ByteArray)).size + (⟨(Lib.itoa m).toArray⟩ : ByteArray).size ≤ 9223372036854775807 := by have h1 := XL.out; have h2 := NL.out; have h3 := ML.out; simp only [ByteArray.size_append, bsz, List.length_cons, List.length_nil]; omega
    clear y3 q1 q2 EU B6
    go_wp2_with fail
    go_ret2
    refine ⟨?_, B7.out⟩
    rw [EV.out]
    refine sE_eq ?_
    show _ = Lib.join [x, Lib.itoa n, Lib.itoa m] [32]
    rw [Pl.join_cons2, Pl.join_cons2]
    simp [Lib.join]
/-- The document's line of every instruction is the program's. -/
theorem rText_any (i : Cd.In) (w : World) (hok : i.Ok) : Calls Tryd.prog 107 #[inV i] w fun e w' => e = .returned (txE i) ∧ Below w.heap.size w w' := by
  by_cases h : 1 ≤ i.op ∧ i.op ≤ 25
  · obtain ⟨op, n, m⟩ := i
    dsimp only at h
    obtain ⟨k, rfl⟩ : ∃ k : Nat, op = k := ⟨op.toNat, by omega⟩
    exact rText_in k n m w (by omega) (by omega) hok
  · have : txE i = sE [] 61 := by
      unfold txE
      rw [if_neg (fun hh => h ⟨(Cd.hl_op hh).1, (Cd.hl_op hh).2.1⟩)]
    rw [this]
    exact rText_out i w h
end Go.Proofs.YtodpdnidinnjjaaDoor
