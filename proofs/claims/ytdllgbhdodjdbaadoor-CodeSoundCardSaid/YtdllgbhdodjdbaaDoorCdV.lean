/- Layer 8: the lines of a code (the program's Print), for every code of at most 500 instructions. -/
import Derived.Test.YtdllgbhdodjdbaaDoorCdT
import Derived.Test.YtdllgbhdodjdbaaDoorBld
import Derived.Test.YtdllgbhdodjdbaaDoorCdG
namespace Go.Proofs.YtdllgbhdodjdbaaDoor
open Go.RowKit
set_option linter.unusedVariables false
set_option linter.unusedSimpArgs false

namespace Cd
/-- The line of an instruction at a place; the lines of instructions from a place on. -/
def lt (i : In) : List UInt8 := if hl i = true then tx i else [63]
def ln (k : Nat) (i : In) : List UInt8 := Lib.itoa k ++ 32 :: lt i ++ [10]
def pr : Nat → List In → List UInt8
  | _, [] => []
  | k, i :: r => ln k i ++ pr (k + 1) r
theorem pr_app : ∀ (a b : List In) (k : Nat), pr k (a ++ b) = pr k a ++ pr (k + a.length) b
  | [], b, k => by simp [pr]
  | i :: r, b, k => by
    rw [List.cons_append, pr, pr, pr_app r b, List.append_assoc, List.length_cons]
    congr 3
    omega
theorem pr_take {l : List In} {j : Nat} {i : In} (e : l[j]? = some i) : pr 0 (l.take (j + 1)) = pr 0 (l.take j) ++ ln j i := by
  have hj : j < l.length := (List.getElem?_eq_some_iff.1 e).1
  rw [List.take_add_one, e, pr_app]
  have : (l.take j).length = j := by simp; omega
  rw [this]
  simp [pr]
theorem tx_len {i : In} (h : hl i = true) (ok : i.Ok) : (tx i).length ≤ 100 := by
  obtain ⟨h0, h1, -, -⟩ := hl_op h
  have a : (wd i.op).length ≤ 30 := word_len i.op.toNat (by omega)
  have b := Pl.itoa_len i.n ok.2.1.1 ok.2.1.2
  have c := Pl.itoa_len i.m ok.2.2.1 ok.2.2.2
  unfold tx lw
  rcases nm_is i.op with e | e | e <;> rw [e]
  · show (Lib.join [wd i.op] [32]).length ≤ 100
    simp [Lib.join]; omega
  · show (Lib.join [wd i.op, Lib.itoa i.n] [32]).length ≤ 100
    rw [Pl.join_cons2]; simp [Lib.join]; omega
  · show (Lib.join [wd i.op, Lib.itoa i.n, Lib.itoa i.m] [32]).length ≤ 100
    rw [Pl.join_cons2, Pl.join_cons2]; simp [Lib.join]; omega
theorem lt_len {i : In} (ok : i.Ok) : (lt i).length ≤ 100 := by
  unfold lt
  split
  · rename_i h; exact tx_len h ok
  · simp
theorem ln_len {i : In} (k : Nat) (hk : k ≤ 1000000) (ok : i.Ok) : (ln k i).length ≤ 200 := by
  have := lt_len ok
  have := Pl.itoa_len (k : Int) (by omega) (by omega)
  unfold ln
  simp
  omega
theorem pr_len : ∀ (l : List In) (k : Nat), k + l.length ≤ 1000000 → (∀ i, i ∈ l → i.Ok) → (pr k l).length ≤ 200 * l.length
  | [], k, _, _ => by simp [pr]
  | i :: r, k, h, ok => by
    have a := ln_len k (by simp at h; omega) (ok i (List.mem_cons_self ..))
    have b := pr_len r (k + 1) (by simp at h; omega) (fun x hx => ok x (List.mem_cons_of_mem _ hx))
    rw [pr, List.length_append, List.length_cons]
    omega
end Cd
abbrev bT : TypeId := 113
abbrev bE : TypeId := 5
theorem bld_later {B b : Nat} {bs : List Value} {w w' : World} (h : Lib.IsBuilder bT bE B b bs w) (m : Below w.heap.size w w') : Lib.IsBuilder bT bE B b bs w' := by
  have key : ∀ p, Lib.BuilderAt bT bE B b p bs w → Lib.BuilderAt bT bE B b p bs w' := fun p ⟨h1, v, h2, h3, h4⟩ => ⟨h1, v, (m.block b (Array.getElem?_eq_some_iff.1 h2).1).trans h2, own_lat h3 m, h4⟩
  rcases h with h | h
  · exact .inl (key _ h)
  · exact .inr (key _ h)
theorem join_two2 (w : World) (b : Nat) (x y : List UInt8) (hb : b < w.heap.size) (c0 : w.cell? ⟨b, 0, none⟩ = some (.string ⟨x.toArray⟩)) (c1 : w.cell? ⟨b, 1, none⟩ = some (.string ⟨y.toArray⟩)) (hx : x.length ≤ 200) (hy : y.length ≤ 200) :
    Calls Tryd.prog 62 #[.slice (some ⟨b, 0, none⟩) 2 2] w fun e w' => e = .returned (.string ⟨(x ++ 32 :: y).toArray⟩) ∧ Below w.heap.size w w' := by
  have hs : ∀ l : List UInt8, (⟨l.toArray⟩ : ByteArray).size = l.length := fun l => by simp [ByteArray.size]
  have := join_any b 0 2 [⟨x.toArray⟩, ⟨y.toArray⟩] w ⟨hb, fun j hj => by
    rcases (by simp at hj; omega : j = 0 ∨ j = 1) with rfl | rfl
    · simpa [List.getD] using c0
    · simpa [List.getD] using c1⟩ (by
      show (([⟨x.toArray⟩, ⟨y.toArray⟩] : List ByteArray).map fun s => s.size + 1).sum ≤ 3000
      simp only [List.map_cons, List.map_nil, List.sum_cons, List.sum_nil, hs]
      omega) (by simp) (by simp)
  refine this.mono fun e w' ⟨a, b⟩ => ⟨?_, b⟩
  rw [a]
  congr 4
  simp only [List.map_cons, List.map_nil]
  rw [Pl.join_cons2]
  simp [Lib.join]
/-- The box of a code that was handed over. -/
abbrev coB (ia : Option Addr) (il ic : Nat) (c : Cd.Co) : Obj := .cells #[.slice ia il ic, .int .i64 c.cells, .int .i64 c.params, .bool c.ans] 55
abbrev coV (ia : Option Addr) (ic : Nat) (c : Cd.Co) : Value := .agg #[.slice ia c.ins.length ic, .int .i64 c.cells, .int .i64 c.params, .bool c.ans]
set_option maxRecDepth 100000 in
set_option maxHeartbeats 8000000 in
theorem cdPrint_any (B : Nat) (ia : Option Addr) (ic : Nat) (c : Cd.Co) (w : World) (ht : Tt B w) (hi : InS B w ia c.ins) (hok : c.Ok) (hl : c.ins.length ≤ 500) : Calls Tryd.prog 34 #[coV ia ic c] w fun e w' => e = .returned (.string ⟨(Cd.pr 0 c.ins).toArray⟩) ∧ Below w.heap.size w w' := by
  have HT : Hid (Tt B w) := ht
  have HI : Hid (InS B w ia c.ins) := hi
  have HO : Hid (∀ i, i ∈ c.ins → i.Ok) := hok.1
  have HL : Hid (c.ins.length ≤ 500) := hl
  obtain ⟨n, hn⟩ : ∃ n, n = c.ins.length := ⟨_, rfl⟩
  have HN : Hid (n = c.ins.length) := hn
  obtain ⟨W, hW⟩ : ∃ W, W = (w.alloc (coB ia n ic c)).alloc (.cells #[.pointer none, .slice none 0 0] 113) := ⟨_, rfl⟩
  obtain ⟨bb, hbb⟩ : ∃ bb, bb = (w.alloc (coB ia n ic c)).heap.size := ⟨_, rfl⟩
  have bw : Below w.heap.size w W := by rw [hW]; exact ((Below.refl _ _).alloc (Nat.le_refl _) _).alloc (by simp) _
  have BLD : Hid (Lib.IsBuilder bT bE w.heap.size bb (Lib.byteCells (Cd.pr 0 (c.ins.take 0))) W) := by
    refine .inl ⟨by rw [hbb]; simp, .slice none 0 0, ?_, World.ownsRow_nil _ _ _ _, by simp [Value.ownBlock]⟩
    rw [hW, hbb]
    exact Array.getElem?_push_size
  have BW : Hid (Below w.heap.size w W) := bw
  have hbbs : bb = w.heap.size + 1 := by rw [hbb]; simp
  have cc0 : W.cell? ⟨w.heap.size, 0, none⟩ = some (.slice ia n ic) := by rw [hW]; simp [go_sem]
  obtain ⟨b, hb⟩ : ∃ b, b = w.heap.size := ⟨_, rfl⟩
  rw [← hb] at cc0
  clear ht hi hok hl bw
  show Calls _ _ #[.agg #[.slice ia c.ins.length ic, .int .i64 c.cells, .int .i64 c.params, .bool c.ans]] _ _
  rw [← hn]
  clear hn hbb
  go_enter Tryd.func34, Tryd.ntmps34
  go_upto_region 2 with fail
  rw [← hW, ← hbbs, ← hb]
  clear hW hbbs hb
  go_wp2_with fail
  go_loopw [11] (fun i wr => ∃ j : Nat, j ≤ n ∧ i = .int .i64 j ∧ Hid (Lib.IsBuilder bT bE w.heap.size bb (Lib.byteCells (Cd.pr 0 (c.ins.take j))) wr) ∧ Hid (Below w.heap.size w wr)) (fun i _ => n - (intOf i).toNat)
  case atStart => exact ⟨0, by omega, rfl, BLD, BW⟩
  case round =>
    clear BLD BW cc0
    obtain ⟨j, hj, rfl, BD, BR⟩ := hrel
    by_cases hlt : j < n
    · obtain ⟨x, ex⟩ : ∃ x, c.ins[j]? = some x := ⟨_, List.getElem?_eq_getElem (by rw [← HN.out]; exact hlt)⟩
      obtain ⟨g, o, rfl, hg, at_⟩ := (HI.out.later (BR.out.mono HT.out.hB)).at ex
      have c0 := at_.c0
      have c1 := at_.c1
      have c2 := at_.c2
      have XO : Hid x.Ok := HO.out x (List.mem_of_getElem? ex)
      have PT : Hid (Cd.pr 0 (c.ins.take (j + 1)) = Cd.pr 0 (c.ins.take j) ++ Cd.ln j x) := Cd.pr_take ex
      have PL : Hid ((Cd.pr 0 (c.ins.take j)).length ≤ 100000) := by
        have := Cd.pr_len (c.ins.take j) 0 (by have := HL.out; have := HN.out; simp; omega) (fun i hi => HO.out i (List.mem_of_mem_take hi))
        have h2 := HL.out
        have h3 := HN.out
        simp at this
        exact (by omega : (Cd.pr 0 (c.ins.take j)).length ≤ 100000)
      obtain ⟨W4, hW4⟩ : ∃ W4, W4 = wr.alloc (inB x) := ⟨_, rfl⟩
      obtain ⟨bx, hbx⟩ : ∃ bx, bx = wr.heap.size := ⟨_, rfl⟩
      obtain ⟨t0, t1, t2, b4⟩ := in_box wr x bx W4 hbx hW4
      have T4 := HT.out.later (BR.out.trans (b4.mono BR.out.size))
      have E1 : Hid _ := cdText_any x B W4 T4 XO.out
      have B4 : Hid (Below w.heap.size w W4) := BR.out.trans (b4.mono BR.out.size)
      have BD4 : Hid (Lib.IsBuilder bT bE w.heap.size bb (Lib.byteCells (Cd.pr 0 (c.ins.take j))) W4) := bld_later BD.out b4
      have hji : (j : Int) < (n : Int) := by omega
      have hj0 : (0 : Int) ≤ (j : Int) := by omega
      have LT : Hid ((Cd.lt x).length ≤ 100) := Cd.lt_len XO.out
      have IT : Hid ((Lib.itoa (j : Int)).length ≤ 21) := Pl.itoa_len (j : Int) (by omega) (by have := HL.out; have := HN.out; omega)
      clear at_ b4 ex T4 BD BR
      go_upto_region 5 with fail
      rw [← hW4, ← hbx]
      clear hW4 hbx c0 c1 c2
      go_wp2_with fail
      refine Calls.mono E1.out ?_
      rintro e5 w5 ⟨rfl, b5⟩
      have B5 : Hid (Below w.heap.size w w5) := B4.out.trans (b5.mono B4.out.size)
      have BD5 : Hid (Lib.IsBuilder bT bE w.heap.size bb (Lib.byteCells (Cd.pr 0 (c.ins.take j))) w5) := bld_later BD4.out b5
      have T5 := HT.out.later B5.out
      have E2 : Hid (∀ W, Below w5.heap.size w5 W → Calls Tryd.prog 61 #[.int .i64 (j : Int)] W fun e w' => e = .returned (.string ⟨(Lib.itoa (j : Int)).toArray⟩) ∧ Below W.heap.size W w') := fun W hW => text_any (j : Int) W (T5.later hW).tb (by omega) (by have := HL.out; have := HN.out; omega)
      clear b5 B4 BD4 E1 t0 t1 t2 T5
      have ELT : Hid (txE x = sE (Cd.lt x) (if Cd.hl x = true then 0 else 61) ∨ txE x = sE [] 61 ∧ Cd.lt x = [63]) := by
        unfold Hid txE Cd.lt
        cases Cd.hl x with
        | true => exact .inl rfl
        | false => exact .inr ⟨rfl, rfl⟩
      by_cases hh : Cd.hl x = true
      · have ev : Hid (txE x = sE (Cd.lt x) 0) := by unfold Hid txE Cd.lt; rw [if_pos hh, if_pos hh]
        rw [ev.out]
        generalize hlt2 : Cd.lt x = lx at LT
        have HLX : Hid (Cd.lt x = lx) := hlt2
        clear hlt2 hh ELT ev
        go_wp2_with fail
        refine Calls.mono (E2.out _ (Below.refl _ _)) ?_
        rintro e6 w6 ⟨rfl, b6⟩
        have B6 : Hid (Below w.heap.size w w6) := B5.out.trans (b6.mono B5.out.size)
        have BD6 : Hid (Lib.IsBuilder bT bE w.heap.size bb (Lib.byteCells (Cd.pr 0 (c.ins.take j))) w6) := bld_later BD5.out b6
        clear b6 E2 B5 BD5
        obtain ⟨W7, hW7⟩ : ∃ W7, W7 = w6.alloc (.cells #[.string ⟨(Lib.itoa (j : Int)).toArray⟩, .string ⟨lx.toArray⟩] 9) := ⟨_, rfl⟩
        obtain ⟨b7, hb7⟩ : ∃ b7, b7 = w6.heap.size := ⟨_, rfl⟩
        have y7 : Below w6.heap.size w6 W7 := by rw [hW7]; exact (Below.refl _ _).alloc (Nat.le_refl _) _
        have EJ : Hid _ := join_two2 W7 b7 (Lib.itoa (j : Int)) lx (by rw [hW7, hb7]; simp) (by rw [hW7, hb7]; simp [go_sem]) (by rw [hW7, hb7]; simp [go_sem]) (by have := IT.out; omega) (by have := LT.out; omega)
        have B7 : Hid (Below w.heap.size w W7) := B6.out.trans (y7.mono B6.out.size)
        have BD7 : Hid (Lib.IsBuilder bT bE w.heap.size bb (Lib.byteCells (Cd.pr 0 (c.ins.take j))) W7) := bld_later BD6.out y7
        clear y7 B6 BD6
        go_wp2_with fail
        rw [← hW7, ← hb7]
        clear hW7 hb7
        refine Calls.mono EJ.out ?_
        rintro e8 w8 ⟨rfl, b8⟩
        have B8 : Hid (Below w.heap.size w w8) := B7.out.trans (b8.mono B7.out.size)
        have BD8 := bld_later BD7.out b8
        have EW : Hid _ := bldStr w.heap.size bb _ ⟨(Lib.itoa (j : Int) ++ 32 :: lx).toArray⟩ w8 BD8 (by
          rw [Lib.byteCells_length]
          have h1 := PL.out
          have h2 := IT.out
          have h3 := LT.out
          simp [ByteArray.size]
          omega) B8.out.size
        clear b8 EJ B7 BD7 BD8
        go_wp2_with fail
        refine Calls.mono EW.out ?_
        rintro e9 w9 ⟨rfl, d9, b9⟩
        have B9 : Hid (Below w.heap.size w w9) := B8.out.trans b9
        have EB : Hid _ := bldByte w.heap.size bb _ 10 w9 (.inr d9) (by
          rw [List.length_append, Lib.byteCells_length, Lib.strCells_length]
          have h1 := PL.out
          have h2 := IT.out
          have h3 := LT.out
          simp [ByteArray.size]
          omega) B9.out.size
        clear d9 b9 EW B8
        go_wp2_with fail
        refine Calls.mono EB.out ?_
        rintro e10 w10 ⟨rfl, d10, b10⟩
        have B10 : Hid (Below w.heap.size w w10) := B9.out.trans b10
        have D10 : Hid (Lib.IsBuilder bT bE w.heap.size bb (Lib.byteCells (Cd.pr 0 (c.ins.take (j + 1)))) w10) := by
          refine .inr ?_
          rw [PT.out]
          unfold Cd.ln
          rw [HLX.out, Lib.byteCells_append, Lib.byteCells_append]
          rw [Lib.strCells_toArray, List.append_assoc] at d10
          exact d10
        clear d10 b10 EB B9
        have hL : n ≤ 500 := by have := HL.out; have := HN.out; omega
        go_wp2_with fail
        go_roundw
        case rel => exact ⟨j + 1, by omega, by go_num, D10, B10⟩
        case measure => simp [intOf]; omega
      · have ev : Hid (txE x = sE [] 61 ∧ Cd.lt x = [63]) := by unfold Hid txE Cd.lt; rw [if_neg hh, if_neg hh]; exact ⟨rfl, rfl⟩
        rw [ev.out.1]
        have HLX : Hid (Cd.lt x = ([63] : List UInt8)) := ev.out.2
        have LT2 : Hid (([63] : List UInt8).length ≤ 100) := by rw [← HLX.out]; exact LT.out
        clear hh ELT ev LT
        go_wp2_with fail
        refine Calls.mono (E2.out _ (Below.refl _ _)) ?_
        rintro e6 w6 ⟨rfl, b6⟩
        have B6 : Hid (Below w.heap.size w w6) := B5.out.trans (b6.mono B5.out.size)
        have BD6 : Hid (Lib.IsBuilder bT bE w.heap.size bb (Lib.byteCells (Cd.pr 0 (c.ins.take j))) w6) := bld_later BD5.out b6
        clear b6 E2 B5 BD5
        obtain ⟨W7, hW7⟩ : ∃ W7, W7 = w6.alloc (.cells #[.string ⟨(Lib.itoa (j : Int)).toArray⟩, .string ⟨#[63]⟩] 9) := ⟨_, rfl⟩
        obtain ⟨b7, hb7⟩ : ∃ b7, b7 = w6.heap.size := ⟨_, rfl⟩
        have y7 : Below w6.heap.size w6 W7 := by rw [hW7]; exact (Below.refl _ _).alloc (Nat.le_refl _) _
        have EJ : Hid _ := join_two2 W7 b7 (Lib.itoa (j : Int)) ([63] : List UInt8) (by rw [hW7, hb7]; simp) (by rw [hW7, hb7]; simp [go_sem]) (by rw [hW7, hb7]; simp [go_sem]) (by have := IT.out; omega) (by have := LT2.out; omega)
        have B7 : Hid (Below w.heap.size w W7) := B6.out.trans (y7.mono B6.out.size)
        have BD7 : Hid (Lib.IsBuilder bT bE w.heap.size bb (Lib.byteCells (Cd.pr 0 (c.ins.take j))) W7) := bld_later BD6.out y7
        clear y7 B6 BD6
        go_wp2_with fail
        rw [← hW7, ← hb7]
        clear hW7 hb7
        refine Calls.mono EJ.out ?_
        rintro e8 w8 ⟨rfl, b8⟩
        have B8 : Hid (Below w.heap.size w w8) := B7.out.trans (b8.mono B7.out.size)
        have BD8 := bld_later BD7.out b8
        have EW : Hid _ := bldStr w.heap.size bb _ ⟨(Lib.itoa (j : Int) ++ 32 :: ([63] : List UInt8)).toArray⟩ w8 BD8 (by
          rw [Lib.byteCells_length]
          have h1 := PL.out
          have h2 := IT.out
          have h3 := LT2.out
          simp [ByteArray.size]
          omega) B8.out.size
        clear b8 EJ B7 BD7 BD8
        go_wp2_with fail
        refine Calls.mono EW.out ?_
        rintro e9 w9 ⟨rfl, d9, b9⟩
        have B9 : Hid (Below w.heap.size w w9) := B8.out.trans b9
        have EB : Hid _ := bldByte w.heap.size bb _ 10 w9 (.inr d9) (by
          rw [List.length_append, Lib.byteCells_length, Lib.strCells_length]
          have h1 := PL.out
          have h2 := IT.out
          have h3 := LT2.out
          simp [ByteArray.size]
          omega) B9.out.size
        clear d9 b9 EW B8
        go_wp2_with fail
        refine Calls.mono EB.out ?_
        rintro e10 w10 ⟨rfl, d10, b10⟩
        have B10 : Hid (Below w.heap.size w w10) := B9.out.trans b10
        have D10 : Hid (Lib.IsBuilder bT bE w.heap.size bb (Lib.byteCells (Cd.pr 0 (c.ins.take (j + 1)))) w10) := by
          refine .inr ?_
          rw [PT.out]
          unfold Cd.ln
          rw [HLX.out, Lib.byteCells_append, Lib.byteCells_append]
          rw [Lib.strCells_toArray, List.append_assoc] at d10
          exact d10
        clear d10 b10 EB B9
        have hL : n ≤ 500 := by have := HL.out; have := HN.out; omega
        go_wp2_with fail
        go_roundw
        case rel => exact ⟨j + 1, by omega, by go_num, D10, B10⟩
        case measure => simp [intOf]; omega
    · obtain rfl : j = n := by omega
      have ES : Hid _ := bldAll w.heap.size bb (Cd.pr 0 c.ins) wr (by rw [HN.out, List.take_length] at BD; exact BD.out) BR.out.size
      clear BD
      go_wp2_with fail
      refine Calls.mono ES.out ?_
      rintro e9 w9 ⟨rfl, b9⟩
      have B9 : Hid (Below w.heap.size w w9) := BR.out.trans b9
      clear b9 ES BR
      go_wp2_with fail
      go_ret
      exact ⟨rfl, B9.out⟩
end Go.Proofs.YtdllgbhdodjdbaaDoor
