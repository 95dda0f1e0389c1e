/- Layer 8: the operation of a word, the line of an instruction (the program's operation, Text). -/
import Derived.Test.YtdllgbhdodjdbaaDoorCdB
import Derived.Test.YtdllgbhdodjdbaaDoorCdTx
import Derived.Test.YtdllgbhdodjdbaaDoorWordsB
namespace Go.Proofs.YtdllgbhdodjdbaaDoor
open Go.RowKit
set_option linter.unusedVariables false
set_option linter.unusedSimpArgs false

/-- The table of words lies as it is laid, in a block below B. -/
structure Tw (B : Nat) (w : World) : Prop where
  lt : 0 < B
  get : ∀ k : Nat, k < 26 → w.cell? ⟨0, k, none⟩ = some (.string ⟨(Cd.wordL.getD k []).toArray⟩)
theorem Tw.later {w w' : World} {B : Nat} (h : Tw B w) (b : Below B w w') : Tw B w' :=
  ⟨h.lt, fun k hk => (b.cell (p := ⟨0, k, none⟩) h.lt).trans (h.get k hk)⟩
/-- What a line is read and written with. -/
structure Tt (B : Nat) (w : World) : Prop where
  hB : B ≤ w.heap.size
  tn : Tn B w
  tw : Tw B w
  tb : Tab w
  mx : Mx w
theorem Tt.later {w w' : World} {B : Nat} (h : Tt B w) (b : Below w.heap.size w w') : Tt B w' :=
  ⟨Nat.le_trans h.hB b.size, h.tn.later (b.mono h.hB), h.tw.later (b.mono h.hB), h.tb.later b (Nat.le_refl _), h.mx.later b⟩
namespace Cd
theorem opOf_no {w : List UInt8} (h : ∀ q : Nat, 1 ≤ q → q < 26 → wordL.getD q [] ≠ w) : opOf w = 0 := by
  cases e : opOf w with
  | zero => rfl
  | succ k =>
    have hn : opOf w ≠ 0 := by rw [e]; simp
    obtain ⟨h1, h2, h3⟩ := opOf_is hn
    refine absurd ?_ (h (opOf w) h1 (by omega))
    rw [List.getD_eq_getElem?_getD, h3]
    rfl
end Cd
theorem retIB {a c : Int} {b d : Bool} (h1 : a = c) (h2 : b = d) : Ending.returned (.tuple #[.int .i64 a, .bool b]) = .returned (.tuple #[.int .i64 c, .bool d]) := by rw [h1, h2]
set_option maxRecDepth 100000 in
set_option maxHeartbeats 4000000 in
theorem cdOp_any (n : List UInt8) (B : Nat) (w : World) (ht : Tw B w) : Calls Tryd.prog 64 #[.string ⟨n.toArray⟩] w fun e w' => e = .returned (.tuple #[.int .i64 (Cd.opOf n : Nat), .bool (decide (Cd.opOf n ≠ 0))]) ∧ w' = w := by
  have HT : Hid (∀ k : Nat, k < 26 → w.cell? ⟨0, k, none⟩ = some (.string ⟨(Cd.wordL.getD k []).toArray⟩)) := ht.get
  clear ht
  go_enter Tryd.func64, Tryd.ntmps64
  go_wp2_with fail
  go_loop [4] (fun i => ∃ k : Nat, 1 ≤ k ∧ k ≤ 26 ∧ i = .int .i64 k ∧ Hid (∀ q : Nat, 1 ≤ q → q < k → Cd.wordL.getD q [] ≠ n)) (fun i => 26 - (intOf i).toNat)
  case atStart => exact ⟨1, by omega, by omega, rfl, fun q h1 h2 => by omega⟩
  case round =>
    obtain ⟨k, hk1, hk, rfl, N⟩ := hrel
    by_cases hlt : k < 26
    · have c := HT.out k hlt
      have g1 : (k : Int) ≤ 25 := by omega
      have g2 : (k : Int) < 26 := by omega
      have g0 : (0 : Int) ≤ (k : Int) := by omega
      have EA : Hid (Cd.opOf (Cd.wordL.getD k []) = k) := Cd.opOf_at k hlt hk1
      have HX : Hid (∀ x, Cd.wordL.getD k [] = x → x ≠ n → ∀ q : Nat, 1 ≤ q → q < k + 1 → Cd.wordL.getD q [] ≠ n) := fun x hx hn q h1 h2 => by
        by_cases h3 : q < k
        · exact N.out q h1 h3
        · have : q = k := by omega
          rw [this, hx]
          exact hn
      generalize hx : Cd.wordL.getD k [] = x at c EA
      have HXX : Hid (Cd.wordL.getD k [] = x) := hx
      clear hx
      by_cases he : x = n
      · have heb : (x == n) = true := by rw [he]; exact beq_self_eq_true _
        have hec : (n == x) = true := by rw [he]; exact beq_self_eq_true _
        have EO : Hid (Cd.opOf n = k) := by rw [← he]; exact EA.out
        clear he
        go_wp2_with fail
        go_ret2
        exact ⟨retIB (by rw [EO.out]) (by rw [EO.out]; simp; omega), rfl⟩
      · have heb : (x == n) = false := beq_eq_false_iff_ne.2 he
        have hec : (n == x) = false := beq_eq_false_iff_ne.2 (fun e => he e.symm)
        have N2 : Hid (∀ q : Nat, 1 ≤ q → q < k + 1 → Cd.wordL.getD q [] ≠ n) := HX.out x HXX.out he
        clear he
        go_wp2_with fail
        exact ⟨⟨k + 1, by omega, by omega, by go_num, N2⟩, by simp [intOf]; omega⟩
    · obtain rfl : k = 26 := by omega
      have EO : Hid (Cd.opOf n = 0) := Cd.opOf_no fun q h1 h2 => N.out q h1 (by omega)
      go_wp2_with fail
      go_ret2
      exact ⟨retIB (by rw [EO.out]; rfl) (by rw [EO.out]; rfl), rfl⟩
/-- A text and an error are answered. -/
abbrev sE (l : List UInt8) (e : Int) : Value := .tuple #[.string ⟨l.toArray⟩, .int .i64 e]
/-- What Text answers. -/
def txE (i : Cd.In) : Value := if Cd.hl i = true then sE (Cd.tx i) 0 else sE [] 61
set_option maxRecDepth 100000 in
set_option maxHeartbeats 4000000 in
theorem cdText_no (i : Cd.In) (B : Nat) (w : World) (ht : Tt B w) (h : Cd.hl i = false) : Calls Tryd.prog 31 #[inV i] w fun e w' => e = .returned (sE [] 61) ∧ Below w.heap.size w w' := by
  have HT : Hid (Tt B w) := ht
  have HE : Hid (∀ W, Below w.heap.size w W → Calls Tryd.prog 60 #[inV i] W fun e w' => e = .returned (.bool false) ∧ Below W.heap.size W w') := fun W hW => by
    have t := HT.out.later hW
    have := cdHasLine_any i B W t.hB t.tn
    rw [h] at this
    exact this
  clear ht h
  go_enter Tryd.func31, Tryd.ntmps31
  go_wp2_with fail
  refine Calls.mono (HE.out _ (by go_grown)) ?_
  rintro e1 w1 ⟨rfl, b1⟩
  have B1 : Hid (Below w.heap.size w w1) := Below.trans (by go_grown) (b1.mono (by go_size))
  clear b1
  go_wp2_with fail
  go_ret2
  exact ⟨rfl, B1.out⟩
theorem sa_three (w : World) (b : Nat) (x y z : List UInt8) (j : Nat) (hj : j ≤ 3) (hb : b < w.heap.size) (c0 : w.cell? ⟨b, 0, none⟩ = some (.string ⟨x.toArray⟩)) (c1 : w.cell? ⟨b, 1, none⟩ = some (.string ⟨y.toArray⟩)) (c2 : w.cell? ⟨b, 2, none⟩ = some (.string ⟨z.toArray⟩)) : Sa w b 0 (([⟨x.toArray⟩, ⟨y.toArray⟩, ⟨z.toArray⟩] : List ByteArray).take j) := by
  refine ⟨hb, fun i hi => ?_⟩
  rw [List.length_take] at hi
  simp only [List.length_cons, List.length_nil] at hi
  rcases (by omega : i = 0 ∨ i = 1 ∨ i = 2) with rfl | rfl | rfl
  · have : 0 < j := by omega
    simpa [List.getD, List.getElem?_take, this] using c0
  · have : 1 < j := by omega
    simpa [List.getD, List.getElem?_take, this] using c1
  · have : 2 < j := by omega
    simpa [List.getD, List.getElem?_take, this] using c2
theorem tot_three (x y z : List UInt8) (j : Nat) (hx : x.length ≤ 30) (hy : y.length ≤ 30) (hz : z.length ≤ 30) : tot (([⟨x.toArray⟩, ⟨y.toArray⟩, ⟨z.toArray⟩] : List ByteArray).take j) (([⟨x.toArray⟩, ⟨y.toArray⟩, ⟨z.toArray⟩] : List ByteArray).take j).length ≤ 3000 := by
  have hs : ∀ l : List UInt8, (⟨l.toArray⟩ : ByteArray).size = l.length := fun l => by simp [ByteArray.size]
  unfold tot
  rw [List.take_of_length_le (Nat.le_refl _)]
  match j with
  | 0 => exact Nat.zero_le _
  | 1 =>
    show (([⟨x.toArray⟩] : List ByteArray).map fun s => s.size + 1).sum ≤ 3000
    simp only [List.map_cons, List.map_nil, List.sum_cons, List.sum_nil, hs]
    omega
  | 2 =>
    show (([⟨x.toArray⟩, ⟨y.toArray⟩] : List ByteArray).map fun s => s.size + 1).sum ≤ 3000
    simp only [List.map_cons, List.map_nil, List.sum_cons, List.sum_nil, hs]
    omega
  | j + 3 =>
    rw [List.take_of_length_le (by simp)]
    simp only [List.map_cons, List.map_nil, List.sum_cons, List.sum_nil, hs]
    omega
/-- num.Join of the first texts of three. -/
theorem join_three (w : World) (b j : Nat) (x y z : List UInt8) (hj : j ≤ 3) (hb : b < w.heap.size) (c0 : w.cell? ⟨b, 0, none⟩ = some (.string ⟨x.toArray⟩)) (c1 : w.cell? ⟨b, 1, none⟩ = some (.string ⟨y.toArray⟩)) (c2 : w.cell? ⟨b, 2, none⟩ = some (.string ⟨z.toArray⟩)) (hx : x.length ≤ 30) (hy : y.length ≤ 30) (hz : z.length ≤ 30) :
    Calls Tryd.prog 62 #[.slice (some ⟨b, 0, none⟩) j 3] w fun e w' => e = .returned (.string ⟨(Lib.join ([x, y, z].take j) [32]).toArray⟩) ∧ Below w.heap.size w w' := by
  have el : (([⟨x.toArray⟩, ⟨y.toArray⟩, ⟨z.toArray⟩] : List ByteArray).take j).length = j := by simp; omega
  have := join_any b 0 3 (([⟨x.toArray⟩, ⟨y.toArray⟩, ⟨z.toArray⟩] : List ByteArray).take j) w (sa_three w b x y z j hj hb c0 c1 c2) (tot_three x y z j hx hy hz) (by omega) (by omega)
  rw [el] at this
  refine this.mono fun e w' ⟨a, b⟩ => ⟨?_, b⟩
  rw [a]
  congr 4
  rw [List.map_take]
  simp
theorem put3 {w1 w7 : World} {a : Nat} {x y z v0 v1 v2 : Value} (h : Below w1.heap.size w1 w7) (ha : w1.heap.size ≤ a) (hl : a < w7.heap.size) (c0 : w7.cell? ⟨a, 0, none⟩ = some v0) (c1 : w7.cell? ⟨a, 1, none⟩ = some v1) (c2 : w7.cell? ⟨a, 2, none⟩ = some v2) :
    ∃ bx, Value.pointer (some ⟨a, 0, none⟩) = .pointer (some ⟨bx, 0, none⟩) ∧ Hid (bx < (((w7.setCell ⟨a, 0, none⟩ x).setCell ⟨a, 1, none⟩ y).setCell ⟨a, 2, none⟩ z).heap.size ∧ (((w7.setCell ⟨a, 0, none⟩ x).setCell ⟨a, 1, none⟩ y).setCell ⟨a, 2, none⟩ z).cell? ⟨bx, 0, none⟩ = some x ∧ (((w7.setCell ⟨a, 0, none⟩ x).setCell ⟨a, 1, none⟩ y).setCell ⟨a, 2, none⟩ z).cell? ⟨bx, 1, none⟩ = some y ∧ (((w7.setCell ⟨a, 0, none⟩ x).setCell ⟨a, 1, none⟩ y).setCell ⟨a, 2, none⟩ z).cell? ⟨bx, 2, none⟩ = some z) ∧ Hid (Below w1.heap.size w1 (((w7.setCell ⟨a, 0, none⟩ x).setCell ⟨a, 1, none⟩ y).setCell ⟨a, 2, none⟩ z)) := by
  have e1 : (w7.setCell ⟨a, 0, none⟩ x).cell? ⟨a, 1, none⟩ = some v1 := by rw [World.cell?_setCell_other _ _ _ _ (by simp)]; exact c1
  have e2 : ((w7.setCell ⟨a, 0, none⟩ x).setCell ⟨a, 1, none⟩ y).cell? ⟨a, 2, none⟩ = some v2 := by rw [World.cell?_setCell_other _ _ _ _ (by simp), World.cell?_setCell_other _ _ _ _ (by simp)]; exact c2
  refine ⟨a, rfl, ⟨by simpa using hl, ?_, ?_, ?_⟩, h.trans ⟨rfl, rfl, rfl, by simp, fun k hk => ?_⟩⟩
  · rw [World.cell?_setCell_other _ _ _ _ (by simp), World.cell?_setCell_other _ _ _ _ (by simp)]
    exact World.cell?_setCell_same _ _ _ c0
  · rw [World.cell?_setCell_other _ _ _ _ (by simp)]
    exact World.cell?_setCell_same _ _ _ e1
  · exact World.cell?_setCell_same _ _ _ e2
  · rw [heap_setCell_other _ _ k _ (by simp; omega), heap_setCell_other _ _ k _ (by simp; omega), heap_setCell_other _ _ k _ (by simp; omega)]
theorem word_len : ∀ k : Nat, k < 26 → (Cd.wordL.getD k []).length ≤ 30 := by decide +kernel
set_option maxRecDepth 100000 in
set_option maxHeartbeats 8000000 in
theorem cdText_yes (k : Nat) (n m : Int) (B : Nat) (w : World) (ht : Tt B w) (hok : Cd.In.Ok ⟨k, n, m⟩) (h : Cd.hl ⟨k, n, m⟩ = true) : Calls Tryd.prog 31 #[inV ⟨k, n, m⟩] w fun e w' => e = .returned (sE (Cd.tx ⟨k, n, m⟩) 0) ∧ Below w.heap.size w w' := by
  obtain ⟨h1, h2, -, -⟩ := Cd.hl_op h
  dsimp only at h1 h2
  have hk : k < 26 := by omega
  obtain ⟨b, hb⟩ : ∃ b, b = w.heap.size := ⟨_, rfl⟩
  obtain ⟨W, hW⟩ : ∃ W, W = w.alloc (inB ⟨k, n, m⟩) := ⟨_, rfl⟩
  obtain ⟨b0, b1, b2, bw⟩ := in_box w ⟨k, n, m⟩ b W hb hW
  dsimp only at b0 b1 b2
  have T1 := ht.later bw
  have bl : b < W.heap.size := by rw [hb, hW]; simp
  have EL : Hid (Calls Tryd.prog 60 #[inV ⟨k, n, m⟩] W fun e w' => e = .returned (.bool true) ∧ Below W.heap.size W w') := by
    have := cdHasLine_any ⟨k, n, m⟩ B W T1.hB T1.tn
    rw [h] at this
    exact this
  have BW : Hid (Below w.heap.size w W) := bw
  have TT : Hid (Tt B W) := T1
  have HOK : Hid (Cd.In.Ok ⟨k, n, m⟩) := hok
  obtain ⟨x, hx⟩ : ∃ x, x = Cd.wordL.getD k [] := ⟨_, rfl⟩
  obtain ⟨u, hu⟩ : ∃ u : Nat, Cd.nm k = u := by
    rcases Cd.nm_is k with e | e | e
    · exact ⟨0, e⟩
    · exact ⟨1, e⟩
    · exact ⟨2, e⟩
  have hu3 : u ≤ 2 := by rcases Cd.nm_is k with e | e | e <;> omega
  have hnu : Cd.numsL.getD k 0 = (u : Int) := by rw [← hu]; unfold Cd.nm; rw [Int.toNat_natCast]
  have EX : Hid (Cd.tx ⟨k, n, m⟩ = Lib.join ([x, Lib.itoa n, Lib.itoa m].take (1 + u)) [32]) := by
    unfold Hid Cd.tx Cd.lw Cd.wd
    dsimp only
    rw [hu, Int.toNat_natCast, Int.toNat_natCast, hx]
  have LX : Hid (x.length ≤ 30 ∧ (Lib.itoa n).length ≤ 30 ∧ (Lib.itoa m).length ≤ 30) := ⟨by rw [hx]; exact word_len k hk, Nat.le_trans (Pl.itoa_len n hok.2.1.1 hok.2.1.2) (by omega), Nat.le_trans (Pl.itoa_len m hok.2.2.1 hok.2.2.2) (by omega)⟩
  have cw := T1.tw.get k hk
  rw [← hx] at cw
  have cn := T1.tn.get k hk
  rw [hnu] at cn
  have gwl : 0 < W.heap.size := Nat.lt_of_lt_of_le T1.tw.lt T1.hB
  have gnl : 1 < W.heap.size := Nat.lt_of_lt_of_le T1.tn.lt T1.hB
  have g2 : (k : Int) < 26 := by omega
  have g0 : (0 : Int) ≤ (k : Int) := by omega
  have ET : Hid (∀ (a : Int) W', (a = n ∨ a = m) → Below W.heap.size W W' → Calls Tryd.prog 61 #[.int .i64 a] W' fun e w' => e = .returned (.string ⟨(Lib.itoa a).toArray⟩) ∧ Below W'.heap.size W' w') := fun a W' ha hW' => by
    have t := TT.out.later hW'
    rcases ha with rfl | rfl
    · exact text_any _ W' t.tb HOK.out.2.1.1 HOK.out.2.1.2
    · exact text_any _ W' t.tb HOK.out.2.2.1 HOK.out.2.2.2
  rw [EX.out]
  clear ht hok h h1 h2 T1 bw hx hu hnu EX
  go_enter Tryd.func31, Tryd.ntmps31
  go_upto_region 1 with fail
  rw [← hW, ← hb]
  clear hW hb
  go_wp2_with fail
  refine Calls.mono EL.out ?_
  rintro e1 w1 ⟨rfl, y1⟩
  have Y1 : Hid (Below W.heap.size W w1) := y1
  have d0 := (y1.cell (p := ⟨b, 0, none⟩) bl).trans b0
  have d1 := (y1.cell (p := ⟨b, 1, none⟩) bl).trans b1
  have d2 := (y1.cell (p := ⟨b, 2, none⟩) bl).trans b2
  have dw := (y1.cell (p := ⟨0, k, none⟩) gwl).trans cw
  have dn := (y1.cell (p := ⟨1, k, none⟩) gnl).trans cn
  have bl1 : b < w1.heap.size := Nat.lt_of_lt_of_le bl y1.size
  have gwl1 : 0 < w1.heap.size := Nat.lt_of_lt_of_le gwl y1.size
  have gnl1 : 1 < w1.heap.size := Nat.lt_of_lt_of_le gnl y1.size
  clear y1 EL b0 b1 b2 cw cn bl gwl gnl
  go_upto_region 3 with fail
  go_cut [4] from 8 to 18 (fun s wx => ∃ bx, s = .pointer (some ⟨bx, 0, none⟩) ∧ Hid (bx < wx.heap.size ∧ wx.cell? ⟨bx, 0, none⟩ = some (.string ⟨x.toArray⟩) ∧ wx.cell? ⟨bx, 1, none⟩ = some (.string ⟨(Lib.itoa n).toArray⟩) ∧ wx.cell? ⟨bx, 2, none⟩ = some (.string ⟨(Lib.itoa m).toArray⟩)) ∧ Hid (Below w1.heap.size w1 wx))
  case first =>
    have nb1 : ¬ b = w1.heap.size := Nat.ne_of_lt bl1
    have nw1 : ¬ 0 = w1.heap.size := Nat.ne_of_lt gwl1
    go_region_held3 (fun w' => w'.cell? ⟨b, 0, none⟩ = some (.int .i64 k) ∧ w'.cell? ⟨b, 1, none⟩ = some (.int .i64 n) ∧ w'.cell? ⟨b, 2, none⟩ = some (.int .i64 m) ∧ w'.cell? ⟨0, k, none⟩ = some (.string ⟨x.toArray⟩)) (first | (exact ⟨q0, q1, q2, q3⟩) | (exact ⟨r0, r1, r2, r3⟩) | (refine ⟨?_, ?_, ?_, ?_⟩ <;> first | (simp [go_sem, r0, nb1, nw1, nb6, nw6]; done) | (simp [go_sem, r1, nb1, nb6]; done) | (simp [go_sem, r2, nb1, nb6]; done) | (simp [go_sem, r3, nw1, nw6]; done) | fail) | go_keep) (first
      | (have qq := B6.out; go_at_call 61; refine Calls.mono (ET.out _ _ (by first | exact .inl rfl | exact .inr rfl) (Below.trans (Y1.out.trans (B6.out.mono Y1.out.size)) (Below.mono (by go_grown) (Nat.le_trans Y1.out.size B6.out.size)))) ?_; rintro e7 w7 ⟨rfl, b7⟩; have z7 : Below w6.heap.size w6 w7 := Below.trans (by go_grown) (b7.mono (by go_size)); have r0 : w7.cell? ⟨b, 0, none⟩ = some (.int .i64 k) := (z7.cell (p := ⟨b, 0, none⟩) z6b).trans q0; have r1 : w7.cell? ⟨b, 1, none⟩ = some (.int .i64 n) := (z7.cell (p := ⟨b, 1, none⟩) z6b).trans q1; have r2 : w7.cell? ⟨b, 2, none⟩ = some (.int .i64 m) := (z7.cell (p := ⟨b, 2, none⟩) z6b).trans q2; have r3 : w7.cell? ⟨0, k, none⟩ = some (.string ⟨x.toArray⟩) := (z7.cell (p := ⟨0, k, none⟩) z6w).trans q3; have B7 : Hid (Below w1.heap.size w1 w7) := B6.out.trans (z7.mono B6.out.size); (first | (have v0 : w7.cell? ⟨w1.heap.size, 0, none⟩ = some (.string ⟨#[]⟩) := (z7.cell (p := ⟨w1.heap.size, 0, none⟩) z6u).trans u0; have vf0 : w7.frozen? ⟨w1.heap.size, 0, none⟩ = false := (z7.frozen (p := ⟨w1.heap.size, 0, none⟩) z6u).trans uf0; have v1 : w7.cell? ⟨w1.heap.size, 1, none⟩ = some (.string ⟨#[]⟩) := (z7.cell (p := ⟨w1.heap.size, 1, none⟩) z6u).trans u1; have vf1 : w7.frozen? ⟨w1.heap.size, 1, none⟩ = false := (z7.frozen (p := ⟨w1.heap.size, 1, none⟩) z6u).trans uf1; have v2 : w7.cell? ⟨w1.heap.size, 2, none⟩ = some (.string ⟨#[]⟩) := (z7.cell (p := ⟨w1.heap.size, 2, none⟩) z6u).trans u2; have vf2 : w7.frozen? ⟨w1.heap.size, 2, none⟩ = false := (z7.frozen (p := ⟨w1.heap.size, 2, none⟩) z6u).trans uf2; have z7v : w1.heap.size < w7.heap.size := Nat.lt_of_lt_of_le z6u z7.size) | (have v0 : w7.cell? ⟨w6.heap.size, 0, none⟩ = some (.string ⟨#[]⟩) := (b7.cell (p := ⟨w6.heap.size, 0, none⟩) (by first | (simp; done) | fail)).trans (by first | (simp [go_sem]; done) | fail); have vf0 : w7.frozen? ⟨w6.heap.size, 0, none⟩ = false := (b7.frozen (p := ⟨w6.heap.size, 0, none⟩) (by first | (simp; done) | fail)).trans (by first | (simp [go_sem]; done) | fail); have v1 : w7.cell? ⟨w6.heap.size, 1, none⟩ = some (.string ⟨#[]⟩) := (b7.cell (p := ⟨w6.heap.size, 1, none⟩) (by first | (simp; done) | fail)).trans (by first | (simp [go_sem]; done) | fail); have vf1 : w7.frozen? ⟨w6.heap.size, 1, none⟩ = false := (b7.frozen (p := ⟨w6.heap.size, 1, none⟩) (by first | (simp; done) | fail)).trans (by first | (simp [go_sem]; done) | fail); have v2 : w7.cell? ⟨w6.heap.size, 2, none⟩ = some (.string ⟨#[]⟩) := (b7.cell (p := ⟨w6.heap.size, 2, none⟩) (by first | (simp; done) | fail)).trans (by first | (simp [go_sem]; done) | fail); have vf2 : w7.frozen? ⟨w6.heap.size, 2, none⟩ = false := (b7.frozen (p := ⟨w6.heap.size, 2, none⟩) (by first | (simp; done) | fail)).trans (by first | (simp [go_sem]; done) | fail); have z7v : w6.heap.size < w7.heap.size := Nat.lt_of_lt_of_le (by first | (simp; done) | fail) b7.size) | skip); clear b7 z7)
      | (go_at_call 61; refine Calls.mono (ET.out _ _ (by first | exact .inl rfl | exact .inr rfl) (Below.trans Y1.out (Below.mono (by go_grown) Y1.out.size))) ?_; rintro e6 w6 ⟨rfl, b6⟩; have z6 : Below w1.heap.size w1 w6 := Below.trans (by go_grown) (b6.mono (by go_size)); have q0 : w6.cell? ⟨b, 0, none⟩ = some (.int .i64 k) := (z6.cell (p := ⟨b, 0, none⟩) bl1).trans d0; have q1 : w6.cell? ⟨b, 1, none⟩ = some (.int .i64 n) := (z6.cell (p := ⟨b, 1, none⟩) bl1).trans d1; have q2 : w6.cell? ⟨b, 2, none⟩ = some (.int .i64 m) := (z6.cell (p := ⟨b, 2, none⟩) bl1).trans d2; have q3 : w6.cell? ⟨0, k, none⟩ = some (.string ⟨x.toArray⟩) := (z6.cell (p := ⟨0, k, none⟩) gwl1).trans dw; have z6b : b < w6.heap.size := Nat.lt_of_lt_of_le bl1 z6.size; have z6w : 0 < w6.heap.size := Nat.lt_of_lt_of_le gwl1 z6.size; have nb6 : ¬ b = w6.heap.size := Nat.ne_of_lt z6b; have nw6 : ¬ 0 = w6.heap.size := Nat.ne_of_lt z6w; have B6 : Hid (Below w1.heap.size w1 w6) := z6; (first | (have u0 : w6.cell? ⟨w1.heap.size, 0, none⟩ = some (.string ⟨#[]⟩) := (b6.cell (p := ⟨w1.heap.size, 0, none⟩) (by first | (simp; done) | fail)).trans (by first | (simp [go_sem]; done) | fail); have uf0 : w6.frozen? ⟨w1.heap.size, 0, none⟩ = false := (b6.frozen (p := ⟨w1.heap.size, 0, none⟩) (by first | (simp; done) | fail)).trans (by first | (simp [go_sem]; done) | fail); have u1 : w6.cell? ⟨w1.heap.size, 1, none⟩ = some (.string ⟨#[]⟩) := (b6.cell (p := ⟨w1.heap.size, 1, none⟩) (by first | (simp; done) | fail)).trans (by first | (simp [go_sem]; done) | fail); have uf1 : w6.frozen? ⟨w1.heap.size, 1, none⟩ = false := (b6.frozen (p := ⟨w1.heap.size, 1, none⟩) (by first | (simp; done) | fail)).trans (by first | (simp [go_sem]; done) | fail); have u2 : w6.cell? ⟨w1.heap.size, 2, none⟩ = some (.string ⟨#[]⟩) := (b6.cell (p := ⟨w1.heap.size, 2, none⟩) (by first | (simp; done) | fail)).trans (by first | (simp [go_sem]; done) | fail); have uf2 : w6.frozen? ⟨w1.heap.size, 2, none⟩ = false := (b6.frozen (p := ⟨w1.heap.size, 2, none⟩) (by first | (simp; done) | fail)).trans (by first | (simp [go_sem]; done) | fail); have z6u : w1.heap.size < w6.heap.size := Nat.lt_of_lt_of_le (by first | (simp; done) | fail) b6.size) | skip); clear b6 z6))
    all_goals
      go_wp2_with fail
      go_meet
      first
        | exact ⟨_, rfl, ⟨by simp, by simp [go_sem], by simp [go_sem], by simp [go_sem]⟩, B7.out.alloc B7.out.size _⟩
        | exact put3 B7.out B6.out.size z7v v0 v1 v2
        | exact put3 B7.out (Nat.le_refl _) z7v v0 v1 v2
  case rest =>
    obtain ⟨bx, rfl, P, BC⟩ := hcut
    obtain ⟨p0, p1, p2, p3⟩ := P.out
    have y0 := (BC.out.cell (p := ⟨b, 0, none⟩) bl1).trans d0
    have yn := (BC.out.cell (p := ⟨1, k, none⟩) gnl1).trans dn
    have BB : Hid (Below w.heap.size w wc) := (BW.out.trans (Y1.out.mono BW.out.size)).trans (BC.out.mono (Nat.le_trans BW.out.size Y1.out.size))
    clear d0 d1 d2 dw dn P ET
    rcases (by omega : u = 0 ∨ u = 1 ∨ u = 2) with rfl | rfl | rfl
    · have EJ : Hid _ := join_three wc bx 1 x (Lib.itoa n) (Lib.itoa m) (by omega) p0 p1 p2 p3 LX.out.1 LX.out.2.1 LX.out.2.2
      clear p1 p2 p3
      go_wp2_with fail
      refine Calls.mono EJ.out ?_
      rintro e8 w8 ⟨rfl, b8⟩
      have B8 : Hid (Below w.heap.size w w8) := BB.out.trans (b8.mono BB.out.size)
      clear b8 EJ
      go_wp2_with fail
      go_ret2
      exact ⟨rfl, B8.out⟩
    · have EJ : Hid _ := join_three wc bx 2 x (Lib.itoa n) (Lib.itoa m) (by omega) p0 p1 p2 p3 LX.out.1 LX.out.2.1 LX.out.2.2
      clear p1 p2 p3
      go_wp2_with fail
      refine Calls.mono EJ.out ?_
      rintro e8 w8 ⟨rfl, b8⟩
      have B8 : Hid (Below w.heap.size w w8) := BB.out.trans (b8.mono BB.out.size)
      clear b8 EJ
      go_wp2_with fail
      go_ret2
      exact ⟨rfl, B8.out⟩
    · have EJ : Hid _ := join_three wc bx 3 x (Lib.itoa n) (Lib.itoa m) (by omega) p0 p1 p2 p3 LX.out.1 LX.out.2.1 LX.out.2.2
      clear p1 p2 p3
      go_wp2_with fail
      refine Calls.mono EJ.out ?_
      rintro e8 w8 ⟨rfl, b8⟩
      have B8 : Hid (Below w.heap.size w w8) := BB.out.trans (b8.mono BB.out.size)
      clear b8 EJ
      go_wp2_with fail
      go_ret2
      exact ⟨rfl, B8.out⟩
/-- The line of every instruction. -/
theorem cdText_any (i : Cd.In) (B : Nat) (w : World) (ht : Tt B w) (hok : i.Ok) : Calls Tryd.prog 31 #[inV i] w fun e w' => e = .returned (txE i) ∧ Below w.heap.size w w' := by
  unfold txE
  cases h : Cd.hl i with
  | false => simpa using cdText_no i B w ht h
  | true =>
    obtain ⟨h1, h2, -, -⟩ := Cd.hl_op h
    obtain ⟨op, n, m⟩ := i
    dsimp only at h1 h2
    obtain ⟨k, rfl⟩ : ∃ k : Nat, op = k := ⟨op.toNat, by omega⟩
    simpa using cdText_yes k n m B w ht hok h
end Go.Proofs.YtdllgbhdodjdbaaDoor
