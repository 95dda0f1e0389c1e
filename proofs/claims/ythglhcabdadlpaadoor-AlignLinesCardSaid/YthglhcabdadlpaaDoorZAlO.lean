/- Layer 15: Regions, Text. -/
import Derived.Test.YthglhcabdadlpaaDoorZMag
import Derived.Test.YthglhcabdadlpaaDoorZGrN
namespace Go.Proofs.YthglhcabdadlpaaDoor
open Go.RowKit
set_option linter.unusedVariables false
set_option linter.unusedSimpArgs false
set_option maxRecDepth 100000
namespace Al
/-- Regions, or what is wrong. -/
def regs (n m : Int) (l : List Ev) : List Rg × Int := if n < 0 ∨ m < 0 then ([], 1) else if rise n m (-1, -1) l then (gaps n m 0 0 l, 0) else ([], 90)
def wPrint : List UInt8 := [112, 114, 105, 110, 116]
def wRead : List UInt8 := [114, 101, 97, 100]
def wEnd : List UInt8 := [101, 110, 100]
def wTrap : List UInt8 := [116, 114, 97, 112]
def wFuel : List UInt8 := [102, 117, 101, 108]
def wEvent : List UInt8 := [101, 118, 101, 110, 116]
/-- An event's text. -/
def tx (e : Ev) : List UInt8 :=
  if e.1 = 1 then wPrint ++ 32 :: Lib.itoa e.2 else if e.1 = 2 then wRead ++ 32 :: Lib.itoa e.2 else if e.1 = 3 then wEnd else if e.1 = 4 then wTrap ++ 32 :: Lib.itoa e.2 else if e.1 = 5 then wFuel
  else wEvent ++ 32 :: (Lib.itoa e.1 ++ 32 :: Lib.itoa e.2)
/-- Numbers of 64 bits. -/
def R64 (x : Int) : Prop := -9223372036854775808 ≤ x ∧ x ≤ 9223372036854775807
end Al
def RsQ (w : World) (n m : Int) (l : List Al.Ev) (e : Ending) (w' : World) : Prop := ∃ v, e = .returned (.tuple #[v, .int .i64 (Al.regs n m l).2]) ∧ OwG w' w.heap.size 59 v (Al.regs n m l).1 ∧ Below w.heap.size w w'
set_option maxHeartbeats 2000000 in
theorem regions_any (w : World) (a : Option Addr) (ca : Nat) (l : List Al.Ev) (n m : Int) {B : Nat} (ha : EvR B w a l) (hB : B ≤ w.heap.size) (hl : l.length ≤ 900) (hn : n ≤ 9223372036854775807) (hm : m ≤ 9223372036854775807) :
    Calls Tryd.prog 22 #[.int .i64 n, .int .i64 m, .slice a l.length ca] w (RsQ w n m l) := by
  have HRI := hidA (rise_any w a ca l n m ha hB (Nat.le_trans hl (by decide)))
  have HGS : Hid (Al.rise n m (-1, -1) l = true → ∀ wz, Below w.heap.size w wz → Calls Tryd.prog 41 #[.int .i64 n, .int .i64 m, .slice a l.length ca] wz (GsQ wz n m l)) := fun hr wz hz => gaps_any wz a ca l n m (ha.later hz hB) (Nat.le_trans hB hz.size) hl hr hn hm
  obtain ⟨Q, hQ⟩ : ∃ Q, Q = RsQ w n m l := ⟨_, rfl⟩
  have Q1 : Hid ((n < 0 ∨ m < 0) → ∀ w', Below w.heap.size w w' → Q (.returned (.tuple #[.slice none 0 0, .int .i64 1])) w') := fun h w' hb => by
    rw [hQ]
    refine ⟨.slice none 0 0, ?_⟩
    unfold Al.regs
    rw [if_pos h]
    exact ⟨rfl, OwG.nil _ _ _, hb⟩
  have Q2 : Hid (¬ (n < 0 ∨ m < 0) → Al.rise n m (-1, -1) l = false → ∀ w', Below w.heap.size w w' → Q (.returned (.tuple #[.slice none 0 0, .int .i64 90])) w') := fun h hr w' hb => by
    rw [hQ]
    refine ⟨.slice none 0 0, ?_⟩
    unfold Al.regs
    rw [if_neg h, hr]
    exact ⟨rfl, OwG.nil _ _ _, hb⟩
  have Q3 : Hid (¬ (n < 0 ∨ m < 0) → Al.rise n m (-1, -1) l = true → ∀ v w1 w', Below w.heap.size w w1 → OwG w' w1.heap.size 59 v (Al.gaps n m 0 0 l) → Below w1.heap.size w1 w' → Q (.returned (.tuple #[v, .int .i64 0])) w') := fun h hr v w1 w' hb ho h2 => by
    rw [hQ]
    refine ⟨v, ?_⟩
    unfold Al.regs
    rw [if_neg h, if_pos hr]
    exact ⟨rfl, ho.base hb.size, hb.trans (h2.mono hb.size)⟩
  rw [← hQ]
  clear hQ
  generalize l.length = N at *
  clear ha hB hl hn hm
  by_cases c1 : n < 0
  · have d1 : decide (n < 0) = true := decide_eq_true c1
    have F := hidA (Q1.out (.inl c1) w (Below.refl _ _))
    clear Q1 Q2 Q3 HRI HGS
    go_enter Tryd.func22, Tryd.ntmps22
    go_wp2_with fail
    exact F.out
  · have d1 : decide (n < 0) = false := decide_eq_false c1
    by_cases c2 : m < 0
    · have d2 : decide (m < 0) = true := decide_eq_true c2
      have F := hidA (Q1.out (.inr c2) w (Below.refl _ _))
      clear Q1 Q2 Q3 HRI HGS
      go_enter Tryd.func22, Tryd.ntmps22
      go_wp2_with fail
      exact F.out
    · have d2 : decide (m < 0) = false := decide_eq_false c2
      have c3 : ¬ (n < 0 ∨ m < 0) := fun h => h.elim c1 c2
      have Q2' := hidA (Q2.out c3)
      have Q3' := hidA (Q3.out c3)
      clear Q1 Q2 Q3 c1 c2 c3
      obtain ⟨R, hR⟩ : ∃ R, R = Al.rise n m (-1, -1) l := ⟨_, rfl⟩
      rw [← hR] at HRI HGS Q2' Q3'
      clear hR
      cases R
      · have Q2'' := hidA (Q2'.out rfl)
        clear Q2' Q3' HGS
        go_enter Tryd.func22, Tryd.ntmps22
        go_wp2_with fail
        refine HRI.out.mono ?_
        rintro e w1 ⟨rfl, b1⟩
        have F := hidA (Q2''.out w1 b1)
        clear b1
        go_wp2_with fail
        exact F.out
      · have Q3'' := hidA (Q3'.out rfl)
        have HG2 := hidA (HGS.out rfl)
        clear Q2' Q3' HGS
        go_enter Tryd.func22, Tryd.ntmps22
        go_wp2_with fail
        refine HRI.out.mono ?_
        rintro e w1 ⟨rfl, b1⟩
        have B1 := hidA b1
        clear b1
        go_wp2_with fail
        refine (HG2.out w1 B1.out).mono ?_
        rintro e w2 ⟨v, rfl, ho, b2⟩
        have F := hidA (Q3''.out v w1 w2 B1.out ho b2)
        clear ho b2
        go_wp2_with fail
        exact F.out
theorem sizeA (l : List UInt8) : (⟨l.toArray⟩ : ByteArray).size = l.length := by simp [ByteArray.size]
theorem joinA2 (w : World) (b : Nat) (x y : List UInt8) (hb : b < w.heap.size) (c0 : w.cell? ⟨b, 0, none⟩ = some (.string ⟨x.toArray⟩)) (c1 : w.cell? ⟨b, 1, none⟩ = some (.string ⟨y.toArray⟩)) (hx : x.length ≤ 200) (hy : y.length ≤ 200) :
    Calls Tryd.prog 33 #[.slice (some ⟨b, 0, none⟩) 2 2] w fun e w' => e = .returned (.string ⟨(x ++ 32 :: y).toArray⟩) ∧ Below w.heap.size w w' := by
  have := join_any b 0 2 [⟨x.toArray⟩, ⟨y.toArray⟩] w ⟨hb, fun j hj => by
    rcases (by simp at hj; omega : j = 0 ∨ j = 1) with rfl | rfl
    · simpa [List.getD] using c0
    · simpa [List.getD] using c1⟩ (by
      show (([⟨x.toArray⟩, ⟨y.toArray⟩] : List ByteArray).map fun s => s.size + 1).sum ≤ 3000
      simp only [List.map_cons, List.map_nil, List.sum_cons, List.sum_nil, sizeA]
      omega) (by simp) (by simp)
  refine this.mono fun e w' ⟨a, b⟩ => ⟨?_, b⟩
  rw [a]
  congr 4
  simp only [List.map_cons, List.map_nil]
  rw [Pl.join_cons2]
  simp [Lib.join]
theorem joinA3 (w : World) (b : Nat) (x y z : List UInt8) (hb : b < w.heap.size) (c0 : w.cell? ⟨b, 0, none⟩ = some (.string ⟨x.toArray⟩)) (c1 : w.cell? ⟨b, 1, none⟩ = some (.string ⟨y.toArray⟩)) (c2 : w.cell? ⟨b, 2, none⟩ = some (.string ⟨z.toArray⟩)) (hx : x.length ≤ 200) (hy : y.length ≤ 200) (hz : z.length ≤ 200) :
    Calls Tryd.prog 33 #[.slice (some ⟨b, 0, none⟩) 3 3] w fun e w' => e = .returned (.string ⟨(x ++ 32 :: (y ++ 32 :: z)).toArray⟩) ∧ Below w.heap.size w w' := by
  have := join_any b 0 3 [⟨x.toArray⟩, ⟨y.toArray⟩, ⟨z.toArray⟩] w ⟨hb, fun j hj => by
    rcases (by simp at hj; omega : j = 0 ∨ j = 1 ∨ j = 2) with rfl | rfl | rfl
    · simpa [List.getD] using c0
    · simpa [List.getD] using c1
    · simpa [List.getD] using c2⟩ (by
      show (([⟨x.toArray⟩, ⟨y.toArray⟩, ⟨z.toArray⟩] : List ByteArray).map fun s => s.size + 1).sum ≤ 3000
      simp only [List.map_cons, List.map_nil, List.sum_cons, List.sum_nil, sizeA]
      omega) (by simp) (by simp)
  refine this.mono fun e w' ⟨a, b⟩ => ⟨?_, b⟩
  rw [a]
  congr 4
  simp only [List.map_cons, List.map_nil]
  rw [Pl.join_cons2, Pl.join_cons2]
  simp [Lib.join]
theorem itA (n : Int) (h : Al.R64 n) : (Lib.itoa n).length ≤ 200 := Nat.le_trans (Pl.itoa_len n h.1 h.2) (by decide)
theorem str2A (w : World) (a b : Value) (t : TypeId) : w.heap.size < (w.alloc (.cells #[a, b] t)).heap.size ∧ (w.alloc (.cells #[a, b] t)).cell? ⟨w.heap.size, 0, none⟩ = some a ∧ (w.alloc (.cells #[a, b] t)).cell? ⟨w.heap.size, 1, none⟩ = some b := ⟨by simp, by simp, by simp⟩
def TxQ (w : World) (x : Al.Ev) (e : Ending) (w' : World) : Prop := e = .returned (.string ⟨(Al.tx x).toArray⟩) ∧ Below w.heap.size w w'
/-- One word and a number. -/
theorem two_word (W : World) (x : List UInt8) (n : Int) (hx : x.length ≤ 200) (hn : Al.R64 n) (B : Nat) (w0 : World) (hB : B ≤ W.heap.size) (h0 : Below B w0 W) :
    Calls Tryd.prog 33 #[.slice (some ⟨W.heap.size, 0, none⟩) 2 2] (W.alloc (.cells #[.string ⟨x.toArray⟩, .string ⟨(Lib.itoa n).toArray⟩] 9)) fun e w' => e = .returned (.string ⟨(x ++ 32 :: Lib.itoa n).toArray⟩) ∧ Below B w0 w' := by
  obtain ⟨s0, s1, s2⟩ := str2A W (.string ⟨x.toArray⟩) (.string ⟨(Lib.itoa n).toArray⟩) 9
  refine (joinA2 _ W.heap.size x (Lib.itoa n) s0 s1 s2 hx (itA n hn)).mono fun e w' ⟨a, b⟩ => ⟨a, ?_⟩
  exact h0.trans (((Below.refl B W).alloc hB _).trans (b.mono (by simp; omega)))
theorem three_word (W V : World) (x : List UInt8) (k n : Int) (hx : x.length ≤ 200) (hk : Al.R64 k) (hn : Al.R64 n) (B : Nat) (w0 : World) (hB : B ≤ W.heap.size) (h0 : Below B w0 W)
    (e1 : V.heap = (W.alloc (.cells #[.string ⟨x.toArray⟩, .string ⟨(Lib.itoa k).toArray⟩, .string ⟨(Lib.itoa n).toArray⟩] 9)).heap) (e2 : V.os = W.os) (e3 : V.tape = W.tape) (e4 : V.output = W.output) :
    Calls Tryd.prog 33 #[.slice (some ⟨W.heap.size, 0, none⟩) 3 3] V fun e w' => e = .returned (.string ⟨(x ++ 32 :: (Lib.itoa k ++ 32 :: Lib.itoa n)).toArray⟩) ∧ Below B w0 w' := by
  have hs : V.heap.size = W.heap.size + 1 := by rw [e1]; simp
  have hc : ∀ j, V.cell? ⟨W.heap.size, j, none⟩ = (W.alloc (.cells #[.string ⟨x.toArray⟩, .string ⟨(Lib.itoa k).toArray⟩, .string ⟨(Lib.itoa n).toArray⟩] 9)).cell? ⟨W.heap.size, j, none⟩ := fun j => by simp only [World.cell?, e1]
  have hb : Below B w0 V := h0.trans ⟨e2, e3, e4, by omega, fun i hi => by rw [e1]; exact ((Below.refl B W).alloc hB _).block i hi⟩
  refine (joinA3 V W.heap.size x (Lib.itoa k) (Lib.itoa n) (by omega) (by rw [hc]; simp) (by rw [hc]; simp) (by rw [hc]; simp) hx (itA k hk) (itA n hn)).mono fun e w' ⟨a, b⟩ => ⟨a, ?_⟩
  exact hb.trans (b.mono (by omega))
set_option maxHeartbeats 8000000 in
theorem tex_any (w : World) (x : Al.Ev) (ht : Tab w) (h1 : Al.R64 x.1) (h2 : Al.R64 x.2) : Calls Tryd.prog 12 #[.agg #[.int .i64 x.1, .int .i64 x.2]] w (TxQ w x) := by
  obtain ⟨Q, hQ⟩ : ∃ Q, Q = TxQ w x := ⟨_, rfl⟩
  have HQ : Hid (∀ t w', Al.tx x = t → Below w.heap.size w w' → Q (.returned (.string ⟨t.toArray⟩)) w') := fun t w' h b => by rw [hQ]; exact ⟨by rw [h], b⟩
  rw [← hQ]
  clear hQ
  have HX : Hid (Al.tx x = if x.1 = 1 then Al.wPrint ++ 32 :: Lib.itoa x.2 else if x.1 = 2 then Al.wRead ++ 32 :: Lib.itoa x.2 else if x.1 = 3 then Al.wEnd else if x.1 = 4 then Al.wTrap ++ 32 :: Lib.itoa x.2 else if x.1 = 5 then Al.wFuel
    else Al.wEvent ++ 32 :: (Lib.itoa x.1 ++ 32 :: Lib.itoa x.2)) := rfl
  obtain ⟨T, hT⟩ : ∃ T, T = Al.tx x := ⟨_, rfl⟩
  rw [← hT] at HX HQ
  clear hT
  generalize x.1 = k at *
  generalize x.2 = n at *
  obtain ⟨W0, hW0⟩ : ∃ W0, W0 = w.alloc (.cells #[.int .i64 k, .int .i64 n] 24) := ⟨_, rfl⟩
  obtain ⟨p, hp⟩ : ∃ p, p = w.heap.size := ⟨_, rfl⟩
  have B0 : Hid (Below w.heap.size w W0 ∧ p = w.heap.size ∧ W0.heap.size = p + 1) := ⟨by rw [hW0]; exact (Below.refl _ _).alloc (Nat.le_refl _) _, hp, by rw [hW0, hp]; simp⟩
  have C0 : W0.cell? ⟨p, 0, none⟩ = some (.int .i64 k) ∧ W0.cell? ⟨p, 1, none⟩ = some (.int .i64 n) := by rw [hW0, hp]; exact box2A _ _ _ _
  obtain ⟨c0, c1⟩ := C0
  have T0 : Hid (Tab W0) := ht.later B0.out.1 (Nat.le_refl _)
  have N1 := hidA h1
  have N2 := hidA h2
  have TX : Hid (∀ wz y, Below W0.heap.size W0 wz → Al.R64 y → Calls Tryd.prog 34 #[.int .i64 y] wz fun e w' => e = .returned (.string ⟨(Lib.itoa y).toArray⟩) ∧ Below W0.heap.size W0 w') := fun wz y hz hy =>
    (text_any y wz (T0.out.later hz (Nat.le_refl _)) hy.1 hy.2).mono fun e w' h => ⟨h.1, hz.trans (h.2.mono hz.size)⟩
  have TW : Hid (∀ (W : World) (u : List UInt8), Below W0.heap.size W0 W → u.length ≤ 200 → Calls Tryd.prog 33 #[.slice (some ⟨W.heap.size, 0, none⟩) 2 2] (W.alloc (.cells #[.string ⟨u.toArray⟩, .string ⟨(Lib.itoa n).toArray⟩] 9)) fun e w' => e = .returned (.string ⟨(u ++ 32 :: Lib.itoa n).toArray⟩) ∧ Below w.heap.size w w') := fun W u hw hu =>
    two_word W u n hu N2.out w.heap.size w (Nat.le_trans B0.out.1.size hw.size) (B0.out.1.trans (hw.mono B0.out.1.size))
  clear ht h1 h2
  go_enter Tryd.func12, Tryd.ntmps12
  go_upto_region 1 with fail
  rw [← hW0, ← hp]
  clear hW0 hp
  have HT := HX.out
  clear HX
  by_cases k1 : k = 1
  · rw [if_pos k1] at HT
    have HTT := hidA HT
    subst k1
    clear HT
    go_wp2_with fail
    refine (TX.out W0 n (Below.refl _ _) N2.out).mono ?_
    rintro e w1 ⟨rfl, b1⟩
    have B1 := hidA b1
    clear b1
    go_wp2_with fail
    refine (TW.out w1 Al.wPrint B1.out (by decide)).mono ?_
    rintro e w2 ⟨rfl, b2⟩
    have F := hidA (HQ.out _ w2 HTT.out b2)
    clear b2
    go_wp2_with fail
    exact F.out
  · have e1 : (k == 1) = false := by simp; omega
    rw [if_neg k1] at HT
    clear k1
    by_cases k2 : k = 2
    · rw [if_pos k2] at HT
      have HTT := hidA HT
      subst k2
      clear HT
      go_wp2_with fail
      refine (TX.out W0 n (Below.refl _ _) N2.out).mono ?_
      rintro e w1 ⟨rfl, b1⟩
      have B1 := hidA b1
      clear b1
      go_wp2_with fail
      refine (TW.out w1 Al.wRead B1.out (by decide)).mono ?_
      rintro e w2 ⟨rfl, b2⟩
      have F := hidA (HQ.out _ w2 HTT.out b2)
      clear b2
      go_wp2_with fail
      exact F.out
    · have e2 : (k == 2) = false := by simp; omega
      rw [if_neg k2] at HT
      clear k2
      by_cases k3 : k = 3
      · rw [if_pos k3] at HT
        have HTT := hidA HT
        subst k3
        clear HT
        have F := hidA (HQ.out _ W0 HTT.out B0.out.1)
        go_wp2_with fail
        exact F.out
      · have e3 : (k == 3) = false := by simp; omega
        rw [if_neg k3] at HT
        clear k3
        by_cases k4 : k = 4
        · rw [if_pos k4] at HT
          have HTT := hidA HT
          subst k4
          clear HT
          go_wp2_with fail
          refine (TX.out W0 n (Below.refl _ _) N2.out).mono ?_
          rintro e w1 ⟨rfl, b1⟩
          have B1 := hidA b1
          clear b1
          go_wp2_with fail
          refine (TW.out w1 Al.wTrap B1.out (by decide)).mono ?_
          rintro e w2 ⟨rfl, b2⟩
          have F := hidA (HQ.out _ w2 HTT.out b2)
          clear b2
          go_wp2_with fail
          exact F.out
        · have e4 : (k == 4) = false := by simp; omega
          rw [if_neg k4] at HT
          clear k4
          by_cases k5 : k = 5
          · rw [if_pos k5] at HT
            have HTT := hidA HT
            subst k5
            clear HT
            have F := hidA (HQ.out _ W0 HTT.out B0.out.1)
            go_wp2_with fail
            exact F.out
          · have e5 : (k == 5) = false := by simp; omega
            rw [if_neg k5] at HT
            clear k5
            have HTT := hidA HT
            clear HT
            have TJ : Hid (∀ (W V : World), Below W0.heap.size W0 W → V.heap = (W.alloc (.cells #[.string ⟨Al.wEvent.toArray⟩, .string ⟨(Lib.itoa k).toArray⟩, .string ⟨(Lib.itoa n).toArray⟩] 9)).heap → V.os = W.os → V.tape = W.tape → V.output = W.output → Calls Tryd.prog 33 #[.slice (some ⟨W.heap.size, 0, none⟩) 3 3] V fun e w' => e = .returned (.string ⟨(Al.wEvent ++ 32 :: (Lib.itoa k ++ 32 :: Lib.itoa n)).toArray⟩) ∧ Below w.heap.size w w') := fun W V hw e1 e2 e3 e4 =>
              three_word W V Al.wEvent k n (by decide) N1.out N2.out w.heap.size w (Nat.le_trans B0.out.1.size hw.size) (B0.out.1.trans (hw.mono B0.out.1.size)) e1 e2 e3 e4
            have hpW : p < W0.heap.size := by have := B0.out.2.2; omega
            go_upto_region 12 with fail
            go_region_with (first
              | (go_at_call 33; refine Calls.mono (TJ.out w2 _ B2.out (by rfl) (by rfl) (by rfl) (by rfl)) ?_; rintro e3 w3 ⟨rfl, b3⟩; have F := hidA (HQ.out _ w3 HTT.out b3); clear b3)
              | (go_at_call 34; have qq := B1.out; refine Calls.mono (TX.out _ _ (qq.trans (by go_grown)) (by first | exact N1.out | exact N2.out)) ?_; rintro e2 w2 ⟨rfl, b2⟩; have B2 := hidA b2; have x0 := (B2.out.cell (p := ⟨p, 0, none⟩) hpW).trans c0; have x1 := (B2.out.cell (p := ⟨p, 1, none⟩) hpW).trans c1; clear b2 qq)
              | (go_at_call 34; refine Calls.mono (TX.out _ _ (by go_grown) (by first | exact N1.out | exact N2.out)) ?_; rintro e1 w1 ⟨rfl, b1⟩; have B1 := hidA b1; have y0 := (B1.out.cell (p := ⟨p, 0, none⟩) hpW).trans c0; have y1 := (B1.out.cell (p := ⟨p, 1, none⟩) hpW).trans c1; clear b1))
            all_goals
              go_wp2_with fail
              go_ret
              exact F.out
end Go.Proofs.YthglhcabdadlpaaDoor
