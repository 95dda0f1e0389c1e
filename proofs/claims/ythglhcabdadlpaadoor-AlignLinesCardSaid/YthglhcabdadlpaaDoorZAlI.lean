/- Layer 15: the least one of the greatest matchings: matched. -/
import Derived.Test.YthglhcabdadlpaaDoorZAlPm
namespace Go.Proofs.YthglhcabdadlpaaDoor
open Go.RowKit
set_option linter.unusedVariables false
set_option linter.unusedSimpArgs false
set_option maxRecDepth 100000
namespace Al
theorem mt_nilr (i j : Nat) : ∀ a : List Ev, mt i j a [] = []
  | [] => rfl
  | x :: a => by simp [mt, lcs_nilr]
theorem mt_stop {l m : List Ev} {i j : Nat} (h : lcs (l.drop i) (m.drop j) = 0) : mt i j (l.drop i) (m.drop j) = [] := by
  cases e : l.drop i with
  | nil => rfl
  | cons x t => rw [e] at h; simp [mt, h]
theorem mt_none {l m : List Ev} {i j : Nat} {x : Ev} (hx : l[i]? = some x) (h : lcs (l.drop i) (m.drop j) ≠ 0) (hk : ix x (m.drop j) = -1) : mt i j (l.drop i) (m.drop j) = mt (i + 1) j (l.drop (i + 1)) (m.drop j) := by
  obtain ⟨h1, h2⟩ := List.getElem?_eq_some_iff.1 hx
  rw [List.drop_eq_getElem_cons h1, h2] at h ⊢
  have : idx x (m.drop j) = none := by
    unfold ix at hk
    cases e : idx x (m.drop j) with
    | none => rfl
    | some k => rw [e] at hk; simp only at hk; omega
  simp only [mt, this]
  rw [if_neg h]
theorem mt_some {l m : List Ev} {i j k : Nat} {x : Ev} (hx : l[i]? = some x) (h : lcs (l.drop i) (m.drop j) ≠ 0) (hk : ix x (m.drop j) = k) : mt i j (l.drop i) (m.drop j) = if lcs (l.drop (i + 1)) (m.drop (j + k + 1)) + 1 = lcs (l.drop i) (m.drop j) then (i, j + k) :: mt (i + 1) (j + k + 1) (l.drop (i + 1)) (m.drop (j + k + 1)) else mt (i + 1) j (l.drop (i + 1)) (m.drop j) := by
  obtain ⟨h1, h2⟩ := List.getElem?_eq_some_iff.1 hx
  rw [List.drop_eq_getElem_cons h1, h2] at h ⊢
  have : idx x (m.drop j) = some k := by
    unfold ix at hk
    cases e : idx x (m.drop j) with
    | none => rw [e] at hk; simp only at hk; omega
    | some k' => rw [e] at hk; simp only at hk; rw [show k' = k from by omega]
  simp only [mt, this]
  rw [if_neg h, List.drop_drop]
  rfl
theorem ix_bd (x : Ev) (b : List Ev) : ix x b = -1 ∨ ∃ k : Nat, ix x b = k ∧ k < b.length := by
  unfold ix
  cases e : idx x b with
  | none => exact .inl rfl
  | some k => exact .inr ⟨k, rfl, (idx_lt e).1⟩
end Al
theorem EvR.drop {B : Nat} {w : World} {g o : Nat} {l : List Al.Ev} (h : EvR B w (some ⟨g, o, none⟩) l) (j : Nat) : EvR B w (some ⟨g, o + j * 2, none⟩) (l.drop j) := fun h0 => by
  obtain ⟨g', o', e, hg, hc⟩ := h (by rw [List.length_drop] at h0; omega)
  obtain ⟨rfl, rfl⟩ : g = g' ∧ o = o' := by cases e; exact ⟨rfl, rfl⟩
  refine ⟨g, o + j * 2, rfl, hg, fun i e he => ?_⟩
  have := hc (j + i) e (by rw [List.getElem?_drop] at he; exact he)
  rw [show o + j * 2 + i * 2 = o + (j + i) * 2 from by omega]
  exact this
theorem OwP.base {w : World} {b b' : Nat} {ty : TypeId} {v : Value} {l : List Al.Ev} (h : OwP w b ty v l) (hb : b' ≤ b) : OwP w b' ty v l := by
  have h0 : w.ownsRow b ty 2 v l.length (prC l) := h
  refine ⟨h0.1, ?_⟩
  rcases h0.2 with h | ⟨g, cap, cur, e, hg, r⟩
  · exact .inl h
  · exact .inr ⟨g, cap, cur, e, Nat.le_trans hb hg, r⟩
theorem ev_empty {B : Nat} {w : World} {a : Option Addr} {l : List Al.Ev} (h : l.length = 0) : EvR B w a l := fun h0 => by omega
/-- The numbers of a round. -/
theorem mtd_nums {n m d N i j : Nat} {gk : Nat} (hn : n ≤ 100) (hm : m ≤ 100) (hk : i + (gk + 1) = n) (hj : j ≤ m) (hd : d = m + 1) (hN : N = (n + 1) * d) : i < n ∧ (i : Int) < (n : Int) ∧ decide ((i : Int) < (n : Int)) = true ∧ decide (i < n) = true ∧ j < d ∧ (j : Int) < (d : Int) ∧ decide (j < d) = true ∧ (i + 1) * d ≤ N ∧ (i + 1 + 1) * d ≤ N ∧ N ≤ 1000000 ∧ 0 < d ∧ wrap64 ((i : Int) + 1) = ((i + 1 : Nat) : Int) := by
  have h1 : N ≤ 1000000 := by
    rw [hN, hd]
    have : (n + 1) * (m + 1) ≤ 101 * 101 := Nat.mul_le_mul (by omega) (by omega)
    omega
  refine ⟨by omega, by omega, decide_eq_true (by omega), decide_eq_true (by omega), by omega, by omega, decide_eq_true (by omega), ?_, ?_, h1, by omega, by unfold wrap64; omega⟩
  · rw [hN]; exact Nat.mul_le_mul_right _ (by omega)
  · rw [hN]; exact Nat.mul_le_mul_right _ (by omega)
theorem box2A (w : World) (a b : Value) (t : TypeId) : (w.alloc (.cells #[a, b] t)).cell? ⟨w.heap.size, 0, none⟩ = some a ∧ (w.alloc (.cells #[a, b] t)).cell? ⟨w.heap.size, 1, none⟩ = some b := ⟨by simp, by simp⟩
theorem mtd_nums2 {M d j k : Nat} (hM : M ≤ 100) (hd : d = M + 1) (hj : j ≤ M) (hk : k < M - j) : ∃ K1 JK J1 : Nat, Hid (K1 = k + 1) ∧ Hid (JK = j + k) ∧ Hid (J1 = j + k + 1) ∧ wrap64 ((k : Int) + 1) = (K1 : Int) ∧ wrap64 ((j : Int) + (K1 : Int)) = (J1 : Int) ∧ wrap64 ((j : Int) + (k : Int)) = (JK : Int) ∧ wrap64 ((JK : Int) + 1) = (J1 : Int) ∧ J1 < d ∧ (J1 : Int) < (d : Int) ∧ decide (J1 < d) = true ∧ J1 ≤ M ∧ decide ((0 : Int) ≤ (k : Int)) = true :=
  ⟨k + 1, j + k, j + k + 1, rfl, rfl, rfl, by unfold wrap64; omega, by unfold wrap64; omega, by unfold wrap64; omega, by unfold wrap64; omega, by omega, by omega, decide_eq_true (by omega), by omega, decide_eq_true (by omega)⟩
theorem mtd_i1 {n i gk : Nat} (hn : n ≤ 100) (hk : i + (gk + 1) = n) : ∃ I1 : Nat, Hid (I1 = i + 1) ∧ wrap64 ((i : Int) + 1) = (I1 : Int) ∧ I1 + gk = n ∧ (∀ y : Nat, y = I1 → wrap64 ((i : Int) + 1) = (y : Int)) := ⟨i + 1, rfl, by unfold wrap64; omega, by omega, fun y h => by subst h; unfold wrap64; omega⟩
theorem wr32 (v : Nat) (h : v ≠ 0) (h2 : v ≤ 100) : IntKind.i32.wrap ((v : Int) - 1) = ((v - 1 : Nat) : Int) := by
  have h1 : ((v : Int) - 1) % 4294967296 = (v : Int) - 1 := by omega
  have h3 : ¬ ((v : Int) - 1 ≥ 2147483648) := by omega
  simp [IntKind.wrap, IntKind.signed, IntKind.bits, h1, h3]
  omega
theorem lcs_bdd {l m : List Al.Ev} {i j : Nat} (hl : l.length ≤ 100) : Al.lcs (l.drop i) (m.drop j) ≤ 100 := by
  have := (Al.lcs_bd (l.drop i) (m.drop j)).1
  simp at this
  omega
theorem mt_fall {l m T acc : List Al.Ev} {i j k V V1 V2 I1 J1 JK : Nat} {x : Al.Ev} (hx : l[i]? = some x) (hn : Al.lcs (l.drop i) (m.drop j) ≠ 0) (hk : Al.ix x (m.drop j) = k) (hV : V = Al.lcs (l.drop i) (m.drop j)) (hI : I1 = i + 1) (hJ : J1 = j + k + 1) (hK : JK = j + k) (h1 : V1 = V - 1) (h2 : V2 = Al.lcs (l.drop I1) (m.drop J1)) (e : acc ++ Al.prs (Al.mt i j (l.drop i) (m.drop j)) = T) :
    acc ++ Al.prs (if V2 = V1 then (i, JK) :: Al.mt I1 J1 (l.drop I1) (m.drop J1) else Al.mt I1 j (l.drop I1) (m.drop j)) = T := by
  subst hI hJ hK h1
  rw [Al.mt_some hx hn hk, ← hV, ← h2] at e
  rw [← hV] at hn
  rw [← e]
  by_cases c : V2 = V - 1
  · rw [if_pos c, if_pos (by omega)]
  · rw [if_neg c, if_neg (by omega)]
theorem nbeqA {a b : Nat} (h : a ≠ b) : ((a : Int) == (b : Int)) = false := by simp; omega
theorem own63 {k n : Nat} (h : k ≤ n) (hn : n ≤ 1000) : k + 1 ≤ maxLen ∧ ((k + 1) + (k + 1) / 4 + 192) * 16 ≤ 281474976710656 := by unfold maxLen; omega
theorem app_one {acc T : List Al.Ev} {a b : Nat} {l : List (Nat × Nat)} (h : acc ++ Al.prs ((a, b) :: l) = T) : (acc ++ [((a : Int), (b : Int))]) ++ Al.prs l = T := by rw [← h, List.append_assoc]; rfl
/-- What the loop knows. -/
structure MtR (W : World) (S : Nat) (l m : List Al.Ev) (i j : Nat) (v : Value) (acc : List Al.Ev) (wr : World) : Prop where
  row : OwP wr S 64 v acc
  k : Below S W wr
  all : acc ++ Al.prs (Al.mt i j (l.drop i) (m.drop j)) = Al.prs (Al.mt 0 0 l m)
  len : acc.length ≤ i
set_option maxHeartbeats 8000000 in
theorem mtd_any (w : World) (a b : Option Addr) (ca cb : Nat) (l m : List Al.Ev) {B : Nat} (ha : EvR B w a l) (hb : EvR B w b m) (hB : B ≤ w.heap.size) (hl : l.length ≤ 100) (hm : m.length ≤ 100) (hcb : m.length ≤ cb) (h1 : l ≠ []) (h2 : m ≠ []) :
    Calls Tryd.prog 37 #[.slice a l.length ca, .slice b m.length cb] w fun e w' => ∃ v, e = .returned v ∧ OwP w' w.heap.size 64 v (Al.prs (Al.mt 0 0 l m)) ∧ Below w.heap.size w w' := by
  have HSZ := hidA (szOf w a b ca cb l m ha hb hB hl hm)
  have HA := hidA ha
  have HB := hidA hb
  have HBB := hidA hB
  have hl0 : 0 < l.length := by cases l with | nil => exact absurd rfl h1 | cons => simp
  have hm0 : 0 < m.length := by cases m with | nil => exact absurd rfl h2 | cons => simp
  obtain ⟨n, hn⟩ : ∃ n, n = l.length := ⟨_, rfl⟩
  have HN := hidA hn
  obtain ⟨M, hM⟩ : ∃ M, M = m.length := ⟨_, rfl⟩
  have HM := hidA hM
  obtain ⟨d, hd⟩ : ∃ d, d = m.length + 1 := ⟨_, rfl⟩
  have HD : Hid (d = M + 1) := by unfold Hid; rw [hd, hM]
  obtain ⟨N, hN⟩ : ∃ N, N = (l.length + 1) * (m.length + 1) := ⟨_, rfl⟩
  have HNN : Hid (N = (n + 1) * d) := by unfold Hid; rw [hN, hn, hd]
  have HSQ : Hid (∀ e w1, SzQ w l m e w1 → ∃ g, e = .returned (.agg #[.int .i64 (d : Int), .slice (some ⟨g, 0, none⟩) N N]) ∧ w.heap.size ≤ g ∧ TB w1 g d n (fun i j => Al.lcs (l.drop i) (m.drop j)) ∧ Below w.heap.size w w1) := fun e w1 h => by
    rw [hd, hN, hn]
    exact h
  have t1 : ((n : Int) == 0) = false := by simp; omega
  have t2 : ((M : Int) == 0) = false := by simp; omega
  rw [← hn] at hl HSZ ⊢
  rw [← hM] at hm hcb HSZ ⊢
  have HL := hidA hl
  have HMM := hidA hm
  have HCB := hidA hcb
  have HPOS : Hid (0 < n ∧ 0 < M) := by rw [hn, hM]; exact ⟨hl0, hm0⟩
  clear hn hM hd hN ha hb hB hl hm h1 h2 hl0 hm0 hcb
  go_enter Tryd.func37, Tryd.ntmps37
  go_wp2_with fail
  refine HSZ.out.mono ?_
  intro e w1 hq
  obtain ⟨g, rfl, hg, htb, bel⟩ := HSQ.out e w1 hq
  have HG := hidA hg
  have HT := hidA htb
  have HBL := hidA bel
  clear HSQ hq HSZ hg htb bel
  obtain ⟨W2, hW2⟩ : ∃ W2, W2 = w1.alloc (.cells #[.int .i64 (d : Int), .slice (some ⟨g, 0, none⟩) N N] 86) := ⟨_, rfl⟩
  obtain ⟨p, hp⟩ : ∃ p, p = w1.heap.size := ⟨_, rfl⟩
  obtain ⟨S, hS⟩ : ∃ S, S = W2.heap.size := ⟨_, rfl⟩
  have hSp : S = p + 1 := by rw [hS, hW2, hp]; simp
  have W2B : Hid (Below w.heap.size w W2 ∧ Below p w1 W2) := by
    have : Below p w1 W2 := by rw [hW2, hp]; exact (Below.refl _ _).alloc (Nat.le_refl _) _
    exact ⟨HBL.out.trans (this.mono (by rw [hp]; exact HBL.out.size)), this⟩
  have W2T : Hid (TB W2 g d n (fun i j => Al.lcs (l.drop i) (m.drop j))) := HT.out.later W2B.out.2 (by rw [hp]; exact HT.out.1)
  have W2C : Hid (W2.cell? ⟨p, 0, none⟩ = some (.int .i64 (d : Int)) ∧ W2.cell? ⟨p, 1, none⟩ = some (.slice (some ⟨g, 0, none⟩) N N)) := by
    rw [hW2, hp]
    exact box2A _ _ _ _
  have HGS : Hid (g < S ∧ p < S ∧ w.heap.size ≤ S ∧ S = W2.heap.size) := ⟨by have := W2T.out.1; omega, by omega, by have := W2B.out.1.size; omega, hS⟩
  go_upto_region 4 with fail
  rw [← hp, ← hW2]
  clear hW2 hp hS hSp HT HBL
  obtain ⟨i0, hi, zi0, zi1, zi2⟩ := infoPair
  go_wp2_with fail
  go_loopg [6, 7, 25] n (fun gk y6 y7 y25 wr => ∃ (i j : Nat) (acc : List Al.Ev), i + gk = n ∧ y25 = .int .i64 i ∧ y7 = .int .i64 j ∧ j ≤ M ∧ Hid (MtR W2 S l m i j y6 acc wr))
  case atStart => exact ⟨0, 0, [], by omega, rfl, rfl, Nat.zero_le _, ⟨OwP.nil _ _ _, Below.refl _ _, by simp, Nat.le_refl _⟩⟩
  case round =>
    obtain ⟨i, j, acc, hk, rfl, rfl, hj, RR⟩ := hrel
    rcases gk with _ | gk
    · obtain rfl : i = n := by omega
      have dk : decide ((i : Int) < (i : Int)) = false := decide_eq_false (by omega)
      have FIN : Hid (OwP wr w.heap.size 64 u6 (Al.prs (Al.mt 0 0 l m)) ∧ Below w.heap.size w wr) := by
        have e := RR.out.all
        rw [List.drop_eq_nil_of_le (by rw [← HN.out]; exact Nat.le_refl _)] at e
        have e2 : acc = Al.prs (Al.mt 0 0 l m) := by rw [← e]; simp [Al.mt, Al.prs]
        rw [← e2]
        exact ⟨RR.out.row.base HGS.out.2.2.1, W2B.out.1.trans (RR.out.k.mono HGS.out.2.2.1)⟩
      go_wp2_with fail
      go_ret
      exact ⟨_, rfl, FIN.out⟩
    · obtain ⟨hin, hin2, dk, dk2, hjd, hjd2, djd, hr1, hr2, hN6, hd0, ei⟩ := mtd_nums HL.out HMM.out hk hj HD.out HNN.out
      obtain ⟨x, hx⟩ : ∃ x, l[i]? = some x := ⟨_, List.getElem?_eq_getElem (by rw [← HN.out]; exact hin)⟩
      have HX := hidA hx
      have BW : Hid (Below w.heap.size w wr) := W2B.out.1.trans (RR.out.k.mono HGS.out.2.2.1)
      obtain ⟨ga, oa, rfl, hga, cs⟩ := (HA.out.later BW.out HBB.out) (by rw [← HN.out]; exact HPOS.out.1)
      have a0 := (cs i x hx).1
      have a1 := (cs i x hx).2
      obtain ⟨V, hV⟩ : ∃ V, V = Al.lcs (l.drop i) (m.drop j) := ⟨_, rfl⟩
      have HV := hidA hV
      have hV1 : V ≤ 100 := by rw [hV]; exact lcs_bdd (by rw [← HN.out]; exact HL.out)
      obtain ⟨W3, hW3⟩ : ∃ W3, W3 = wr.alloc (.cells #[.int .i64 x.1, .int .i64 x.2] 24) := ⟨_, rfl⟩
      obtain ⟨q, hq⟩ : ∃ q, q = wr.heap.size := ⟨_, rfl⟩
      have W3B : Hid (Below wr.heap.size wr W3 ∧ q < W3.heap.size ∧ q = wr.heap.size) := by
        refine ⟨by rw [hW3]; exact (Below.refl _ _).alloc (Nat.le_refl _) _, by rw [hW3, hq]; simp, hq⟩
      have W3C : Hid (W3.cell? ⟨q, 0, none⟩ = some (.int .i64 x.1) ∧ W3.cell? ⟨q, 1, none⟩ = some (.int .i64 x.2)) := by rw [hW3, hq]; exact box2A _ _ _ _
      have BS3 : Hid (Below S W2 W3) := RR.out.k.trans (W3B.out.1.mono (by have := RR.out.k.size; have := HGS.out; omega))
      have c0 := (BS3.out.cell (p := ⟨p, 0, none⟩) HGS.out.2.1).trans W2C.out.1
      have c1 := (BS3.out.cell (p := ⟨p, 1, none⟩) HGS.out.2.1).trans W2C.out.2
      have RC : Hid (∀ (wz : World) (y : Int), (y = i ∨ y = (i : Int) + 1) → Calls Tryd.prog 50 #[.agg #[.int .i64 (d : Int), .slice (some ⟨g, 0, none⟩) N N], .int .i64 y] wz fun e w' => e = .returned (.slice (some ⟨g, y.toNat * d, none⟩) d d) ∧ Below wz.heap.size wz w') := fun wz y hy => by
        rcases hy with rfl | rfl
        · exact szRow wz g d N i hd0 hN6 hr1 _ rfl
        · exact szRow wz g d N (i + 1) hd0 hN6 hr2 _ (by simp)
      obtain ⟨R1, hR1⟩ : ∃ R1, R1 = i * d := ⟨_, rfl⟩
      have HR1 := hidA hR1
      have RC1 : Hid (∀ wz : World, Calls Tryd.prog 50 #[.agg #[.int .i64 (d : Int), .slice (some ⟨g, 0, none⟩) N N], .int .i64 (i : Int)] wz fun e w' => e = .returned (.slice (some ⟨g, R1, none⟩) d d) ∧ Below wz.heap.size wz w') := fun wz => by rw [hR1]; exact RC.out wz (i : Int) (.inl rfl)
      have TT : Hid (∀ wz, Below S W2 wz → wz.cell? ⟨g, R1 + j, none⟩ = some (.int .i32 (V : Int))) := fun wz hz => by
        rw [hR1, hV]
        exact ((W2T.out.later hz HGS.out.1).2 i j (Nat.le_of_lt hin) hjd).1
      have HX1 : Hid (∀ (wz : World) (ad : Option Addr) (cc : Nat), Below wr.heap.size wr wz → EvR B wz ad (m.drop j) → Calls Tryd.prog 51 #[.slice ad (M - j) cc, .agg #[.int .i64 x.1, .int .i64 x.2]] wz fun e w' => e = .returned (.int .i64 (Al.ix x (m.drop j))) ∧ Below wz.heap.size wz w') := fun wz ad cc hz he => by
        have := index_ev wz ad cc (m.drop j) x (B := B) he (Nat.le_trans HBB.out (Nat.le_trans BW.out.size hz.size)) (by have := HMM.out; have := HM.out; simp; omega)
        rw [List.length_drop, ← HM.out] at this
        exact this
      obtain ⟨x1, hx1⟩ : ∃ x1, x1 = x.1 := ⟨_, rfl⟩
      obtain ⟨x2, hx2⟩ : ∃ x2, x2 = x.2 := ⟨_, rfl⟩
      rw [← hx1] at a0 W3C hW3 HX1
      rw [← hx2] at a1 W3C hW3 HX1
      clear hx1 hx2 hx cs RC hR1 hV hr1 hd0 hN6
      go_upto_region 9 with fail
      rw [← hW3, ← hq]
      clear hW3 hq a0 a1
      go_wp2_with fail
      refine (RC1.out W3).mono ?_
      rintro e w4 ⟨rfl, b4⟩
      have BS4 : Hid (Below S W2 w4) := BS3.out.trans (b4.mono (by have := BS3.out.size; have := HGS.out; omega))
      have W4B : Hid (Below wr.heap.size wr w4) := W3B.out.1.trans (b4.mono W3B.out.1.size)
      have d0 := (b4.cell (p := ⟨q, 0, none⟩) W3B.out.2.1).trans W3C.out.1
      have d1 := (b4.cell (p := ⟨q, 1, none⟩) W3B.out.2.1).trans W3C.out.2
      have d2 := (BS4.out.cell (p := ⟨p, 0, none⟩) HGS.out.2.1).trans W2C.out.1
      have d3 := (BS4.out.cell (p := ⟨p, 1, none⟩) HGS.out.2.1).trans W2C.out.2
      have t4 := TT.out w4 BS4.out
      clear b4 c0 c1 W3C BS3
      by_cases hV0 : V = 0
      · subst hV0
        have FIN : Hid (OwP w4 w.heap.size 64 u6 (Al.prs (Al.mt 0 0 l m)) ∧ Below w.heap.size w w4) := by
          have e := RR.out.all
          rw [Al.mt_stop HV.out.symm] at e
          have e2 : acc = Al.prs (Al.mt 0 0 l m) := by rw [← e]; simp [Al.prs]
          rw [← e2]
          exact ⟨(RR.out.row.later W4B.out).base HGS.out.2.2.1, BW.out.trans (W4B.out.mono BW.out.size)⟩
        go_wp2_with fail
        go_ret
        exact ⟨_, rfl, FIN.out⟩
      · have qv : ((V : Int) == 0) = false := by simp; omega
        obtain ⟨gb, ob, rfl, -, -⟩ := HB.out (by rw [← HM.out]; exact HPOS.out.2)
        have EB4 : Hid (∀ wz, Below wr.heap.size wr wz → EvR B wz (some ⟨gb, ob, none⟩) m) := fun wz hz => (HB.out.later BW.out HBB.out).later hz (Nat.le_trans HBB.out BW.out.size)
        have hjM : (j : Int) ≤ (M : Int) := by omega
        have hj0 : (0 : Int) ≤ (j : Int) := by omega
        have hjc : j ≤ cb := by have := HCB.out; omega
        go_upto_region 11 with fail
        clear t4
        go_cut [11] from 38 to 43 (fun s11 wx => s11 = .int .i64 (Al.ix x (m.drop j)) ∧ Hid (Below w4.heap.size w4 wx))
        case first =>
          have FIN : Hid (∀ (wz : World) (ad : Option Addr) (cc : Nat), Below w4.heap.size w4 wz → EvR B wz ad (m.drop j) → Calls Tryd.prog 51 #[.slice ad (M - j) cc, .agg #[.int .i64 x1, .int .i64 x2]] wz fun e w' => e = .returned (.int .i64 (Al.ix x (m.drop j))) ∧ Below w4.heap.size w4 w') := fun wz ad cc hz he =>
            (HX1.out wz ad cc (W4B.out.trans (hz.mono W4B.out.size)) he).mono fun e w' h => ⟨h.1, hz.trans (h.2.mono hz.size)⟩
          have AT : Hid (∀ wz, Below w4.heap.size w4 wz → EvR B wz (some ⟨gb, ob, none⟩) m) := fun wz hz => EB4.out wz (W4B.out.trans (hz.mono W4B.out.size))
          rcases Nat.lt_or_ge j cb with hz | hz
          · have hz1 : ¬ cb = j := by omega
            have hz3 : (cb - j == 0) = false := by simp; omega
            clear hz
            go_region_with (first
              | (go_at_call 51; refine Calls.mono (FIN.out _ _ _ (by go_grown) ((AT.out _ (by go_grown)).drop j)) ?_; rintro e5 w5 ⟨rfl, hh⟩; have H5 := hidA hh; clear hh))
            all_goals
              go_wp2_with fail
              go_meet
              exact ⟨rfl, H5.out.trans ⟨rfl, rfl, rfl, Nat.le_refl _, fun _ _ => rfl⟩⟩
          · obtain rfl : cb = j := by omega
            have AE : Hid (∀ (wz : World) ad, EvR B wz ad (m.drop cb)) := fun wz ad => ev_empty (by rw [List.length_drop, ← HM.out]; have := HCB.out; omega)
            clear hz
            go_region_with (first
              | (go_at_call 51; refine Calls.mono (FIN.out _ _ _ (by go_grown) (AE.out _ _)) ?_; rintro e5 w5 ⟨rfl, hh⟩; have H5 := hidA hh; clear hh))
            all_goals
              go_wp2_with fail
              go_meet
              exact ⟨rfl, H5.out.trans ⟨rfl, rfl, rfl, Nat.le_refl _, fun _ _ => rfl⟩⟩
        case rest =>
          obtain ⟨rfl, BX⟩ := hcut
          have WCB : Hid (Below wr.heap.size wr wc) := W4B.out.trans (BX.out.mono W4B.out.size)
          have BSC : Hid (Below S W2 wc) := RR.out.k.trans (WCB.out.mono (by have := RR.out.k.size; have := HGS.out; omega))
          have f2 := (BSC.out.cell (p := ⟨p, 0, none⟩) HGS.out.2.1).trans W2C.out.1
          have f3 := (BSC.out.cell (p := ⟨p, 1, none⟩) HGS.out.2.1).trans W2C.out.2
          have OWN : Hid (OwP wc S 64 u6 acc) := RR.out.row.later WCB.out
          obtain ⟨I1, hI1, ei1, hk1, -⟩ := mtd_i1 HL.out hk
          have hVn : Hid (Al.lcs (l.drop i) (m.drop j) ≠ 0) := by unfold Hid; rw [← HV.out]; exact hV0
          clear ei d0 d1 d2 d3 BX WCB W4B W3B BS4 HX1 TT RC1
          rcases Al.ix_bd x (m.drop j) with hx1 | ⟨k, hx1, hx2⟩
          · have FIN : Hid (MtR W2 S l m I1 j u6 acc wc) := ⟨OWN.out, BSC.out, by rw [hI1.out, ← Al.mt_none HX.out hVn.out hx1]; exact RR.out.all, Nat.le_trans RR.out.len (by rw [hI1.out]; exact Nat.le_succ i)⟩
            rw [hx1]
            clear hx1 OWN RR f2 f3 BSC
            go_wp2_with fail
            go_roundg gk
            case measure => omega
            case rel => exact ⟨I1, j, acc, hk1, by rw [ei1], rfl, hj, FIN⟩
          · obtain ⟨K1, JK, J1, hK1, hJK, hJ1, g1, g2, g3, g4, g5, g6, g7, gJ, g9⟩ := mtd_nums2 HMM.out HD.out hj (by rw [List.length_drop, ← HM.out] at hx2; exact hx2)
            obtain ⟨R2, hR2⟩ : ∃ R2, R2 = I1 * d := ⟨_, rfl⟩
            have hd0 : 0 < d := Nat.lt_of_le_of_lt (Nat.zero_le _) g5
            have hN6 : N ≤ 1000000 := (mtd_nums HL.out HMM.out hk hj HD.out HNN.out).2.2.2.2.2.2.2.2.2.1
            have RC2 : Hid (∀ wz : World, Calls Tryd.prog 50 #[.agg #[.int .i64 (d : Int), .slice (some ⟨g, 0, none⟩) N N], .int .i64 (I1 : Int)] wz fun e w' => e = .returned (.slice (some ⟨g, R2, none⟩) d d) ∧ Below wz.heap.size wz w') := fun wz => by
              rw [hR2]
              exact szRow wz g d N I1 hd0 hN6 (by rw [hI1.out]; exact hr2) _ rfl
            obtain ⟨V2, hV2⟩ : ∃ V2, V2 = Al.lcs (l.drop I1) (m.drop J1) := ⟨_, rfl⟩
            have TT2 : Hid (∀ wz, Below S W2 wz → wz.cell? ⟨g, R2 + J1, none⟩ = some (.int .i32 (V2 : Int))) := fun wz hz => by
              rw [hR2, hV2]
              exact ((W2T.out.later hz HGS.out.1).2 I1 J1 (Nat.le.intro hk1) g5).1
            obtain ⟨V1, hVV, gv⟩ : ∃ V1 : Nat, Hid (V1 = V - 1) ∧ IntKind.i32.wrap ((V : Int) - 1) = (V1 : Int) := ⟨_, rfl, wr32 V hV0 hV1⟩
            have hHV2 := hidA hV2
            have FALL : Hid (acc ++ Al.prs (if V2 = V1 then (i, JK) :: Al.mt I1 J1 (l.drop I1) (m.drop J1) else Al.mt I1 j (l.drop I1) (m.drop j)) = Al.prs (Al.mt 0 0 l m)) := mt_fall HX.out hVn.out hx1 HV.out hI1.out hJ1.out hJK.out hVV.out hV2 RR.out.all
            have LEN : Hid (acc.length ≤ i) := RR.out.len
            rw [hx1]
            clear hx1 hx2 hV2 hR2 RR hN6 hd0 hr2 hjd djd hjd2
            go_wp2_with fail
            refine (RC2.out wc).mono ?_
            rintro e w7 ⟨rfl, b7⟩
            have BS7 : Hid (Below S W2 w7) := BSC.out.trans (b7.mono (by have := BSC.out.size; have := HGS.out; omega))
            have OW7 : Hid (OwP w7 S 64 u6 acc) := OWN.out.later b7
            have t7 := TT2.out w7 BS7.out
            clear b7 f2 f3 OWN BSC TT2 RC2
            by_cases hE : V2 = V1
            · have qe : ((V2 : Int) == (V1 : Int)) = true := by rw [hE]; exact beq_self_eq_true _
              rw [if_pos hE] at FALL
              have H63 := hidA (own63 (Nat.le_trans LEN.out (Nat.le_of_lt hin)) (Nat.le_trans HL.out (by decide)))
              have HS7 : Hid (S ≤ w7.heap.size) := by rw [HGS.out.2.2.2]; exact BS7.out.size
              have OR7 : Hid (w7.ownsRow S 64 2 u6 acc.length (prC acc)) := OW7.out
              have ONE := hidA (prC_one ((i : Int), (JK : Int)))
              have FIN : Hid (∀ v8 w8, OwP w8 S 64 v8 (acc ++ [((i : Int), (JK : Int))]) ∧ Below S w7 w8 → MtR W2 S l m I1 J1 v8 (acc ++ [((i : Int), (JK : Int))]) w8) := fun v8 w8 h => ⟨h.1, BS7.out.trans h.2, app_one FALL.out, by rw [List.length_append, hI1.out]; exact Nat.succ_le_succ LEN.out⟩
              clear FALL hE
              go_wp2_with (at_builtin; refine wpList_append_own_wide _ rfl _ _ 30 rfl S 64 i0 (.agg #[.int .i64 0, .int .i64 0]) 2 16 Tryd.underlying30 hi zi0 zi1 zi2 rfl (by decide) _ _ _ rfl (ownA OR7.out ((Below.refl _ _).alloc (Nat.le_refl _) _)) ⟨w7.heap.size, 0, none⟩ 1 1 [.int .i64 (i : Int), .int .i64 (JK : Int)] rfl rfl (two2 _ _ _ _) ONE.out H63.out.1 H63.out.2 (by simp; exact Nat.le_trans HS7.out (Nat.le_succ _)) ?_)
              intro v8 w8 h8 g8 o8
              have F8 := hidA (FIN.out v8 w8 (OwP.grown OW7.out HS7.out h8 g8))
              clear h8 g8 o8
              go_wp2_with fail
              go_roundg gk
              case measure => omega
              case rel => exact ⟨I1, J1, _, hk1, by rw [ei1], by rw [g2], gJ, F8⟩
            · have qe : ((V2 : Int) == (V1 : Int)) = false := nbeqA hE
              rw [if_neg hE] at FALL
              have FIN : Hid (MtR W2 S l m I1 j u6 acc w7) := ⟨OW7.out, BS7.out, FALL.out, Nat.le_trans LEN.out (by rw [hI1.out]; exact Nat.le_succ i)⟩
              clear FALL hE OW7 BS7
              go_wp2_with fail
              go_roundg gk
              case measure => omega
              case rel => exact ⟨I1, j, acc, hk1, by rw [ei1], rfl, hj, FIN⟩
end Go.Proofs.YthglhcabdadlpaaDoor
