/- Layer 15: hunks, walked. -/
import Derived.Test.YthglhcabdadlpaaDoorAlDe
namespace Go.Proofs.YthglhcabdadlpaaDoor
open Go.RowKit
set_option linter.unusedVariables false
set_option linter.unusedSimpArgs false
set_option maxRecDepth 100000
theorem wrX {x : Int} (h1 : -9223372036854775808 ≤ x) (h2 : x ≤ 9223372036854775807) : wrap64 x = x ∧ IntKind.i64.wrap x = x := by
  have h : wrap64 x = x := by unfold wrap64; omega
  exact ⟨h, by rw [IntKind.wrap_i64]; omega⟩
theorem hk_nums {n m c ah pb x1 x2 x3 x4 be : Int} {l : List Al.Rg} (hc : 0 ≤ c) (hc2 : c ≤ 9223372036854775807) (hn : n ≤ 9223372036854775807) (hm : m ≤ 9223372036854775807) (hbe : be = Al.beh n l) (h : Al.ch n m ah pb (⟨x1, x2, x3, x4⟩ :: l)) :
    (wrap64 (x1 - ah) = x1 - ah ∧ IntKind.i64.wrap (x1 - ah) = x1 - ah) ∧ (wrap64 (be - x2) = be - x2 ∧ IntKind.i64.wrap (be - x2) = be - x2) ∧ (wrap64 (x1 - min c (x1 - ah)) = x1 - min c (x1 - ah) ∧ wrap64 (x2 + min c (be - x2)) = x2 + min c (be - x2) ∧ wrap64 (x3 - min c (x1 - ah)) = x3 - min c (x1 - ah) ∧ wrap64 (x4 + min c (be - x2)) = x4 + min c (be - x2)) ∧ (wrap64 (x1 - ah - c) = x1 - ah - c) ∧ Al.ch n m x2 x4 l := by
  obtain ⟨h1, h2, h3, h4, h5, h6, h7⟩ := h
  simp only at h1 h4 h5 h6 h7
  have h8 := Al.ch_le h7
  have h9 : be - x2 ≤ m - x4 ∧ 0 ≤ be - x2 ∧ be ≤ n := by
    rw [hbe]
    cases l with
    | nil =>
      obtain ⟨g1, g2, g3, g4⟩ := h7
      simp only [Al.beh]
      omega
    | cons r l =>
      obtain ⟨g1, g2, g3, g4, g5, g6, g7⟩ := h7
      have g8 := Al.ch_le g7
      simp only [Al.beh]
      omega
  have hq := h7
  clear h7 hbe
  refine ⟨wrX (by omega) (by omega), wrX (by omega) (by omega), ⟨(wrX ?_ ?_).1, (wrX ?_ ?_).1, (wrX ?_ ?_).1, (wrX ?_ ?_).1⟩, (wrX (by omega) (by omega)).1, hq⟩ <;> omega
theorem infoRq : ∃ i, Tryd.prog.info? 59 = some i ∧ i.zero = some (.agg #[.int .i64 0, .int .i64 0, .int .i64 0, .int .i64 0]) ∧ i.size = 4 ∧ i.bytes = 32 := infoP _ _ _ _ _ (by kernel_rfl)
def HuQ (w : World) (n c : Int) (l : List Al.Rg) (e : Ending) (w' : World) : Prop := ∃ v, e = .returned v ∧ OwG w' w.heap.size 59 v (Al.hk n c 0 [] l) ∧ Below w.heap.size w w'
theorem rg4 (w : World) (a b c d : Value) (t : TypeId) : (w.alloc (.cells #[a, b, c, d] t)).heap[w.heap.size]? = some (.cells #[a, b, c, d] t (0, 0)) := Array.getElem?_push_size
theorem owg_same {X V : World} {base : Nat} {ty : TypeId} {v : Value} {l : List Al.Rg} (h : OwG X base ty v l) (h1 : V.os = X.os) (h2 : V.tape = X.tape) (h3 : V.output = X.output) (h4 : V.heap = X.heap) : OwG V base ty v l := h.later ⟨h1, h2, h3, by rw [h4]; exact Nat.le_refl _, fun k _ => by rw [h4]⟩
theorem setL_len (r : Al.Rg) : ∀ l : List Al.Rg, (Al.setL l r).length = l.length
  | [] => rfl
  | [x] => rfl
  | x :: y :: l => congrArg (· + 1) (setL_len r (y :: l))
theorem setL_ne {r : Al.Rg} {l : List Al.Rg} (h : l ≠ []) : Al.setL l r ≠ [] := fun e => h (List.eq_nil_of_length_eq_zero (by rw [← setL_len r l, e]; rfl))
theorem len_m {L : Nat} (h : L ≠ 0) (h2 : L ≤ 1000) : ∃ M, L = M + 1 ∧ wrap64 ((L : Int) - 1) = (M : Int) ∧ (M : Int) < (L : Int) ∧ decide (M < L) = true ∧ (0 : Int) ≤ (M : Int) := ⟨L - 1, by omega, by unfold wrap64; omega, by omega, decide_eq_true (by omega), by omega⟩
/-- The hunks so far, and the region that is looked at. -/
def HkR (p : Nat) (w : World) (g : Nat) (x1 x2 x3 x4 : Int) (v : Value) (l : List Al.Rg) (wx : World) : Prop := OwG wx p 59 v l ∧ Below p w wx ∧ wx.heap[g]? = some (.cells #[.int .i64 x1, .int .i64 x2, .int .i64 x3, .int .i64 x4] 59 (0, 0))
theorem beh_at {n : Int} {l : List Al.Rg} {k N : Nat} (hN : N = l.length) : (∃ y, k + 1 < N ∧ l[k + 1]? = some y ∧ Al.beh n (l.drop (k + 1)) = y.fa) ∨ (¬ k + 1 < N ∧ Al.beh n (l.drop (k + 1)) = n) := by
  subst hN
  by_cases e : k + 1 < l.length
  · refine .inl ⟨_, e, List.getElem?_eq_getElem e, ?_⟩
    rw [List.drop_eq_getElem_cons e]
    rfl
  · right
    refine ⟨e, ?_⟩
    rw [List.drop_eq_nil_of_le (by omega)]
    rfl
theorem nx_yes {i n : Nat} (h : i < n) : decide ((i : Int) < (n : Int)) = true ∧ (i : Int) < (n : Int) ∧ decide (i < n) = true ∧ (0 : Int) ≤ (i : Int) := ⟨decide_eq_true (by omega), by omega, decide_eq_true h, by omega⟩
theorem nx_no {i n : Nat} (h : ¬ i < n) : decide ((i : Int) < (n : Int)) = false := decide_eq_false (by omega)
set_option maxHeartbeats 1000000 in
theorem hunks_any (w : World) (a : Option Addr) (ca : Nat) (l : List Al.Rg) (n m c : Int) {B : Nat} (ha : RgB B w a l) (hB : B ≤ w.heap.size) (hl : l.length ≤ 900) (hch : Al.ch n m 0 0 l) (hc : 0 ≤ c) (hc2 : c ≤ 9223372036854775807) (hn : n ≤ 9223372036854775807) (hm : m ≤ 9223372036854775807) :
    Calls Tryd.prog 42 #[.int .i64 n, .slice a l.length ca, .int .i64 c] w (HuQ w n c l) := by
  obtain ⟨i0, hi, zi0, zi1, zi2⟩ := infoRq
  have HA := hidA ha
  have HBB := hidA hB
  have CH0 := hidA hch
  obtain ⟨p, hp⟩ : ∃ p, p = w.heap.size := ⟨_, rfl⟩
  have HP := hidA hp
  obtain ⟨T, hT⟩ : ∃ T, T = Al.hk n c 0 [] l := ⟨_, rfl⟩
  have HTT := hidA hT
  obtain ⟨Q, hQ⟩ : ∃ Q, Q = HuQ w n c l := ⟨_, rfl⟩
  have HQ : Hid (∀ v w', OwG w' p 59 v T → Below p w w' → Q (.returned v) w') := fun v w' h1 h2 => by
    rw [hQ]
    rw [hp, hT] at h1
    rw [hp] at h2
    exact ⟨v, rfl, h1, h2⟩
  have NUM : Hid (∀ (ah pb x1 x2 x3 x4 be : Int) (l' : List Al.Rg), be = Al.beh n l' → Al.ch n m ah pb (⟨x1, x2, x3, x4⟩ :: l') → _) := fun ah pb x1 x2 x3 x4 be l' h1 h2 => hk_nums hc hc2 hn hm h1 h2
  rw [← hQ]
  obtain ⟨N, hN⟩ : ∃ N, N = l.length := ⟨_, rfl⟩
  have HN := hidA hN
  rw [← hN] at hl ⊢
  have HL := hidA hl
  clear ha hB hp hN hl hT hQ hc hc2 hn hm hch
  go_enter Tryd.func42, Tryd.ntmps42
  go_wp2_with fail
  go_loopg [7, 8, 18] N (fun gk y7 y8 y18 wr => ∃ (k : Nat) (ah pb : Int) (acc : List Al.Rg), k + gk = N ∧ y8 = .int .i64 ah ∧ y18 = .int .i64 k ∧ Hid (OwG wr p 59 y7 acc ∧ Below p w wr ∧ Al.hk n c ah acc (l.drop k) = T ∧ Al.ch n m ah pb (l.drop k) ∧ acc.length ≤ k ∧ (acc = [] ↔ k = 0)))
  case atStart => exact ⟨0, 0, 0, [], by omega, rfl, rfl, OwG.nil _ _ _, Below.refl _ _, HTT.out.symm, CH0.out, Nat.le_refl _, by simp⟩
  case round =>
    obtain ⟨k, ah, pb, acc, hk, rfl, rfl, RR⟩ := hrel
    rcases gk with _ | gk
    · obtain rfl : N = k := by omega
      have dk : decide ((N : Int) < (N : Int)) = false := decide_eq_false (Int.lt_irrefl _)
      have FIN : Hid (Q (.returned u7) wr) := by
        obtain ⟨h1, h2, h3, -⟩ := RR.out
        rw [List.drop_eq_nil_of_le (by rw [HN.out]; exact Nat.le_refl _)] at h3
        simp only [Al.hk] at h3
        rw [h3] at h1
        exact HQ.out _ _ h1 h2
      clear RR
      go_wp2_with fail
      exact FIN.out
    · obtain ⟨k6, dk, dk2, hkN, hk3⟩ := mch_k hk
      obtain ⟨⟨x1, x2, x3, x4⟩, hx⟩ : ∃ x, l[k]? = some x := ⟨_, List.getElem?_eq_getElem (by rw [← HN.out]; exact hkN)⟩
      have hd : l.drop k = ⟨x1, x2, x3, x4⟩ :: l.drop (k + 1) := by
        obtain ⟨h1, h2⟩ := List.getElem?_eq_some_iff.1 hx
        rw [List.drop_eq_getElem_cons h1, h2]
      obtain ⟨ga, rfl, hga, cs⟩ := (HA.out.later RR.out.2.1 (by rw [HP.out]; exact HBB.out)) (by rw [← HN.out]; exact Nat.lt_of_le_of_lt (Nat.zero_le k) hkN)
      obtain ⟨a0, a1, a2, a3⟩ := cs k _ hx
      simp only at a0 a1 a2 a3
      obtain ⟨W3, hW3⟩ : ∃ W3, W3 = wr.alloc (.cells #[.int .i64 x1, .int .i64 x2, .int .i64 x3, .int .i64 x4] 59) := ⟨_, rfl⟩
      obtain ⟨g, hg⟩ : ∃ g, g = wr.heap.size := ⟨_, rfl⟩
      have W3B : Hid (Below wr.heap.size wr W3 ∧ W3.heap.size = g + 1 ∧ g = wr.heap.size) := ⟨by rw [hW3]; exact (Below.refl _ _).alloc (Nat.le_refl _) _, by rw [hW3, hg]; simp, hg⟩
      have W3C : W3.heap[g]? = some (.cells #[.int .i64 x1, .int .i64 x2, .int .i64 x3, .int .i64 x4] 59 (0, 0)) := by rw [hW3, hg]; exact rg4 _ _ _ _ _ _
      have W3H := hidA W3C
      obtain ⟨c0, c1, c2, c3, -, -, -, -⟩ := box4 W3C
      obtain ⟨be, hbe⟩ : ∃ be, be = Al.beh n (l.drop (k + 1)) := ⟨_, rfl⟩
      obtain ⟨⟨w1a, w1b⟩, ⟨w2a, w2b⟩, ⟨v1, v2, v3, v4⟩, v5, hch⟩ := NUM.out ah pb x1 x2 x3 x4 be (l.drop (k + 1)) hbe (by rw [← hd]; exact RR.out.2.2.2.1)
      have CHN := hidA hch
      have STP : Hid (Al.hk n c x2 (if acc ≠ [] ∧ x1 - ah - c ≤ c then Al.setL acc (Al.wd c ah ⟨x1, x2, x3, x4⟩ be) else acc ++ [Al.wd c ah ⟨x1, x2, x3, x4⟩ be]) (l.drop (k + 1)) = T) := by
        have h := RR.out.2.2.1
        rw [hd] at h
        simp only [Al.hk] at h
        rw [← hbe] at h
        exact h
      have WK := hidA (wrK k (Nat.le_trans (Nat.le_of_lt hkN) (Nat.le_trans HL.out (by decide))))
      obtain ⟨K1, hK1⟩ : ∃ K1, K1 = k + 1 := ⟨_, rfl⟩
      have HK1 := hidA hK1
      have wk : wrap64 ((k : Int) + 1) = (K1 : Int) := by rw [hK1]; exact WK.out
      have BEC : Hid ((K1 < N ∧ W3.cell? ⟨ga, K1 * 4, none⟩ = some (.int .i64 be)) ∨ (¬ K1 < N ∧ be = n)) := by
        rw [hK1]
        rcases beh_at (n := n) (k := k) HN.out with ⟨y, e, hy, hb⟩ | ⟨e, hb⟩
        · rw [← hbe] at hb
          rw [hb]
          exact .inl ⟨e, ((W3B.out.1.cell (p := ⟨ga, _, none⟩) (Nat.lt_of_lt_of_le hga (by rw [HP.out]; exact RR.out.2.1.size))).trans (cs (k + 1) y hy).1)⟩
        · rw [← hbe] at hb
          exact .inr ⟨e, hb⟩
      clear hx hd cs hbe hch W3C CH0 hK1
      go_upto_region 7 with fail
      rw [← hW3, ← hg]
      clear hW3 hg a0 a1 a2 a3
      go_upto_if 28 with fail
      go_cut [11] from 24 to 34 (fun s11 wx => s11 = .int .i64 be ∧ wx = W3)
      case first =>
        rcases BEC.out with ⟨e, b0⟩ | ⟨e, rfl⟩
        · obtain ⟨d1, d2, d3, d4⟩ := nx_yes e
          go_wp2_with fail
          go_meet
          exact ⟨rfl, rfl⟩
        · have d1 := nx_no e
          go_wp2_with fail
          go_meet
          exact ⟨rfl, rfl⟩
      case rest =>
        obtain ⟨rfl, hw⟩ := hcut
        rw [hw]
        clear hw BEC wk
        obtain ⟨bf, hbf⟩ : ∃ bf, bf = min c (x1 - ah) := ⟨_, rfl⟩
        obtain ⟨af, haf⟩ : ∃ af, af = min c (be - x2) := ⟨_, rfl⟩
        have HM1 : ∀ V : World, (Builtin.min_ #[3, 3] 3 #[.int .i64 c, .int .i64 (x1 - ah)]).run Tryd.prog V = .ok (.int .i64 bf) V := fun V => by rw [hbf]; exact Lib.run_min_ints V _ _ .i64 .i64 _ _
        have HM2 : ∀ V : World, (Builtin.min_ #[3, 3] 3 #[.int .i64 c, .int .i64 (be - x2)]).run Tryd.prog V = .ok (.int .i64 af) V := fun V => by rw [haf]; exact Lib.run_min_ints V _ _ .i64 .i64 _ _
        rw [← hbf] at v1 v3
        rw [← haf] at v2 v4
        have STP2 : Hid (Al.hk n c x2 (if acc ≠ [] ∧ x1 - ah - c ≤ c then Al.setL acc ⟨x1 - bf, x2 + af, x3 - bf, x4 + af⟩ else acc ++ [⟨x1 - bf, x2 + af, x3 - bf, x4 + af⟩]) (l.drop (k + 1)) = T) := by rw [hbf, haf]; exact STP.out
        clear hbf haf STP
        go_upto_region 9 with fail
        go_cut [12, 13] from 35 to 46 (fun s12 s13 wx => s12 = .int .i64 bf ∧ s13 = .int .i64 af ∧ Hid (wx.os = W3.os ∧ wx.tape = W3.tape ∧ wx.output = W3.output ∧ wx.heap = W3.heap))
        case first =>
          go_region
          all_goals
            go_wp2_with fail
            go_meet
            exact ⟨rfl, rfl, rfl, rfl, rfl, rfl⟩
        case rest =>
          obtain ⟨rfl, rfl, CC⟩ := hcut
          obtain ⟨W5, hW5⟩ : ∃ W5, W5 = wc.alloc (.cells #[.int .i64 (x1 - bf), .int .i64 (x2 + af), .int .i64 (x3 - bf), .int .i64 (x4 + af)] 59) := ⟨_, rfl⟩
          obtain ⟨g5, hg5⟩ : ∃ g5, g5 = wc.heap.size := ⟨_, rfl⟩
          have BC : Below wr.heap.size wr wc := W3B.out.1.trans ⟨CC.out.1, CC.out.2.1, CC.out.2.2.1, by rw [CC.out.2.2.2, W3B.out.2.1, W3B.out.2.2]; exact Nat.le_refl _, fun i _ => by rw [CC.out.2.2.2]⟩
          have B5 : Hid (Below wr.heap.size wr W5) := by rw [hW5]; exact BC.alloc BC.size _
          have W5C : W5.heap[g5]? = some (.cells #[.int .i64 (x1 - bf), .int .i64 (x2 + af), .int .i64 (x3 - bf), .int .i64 (x4 + af)] 59 (0, 0)) := by rw [hW5, hg5]; exact rg4 _ _ _ _ _ _
          have gs : g < wc.heap.size := by rw [CC.out.2.2.2, W3B.out.2.1]; exact Nat.lt_succ_self _
          have W5G : Hid (W5.heap[g]? = some (.cells #[.int .i64 x1, .int .i64 x2, .int .i64 x3, .int .i64 x4] 59 (0, 0))) := by
            rw [hW5]
            exact (((Below.refl wc.heap.size wc).alloc (Nat.le_refl _) _).block g gs).trans (by rw [CC.out.2.2.2]; exact W3H.out)
          have gc : wc.heap[g]? = some (.cells #[.int .i64 x1, .int .i64 x2, .int .i64 x3, .int .i64 x4] 59 (0, 0)) := by rw [CC.out.2.2.2]; exact W3H.out
          obtain ⟨c0, c1, c2, c3, -, -, -, -⟩ := box4 gc
          obtain ⟨e0, e1, e2, e3, -, -, -, -⟩ := box4 W5G.out
          obtain ⟨f0, f1, f2, f3, -, -, -, -⟩ := box4 W5C
          have OG : Hid (OwG W5 p 59 u7 acc ∧ Below p w W5) := ⟨RR.out.1.later B5.out, RR.out.2.1.trans (B5.out.mono (by rw [HP.out]; exact RR.out.2.1.size))⟩
          have SC : Hid (p ≤ W5.heap.size) := by rw [HP.out]; exact OG.out.2.size
          have SG : Hid (g = wr.heap.size ∧ g < W5.heap.size) := ⟨W3B.out.2.2, by rw [hW5]; simp; omega⟩
          obtain ⟨LN, hLN⟩ : ∃ LN, LN = acc.length := ⟨_, rfl⟩
          have HLN := hidA hLN
          have OR3 : Hid (W5.ownsRow p 59 4 u7 LN (rgC acc)) := by rw [hLN]; exact OG.out.1
          have GV : Hid (∀ b, u7.ownBlock = some b → b < g) := fun b e => by
            have := (World.ownsRow.lt (show wr.ownsRow p _ 4 u7 acc.length (rgC acc) from RR.out.1) _ e).2
            have := SG.out.1
            omega
          have NOG : Hid (u7.ownBlock ≠ some g) := fun e => Nat.lt_irrefl _ (GV.out g e)
          have HG5 : Hid (g < g5) := by rw [hg5]; exact gs
          have H63 := hidA (own63g (k := LN) (by rw [hLN]; exact Nat.le_trans RR.out.2.2.2.2.1 (Nat.le_trans (Nat.le_of_lt hkN) (Nat.le_trans HL.out (by decide)))))
          have ONE := hidA (rg_one (x1 - bf) (x2 + af) (x3 - bf) (x4 + af))
          have FY : Hid (∀ v8 w8, w8.ownsRow p 59 4 v8 (LN + 1) (rgC acc ++ [.int .i64 (x1 - bf), .int .i64 (x2 + af), .int .i64 (x3 - bf), .int .i64 (x4 + af)]) → (W5.alloc (.cells #[.int .i64 (x1 - bf), .int .i64 (x2 + af), .int .i64 (x3 - bf), .int .i64 (x4 + af)] 59)).grownBy w8 u7.ownBlock → HkR p w g x1 x2 x3 x4 v8 (acc ++ [⟨x1 - bf, x2 + af, x3 - bf, x4 + af⟩]) w8) := fun v8 w8 h8 g8 => by
            refine ⟨?_, ?_, ?_⟩
            · unfold OwG
              rw [rgC_app, List.length_append, ← HLN.out]
              exact h8
            · exact OG.out.2.trans (((Below.refl p W5).alloc SC.out _).trans ⟨g8.os, g8.tape, g8.output, g8.size, fun i hi => g8.block i (by have := SC.out; simp; omega) (fun e => by have := (World.ownsRow.lt OR3.out _ e.symm).1; omega)⟩)
            · refine (g8.block g (by have := SG.out.2; simp; omega) (fun e => NOG.out e.symm)).trans ?_
              exact (((Below.refl W5.heap.size W5).alloc (Nat.le_refl _) _).block g SG.out.2).trans W5G.out
          have NXA : Hid (¬ (acc ≠ [] ∧ x1 - ah - c ≤ c) → Al.hk n c x2 (acc ++ [⟨x1 - bf, x2 + af, x3 - bf, x4 + af⟩]) (l.drop (k + 1)) = T) := fun h => by
            have h2 := STP2.out
            rw [if_neg h] at h2
            exact h2
          have LENA : Hid ((acc ++ [⟨x1 - bf, x2 + af, x3 - bf, x4 + af⟩] : List Al.Rg).length ≤ k + 1) := by
            unfold Hid
            rw [List.length_append]
            exact Nat.succ_le_succ RR.out.2.2.2.2.1
          have ACC : Hid (acc = [] ↔ k = 0) := RR.out.2.2.2.2.2
          have ACL : Hid (acc.length ≤ k) := RR.out.2.2.2.2.1
          clear RR hLN BC gs gc CC W5C
          go_upto_region 11 with fail
          simp only [v1, v2, v3, v4]
          rw [← hW5, ← hg5]
          clear hW5 hg5 c0 c1 c2 c3
          rcases Nat.eq_zero_or_pos k with hk0 | hk0
          · have dz : decide ((0 : Int) < (k : Int)) = false := decide_eq_false (by omega)
            have HCOND : Hid (¬ (acc ≠ [] ∧ x1 - ah - c ≤ c)) := fun h => h.1 (ACC.out.2 hk0)
            have HK0 := hidA hk0
            clear NOG ACC
            go_wp2_with (at_builtin; refine wpList_append_tolA rfl _ _ 42 rfl p 59 i0 (.agg #[.int .i64 0, .int .i64 0, .int .i64 0, .int .i64 0]) 4 32 Tryd.underlying42 hi zi0 zi1 zi2 rfl (by decide) _ _ _ rfl (ownA OR3.out ((Below.refl _ _).alloc (Nat.le_refl _) _)) ⟨W5.heap.size, 0, none⟩ 1 1 [.int .i64 (x1 - bf), .int .i64 (x2 + af), .int .i64 (x3 - bf), .int .i64 (x4 + af)] rfl rfl (four4A _ _ _ _ _ _) ONE.out H63.out.1 H63.out.2 (Nat.le_trans SC.out ((Below.refl W5.heap.size W5).alloc (Nat.le_refl _) _).size) (by decide) ?_)
            intro v8 w8 h8 g8 o8
            have F8 := hidA (FY.out v8 w8 h8 g8)
            obtain ⟨k0, k1, k2, k3, -, -, -, -⟩ := box4 F8.out.2.2
            have NX := hidA (NXA.out HCOND.out)
            clear h8 g8 o8 FY
            go_wp2_with fail
            go_roundg gk
            case measure => omega
            case rel => exact ⟨k + 1, x2, x4, _, hk3, rfl, (by first | exact congrArg _ WK.out | (rw [HK0.out]; rfl)), F8.out.1, F8.out.2.1, NX.out, CHN.out, LENA.out, by simp⟩
          have dz : decide ((0 : Int) < (k : Int)) = true := decide_eq_true (by omega)
          have hne : acc ≠ [] := fun e => by have := ACC.out.1 e; omega
          by_cases hcc : x1 - ah - c ≤ c
          · have dc : decide (x1 - ah - c ≤ c) = true := decide_eq_true hcc
            obtain ⟨M, hM, eM, j1, j2, j3⟩ := len_m (L := LN) (by rw [HLN.out]; exact fun e => hne (List.eq_nil_of_length_eq_zero e)) (by rw [HLN.out]; exact Nat.le_trans ACL.out (Nat.le_trans (Nat.le_of_lt hkN) (Nat.le_trans HL.out (by decide))))
            obtain ⟨gv, cv, hu, hgb, hgs, z1, z3, ⟨y1, y3, q1, q3⟩, O1, O2⟩ := OG.out.1.last hne ⟨x1 - bf, x2 + af, x3 - bf, x4 + af⟩
            have eLM : acc.length - 1 = M := by rw [← HLN.out, hM]; rfl
            rw [eLM] at z1 z3 q1 q3 O1 O2
            rw [← HLN.out] at hu
            subst hu
            simp only at O1 O2
            have gv1 : gv < g := GV.out gv rfl
            have gne : g ≠ gv := Nat.ne_of_gt gv1
            have gne5 : ¬ g5 = gv := fun e => by have := HG5.out; omega
            have gne6 : ¬ gv = g5 := fun e => gne5 e.symm
            have FINB : Hid (∀ V : World, V.os = W5.os → V.tape = W5.tape → V.output = W5.output → (V.heap = ((W5.setCell ⟨gv, M * 4 + 1, none⟩ (.int .i64 (x2 + af))).setCell ⟨gv, M * 4 + 3, none⟩ (.int .i64 (x4 + af))).heap ∨ V.heap = ((W5.setCell ⟨gv, M * 4 + 3, none⟩ (.int .i64 (x4 + af))).setCell ⟨gv, M * 4 + 1, none⟩ (.int .i64 (x2 + af))).heap) → HkR p w g x1 x2 x3 x4 (.slice (some ⟨gv, 0, none⟩) LN cv) (Al.setL acc ⟨x1 - bf, x2 + af, x3 - bf, x4 + af⟩) V) := fun V h1 h2 h3 h4 => by
              rcases h4 with h4 | h4
              · refine ⟨owg_same O1 h1 h2 h3 h4, OG.out.2.trans ⟨h1, h2, h3, by rw [h4]; simp, fun i hi => by rw [h4, heap_setCell_other _ _ i _ (by simp; omega), heap_setCell_other _ _ i _ (by simp; omega)]⟩, ?_⟩
                rw [h4, heap_setCell_other _ _ g _ (by simp; omega), heap_setCell_other _ _ g _ (by simp; omega)]
                exact W5G.out
              · refine ⟨owg_same O2 h1 h2 h3 h4, OG.out.2.trans ⟨h1, h2, h3, by rw [h4]; simp, fun i hi => by rw [h4, heap_setCell_other _ _ i _ (by simp; omega), heap_setCell_other _ _ i _ (by simp; omega)]⟩, ?_⟩
                rw [h4, heap_setCell_other _ _ g _ (by simp; omega), heap_setCell_other _ _ g _ (by simp; omega)]
                exact W5G.out
            have NXB : Hid (Al.hk n c x2 (Al.setL acc ⟨x1 - bf, x2 + af, x3 - bf, x4 + af⟩) (l.drop (k + 1)) = T) := by
              have h2 := STP2.out
              rw [if_pos ⟨hne, hcc⟩] at h2
              exact h2
            have LENB : Hid ((Al.setL acc ⟨x1 - bf, x2 + af, x3 - bf, x4 + af⟩).length ≤ k + 1) := by
              unfold Hid
              rw [setL_len]
              exact Nat.le_succ_of_le ACL.out
            have NEB : Hid (Al.setL acc ⟨x1 - bf, x2 + af, x3 - bf, x4 + af⟩ = [] ↔ k + 1 = 0) := ⟨fun e => absurd e (setL_ne hne), fun e => absurd e (Nat.succ_ne_zero k)⟩
            clear O1 O2 hM eLM gv1 hgb hcc hne FY NXA LENA STP2 ACC GV NOG
            go_upto_region 13 with fail
            go_cut [] from 81 to 90 (fun wx => Hid (HkR p w g x1 x2 x3 x4 (.slice (some ⟨gv, 0, none⟩) LN cv) (Al.setL acc ⟨x1 - bf, x2 + af, x3 - bf, x4 + af⟩) wx))
            case first =>
              go_region
              all_goals
                go_wp2_with fail
                go_meet
                first
                  | exact FINB.out _ rfl rfl rfl (.inl rfl)
                  | exact FINB.out _ rfl rfl rfl (.inr rfl)
            case rest =>
              have F8 : Hid _ := hcut
              obtain ⟨k0, k1, k2, k3, -, -, -, -⟩ := box4 F8.out.2.2
              clear hcut FINB z1 z3 q1 q3
              go_wp2_with fail
              go_roundg gk
              case measure => omega
              case rel => exact ⟨k + 1, x2, x4, _, hk3, rfl, congrArg _ WK.out, F8.out.1, F8.out.2.1, NXB.out, CHN.out, LENB.out, NEB.out⟩
          · have dc : decide (x1 - ah - c ≤ c) = false := decide_eq_false hcc
            have HCOND : Hid (¬ (acc ≠ [] ∧ x1 - ah - c ≤ c)) := fun h => hcc h.2
            clear NOG ACC
            go_wp2_with (at_builtin; refine wpList_append_tolA rfl _ _ 42 rfl p 59 i0 (.agg #[.int .i64 0, .int .i64 0, .int .i64 0, .int .i64 0]) 4 32 Tryd.underlying42 hi zi0 zi1 zi2 rfl (by decide) _ _ _ rfl (ownA OR3.out ((Below.refl _ _).alloc (Nat.le_refl _) _)) ⟨W5.heap.size, 0, none⟩ 1 1 [.int .i64 (x1 - bf), .int .i64 (x2 + af), .int .i64 (x3 - bf), .int .i64 (x4 + af)] rfl rfl (four4A _ _ _ _ _ _) ONE.out H63.out.1 H63.out.2 (Nat.le_trans SC.out ((Below.refl W5.heap.size W5).alloc (Nat.le_refl _) _).size) (by decide) ?_)
            intro v8 w8 h8 g8 o8
            have F8 := hidA (FY.out v8 w8 h8 g8)
            obtain ⟨k0, k1, k2, k3, -, -, -, -⟩ := box4 F8.out.2.2
            have NX := hidA (NXA.out HCOND.out)
            clear h8 g8 o8 FY
            go_wp2_with fail
            go_roundg gk
            case measure => omega
            case rel => exact ⟨k + 1, x2, x4, _, hk3, rfl, (by first | exact congrArg _ WK.out | (rw [HK0.out]; rfl)), F8.out.1, F8.out.2.1, NX.out, CHN.out, LENA.out, by simp⟩
end Go.Proofs.YthglhcabdadlpaaDoor
