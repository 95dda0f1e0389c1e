/- Layer 15: the document's Match, walked. -/
import Derived.Test.YthglhcabdadlpaaDoorAlEd
import Derived.Test.YthglhcabdadlpaaDoorAlZ
import Derived.Test.YthglhcabdadlpaaDoorAlDb
namespace Go.Proofs.YthglhcabdadlpaaDoor
open Go.RowKit
set_option linter.unusedVariables false
set_option linter.unusedSimpArgs false
set_option maxRecDepth 100000
theorem same_snoc (i : Nat) : Al.prs (Al.same (i + 1)) = Al.prs (Al.same i) ++ [((i : Int), (i : Int))] := by
  simp [Al.same, Al.prs, List.range_succ]
theorem mul_nums {P1 P2 : Nat} (h1 : P1 ≤ 100) (h2 : P2 ≤ 100) : wrap64 ((P1 : Int) * (P2 : Int)) = ((P1 * P2 : Nat) : Int) := by
  have h : P1 * P2 ≤ 100 * 100 := Nat.mul_le_mul h1 h2
  have h3 : ((P1 * P2 : Nat) : Int) = (P1 : Int) * (P2 : Int) := by simp
  unfold wrap64
  omega
theorem cut_nat (l m : List Al.Ev) (L : Int) {PQ : Nat} (h : PQ = (l.length - Al.tog l m) * (m.length - Al.tog l m)) : Al.cut l m L = decide ((if L < 0 then 0 else L) < (PQ : Int)) := by
  unfold Al.cut
  rw [h]
  have h3 : (((l.length - Al.tog l m) * (m.length - Al.tog l m) : Nat) : Int) = ((l.length - Al.tog l m : Nat) : Int) * ((m.length - Al.tog l m : Nat) : Int) := by simp
  rw [← h3]
  congr 1
  by_cases c : L < 0
  · rw [if_pos c, Int.max_eq_right (by omega)]
  · rw [if_neg c, Int.max_eq_left (by omega)]
theorem own63n {k n : Nat} (h : k + n ≤ 1000) : k + n ≤ maxLen ∧ (k + n) * 16 ≤ 140737488355328 := by unfold maxLen; omega
set_option maxHeartbeats 4000000 in
theorem rmatch_any (w : World) (a b : Option Addr) (ca cb : Nat) (l m : List Al.Ev) (L : Int) {B : Nat} (ha : EvR B w a l) (hb : EvR B w b m) (hB : B ≤ w.heap.size) (hl : l.length ≤ 100) (hm : m.length ≤ 100) (hca : l.length ≤ ca) (hcb : m.length ≤ cb) :
    Calls Tryd.prog 16 #[.slice a l.length ca, .slice b m.length cb, .int .i64 L] w fun e w' => ∃ v, e = .returned (.tuple #[v, .bool (Al.cut l m L)]) ∧ OwP w' w.heap.size 66 v (Al.prs (Al.mat l m L)) ∧ Below w.heap.size w w' := by
  obtain ⟨i0, hi, zi0, zi1, zi2⟩ := infoRp
  have HPA := hidA (rpart_any w a b ca cb l m ha hb hB (Nat.le_trans hl (by decide)) (Nat.le_trans hm (by decide)))
  have hT := Al.tog_le l m
  have HCUT := cut_nat l m L rfl
  have HMC := hidA (Al.mat_cut l m L)
  have HMF : Hid (Al.cut l m L = false → Al.prs (Al.same (Al.tog l m)) ++ Al.prs (Al.mtR (Al.tog l m) (Al.tog l m) (l.drop (Al.tog l m)) (m.drop (Al.tog l m))) = Al.prs (Al.mat l m L)) := fun h => by
    rw [Al.mtR_eq, ← Al.prs_app]
    unfold Al.mat
    rw [h]
    rfl
  have HPT : Hid ((Al.part l m = -1 ∧ l.length = Al.tog l m) ∨ (Al.part l m = (Al.tog l m : Int))) := by
    unfold Hid Al.part
    split
    · rename_i h; exact .inl ⟨rfl, h.1.symm⟩
    · exact .inr rfl
  obtain ⟨T, hTT⟩ : ∃ T, T = Al.tog l m := ⟨_, rfl⟩
  rw [← hTT] at hT HMC HMF HCUT HPT
  obtain ⟨C, hC⟩ : ∃ C, C = Al.cut l m L := ⟨_, rfl⟩
  rw [← hC] at HMC HMF HCUT ⊢
  have HLE : Hid (∀ wz, Below w.heap.size w wz → Calls Tryd.prog 38 #[.slice a l.length ca, .slice b m.length cb, .int .i64 (T : Int), .int .i64 (T : Int)] wz fun e w' => ∃ a2 c2, e = .returned (.slice a2 (Al.prs (Al.mtR T T (l.drop T) (m.drop T))).length c2) ∧ EvR w'.heap.size w' a2 (Al.prs (Al.mtR T T (l.drop T) (m.drop T))) ∧ Below wz.heap.size wz w') := fun wz hz => (rleast_any wz a b ca cb l m T (ha.later hz hB) (hb.later hz hB) (Nat.le_trans hB hz.size) hl hm hca hcb hT.1 hT.2).mono fun e w' h => by
    obtain ⟨v, e1, o, bb⟩ := h
    obtain ⟨a8, c8, e2, ev, -⟩ := o.ev
    exact ⟨a8, c8, by rw [e1, e2], ev, bb⟩
  obtain ⟨R, hR⟩ : ∃ R, R = Al.prs (Al.mtR T T (l.drop T) (m.drop T)) := ⟨_, rfl⟩
  have RL : Hid (T + R.length ≤ 1000 ∧ T ≤ 100) := by
    refine ⟨?_, by omega⟩
    rw [hR, Al.prs_len, Al.mtR_eq, Al.mt_len]
    have := (Al.lcs_bd (l.drop T) (m.drop T)).1
    rw [List.length_drop] at this
    omega
  rw [← hR] at HMF HLE
  obtain ⟨P1, hP1⟩ : ∃ P1, P1 = l.length - T := ⟨_, rfl⟩
  obtain ⟨P2, hP2⟩ : ∃ P2, P2 = m.length - T := ⟨_, rfl⟩
  obtain ⟨nA, -, -⟩ := ls_nums (x := 0) (y := 0) hl hT.1 (by decide) (by decide)
  obtain ⟨nB, -, -⟩ := ls_nums (x := 0) (y := 0) hm hT.2 (by decide) (by decide)
  have nM := mul_nums (P1 := P1) (P2 := P2) (by omega) (by omega)
  rw [← hP1] at nA HCUT
  rw [← hP2] at nB HCUT
  obtain ⟨PQ, hPQ⟩ : ∃ PQ, PQ = P1 * P2 := ⟨_, rfl⟩
  rw [← hPQ] at nM HCUT
  have HCT := hidA HCUT
  generalize l.length = N at *
  generalize m.length = M at *
  generalize Al.part l m = PT at *
  generalize Al.mat l m L = MT at *
  clear ha hb hB hl hm hca hcb hT hTT hC hR hP1 hP2 hPQ HCUT
  obtain ⟨S, hS⟩ : ∃ S, S = w.heap.size := ⟨_, rfl⟩
  have HS := hidA hS
  rw [← hS]
  rw [← hS] at HPA HLE
  clear hS
  go_enter Tryd.func16, Tryd.ntmps16
  go_wp2_with fail
  refine HPA.out.mono ?_
  rintro e w1 ⟨rfl, b1⟩
  have B1 := hidA b1
  clear b1
  obtain ⟨L0, hL0⟩ : ∃ L0, L0 = if L < 0 then 0 else L := ⟨_, rfl⟩
  have HL0 := hidA hL0
  obtain ⟨S2, hS2⟩ : ∃ S2, S2 = w1.heap.size := ⟨_, rfl⟩
  have HS2 := hidA hS2
  have SS : Hid (S ≤ S2) := by have := B1.out; rw [HS2.out]; rw [HS.out] at this ⊢; exact this.size
  have HC1 : Hid (C = decide (L0 < (PQ : Int))) := by rw [hL0]; exact HCT.out
  clear hL0 hS2 HCT
  go_upto_if 15 with fail
  go_cut [8] from 14 to 17 (fun s8 wx => s8 = .int .i64 (T : Int) ∧ wx = w1)
  case first =>
    rcases HPT.out with ⟨e1, e2⟩ | e1
    · subst e1
      subst e2
      go_wp2_with fail
      go_meet
      exact ⟨rfl, rfl⟩
    · subst e1
      have d1 : decide ((T : Int) < 0) = false := decide_eq_false (Int.not_lt.2 (Int.natCast_nonneg _))
      go_wp2_with fail
      go_meet
      exact ⟨rfl, rfl⟩
  case rest =>
    obtain ⟨rfl, hw⟩ := hcut
    rw [hw]
    clear hw HPT
    have O0 : Hid (OwP w1 S2 66 (.slice none 0 0) (Al.prs (Al.same 0)) ∧ Below S2 w1 w1) := ⟨OwP.nil _ _ _, Below.refl _ _⟩
    go_wp2_with fail
    go_loopg [9, 10] T (fun gk y9 y10 wr => ∃ i : Nat, i + gk = T ∧ y10 = .int .i64 i ∧ Hid (OwP wr S2 66 y9 (Al.prs (Al.same i)) ∧ Below S2 w1 wr))
    case atStart => exact ⟨0, Nat.zero_add _, rfl, O0.out⟩
    case round =>
      obtain ⟨i, hk, rfl, RR⟩ := hrel
      rcases gk with _ | gO
      · obtain rfl : T = i := by omega
        have d1 : decide ((T : Int) < (T : Int)) = false := decide_eq_false (Int.lt_irrefl _)
        obtain ⟨W2, hW2⟩ : ∃ W2, W2 = wr := ⟨_, rfl⟩
        subst hW2
        obtain ⟨a9, c9, e9, -, hc9⟩ := RR.out.1.ev
        have OWN := hidA RR.out.1
        have B2 := hidA RR.out.2
        rw [Al.prs_len, Al.same_len] at e9 hc9
        subst e9
        clear RR O0
        go_upto_if 30 with fail
        go_cut [2] from 29 to 30 (fun s2 wx => s2 = .int .i64 L0 ∧ wx = W2)
        case first =>
          by_cases c : L < 0
          · have d2 : decide (L < 0) = true := decide_eq_true c
            obtain rfl : L0 = 0 := by rw [HL0.out, if_pos c]
            go_wp2_with fail
            go_meet
            exact ⟨rfl, rfl⟩
          · have d2 : decide (L < 0) = false := decide_eq_false c
            obtain rfl : L0 = L := by rw [HL0.out, if_neg c]
            go_wp2_with fail
            go_meet
            exact ⟨rfl, rfl⟩
        case rest =>
          obtain ⟨rfl, hw⟩ := hcut
          rw [hw]
          clear hw
          cases C with
          | true =>
            have d3 : decide (L0 < (PQ : Int)) = true := HC1.out.symm
            have FIN : Hid (OwP W2 S 66 (.slice a9 T c9) (Al.prs MT) ∧ Below S w W2) := by
              refine ⟨?_, B1.out.trans (B2.out.mono SS.out)⟩
              rw [← HMC.out rfl]
              exact OWN.out.base SS.out
            go_wp2_with fail
            go_ret2
            exact ⟨_, rfl, FIN.out⟩
          | false =>
            have d3 : decide (L0 < (PQ : Int)) = false := HC1.out.symm
            have B12 : Hid (Below S w W2) := B1.out.trans (B2.out.mono SS.out)
            have S22 : Hid (S2 ≤ W2.heap.size) := by rw [HS2.out]; have := B2.out; rw [HS2.out] at this; exact this.size
            have H63 := hidA (own63n RL.out.1)
            have FZ : Hid (∀ (v : Value) (w' : World), OwP w' S2 66 v (Al.prs (Al.same T) ++ R) → Below S w w' → OwP w' S 66 v (Al.prs MT) ∧ Below S w w') := fun v w' h1 h2 => by
              rw [HMF.out rfl] at h1
              exact ⟨h1.base SS.out, h2⟩
            go_wp2_with fail
            refine (HLE.out W2 B12.out).mono ?_
            rintro e w3 ⟨a3, c3, rfl, ev3, b3⟩
            have E3 := hidA ev3
            have B3 := hidA b3
            have OW3 := hidA (OWN.out.later b3)
            have SZ3 : Hid (S2 ≤ w3.heap.size) := Nat.le_trans S22.out b3.size
            have LT : Hid (T = (Al.prs (Al.same T)).length) := by unfold Hid; rw [Al.prs_len, Al.same_len]
            obtain ⟨RN, hRN⟩ : ∃ RN, RN = R.length := ⟨_, rfl⟩
            have HRN := hidA hRN
            rw [← hRN] at H63 ⊢
            clear ev3 b3 hRN OWN HLE
            go_wp2_with (at_builtin; refine wpList_plain rfl fun _ hK => ?_; refine wp_app_more _ _ 33 rfl S2 66 i0 (.agg #[.int .i64 0, .int .i64 0]) 16 Tryd.underlying33 hi zi0 zi1 zi2 rfl a9 T c9 hc9 (Al.prs (Al.same T)) rfl LT.out OW3.out a3 RN c3 R rfl HRN.out E3.out H63.out.1 H63.out.2 SZ3.out ?_; intro v9 w9 h9 g9; have F9 := hidA (FZ.out v9 w9 h9 (B12.out.trans ((B3.out.mono (by have := B12.out; rw [HS.out] at this ⊢; exact this.size)).trans (g9.mono SS.out)))); clear h9 g9; refine hK _ _ ?_)
            go_wp2_with fail
            go_ret2
            exact ⟨_, rfl, F9.out⟩
      · obtain ⟨h6, dh, dh2, hhP, hh3⟩ := mch_k hk
        obtain ⟨LA, hLA⟩ : ∃ LA, LA = (Al.prs (Al.same i)).length := ⟨_, rfl⟩
        have OP := hidA RR.out.1
        have OW : Hid (wr.ownsRow S2 66 2 u9 LA (prC (Al.prs (Al.same i)))) := by rw [hLA]; exact OP.out
        have H63 := hidA (own63b (k := LA) (by rw [hLA, Al.prs_len, Al.same_len]; exact Nat.le_trans (Nat.le_of_lt hhP) (Nat.le_trans RL.out.2 (by decide))))
        have ONE := hidA (prC_one ((i : Int), (i : Int)))
        have SZ : Hid (S2 ≤ wr.heap.size) := by rw [HS2.out]; have := RR.out.2; rw [HS2.out] at this; exact this.size
        have WI := hidA (wrK i (Nat.le_trans (Nat.le_of_lt hhP) (Nat.le_trans RL.out.2 (by decide))))
        have NX : Hid (∀ (v8 : Value) (w8 : World) (o : Obj), w8.ownsRow S2 66 2 v8 (LA + 1) (prC (Al.prs (Al.same i)) ++ [.int .i64 (i : Int), .int .i64 (i : Int)]) → (wr.alloc o).grownBy w8 u9.ownBlock → OwP w8 S2 66 v8 (Al.prs (Al.same (i + 1))) ∧ Below S2 w1 w8) := fun v8 w8 o h8 g8 => by
          obtain ⟨h1, h2⟩ := OwP.grown (e := ((i : Int), (i : Int))) OP.out SZ.out (by rw [← hLA]; exact h8) g8
          rw [same_snoc]
          exact ⟨h1, RR.out.2.trans h2⟩
        clear RR hLA OP O0
        go_wp2_with (at_builtin; refine wpList_append_tolA rfl _ _ 33 rfl S2 66 i0 (.agg #[.int .i64 0, .int .i64 0]) 2 16 Tryd.underlying33 hi zi0 zi1 zi2 rfl (by decide) _ _ _ rfl (ownA OW.out ((Below.refl _ _).alloc (Nat.le_refl _) _)) ⟨wr.heap.size, 0, none⟩ 1 1 [.int .i64 (i : Int), .int .i64 (i : Int)] rfl rfl (two2 _ _ _ _) ONE.out H63.out.1 H63.out.2 (Nat.le_trans SZ.out ((Below.refl wr.heap.size wr).alloc (Nat.le_refl _) _).size) (by decide) ?_)
        intro v8 w8 h8 g8 o8
        have NN := hidA (NX.out v8 w8 _ h8 g8)
        clear h8 g8 o8 NX OW
        go_wp2_with fail
        go_roundg gO
        case measure => omega
        case rel => exact ⟨i + 1, hh3, congrArg _ WI.out, NN.out⟩
end Go.Proofs.YthglhcabdadlpaaDoor
