/- Layer 13: the document's reading of all records. -/
import Derived.Test.YtneefpblfiedbaaZTuI
import Derived.Test.YtneefpblfiedbaaZTuD
namespace Go.Proofs.Ytneefpblfiedbaa
open Go.RowKit
set_option linter.unusedVariables false
set_option linter.unusedSimpArgs false
def AlR (w : World) (e : Ending) (w' : World) (t : Tp.Tr) (s i : Nat) (x : Int) : Prop := ∃ tv cv ev, e = .returned (.tuple #[.agg #[tv, cv, ev], .int .i64 (s : Int), .int .i64 (i : Int), .int .i64 x]) ∧ w'.ownsRow w.heap.size 62 4 tv t.ticks.length (tkC t.ticks) ∧ w'.ownsRow w.heap.size 3 1 cv t.counts.length (nmC t.counts) ∧ w'.ownsRow w.heap.size 69 2 ev t.events.length (evC t.events) ∧ Below w.heap.size w w'
def alQ (w : World) (e : Ending) (w' : World) : Tp.TRes → Prop
  | .good t s _ => AlR w e w' t s s 0
  | .bad t s i x => AlR w e w' t s i x
def Tp.stR (b : List Int) (f k : Nat) (t : Tp.Tr) : Tp.Stp → Tp.TRes
  | .fin j => .good t k j
  | .more t' j => Tp.rds b f j t'
  | .bad j e => .bad t k j e
theorem Tp.rds_stR (b : List Int) (f k : Nat) (t : Tp.Tr) : Tp.rds b (f + 1) k t = Tp.stR b f k t (Tp.step b k t) := by
  rw [Tp.rds]
  cases Tp.step b k t <;> rfl
theorem one_u (x : Int) : ∀ u ∈ [Value.int .i64 x], u.oneCell' = true := by intro u hu; simp at hu; subst hu; rfl
theorem two_u (x y : Int) : ∀ u ∈ [Value.int .i64 x, .int .i64 y], u.oneCell' = true := by intro u hu; simp at hu; rcases hu with rfl | rfl <;> rfl
theorem Tp.th_err (b : List Int) : ∀ (g k : Nat) (acc : List Int) (j : Nat) (e : Int), Tp.th b g k acc = .bad j e → e ≠ 0
  | 0, k, acc, j, e, h => by cases h
  | g + 1, k, acc, j, e, h => by
    rw [Tp.th] at h
    cases hr : Tp.rdF 0 0 (b.drop k) with
    | inr x => rw [hr] at h; cases h; have := Tp.rdF_err _ _ _ _ hr; omega
    | inl p =>
      rw [hr] at h
      dsimp only at h
      split at h
      · cases h; decide
      · exact Tp.th_err b g _ _ _ _ h
theorem Tp.th_len (b : List Int) : ∀ (g k : Nat) (acc : List Int) (l : List Int) (j : Nat), Tp.th b g k acc = .good l j → l.length = acc.length + g
  | 0, k, acc, l, j, h => by cases h; rfl
  | g + 1, k, acc, l, j, h => by
    rw [Tp.th] at h
    cases hr : Tp.rdF 0 0 (b.drop k) with
    | inr x => rw [hr] at h; cases h
    | inl p =>
      rw [hr] at h
      dsimp only at h
      split at h
      · cases h
      · have := Tp.th_len b g _ _ _ _ h
        simp at this
        omega
set_option maxRecDepth 100000 in
set_option maxHeartbeats 16000000 in
theorem rAll_any (b : List Int) (a : Option Addr) (c : Nat) (w : World) (hy : Tp.Byt b) (hm : ByS w.heap.size w a b) (hc : b.length ≤ c) (hl : b.length ≤ 1000000) (h5 : 5 ≤ b.length) :
    Calls Try.prog 55 #[.slice a b.length c, .int .i64 5] w fun e w' => alQ w e w' (Tp.rds b b.length 5 Tp.tr0) := by
  obtain ⟨i0, hi, hz0, hz1, hz2⟩ := info_of infoTk
  obtain ⟨i1, gi, gz0, gz1, gz2⟩ := info_of infoIt
  obtain ⟨i2, ki, kz0, kz1, kz2⟩ := info_of infoEv
  have EC := hidT (fun (W : World) (k : Nat) (q : Below w.heap.size w W) (hk : k ≤ b.length) => rcount_any b k a c W hy (hm.later q (Nat.le_refl _)) hc (by omega) hk)
  have E3 := hidT (fun (W : World) (k : Nat) (q : Below w.heap.size w W) (hk : k ≤ b.length) => rThree_any b a c k W hy ((hm.later q (Nat.le_refl _)).mono q.size) hc (by omega) hk)
  have HY := hidT hy
  have HM := hidT hm
  obtain ⟨n0, hn⟩ : ∃ n, n = b.length := ⟨_, rfl⟩
  have HN := hidT hn
  obtain ⟨post, hpost⟩ : ∃ p, p = Tp.rds b b.length 5 Tp.tr0 := ⟨_, rfl⟩
  have HP : Hid (post = Tp.rds b n0 5 Tp.tr0) := by rw [hn]; exact hpost
  rw [← hpost]
  rw [← hn] at EC E3 hl h5 ⊢
  clear hm hy hc hn hpost
  go_enter Try.func55, Try.ntmps55
  go_wp2_with fail
  go_loopg [1] n0 (fun gk at_ wr => ∃ (k : Nat) (tv cv ev : Value) (t : Tp.Tr), at_ = .int .i64 k ∧ k ≤ n0 ∧ n0 < k + gk ∧ Hid (TrA w w.heap.size tv cv ev t wr) ∧ Hid (t.ticks.length + t.events.length ≤ k ∧ t.counts.length = t.ticks.length ∧ post = Tp.rds b gk k t))
  case atStart => exact ⟨5, _, _, _, Tp.tr0, rfl, h5, by omega, TrA.start w, by simp [Tp.tr0], rfl, HP.out⟩
  case round =>
    obtain ⟨k, tv, cv, ev, t, rfl, hk, hf, HA, HR⟩ := hrel
    rcases gk with _ | gk
    · omega
    obtain ⟨ta, tc, hv1⟩ := ownShT HA.out.ot
    obtain ⟨ca, cc, hv2⟩ := ownShT HA.out.oc
    obtain ⟨ea, ec, hv3⟩ := ownShT HA.out.oe
    subst hv1 hv2 hv3
    obtain ⟨x0, x1, x2⟩ := HA.out.cells
    obtain ⟨u0, u1, u2⟩ := HA.out.resc
    have y0 := HA.out.fz 0
    have y1 := HA.out.fz 1
    have y2 := HA.out.fz 2
    have HFI := hidT HA.out.fin
    have HLn : Hid (t.ticks.length ≤ 1000000 ∧ t.counts.length ≤ 1000000 ∧ t.events.length ≤ 1000000) := by have := HR.out; unfold Hid; omega
    obtain ⟨nt, hnt⟩ : ∃ n, n = t.ticks.length := ⟨_, rfl⟩
    obtain ⟨nc, hnc⟩ : ∃ n, n = t.counts.length := ⟨_, rfl⟩
    obtain ⟨ne, hne⟩ : ∃ n, n = t.events.length := ⟨_, rfl⟩
    have HNT := hidT hnt
    have HNC := hidT hnc
    have HNE := hidT hne
    rw [← hnt] at HA HFI x0 
    rw [← hnc] at HA HFI x1
    rw [← hne] at HA HFI x2
    have dt : decide ((1048576 : Int) ≤ (nt : Int)) = false := decide_eq_false (by have := HLn.out; omega)
    have dtn : decide (1048576 ≤ nt) = false := decide_eq_false (by have := HLn.out; omega)
    have de : decide ((1048576 : Int) ≤ (ne : Int)) = false := decide_eq_false (by have := HLn.out; omega)
    have den : decide (1048576 ≤ ne) = false := decide_eq_false (by have := HLn.out; omega)
    clear hnt hnc hne
    by_cases hlt : k < n0
    · have d1 : decide ((k : Int) < (n0 : Int)) = true := decide_eq_true (by omega)
      have d1n : decide (k < n0) = true := decide_eq_true hlt
      obtain ⟨cb, hcb⟩ : ∃ x, b[k]? = some x := ⟨_, List.getElem?_eq_getElem (by rw [← HN.out]; exact hlt)⟩
      have hbd := HY.out cb (List.mem_of_getElem? hcb)
      obtain ⟨g, o, rfl, hg, hce⟩ := HM.out (by rw [← HN.out]; omega)
      have cx : wr.cell? ⟨g, o + k, none⟩ = some (.int .u8 cb) := (HA.out.bl.cell (p := ⟨g, o + k, none⟩) hg).trans (hce k cb hcb)
      have wcb : wrap64 cb = cb := by unfold wrap64; omega
      have HST : Hid (post = Tp.stR b gk k t (if cb = 0 then Tp.Stp.fin (k + 1) else if Tp.bet 1 cb 3 then Tp.stepT b k t cb else if Tp.bet 1 (cb - 16) 5 then Tp.stepE b k t cb else .bad k 110)) := by
        unfold Hid
        rw [HR.out.2.2, Tp.rds_stR]
        simp only [Tp.step, hcb]
      have HCB := hidT hcb
      clear hce hcb
      by_cases c0 : cb = 0
      · subst c0
        have HP3 : Hid (post = .good t k (k + 1)) := by unfold Hid; rw [HST.out, if_pos rfl]; rfl
        clear HST wcb
        obtain ⟨⟨z0, z1, z2⟩, o1, o2, o3, bF⟩ := HA.out.fin
        go_wp2_with fail
        generalize (((World.setCell wr ⟨w.heap.size, 0, none⟩ (.slice ta nt tc)).setCell ⟨w.heap.size, 1, none⟩ (.slice ca nc cc)).setCell ⟨w.heap.size, 2, none⟩ (.slice ea ne ec)) = W6 at *
        refine ⟨rfl, .tuple #[.agg #[.slice ta nt tc, .slice ca nc cc, .slice ea ne ec], .int .i64 (k : Int), .int .i64 (k : Int), .int .i64 0], by simp [results, Try.results55, go_sem, z0, z1, z2], ?_⟩
        rw [HP3.out]
        exact ⟨_, _, _, by first | rfl | (simp; done) | (simp; omega), o1, o2, o3, bF⟩
      have q0 : (cb == 0) = false := by simpa using c0
      by_cases c3 : cb ≤ 3
      · have q1 : decide (cb ≤ 3) = true := decide_eq_true c3
        have T3 := hidT (E3.out wr (k + 1) HA.out.bl hlt)
        have hth := Tp.th_step b k t cb
        have HSS : Hid (Tp.step b k t = Tp.stepT b k t cb) := by unfold Hid; simp only [Tp.step, HCB.out]; rw [if_neg c0, if_pos (by simp [Tp.bet]; omega)]
        have ek : ((k + 1 : Nat) : Int) = (k : Int) + 1 := by omega
        rw [ek] at T3
        clear ek
        cases hr : Tp.th b 3 (k + 1) [] with
        | bad j x =>
          rw [hr] at hth T3
          dsimp only at hth
          have hx := Tp.th_err b _ _ _ _ _ hr
          have qx : (x == 0) = false := by simpa using hx
          have HP3 : Hid (post = .bad t k j x) := by unfold Hid; rw [HST.out, if_neg c0, if_pos (by simp [Tp.bet]; omega), hth]; rfl
          clear hr hth HST hx HSS
          go_wp2_with fail
          refine T3.out.mono ?_
          rintro e w3 ⟨rfl, k3⟩
          have H3 := hidT (HA.out.later k3)
          clear k3
          clear x0 x1 x2 u0 u1 u2 y0 y1 y2
          obtain ⟨x0, x1, x2⟩ := H3.out.cells
          obtain ⟨u0, u1, u2⟩ := H3.out.resc
          have y0 := H3.out.fz 0
          have y1 := H3.out.fz 1
          have y2 := H3.out.fz 2
          obtain ⟨⟨z0, z1, z2⟩, o1, o2, o3, bF⟩ := H3.out.fin
          go_wp2_with fail
          generalize (((World.setCell w3 ⟨w.heap.size, 0, none⟩ (.slice ta nt tc)).setCell ⟨w.heap.size, 1, none⟩ (.slice ca nc cc)).setCell ⟨w.heap.size, 2, none⟩ (.slice ea ne ec)) = W6 at *
          refine ⟨rfl, .tuple #[.agg #[.slice ta nt tc, .slice ca nc cc, .slice ea ne ec], .int .i64 (k : Int), .int .i64 (j : Int), .int .i64 x], by simp [results, Try.results55, go_sem, z0, z1, z2], ?_⟩
          rw [HP3.out]
          exact ⟨_, _, _, by first | rfl | (simp; done) | (simp; omega), o1, o2, o3, bF⟩
        | good l j =>
          rw [hr] at hth T3
          dsimp only at hth
          have hlen := Tp.th_len b _ _ _ _ _ hr
          obtain ⟨p, m, d, rfl⟩ : ∃ p m d, l = [p, m, d] := by match l, hlen with | [p, m, d], _ => exact ⟨p, m, d, rfl⟩
          dsimp only at hth
          obtain ⟨hj1, hj2, hj3⟩ := Tp.step_more b HY.out k t _ j (HSS.out.trans hth)
          have HP3 : Hid (post = Tp.rds b gk j ⟨t.ticks ++ [⟨cb, p, m, d⟩], t.counts ++ [(t.events.length : Int)], t.events⟩) := by unfold Hid; rw [HST.out, if_neg c0, if_pos (by simp [Tp.bet]; omega), hth]; rfl
          have HJ : Hid (k < j ∧ j ≤ n0) := ⟨hj1, by rw [HN.out]; exact hj2⟩
          clear hr hth HST HSS hlen hj1 hj2 hj3
          go_wp2_with fail
          refine T3.out.mono ?_
          rintro e w3 ⟨v3, rfl, o3, k3⟩
          unfold OwJ at o3
          obtain ⟨va, vc, hv⟩ := ownShT o3
          subst hv
          have N3 := own_nmsT (l := [p, m, d]) o3
          obtain ⟨g3, f3, rfl, hg3, hc3⟩ := N3 (by simp)
          have l0 : w3.cell? ⟨g3, f3, none⟩ = some (.int .i64 p) := hc3 0 p rfl
          have l1 : w3.cell? ⟨g3, f3 + 1, none⟩ = some (.int .i64 m) := hc3 1 m rfl
          have l2 : w3.cell? ⟨g3, f3 + 2, none⟩ = some (.int .i64 d) := hc3 2 d rfl
          have H3 := hidT (HA.out.later k3)
          clear k3 hc3 hg3 o3 N3 T3
          clear x0 x1 x2 u0 u1 u2 y0 y1 y2
          obtain ⟨x0, x1, x2⟩ := H3.out.cells
          have HTT : Hid (w3.ownsRow (w.heap.size + 2) 62 4 (.slice ta nt tc) nt (tkC t.ticks)) := by have := H3.out.ot; rw [HNT.out]; rw [HNT.out] at this; exact this
          have HB3 : Hid (w.heap.size + 2 ≤ w3.heap.size) := H3.out.lt
          have H63 : Hid ((nt + 1 ≤ maxLen ∧ (nt + 1) * 32 ≤ 140737488355328) ∧ (nc + 1 ≤ maxLen ∧ (nc + 1) * 8 ≤ 140737488355328)) := by have := HLn.out; have := HNT.out; have := HNC.out; unfold Hid maxLen; omega
          have q3 : ([p, m, d] : List Int).length = 3 := rfl
          have ONE4 : Hid (∀ u ∈ [Value.int .i64 cb, .int .i64 p, .int .i64 m, .int .i64 d], u.oneCell' = true) := by intro u hu; simp at hu; rcases hu with rfl | rfl | rfl | rfl <;> rfl
          have xl0 := (H3.out.later ((Below.refl _ w3).alloc (Nat.le_refl _) (.cells #[.int .i64 cb, .int .i64 p, .int .i64 m, .int .i64 d] 62))).cells.1
          go_upto_region 13 with fail
          go_cut [] from 61 to 76 (fun wx => ∃ va8 vc8, Hid (TrA w w.heap.size (.slice va8 (nt + 1) vc8) (.slice ca nc cc) (.slice ea ne ec) ⟨t.ticks ++ [⟨cb, p, m, d⟩], t.counts, t.events⟩ wx))
          case first =>
            go_region_law (first | (rw [if_pos (by rfl)]; refine wp_appT w3 _ _ 22 rfl (w.heap.size + 2) 62 i0 (.agg #[.int .i64 0, .int .i64 0, .int .i64 0, .int .i64 0]) 4 32 Try.underlying22 hi hz0 hz1 hz2 rfl (by decide) _ _ _ rfl HTT.out [.int .i64 cb, .int .i64 p, .int .i64 m, .int .i64 d] rfl ⟨rfl, rfl, rfl, rfl⟩ rfl ONE4.out H63.out.1.1 H63.out.1.2 HB3.out ?_; intro v8 w8 h8 g8; have F8 := H3.out.grT h8 g8 (congrArg (· + 1) HNT.out) (x := ⟨cb, p, m, d⟩) (by simp [tkC]); have q8 := F8.1; have p8 := F8.2.1; have H8 := hidT F8.2.2; obtain ⟨va8, vc8, hv8⟩ := ownShT h8; subst hv8; clear F8 h8 g8))
            all_goals
              go_wp2_with fail
              go_meet
              exact ⟨_, _, H8⟩
          case rest =>
            obtain ⟨va8, vc8, H8⟩ := hcut
            clear xl0 x0 x1 x2 l0 l1 l2 HTT HB3 H3
            obtain ⟨W7, hW7⟩ : ∃ W, W = wc := ⟨_, rfl⟩
            subst hW7
            obtain ⟨x0, x1, x2⟩ := H8.out.cells
            have HCC : Hid (W7.ownsRow (w.heap.size + 2) 3 1 (.slice ca nc cc) nc (nmC t.counts)) := by have := H8.out.oc; rw [HNC.out]; rw [HNC.out] at this; exact this
            have HB7 : Hid (w.heap.size + 2 ≤ W7.heap.size) := H8.out.lt
            go_wp2_with (at_builtin; refine wpList_appT rfl W7 _ _ 23 rfl (w.heap.size + 2) 3 i1 (.int .i64 0) 1 8 Try.underlying23 gi gz0 gz1 gz2 rfl (by decide) _ _ _ rfl HCC.out [.int .i64 (ne : Int)] rfl ⟨rfl, rfl, rfl, rfl⟩ rfl (one_u _) H63.out.2.1 H63.out.2.2 HB7.out ?_)
            intro v9 w9 h9 g9
            have F9 := H8.out.grC h9 g9 (congrArg (· + 1) HNC.out) (x := (ne : Int)) (by simp [nmC])
            have q9 := F9.1
            have p9 := F9.2.1
            have H9 := hidT F9.2.2
            obtain ⟨va9, vc9, hv9⟩ := ownShT h9
            subst hv9
            clear F9 h9 g9 x0 x1 x2
            go_wp2_with fail
            go_roundg gk
            case measure => omega
            case rel => exact ⟨j, _, _, _, _, rfl, HJ.out.2, by have := HJ.out; omega, H9, by have := HR.out; have := HJ.out; simp; omega, by have := HR.out; simp [this], by rw [HP3.out, HNE.out]⟩
      · have q1 : decide (cb ≤ 3) = false := decide_eq_false c3
        by_cases c21 : 17 ≤ cb ∧ cb ≤ 21
        · have q2 : decide (17 ≤ cb) = true := decide_eq_true c21.1
          have q3 : decide (cb ≤ 21) = true := decide_eq_true c21.2
          have w16 : wrap64 (cb - 16) = cb - 16 := by unfold wrap64; omega
          have HHas := hidT (fun W => rhas_any (cb - 16) (by omega) W)
          have HSS : Hid (Tp.step b k t = Tp.stepE b k t cb ∧ post = Tp.stR b gk k t (Tp.stepE b k t cb)) := by
            refine ⟨?_, ?_⟩
            · simp only [Tp.step, HCB.out]; rw [if_neg c0, if_neg (by simp [Tp.bet]; omega), if_pos (by simp [Tp.bet]; omega)]
            · rw [HST.out, if_neg c0, if_neg (by simp [Tp.bet]; omega), if_pos (by simp [Tp.bet]; omega)]
          obtain ⟨kd, hkd⟩ : ∃ z, z = cb - 16 := ⟨_, rfl⟩
          have HKD := hidT hkd
          obtain ⟨W1, hW1⟩ : ∃ W, W = wr.alloc (.cells #[.int .i64 kd, .int .i64 0] 69) := ⟨_, rfl⟩
          have K1 : Hid (Below wr.heap.size wr W1) := by rw [hW1]; exact (Below.refl _ _).alloc (Nat.le_refl _) _
          have HX1 : Hid (W1.heap[wr.heap.size]? = some (.cells #[.int .i64 kd, .int .i64 0] 69 (0, 0))) := by rw [hW1]; exact heap_alloc_new wr _
          obtain ⟨hb, hhb⟩ : ∃ q, q = Tp.hasN (cb - 16) := ⟨_, rfl⟩
          have HHB : Hid (hb = Tp.hasN kd) := by rw [hkd]; exact hhb
          rw [← hhb] at HHas
          clear HST wcb c0 c3 hhb
          cases hb with
          | false =>
            have HJ : Hid (Tp.step b k t = .more ⟨t.ticks, t.counts, t.events ++ [⟨kd, 0⟩]⟩ (k + 1) ∧ post = Tp.rds b gk (k + 1) ⟨t.ticks, t.counts, t.events ++ [⟨kd, 0⟩]⟩) := by
              have e := HSS.out
              have e2 : Tp.stepE b k t cb = .more ⟨t.ticks, t.counts, t.events ++ [⟨kd, 0⟩]⟩ (k + 1) := by unfold Tp.stepE; rw [← HKD.out, ← HHB.out]; rfl
              rw [e2] at e
              exact e
            clear HSS
            go_upto_region 20 with fail
            rw [← hkd]
            rw [← hW1]
            clear hW1 hkd
            go_wp2_with fail
            refine (HHas.out W1).mono ?_
            rintro e w2 ⟨rfl, rfl⟩
            have H2 := hidT (HA.out.later K1.out)
            clear x0 x1 x2 u0 u1 u2 y0 y1 y2
            obtain ⟨x0, x1, x2⟩ := H2.out.cells
            have e0 : w2.cell? ⟨wr.heap.size, 0, none⟩ = some (.int .i64 kd) := by simp [World.cell?, HX1.out]
            have e1 : w2.cell? ⟨wr.heap.size, 1, none⟩ = some (.int .i64 0) := by simp [World.cell?, HX1.out]
            have HEE : Hid (w2.ownsRow (w.heap.size + 2) 69 2 (.slice ea ne ec) ne (evC t.events)) := by have := H2.out.oe; rw [HNE.out]; rw [HNE.out] at this; exact this
            have HBE : Hid (w.heap.size + 2 ≤ w2.heap.size) := H2.out.lt
            have H63 : Hid (ne + 1 ≤ maxLen ∧ (ne + 1) * 16 ≤ 140737488355328) := by have := HLn.out; have := HNE.out; unfold Hid maxLen; omega
            go_wp2_with (at_builtin; refine wpList_appT rfl w2 _ _ 24 rfl (w.heap.size + 2) 69 i2 (.agg #[.int .i64 0, .int .i64 0]) 2 16 Try.underlying24 ki kz0 kz1 kz2 rfl (by decide) _ _ _ rfl HEE.out [.int .i64 kd, .int .i64 0] rfl ⟨rfl, rfl, rfl, rfl⟩ rfl (two_u _ _) H63.out.1 H63.out.2 HBE.out ?_)
            intro v8 w8 h8 g8
            have F8 := H2.out.grE h8 g8 (congrArg (· + 1) HNE.out) (x := ⟨kd, 0⟩) (by simp [evC])
            have q8 := F8.1
            have p8 := F8.2.1
            have H8 := hidT F8.2.2
            obtain ⟨va8, vc8, hv8⟩ := ownShT h8
            subst hv8
            clear F8 h8 g8 x0 x1 x2 e0 e1
            go_wp2_with fail
            go_roundg gk
            case measure => omega
            case rel => exact ⟨k + 1, _, _, _, _, by first | rfl | (exact congrArg _ (by omega)) | go_num, by omega, by omega, H8, by have := HR.out; simp; omega, by have := HR.out; simp [this], HJ.out.2⟩
          | true =>
            have CT := hidT (EC.out W1 (k + 1) (HA.out.bl.trans (K1.out.mono HA.out.bl.size)) hlt)
            have ek : ((k + 1 : Nat) : Int) = (k : Int) + 1 := by omega
            rw [ek] at CT
            clear ek
            cases hr : Tp.rdF 0 0 (b.drop (k + 1)) with
            | inr x =>
              have hx := Tp.rdF_err _ _ _ _ hr
              have qx : (x == 0) = false := by simp; omega
              have HP3 : Hid (post = .bad t k (k + 1) x) := by
                have e2 : Tp.stepE b k t cb = .bad (k + 1) x := by unfold Tp.stepE; rw [← HKD.out, ← HHB.out, hr]; rfl
                unfold Hid
                rw [HSS.out.2, e2]
                rfl
              rw [hr] at CT
              dsimp only [rcV] at CT
              push_cast at CT
              clear hr hx HSS
              go_upto_region 20 with fail
              rw [← hkd]
              rw [← hW1]
              clear hW1 hkd
              have H2 := hidT (HA.out.later K1.out)
              clear x0 x1 x2 u0 u1 u2 y0 y1 y2
              obtain ⟨x0, x1, x2⟩ := H2.out.cells
              obtain ⟨u0, u1, u2⟩ := H2.out.resc
              have y0 := H2.out.fz 0
              have y1 := H2.out.fz 1
              have y2 := H2.out.fz 2
              go_wp2_with fail
              refine (HHas.out W1).mono ?_
              rintro e w2 ⟨rfl, rfl⟩
              go_wp2_with fail
              refine CT.out.mono ?_
              rintro e w3 ⟨rfl, rfl⟩
              obtain ⟨⟨z0, z1, z2⟩, o1, o2, o3, bF⟩ := H2.out.fin
              go_wp2_with fail
              generalize (((World.setCell w3 ⟨w.heap.size, 0, none⟩ (.slice ta nt tc)).setCell ⟨w.heap.size, 1, none⟩ (.slice ca nc cc)).setCell ⟨w.heap.size, 2, none⟩ (.slice ea ne ec)) = W6 at *
              refine ⟨rfl, .tuple #[.agg #[.slice ta nt tc, .slice ca nc cc, .slice ea ne ec], .int .i64 (k : Int), .int .i64 (k + 1 : Int), .int .i64 x], by simp [results, Try.results55, go_sem, z0, z1, z2], ?_⟩
              rw [HP3.out]
              exact ⟨_, _, _, by first | rfl | (simp; done) | (simp; omega), o1, o2, o3, bF⟩
            | inl p0 =>
              obtain ⟨z, u⟩ := p0
              have hz := Tp.rd_back _ _ _ (HY.out.drop (k + 1)) hr
              have HJ : Hid (Tp.step b k t = .more ⟨t.ticks, t.counts, t.events ++ [⟨kd, Tp.zag z⟩]⟩ (k + 1 + u) ∧ post = Tp.rds b gk (k + 1 + u) ⟨t.ticks, t.counts, t.events ++ [⟨kd, Tp.zag z⟩]⟩) := by
                have e := HSS.out
                have e2 : Tp.stepE b k t cb = .more ⟨t.ticks, t.counts, t.events ++ [⟨kd, Tp.zag z⟩]⟩ (k + 1 + u) := by unfold Tp.stepE; rw [← HKD.out, ← HHB.out, hr]; rfl
                rw [e2] at e
                exact e
              obtain ⟨hj1, hj2, -⟩ := Tp.step_more b HY.out k t _ _ HJ.out.1
              rw [← HN.out] at hj2
              have HZ := hidT (fun W => rZag_any z (by have := hz; omega) W)
              obtain ⟨zz, hzz⟩ : ∃ q, q = Tp.zag z := ⟨_, rfl⟩
              rw [← hzz] at HJ HZ
              rw [hr] at CT
              dsimp only [rcV] at CT
              obtain ⟨jn, hjn⟩ : ∃ q, q = k + 1 + u := ⟨_, rfl⟩
              rw [← hjn] at CT HJ hj1 hj2
              clear hr hz HSS hzz hjn
              go_upto_region 20 with fail
              rw [← hkd]
              rw [← hW1]
              clear hW1 hkd
              have H2 := hidT (HA.out.later K1.out)
              have e0 : W1.cell? ⟨wr.heap.size, 0, none⟩ = some (.int .i64 kd) := by simp [World.cell?, HX1.out]
              have e1 : W1.cell? ⟨wr.heap.size, 1, none⟩ = some (.int .i64 0) := by simp [World.cell?, HX1.out]
              have ef : W1.frozen? ⟨wr.heap.size, 1, none⟩ = false := by simp [World.frozen?, HX1.out]
              clear x0 x1 x2 u0 u1 u2 y0 y1 y2
              go_wp2_with fail
              refine (HHas.out W1).mono ?_
              rintro e w2 ⟨rfl, rfl⟩
              go_wp2_with fail
              refine CT.out.mono ?_
              rintro e w3 ⟨rfl, rfl⟩
              go_wp2_with fail
              refine (HZ.out _).mono ?_
              rintro e w4 ⟨rfl, rfl⟩
              have HX4 := hidT (heap_setCell_same _ wr.heap.size 1 _ _ (.int .i64 zz) HX1.out)
              have H4 := hidT (HA.out.later (K1.out.trans ⟨rfl, rfl, rfl, by simp, fun i hi => heap_setCell_other _ _ i _ (by simp; omega)⟩ : Below wr.heap.size wr (w4.setCell ⟨wr.heap.size, 1, none⟩ (.int .i64 zz))))
              clear H2
              go_upto_region 26 with fail
              clear e0 e1
              obtain ⟨W5, hW5⟩ : ∃ W, W = w4.setCell ⟨wr.heap.size, 1, none⟩ (.int .i64 zz) := ⟨_, rfl⟩
              rw [← hW5] at HX4 H4
              rw [← hW5]
              clear hW5 ef
              have e0 : W5.cell? ⟨wr.heap.size, 0, none⟩ = some (.int .i64 kd) := by simp [World.cell?, HX4.out]
              have e1 : W5.cell? ⟨wr.heap.size, 1, none⟩ = some (.int .i64 zz) := by simp [World.cell?, HX4.out]
              obtain ⟨x0, x1, x2⟩ := H4.out.cells
              have HEE : Hid (W5.ownsRow (w.heap.size + 2) 69 2 (.slice ea ne ec) ne (evC t.events)) := by have := H4.out.oe; rw [HNE.out]; rw [HNE.out] at this; exact this
              have HBE : Hid (w.heap.size + 2 ≤ W5.heap.size) := H4.out.lt
              have H63 : Hid (ne + 1 ≤ maxLen ∧ (ne + 1) * 16 ≤ 140737488355328) := by have := HLn.out; have := HNE.out; unfold Hid maxLen; omega
              go_wp2_with (at_builtin; refine wpList_appT rfl W5 _ _ 24 rfl (w.heap.size + 2) 69 i2 (.agg #[.int .i64 0, .int .i64 0]) 2 16 Try.underlying24 ki kz0 kz1 kz2 rfl (by decide) _ _ _ rfl HEE.out [.int .i64 kd, .int .i64 zz] rfl ⟨rfl, rfl, rfl, rfl⟩ rfl (two_u _ _) H63.out.1 H63.out.2 HBE.out ?_)
              intro v8 w8 h8 g8
              have F8 := H4.out.grE h8 g8 (congrArg (· + 1) HNE.out) (x := ⟨kd, zz⟩) (by simp [evC])
              have q8 := F8.1
              have p8 := F8.2.1
              have H8 := hidT F8.2.2
              obtain ⟨va8, vc8, hv8⟩ := ownShT h8
              subst hv8
              clear F8 h8 g8 x0 x1 x2 e0 e1
              go_wp2_with fail
              go_roundg gk
              case measure => omega
              case rel => exact ⟨jn, _, _, _, _, rfl, hj2, by omega, H8, by have := HR.out; simp; omega, by have := HR.out; simp [this], HJ.out.2⟩
        · have HP3 : Hid (post = .bad t k k 110) := by unfold Hid; rw [HST.out, if_neg c0, if_neg (by simp [Tp.bet]; omega), if_neg (by simp [Tp.bet]; omega)]; rfl
          clear HST wcb
          by_cases c17 : 17 ≤ cb
          · have q2 : decide (17 ≤ cb) = true := decide_eq_true c17
            have q3 : decide (cb ≤ 21) = false := decide_eq_false (by omega)
            obtain ⟨⟨z0, z1, z2⟩, o1, o2, o3, bF⟩ := HA.out.fin
            go_wp2_with fail
            generalize (((World.setCell wr ⟨w.heap.size, 0, none⟩ (.slice ta nt tc)).setCell ⟨w.heap.size, 1, none⟩ (.slice ca nc cc)).setCell ⟨w.heap.size, 2, none⟩ (.slice ea ne ec)) = W6 at *
            refine ⟨rfl, .tuple #[.agg #[.slice ta nt tc, .slice ca nc cc, .slice ea ne ec], .int .i64 (k : Int), .int .i64 (k : Int), .int .i64 110], by simp [results, Try.results55, go_sem, z0, z1, z2], ?_⟩
            rw [HP3.out]
            exact ⟨_, _, _, by first | rfl | (simp; done) | (simp; omega), o1, o2, o3, bF⟩
          · have q2 : decide (17 ≤ cb) = false := decide_eq_false c17
            obtain ⟨⟨z0, z1, z2⟩, o1, o2, o3, bF⟩ := HA.out.fin
            go_wp2_with fail
            generalize (((World.setCell wr ⟨w.heap.size, 0, none⟩ (.slice ta nt tc)).setCell ⟨w.heap.size, 1, none⟩ (.slice ca nc cc)).setCell ⟨w.heap.size, 2, none⟩ (.slice ea ne ec)) = W6 at *
            refine ⟨rfl, .tuple #[.agg #[.slice ta nt tc, .slice ca nc cc, .slice ea ne ec], .int .i64 (k : Int), .int .i64 (k : Int), .int .i64 110], by simp [results, Try.results55, go_sem, z0, z1, z2], ?_⟩
            rw [HP3.out]
            exact ⟨_, _, _, by first | rfl | (simp; done) | (simp; omega), o1, o2, o3, bF⟩
    · obtain rfl : k = n0 := by omega
      have d1 : decide ((k : Int) < (k : Int)) = false := decide_eq_false (by omega)
      have HP3 : Hid (post = .bad t k k 112) := by
        unfold Hid
        rw [HR.out.2.2, Tp.rds]
        simp only [Tp.step, List.getElem?_eq_none (Nat.le_of_eq HN.out.symm)]
      obtain ⟨⟨z0, z1, z2⟩, o1, o2, o3, bF⟩ := HA.out.fin
      go_wp2_with fail
      generalize (((World.setCell wr ⟨w.heap.size, 0, none⟩ (.slice ta nt tc)).setCell ⟨w.heap.size, 1, none⟩ (.slice ca nc cc)).setCell ⟨w.heap.size, 2, none⟩ (.slice ea ne ec)) = W6 at *
      refine ⟨rfl, .tuple #[.agg #[.slice ta nt tc, .slice ca nc cc, .slice ea ne ec], .int .i64 (k : Int), .int .i64 (k : Int), .int .i64 112], by simp [results, Try.results55, go_sem, z0, z1, z2], ?_⟩
      rw [HP3.out]
      exact ⟨_, _, _, by first | rfl | (simp; done) | (simp; omega), o1, o2, o3, bF⟩
end Go.Proofs.Ytneefpblfiedbaa
