/- Layer 15: the document's Regions, walked. -/
import Derived.Test.YthglhcabdadlpaaDoorAlDb
namespace Go.Proofs.YthglhcabdadlpaaDoor
open Go.RowKit
set_option linter.unusedVariables false
set_option linter.unusedSimpArgs false
set_option maxRecDepth 100000
def RrQ (w : World) (n m : Int) (l : List Al.Ev) (e : Ending) (w' : World) : Prop := ∃ v, e = .returned (.tuple #[v, .int .i64 (Al.regs n m l).2]) ∧ OwG w' w.heap.size 55 v (Al.regs n m l).1 ∧ Below w.heap.size w w'
theorem own63m {k n : Nat} (h : k + n ≤ 1000) : k + n ≤ maxLen ∧ (k + n) * 16 ≤ 140737488355328 := by unfold maxLen; omega
theorem rr_box (wr V : World) {a b c d : Value} {t : TypeId} (h1 : V.os = wr.os) (h2 : V.tape = wr.tape) (h3 : V.output = wr.output) (h : V.heap = (wr.alloc (.cells #[a, b, c, d] t)).heap) : Hid (Below wr.heap.size wr V ∧ V.heap[wr.heap.size]? = some (.cells #[a, b, c, d] t (0, 0))) := by
  have b := (Below.refl wr.heap.size wr).alloc (Nat.le_refl _) (.cells #[a, b, c, d] t)
  exact ⟨⟨h1, h2, h3, by rw [h]; exact b.size, fun i hi => by rw [h]; exact b.block i hi⟩, by rw [h]; exact Array.getElem?_push_size⟩
theorem rr_nums {k gk N K1 N2 : Nat} (hk : k + (gk + 1) = N + 1) (h1 : K1 = k + 1) (h2 : N2 = N + 2) (hN : N ≤ 900) : decide ((K1 : Int) < (N2 : Int)) = true ∧ decide (K1 < N2) = true ∧ K1 < N2 ∧ k ≤ N ∧ wrap64 ((K1 : Int) - 1) = (k : Int) ∧ IntKind.i64.wrap ((K1 : Int) - 1) = (k : Int) ∧ wrap64 ((K1 : Int) + 1) = ((K1 + 1 : Nat) : Int) := by
  refine ⟨decide_eq_true (by omega), decide_eq_true (by omega), by omega, by omega, by unfold wrap64; omega, by rw [IntKind.wrap_i64]; omega, by unfold wrap64; omega⟩
set_option maxHeartbeats 16000000 in
theorem rregs_any (w : World) (a : Option Addr) (ca : Nat) (l : List Al.Ev) (n m : Int) {B : Nat} (ha : EvR B w a l) (hB : B ≤ w.heap.size) (hl : l.length ≤ 900) (hn : n ≤ 9223372036854775807) (hm : m ≤ 9223372036854775807) :
    Calls Tryd.prog 23 #[.int .i64 n, .int .i64 m, .slice a l.length ca] w (RrQ w n m l) := by
  have HRI := hidA (rrises_any w a ca l n m ha hB (Nat.le_trans hl (by decide)))
  have HA := hidA ha
  have HBB := hidA hB
  have TLS : Hid (∀ (k : Nat) (q x : Al.Ev), k ≤ l.length → (Al.allP n m l)[k]? = some q → (Al.allP n m l)[k + 1]? = some x → Al.tl n m l k = Al.one (q.1 + 1) x.1 (q.2 + 1) x.2 ++ Al.tl n m l (k + 1)) := fun k q x h1 h2 h3 => Al.tl_step h1 h2 h3
  have TL0 := hidA (Al.tl_zero n m l)
  have TLE := hidA (Al.tl_end n m l)
  obtain ⟨Q, hQ⟩ : ∃ Q, Q = RrQ w n m l := ⟨_, rfl⟩
  have Q1 : Hid ((n < 0 ∨ m < 0) → ∀ w', Below w.heap.size w w' → Q (.returned (.tuple #[.slice none 0 0, .int .i64 1])) w') := fun h w' hb => by
    rw [hQ]
    refine ⟨.slice none 0 0, ?_⟩
    unfold Al.regs
    rw [if_pos h]
    exact ⟨rfl, OwG.nil _ _ _, hb⟩
  have Q2 : Hid (¬ (n < 0 ∨ m < 0) → Al.rise n m (-1, -1) l = false → ∀ w', Below w.heap.size w w' → Q (.returned (.tuple #[.slice none 0 0, .int .i64 90])) w') := fun h hr w' hb => by
    rw [hQ]
    refine ⟨.slice none 0 0, ?_⟩
    unfold Al.regs
    rw [if_neg h, hr]
    exact ⟨rfl, OwG.nil _ _ _, hb⟩
  have Q3 : Hid (¬ (n < 0 ∨ m < 0) → Al.rise n m (-1, -1) l = true → ∀ v w1 w', Below w.heap.size w w1 → OwG w' w1.heap.size 55 v (Al.gaps n m 0 0 l) → Below w1.heap.size w1 w' → Q (.returned (.tuple #[v, .int .i64 0])) w') := fun h hr v w1 w' hb ho h2 => by
    rw [hQ]
    refine ⟨v, ?_⟩
    unfold Al.regs
    rw [if_neg h, if_pos hr]
    exact ⟨rfl, ho.base hb.size, hb.trans (h2.mono hb.size)⟩
  rw [← hQ]
  clear hQ
  have APT : Hid (¬ (n < 0 ∨ m < 0) → Al.rise n m (-1, -1) l = true → ∀ k, k ≤ l.length → ∃ q x : Al.Ev, (Al.allP n m l)[k]? = some q ∧ (Al.allP n m l)[k + 1]? = some x ∧ (wrap64 (q.1 + 1) = q.1 + 1 ∧ IntKind.i64.wrap (q.1 + 1) = q.1 + 1) ∧ (wrap64 (q.2 + 1) = q.2 + 1 ∧ IntKind.i64.wrap (q.2 + 1) = q.2 + 1)) := fun h hr k hk => by
    obtain ⟨q, x, h1, h2, h3, h4, h5, h6⟩ := Al.allP_at (n := n) (m := m) hr (by omega) (by omega) hk
    exact ⟨q, x, h1, h2, wrJ _ n h3 h5 hn, wrJ _ m h4 h6 hm⟩
  obtain ⟨N, hN⟩ : ∃ N, N = l.length := ⟨_, rfl⟩
  have HN : Hid (N = l.length ∧ N ≤ 900) := ⟨hN, by rw [hN]; exact hl⟩
  rw [← hN] at HRI APT TLS TLE
  rw [← hN]
  clear ha hB hl hn hm hN
  by_cases c1 : n < 0
  · have d1 : decide (n < 0) = true := decide_eq_true c1
    have F := hidA (Q1.out (.inl c1) w (Below.refl _ _))
    clear Q1 Q2 Q3 HRI APT
    go_enter Tryd.func23, Tryd.ntmps23
    go_wp2_with fail
    exact F.out
  have d1 : decide (n < 0) = false := decide_eq_false c1
  by_cases c2 : m < 0
  · have d2 : decide (m < 0) = true := decide_eq_true c2
    have F := hidA (Q1.out (.inr c2) w (Below.refl _ _))
    clear Q1 Q2 Q3 HRI APT
    go_enter Tryd.func23, Tryd.ntmps23
    go_wp2_with fail
    exact F.out
  have d2 : decide (m < 0) = false := decide_eq_false c2
  have c3 : ¬ (n < 0 ∨ m < 0) := fun h => h.elim c1 c2
  have Q2' := hidA (Q2.out c3)
  have Q3' := hidA (Q3.out c3)
  have AP' := hidA (APT.out c3)
  clear Q1 Q2 Q3 APT c1 c2 c3
  obtain ⟨R, hR⟩ : ∃ R, R = Al.rise n m (-1, -1) l := ⟨_, rfl⟩
  rw [← hR] at HRI Q2' Q3' AP'
  clear hR
  cases R
  · have Q2'' := hidA (Q2'.out rfl)
    clear Q2' Q3' AP'
    go_enter Tryd.func23, Tryd.ntmps23
    go_wp2_with fail
    refine HRI.out.mono ?_
    rintro e w1 ⟨rfl, b1⟩
    have F := hidA (Q2''.out w1 b1)
    clear b1
    go_wp2_with fail
    exact F.out
  have Q3'' := hidA (Q3'.out rfl)
  have AP := hidA (AP'.out rfl)
  clear Q2' Q3' AP'
  obtain ⟨i0, hi, zi0, zi1, zi2⟩ := infoRp
  obtain ⟨j0, hj, zj0, zj1, zj2⟩ := infoRr
  have H63a := hidA (own63b (k := 0) (by decide))
  have H63b := hidA (own63m (k := 1) (n := N) (by have := HN.out.2; omega))
  have H63c := hidA (own63b (k := 1 + N) (by have := HN.out.2; omega))
  have ONEa := hidA (prC_one (-1, -1))
  have ONEb := hidA (prC_one (n, m))
  go_enter Tryd.func23, Tryd.ntmps23
  go_wp2_with fail
  refine HRI.out.mono ?_
  rintro e w1 ⟨rfl, b1⟩
  have B1 := hidA b1
  have E1 : Hid (∀ wz, Below w1.heap.size w1 wz → EvR B wz a l) := fun wz hz => (HA.out.later B1.out HBB.out).later hz (Nat.le_trans HBB.out B1.out.size)
  clear b1 HRI
  have ON0 : Hid (w1.ownsRow w1.heap.size 66 2 (.slice none 0 0) 0 []) := World.ownsRow_nil _ _ _ _
  go_wp2_with (at_builtin; refine wpList_append_tolA rfl _ _ 33 rfl w1.heap.size 66 i0 (.agg #[.int .i64 0, .int .i64 0]) 2 16 Tryd.underlying33 hi zi0 zi1 zi2 rfl (by decide) _ _ _ rfl (ownA ON0.out ((Below.refl _ _).alloc (Nat.le_refl _) _)) ⟨w1.heap.size, 0, none⟩ 1 1 [.int .i64 (-1), .int .i64 (-1)] rfl rfl (two2 _ _ _ _) ONEa.out H63a.out.1 H63a.out.2 (by simp) (by decide) ?_)
  intro v8 w8 h8 g8 o8
  have G1 := OwP.grown (wr := w1) (base := w1.heap.size) (v := .slice none 0 0) (l := []) (e := (-1, -1)) ON0.out (Nat.le_refl _) h8 g8
  obtain ⟨s1, k1, rfl, -, hk1⟩ := G1.1.ev
  have O1 := hidA G1.1
  have B8 := hidA G1.2
  clear h8 g8 o8 G1
  have E9 : Hid (([(-1, -1)] ++ l : List Al.Ev).length = 1 + N) := by unfold Hid; rw [List.length_append, ← HN.out.1]; rfl
  have MK2 : Hid (∀ (v9 : Value) (w9 : World), OwP w9 w1.heap.size 66 v9 ([(-1, -1)] ++ l) → ∃ s2 k2, v9 = .slice s2 (1 + N) k2 ∧ OwP w9 w1.heap.size 66 (.slice s2 (1 + N) k2) ([(-1, -1)] ++ l) ∧ w9.ownsRow w1.heap.size 66 2 (.slice s2 (1 + N) k2) (1 + N) (prC ([(-1, -1)] ++ l))) := fun v9 w9 h9 => by
    obtain ⟨s2, k2, e2, -, -⟩ := h9.ev
    rw [E9.out] at e2
    subst e2
    refine ⟨s2, k2, rfl, h9, ?_⟩
    have h : w9.ownsRow w1.heap.size 66 2 (.slice s2 (1 + N) k2) ([(-1, -1)] ++ l : List Al.Ev).length (prC ([(-1, -1)] ++ l)) := h9
    rw [E9.out] at h
    exact h
  go_wp2_with (first
    | (have qq := OR2.out; at_builtin; refine wpList_append_tolA rfl _ _ 33 rfl w1.heap.size 66 i0 (.agg #[.int .i64 0, .int .i64 0]) 2 16 Tryd.underlying33 hi zi0 zi1 zi2 rfl (by decide) _ _ _ rfl (ownA OR2.out ((Below.refl _ _).alloc (Nat.le_refl _) _)) ⟨w9.heap.size, 0, none⟩ 1 1 [.int .i64 n, .int .i64 m] rfl rfl (two2 _ _ _ _) ONEb.out H63c.out.1 H63c.out.2 (Nat.le_trans B9.out.size ((Below.refl w9.heap.size w9).alloc (Nat.le_refl _) _).size) (by decide) ?_)
    | (at_builtin; refine wpList_plain rfl fun _ hK => ?_; refine wp_app_more _ _ 33 rfl w1.heap.size 66 i0 (.agg #[.int .i64 0, .int .i64 0]) 16 Tryd.underlying33 hi zi0 zi1 zi2 rfl s1 1 k1 hk1 [(-1, -1)] rfl rfl O1.out a N ca l rfl HN.out.1 (E1.out _ B8.out) H63b.out.1 H63b.out.2 B8.out.size ?_; intro v9 w9 h9 g9; obtain ⟨s2, k2, rfl, o2, or2⟩ := MK2.out v9 w9 h9; have O2 := hidA o2; have OR2 := hidA or2; have B9 : Hid (Below w1.heap.size w1 w9) := B8.out.trans g9; clear h9 g9 o2 or2; refine hK _ _ ?_))
  intro va wa ha ga o8
  have G2 : OwP wa w1.heap.size 66 va (Al.allP n m l) ∧ Below w1.heap.size w9 wa := by
    have e9 : ([(-1, -1)] ++ l : List Al.Ev).length = 1 + N := E9.out
    have h := OwP.grown (e := (n, m)) O2.out B9.out.size (by rw [e9]; exact ha) ga
    rw [List.append_assoc] at h
    exact h
  obtain ⟨s3, k3, rfl, ev3, -⟩ := G2.1.ev
  have E3 := hidA ev3
  have BA : Hid (Below w1.heap.size w1 wa) := B9.out.trans G2.2
  have el : (Al.allP n m l).length = N + 2 := by rw [Al.allP_len, ← HN.out.1]
  rw [el]
  clear ha ga o8 G2 ev3 O2 OR2 B8 B9
  have E4 : Hid (∀ wz, Below wa.heap.size wa wz → EvR wa.heap.size wz s3 (Al.allP n m l)) := fun wz hz => E3.out.later hz (Nat.le_refl _)
  have SW : Hid (w1.heap.size ≤ wa.heap.size) := BA.out.size
  obtain ⟨N2, hN2⟩ : ∃ N2, N2 = N + 2 := ⟨_, rfl⟩
  have HN2 := hidA hN2
  rw [← hN2]
  clear hN2 el
  go_wp2_with fail
  go_loopg [9, 10] (N + 1) (fun gk y9 y10 wr => ∃ (k K1 : Nat) (acc : List Al.Rg), k + gk = N + 1 ∧ y10 = .int .i64 (K1 : Int) ∧ Hid (K1 = k + 1) ∧ Hid (OwG wr wa.heap.size 55 y9 acc ∧ Below wa.heap.size wa wr ∧ acc ++ Al.tl n m l k = Al.gaps n m 0 0 l ∧ acc.length ≤ k))
  case atStart => exact ⟨0, 1, [], by omega, rfl, rfl, OwG.nil _ _ _, Below.refl _ _, TL0.out, Nat.le_refl _⟩
  case round =>
    obtain ⟨k, K1, acc, hk, rfl, HK1, RR⟩ := hrel
    rcases gk with _ | gk
    · obtain rfl : k = N + 1 := by omega
      have dk : decide ((K1 : Int) < (N2 : Int)) = false := decide_eq_false (by have := HN2.out; have := HK1.out; omega)
      have dk2 : decide (K1 < N2) = false := decide_eq_false (by have := HN2.out; have := HK1.out; omega)
      have F : Hid (Q (.returned (.tuple #[u9, .int .i64 0])) wr) := by
        have h := RR.out.2.2.1
        rw [TLE.out, List.append_nil] at h
        have ho := RR.out.1
        rw [h] at ho
        exact Q3''.out u9 w1 wr B1.out (ho.base SW.out) (BA.out.trans (RR.out.2.1.mono SW.out))
      clear RR
      go_wp2_with fail
      exact F.out
    · obtain ⟨dk, dk2, hKN, hkN, eK, eK2, eK3⟩ := rr_nums (by exact hk) HK1.out HN2.out HN.out.2
      obtain ⟨q, x, hq, hx, ⟨w1a, w1b⟩, ⟨w2a, w2b⟩⟩ := AP.out k hkN
      obtain ⟨g, o, rfl, hg, cs⟩ := E4.out wr RR.out.2.1 (by rw [Al.allP_len]; exact Nat.succ_pos _)
      have a0 := (cs k q hq).1
      have a1 := (cs k q hq).2
      have hx' : (Al.allP n m l)[K1]? = some x := by rw [HK1.out]; exact hx
      have b0 := (cs K1 x hx').1
      have b1 := (cs K1 x hx').2
      have STP := hidA (TLS.out k q x hkN hq hx)
      obtain ⟨i1, i2, i3⟩ := ix_nums hKN
      obtain ⟨j1, j2, j3⟩ := ix_nums (show k < N2 from Nat.lt_trans (by rw [HK1.out]; exact Nat.lt_succ_self k) hKN)
      have hgw : g < wr.heap.size := Nat.lt_of_lt_of_le hg RR.out.2.1.size
      have ga0 : ∀ z, (wr.alloc z).cell? ⟨g, o + k * 2, none⟩ = some (.int .i64 q.1) := fun z => (((Below.refl wr.heap.size wr).alloc (Nat.le_refl _) z).cell (p := ⟨g, _, none⟩) hgw).trans a0
      have ga1 : ∀ z, (wr.alloc z).cell? ⟨g, o + k * 2 + 1, none⟩ = some (.int .i64 q.2) := fun z => (((Below.refl wr.heap.size wr).alloc (Nat.le_refl _) z).cell (p := ⟨g, _, none⟩) hgw).trans a1
      have gb0 : ∀ z, (wr.alloc z).cell? ⟨g, o + K1 * 2, none⟩ = some (.int .i64 x.1) := fun z => (((Below.refl wr.heap.size wr).alloc (Nat.le_refl _) z).cell (p := ⟨g, _, none⟩) hgw).trans b0
      have gb1 : ∀ z, (wr.alloc z).cell? ⟨g, o + K1 * 2 + 1, none⟩ = some (.int .i64 x.2) := fun z => (((Below.refl wr.heap.size wr).alloc (Nat.le_refl _) z).cell (p := ⟨g, _, none⟩) hgw).trans b1
      clear cs hq hx hx' hgw
      generalize q.1 = q1 at *
      generalize q.2 = q2 at *
      generalize x.1 = x1 at *
      generalize x.2 = x2 at *
      obtain ⟨A1, hA1⟩ : ∃ A1, A1 = q1 + 1 := ⟨_, rfl⟩
      obtain ⟨A2, hA2⟩ : ∃ A2, A2 = q2 + 1 := ⟨_, rfl⟩
      rw [← hA1] at STP
      rw [← hA2] at STP
      have v1a : wrap64 (q1 + 1) = A1 := by rw [hA1]; exact w1a
      have v1b : IntKind.i64.wrap (q1 + 1) = A1 := by rw [hA1]; exact w1b
      have v2a : wrap64 (q2 + 1) = A2 := by rw [hA2]; exact w2a
      have v2b : IntKind.i64.wrap (q2 + 1) = A2 := by rw [hA2]; exact w2b
      clear hA1 hA2 w1a w1b w2a w2b
      go_upto_region 11 with fail
      go_cut [11] from 40 to 65 (fun s11 wx => ∃ gb, s11 = .pointer (some ⟨gb, 0, none⟩) ∧ Hid (Below wr.heap.size wr wx ∧ wx.heap[gb]? = some (.cells #[.int .i64 A1, .int .i64 x1, .int .i64 A2, .int .i64 x2] 55 (0, 0))))
      case first =>
        go_region
        all_goals
          go_wp2_with fail
          go_meet
          refine ⟨wr.heap.size, rfl, ?_⟩
          (try rw [v1a, v2a])
          exact rr_box wr _ rfl rfl rfl rfl
      case rest =>
        obtain ⟨gb, rfl, CC⟩ := hcut
        obtain ⟨z0, z1, z2, z3, -, -, -, -⟩ := box4 CC.out.2
        have OG : Hid (OwG wc wa.heap.size 55 u9 acc ∧ Below wa.heap.size wa wc) := ⟨RR.out.1.later CC.out.1, RR.out.2.1.trans (CC.out.1.mono RR.out.2.1.size)⟩
        have LEN : Hid (acc.length ≤ k) := RR.out.2.2.2
        have EQ : Hid (acc ++ Al.tl n m l k = Al.gaps n m 0 0 l) := RR.out.2.2.1
        have SC : Hid (wa.heap.size ≤ wc.heap.size) := OG.out.2.size
        obtain ⟨LN, hLN⟩ : ∃ LN, LN = acc.length := ⟨_, rfl⟩
        have OR3 : Hid (wc.ownsRow wa.heap.size 55 4 u9 LN (rgC acc)) := by rw [hLN]; exact OG.out.1
        have H63 := hidA (own63g (k := LN) (by rw [hLN]; exact Nat.le_trans LEN.out (Nat.le_trans hkN (Nat.le_trans HN.out.2 (by decide)))))
        have ONE := hidA (rg_one A1 x1 A2 x2)
        have HK2 : Hid (K1 + 1 = k + 1 + 1) := by unfold Hid; rw [HK1.out]
        have EK3 := hidA eK3
        have FY : Hid ((A1 < x1 ∨ A2 < x2) → ∀ v8 w8, w8.ownsRow wa.heap.size 55 4 v8 (LN + 1) (rgC acc ++ [.int .i64 A1, .int .i64 x1, .int .i64 A2, .int .i64 x2]) → (wc.alloc (.cells #[.int .i64 A1, .int .i64 x1, .int .i64 A2, .int .i64 x2] 55)).grownBy w8 u9.ownBlock → OwG w8 wa.heap.size 55 v8 (acc ++ [⟨A1, x1, A2, x2⟩]) ∧ Below wa.heap.size wa w8 ∧ (acc ++ [⟨A1, x1, A2, x2⟩]) ++ Al.tl n m l (k + 1) = Al.gaps n m 0 0 l ∧ (acc ++ [⟨A1, x1, A2, x2⟩] : List Al.Rg).length ≤ k + 1) := fun hc v8 w8 h8 g8 => by
          refine ⟨?_, ?_, ?_, ?_⟩
          · unfold OwG
            rw [rgC_app, List.length_append, ← hLN]
            exact h8
          · exact OG.out.2.trans (((Below.refl wa.heap.size wc).alloc SC.out _).trans ⟨g8.os, g8.tape, g8.output, g8.size, fun i hi => g8.block i (by have := SC.out; simp; omega) (fun e => by have := (World.ownsRow.lt OR3.out _ e.symm).1; omega)⟩)
          · rw [List.append_assoc, ← EQ.out, STP.out]
            unfold Al.one
            rw [if_pos hc]
          · rw [List.length_append]
            exact Nat.succ_le_succ LEN.out
        have FN : Hid (¬ (A1 < x1 ∨ A2 < x2) → OwG wc wa.heap.size 55 u9 acc ∧ Below wa.heap.size wa wc ∧ acc ++ Al.tl n m l (k + 1) = Al.gaps n m 0 0 l ∧ acc.length ≤ k + 1) := fun hc => by
          refine ⟨OG.out.1, OG.out.2, ?_, Nat.le_succ_of_le LEN.out⟩
          rw [← EQ.out, STP.out]
          unfold Al.one
          rw [if_neg hc]
          rfl
        clear RR STP EQ hLN a0 a1 b0 b1 ga0 ga1 gb0 gb1 eK eK2 eK3
        by_cases e1 : A1 < x1
        · have f1 : decide (A1 < x1) = true := decide_eq_true e1
          have FZ := hidA (FY.out (.inl e1))
          clear FY FN e1
          go_wp2_with (at_builtin; refine wpList_append_tolA rfl _ _ 46 rfl wa.heap.size 55 j0 (.agg #[.int .i64 0, .int .i64 0, .int .i64 0, .int .i64 0]) 4 32 Tryd.underlying46 hj zj0 zj1 zj2 rfl (by decide) _ _ _ rfl (ownA OR3.out ((Below.refl _ _).alloc (Nat.le_refl _) _)) ⟨wc.heap.size, 0, none⟩ 1 1 [.int .i64 A1, .int .i64 x1, .int .i64 A2, .int .i64 x2] rfl rfl (four4A _ _ _ _ _ _) ONE.out H63.out.1 H63.out.2 (Nat.le_trans SC.out ((Below.refl wc.heap.size wc).alloc (Nat.le_refl _) _).size) (by decide) ?_)
          intro v8 w8 h8 g8 o8
          have F8 := hidA (FZ.out v8 w8 h8 g8)
          clear h8 g8 o8
          go_wp2_with fail
          go_roundg gk
          case measure => omega
          case rel => exact ⟨k + 1, K1 + 1, _, by omega, congrArg _ EK3.out, HK2, F8⟩
        have f1 : decide (A1 < x1) = false := decide_eq_false e1
        by_cases e2 : A2 < x2
        · have f2 : decide (A2 < x2) = true := decide_eq_true e2
          have FZ := hidA (FY.out (.inr e2))
          clear FY FN e1 e2
          go_wp2_with (at_builtin; refine wpList_append_tolA rfl _ _ 46 rfl wa.heap.size 55 j0 (.agg #[.int .i64 0, .int .i64 0, .int .i64 0, .int .i64 0]) 4 32 Tryd.underlying46 hj zj0 zj1 zj2 rfl (by decide) _ _ _ rfl (ownA OR3.out ((Below.refl _ _).alloc (Nat.le_refl _) _)) ⟨wc.heap.size, 0, none⟩ 1 1 [.int .i64 A1, .int .i64 x1, .int .i64 A2, .int .i64 x2] rfl rfl (four4A _ _ _ _ _ _) ONE.out H63.out.1 H63.out.2 (Nat.le_trans SC.out ((Below.refl wc.heap.size wc).alloc (Nat.le_refl _) _).size) (by decide) ?_)
          intro v8 w8 h8 g8 o8
          have F8 := hidA (FZ.out v8 w8 h8 g8)
          clear h8 g8 o8
          go_wp2_with fail
          go_roundg gk
          case measure => omega
          case rel => exact ⟨k + 1, K1 + 1, _, by omega, congrArg _ EK3.out, HK2, F8⟩
        have f2 : decide (A2 < x2) = false := decide_eq_false e2
        have FZ := hidA (FN.out (fun h => h.elim e1 e2))
        clear FY FN e1 e2
        go_wp2_with fail
        go_roundg gk
        case measure => omega
        case rel => exact ⟨k + 1, K1 + 1, acc, by omega, congrArg _ EK3.out, HK2, FZ⟩
end Go.Proofs.YthglhcabdadlpaaDoor
