/- Layer 4: the document's Stmt; both Counts. -/
/- Layer 4, plain: a right program with one procedure more behind it. -/
/- Layer 4: what Check tells as wrong is never OK. Plain. -/
/- Layer 4: the fixed calls (known). -/
/- CheckMore walked: for every program and procedure in memory. -/
import Derived.Test.YtobiedmmjiedlaaZCmI
import Derived.Test.YtobiedmmjiedlaaZStD
import Derived.Test.YtobiedmmjiedlaaZCkY
namespace Go.Proofs.Ytobiedmmjiedlaa
open Go.RowKit
set_option linter.unusedVariables false
set_option linter.unusedSimpArgs false
theorem ckCountP_any (x : Sy.Pc) (pa : Option Addr) (pc : Nat) (ba : Option Addr) (bc : Nat) (w : World) (hs : SmS (fun _ => True) w (.slice ba x.body.length bc) x.body) (hB : PcB x) :
    Calls Try.prog 9 #[pcV x pa pc ba bc] w fun e w' => e = .returned (.int .i64 (Sy.cts x.body : Nat)) ∧ Below w.heap.size w w' := by
  have EN := hidC (fun (W : World) (q : Below w.heap.size w W) => ckCount_any x.body (fun _ => True) ba bc W (Nat.le_trans (Nat.le_trans (Nat.le_add_left _ _) hB.1) (by decide)) (hs.later q (Nat.le_refl _)))
  unfold pcV
  obtain ⟨pn, hpn⟩ : ∃ n, n = x.params.length := ⟨_, rfl⟩
  obtain ⟨N, hN⟩ : ∃ n, n = x.body.length := ⟨_, rfl⟩
  rw [← hN] at EN
  rw [← hpn, ← hN]
  clear hs hB hpn hN
  go_enter Try.func9, Try.ntmps9
  go_wp2_with fail
  refine (EN.out _ (by go_grown)).mono ?_
  rintro e w1 ⟨rfl, k1⟩
  have K1 : Hid (Below w.heap.size w w1) := Below.trans (by go_grown) (k1.mono (by go_size))
  clear k1
  go_wp2_with fail
  go_ret
  exact ⟨rfl, K1.out⟩
theorem rCountP_any (x : Sy.Pc) (pa : Option Addr) (pc : Nat) (ba : Option Addr) (bc : Nat) (w : World) (hs : SmS (fun _ => True) w (.slice ba x.body.length bc) x.body) (hB : PcB x) :
    Calls Try.prog 10 #[pcV x pa pc ba bc] w fun e w' => e = .returned (.int .i64 (Sy.cts x.body : Nat)) ∧ Below w.heap.size w w' := by
  have EN := hidC (fun (W : World) (q : Below w.heap.size w W) => total_any x.body (fun _ => True) ba bc W (Nat.le_trans (Nat.le_trans (Nat.le_add_left _ _) hB.1) (by decide)) (hs.later q (Nat.le_refl _)))
  unfold pcV
  obtain ⟨pn, hpn⟩ : ∃ n, n = x.params.length := ⟨_, rfl⟩
  obtain ⟨N, hN⟩ : ∃ n, n = x.body.length := ⟨_, rfl⟩
  rw [← hN] at EN
  rw [← hpn, ← hN]
  clear hs hB hpn hN
  go_enter Try.func10, Try.ntmps10
  go_wp2_with fail
  refine (EN.out _ (by go_grown)).mono ?_
  rintro e w1 ⟨rfl, k1⟩
  have K1 : Hid (Below w.heap.size w w1) := Below.trans (by go_grown) (k1.mono (by go_size))
  clear k1
  go_wp2_with fail
  go_ret
  exact ⟨rfl, K1.out⟩
set_option maxRecDepth 100000 in
set_option maxHeartbeats 4000000 in
theorem rStmtAt_any (x : Sy.Pc) (pa : Option Addr) (pc : Nat) (ba : Option Addr) (bc : Nat) (q : Int) (w : World) (hs : SmS (fun _ => True) w (.slice ba x.body.length bc) x.body) (hB : PcB x) (hq : q ≤ 9223372036854775807) :
    Calls Try.prog 7 #[pcV x pa pc ba bc, .int .i64 q] w (StQ w x.body q) := by
  obtain ⟨M, hM⟩ : ∃ M, M = w.heap.size := ⟨_, rfl⟩
  have HMM := hidC hM
  unfold pcV
  obtain ⟨W0, hW0⟩ : ∃ W, W = (w.alloc (.cells #[.string ⟨x.name.toArray⟩, .slice pa x.params.length pc, .int .i64 x.type, .slice ba x.body.length bc] 25)).alloc (.cells #[.int .i64 0, .string ⟨#[]⟩, .string ⟨#[]⟩, .int .i64 0, .slice none 0 0, .slice none 0 0, .slice none 0 0] 33) := ⟨_, rfl⟩
  obtain ⟨z1, z2, z3⟩ := bs_two w (.cells #[.string ⟨x.name.toArray⟩, .slice pa x.params.length pc, .int .i64 x.type, .slice ba x.body.length bc] 25) (.cells #[.int .i64 0, .string ⟨#[]⟩, .string ⟨#[]⟩, .int .i64 0, .slice none 0 0, .slice none 0 0, .slice none 0 0] 33)
  have K0 : Hid (Below w.heap.size w W0) := by rw [hW0]; exact ⟨z3.os, z3.tape, z3.output, z3.size, z3.block⟩
  have S0 : Hid (W0.heap.size = M + 2) := by rw [hW0, hM]; exact hidC (by simp)
  have B0 : Hid (Bs W0 (M + 1) (.int .i64 0) (.string ⟨#[]⟩) (.string ⟨#[]⟩) (.int .i64 0) (.slice none 0 0) (.slice none 0 0) (.slice none 0 0)) := by rw [hW0, hM]; exact z2
  have P0 : Hid (W0.heap[M]? = some (.cells #[.string ⟨x.name.toArray⟩, .slice pa x.params.length pc, .int .i64 x.type, .slice ba x.body.length bc] 25)) := by rw [hW0, hM]; exact z1
  have hct : Sy.cts x.body ≤ 1000000 := Nat.le_trans (Nat.le_add_left _ _) hB.1
  have HRow := hidC (row_any x.body hct w.heap.size ba bc W0 1 (by decide) (by omega) ((hs.mono (A' := fun g => g < w.heap.size) fun g hg _ => hg).later K0.out (Nat.le_refl _)) K0.out.size)
  obtain ⟨pn, hpn⟩ : ∃ n, n = x.params.length := ⟨_, rfl⟩
  obtain ⟨N, hN⟩ : ∃ n, n = x.body.length := ⟨_, rfl⟩
  obtain ⟨nm, hnm⟩ : ∃ n, n = x.name := ⟨_, rfl⟩
  obtain ⟨ty, hty⟩ : ∃ n, n = x.type := ⟨_, rfl⟩
  obtain ⟨bd, hbd⟩ : ∃ n, n = x.body := ⟨_, rfl⟩
  obtain ⟨T, hT⟩ : ∃ T, T = Sy.cts bd := ⟨_, rfl⟩
  have HT := hidC hT
  have HTL : Hid (T ≤ 1000000) := by rw [hT, hbd]; exact hct
  have hq' := hidC hq
  rw [← hpn, ← hN, ← hnm, ← hty] at P0 hW0
  rw [← hN, ← hbd] at HRow
  rw [← hpn, ← hN, ← hnm, ← hty, ← hbd]
  clear hs hB hpn hN hnm hty hbd hq z1 z2 z3 hct hT
  have p3 : W0.cell? ⟨M, 3, none⟩ = some (.slice ba N bc) := by simp [World.cell?, P0.out]
  have ITS : Hid ((Sy.its 1 bd).length = T) := by rw [HT.out]; exact Sy.itl_len _ _ _
  go_enter Try.func7, Try.ntmps7
  go_upto_region 1 with fail
  rw [← hW0, ← hM]
  clear hW0 hM
  go_wp2_with fail
  refine HRow.out.mono ?_
  rintro e1 w1 ⟨v1, cells, rfl, r1, k1⟩
  obtain ⟨va, vc, hv⟩ := own_shape r1.own
  rw [ITS.out] at hv
  subst hv
  have R1 := hidC r1
  have B1 := hidC (B0.out.later k1 (n := 0))
  have K1 := hidC (K0.out.trans (k1.mono K0.out.size))
  clear r1 k1 p3 HRow
  have hlo : Hid (w.heap.size ≤ M + 1) := by rw [HMM.out]; exact Nat.le_succ _
  by_cases h1 : q < 1 ∨ (T : Int) < q
  · have NO := hidC (fun w' (b : Below w.heap.size w w') => StQ.no (w := w) (l := bd) (q := q) (by have := HT.out; omega) b)
    have B2 := hidC (B1.out.set7 (.int .i64 0) (.string ⟨#[]⟩) (.string ⟨#[]⟩) (.int .i64 0) (.slice none 0 0) (.slice none 0 0) (.slice none 0 0))
    have K2 := hidC (sets7_below K1.out hlo.out (.int .i64 0) (.string ⟨#[]⟩) (.string ⟨#[]⟩) (.int .i64 0) (.slice none 0 0) (.slice none 0 0) (.slice none 0 0))
    go_upto_region 2 with fail
    go_cut [17] from 10 to 17 (fun s wx => s = .bool true ∧ wx = w1)
    case first =>
      by_cases h2 : q < 1
      · have d1 : decide (q < 1) = true := decide_eq_true h2
        go_wp2_with fail
        go_meet
        exact ⟨rfl, rfl⟩
      · have d1 : decide (q < 1) = false := decide_eq_false h2
        have d2 : decide ((T : Int) < q) = true := decide_eq_true (by omega)
        go_wp2_with fail
        go_meet
        exact ⟨rfl, rfl⟩
    case rest =>
      obtain ⟨rfl, rfl⟩ := hcut
      obtain ⟨c0, c1, c2, c3, c4, c5, c6⟩ := B1.out.cells
      obtain ⟨f0, f1, f2, f3, f4, f5, f6⟩ := B1.out.fzs
      go_upto_region 3 with fail
      go_cut [5] from 18 to 18 (fun s5 wx => s5 = .bool false ∧ EnB w (M + 1) (.int .i64 0) (.string ⟨#[]⟩) (.string ⟨#[]⟩) (.int .i64 0) (.slice none 0 0) (.slice none 0 0) (.slice none 0 0) wx)
      case first =>
        go_wp2_with fail
        go_meet
        exact ⟨rfl, B2.out, K2.out⟩
      case rest =>
        obtain ⟨rfl, E1⟩ := hcut
        have HE := hidC E1
        clear E1 c0 c1 c2 c3 c4 c5 c6 f0 f1 f2 f3 f4 f5 f6 B2 K2
        obtain ⟨d0, d1', d2, d3, d4, d5, d6⟩ := HE.out.1.cells
        go_wp2_with fail
        exact ⟨rfl, .tuple #[.agg #[.int .i64 0, .string ⟨#[]⟩, .string ⟨#[]⟩, .int .i64 0, .slice none 0 0, .slice none 0 0, .slice none 0 0], .bool false], by simp [results, Try.results7, go_sem, d0, d1', d2, d3, d4, d5, d6], NO.out _ HE.out.2⟩
  · obtain ⟨R, hR⟩ : ∃ R : Nat, q = (R : Int) + 1 := ⟨(q - 1).toNat, by omega⟩
    subst hR
    have d1 : decide ((R : Int) + 1 < 1) = false := decide_eq_false (by omega)
    have d2 : decide ((T : Int) < (R : Int) + 1) = false := decide_eq_false (by omega)
    have hRT : R < T := by omega
    obtain ⟨y, hy⟩ : ∃ y, (Sy.its 1 bd)[R]? = some y := ⟨_, List.getElem?_eq_getElem (by rw [ITS.out]; exact hRT)⟩
    obtain ⟨k, n, p, m, sa, sc, ba', bc', la, lc, e, b, ll, hy1, hcl, hxe, hxb, hxl⟩ := R1.out.mad R y hy
    have hx : (Sy.rws bd)[R]? = some (.mk k n p m e b ll) := by
      have h := Sy.itl_fst (1 + (Sy.cts bd : Nat) - 1) 1 bd
      rw [← h, List.getElem?_map, show (Sy.itl (1 + (Sy.cts bd : Nat) - 1) 1 bd)[R]? = some y from hy, ← hy1]
      rfl
    have EQ : Hid (Sy.mkAt bd ((R : Int) + 1) = .mk k n p m e b ll) := Sy.mkAt_some (q := R + 1) (by omega) (by rw [← HT.out]; omega) hx
    have YIS : Hid (Sy.mkIs bd ((R : Int) + 1) = true) := hidC (decide_eq_true (by have := HT.out; omega))
    have hcs := @World.ownsRow.cells _ _ _ _ _ _ _ R1.out.own
    obtain ⟨g, hva⟩ : ∃ g, va = some ⟨g, 0, none⟩ := by
      rcases R1.out.own.2 with ⟨e1, e2⟩ | ⟨g, cap, cur, e1, _⟩
      · rw [ITS.out] at e2; omega
      · injection e1 with q1 _ _; exact ⟨g, q1⟩
    subst hva
    have key : ∀ (i : Nat) (u : Value), (ItV k n p m (.slice sa e.length sc) (.slice ba' b.length bc') (.slice la ll.length lc) y.2)[i]? = some u → w1.cell? ⟨g, R * 8 + i, none⟩ = some u := by
      intro i u hu
      have h := hcs rfl _ u (hcl i u hu)
      have e : (⟨g, 0, none⟩ : Addr).add (R * 8 + i) = ⟨g, R * 8 + i, none⟩ := by unfold Addr.add; split <;> simp_all
      rw [e] at h
      exact h
    obtain ⟨en, hen⟩ : ∃ n, n = e.length := ⟨_, rfl⟩
    obtain ⟨bn, hbn⟩ : ∃ n, n = b.length := ⟨_, rfl⟩
    obtain ⟨ln, hln⟩ : ∃ n, n = ll.length := ⟨_, rfl⟩
    have HEN := hidC hen
    have HBN := hidC hbn
    have HLN := hidC hln
    rw [← hen, ← hbn, ← hln] at key
    have l0 : w1.cell? ⟨g, R * 8, none⟩ = some (.int .i64 k) := key 0 _ rfl
    have l1 := key 1 _ rfl
    have l2 := key 2 _ rfl
    have l3 := key 3 _ rfl
    have l4 := key 4 _ rfl
    have l5 := key 5 _ rfl
    have l6 := key 6 _ rfl
    have wR : wrap64 ((R : Int) + 1 - 1) = (R : Int) := by have := HTL.out; unfold wrap64; omega
    have wR2 : wrap64 (R : Int) = (R : Int) := by have := HTL.out; unfold wrap64; omega
    have nA : ∀ g, g < w.heap.size → ¬ (M + 1 < w.heap.size) := fun g _ h => by have := HMM.out; omega
    have nM : ¬ (M + 1 < w.heap.size) := by have := HMM.out; omega
    have FIN : Hid (EnB w (M + 1) (.int .i64 k) (.string ⟨n.toArray⟩) (.string ⟨p.toArray⟩) (.int .i64 m) (.slice sa en sc) (.slice ba' bn bc') (.slice la ln lc) (((((((w1.setCell ⟨M + 1, 0, none⟩ (.int .i64 k)).setCell ⟨M + 1, 1, none⟩ (.string ⟨n.toArray⟩)).setCell ⟨M + 1, 2, none⟩ (.string ⟨p.toArray⟩)).setCell ⟨M + 1, 3, none⟩ (.int .i64 m)).setCell ⟨M + 1, 4, none⟩ (.slice sa en sc)).setCell ⟨M + 1, 5, none⟩ (.slice ba' bn bc')).setCell ⟨M + 1, 6, none⟩ (.slice la ln lc)) ∧ ExS (fun _ => True) (((((((w1.setCell ⟨M + 1, 0, none⟩ (.int .i64 k)).setCell ⟨M + 1, 1, none⟩ (.string ⟨n.toArray⟩)).setCell ⟨M + 1, 2, none⟩ (.string ⟨p.toArray⟩)).setCell ⟨M + 1, 3, none⟩ (.int .i64 m)).setCell ⟨M + 1, 4, none⟩ (.slice sa en sc)).setCell ⟨M + 1, 5, none⟩ (.slice ba' bn bc')).setCell ⟨M + 1, 6, none⟩ (.slice la ln lc)) (.slice sa en sc) e ∧ SmS (fun _ => True) (((((((w1.setCell ⟨M + 1, 0, none⟩ (.int .i64 k)).setCell ⟨M + 1, 1, none⟩ (.string ⟨n.toArray⟩)).setCell ⟨M + 1, 2, none⟩ (.string ⟨p.toArray⟩)).setCell ⟨M + 1, 3, none⟩ (.int .i64 m)).setCell ⟨M + 1, 4, none⟩ (.slice sa en sc)).setCell ⟨M + 1, 5, none⟩ (.slice ba' bn bc')).setCell ⟨M + 1, 6, none⟩ (.slice la ln lc)) (.slice ba' bn bc') b ∧ SmS (fun _ => True) (((((((w1.setCell ⟨M + 1, 0, none⟩ (.int .i64 k)).setCell ⟨M + 1, 1, none⟩ (.string ⟨n.toArray⟩)).setCell ⟨M + 1, 2, none⟩ (.string ⟨p.toArray⟩)).setCell ⟨M + 1, 3, none⟩ (.int .i64 m)).setCell ⟨M + 1, 4, none⟩ (.slice sa en sc)).setCell ⟨M + 1, 5, none⟩ (.slice ba' bn bc')).setCell ⟨M + 1, 6, none⟩ (.slice la ln lc)) (.slice la ln lc) ll) :=
      ⟨⟨B1.out.set7 _ _ _ _ _ _ _, sets7_below K1.out hlo.out _ _ _ _ _ _ _⟩, (by rw [hen]; exact (hxe.sets7 nM _ _ _ _ _ _ _).mono fun _ _ _ => trivial), (by rw [hbn]; exact (hxb.sets7 nM _ _ _ _ _ _ _).mono fun _ _ _ => trivial), (by rw [hln]; exact (hxl.sets7 nM _ _ _ _ _ _ _).mono fun _ _ _ => trivial)⟩
    obtain ⟨c0, c1, c2, c3, c4, c5, c6⟩ := B1.out.cells
    obtain ⟨f0, f1, f2, f3, f4, f5, f6⟩ := B1.out.fzs
    clear hen hbn hln key hcs hcl hxe hxb hxl hx hy hy1 nA nM h1
    go_upto_region 4 with fail
    go_cut [5] from 19 to 24 (fun s5 wx => s5 = .bool true ∧ Hid (EnB w (M + 1) (.int .i64 k) (.string ⟨n.toArray⟩) (.string ⟨p.toArray⟩) (.int .i64 m) (.slice sa en sc) (.slice ba' bn bc') (.slice la ln lc) wx ∧ ExS (fun _ => True) wx (.slice sa en sc) e ∧ SmS (fun _ => True) wx (.slice ba' bn bc') b ∧ SmS (fun _ => True) wx (.slice la ln lc) ll))
    case first =>
      go_wp2_with fail
      go_meet
      exact ⟨rfl, FIN.out⟩
    case rest =>
      obtain ⟨rfl, HE⟩ := hcut
      clear c0 c1 c2 c3 c4 c5 c6 f0 f1 f2 f3 f4 f5 f6 l0 l1 l2 l3 l4 l5 l6 FIN
      obtain ⟨d0, d1', d2', d3, d4, d5, d6⟩ := HE.out.1.1.cells
      go_wp2_with fail
      refine ⟨rfl, .tuple #[.agg #[.int .i64 k, .string ⟨n.toArray⟩, .string ⟨p.toArray⟩, .int .i64 m, .slice sa en sc, .slice ba' bn bc', .slice la ln lc], .bool true], by simp [results, Try.results7, go_sem, d0, d1', d2', d3, d4, d5, d6], ?_⟩
      refine ⟨k, n, p, m, e, b, ll, sa, sc, ba', bc', la, lc, EQ.out, ?_, by rw [← HEN.out]; exact HE.out.2.1, by rw [← HBN.out]; exact HE.out.2.2.1, by rw [← HLN.out]; exact HE.out.2.2.2, HE.out.1.2⟩
      rw [YIS.out, HEN.out, HBN.out, HLN.out]
end Go.Proofs.Ytobiedmmjiedlaa

namespace Go.Proofs.Ytobiedmmjiedlaa
open Go.RowKit

theorem ckCd_app {z : Sy.Pc} {n : List UInt8} {y : Sy.Pc} : ∀ {ps : List Sy.Pc}, ckCd ps n = some y → ckCd (ps ++ [z]) n = some y
  | [], h => by cases h
  | x :: r, h => by
    rw [List.cons_append, ckCd]
    rw [ckCd] at h
    split
    · rename_i e; rw [if_pos e] at h; exact h
    · rename_i e; rw [if_neg e] at h; exact ckCd_app h
theorem ckCal_app {vs : List CkVa} {mk : Int} {ps : List Sy.Pc} {z : Sy.Pc} {n q : List UInt8} {e : List Sx.Ex} (h : ckCal vs mk ps n q e = none) : ckCal vs mk (ps ++ [z]) n q e = none := by
  unfold ckCal at h ⊢
  cases hc : ckCd ps q with
  | none => rw [hc] at h; cases h
  | some x => rw [hc] at h; rw [ckCd_app hc]; exact h
theorem ckStm_app {vs : List CkVa} {mk : Int} {ps : List Sy.Pc} {z : Sy.Pc} {ty : Int} {s : Sy.St} (h : ckStm vs mk ps ty s = none) : ckStm vs mk (ps ++ [z]) ty s = none := by
  cases s with
  | mk k n q num e b l =>
    rw [ckStm] at h ⊢
    split
    · rename_i e1; rw [if_pos e1] at h; exact h
    rename_i e1; rw [if_neg e1] at h
    split
    · rename_i e1; rw [if_pos e1] at h; exact h
    rename_i e1; rw [if_neg e1] at h
    split
    · rename_i e1; rw [if_pos e1] at h; exact h
    rename_i e1; rw [if_neg e1] at h
    split
    · rename_i e1; rw [if_pos e1] at h; exact h
    rename_i e1; rw [if_neg e1] at h
    split
    · rename_i e1; rw [if_pos e1] at h; exact h
    rename_i e1; rw [if_neg e1] at h
    split
    · rename_i e1; rw [if_pos e1] at h; exact h
    rename_i e1; rw [if_neg e1] at h
    split
    · rename_i e1; rw [if_pos e1] at h; exact h
    rename_i e1; rw [if_neg e1] at h
    split
    · rename_i e1; rw [if_pos e1] at h; exact ckCal_app h
    · rename_i e1; rw [if_neg e1] at h; exact h
theorem ckBs_app_aux {vs : List CkVa} {ps : List Sy.Pc} {z : Sy.Pc} {ty : Int} : ∀ (l : List Sy.St), (∀ x, x ∈ l → ∀ m m', ckB1 vs ps ty x m = (none, m') → ckB1 vs (ps ++ [z]) ty x m = (none, m')) → ∀ m m', ckBs vs ps ty l m = (none, m') → ckBs vs (ps ++ [z]) ty l m = (none, m')
  | [], _, m, m', h => by rw [ckBs] at h ⊢; exact h
  | s :: r, hP, m, m', h => by
    rw [ckBs] at h ⊢
    match e : ckB1 vs ps ty s m with
    | (some er, m2) => rw [e] at h; cases h
    | (none, m2) =>
      rw [e] at h
      rw [hP s List.mem_cons_self m m2 e]
      exact ckBs_app_aux r (fun x hx => hP x (List.mem_cons_of_mem _ hx)) m2 m' h
theorem ckB1_app {vs : List CkVa} {ps : List Sy.Pc} {z : Sy.Pc} {ty : Int} (x : Sy.St) : ∀ m m', ckB1 vs ps ty x m = (none, m') → ckB1 vs (ps ++ [z]) ty x m = (none, m') := by
  induction x using Sy.ind with
  | h k n p num e b l hb hl =>
    intro m m' h
    rw [ckB1] at h ⊢
    cases h1 : ckStm vs (m + 1) ps ty (.mk k n p num e b l) with
    | some er => rw [h1] at h; cases h
    | none =>
      rw [h1] at h
      rw [ckStm_app h1]
      match h2 : ckBs vs ps ty b (m + 1) with
      | (some er, m2) => rw [h2] at h; cases h
      | (none, m2) =>
        rw [h2] at h
        dsimp only at h ⊢
        rw [ckBs_app_aux b hb _ _ h2]
        exact ckBs_app_aux l hl _ _ h
theorem ckPr_app {ps : List Sy.Pc} {z x : Sy.Pc} {m : Int} (h : ckPr ps x = (none, m)) : ckPr (ps ++ [z]) x = (none, m) := by
  unfold ckPr at h ⊢
  match h1 : ckDcl x.params.length (ckVs x) with
  | some er => rw [h1] at h; cases h
  | none =>
    rw [h1] at h
    match h2 : ckBs (ckVs x) ps x.type x.body 0 with
    | (some er, m2) => rw [h2] at h; cases h
    | (none, m2) =>
      rw [h2] at h
      dsimp only at h ⊢
      rw [ckBs_app_aux x.body (fun y _ => ckB1_app y) _ _ h2]
      exact h
theorem ckPgs_app {ps : List Sy.Pc} {z : Sy.Pc} (r : List Sy.Pc) : ∀ (l : List Sy.Pc) (j : Nat) (s : Nat × Int) (a : Nat) (m : Int), ckPgs ps l j s = (none, a, m) → ckPgs (ps ++ [z]) (l ++ r) j s = ckPgs (ps ++ [z]) r (j + l.length) (a, m)
  | [], j, s, a, m, h => by
    rw [ckPgs] at h
    cases h
    rfl
  | x :: l, j, s, a, m, h => by
    rw [ckPgs] at h
    rw [List.cons_append, ckPgs]
    match e : ckPr ps x with
    | (some er, m2) => rw [e] at h; cases h
    | (none, m2) =>
      rw [e] at h
      rw [ckPr_app e]
      dsimp only at h ⊢
      rw [ckPgs_app r l (j + 1) (j, m2) a m h, List.length_cons]
      congr 1
      omega
theorem ixn_none : ∀ (l : List (List UInt8)) (n : List UInt8) (k : Nat), n ∉ l → ixn l n k = -1
  | [], n, k, _ => rfl
  | a :: r, n, k, h => by
    simp only [List.mem_cons, not_or] at h
    rw [ixn, if_neg (fun e => h.1 e.symm)]
    exact ixn_none r n (k + 1) h.2
theorem ixn_app : ∀ (l : List (List UInt8)) (n : List UInt8) (k : Nat) (r : List (List UInt8)), n ∈ l → ixn (l ++ r) n k = ixn l n k
  | a :: l, n, k, r, h => by
    rw [List.cons_append, ixn, ixn]
    by_cases e : a = n
    · rw [if_pos e, if_pos e]
    · rw [if_neg e, if_neg e]
      exact ixn_app l n (k + 1) r ((List.mem_cons.1 h).resolve_left fun e2 => e e2.symm)
theorem ixn_mem {l : List (List UInt8)} {n : List UInt8} {k : Nat} (h : ixn l n k ≠ -1) : n ∈ l := by
  by_cases e : n ∈ l
  · exact e
  · exact absurd (ixn_none l n k e) h
theorem ckUq_app {l : List (List UInt8)} {n : List UInt8} (h : ckUq l) (hn : n ∉ l) : ckUq (l ++ [n]) := by
  intro i hi
  rw [List.length_append, List.length_singleton] at hi
  by_cases e : i < l.length
  · have e1 : (l ++ [n]).take i = l.take i := List.take_append_of_le_length (by omega)
    have e2 : (l ++ [n]).getD i [] = l.getD i [] := by rw [List.getD_eq_getElem?_getD, List.getD_eq_getElem?_getD, List.getElem?_append_left e]
    rw [e1, e2]
    exact h i e
  · obtain rfl : i = l.length := by omega
    have e2 : (l ++ [n]).getD l.length [] = n := by rw [List.getD_eq_getElem?_getD, List.getElem?_append_right (Nat.le_refl _)]; simp
    rw [List.take_left' rfl, e2]
    exact ixn_none l n 0 hn
theorem ckWh_app {ps : List Sy.Pc} {z : Sy.Pc} (h : ckWh ps = none) (hn : z.name ∉ ps.map Sy.Pc.name) (hl : ps.length < 40) : ckWh (ps ++ [z]) = none := by
  unfold ckWh at h ⊢
  rw [if_pos (by omega)] at h
  rw [if_pos (by simp; omega)]
  split at h
  · rename_i hu
    split at h
    · rename_i hm
      rw [List.map_append, List.map_singleton, if_pos (ckUq_app hu hn)]
      have : ckMn (ps ++ [z]) = true := by
        unfold ckMn at hm ⊢
        simp only [Bool.and_eq_true, decide_eq_true_eq] at hm ⊢
        have hmem : [109, 97, 105, 110] ∈ ps.map Sy.Pc.name := ixn_mem (k := 0) (by omega)
        have hx : ixn (List.map Sy.Pc.name (ps ++ [z])) [109, 97, 105, 110] 0 = ixn (ps.map Sy.Pc.name) [109, 97, 105, 110] 0 := by
          rw [List.map_append]
          exact ixn_app _ _ _ _ hmem
        rw [hx]
        rcases ixn_is (ps.map Sy.Pc.name) [109, 97, 105, 110] 0 with e | ⟨j, e, hj⟩
        · omega
        · rw [e] at hm ⊢
          have hj2 : ((0 + j : Nat) : Int).toNat = j := by omega
          rw [hj2] at hm ⊢
          have hg : (ps ++ [z]).getD j pc0 = ps.getD j pc0 := by
            rw [List.getD_eq_getElem?_getD, List.getD_eq_getElem?_getD, List.getElem?_append_left (by simpa using hj)]
          rw [hg]
          exact hm
      rw [if_pos this]
    · cases h
  · cases h
/-- One procedure more: if anything is wrong, then it is that one. -/
theorem ckPg_more {ps : List Sy.Pc} {z : Sy.Pc} (h : (ckPg ps).1 = none) (hn : z.name ∉ ps.map Sy.Pc.name) (hl : ps.length < 40) : (ckPg (ps ++ [z])).2.1 = ps.length := by
  unfold ckPg at h ⊢
  match hw : ckWh ps with
  | some er => rw [hw] at h; cases h
  | none =>
    rw [hw] at h
    rw [ckWh_app hw hn hl]
    dsimp only at h ⊢
    match e : ckPgs ps ps 0 (0, 0) with
    | (some er, a, m) => rw [e] at h; cases h
    | (none, a, m) =>
      rw [ckPgs_app [z] ps 0 (0, 0) a m e, ckPgs]
      match ckPr (ps ++ [z]) z with
      | (some er, m2) => show (0 + ps.length) = _; omega
      | (none, m2) => show (0 + ps.length) = _; omega
end Go.Proofs.Ytobiedmmjiedlaa

namespace Go.Proofs.Ytobiedmmjiedlaa
open Go.RowKit

theorem nz_un (n : List UInt8) (t e : Int) (h : ckUn n t = .error e) : e ≠ 0 := by
  unfold ckUn at h
  repeat' (split at h)
  all_goals (cases h <;> decide)
theorem nz_bi (n : List UInt8) (a b e : Int) (h : ckBi n a b = .error e) : e ≠ 0 := by
  unfold ckBi at h
  repeat' (split at h)
  all_goals (cases h <;> decide)
theorem nz_si (l : List CkVa) (n : List UInt8) (m e : Int) (h : ckSi l n m = .error e) : e ≠ 0 := by
  unfold ckSi at h
  repeat' (split at h)
  all_goals (cases h <;> decide)
theorem nz_ar (l : List CkVa) (n : List UInt8) (m e : Int) (h : ckAr l n m = some e) : e ≠ 0 := by
  unfold ckAr at h
  repeat' (split at h)
  all_goals (cases h <;> decide)
theorem nz_td (r : Except Int Int) (t e : Int) (hr : ∀ e, r = .error e → e ≠ 0) (h : ckTd r t = some e) : e ≠ 0 := by
  unfold ckTd at h
  split at h
  · cases h; exact hr _ rfl
  · split at h
    · cases h
    · cases h; decide
theorem nz_ty (l : List CkVa) (mk : Int) (x : Sx.Ex) : ∀ e, ckTy l mk x = .error e → e ≠ 0 := by
  induction x using Fo.ind with
  | h k n m ll ih =>
    intro e h
    match ll, ih with
    | [], _ =>
      rw [ckTy] at h
      repeat' (split at h)
      all_goals first | (cases h; done) | (cases h; decide) | exact nz_si _ _ _ _ h
    | [a], ih =>
      have ha := ih a (by simp)
      rw [ckTy] at h
      split at h
      · cases h; decide
      · split at h
        · split at h
          · rename_i q; cases h; exact nz_ar _ _ _ _ q
          · split at h
            · rename_i q; cases h; exact nz_td _ _ _ ha q
            · cases h
        · split at h
          · rename_i q; cases h; exact ha _ q
          · exact nz_un _ _ _ h
    | [a, b], ih =>
      have ha := ih a (by simp)
      have hb := ih b (by simp)
      rw [ckTy] at h
      split at h
      · cases h; decide
      · split at h
        · rename_i q; cases h; exact ha _ q
        · split at h
          · rename_i q; cases h; exact hb _ q
          · exact nz_bi _ _ _ _ h
    | a :: b :: c :: r, _ =>
      rw [ckTy] at h
      · cases h; decide
      all_goals simp
theorem nz_tk (vs : List CkVa) (mk : Int) (n : List UInt8) (t e : Int) (h : ckTake vs mk n t = some e) : e ≠ 0 := by
  unfold ckTake at h
  split at h
  · rename_i q; cases h; exact nz_si _ _ _ _ q
  · split at h
    · cases h
    · cases h; decide
theorem nz_args (vs : List CkVa) (mk : Int) : ∀ (x : List Sx.Ex) (a : List Sy.Pa) (e : Int), ckArgs vs mk x a = some e → e ≠ 0
  | [], a, e, h => by cases a <;> cases h
  | x :: r, [], e, h => by cases h
  | x :: r, a :: t, e, h => by
    rw [ckArgs] at h
    split at h
    · rename_i q; cases h; exact nz_td _ _ _ (nz_ty vs mk x) q
    · exact nz_args vs mk r t e h
theorem nz_cal (vs : List CkVa) (mk : Int) (ps : List Sy.Pc) (n q : List UInt8) (x : List Sx.Ex) (e : Int) (h : ckCal vs mk ps n q x = some e) : e ≠ 0 := by
  unfold ckCal at h
  split at h
  · cases h; decide
  · split at h
    · split at h
      · rename_i q; cases h; exact nz_args _ _ _ _ _ q
      · split at h
        · cases h
        · exact nz_tk _ _ _ _ _ h
    · cases h; decide
theorem nz_ans (vs : List CkVa) (mk ty : Int) (x : List Sx.Ex) (e : Int) (h : ckAns vs mk ty x = some e) : e ≠ 0 := by
  match x with
  | [] => rw [ckAns] at h; split at h <;> cases h; decide
  | [a] =>
    rw [ckAns] at h
    split at h
    · cases h; decide
    · exact nz_td _ _ _ (nz_ty vs mk a) h
  | a :: b :: r => cases h; decide
theorem nz_stm (vs : List CkVa) (mk : Int) (ps : List Sy.Pc) (ty : Int) (s : Sy.St) (e : Int) (h : ckStm vs mk ps ty s = some e) : e ≠ 0 := by
  match s with
  | .mk k n q num x b l =>
    rw [ckStm] at h
    split at h
    · cases h; decide
    split at h
    · split at h <;> cases h; decide
    split at h
    · split at h
      · rename_i q; cases h; exact nz_si _ _ _ _ q
      · exact nz_td _ _ _ (nz_ty vs mk _) h
    split at h
    · split at h
      · rename_i q; cases h; exact nz_ar _ _ _ _ q
      · split at h
        · rename_i q; cases h; exact nz_td _ _ _ (nz_ty vs mk _) q
        · exact nz_td _ _ _ (nz_ty vs mk _) h
    split at h
    · exact nz_td _ _ _ (nz_ty vs mk _) h
    split at h
    · split at h
      · rename_i q; cases h; exact nz_ty vs mk _ _ q
      · cases h
    split at h
    · exact nz_tk _ _ _ _ _ h
    split at h
    · exact nz_cal _ _ _ _ _ _ _ h
    exact nz_ans _ _ _ _ _ h
theorem nz_bs_aux (vs : List CkVa) (ps : List Sy.Pc) (ty : Int) : ∀ (l : List Sy.St), (∀ x, x ∈ l → ∀ m e m', ckB1 vs ps ty x m = (some e, m') → e ≠ 0) → ∀ m e m', ckBs vs ps ty l m = (some e, m') → e ≠ 0
  | [], _, m, e, m', h => by rw [ckBs] at h; cases h
  | s :: r, hP, m, e, m', h => by
    rw [ckBs] at h
    match q : ckB1 vs ps ty s m with
    | (some er, m2) => rw [q] at h; cases h; exact hP s List.mem_cons_self m _ _ q
    | (none, m2) => rw [q] at h; exact nz_bs_aux vs ps ty r (fun x hx => hP x (List.mem_cons_of_mem _ hx)) m2 e m' h
theorem nz_b1 (vs : List CkVa) (ps : List Sy.Pc) (ty : Int) (x : Sy.St) : ∀ m e m', ckB1 vs ps ty x m = (some e, m') → e ≠ 0 := by
  induction x using Sy.ind with
  | h k n q num x b l hb hl =>
    intro m e m' h
    rw [ckB1] at h
    match e1 : ckStm vs (m + 1) ps ty (.mk k n q num x b l) with
    | some er => rw [e1] at h; cases h; exact nz_stm _ _ _ _ _ _ e1
    | none =>
      rw [e1] at h
      dsimp only at h
      match e2 : ckBs vs ps ty b (m + 1) with
      | (some er, m2) => rw [e2] at h; cases h; exact nz_bs_aux vs ps ty b hb _ _ _ e2
      | (none, m2) => rw [e2] at h; exact nz_bs_aux vs ps ty l hl _ _ _ h
theorem nz_pr (ps : List Sy.Pc) (x : Sy.Pc) (e m : Int) (h : ckPr ps x = (some e, m)) : e ≠ 0 := by
  unfold ckPr at h
  match e1 : ckDcl x.params.length (ckVs x) with
  | some er =>
    rw [e1] at h
    cases h
    unfold ckDcl at e1
    repeat' (split at e1)
    all_goals (cases e1 <;> decide)
  | none =>
    rw [e1] at h
    dsimp only at h
    match e2 : ckBs (ckVs x) ps x.type x.body 0 with
    | (some er, m2) => rw [e2] at h; cases h; exact nz_bs_aux _ _ _ _ (fun x _ => nz_b1 _ _ _ x) _ _ _ e2
    | (none, m2) =>
      rw [e2] at h
      dsimp only at h
      split at h
      · cases h
      · cases h; decide
theorem nz_pgs (ps : List Sy.Pc) : ∀ (l : List Sy.Pc) (j : Nat) (s : Nat × Int) (e : Int) (a : Nat) (m : Int), ckPgs ps l j s = (some e, a, m) → e ≠ 0
  | [], j, s, e, a, m, h => by rw [ckPgs] at h; cases h
  | x :: r, j, s, e, a, m, h => by
    rw [ckPgs] at h
    match q : ckPr ps x with
    | (some er, m2) => rw [q] at h; cases h; exact nz_pr _ _ _ _ q
    | (none, m2) => rw [q] at h; exact nz_pgs ps r (j + 1) _ _ _ _ h
/-- What is wrong is no OK. -/
theorem nz_pg (ps : List Sy.Pc) : ¬ (ckPg ps).1 = some 0 := by
  intro h
  match q : ckPg ps with
  | (none, a, m) => rw [q] at h; cases h
  | (some e, a, m) =>
    rw [q] at h
    cases h
    unfold ckPg at q
    match e1 : ckWh ps with
    | some er =>
      rw [e1] at q
      cases q
      unfold ckWh at e1
      repeat' (split at e1)
      all_goals (cases e1)
    | none => rw [e1] at q; exact nz_pgs _ _ _ _ _ _ _ q rfl
end Go.Proofs.Ytobiedmmjiedlaa

namespace Go.Proofs.Ytobiedmmjiedlaa
open Go.RowKit

theorem kPg1 : ckPg [kP1] = (none, 0, 5) := by kernel_rfl
theorem kPg2 : ckPg [kP2] = (some 41, 0, 2) := by kernel_rfl
theorem kVs1 : ckVs kP1 = [⟨[120], 1, 0, 3, 3⟩] := by kernel_rfl
theorem kEqV (w : World) : (binOp .eql 57 (.agg #[.string ⟨#[120]⟩, .int .i64 1, .int .i64 0, .int .i64 3, .int .i64 3]) (.agg #[.string ⟨#[120]⟩, .int .i64 1, .int .i64 0, .int .i64 3, .int .i64 3])).run Try.prog w = .ok (.bool true) w := by kernel_rfl
theorem kEqP (w : World) : (binOp .eql 48 (.agg #[.int .i64 0, .int .i64 2]) (.agg #[.int .i64 0, .int .i64 2])).run Try.prog w = .ok (.bool true) w := by kernel_rfl
theorem kTyp : ckTy [] 0 (.mk 6 [60] 0 [.mk 1 [] 0 [], .mk 1 [] 1 []]) = .ok 2 := by kernel_rfl
theorem kBndI : Fo.Bnd kI1 := .mk _ _ _ _ (by decide) (fun x hx => by cases hx)
theorem kBndT : Fo.Bnd kTr := .mk _ _ _ _ (by decide) (fun x hx => by cases hx)
theorem kBdVx : Sy.Bd kVx := .mk _ _ _ _ _ _ _ (by decide) (by decide) (by decide) (fun x hx => by cases hx) (by decide) (by decide) (fun x hx => by cases hx) (fun x hx => by cases hx)
theorem kBdE (k : Int) (n : List UInt8) (hn : n.length ≤ 20000) (x : Sx.Ex) (hx : Fo.Bnd x) : Sy.Bd (.mk k n [] 0 [x] [] []) := .mk _ _ _ _ _ _ _ hn (by decide) (by simp) (fun y hy => by rw [List.mem_singleton.1 hy]; exact hx) (by decide) (by decide) (fun x hx => by cases hx) (fun x hx => by cases hx)
theorem kPcB1 : ∀ x, x ∈ [kP1] → PcB x := by
  intro x hx
  rw [List.mem_singleton.1 hx]
  refine ⟨by decide, fun s hs => ?_⟩
  rcases List.mem_cons.1 hs with rfl | hs
  · refine .mk _ _ _ _ _ _ _ (by decide) (by decide) (by decide) (fun y hy => by rw [List.mem_singleton.1 hy]; exact kBndT) (by decide) (by decide) (fun y hy => ?_) (fun x hx => by cases hx)
    rcases List.mem_cons.1 hy with rfl | hy
    · exact kBdVx
    · rw [List.mem_singleton.1 hy]
      exact kBdE 2 [120] (by decide) _ kBndI
  · rw [List.mem_singleton.1 hs]
    exact kBdE 8 [] (by decide) _ kBndI
theorem kPcB2 : ∀ x, x ∈ [kP2] → PcB x := by
  intro x hx
  rw [List.mem_singleton.1 hx]
  refine ⟨by decide, fun s hs => ?_⟩
  rcases List.mem_cons.1 hs with rfl | hs
  · exact kBdVx
  · rw [List.mem_singleton.1 hs]
    exact kBdE 2 [120] (by decide) _ kBndT
/-- What known reads of the first check. -/
structure KI (w : World) (bi : Nat) : Prop where
  f : ∃ gi ci gm cm gv cv vc, w.cell? ⟨bi, 0, none⟩ = some (.slice (some ⟨gi, 0, none⟩) 1 ci) ∧ w.cell? ⟨bi, 1, none⟩ = some (.slice (some ⟨gm, 0, none⟩) 1 cm) ∧ w.cell? ⟨gm, 0, none⟩ = some (.int .i64 4) ∧ w.cell? ⟨gi, 0, none⟩ = some (.slice (some ⟨gv, cv, none⟩) 1 vc) ∧ VaAt w gv cv ⟨[120], 1, 0, 3, 3⟩ ∧ bi < w.heap.size ∧ gi < w.heap.size ∧ gm < w.heap.size ∧ gv < w.heap.size
theorem KI.later {w w' : World} {bi : Nat} (h : KI w bi) (b : Below w.heap.size w w') : KI w' bi := by
  obtain ⟨gi, ci, gm, cm, gv, cv, vc, h1, h2, h3, h4, h5, l1, l2, l3, l4⟩ := h.f
  exact ⟨gi, ci, gm, cm, gv, cv, vc, (b.cell l1).trans h1, (b.cell l1).trans h2, (b.cell l3).trans h3, (b.cell l2).trans h4, ⟨(b.cell l4).trans h5.c0, (b.cell l4).trans h5.c1, (b.cell l4).trans h5.c2, (b.cell l4).trans h5.c3, (b.cell l4).trans h5.c4⟩, Nat.lt_of_lt_of_le l1 b.size, Nat.lt_of_lt_of_le l2 b.size, Nat.lt_of_lt_of_le l3 b.size, Nat.lt_of_lt_of_le l4 b.size⟩
/-- What Inf tells of the first program. -/
theorem KI.of {w : World} {p : Nat} {iv im : Value} {vvs : List Value} (h : Inf w p iv im [kP1] 1 1 vvs) (t : TypeId) : ∃ ci cm gi gm, iv = .slice (some ⟨gi, 0, none⟩) 1 ci ∧ im = .slice (some ⟨gm, 0, none⟩) 1 cm ∧ KI (w.alloc (.cells #[iv, im] t)) w.heap.size := by
  have bx := box_below w (.cells #[iv, im] t)
  have hc1 := @World.ownsRow.cells _ _ _ _ _ _ _ h.rv
  have hl1 := World.ownsRow.lt h.rv
  have hc2 := @World.ownsRow.cells _ _ _ _ _ _ _ h.rm
  have hl2 := World.ownsRow.lt h.rm
  rcases h.rv.2 with ⟨_, e⟩ | ⟨gi, ci, cur, rfl, _, _, _⟩
  · omega
  rcases h.rm.2 with ⟨_, e⟩ | ⟨gm, cm, cur2, rfl, _, _, _⟩
  · omega
  obtain ⟨va, vc, e, hv⟩ := h.vv 0 kP1 (by decide) rfl
  rw [kVs1] at e hv
  obtain ⟨gv, cv, rfl, hgv, hat⟩ := hv.1.2 (by decide)
  have a0 := hat 0 (by decide)
  have k1 := @hc1 gi rfl 0 _ e
  have k2 := @hc2 gm rfl 0 (.int .i64 4) rfl
  simp only [Addr.add, Nat.zero_mul, Nat.add_zero, List.getD] at k1 k2 a0
  refine ⟨ci, cm, gi, gm, rfl, rfl, ⟨gi, ci, gm, cm, gv, cv, vc, by simp [go_sem], by simp [go_sem], (bx.cell (hl2 gm rfl).2).trans k2, (bx.cell (hl1 gi rfl).2).trans k1, ⟨(bx.cell hgv).trans a0.c0, (bx.cell hgv).trans a0.c1, (bx.cell hgv).trans a0.c2, (bx.cell hgv).trans a0.c3, (bx.cell hgv).trans a0.c4⟩, by simp, ?_, ?_, ?_⟩⟩
  · have := (hl1 gi rfl).2; simp; omega
  · have := (hl2 gm rfl).2; simp; omega
  · simp; omega
set_option maxRecDepth 100000 in
set_option maxHeartbeats 4000000 in
/-- The fixed calls of layer 4. -/
theorem known4 (w : World) : Calls Try.prog 5 #[] w fun e w' => e = .returned (.bool true) ∧ Below w.heap.size w w' := by
  go_enter Try.func5, Try.ntmps5
  go_wp2_with fail
  refine Calls.mono (kprog1 _) ?_
  rintro e1 w1 ⟨sa1, sc1, rfl, hp1, b1⟩
  have B1 : Hid (Below w.heap.size w w1) := b1
  have EC1 : Hid _ := ckCheck_any _ sa1 sc1 [kP1] (w1.alloc (.cells #[.slice sa1 [kP1].length sc1] 29)) (hp1.later (box_below w1 _) (Nat.le_refl _)) (by decide) kPcB1 (none, 0, 5) kPg1.symm (by simp)
  clear b1 hp1
  go_wp2_with fail
  refine Calls.mono EC1.out ?_
  rintro e2 w2 (⟨er, h, _⟩ | ⟨-, p, iv, im, vvs, hp, rfl, I2, b2⟩)
  · cases h
  obtain ⟨ci, cm, gi, gm, rfl, rfl, K2'⟩ := KI.of I2 46
  have B2 : Hid (Below w.heap.size w w2) := B1.out.trans ((((box_below w1 _).trans (b2.mono (by simp)))).mono B1.out.size)
  have K2 : Hid (KI (w2.alloc (.cells #[.slice (some ⟨gi, 0, none⟩) 1 ci, .slice (some ⟨gm, 0, none⟩) 1 cm] 46)) w2.heap.size) := K2'
  clear b2 I2 K2' EC1
  go_wp2_with fail
  refine Calls.mono (kprog2 _) ?_
  rintro e3 w3 ⟨sa3, sc3, rfl, hp3, b3⟩
  have K3 : Hid (KI w3 w2.heap.size) := (K2.out.later (box_below _ _)).later b3
  have B3 : Hid (Below w.heap.size w w3) := B2.out.trans ((((box_below w2 _).trans ((box_below _ _).mono (by simp))).trans (b3.mono (by simp; omega))).mono B2.out.size)
  have z3 : w2.heap.size < w3.heap.size := Nat.lt_of_lt_of_le (by simp; omega) b3.size
  have EC3 : Hid _ := ckCheck_any _ sa3 sc3 [kP2] (w3.alloc (.cells #[.slice sa3 [kP2].length sc3] 29)) (hp3.later (box_below w3 _) (Nat.le_refl _)) (by decide) kPcB2 (some 41, 0, 2) kPg2.symm (by simp)
  clear b3 hp3 K2
  go_wp2_with fail
  refine Calls.mono EC3.out ?_
  rintro e4 w4 (⟨er, h, rfl, b4⟩ | ⟨h, _⟩)
  case inr => cases h
  cases h
  have K4 : Hid (KI w4 w2.heap.size) := (K3.out.later (box_below w3 _)).later b4
  have B4 : Hid (Below w.heap.size w w4) := B3.out.trans (((box_below w3 _).trans (b4.mono (by simp))).mono B3.out.size)
  clear b4 K3 EC3
  obtain ⟨W5, hW5⟩ : ∃ W5, W5 = (w4.alloc (.cells #[.slice none 0 0, .slice none 0 0] 46)).alloc (.cells #[.int .i64 0, .int .i64 2] 48) := ⟨_, rfl⟩
  have b5 : Below w4.heap.size w4 W5 := by rw [hW5]; exact (box_below w4 _).trans ((box_below _ _).mono (by simp))
  have B5 : Hid (Below w.heap.size w W5) := B4.out.trans (b5.mono B4.out.size)
  have K5 : Hid (KI W5 w2.heap.size) := K4.out.later b5
  obtain ⟨bp, hbp⟩ : ∃ bp, bp = w4.heap.size + 1 := ⟨_, rfl⟩
  have c0 : W5.cell? ⟨bp, 0, none⟩ = some (.int .i64 0) := by rw [hW5, hbp]; simp [go_sem]
  have c1 : W5.cell? ⟨bp, 1, none⟩ = some (.int .i64 2) := by rw [hW5, hbp]; simp [go_sem]
  have z5 : bp < W5.heap.size := by rw [hW5, hbp]; simp
  go_upto_region 5 with fail
  rw [← hW5, ← hbp]
  clear hW5 hbp b5 K4
  obtain ⟨W6, hW6⟩ : ∃ W6, W6 = W5.alloc (.cells #[.int .i64 1, .string ⟨#[]⟩, .int .i64 0, .slice none 0 0, .int .i64 1, .string ⟨#[]⟩, .int .i64 1, .slice none 0 0] 54) := ⟨_, rfl⟩
  have b6 : Below W5.heap.size W5 W6 := by rw [hW6]; exact box_below _ _
  have xs : ExS (fun _ => True) W6 (.slice (some ⟨W5.heap.size, 0, none⟩) 2 2) [.mk 1 [] 0 [], .mk 1 [] 1 []] := by
    refine .some _ 0 2 2 _ rfl (by decide) (by decide) trivial (by rw [hW6]; simp) ?_
    refine .cons _ 0 1 [] 0 (.slice none 0 0) [] _ ?_ ?_ ?_ ?_ (.nil _ _) (.cons _ _ 1 [] 1 (.slice none 0 0) [] [] ?_ ?_ ?_ ?_ (.nil _ _) (.nil _ _))
    all_goals (rw [hW6]; simp [go_sem])
  have ET : Hid (Calls Try.prog 14 #[.agg #[.int .i64 6, .string ⟨#[60]⟩, .int .i64 0, .slice (some ⟨W5.heap.size, 0, none⟩) 2 2], .slice none 0 0, .int .i64 0] W6 fun e w' => e = .returned (.tuple #[.int .i64 2, .int .i64 0]) ∧ Below W6.heap.size W6 w') := ckTypeOf_ok (fun _ => True) none 0 [] 0 6 [60] 0 [.mk 1 [] 0 [], .mk 1 [] 1 []] (some ⟨W5.heap.size, 0, none⟩) 2 W6 ⟨by simp, fun h => by simp at h⟩ xs 2 kTyp
  clear xs
  go_wp2_with fail
  rw [← hW6]
  refine Calls.mono ET.out ?_
  rintro e7 w7 ⟨rfl, b7⟩
  have b57 : Below W5.heap.size W5 w7 := b6.trans (b7.mono b6.size)
  have K7 := K5.out.later b57
  have d0 := (b57.cell (p := ⟨bp, 0, none⟩) z5).trans c0
  have d1 := (b57.cell (p := ⟨bp, 1, none⟩) z5).trans c1
  have B7 : Hid (Below w.heap.size w w7) := B5.out.trans (b57.mono B5.out.size)
  obtain ⟨gi', ci', gm', cm', gv, cv, vc, h1, h2, h3, h4, ⟨v0, v1, v2, v3, v4⟩, l1, l2, l3, l4⟩ := K7.f
  have kv := kEqV
  have kp := kEqP
  dsimp only at v0 v1 v2 v3 v4
  clear hW6 b6 b7 b57 K7 K5 ET c0 c1 hp
  go_wp2_with fail
  go_ret
  exact ⟨rfl, B7.out⟩
end Go.Proofs.Ytobiedmmjiedlaa

namespace Go.Proofs.Ytobiedmmjiedlaa
open Go.RowKit
set_option linter.unusedVariables false
set_option linter.unusedSimpArgs false

/-- The boxes of the two arguments. -/
structure MrB (w : World) (bp bq : Nat) (qa : Option Addr) (L qc : Nat) (x : Sy.Pc) (pa : Option Addr) (pn pc : Nat) (ba : Option Addr) (bn bc : Nat) (wr : World) : Prop where
  bw : Below w.heap.size w wr
  cp : wr.cell? ⟨bp, 0, none⟩ = some (.slice qa L qc)
  q0 : wr.cell? ⟨bq, 0, none⟩ = some (.string ⟨x.name.toArray⟩)
  q1 : wr.cell? ⟨bq, 1, none⟩ = some (.slice pa pn pc)
  q2 : wr.cell? ⟨bq, 2, none⟩ = some (.int .i64 x.type)
  q3 : wr.cell? ⟨bq, 3, none⟩ = some (.slice ba bn bc)
  pl : bp < wr.heap.size
  ql : bq < wr.heap.size
theorem MrB.later {w : World} {bp bq : Nat} {qa : Option Addr} {L qc : Nat} {x : Sy.Pc} {pa : Option Addr} {pn pc : Nat} {ba : Option Addr} {bn bc : Nat} {wr wx : World} (h : MrB w bp bq qa L qc x pa pn pc ba bn bc wr) (y : Below wr.heap.size wr wx) : MrB w bp bq qa L qc x pa pn pc ba bn bc wx :=
  ⟨h.bw.trans (y.mono h.bw.size), (y.cell (p := ⟨bp, 0, none⟩) h.pl).trans h.cp, (y.cell (p := ⟨bq, 0, none⟩) h.ql).trans h.q0, (y.cell (p := ⟨bq, 1, none⟩) h.ql).trans h.q1, (y.cell (p := ⟨bq, 2, none⟩) h.ql).trans h.q2, (y.cell (p := ⟨bq, 3, none⟩) h.ql).trans h.q3, Nat.lt_of_lt_of_le h.pl y.size, Nat.lt_of_lt_of_le h.ql y.size⟩
/-- A box of two slices. -/
structure IbX (bi L : Nat) (v1 : Option Addr) (c1 : Nat) (v2 : Option Addr) (c2 : Nat) (wr : World) : Prop where
  ci : wr.cell? ⟨bi, 0, none⟩ = some (.slice v1 L c1)
  cm : wr.cell? ⟨bi, 1, none⟩ = some (.slice v2 L c2)
  il : bi < wr.heap.size
theorem IbX.later {bi L : Nat} {v1 : Option Addr} {c1 : Nat} {v2 : Option Addr} {c2 : Nat} {wr wx : World} (h : IbX bi L v1 c1 v2 c2 wr) (y : Below wr.heap.size wr wx) : IbX bi L v1 c1 v2 c2 wx :=
  ⟨(y.cell (p := ⟨bi, 0, none⟩) h.il).trans h.ci, (y.cell (p := ⟨bi, 1, none⟩) h.il).trans h.cm, Nat.lt_of_lt_of_le h.il y.size⟩
abbrev mgB (qa : Option Addr) (L qc : Nat) : Obj := .cells #[.slice qa L qc] 29
abbrev mqB (x : Sy.Pc) (pa : Option Addr) (pn pc : Nat) (ba : Option Addr) (bn bc : Nat) : Obj := .cells #[.string ⟨x.name.toArray⟩, .slice pa pn pc, .int .i64 x.type, .slice ba bn bc] 25
theorem one_pcs {w W : World} {x : Sy.Pc} {pa : Option Addr} {pn pc : Nat} {ba : Option Addr} {bn bc : Nat} (hpn : pn = x.params.length) (hbn : bn = x.body.length) (hW : W = w.alloc (mqB x pa pn pc ba bn bc)) (h1 : PaS (fun _ => True) w (.slice pa x.params.length pc) x.params) (h2 : SmS (fun _ => True) w (.slice ba x.body.length bc) x.body) : PcS (fun _ => True) W (.slice (some ⟨w.heap.size, 0, none⟩) 1 1) [x] := by
  have b : Below w.heap.size w W := by rw [hW]; exact box_below w _
  refine ⟨some ⟨w.heap.size, 0, none⟩, 1, rfl, fun _ => ⟨w.heap.size, 0, rfl, trivial, by rw [hW]; simp, fun j hj => ?_⟩⟩
  obtain rfl : j = 0 := by simp at hj; exact hj
  refine ⟨x, pa, pc, ba, bc, rfl, ?_, ?_, ?_, ?_, h1.later b (Nat.le_refl _), h2.later b (Nat.le_refl _)⟩ <;> (rw [hW]; simp [go_sem, hpn, hbn])
/-- While names are held against that one. -/
def MrL (w : World) (bp bq : Nat) (qa : Option Addr) (L qc : Nat) (x : Sy.Pc) (pa : Option Addr) (pn pc : Nat) (ba : Option Addr) (bn bc : Nat) (bi : Nat) (v1 : Option Addr) (c1 : Nat) (v2 : Option Addr) (c2 : Nat) (ps : List Sy.Pc) (gk : Nat) (i : Value) (wr : World) : Prop :=
  ∃ k : Nat, k + gk = L ∧ i = .int .i64 k ∧ Hid (MrB w bp bq qa L qc x pa pn pc ba bn bc wr) ∧ Hid (IbX bi L v1 c1 v2 c2 wr) ∧ Hid (InfR wr v1 v2 ps) ∧ Hid (∀ j y, j < k → ps[j]? = some y → y.name ≠ x.name)
/-- Behind the appends. -/
structure MrC (w : World) (bp bq : Nat) (qa : Option Addr) (L qc : Nat) (x : Sy.Pc) (pa : Option Addr) (pn pc : Nat) (ba : Option Addr) (bn bc : Nat) (bi : Nat) (v1 : Option Addr) (c1 : Nat) (v2 : Option Addr) (c2 : Nat) (ps : List Sy.Pc) (bm : Nat) (ma : Option Addr) (mc : Nat) (wx : World) : Prop where
  mb : MrB w bp bq qa L qc x pa pn pc ba bn bc wx
  ib : IbX bi L v1 c1 v2 c2 wx
  ir : InfR wx v1 v2 ps
  cm : wx.cell? ⟨bm, 0, none⟩ = some (.slice ma (L + 1) mc)
  ml : bm < wx.heap.size
  pcs : PcS (fun _ => True) wx (.slice ma (L + 1) mc) (ps ++ [x])
theorem MrC.later {w : World} {bp bq : Nat} {qa : Option Addr} {L qc : Nat} {x : Sy.Pc} {pa : Option Addr} {pn pc : Nat} {ba : Option Addr} {bn bc : Nat} {bi : Nat} {v1 : Option Addr} {c1 : Nat} {v2 : Option Addr} {c2 : Nat} {ps : List Sy.Pc} {bm : Nat} {ma : Option Addr} {mc : Nat} {wx wy : World} (h : MrC w bp bq qa L qc x pa pn pc ba bn bc bi v1 c1 v2 c2 ps bm ma mc wx) (y : Below wx.heap.size wx wy) : MrC w bp bq qa L qc x pa pn pc ba bn bc bi v1 c1 v2 c2 ps bm ma mc wy :=
  ⟨h.mb.later y, h.ib.later y, h.ir.later y, (y.cell (p := ⟨bm, 0, none⟩) h.ml).trans h.cm, Nat.lt_of_lt_of_le h.ml y.size, h.pcs.later y (Nat.le_refl _)⟩
theorem MrC.mk1 {w : World} {bp bq : Nat} {qa : Option Addr} {L qc : Nat} {x : Sy.Pc} {pa : Option Addr} {pn pc : Nat} {ba : Option Addr} {bn bc : Nat} {bi : Nat} {v1 : Option Addr} {c1 : Nat} {v2 : Option Addr} {c2 : Nat} {ps : List Sy.Pc} {bm : Nat} {ma : Option Addr} {mc : Nat} {wr W6 w9 : World} {lps : List Lp} {a : Addr}
    (M : MrB w bp bq qa L qc x pa pn pc ba bn bc wr) (X : IbX bi L v1 c1 v2 c2 wr) (I : InfR wr v1 v2 ps) (hW6 : W6 = wr.alloc (mgB none 0 0)) (hbm : bm = wr.heap.size) (hL : L = ps.length) (hpn : pn = x.params.length ∧ bn = x.body.length) (hM : LpM w a ps lps) (h1 : PaS (fun _ => True) w (.slice pa x.params.length pc) x.params ∧ SmS (fun _ => True) w (.slice ba x.body.length bc) x.body)
    (R : w9.ownsRow W6.heap.size 25 4 (.slice ma (L + 1) mc) (L + 1) (LpS lps ++ [.string ⟨x.name.toArray⟩, .slice pa pn pc, .int .i64 x.type, .slice ba bn bc])) (B9 : Below W6.heap.size W6 w9) : MrC w bp bq qa L qc x pa pn pc ba bn bc bi v1 c1 v2 c2 ps bm ma mc (w9.setCell ⟨bm, 0, none⟩ (.slice ma (L + 1) mc)) := by
  have s6 : W6.heap.size = wr.heap.size + 1 := by rw [hW6]; simp
  have b6 : Below wr.heap.size wr W6 := by rw [hW6]; exact box_below wr _
  have hb : w9.heap[bm]? = some (mgB none 0 0) := by
    rw [B9.block bm (by omega), hW6, hbm]
    exact alloc_last wr _
  have bx : Below wr.heap.size wr (w9.setCell ⟨bm, 0, none⟩ (.slice ma (L + 1) mc)) := (b6.trans (B9.mono (by omega))).trans ⟨rfl, rfl, rfl, by simp, fun k hk => heap_setCell_other _ _ k _ (by simp; omega)⟩
  have hs := heap_setCell_same w9 bm 0 _ _ (.slice ma (L + 1) mc) hb
  have n9 : ¬ (Value.slice ma (L + 1) mc).ownBlock = some bm := fun e => by have := (World.ownsRow.lt R _ e).1; omega
  refine ⟨M.later bx, X.later bx, I.later bx, ?_, ?_, pcs_more hL hpn.1 hpn.2 hM h1.1 h1.2 (ownsRow_setCell_other R n9 _) (M.bw.trans (bx.mono M.bw.size))⟩
  · simp [World.cell?, hs]
  · have := B9.size
    simp
    omega
theorem text_n {a b : List UInt8} (h : a ≠ b) : (a == b) = false := beq_eq_false_iff_ne.2 h
end Go.Proofs.Ytobiedmmjiedlaa
