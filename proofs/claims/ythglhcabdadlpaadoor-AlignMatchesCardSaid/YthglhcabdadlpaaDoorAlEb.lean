/- Layer 15: the document's Sizes, walked. -/
import Derived.Test.YthglhcabdadlpaaDoorAlEa
namespace Go.Proofs.YthglhcabdadlpaaDoor
open Go.RowKit
set_option linter.unusedVariables false
set_option linter.unusedSimpArgs false
set_option maxRecDepth 100000
theorem own_low {w w8 : World} {base n : Nat} {e : TypeId} {v : Value} {xs : List Value} {o : Obj} (h : w.ownsRow base e 1 v n xs) (hb : base ≤ w.heap.size) (g8 : (w.alloc o).grownBy w8 v.ownBlock) : Below base w w8 :=
  ((Below.refl base w).alloc hb o).trans ⟨g8.os, g8.tape, g8.output, g8.size, fun k hk => g8.block k (by simp; omega) (fun e => by have := (World.ownsRow.lt h _ e.symm).1; omega)⟩
set_option maxHeartbeats 4000000 in
theorem rsizes_any (w : World) (a b : Option Addr) (ca cb : Nat) (l m : List Al.Ev) {B : Nat} (ha : EvR B w a l) (hb : EvR B w b m) (hB : B ≤ w.heap.size) (hl : l.length ≤ 100) (hm : m.length ≤ 100) : Calls Tryd.prog 52 #[.slice a l.length ca, .slice b m.length cb] w fun e w' => ∃ g c, e = .returned (.slice (some ⟨g, 0, none⟩) (l.length + 1) c) ∧ SzT w' g l m ∧ Below w.heap.size w w' := by
  obtain ⟨i0, hi, zi0, zi1, zi2⟩ := infoSi
  have HA := hidA ha
  have HB := hidA hb
  have HBB := hidA hB
  obtain ⟨S, hS⟩ : ∃ S, S = w.heap.size := ⟨_, rfl⟩
  have HS := hidA hS
  rw [← hS]
  obtain ⟨N, hN⟩ : ∃ N, N = l.length := ⟨_, rfl⟩
  obtain ⟨M, hM⟩ : ∃ M, M = m.length := ⟨_, rfl⟩
  have HN : Hid (N = l.length ∧ M = m.length ∧ N ≤ 100 ∧ M ≤ 100) := ⟨hN, hM, by rw [hN]; exact hl, by rw [hM]; exact hm⟩
  have e1 : wrap64 ((M : Int) + 1) = ((M + 1 : Nat) : Int) := wrM M HN.out.2.2.2
  obtain ⟨M1, hM1⟩ : ∃ M1, M1 = M + 1 := ⟨_, rfl⟩
  rw [← hM1] at e1
  have HM1 := hidA hM1
  have HMK : ∀ wz : World, (Instr.makeSlice 78 (.int .i64 (M1 : Int)) (.int .i64 (M1 : Int))).run Tryd.prog wz = .ok (.slice (some ⟨wz.heap.size, 0, none⟩) M1 M1) (wz.alloc (.cells (madeCells (Value.int .i64 0).cells (M1 * 1)) 3)) := fun wz => sz_mk wz M1 (by rw [hM1]; omega)
  have NBM : Hid (∀ wz : World, NB (wz.alloc (.cells (madeCells (Value.int .i64 0).cells (M1 * 1)) 3)) wz.heap.size M1 (fun _ => 0)) := fun wz => NB.made wz M1
  obtain ⟨MC, hMC⟩ : ∃ MC, MC = madeCells (Value.int .i64 0).cells (M1 * 1) := ⟨_, rfl⟩
  rw [← hMC] at HMK NBM
  obtain ⟨W0, hW0⟩ : ∃ W0, W0 = w.alloc (.cells MC 3) := ⟨_, rfl⟩
  have F0 : Hid (Below S w W0 ∧ W0.heap.size = S + 1 ∧ NB W0 S M1 (fun _ => 0)) := ⟨by rw [hW0, hS]; exact (Below.refl _ _).alloc (Nat.le_refl _) _, by rw [hW0, hS]; simp, by rw [hW0, hS]; exact NBM.out w⟩
  obtain ⟨W1, hW1⟩ : ∃ W1, W1 = W0.alloc (.cells #[.slice (some ⟨S, 0, none⟩) M1 M1] 78) := ⟨_, rfl⟩
  have O0 : Hid (W1.ownsRow S 78 1 (.slice (some ⟨S + 1, 0, none⟩) 1 1) 1 (slC M1 [S]) ∧ Below S w W1 ∧ SzG W1 l m N [S]) := by
    have h1 := World.ownsRow_lit (base := S) (size := 1) (e := 78) W0 #[.slice (some ⟨S, 0, none⟩) M1 M1] 1 (by rw [F0.out.2.1]; omega) (by unfold maxLen; omega) (by simp)
    rw [F0.out.2.1, ← hW1] at h1
    have b1 : Below (S + 1) W0 W1 := by rw [hW1]; exact (Below.refl _ _).alloc (by rw [F0.out.2.1]; exact Nat.le_refl _) _
    refine ⟨h1, F0.out.1.trans (b1.mono (Nat.le_succ S)), fun k g hk => ?_⟩
    cases k with
    | succ k => simp at hk
    | zero =>
      simp at hk
      subst hk
      refine ⟨by rw [hW1]; simp; rw [F0.out.2.1]; omega, fun j hj => ?_⟩
      rw [(b1.cell (p := ⟨S, _, none⟩) (Nat.lt_succ_self S)).trans (F0.out.2.2.2 j (by rw [hM1, hM]; omega)).1, Nat.add_zero, List.drop_eq_nil_of_le (by rw [hN]; exact Nat.le_refl _), Al.lcs_nil]
  have SZ0 : Hid (W0.heap.size = S + 1) := F0.out.2.1
  have TB0 : Hid (l.length + 1 = N + 1 ∧ m.length + 1 = M1) := ⟨by rw [hN], by rw [hM1, hM]⟩
  rw [← hN, ← hM]
  clear ha hb hB hl hm hN hM hM1 hMC F0
  obtain ⟨I0, hI0⟩ : ∃ I0 : Int, I0 = (N : Int) - 1 := ⟨_, rfl⟩
  have dn0 : wrap64 ((N : Int) - 1) = I0 := (dn_nums N (by have := HN.out; omega)).1.trans hI0.symm
  have HI0 := hidA hI0
  obtain ⟨S1, hS1⟩ : ∃ S1, S1 = S + 1 := ⟨_, rfl⟩
  have HS1 := hidA hS1
  rw [← hS1] at O0 SZ0
  have HW0 := hidA hW0
  have HW1 := hidA hW1
  clear hI0 hS1 hW0 hW1 hS
  go_enter Tryd.func52, Tryd.ntmps52
  go_upto_region 2 with fail
  rw [← HW0.out, ← HS.out]
  go_upto_region 3 with fail
  rw [SZ0.out, ← HW1.out, e1]
  go_wp2_with fail
  rw [dn0]
  clear dn0
  go_loopg [5, 6, 7] N (fun gk y5 y6 y7 wr => ∃ (gb : Nat) (gs : List Nat) (I : Int), y5 = .slice (some ⟨gb, 0, none⟩) M1 M1 ∧ y7 = .int .i64 I ∧ gk ≤ N ∧ Hid (I = (gk : Int) - 1) ∧ Hid (wr.ownsRow S 78 1 y6 gs.length (slC M1 gs) ∧ Below S w wr ∧ SzG wr l m gk gs ∧ gs.length + gk = N + 1 ∧ gs[0]? = some gb))
  case atStart => exact ⟨S, [S], I0, rfl, rfl, Nat.le_refl _, HI0.out, O0.out.1, O0.out.2.1, O0.out.2.2, Nat.add_comm _ _, rfl⟩
  case round =>
    obtain ⟨gb, gs, I, rfl, rfl, hgk, HI, RR⟩ := hrel
    have SW : Hid (S ≤ wr.heap.size) := by rw [HS.out]; exact RR.out.2.1.size
    rcases gk with _ | gO
    · have dk : decide ((0 : Int) ≤ I) = false := decide_eq_false (by have := HI.out; omega)
      have FIN : Hid (∃ g c, u6 = .slice (some ⟨g, 0, none⟩) (N + 1) c ∧ SzT wr g l m ∧ Below S w wr) := by
        obtain ⟨h1, h2, h3, h4, -⟩ := RR.out
        have h4' : gs.length = N + 1 := h4
        rcases h1.2 with ⟨_, hn⟩ | ⟨g, cap, cur, rfl, hbg, hg, _⟩
        · omega
        · have hc := h1.cells (g := g) rfl
          refine ⟨g, cap, by rw [h4'], ⟨(Array.getElem?_eq_some_iff.1 hg).1, fun i hi => ?_⟩, h2⟩
          obtain ⟨gi, hgi⟩ : ∃ gi, gs[i]? = some gi := ⟨_, List.getElem?_eq_getElem (by rw [h4', HN.out.1]; omega)⟩
          obtain ⟨k1, k2⟩ := h3 i gi hgi
          refine ⟨gi, ?_, k1, fun j hj => by have := k2 j hj; rwa [Nat.zero_add] at this⟩
          have := hc i (.slice (some ⟨gi, 0, none⟩) M1 M1) (by unfold slC; rw [List.getElem?_map, hgi]; rfl)
          rw [add0A] at this
          rw [this, TB0.out.2]
      obtain ⟨g, c, e6, fs, fb⟩ := FIN.out
      have FS := hidA fs
      have FB := hidA fb
      subst e6
      clear RR O0 FIN fs fb
      go_wp2_with fail
      go_ret
      exact ⟨g, c, rfl, FS.out, FB.out⟩
    · obtain rfl : I = (gO : Int) := by have := HI.out; omega
      have hgO : gO < N := hgk
      have dk : decide ((0 : Int) ≤ (gO : Int)) = true := decide_eq_true (Int.natCast_nonneg _)
      obtain ⟨n1, n2, n3⟩ := ix_nums hgO
      obtain ⟨x, hx⟩ : ∃ x, l[gO]? = some x := ⟨_, List.getElem?_eq_getElem (by rw [← HN.out.1]; exact hgO)⟩
      have HX := hidA hx
      have XD := hidA (drop_get hx)
      obtain ⟨Wi, hWi⟩ : ∃ Wi, Wi = wr := ⟨_, rfl⟩
      subst hWi
      obtain ⟨V6, hV6⟩ : ∃ V6, V6 = u6 := ⟨_, rfl⟩
      subst hV6
      obtain ⟨gr, hgr⟩ : ∃ gr, gr = Wi.heap.size := ⟨_, rfl⟩
      have HGR := hidA hgr
      obtain ⟨W2, hW2⟩ : ∃ W2, W2 = Wi.alloc (.cells MC 3) := ⟨_, rfl⟩
      have HW2 := hidA hW2
      obtain ⟨J0, hJ0⟩ : ∃ J0 : Int, J0 = (M : Int) - 1 := ⟨_, rfl⟩
      have dnM : wrap64 ((M : Int) - 1) = J0 := (dn_nums M (by have := HN.out; omega)).1.trans hJ0.symm
      have HJ0 := hidA hJ0
      have GB : Hid (gb < Wi.heap.size ∧ ∀ j, j ≤ M → Wi.cell? ⟨gb, j, none⟩ = some (.int .i64 (Al.lcs (l.drop (gO + 1)) (m.drop j) : Nat))) := by
        have h := RR.out.2.2.1 0 gb RR.out.2.2.2.2
        rw [← HN.out.2.1, Nat.add_zero] at h
        exact h
      have R0 : Hid (Below gr Wi W2 ∧ NB W2 gr M1 (fun j => if M ≤ j then Al.lcs (l.drop gO) (m.drop j) else 0)) := by
        refine ⟨by rw [hW2, hgr]; exact (Below.refl _ _).alloc (Nat.le_refl _) _, ?_⟩
        rw [hW2, hgr]
        refine (NBM.out Wi).congr fun j hj => ?_
        by_cases c : M ≤ j
        · rw [if_pos c, show m.drop j = [] from List.drop_eq_nil_of_le (by rw [← HN.out.2.1]; exact c), Al.lcs_nilr]
        · rw [if_neg c]
      have BW : Hid (Below S w Wi) := RR.out.2.1
      clear hx hgr hW2 hJ0 n2
      go_upto_region 7 with fail
      rw [← HW2.out, ← HGR.out]
      go_wp2_with fail
      go_loopg [9] M (fun gj y9 wz => ∃ J : Int, y9 = .int .i64 J ∧ gj ≤ M ∧ Hid (J = (gj : Int) - 1) ∧ Hid (Below gr Wi wz ∧ NB wz gr M1 (fun j => if gj ≤ j then Al.lcs (l.drop gO) (m.drop j) else 0)))
      case atStart => exact ⟨J0, congrArg _ dnM, Nat.le_refl _, HJ0.out, R0.out⟩
      case round =>
        obtain ⟨J, rfl, hgj, HJ, QR⟩ := hrel
        rcases gk with _ | gJ
        · have dj : decide ((0 : Int) ≤ J) = false := decide_eq_false (by have := HJ.out; omega)
          obtain ⟨Q, hQ⟩ : ∃ Q, Q = gs.length := ⟨_, rfl⟩
          have HQ : Hid (Q = gs.length ∧ 0 < Q ∧ Q ≤ 101) := by have := RR.out.2.2.2.1; have := HN.out; exact ⟨hQ, by omega, by omega⟩
          obtain ⟨g6, c6, e6⟩ : ∃ g6 c6, V6 = .slice (some ⟨g6, 0, none⟩) Q c6 := by
            rcases RR.out.1.2 with ⟨_, hn⟩ | ⟨g, cap, cur, e, _⟩
            · have := HQ.out; omega
            · exact ⟨g, cap, by rw [e, hQ]⟩
          obtain ⟨W7, hW7⟩ : ∃ W7, W7 = wr := ⟨_, rfl⟩
          subst hW7
          have B7 : Hid (Below Wi.heap.size Wi W7) := by have h := QR.out.1; rw [HGR.out] at h; exact h
          have O7 : Hid (∀ V, Below W7.heap.size W7 V → ∀ (j : Nat) (u : Value), (slC M1 gs)[j]? = some u → V.cell? ((⟨g6, 0, none⟩ : Addr).add j) = some u) := fun V hV => by
            have h := ownA (ownA RR.out.1 B7.out) hV
            exact h.cells (g := g6) (by rw [e6]; rfl)
          have N7 := hidA QR.out.2
          have H63a := hidA (own63s (k := 0) (by decide))
          have H63b := hidA (own63t (k := Q) (Nat.le_trans HQ.out.2.2 (by decide)))
          have ON0 : Hid (W7.ownsRow W7.heap.size 78 1 (.slice none 0 0) 0 []) := World.ownsRow_nil _ _ _ _
          have ONE : Hid (∀ u ∈ [Value.slice (some ⟨gr, 0, none⟩) M1 M1], u.oneCell' = true) := slC_one M1 [gr]
          have ONS := hidA (slC_one M1 gs)
          have LS : Hid ((slC M1 gs).length = Q * 1) := by unfold Hid; rw [slC_len, hQ, Nat.mul_one]
          subst e6
          clear hQ QR HX XD
          go_wp2_with (first
            | (have qq := OR2.out; at_builtin; refine wpList_append_tolA rfl _ _ 90 rfl W7.heap.size 78 i0 (.slice none 0 0) 1 24 Tryd.underlying90 hi zi0 zi1 zi2 rfl (by decide) _ _ _ rfl OR2.out ⟨g6, 0, none⟩ Q c6 (slC M1 gs) rfl LS.out (O7.out _ B8.out) ONS.out H63b.out.1 H63b.out.2 B8.out.size HQ.out.2.1 ?_)
            | (at_builtin; refine wpList_append_tolA rfl _ _ 90 rfl W7.heap.size 78 i0 (.slice none 0 0) 1 24 Tryd.underlying90 hi zi0 zi1 zi2 rfl (by decide) _ _ _ rfl (ownA ON0.out ((Below.refl _ _).alloc (Nat.le_refl _) _)) ⟨W7.heap.size, 0, none⟩ 1 1 [.slice (some ⟨gr, 0, none⟩) M1 M1] rfl rfl (one1A _ _ _) ONE.out H63a.out.1 H63a.out.2 (by simp) (by decide) ?_; intro v8 w8 h8 g8 o8; have B8 := hidA (own_low ON0.out (Nat.le_refl _) g8); have OR2 := hidA h8; clear h8 g8 o8))
          intro v9 w9 h9 g9 o9
          have F9 : Hid (w9.ownsRow S 78 1 v9 (gr :: gs).length (slC M1 (gr :: gs)) ∧ Below S w w9 ∧ SzG w9 l m gO (gr :: gs) ∧ (gr :: gs).length + gO = N + 1) := by
            have b9 : Below W7.heap.size W7 w9 := B8.out.trans ⟨g9.os, g9.tape, g9.output, g9.size, fun k hk => g9.block k (Nat.lt_of_lt_of_le hk B8.out.size) (fun e => by have := (World.ownsRow.lt OR2.out _ e.symm).1; omega)⟩
            have s7 : S ≤ W7.heap.size := Nat.le_trans SW.out B7.out.size
            have h : w9.ownsRow W7.heap.size 78 1 v9 (1 + Q) (slC M1 (gr :: gs)) := h9
            rw [show 1 + Q = (gr :: gs).length by rw [List.length_cons, ← HQ.out.1, Nat.add_comm]] at h
            refine ⟨⟨h.1, ?_⟩, BW.out.trans ((B7.out.mono SW.out).trans (b9.mono s7)), ?_, by have := RR.out.2.2.2.1; simp only [List.length_cons]; omega⟩
            · rcases h.2 with h | ⟨g, cap, cur, e, hg, r⟩
              · exact .inl h
              · exact .inr ⟨g, cap, cur, e, Nat.le_trans s7 hg, r⟩
            · have n9 := N7.out.later b9 N7.out.1
              refine ((RR.out.2.2.1.later B7.out).later b9).cons n9.1 fun j hj => ?_
              have := (n9.2 j (by rw [HM1.out, HN.out.2.1]; omega)).1
              exact this
          clear h9 g9 o9 RR GB R0 N7 O7 B7 B8 OR2
          have dO := (dn_nums gO (by have := HN.out; omega)).1
          go_wp2_with fail
          go_roundg gO
          case measure => omega
          case rel => exact ⟨gr, gr :: gs, _, rfl, rfl, Nat.le_of_lt hgO, dO, F9.out.1, F9.out.2.1, F9.out.2.2.1, F9.out.2.2.2, rfl⟩
        · obtain rfl : J = (gJ : Int) := by have := HJ.out; omega
          have hgJ : gJ < M := hgj
          have dj : decide ((0 : Int) ≤ (gJ : Int)) = true := decide_eq_true (Int.natCast_nonneg _)
          obtain ⟨y, hy⟩ : ∃ y, m[gJ]? = some y := ⟨_, List.getElem?_eq_getElem (by rw [← HN.out.2.1]; exact hgJ)⟩
          have HM2 : Hid (gJ < M1 ∧ gJ + 1 < M1) := by have := HM1.out; exact ⟨by omega, by omega⟩
          obtain ⟨U, hU⟩ : ∃ U, U = Al.lcs (l.drop (gO + 1)) (m.drop gJ) := ⟨_, rfl⟩
          obtain ⟨L, hL⟩ : ∃ L, L = Al.lcs (l.drop gO) (m.drop (gJ + 1)) := ⟨_, rfl⟩
          obtain ⟨D, hD⟩ : ∃ D, D = Al.lcs (l.drop (gO + 1)) (m.drop (gJ + 1)) := ⟨_, rfl⟩
          have ST : Hid (Al.lcs (l.drop gO) (m.drop gJ) = (if x = y ∧ (if U < L then L else U) < D + 1 then D + 1 else (if U < L then L else U))) := by
            unfold Hid
            rw [hU, hL, hD, XD.out, drop_get hy]
            exact Al.lcs_stb (l.drop (gO + 1)) (m.drop (gJ + 1)) x y
          have DB : Hid (D ≤ 100) := by rw [hD]; exact lcs_db _ _ _ _ (by rw [← HN.out.1]; exact HN.out.2.2.1)
          obtain ⟨F, hF⟩ : ∃ F : Nat → Nat, F = fun j => if gJ + 1 ≤ j then Al.lcs (l.drop gO) (m.drop j) else 0 := ⟨_, rfl⟩
          have FL : Hid (F (gJ + 1) = L) := by rw [hF, hL]; exact if_pos (Nat.le_refl _)
          have FE : Hid (∀ V, PR Wi gr gr M1 gJ F (Al.lcs (l.drop gO) (m.drop gJ)) V → NB V gr M1 (fun j => if gJ ≤ j then Al.lcs (l.drop gO) (m.drop j) else 0)) := fun V h => h.2.congr fun j hj => by
            rw [hF]
            show (if j = gJ then Al.lcs (l.drop gO) (m.drop gJ) else if gJ + 1 ≤ j then Al.lcs (l.drop gO) (m.drop j) else 0) = if gJ ≤ j then Al.lcs (l.drop gO) (m.drop j) else 0
            by_cases c : j = gJ
            · rw [if_pos c, if_pos (by omega), c]
            · rw [if_neg c]
              by_cases c2 : gJ + 1 ≤ j
              · rw [if_pos c2, if_pos (by omega)]
              · rw [if_neg c2, if_neg (by omega)]
          have P0 : Hid (PR Wi gr gr M1 gJ F (F gJ) wr) := ⟨QR.out.1, QR.out.2.congr fun j hj => by
            rw [hF]
            by_cases c : j = gJ
            · rw [if_pos c, c]
            · rw [if_neg c]⟩
          have CB : Hid (∀ V n, PR Wi gr gr M1 gJ F n V → V.cell? ⟨gb, gJ, none⟩ = some (.int .i64 (U : Int)) ∧ V.cell? ⟨gb, gJ + 1, none⟩ = some (.int .i64 (D : Int)) ∧ V.cell? ⟨gr, gJ + 1, none⟩ = some (.int .i64 (L : Int)) ∧ V.cell? ⟨gr, gJ, none⟩ = some (.int .i64 (n : Int)) ∧ V.frozen? ⟨gr, gJ, none⟩ = false) := fun V n h => by
            have hb := GB.out.1
            have b1 := h.1
            rw [HGR.out] at b1
            refine ⟨(b1.cell (p := ⟨gb, _, none⟩) hb).trans ?_, (b1.cell (p := ⟨gb, _, none⟩) hb).trans ?_, ?_, ?_, ?_⟩
            · rw [hU]; exact GB.out.2 gJ (Nat.le_of_lt hgJ)
            · rw [hD]; exact GB.out.2 (gJ + 1) hgJ
            · have this : V.cell? ⟨gr, gJ + 1, none⟩ = some (.int .i64 ((if gJ + 1 = gJ then n else F (gJ + 1) : Nat) : Int)) := (h.2.2 (gJ + 1) HM2.out.2).1
              rw [if_neg (by omega), FL.out] at this
              exact this
            · have this : V.cell? ⟨gr, gJ, none⟩ = some (.int .i64 ((if gJ = gJ then n else F gJ : Nat) : Int)) := (h.2.2 gJ HM2.out.1).1
              rw [if_pos rfl] at this
              exact this
            · exact (h.2.2 gJ HM2.out.1).2
          have EV : Hid (∀ V n, PR Wi gr gr M1 gJ F n V → ∃ ga oa gb ob, a = some ⟨ga, oa, none⟩ ∧ b = some ⟨gb, ob, none⟩ ∧ EvC V ga (oa + gO * 2) x ∧ EvC V gb (ob + gJ * 2) y) := fun V n h => by
            have b1 := h.1
            have bb : Below w.heap.size w V := by rw [← HS.out]; exact BW.out.trans (b1.mono (by rw [HGR.out]; exact SW.out))
            obtain ⟨ga, oa, e1, -, ca⟩ := (HA.out.later bb HBB.out) (by rw [← HN.out.1]; exact Nat.lt_of_le_of_lt (Nat.zero_le gO) hgO)
            obtain ⟨gb, ob, e2, -, cb⟩ := (HB.out.later bb HBB.out) (by rw [← HN.out.2.1]; exact Nat.lt_of_le_of_lt (Nat.zero_le gJ) hgJ)
            exact ⟨ga, oa, gb, ob, e1, e2, ca gO x HX.out, cb gJ y hy⟩
          clear hU hL hD hF hy QR R0
          obtain ⟨u0, u1, l0, r0, f0⟩ := CB.out wr _ P0.out
          obtain ⟨i1, i2, i3⟩ := ix_nums HM2.out.1
          obtain ⟨j1, j2, j3⟩ := ix_nums HM2.out.2
          have P1 : Hid (PR Wi gr gr M1 gJ F U (wr.setCell ⟨gr, gJ, none⟩ (.int .i64 (U : Int)))) := P0.out.set (Nat.le_refl _) HM2.out.1
          obtain ⟨W3, hW3⟩ : ∃ W3, W3 = wr.setCell ⟨gr, gJ, none⟩ (.int .i64 (U : Int)) := ⟨_, rfl⟩
          rw [← hW3] at P1
          have HW3 := hidA hW3
          clear hW3
          have WJ := wrK gJ (Nat.le_trans (Nat.le_of_lt hgJ) (Nat.le_trans HN.out.2.2.2 (by decide)))
          obtain ⟨J1, hJ1⟩ : ∃ J1, J1 = gJ + 1 := ⟨_, rfl⟩
          have HJ1 := hidA hJ1
          rw [← hJ1] at WJ j1 j2 j3 u1 l0
          clear hJ1
          obtain ⟨n, hn⟩ : ∃ n, n = if U < L then L else U := ⟨_, rfl⟩
          rw [← hn] at ST
          have HNN := hidA hn
          clear hn
          go_upto_region 11 with fail
          rw [← HW3.out]
          obtain ⟨a1, a2, a3, a4, a5⟩ := CB.out W3 _ P1.out
          rw [← HJ1.out] at a2 a3
          clear u0 u1 l0 r0 f0
          obtain ⟨q, hq⟩ : ∃ q, q = decide (U < L) := ⟨_, rfl⟩
          have d1 : decide ((U : Int) < (L : Int)) = q := by
            rw [hq]
            exact decide_eq_decide.2 Int.ofNat_lt
          have d2 : decide (U < L) = q := hq.symm
          have HQ := hidA hq
          clear hq
          go_quiet (fail)
          have P2 := hidA (P1.out.same (V' := W3.drewN nq) (by rfl) (by rfl) (by rfl) (by rfl))
          generalize W3.drewN nq = W4 at *
          clear a1 a2 a3 a4 a5
          obtain ⟨a1, a2, a3, a4, a5⟩ := CB.out W4 _ P2.out
          rw [← HJ1.out] at a2 a3
          clear P1 d1 d2
          go_upto_if 51 with fail
          go_cut [8] from 52 to 59 (fun s8 wx => s8 = .slice (some ⟨gr, 0, none⟩) M1 M1 ∧ Hid (PR Wi gr gr M1 gJ F n wx))
          case first =>
            cases q with
            | true =>
              have P3 : Hid (PR Wi gr gr M1 gJ F n (W4.setCell ⟨gr, gJ, none⟩ (.int .i64 (L : Int)))) := by
                have h := P2.out.set (n' := L) (Nat.le_refl _) HM2.out.1
                have c : U < L := of_decide_eq_true HQ.out.symm
                rw [show n = L by rw [HNN.out, if_pos c]]
                exact h
              go_wp2_with fail
              go_meet
              exact ⟨rfl, P3.out⟩
            | false =>
              have P3 : Hid (PR Wi gr gr M1 gJ F n W4) := by
                have c : ¬ U < L := of_decide_eq_false HQ.out.symm
                rw [show n = U by rw [HNN.out, if_neg c]]
                exact P2.out
              go_wp2_with fail
              go_meet
              exact ⟨rfl, P3.out⟩
          case rest =>
            obtain ⟨rfl, P3⟩ := hcut
            obtain ⟨W5, hW5⟩ : ∃ W5, W5 = wc := ⟨_, rfl⟩
            subst hW5
            clear P2 a1 a2 a3 a4 a5
            obtain ⟨a1, a2, a3, a4, a5⟩ := CB.out W5 _ P3.out
            rw [← HJ1.out] at a2 a3
            obtain ⟨ga, oa, gx, ob, rfl, rfl, ca, cb⟩ := EV.out W5 _ P3.out
            obtain ⟨x0, x1⟩ := ca
            obtain ⟨y0, y1⟩ := cb
            have WD := wrM D DB.out
            have WD2 := wrM' D (Nat.le_trans DB.out (by decide))
            obtain ⟨D1, hD1⟩ : ∃ D1, D1 = D + 1 := ⟨_, rfl⟩
            rw [← hD1] at ST WD WD2
            have dJ := (dn_nums gJ (by have := HN.out; omega)).1
            clear hD1
            obtain ⟨m1, m2, m3⟩ := ix_nums hgJ
            by_cases hxy : x = y
            · by_cases c : n < D1
              · have c1 : decide ((n : Int) < (D1 : Int)) = true := decide_eq_true (Int.ofNat_lt.2 c)
                have c2 : decide (n < D1) = true := decide_eq_true c
                have RS : Hid (Al.lcs (l.drop gO) (m.drop gJ) = D1) := by rw [ST.out, if_pos ⟨hxy, c⟩]; exact hidA rfl
                have z0 : (x.1 == y.1) = true := by rw [hxy]; exact beq_self_eq_true _
                have z9 : (x.2 == y.2) = true := by rw [hxy]; exact beq_self_eq_true _
                clear c hxy ST
                generalize x.1 = xa at x0 z0
                generalize x.2 = xb at x1 z9
                generalize y.1 = ya at y0 z0
                generalize y.2 = yb at y1 z9
                go_upto_region 13 with fail
                go_quiet (fail)
                have P4 := hidA (P3.out.same (V' := W5.drewN nq) (by rfl) (by rfl) (by rfl) (by rfl))
                generalize W5.drewN nq = W6 at *
                clear a1 a2 a3 a4 a5
                obtain ⟨a1, a2, a3, a4, a5⟩ := CB.out W6 _ P4.out
                rw [← HJ1.out] at a2 a3
                have FIN : Hid (Below gr Wi (W6.setCell ⟨gr, gJ, none⟩ (.int .i64 (D1 : Int))) ∧ NB (W6.setCell ⟨gr, gJ, none⟩ (.int .i64 (D1 : Int))) gr M1 (fun j => if gJ ≤ j then Al.lcs (l.drop gO) (m.drop j) else 0)) := by
                  have h := P4.out.set (n' := D1) (Nat.le_refl _) HM2.out.1
                  exact ⟨h.1, FE.out _ (by rw [RS.out]; exact h)⟩
                go_wp2_with fail
                go_roundg gJ
                case measure => omega
                case rel => exact ⟨_, rfl, Nat.le_of_lt hgJ, dJ, FIN.out⟩
              · have c1 : decide ((n : Int) < (D1 : Int)) = false := decide_eq_false (fun h => c (Int.ofNat_lt.1 h))
                have c2 : decide (n < D1) = false := decide_eq_false c
                have RS : Hid (Al.lcs (l.drop gO) (m.drop gJ) = n) := by rw [ST.out, if_neg (fun h => c h.2)]; exact hidA rfl
                have z0 : (x.1 == y.1) = true := by rw [hxy]; exact beq_self_eq_true _
                have z9 : (x.2 == y.2) = true := by rw [hxy]; exact beq_self_eq_true _
                clear c hxy ST
                generalize x.1 = xa at x0 z0
                generalize x.2 = xb at x1 z9
                generalize y.1 = ya at y0 z0
                generalize y.2 = yb at y1 z9
                go_upto_region 13 with fail
                go_quiet (fail)
                have P4 := hidA (P3.out.same (V' := W5.drewN nq) (by rfl) (by rfl) (by rfl) (by rfl))
                generalize W5.drewN nq = W6 at *
                clear a1 a2 a3 a4 a5
                have FIN : Hid (Below gr Wi W6 ∧ NB W6 gr M1 (fun j => if gJ ≤ j then Al.lcs (l.drop gO) (m.drop j) else 0)) := ⟨P4.out.1, FE.out _ (by rw [RS.out]; exact P4.out)⟩
                go_wp2_with fail
                go_roundg gJ
                case measure => omega
                case rel => exact ⟨_, rfl, Nat.le_of_lt hgJ, dJ, FIN.out⟩
            · have RS : Hid (Al.lcs (l.drop gO) (m.drop gJ) = n) := by rw [ST.out, if_neg (fun h => hxy h.1)]; exact hidA rfl
              have zz := ev_ne hxy
              clear hxy ST
              generalize x.1 = xa at x0 zz
              generalize x.2 = xb at x1 zz
              generalize y.1 = ya at y0 zz
              generalize y.2 = yb at y1 zz
              rcases zz with z0 | ⟨z0, z9⟩
              all_goals
                go_upto_region 13 with fail
                go_quiet (fail)
                have P4 := hidA (P3.out.same (V' := W5.drewN nq) (by rfl) (by rfl) (by rfl) (by rfl))
                generalize W5.drewN nq = W6 at *
                clear a1 a2 a3 a4 a5
                have FIN : Hid (Below gr Wi W6 ∧ NB W6 gr M1 (fun j => if gJ ≤ j then Al.lcs (l.drop gO) (m.drop j) else 0)) := ⟨P4.out.1, FE.out _ (by rw [RS.out]; exact P4.out)⟩
                go_wp2_with fail
                go_roundg gJ
                case measure => omega
                case rel => exact ⟨_, rfl, Nat.le_of_lt hgJ, dJ, FIN.out⟩
end Go.Proofs.YthglhcabdadlpaaDoor
