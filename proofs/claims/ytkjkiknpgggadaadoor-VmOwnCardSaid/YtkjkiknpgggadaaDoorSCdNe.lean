/- Layer 8: the document's Heights, for every code of every codes. -/
import Derived.Test.YtkjkiknpgggadaaDoorSCdNd
namespace Go.Proofs.YtkjkiknpgggadaaDoor
open Go.RowKit
set_option linter.unusedVariables false
set_option linter.unusedSimpArgs false

set_option maxRecDepth 100000 in
set_option maxHeartbeats 4000000 in
theorem rHts_out (k : Int) (la : Option Addr) (L lc : Nat) (w : World) (hk : ¬ (0 ≤ k ∧ k < L)) : Calls Tryd.prog 56 #[.slice la L lc, .int .i64 k] w fun e w' => e = .returned (.tuple #[.slice none 0 0, .bool false]) ∧ Below w.heap.size w w' := by
  by_cases h1 : k < 0
  · have d1 : decide (k < 0) = true := decide_eq_true h1
    clear hk
    go_enter Tryd.func56, Tryd.ntmps56
    go_wp2_with fail
    go_ret2
    exact ⟨rfl, Below.refl _ _⟩
  · have d1 : decide (k < 0) = false := decide_eq_false h1
    have h2 : (L : Int) ≤ k := by omega
    have d2 : decide ((L : Int) ≤ k) = true := decide_eq_true h2
    clear hk
    go_enter Tryd.func56, Tryd.ntmps56
    go_wp2_with fail
    go_ret2
    exact ⟨rfl, Below.refl _ _⟩
theorem rhQ_no {l : List Cd.Co} {c : Cd.Co} {w w' : World} (h : Cd.HR 8 l c none) (b : Below w.heap.size w w') : RhQ l c w (.returned (.tuple #[.slice none 0 0, .bool false])) w' := ⟨none, h, b, rfl⟩
theorem FlS.mono {B B' : Nat} {w : World} {a : Option Addr} {l : List Int} (h : FlS B w a l) (hb : B' ≤ B) : FlS B' w a l := fun h0 => by
  obtain ⟨g, e, h1, h2, h3⟩ := h h0
  exact ⟨g, e, Nat.le_trans hb h1, h2, h3⟩
theorem fm_no {l : List Cd.Co} {c : Cd.Co} (h : (Cd.sz c && Cd.fm 8 l c) = false) : Cd.HR 8 l c none := fun f => by
  have a : Cd.sz c = true := f.sz
  have b : Cd.fm 8 l c = true := List.all_eq_true.2 fun i hi => by have := f.al i hi; rw [this.1, this.2]; rfl
  rw [a, b] at h
  cases h
theorem bare_op {i : Cd.In} (h : Cd.bare i = true) : i.op = 20 ∨ i.op = 24 := by
  unfold Cd.bare at h
  simp at h
  exact h
theorem bare_24 {i : Cd.In} (h : i.op = 24) : Cd.bare i = true := by unfold Cd.bare; simp [h]
theorem bare_20 {i : Cd.In} (h : i.op = 20) : Cd.bare i = true := by unfold Cd.bare; simp [h]
theorem tk_24 {i : Cd.In} (h : i.op = 24) : Cd.tk i = 0 := by
  unfold Cd.tk
  rw [if_neg (by omega), if_neg (by omega), h]
  rfl
theorem ask_is (i : Cd.In) (h : Int) (T : Int) (hT : T = Cd.tk i) : (Cd.tk i ≤ h ∧ h ≤ 4096 ∧ (Cd.bare i = true → h = Cd.tk i)) ↔ ¬ h < T ∧ ¬ 4096 < h ∧ (i.op = 24 → h = 0) ∧ (i.op = 20 → h = T) := by
  rw [hT]
  constructor
  · rintro ⟨a, b, d⟩
    refine ⟨by omega, by omega, fun e => ?_, fun e => d (bare_20 e)⟩
    rw [d (bare_24 e), tk_24 e]
  · rintro ⟨a, b, d, f⟩
    refine ⟨by omega, by omega, fun e => ?_⟩
    rcases bare_op e with e | e
    · exact f e
    · rw [d e, tk_24 e]
set_option maxRecDepth 100000 in
set_option maxHeartbeats 16000000 in
theorem rHts_in (k : Nat) (c : Cd.Co) (B : Nat) (la : Option Addr) (lc : Nat) (l : List Cd.Co) (w : World) (hB : B ≤ w.heap.size) (hco : CoS B w la l) (hok : ∀ d, d ∈ l → d.Ok) (hk : l[k]? = some c) : Calls Tryd.prog 56 #[.slice la l.length lc, .int .i64 k] w (RhQ l c w) := by
  obtain ⟨i0, hi, hz0, hz1, hz2⟩ := info_parts cInt
  obtain ⟨g0, o, ia, ic, rfl, hg, at_⟩ := hco.at hk
  have kl : k < l.length := (List.getElem?_eq_some_iff.1 hk).1
  have ck : c.Ok := hok c (List.mem_of_getElem? hk)
  obtain ⟨sh, hsh⟩ : ∃ sh, sh = (Cd.sz c && Cd.fm 8 l c) := ⟨_, rfl⟩
  obtain ⟨N, hN⟩ : ∃ N, N = c.ins.length := ⟨_, rfl⟩
  have ES : Hid (Calls Tryd.prog 70 #[.slice (some ⟨g0, o, none⟩) l.length lc, .agg #[.slice ia N ic, .int .i64 c.cells, .int .i64 c.params, .bool c.ans]] w fun e w' => e = .returned (.bool sh) ∧ Below w.heap.size w w') := by
    have := rShape_any B (some ⟨g0, o, none⟩) lc l ia ic c w ⟨hB, hco, hok, ck⟩ at_.hi
    rw [← hsh] at this
    rw [hN]
    exact this
  have c0 := at_.c0
  have c1 := at_.c1
  have c2 := at_.c2
  have c3 := at_.c3
  rw [← hN] at c0
  have HI : Hid (InS B w ia c.ins) := at_.hi
  have HSH : Hid (sh = (Cd.sz c && Cd.fm 8 l c)) := hsh
  have HN : Hid (N = c.ins.length) := hN
  have HCO : Hid (CoS B w (some ⟨g0, o, none⟩) l) := hco
  have HCK : Hid (c.Ok) := ck
  have HB : Hid (B ≤ w.heap.size) := hB
  have hgw : g0 < w.heap.size := Nat.lt_of_lt_of_le hg hB
  obtain ⟨L, hL⟩ : ∃ L, L = l.length := ⟨_, rfl⟩
  have HL : Hid (L = l.length) := hL
  rw [← hL] at ES ⊢
  have hki : (k : Int) < (L : Int) := by omega
  have hk0 : (0 : Int) ≤ (k : Int) := by omega
  have d1 : decide ((k : Int) < 0) = false := decide_eq_false (by omega)
  have d2 : decide ((L : Int) ≤ (k : Int)) = false := decide_eq_false (by omega)
  have d3 : decide (L ≤ k) = false := decide_eq_false (by omega)
  clear hok hk kl ck hsh hN hB hco hL at_
  go_enter Tryd.func56, Tryd.ntmps56
  go_wp2_with fail
  refine Calls.mono ES.out ?_
  rintro e1 w1 ⟨rfl, b1⟩
  have B1 : Hid (Below w.heap.size w w1) := b1
  have a0 := (b1.cell (p := ⟨g0, o + k * 4, none⟩) hgw).trans c0
  have a1 := (b1.cell (p := ⟨g0, o + k * 4 + 1, none⟩) hgw).trans c1
  have a2 := (b1.cell (p := ⟨g0, o + k * 4 + 2, none⟩) hgw).trans c2
  have a3 := (b1.cell (p := ⟨g0, o + k * 4 + 3, none⟩) hgw).trans c3
  clear b1 c0 c1 c2 c3 ES
  cases sh with
  | false =>
    go_wp2_with fail
    go_ret2
    exact rhQ_no (fm_no HSH.out.symm) B1.out
  | true =>
    obtain ⟨HS, HF⟩ : Hid (Cd.sz c = true) ∧ Hid (Cd.fm 8 l c = true) := by
      have := HSH.out.symm
      simp only [Bool.and_eq_true] at this
      exact this
    have hN6 : 1 ≤ N ∧ N ≤ 65536 := by
      have := (sz_is N c HN.out).1 HS.out
      omega
    obtain ⟨W3, hW3⟩ : ∃ W3, W3 = w1.alloc (coB ia N ic c) := ⟨_, rfl⟩
    obtain ⟨b, hb⟩ : ∃ b, b = w1.heap.size := ⟨_, rfl⟩
    obtain ⟨x0, x1, x2, x3, bw3, bl3⟩ := co_box w1 ia N ic c b W3 hb hW3
    have X3 : Hid (CoXn w1 W3 b ia N ic c) := ⟨x0, x1, x2, x3, bw3, bl3⟩
    have HBb : Hid (b = w1.heap.size) := hb
    have HRH : Hid (∀ e w', RhQ l c w1 e w' → RhQ l c w e w') := fun e w' ⟨r, h1, h2, h3⟩ => by
      refine ⟨r, h1, B1.out.trans (h2.mono B1.out.size), ?_⟩
      match r, h3 with
      | none, h3 => exact h3
      | some H, ⟨g, cap, rest, h4, h5, h6⟩ => exact ⟨g, cap, rest, h4, Nat.le_trans B1.out.size h5, h6⟩
    go_upto_region 4 with fail
    rw [← hW3, ← hb]
    clear hW3 hb x0 x1 x2 x3 bw3 bl3 a0 a1 a2 a3 HSH
    go_wp2_with fail
    go_loopg [7, 8] N (fun gk v i wr => HtA w1 b ia N ic c gk v i wr)
    case atStart => exact ⟨0, by omega, rfl, ⟨none, 0, rfl⟩, World.ownsRow_nil _ _ _ _, X3⟩
    case round =>
      clear X3
      obtain ⟨j, hj, rfl, ⟨va, vcap, rfl⟩, R, X⟩ := hrel
      have x0 := X.out.a0
      have xl := X.out.lt
      cases gk with
      | succ gO =>
        have hji : (j : Int) < (N : Int) := by omega
        have djn : decide (j < N) = true := decide_eq_true (by omega)
        have H63 : Hid (j + 1 ≤ maxLen ∧ ((j + 1) + (j + 1) / 4 + 192) * 8 ≤ 281474976710656) := by unfold Hid maxLen; omega
        have hbs : b + 1 ≤ wr.heap.size := xl
        have ONE1 : Hid (∀ u ∈ [Value.int .i64 (-1)], u.oneCell' = true) := fun y hy => by simp at hy; subst hy; rfl
        go_wp2_with (at_builtin; refine wpList_append_own_wide _ rfl _ _ 96 rfl (b + 1) 3 i0 (.int .i64 0) 1 8 Tryd.underlying96 hi hz0 hz1 hz2 rfl (by decide) _ _ _ rfl (own_lat R.out ((Below.refl _ _).alloc (Nat.le_refl _) _)) ⟨wr.heap.size, 0, none⟩ 1 1 [.int .i64 (-1)] rfl rfl (one_at _ _ _) ONE1.out H63.out.1 H63.out.2 (by simp; omega) ?_)
        intro v9 w9 h9 g9 o9
        have h9' : w9.ownsRow (b + 1) 3 1 v9 (j + 1) (nC (List.replicate j (-1)) ++ [.int .i64 (-1)]) := by
          rw [show nC (List.replicate j (-1)) = List.replicate j (Value.int .i64 (-1)) from by simp [nC]]
          exact h9
        obtain ⟨R9, X9⟩ := HtA.step R.out X.out HBb.out h9' g9
        clear h9'
        have R9' : Hid _ := R9
        have X9' : Hid _ := X9
        obtain ⟨va9, cap9, hv9⟩ := own_shp h9
        subst hv9
        clear h9 g9 o9 R9 X9 R X
        go_wp2_with fail
        go_roundg gO
        case measure => omega
        case rel => exact ⟨j + 1, by omega, by go_num, ⟨_, _, rfl⟩, R9', X9'⟩
      | zero =>
        obtain rfl : j = N := by omega
        obtain ⟨g, cap, hv, M⟩ := HtA.whole R.out X.out HBb.out (by omega)
        cases hv
        have M0 : Hid _ := M
        have s0 := (M.at (q := 0) (x := -1) (by rw [List.getElem?_replicate, if_pos (by omega)])).1
        have s1 := (M.at (q := 0) (x := -1) (by rw [List.getElem?_replicate, if_pos (by omega)])).2
        have M1 : Hid (HtM w1 b ia j ic c g ((List.replicate j (-1)).set 0 0) (wr.setCell ⟨g, 0, none⟩ (.int .i64 0))) := M.set (by simp; omega) 0
        have RI0 : Hid (Cd.RI l c ((List.replicate j (-1)).set 0 0)) := by
          have := Cd.RI.begin (l := l) (c := c) (by rw [← HN.out]; omega)
          rw [← HN.out] at this
          exact this
        have hji : ¬ (j : Int) < (j : Int) := by omega
        have djn : decide (j < j) = false := decide_eq_false (by omega)
        have hj1 : (0 : Int) < (j : Int) := by omega
        have hj2 : 0 < j := by omega
        clear M R X
        go_wp2_with fail
        obtain ⟨hs0, hhs0⟩ : ∃ hs0, hs0 = (List.replicate j (-1 : Int)).set 0 0 := ⟨_, rfl⟩
        rw [← hhs0] at M1 RI0
        clear hhs0 s0 s1 M0
        go_loopg [9] (Cd.lf hs0 + 1) (fun gk m wr => HtR w1 b ia j ic c l g gk m wr)
        case atStart => exact ⟨hs0, true, rfl, M1, RI0, rfl, fun e => by cases e⟩
        case round =>
          clear M1 RI0
          obtain ⟨hs, more, rfl, M, RI, GK, GD⟩ := hrel
          cases more with
          | false =>
            have FIN : Hid (RhQ l c w1 (.returned (.tuple #[.slice (some ⟨g, 0, none⟩) j vcap, .bool true])) wr) := by
              have hlv : ∀ i, i ∈ c.ins → 0 ≤ Cd.lv l i := fun i _ => (Cd.lv_bd l i).1
              have cl := RI.out.cl hlv (fun p hp => GD.out rfl p (by rw [HN.out]; exact hp))
              obtain ⟨rest, hh⟩ := M.out.hh
              exact ⟨some hs, ⟨cl, cl.fit HS.out (Cd.fm_all HF.out)⟩, M.out.x.bw, g, vcap, rest, by rw [RI.out.len, ← HN.out], M.out.wg, hh⟩
            clear M RI GK GD
            go_wp2_with fail
            go_ret2
            exact HRH.out _ _ FIN.out
          | true =>
            have GK2 : Hid (gk = Cd.lf hs + 1) := GK.out
            obtain ⟨GO, hGO⟩ : ∃ GO, GO = gk := ⟨_, rfl⟩
            rw [← hGO] at GK2
            clear GK GD
            go_wp2_with fail
            go_loopg [9, 10] j (fun gk m i wr => HtP w1 b ia j ic c l g (Cd.lf hs) gk m i wr)
            case atStart => exact ⟨0, hs, false, by omega, rfl, rfl, M, ⟨RI.out, Nat.le_refl _, (fun e => by cases e), fun _ p hp => absurd hp (Nat.not_lt_zero p)⟩⟩
            case round =>
              clear M RI
              obtain ⟨at_, hs1, more, hat, rfl, rfl, M, K⟩ := hrel
              cases gk with
              | zero =>
                obtain rfl : at_ = j := by omega
                have hai : ¬ (at_ : Int) < (at_ : Int) := by omega
                have dan : decide (at_ < at_) = false := decide_eq_false (by omega)
                go_wp2_with fail
                cases more with
                | true =>
                  go_roundg (Cd.lf hs1 + 1)
                  case measure => rw [← hGO]; have := GK2.out; have := K.out.lt rfl; omega
                  case rel => exact ⟨hs1, true, rfl, M, K.out.ri, rfl, fun e => by cases e⟩
                | false =>
                  go_roundg 0
                  case measure => rw [← hGO]; have := GK2.out; omega
                  case rel => exact ⟨hs1, false, rfl, M, K.out.ri, rfl, fun _ p hp => K.out.gd rfl p hp⟩
              | succ gP =>
                have hajN : at_ < j := by omega
                have hai : (at_ : Int) < (j : Int) := by omega
                have ha0 : (0 : Int) ≤ (at_ : Int) := by omega
                have dan : decide (at_ < j) = true := decide_eq_true hajN
                obtain ⟨h, hh⟩ : ∃ h, hs1[at_]? = some h := ⟨_, List.getElem?_eq_getElem (by rw [K.out.ri.len, ← HN.out]; exact hajN)⟩
                have HH : Hid (hs1[at_]? = some h) := hh
                have cH := (M.out.at hh).1
                rcases K.out.ri.ok at_ h hh with rfl | ⟨h0, h1, rc⟩
                · clear hh
                  go_wp2_with fail
                  go_roundg gP
                  case measure => omega
                  case rel => exact ⟨at_ + 1, hs1, more, by omega, by go_num, rfl, M, K.out.next (Cd.Gd.leave HH.out)⟩
                · obtain ⟨x, ex⟩ : ∃ x, c.ins[at_]? = some x := ⟨_, List.getElem?_eq_getElem (by rw [← HN.out]; exact hajN)⟩
                  have EX : Hid (c.ins[at_]? = some x) := ex
                  have RC : Hid (Cd.Rc l c at_ h) := rc
                  have HXA : Hid (Cd.hl x = true ∧ Cd.al 8 l c x = true) := Cd.fm_at HF.out ex
                  have bwr : Below w.heap.size w wr := B1.out.trans (M.out.x.bw.mono B1.out.size)
                  obtain ⟨gi, oi, hia, hgi, it⟩ := (HI.out.later (bwr.mono HB.out)).at ex
                  have x0 := M.out.x.a0
                  rw [hia] at x0
                  have u0 := it.c0
                  have u1 := it.c1
                  have u2 := it.c2
                  have gil : gi < wr.heap.size := Nat.lt_of_lt_of_le hgi (Nat.le_trans HB.out bwr.size)
                  obtain ⟨W5, hW5⟩ : ∃ W5, W5 = wr.alloc (inB x) := ⟨_, rfl⟩
                  obtain ⟨bx, hbx⟩ : ∃ bx, bx = wr.heap.size := ⟨_, rfl⟩
                  obtain ⟨t0, t1, t2, b5⟩ := in_box wr x bx W5 hbx hW5
                  have bl5 : bx < W5.heap.size := by rw [hbx, hW5]; simp
                  have M5 : Hid (HtM w1 b ia j ic c g hs1 W5) := M.out.later b5
                  have bw5 : Below w.heap.size w W5 := bwr.trans (b5.mono bwr.size)
                  have EE := rEff_any x B (some ⟨g0, o, none⟩) lc l W5 (Nat.le_trans HB.out bw5.size) (HCO.out.later (bw5.mono HB.out)) (Cd.hl_bd HXA.out.1).1 (Cd.hl_bd HXA.out.1).2 (fun e => ⟨(Cd.al_19 HXA.out.2 e).1, (Cd.al_19 HXA.out.2 e).2.1⟩)
                  obtain ⟨T, hT⟩ : ∃ T, T = Cd.tk x := ⟨_, rfl⟩
                  obtain ⟨Lv, hLv⟩ : ∃ Lv, Lv = Cd.lv l x := ⟨_, rfl⟩
                  rw [← hT, ← hLv, ← HL.out] at EE
                  have HE : Hid _ := EE
                  have hT0 : 0 ≤ T := by rw [hT]; exact Cd.tk_bd HXA.out.2
                  have hL0 : 0 ≤ Lv ∧ Lv ≤ 1 := by rw [hLv]; exact Cd.lv_bd l x
                  have HT : Hid (T = Cd.tk x) := hT
                  have HLv : Hid (Lv = Cd.lv l x) := hLv
                  have dneg : decide (h < 0) = false := decide_eq_false (by omega)
                  have hneg : ¬ h < 0 := by omega
                  clear hh ex rc EE hT hLv it hgi
                  go_upto_region 18 with fail
                  rw [← hW5, ← hbx]
                  clear hW5 hbx u0 u1 u2 x0 cH b5 M bwr bw5 gil hia
                  go_wp2_with fail
                  refine Calls.mono HE.out ?_
                  rintro e6 w6 ⟨rfl, b6⟩
                  have M6 : Hid (HtM w1 b ia j ic c g hs1 w6) := M5.out.later b6
                  have cH := (M6.out.at HH.out).1
                  have v0 := (b6.cell (p := ⟨bx, 0, none⟩) bl5).trans t0
                  have v1 := (b6.cell (p := ⟨bx, 1, none⟩) bl5).trans t1
                  have v2 := (b6.cell (p := ⟨bx, 2, none⟩) bl5).trans t2
                  clear b6 t0 t1 t2 bl5 M5 HE
                  have ASK : Hid _ := ask_is x h T HT.out
                  by_cases q1 : h < T
                  · have FIN : Hid (RhQ l c w1 (.returned (.tuple #[.slice none 0 0, .bool false])) w6) := rhQ_no (Cd.bad_at RC.out EX.out (fun hq => (ASK.out.1 hq).1 q1)) M6.out.x.bw
                    have dq : decide (h < T) = true := decide_eq_true q1
                    clear ASK M6 K
                    go_wp2_with fail
                    go_ret2
                    exact HRH.out _ _ FIN.out
                  · have dq : decide (h < T) = false := decide_eq_false q1
                    by_cases q2 : 4096 < h
                    · have FIN : Hid (RhQ l c w1 (.returned (.tuple #[.slice none 0 0, .bool false])) w6) := rhQ_no (Cd.bad_at RC.out EX.out (fun hq => (ASK.out.1 hq).2.1 q2)) M6.out.x.bw
                      have dr : decide (4096 < h) = true := decide_eq_true q2
                      clear ASK M6 K
                      go_wp2_with fail
                      go_ret2
                      exact HRH.out _ _ FIN.out
                    · have dr : decide (4096 < h) = false := decide_eq_false q2
                      by_cases q3 : x.op = 24 ∧ h ≠ 0
                      · have FIN : Hid (RhQ l c w1 (.returned (.tuple #[.slice none 0 0, .bool false])) w6) := rhQ_no (Cd.bad_at RC.out EX.out (fun hq => q3.2 ((ASK.out.1 hq).2.2.1 q3.1))) M6.out.x.bw
                        have e24 : (x.op == 24) = true := by rw [q3.1]; rfl
                        have nz : (h == 0) = false := beq_eq_false_iff_ne.2 q3.2
                        have nz2 : (h != 0) = true := by simp [bne, nz]
                        clear ASK M6 K q3
                        go_wp2_with fail
                        go_ret2
                        exact HRH.out _ _ FIN.out
                      · by_cases q4 : x.op = 20 ∧ h ≠ T
                        · have FIN : Hid (RhQ l c w1 (.returned (.tuple #[.slice none 0 0, .bool false])) w6) := rhQ_no (Cd.bad_at RC.out EX.out (fun hq => q4.2 ((ASK.out.1 hq).2.2.2 q4.1))) M6.out.x.bw
                          have e24 : (x.op == 24) = false := beq_eq_false_iff_ne.2 (by have := q4.1; omega)
                          have e20 : (x.op == 20) = true := by rw [q4.1]; rfl
                          have nz : (h == T) = false := beq_eq_false_iff_ne.2 q4.2
                          have nz2 : (h != T) = true := by simp [bne, nz]
                          clear ASK M6 K q3 q4
                          go_wp2_with fail
                          go_ret2
                          exact HRH.out _ _ FIN.out
                        · have GOOD : Hid (Cd.tk x ≤ h ∧ h ≤ 4096 ∧ (Cd.bare x = true → h = Cd.tk x)) := ASK.out.2 ⟨q1, q2, (fun e => by
                            by_cases hz : h = 0
                            · exact hz
                            · exact absurd ⟨e, hz⟩ q3), fun e => by
                            by_cases hz : h = T
                            · exact hz
                            · exact absurd ⟨e, hz⟩ q4⟩
                          obtain ⟨fs, hfs⟩ : ∃ fs, fs = Cd.fl x at_ := ⟨_, rfl⟩
                          have EFl := rFol_any x at_ (by omega) w6
                          rw [← hfs] at EFl
                          have HE2 : Hid _ := EFl
                          have HFS : Hid (fs = Cd.fl x at_) := hfs
                          have hh4 : h ≤ 4096 := by omega
                          have hTh : T ≤ h := by omega
                          clear EFl hfs ASK
                          go_upto_region 19 with fail
                          go_cut [109] from 72 to 109 (fun s wx => s = .bool false ∧ wx = w6)
                          case first =>
                            by_cases r3 : x.op = 24
                            · have hz : h = 0 := by
                                by_cases hz : h = 0
                                · exact hz
                                · exact absurd ⟨r3, hz⟩ q3
                              have e24 : (x.op == 24) = true := by rw [r3]; rfl
                              have e20 : (x.op == 20) = false := beq_eq_false_iff_ne.2 (by omega)
                              have nz : (h == 0) = true := by rw [hz]; rfl
                              have nz2 : (h != 0) = false := by simp [bne, nz]
                              clear q3 q4 r3 hz
                              go_wp2_with fail
                              go_meet
                              exact ⟨rfl, rfl⟩
                            · have e24 : (x.op == 24) = false := beq_eq_false_iff_ne.2 r3
                              by_cases r4 : x.op = 20
                              · have hz : h = T := by
                                  by_cases hz : h = T
                                  · exact hz
                                  · exact absurd ⟨r4, hz⟩ q4
                                have e20 : (x.op == 20) = true := by rw [r4]; rfl
                                have nz : (h == T) = true := by rw [hz]; exact beq_self_eq_true _
                                have nz2 : (h != T) = false := by simp [bne, nz]
                                clear q3 q4 r3 r4 hz
                                go_wp2_with fail
                                go_meet
                                exact ⟨rfl, rfl⟩
                              · have e20 : (x.op == 20) = false := beq_eq_false_iff_ne.2 r4
                                clear q3 q4 r3 r4
                                go_wp2_with fail
                                go_meet
                                exact ⟨rfl, rfl⟩
                          case rest =>
                            obtain ⟨rfl, rfl⟩ := hcut
                            clear q3 q4 cH
                            go_wp2_with fail
                            refine Calls.mono HE2.out ?_
                            rintro e7 w7 ⟨fa, fc, rfl, hfl, b7⟩
                            have M7 : Hid (HtM w1 b ia j ic c g hs1 w7) := M6.out.later b7
                            have F7 : Hid (FlS (g + 1) w7 fa fs) := hfl.mono M6.out.lt
                            obtain ⟨LF, hLF⟩ : ∃ LF, LF = fs.length := ⟨_, rfl⟩
                            have HLF : Hid (LF = fs.length) := hLF
                            rw [← hLF]
                            have hLF2 : LF ≤ 2 := by
                              rw [hLF, HFS.out]
                              unfold Cd.fl
                              split
                              · simp
                              · split
                                · simp
                                · split <;> simp
                            clear hfl b7 hLF v0 v1 v2 M6 HE2
                            go_wp2_with fail
                            go_loopg [9, 15] LF (fun gk m i wr => HtQ w1 b ia j ic c l g (Cd.lf hs) at_ h (h - T + Lv) fs fa gk m i wr)
                            case atStart => exact ⟨0, hs1, more, by have := HLF.out; omega, rfl, rfl, M7, K, HH, (fun q hq => by simp at hq), F7⟩
                            case round =>
                              clear M7 F7 K HH
                              obtain ⟨j4, hs2, more2, hj4, rfl, rfl, M, K, HH, NX, F⟩ := hrel
                              have hj4' : j4 + gk = LF := by rw [HLF.out]; exact hj4
                              clear hj4
                              cases gk with
                              | zero =>
                                obtain rfl : j4 = LF := by omega
                                have ha : ¬ (j4 : Int) < (j4 : Int) := by omega
                                have hb2 : decide (j4 < j4) = false := decide_eq_false (by omega)
                                have GDn : Hid (Cd.Gd l c hs2 at_) := Cd.Gd.mk HH.out EX.out GOOD.out.1 GOOD.out.2.1 GOOD.out.2.2 (fun q hq => by
                                  have := NX.out q (by rw [HLF.out, List.take_length, HFS.out]; exact hq)
                                  rw [← HT.out, ← HLv.out]
                                  exact this)
                                clear NX F
                                go_wp2_with fail
                                go_roundg gP
                                case measure => omega
                                case rel => exact ⟨at_ + 1, hs2, more2, by omega, by go_num, rfl, M, K.out.next GDn.out⟩
                              | succ g4 =>
                                have hjl : j4 < LF := by omega
                                have ha : (j4 : Int) < (LF : Int) := by omega
                                have ha0 : (0 : Int) ≤ (j4 : Int) := by omega
                                have hb2 : decide (j4 < LF) = true := decide_eq_true hjl
                                obtain ⟨q, hq⟩ : ∃ q, fs[j4]? = some q := ⟨_, List.getElem?_eq_getElem (by rw [← HLF.out]; exact hjl)⟩
                                have HQ : Hid (fs[j4]? = some q) := hq
                                have hmem : q ∈ Cd.fl x at_ := by rw [← HFS.out]; exact List.mem_of_getElem? hq
                                have hbd := Cd.fl_bd HXA.out.2 at_ hmem
                                have RQ : Hid (Cd.Rc l c q (h - T + Lv)) := by
                                  rw [HT.out, HLv.out]
                                  exact Cd.fl_rc RC.out EX.out hmem
                                obtain ⟨gf, hfa, hgf, hgfl, hcl⟩ := F.out (by rw [← HLF.out]; omega)
                                have cq := hcl j4 q hq
                                obtain ⟨nx, rfl⟩ : ∃ nx : Nat, q = nx := ⟨q.toNat, by omega⟩
                                clear hq hmem hcl
                                subst hfa
                                by_cases hq1 : j ≤ nx
                                · have FIN : Hid (RhQ l c w1 (.returned (.tuple #[.slice none 0 0, .bool false])) wr) := rhQ_no (Cd.bad_far RQ.out (.inl (by rw [← HN.out]; omega))) M.out.x.bw
                                  have dq1 : decide (j ≤ nx) = true := decide_eq_true hq1
                                  have dq2 : decide ((j : Int) ≤ (nx : Int)) = true := decide_eq_true (by omega)
                                  clear M K F
                                  go_wp2_with fail
                                  go_ret2
                                  exact HRH.out _ _ FIN.out
                                · have hnx : nx < j := by omega
                                  have hnxi : (nx : Int) < (j : Int) := by omega
                                  have hnx0 : (0 : Int) ≤ (nx : Int) := by omega
                                  have dq1 : decide (j ≤ nx) = false := decide_eq_false hq1
                                  have dq2 : decide ((j : Int) ≤ (nx : Int)) = false := decide_eq_false (by omega)
                                  obtain ⟨y, hy⟩ : ∃ y, hs2[nx]? = some y := ⟨_, List.getElem?_eq_getElem (by rw [K.out.ri.len, ← HN.out]; exact hnx)⟩
                                  have cy := (M.out.at hy).1
                                  have fy := (M.out.at hy).2
                                  have cH := (M.out.at HH.out).1
                                  have hgl := M.out.lt
                                  have hne : ¬ g = gf := by omega
                                  have eqq : ((h - T + Lv) == (h - T + Lv)) = true := beq_self_eq_true _
                                  have TK : Hid (∀ hs3 : List Int, (∀ (p : Nat) (z : Int), hs2[p]? = some z → z ≠ -1 → hs3[p]? = some z) → hs3[nx]? = some (h - T + Lv) → ∀ q, q ∈ fs.take (j4 + 1) → 0 ≤ q ∧ hs3[q.toNat]? = some (h - T + Lv)) := fun hs3 hk hn q hq => by
                                    rw [List.take_add_one, HQ.out, List.mem_append] at hq
                                    rcases hq with hq | hq
                                    · have := NX.out q hq
                                      exact ⟨this.1, hk _ _ this.2 (by omega)⟩
                                    · have : q = (nx : Int) := by simpa using hq
                                      subst this
                                      exact ⟨hnx0, by rw [Int.toNat_natCast]; exact hn⟩
                                  clear hbd hq1
                                  rcases K.out.ri.ok nx y hy with rfl | ⟨y0, y1, yr⟩
                                  · have HY : Hid (hs2[nx]? = some (-1)) := hy
                                    have M5 : Hid (HtM w1 b ia j ic c g (hs2.set nx (h - T + Lv)) (wr.setCell ⟨g, nx, none⟩ (.int .i64 (h - T + Lv)))) := M.out.set (List.getElem?_eq_some_iff.1 hy).1 _
                                    have F5 : Hid (FlS (g + 1) (wr.setCell ⟨g, nx, none⟩ (.int .i64 (h - T + Lv))) (some ⟨gf, 0, none⟩) fs) := F.out.set (Nat.lt_succ_self g) _
                                    have K5 : Hid (HtK l c (Cd.lf hs) at_ (hs2.set nx (h - T + Lv)) true) := K.out.set hy RQ.out (by omega) (by omega)
                                    have HH5 : Hid ((hs2.set nx (h - T + Lv))[at_]? = some h) := Cd.set_keep hy HH.out (by omega)
                                    have NX5 : Hid (∀ q, q ∈ fs.take (j4 + 1) → 0 ≤ q ∧ (hs2.set nx (h - T + Lv))[q.toNat]? = some (h - T + Lv)) := TK.out _ (fun p z hz hn => Cd.set_keep HY.out hz hn) (by rw [List.getElem?_set_self (List.getElem?_eq_some_iff.1 HY.out).1])
                                    have HY5 : Hid ((hs2.set nx (h - T + Lv))[nx]? = some (h - T + Lv)) := by unfold Hid; rw [List.getElem?_set_self (List.getElem?_eq_some_iff.1 hy).1]
                                    clear hy TK NX
                                    go_upto_region 28 with fail
                                    go_cut [9] from 134 to 147 (fun s wx => s = .bool more2 ∧ Hid (HtM w1 b ia j ic c g (hs2.set nx (h - T + Lv)) wx) ∧ Hid (FlS (g + 1) wx (some ⟨gf, 0, none⟩) fs))
                                    case first =>
                                      go_region
                                      all_goals
                                        go_wp2_with fail
                                        go_meet
                                        exact ⟨rfl, M5.out.later ⟨rfl, rfl, rfl, Nat.le_refl _, fun _ _ => rfl⟩, F5.out.later ⟨rfl, rfl, rfl, Nat.le_refl _, fun _ _ => rfl⟩⟩
                                    case rest =>
                                      obtain ⟨rfl, M6, F6⟩ := hcut
                                      clear M5 F5 cy cH fy cq hgl M F hgfl
                                      have cy := (M6.out.at HY5.out).1
                                      have cH := (M6.out.at HH5.out).1
                                      obtain ⟨gf', hfa, _, hgfl, hcl⟩ := F6.out (by rw [← HLF.out]; omega)
                                      cases hfa
                                      have cq := hcl j4 _ HQ.out
                                      clear hcl
                                      go_wp2_with fail
                                      go_quiet (fail)
                                      have M9 : Hid (HtM w1 b ia j ic c g (hs2.set nx (h - T + Lv)) (wc.drewN nq)) := M6.out.later (below_drewN (Below.refl _ _) nq)
                                      have F9 : Hid (FlS (g + 1) (wc.drewN nq) (some ⟨gf, 0, none⟩) fs) := F6.out.later (below_drewN (Below.refl _ _) nq)
                                      clear M6 F6 cy cH cq hgfl
                                      generalize wc.drewN nq = W9 at M9 F9 ⊢
                                      go_wp2_with fail
                                      go_roundg g4
                                      case measure => omega
                                      case rel => exact ⟨j4 + 1, _, true, by have := HLF.out; omega, by go_num, rfl, M9, K5, HH5, NX5, F9⟩
                                  · have hyn : ¬ y < 0 := by omega
                                    have dyn : decide (y < 0) = false := decide_eq_false hyn
                                    by_cases hy2 : y = h - T + Lv
                                    · have NX5 : Hid (∀ q, q ∈ fs.take (j4 + 1) → 0 ≤ q ∧ hs2[q.toNat]? = some (h - T + Lv)) := TK.out hs2 (fun p z hz hn => hz) (by rw [hy, hy2])
                                      have ey : (y == (h - T + Lv)) = true := by rw [hy2]; exact beq_self_eq_true _
                                      have ny : (y != (h - T + Lv)) = false := by simp [bne, ey]
                                      clear hy TK NX yr hy2
                                      go_wp2_with fail
                                      go_quiet (fail)
                                      have M9 : Hid (HtM w1 b ia j ic c g hs2 (wr.drewN nq)) := M.out.later (below_drewN (Below.refl _ _) nq)
                                      have F9 : Hid (FlS (g + 1) (wr.drewN nq) (some ⟨gf, 0, none⟩) fs) := F.out.later (below_drewN (Below.refl _ _) nq)
                                      clear M F cy cH cq hgfl fy hgl
                                      generalize wr.drewN nq = W9 at M9 F9 ⊢
                                      go_wp2_with fail
                                      go_roundg g4
                                      case measure => omega
                                      case rel => exact ⟨j4 + 1, _, more2, by have := HLF.out; omega, by go_num, rfl, M9, K, HH, NX5, F9⟩
                                    · have NO : Hid (Cd.HR 8 l c none) := Cd.no_eq yr RQ.out hy2
                                      have ey : (y == (h - T + Lv)) = false := beq_eq_false_iff_ne.2 hy2
                                      have ny : (y != (h - T + Lv)) = true := by simp [bne, ey]
                                      have BM : Hid (Below w1.heap.size w1 wr) := M.out.x.bw
                                      clear hy TK NX yr hy2
                                      go_wp2_with fail
                                      go_quiet (fail)
                                      have FIN : Hid (RhQ l c w1 (.returned (.tuple #[.slice none 0 0, .bool false])) (wr.drewN nq)) := rhQ_no NO.out (below_drewN BM.out nq)
                                      clear M F cy cH cq hgfl fy hgl BM
                                      generalize wr.drewN nq = W9 at FIN ⊢
                                      go_wp2_with fail
                                      go_ret2
                                      exact HRH.out _ _ FIN.out
end Go.Proofs.YtkjkiknpgggadaaDoor

