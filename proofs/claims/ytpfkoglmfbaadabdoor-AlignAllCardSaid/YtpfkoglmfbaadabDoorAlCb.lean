/- AlignAll. -/
import Derived.Test.YtpfkoglmfbaadabDoorAlCa
namespace Go.Proofs.YtpfkoglmfbaadabDoor
open Go.RowKit
set_option linter.unusedVariables false
set_option linter.unusedSimpArgs false
set_option maxRecDepth 100000
/-- Both tables of counts. -/
structure CtR (W : World) (G0 gx gy n m : Nat) (X Y : Nat → Nat) (wr : World) : Prop where
  b : Below G0 W wr
  x : NB wr gx n X
  y : NB wr gy m Y
theorem CtR.setX {W wr : World} {G0 gx gy n m A : Nat} {X Y X' : Nat → Nat} (h : CtR W G0 gx gy n m X Y wr) (hg : G0 ≤ gx) (hne : gx ≠ gy) (hA : A < n) (hX : ∀ j, X' j = if j = A then X A + 1 else X j) : CtR W G0 gx gy n m X' Y (wr.setCell ⟨gx, A, none⟩ (.int .i64 ((X A + 1 : Nat) : Int))) :=
  ⟨below_set h.b hg _, (h.x.set (v := X A + 1) hA).congr fun j _ => by rw [hX j], h.y.other hne _ _⟩
theorem CtR.setY {W wr : World} {G0 gx gy n m A : Nat} {X Y Y' : Nat → Nat} (h : CtR W G0 gx gy n m X Y wr) (hg : G0 ≤ gy) (hne : gx ≠ gy) (hA : A < m) (hY : ∀ j, Y' j = if j = A then Y A + 1 else Y j) : CtR W G0 gx gy n m X Y' (wr.setCell ⟨gy, A, none⟩ (.int .i64 ((Y A + 1 : Nat) : Int))) :=
  ⟨below_set h.b hg _, h.x.other (Ne.symm hne) _ _, (h.y.set (v := Y A + 1) hA).congr fun j _ => by rw [hY j]⟩
theorem CtR.congr {W wr : World} {G0 gx gy n m : Nat} {X Y X' Y' : Nat → Nat} (h : CtR W G0 gx gy n m X Y wr) (hX : ∀ j, X j = X' j) (hY : ∀ j, Y j = Y' j) : CtR W G0 gx gy n m X' Y' wr := ⟨h.b, h.x.congr fun j _ => hX j, h.y.congr fun j _ => hY j⟩
theorem wrV (v : Nat) (h : v ≤ 1000000) : wrap64 ((v : Int) + 1) = ((v + 1 : Nat) : Int) := by unfold wrap64; omega
theorem two_made (w3 V : World) {n k : Nat} {A B : Array Value} {t : TypeId} (hA : ∀ wz : World, NB (wz.alloc (.cells A t)) wz.heap.size n (fun _ => 0)) (hB : ∀ wz : World, NB (wz.alloc (.cells B t)) wz.heap.size k (fun _ => 0))
    (h1 : V.os = w3.os) (h2 : V.tape = w3.tape) (h3 : V.output = w3.output) (h : V.heap = ((w3.alloc (.cells A t)).alloc (.cells B t)).heap) :
    Below w3.heap.size w3 V ∧ NB V w3.heap.size n (fun _ => 0) ∧ NB V (w3.heap.size + 1) k (fun _ => 0) := by
  have b1 : Below w3.heap.size w3 (w3.alloc (.cells A t)) := (Below.refl _ _).alloc (Nat.le_refl _) _
  have s1 : (w3.alloc (.cells A t)).heap.size = w3.heap.size + 1 := by simp
  have b2 : Below (w3.heap.size + 1) (w3.alloc (.cells A t)) ((w3.alloc (.cells A t)).alloc (.cells B t)) := (Below.refl _ _).alloc (by rw [s1]; exact Nat.le_refl _) _
  have b12 := b1.trans (b2.mono (Nat.le_succ _))
  have n1 := (hA w3).later b2 (Nat.lt_succ_self _)
  have n2 := hB (w3.alloc (.cells A t))
  rw [s1] at n2
  have cv : ∀ {g n : Nat} {f : Nat → Nat}, NB ((w3.alloc (.cells A t)).alloc (.cells B t)) g n f → NB V g n f := fun h0 => ⟨by rw [h]; exact h0.1, fun j hj => by
    have := h0.2 j hj
    simp only [World.cell?, World.frozen?] at this ⊢
    rw [h]
    exact this⟩
  exact ⟨⟨h1, h2, h3, by rw [h]; exact b12.size, fun i hi => by rw [h]; exact b12.block i hi⟩, cv n1, cv n2⟩
theorem rg_nums {n k fa ta fb tb : Nat} (h2 : ta ≤ n) (h4 : tb ≤ k) : decide ((fa : Int) < 0) = false ∧ decide ((n : Int) < (ta : Int)) = false ∧ decide (n < ta) = false ∧ decide ((fb : Int) < 0) = false ∧ decide ((k : Int) < (tb : Int)) = false ∧ decide (k < tb) = false := ⟨decide_eq_false (by omega), decide_eq_false (by omega), decide_eq_false (by omega), decide_eq_false (by omega), decide_eq_false (by omega), decide_eq_false (by omega)⟩
theorem two_ct1 (w3 V : World) {n k : Nat} {A B : Array Value} {t : TypeId} (hA : ∀ wz : World, NB (wz.alloc (.cells A t)) wz.heap.size n (fun _ => 0)) (hB : ∀ wz : World, NB (wz.alloc (.cells B t)) wz.heap.size k (fun _ => 0))
    (h1 : V.os = w3.os) (h2 : V.tape = w3.tape) (h3 : V.output = w3.output) (h : V.heap = ((w3.alloc (.cells A t)).alloc (.cells B t)).heap) :
    Hid (w3.heap.size ≤ w3.heap.size ∧ w3.heap.size ≤ w3.heap.size + 1 ∧ CtR w3 w3.heap.size w3.heap.size (w3.heap.size + 1) n k (fun _ => 0) (fun _ => 0) V) := by
  have h := two_made w3 V hA hB h1 h2 h3 h
  exact ⟨Nat.le_refl _, Nat.le_succ _, h.1, h.2.1, h.2.2⟩
theorem two_ct2 (w3 V : World) {n k : Nat} {A B : Array Value} {t : TypeId} (hA : ∀ wz : World, NB (wz.alloc (.cells A t)) wz.heap.size n (fun _ => 0)) (hB : ∀ wz : World, NB (wz.alloc (.cells B t)) wz.heap.size k (fun _ => 0))
    (h1 : V.os = w3.os) (h2 : V.tape = w3.tape) (h3 : V.output = w3.output) (h : V.heap = ((w3.alloc (.cells B t)).alloc (.cells A t)).heap) :
    Hid (w3.heap.size ≤ w3.heap.size + 1 ∧ w3.heap.size ≤ w3.heap.size ∧ CtR w3 w3.heap.size (w3.heap.size + 1) w3.heap.size n k (fun _ => 0) (fun _ => 0) V) := by
  have h := two_made w3 V hB hA h1 h2 h3 h
  exact ⟨Nat.le_succ _, Nat.le_refl _, h.1, h.2.2, h.2.1⟩
set_option maxHeartbeats 16000000 in
theorem all_walk (w : World) (ht : Tab w) (a : Option Addr) (l : List Al.Ev) (ca : Nat) (ha : EvR w.heap.size w a l) (hca : l.length ≤ ca) (_ : l.length ≤ 1000000000000000) (_ : ∀ x ∈ l, Al.R64 x.1 ∧ Al.R64 x.2) (b : Option Addr) (m : List Al.Ev) (cb : Nat) (hb : EvR w.heap.size w b m) (hcb : m.length ≤ cb) (_ : m.length ≤ 1000000000000000) (_ : ∀ x ∈ m, Al.R64 x.1 ∧ Al.R64 x.2) (L : Int) (hL : -9223372036854775808 ≤ L ∧ L ≤ 9223372036854775807) :
    Calls Tryd.prog 5 #[.slice a l.length ca, .slice b m.length cb, .int .i64 L] w fun e w' => e = .returned (.bool true) ∧ Below w.heap.size w w' := by
  have KN : Hid (∀ wz, Below w.heap.size w wz → Calls Tryd.prog 7 #[] wz fun e w' => e = .returned (.bool true) ∧ Below w.heap.size w w') := fun wz hz => (known15 wz (ht.later hz (Nat.le_refl _))).mono fun e w' h => ⟨h.1, hz.trans (h.2.mono hz.size)⟩
  have MN := hidA (many_any15 w a b l.length m.length ca cb)
  have BIG : Hid (Below w.heap.size w w) := Below.refl _ _
  by_cases cm : l.length ≤ 24 ∧ m.length ≤ 24
  case neg =>
    have e1 : (decide (24 < l.length) || decide (24 < m.length)) = true := by simp; omega
    rw [e1] at MN
    generalize l.length = n at *
    generalize m.length = k at *
    clear ht ha hb hca hcb hL cm e1
    go_enter Tryd.func5, Tryd.ntmps5
    go_wp2_with fail
    refine MN.out.mono ?_
    rintro e w1 ⟨rfl, rfl⟩
    go_wp2_with fail
    refine (KN.out w1 BIG.out).mono ?_
    rintro e w4 ⟨rfl, b4⟩
    have B4 := hidA b4
    clear b4
    go_wp2_with fail
    go_ret
    exact ⟨rfl, B4.out⟩
  have e1 : (decide (24 < l.length) || decide (24 < m.length)) = false := by simp; omega
  rw [e1] at MN
  have LE : Hid (l.length ≤ 24 ∧ m.length ≤ 24) := cm
  have GB : Hid ((Al.prs (Al.mat l m L)).length ≤ 24) := by
    unfold Hid
    rw [Al.prs_len, Al.mat_len]
    have h1 := (Al.tog_le l m).1
    have h2 := (Al.lcs_bd l m).1
    split <;> omega
  have GR : Hid ((Al.gaps l.length m.length 0 0 (Al.prs (Al.mat l m L))).length ≤ 25) := Nat.le_trans (Al.gaps_len _ _ _ _ _) (Nat.succ_le_succ GB.out)
  have M1 : Hid (Calls Tryd.prog 8 #[.slice a l.length ca, .slice b m.length cb, .int .i64 L] w fun e w' => ∃ a1 c1 C, e = .returned (.tuple #[.slice a1 (Al.prs (Al.mat l m L)).length c1, .bool C]) ∧ EvR w'.heap.size w' a1 (Al.prs (Al.mat l m L)) ∧ Below w.heap.size w w') := (match_any w a b ca cb l m L ha hb (Nat.le_refl _) (Nat.le_trans cm.1 (by decide)) (Nat.le_trans cm.2 (by decide)) hca hcb hL.1 hL.2).mono fun e w' h => by
    obtain ⟨v, e1, o, bb⟩ := h
    obtain ⟨a1, c1, e2, ev, -⟩ := o.ev
    exact ⟨a1, c1, _, by rw [e1, e2], ev, bb⟩
  have RG : Hid (∀ wz a1 c1, EvR wz.heap.size wz a1 (Al.prs (Al.mat l m L)) → Calls Tryd.prog 9 #[.int .i64 (l.length : Int), .int .i64 (m.length : Int), .slice a1 (Al.prs (Al.mat l m L)).length c1] wz fun e w' => ∃ a2 c2, e = .returned (.tuple #[.slice a2 (Al.gaps l.length m.length 0 0 (Al.prs (Al.mat l m L))).length c2, .int .i64 0]) ∧ RgAt w' a2 (Al.gaps l.length m.length 0 0 (Al.prs (Al.mat l m L))) ∧ Below wz.heap.size wz w') := fun wz a1 c1 ev => by
    have h := regions_any wz a1 c1 (Al.prs (Al.mat l m L)) l.length m.length ev (Nat.le_refl _) (Nat.le_trans GB.out (by decide)) (by omega) (by omega)
    have hreg : Al.regs l.length m.length (Al.prs (Al.mat l m L)) = (Al.gaps l.length m.length 0 0 (Al.prs (Al.mat l m L)), 0) := by
      unfold Al.regs
      rw [if_neg (by omega), Al.mat_rise]
      rfl
    refine h.mono fun e w' h => ?_
    obtain ⟨v, e1, o, bb⟩ := h
    rw [hreg] at e1 o
    obtain ⟨a2, c2, e2, r⟩ := OwG.at o
    exact ⟨a2, c2, by rw [e1, e2], r, bb⟩
  have PZ : Hid (∀ k, k < (Al.prs (Al.mat l m L)).length → ∃ (i j : Nat) (x y : Al.Ev), (Al.prs (Al.mat l m L))[k]? = some ((i : Int), (j : Int)) ∧ i < l.length ∧ j < m.length ∧ l[i]? = some x ∧ m[j]? = some y) := fun k hk => rise_at (Al.mat_rise l m L) hk
  have GA : Hid (∀ k, k < (Al.gaps l.length m.length 0 0 (Al.prs (Al.mat l m L))).length → ∃ (r : Al.Rg) (fa ta fb tb : Nat), (Al.gaps l.length m.length 0 0 (Al.prs (Al.mat l m L)))[k]? = some r ∧ r.fa = fa ∧ r.ta = ta ∧ r.fb = fb ∧ r.tb = tb ∧ fa ≤ ta ∧ ta ≤ l.length ∧ fb ≤ tb ∧ tb ≤ m.length) := fun k hk => Al.gaps_at hk
  have AA : Hid (∀ j, j < l.length → Al.cntP (Al.prs (Al.mat l m L)) (j : Int) + Al.cntA (Al.gaps l.length m.length 0 0 (Al.prs (Al.mat l m L))) (j : Int) = 1) := fun j hj => Al.all_A hj
  have AB : Hid (∀ j, j < m.length → Al.cntQ (Al.prs (Al.mat l m L)) (j : Int) + Al.cntB (Al.gaps l.length m.length 0 0 (Al.prs (Al.mat l m L))) (j : Int) = 1) := fun j hj => Al.all_B hj
  generalize Al.gaps l.length m.length 0 0 (Al.prs (Al.mat l m L)) = R at *
  generalize Al.prs (Al.mat l m L) = Z at *
  generalize l.length = n at *
  generalize m.length = k at *
  obtain ⟨G, hG⟩ : ∃ G, G = Z.length := ⟨_, rfl⟩
  obtain ⟨Q, hQ⟩ : ∃ Q, Q = R.length := ⟨_, rfl⟩
  have HG : Hid (G = Z.length ∧ G ≤ 24 ∧ Q = R.length ∧ Q ≤ 25) := ⟨hG, by rw [hG]; exact GB.out, hQ, by rw [hQ]; exact GR.out⟩
  rw [← hG] at M1 RG PZ
  rw [← hQ] at RG GA
  have CL : Hid (∀ k f c j, Al.upA Z R k f c j ≤ 1000 ∧ Al.upB Z R k f c j ≤ 1000 ∧ Al.cntP Z j ≤ 1000 ∧ Al.cntQ Z j ≤ 1000) := fun k f c j => by
    have h := Al.cnt_le Z R k f c j
    have := HG.out
    omega
  have CK : Hid (∀ q j, Al.cntP (Z.take q) j ≤ 1000 ∧ Al.cntQ (Z.take q) j ≤ 1000) := fun q j => by
    have h1 : (Z.take q).length ≤ 24 := Nat.le_trans (List.length_take_le' _ _) (by rw [← hG]; exact HG.out.2.1)
    have h2 : Al.cntP (Z.take q) j ≤ (Z.take q).length := List.countP_le_length
    have h3 : Al.cntQ (Z.take q) j ≤ (Z.take q).length := List.countP_le_length
    omega
  clear ht ha hb hca hcb hL cm e1 hG hQ GB GR
  have MKn : ∀ wz : World, (Instr.makeSlice 36 (.int .i64 (n : Int)) (.int .i64 (n : Int))).run Tryd.prog wz = .ok (.slice (some ⟨wz.heap.size, 0, none⟩) n n) (wz.alloc (.cells (madeCells (Value.int .i64 0).cells (n * 1)) 3)) := fun wz => sz_mk wz n (Nat.le_trans LE.out.1 (by decide))
  have MKk : ∀ wz : World, (Instr.makeSlice 36 (.int .i64 (k : Int)) (.int .i64 (k : Int))).run Tryd.prog wz = .ok (.slice (some ⟨wz.heap.size, 0, none⟩) k k) (wz.alloc (.cells (madeCells (Value.int .i64 0).cells (k * 1)) 3)) := fun wz => sz_mk wz k (Nat.le_trans LE.out.2 (by decide))
  have NBn : Hid (∀ wz : World, NB (wz.alloc (.cells (madeCells (Value.int .i64 0).cells (n * 1)) 3)) wz.heap.size n (fun _ => 0)) := fun wz => NB.made wz n
  have NBk : Hid (∀ wz : World, NB (wz.alloc (.cells (madeCells (Value.int .i64 0).cells (k * 1)) 3)) wz.heap.size k (fun _ => 0)) := fun wz => NB.made wz k
  generalize madeCells (Value.int .i64 0).cells (n * 1) = MCn at *
  generalize madeCells (Value.int .i64 0).cells (k * 1) = MCk at *
  go_enter Tryd.func5, Tryd.ntmps5
  go_wp2_with fail
  refine MN.out.mono ?_
  rintro e w1 ⟨rfl, rfl⟩
  go_wp2_with fail
  refine M1.out.mono ?_
  rintro e w2 ⟨a1, c1, C, rfl, ev1, b2⟩
  have B2 := hidA b2
  have E1 := hidA ev1
  have RGG := hidA (RG.out w2 a1 c1 ev1)
  clear b2 ev1 M1 RG
  go_wp2_with fail
  refine RGG.out.mono ?_
  rintro e w3 ⟨a2, c2, rfl, rg3, b3⟩
  have B3 : Hid (Below w1.heap.size w1 w3) := B2.out.trans (b3.mono B2.out.size)
  have E3 : Hid (EvR w3.heap.size w3 a1 Z) := (E1.out.later b3 (Nat.le_refl _)).mono b3.size
  have R3 := hidA rg3
  clear b3 rg3 RGG E1
  go_upto_region 7 with fail
  go_cut [11, 12] from 41 to 47 (fun s11 s12 wx => ∃ gx gy, s11 = .slice (some ⟨gx, 0, none⟩) n n ∧ s12 = .slice (some ⟨gy, 0, none⟩) k k ∧ gx ≠ gy ∧ Hid (w3.heap.size ≤ gx ∧ w3.heap.size ≤ gy ∧ CtR w3 w3.heap.size gx gy n k (fun _ => 0) (fun _ => 0) wx))
  case first =>
    go_region
    all_goals
      go_wp2_with fail
      go_meet
      first
        | exact ⟨w3.heap.size, w3.heap.size + 1, rfl, rfl, Nat.ne_of_lt (Nat.lt_succ_self _), two_ct1 w3 _ NBn.out NBk.out rfl rfl rfl rfl⟩
        | exact ⟨w3.heap.size + 1, w3.heap.size, rfl, rfl, Nat.ne_of_gt (Nat.lt_succ_self _), two_ct2 w3 _ NBn.out NBk.out rfl rfl rfl rfl⟩
  case rest =>
    obtain ⟨gx, gy, rfl, rfl, hne, CX⟩ := hcut
    obtain ⟨S0, hS0⟩ : ∃ S0, S0 = w3.heap.size := ⟨_, rfl⟩
    have HS0 := hidA hS0
    rw [← hS0] at CX
    have HNE := hidA hne
    have C0 : Hid (CtR w3 S0 gx gy n k (fun j => Al.cntP (Z.take 0) (j : Int)) (fun j => Al.cntQ (Z.take 0) (j : Int)) wc) := CX.out.2.2
    have GXY : Hid (S0 ≤ gx ∧ S0 ≤ gy) := ⟨CX.out.1, CX.out.2.1⟩
    have UP : Hid (∀ wz, Below S0 w3 wz → Below w1.heap.size w1 wz) := fun wz hz => B3.out.trans (hz.mono (by rw [HS0.out]; exact B3.out.size))
    have E4 : Hid (∀ wz, Below S0 w3 wz → EvR S0 wz a1 Z) := fun wz hz => by rw [HS0.out] at hz ⊢; exact E3.out.later hz (Nat.le_refl _)
    have R4 : Hid (∀ wz, Below S0 w3 wz → 0 < R.length → ∃ g, a2 = some ⟨g, 0, none⟩ ∧ g < S0 ∧ ∀ q r, R[q]? = some r → wz.cell? ⟨g, q * 4, none⟩ = some (.int .i64 r.fa) ∧ wz.cell? ⟨g, q * 4 + 1, none⟩ = some (.int .i64 r.ta) ∧ wz.cell? ⟨g, q * 4 + 2, none⟩ = some (.int .i64 r.fb) ∧ wz.cell? ⟨g, q * 4 + 3, none⟩ = some (.int .i64 r.tb)) := fun wz hz h0 => by
      obtain ⟨g, e, hg, hc⟩ := R3.out h0
      rw [← HS0.out] at hg
      refine ⟨g, e, hg, fun q r hr => ?_⟩
      obtain ⟨h1, h2, h3, h4⟩ := hc q r hr
      exact ⟨(hz.cell (p := ⟨g, _, none⟩) hg).trans h1, (hz.cell (p := ⟨g, _, none⟩) hg).trans h2, (hz.cell (p := ⟨g, _, none⟩) hg).trans h3, (hz.cell (p := ⟨g, _, none⟩) hg).trans h4⟩
    clear CX hS0 hne MKn MKk NBn NBk E3 R3
    go_wp2_with fail
    go_loopg [13] G (fun gk y wr => ∃ i : Nat, i + gk = G ∧ y = .int .i64 i ∧ Hid (CtR w3 S0 gx gy n k (fun j => Al.cntP (Z.take i) (j : Int)) (fun j => Al.cntQ (Z.take i) (j : Int)) wr))
    case atStart => exact ⟨0, by omega, rfl, C0.out⟩
    case round =>
      obtain ⟨i, hk, rfl, RR⟩ := hrel
      rcases gk with _ | gO
      · obtain rfl : G = i := by omega
        have dk : decide ((G : Int) < (G : Int)) = false := decide_eq_false (Int.lt_irrefl _)
        have C1 : Hid (CtR w3 S0 gx gy n k (fun j => Al.cntP Z (j : Int) + Al.cntA (R.take 0) (j : Int)) (fun j => Al.cntQ Z (j : Int) + Al.cntB (R.take 0) (j : Int)) wr) := by
          have h := RR.out
          rw [List.take_of_length_le (by rw [HG.out.1]; exact Nat.le_refl _)] at h
          exact h.congr (fun j => by rw [List.take_zero]; rfl) (fun j => by rw [List.take_zero]; rfl)
        clear RR C0 PZ CK E4
        go_wp2_with fail
        go_loopg [14] Q (fun gk y wr => ∃ q : Nat, q + gk = Q ∧ y = .int .i64 q ∧ Hid (CtR w3 S0 gx gy n k (fun j => Al.cntP Z (j : Int) + Al.cntA (R.take q) (j : Int)) (fun j => Al.cntQ Z (j : Int) + Al.cntB (R.take q) (j : Int)) wr))
        case atStart => exact ⟨0, by omega, rfl, C1.out⟩
        case round =>
          obtain ⟨q, hq, rfl, QQ⟩ := hrel
          rcases gk with _ | gP
          · obtain rfl : Q = q := by omega
            have dq : decide ((Q : Int) < (Q : Int)) = false := decide_eq_false (Int.lt_irrefl _)
            have C2 : Hid (CtR w3 S0 gx gy n k (fun j => Al.cntP Z (j : Int) + Al.cntA R (j : Int)) (fun j => Al.cntQ Z (j : Int) + Al.cntB R (j : Int)) wr) := by
              have h := QQ.out
              rw [List.take_of_length_le (by rw [HG.out.2.2.1]; exact Nat.le_refl _)] at h
              exact h
            have X1 : Hid (∀ j, j < n → wr.cell? ⟨gx, j, none⟩ = some (.int .i64 1)) := fun j hj => by
              have h : wr.cell? ⟨gx, j, none⟩ = some (.int .i64 ((Al.cntP Z (j : Int) + Al.cntA R (j : Int) : Nat) : Int)) := (C2.out.x.2 j hj).1
              rw [show (Al.cntP Z (j : Int) + Al.cntA R (j : Int)) = 1 from AA.out j hj] at h
              exact h
            have Y1 : Hid (∀ j, j < k → wr.cell? ⟨gy, j, none⟩ = some (.int .i64 1)) := fun j hj => by
              have h : wr.cell? ⟨gy, j, none⟩ = some (.int .i64 ((Al.cntQ Z (j : Int) + Al.cntB R (j : Int) : Nat) : Int)) := (C2.out.y.2 j hj).1
              rw [show (Al.cntQ Z (j : Int) + Al.cntB R (j : Int)) = 1 from AB.out j hj] at h
              exact h
            have KK := hidA (KN.out wr (UP.out wr C2.out.b))
            clear QQ C1 C2 GA CL R4
            obtain ⟨W9, hW9⟩ : ∃ W9, W9 = wr := ⟨_, rfl⟩
            subst hW9
            go_wp2_with fail
            go_loopg [17] n (fun gk y wr => ∃ j : Nat, j + gk = n ∧ y = .int .i64 j ∧ wr = W9)
            case atStart => exact ⟨0, by omega, rfl, rfl⟩
            case round =>
              obtain ⟨j, hj, rfl, rfl⟩ := hrel
              rcases gk with _ | gJ
              · obtain rfl : n = j := by omega
                have dj : decide ((n : Int) < (n : Int)) = false := decide_eq_false (Int.lt_irrefl _)
                go_wp2_with fail
                go_loopg [18] k (fun gk y w0 => ∃ j : Nat, j + gk = k ∧ y = .int .i64 j ∧ w0 = wr)
                case atStart => exact ⟨0, by omega, rfl, rfl⟩
                case round =>
                  obtain ⟨j, hj, rfl, rfl⟩ := hrel
                  rcases gk with _ | gJ
                  · obtain rfl : k = j := by omega
                    have dj : decide ((k : Int) < (k : Int)) = false := decide_eq_false (Int.lt_irrefl _)
                    go_wp2_with fail
                    refine KK.out.mono ?_
                    rintro e w9 ⟨rfl, b9⟩
                    have B9 := hidA b9
                    clear b9
                    go_wp2_with fail
                    go_ret
                    exact ⟨rfl, B9.out⟩
                  · obtain ⟨k6, dk, dk2, hjk, hk3⟩ := mch_k hj
                    have x0 := Y1.out j hjk
                    have WK := hidA (wrK j (Nat.le_trans (Nat.le_of_lt hjk) (Nat.le_trans LE.out.2 (by decide))))
                    go_wp2_with fail
                    go_roundg gJ
                    case measure => omega
                    case rel => exact ⟨j + 1, hk3, by first | exact congrArg _ WK.out | rfl, rfl⟩
              · obtain ⟨k6, dk, dk2, hjk, hk3⟩ := mch_k hj
                have x0 := X1.out j hjk
                have WK := hidA (wrK j (Nat.le_trans (Nat.le_of_lt hjk) (Nat.le_trans LE.out.1 (by decide))))
                go_wp2_with fail
                go_roundg gJ
                case measure => omega
                case rel => exact ⟨j + 1, hk3, by first | exact congrArg _ WK.out | rfl, rfl⟩
          · obtain ⟨k6, dk, dk2, hqQ, hk3⟩ := mch_k hq
            obtain ⟨r, fa, ta, fb, tb, hr, rfa, rta, rfb, rtb, h1, h2, h3, h4⟩ := GA.out q hqQ
            obtain ⟨g, rfl, hg, -⟩ := R4.out wr QQ.out.b (by rw [← HG.out.2.2.1]; exact Nat.lt_of_le_of_lt (Nat.zero_le q) hqQ)
            have RA : Hid (∀ wz, Below S0 w3 wz → wz.cell? ⟨g, q * 4, none⟩ = some (.int .i64 (fa : Int)) ∧ wz.cell? ⟨g, q * 4 + 1, none⟩ = some (.int .i64 (ta : Int)) ∧ wz.cell? ⟨g, q * 4 + 2, none⟩ = some (.int .i64 (fb : Int)) ∧ wz.cell? ⟨g, q * 4 + 3, none⟩ = some (.int .i64 (tb : Int))) := fun wz hz => by
              obtain ⟨g', e, hg', hc'⟩ := R4.out wz hz (by rw [← HG.out.2.2.1]; exact Nat.lt_of_le_of_lt (Nat.zero_le q) hqQ)
              obtain rfl : g = g' := by cases e; rfl
              have h := hc' q r hr
              rw [rfa, rta, rfb, rtb] at h
              exact h
            obtain ⟨z0, z1, z2, z3⟩ := RA.out wr QQ.out.b
            obtain ⟨d0, d1, d1n, d2, d3, d3n⟩ := rg_nums h2 h4 (fa := fa) (fb := fb)
            have C3 : Hid (CtR w3 S0 gx gy n k (Al.upA Z R q fa fa) (fun j => Al.cntQ Z (j : Int) + Al.cntB (R.take q) (j : Int)) wr) := QQ.out.congr (fun j => (Al.upA_zero Z R q fa j).symm) (fun _ => rfl)
            have HE : Hid (∀ j, Al.upA Z R q fa ta j = Al.cntP Z (j : Int) + Al.cntA (R.take (q + 1)) (j : Int)) := fun j => Al.upA_end hr rfa rta j
            have HEB : Hid (∀ j, Al.upB Z R q fb tb j = Al.cntQ Z (j : Int) + Al.cntB (R.take (q + 1)) (j : Int)) := fun j => Al.upB_end hr rfb rtb j
            have HH : Hid (fa ≤ ta ∧ ta ≤ n ∧ fb ≤ tb ∧ tb ≤ k) := ⟨h1, h2, h3, h4⟩
            have WKq := hidA (wrK q (Nat.le_trans (Nat.le_of_lt hqQ) (Nat.le_trans HG.out.2.2.2 (by decide))))
            clear QQ C1 hr rfa rta rfb rtb h1 h2 h3 h4 KN AA AB
            go_wp2_with fail
            go_loopg [15] (ta - fa) (fun gk y wz => ∃ cur : Nat, cur + gk = ta ∧ fa ≤ cur ∧ y = .int .i64 cur ∧ Hid (CtR w3 S0 gx gy n k (Al.upA Z R q fa cur) (fun j => Al.cntQ Z (j : Int) + Al.cntB (R.take q) (j : Int)) wz))
            case atStart => exact ⟨fa, by have := HH.out; omega, Nat.le_refl _, rfl, C3.out⟩
            case round =>
              obtain ⟨cur, hc1, hc2, rfl, UU⟩ := hrel
              clear z0 z1 z2 z3
              obtain ⟨z0, z1, z2, z3⟩ := RA.out wr UU.out.b
              rcases gk with _ | gX
              · obtain rfl : ta = cur := by omega
                have dj : decide ((ta : Int) < (ta : Int)) = false := decide_eq_false (Int.lt_irrefl _)
                have C4 : Hid (CtR w3 S0 gx gy n k (fun j => Al.cntP Z (j : Int) + Al.cntA (R.take (q + 1)) (j : Int)) (Al.upB Z R q fb fb) wr) := UU.out.congr HE.out (fun j => (Al.upB_zero Z R q fb j).symm)
                clear UU C3
                go_wp2_with fail
                go_loopg [16] (tb - fb) (fun gk y wz => ∃ cur : Nat, cur + gk = tb ∧ fb ≤ cur ∧ y = .int .i64 cur ∧ Hid (CtR w3 S0 gx gy n k (fun j => Al.cntP Z (j : Int) + Al.cntA (R.take (q + 1)) (j : Int)) (Al.upB Z R q fb cur) wz))
                case atStart => exact ⟨fb, by have := HH.out; omega, Nat.le_refl _, rfl, C4.out⟩
                case round =>
                  obtain ⟨cur, he1, he2, rfl, VV⟩ := hrel
                  clear z0 z1 z2 z3
                  obtain ⟨z0, z1, z2, z3⟩ := RA.out wr VV.out.b
                  rcases gk with _ | gY
                  · obtain rfl : tb = cur := by omega
                    have de : decide ((tb : Int) < (tb : Int)) = false := decide_eq_false (Int.lt_irrefl _)
                    have C5 : Hid (CtR w3 S0 gx gy n k (fun j => Al.cntP Z (j : Int) + Al.cntA (R.take (q + 1)) (j : Int)) (fun j => Al.cntQ Z (j : Int) + Al.cntB (R.take (q + 1)) (j : Int)) wr) := VV.out.congr (fun _ => rfl) HEB.out
                    clear VV C4
                    go_wp2_with fail
                    go_roundg gP
                    case measure => omega
                    case rel => exact ⟨q + 1, hk3, by first | exact congrArg _ WKq.out | rfl, C5⟩
                  · have hcm : cur < tb := by omega
                    have hck : cur < k := Nat.lt_of_lt_of_le hcm HH.out.2.2.2
                    obtain ⟨e1, e2, e3⟩ := ix_nums hck
                    have de : decide ((cur : Int) < (tb : Int)) = true := decide_eq_true (Int.ofNat_lt.2 hcm)
                    have de2 : decide (cur < tb) = true := decide_eq_true hcm
                    obtain ⟨y0, y1⟩ := VV.out.y.2 cur hck
                    have C5 : Hid (CtR w3 S0 gx gy n k (fun j => Al.cntP Z (j : Int) + Al.cntA (R.take (q + 1)) (j : Int)) (Al.upB Z R q fb (cur + 1)) (wr.setCell ⟨gy, cur, none⟩ (.int .i64 ((Al.upB Z R q fb cur cur + 1 : Nat) : Int)))) := VV.out.setY GXY.out.2 HNE.out hck (fun j => Al.upB_step he2 j)
                    obtain ⟨V, hV⟩ : ∃ V, V = Al.upB Z R q fb cur cur := ⟨_, rfl⟩
                    have hVb : V ≤ 1000 := by rw [hV]; exact (CL.out q fb cur cur).2.1
                    rw [← hV] at y0 C5
                    have ev : wrap64 ((V : Int) + 1) = ((V + 1 : Nat) : Int) := wrV V (Nat.le_trans hVb (by decide))
                    obtain ⟨V1, hV1⟩ : ∃ V1, V1 = V + 1 := ⟨_, rfl⟩
                    rw [← hV1] at ev C5
                    have WK := hidA (wrK cur (Nat.le_trans (Nat.le_of_lt hck) (Nat.le_trans LE.out.2 (by decide))))
                    clear hV hVb hV1 VV C4
                    go_wp2_with fail
                    go_roundg gY
                    case measure => omega
                    case rel => exact ⟨cur + 1, by omega, Nat.le_succ_of_le he2, by first | exact congrArg _ WK.out | rfl, C5⟩
              · have hcm : cur < ta := by omega
                have hck : cur < n := Nat.lt_of_lt_of_le hcm HH.out.2.1
                obtain ⟨e1, e2, e3⟩ := ix_nums hck
                have de : decide ((cur : Int) < (ta : Int)) = true := decide_eq_true (Int.ofNat_lt.2 hcm)
                have de2 : decide (cur < ta) = true := decide_eq_true hcm
                obtain ⟨y0, y1⟩ := UU.out.x.2 cur hck
                have C5 : Hid (CtR w3 S0 gx gy n k (Al.upA Z R q fa (cur + 1)) (fun j => Al.cntQ Z (j : Int) + Al.cntB (R.take q) (j : Int)) (wr.setCell ⟨gx, cur, none⟩ (.int .i64 ((Al.upA Z R q fa cur cur + 1 : Nat) : Int)))) := UU.out.setX GXY.out.1 HNE.out hck (fun j => Al.upA_step hc2 j)
                obtain ⟨V, hV⟩ : ∃ V, V = Al.upA Z R q fa cur cur := ⟨_, rfl⟩
                have hVb : V ≤ 1000 := by rw [hV]; exact (CL.out q fa cur cur).1
                rw [← hV] at y0 C5
                have ev : wrap64 ((V : Int) + 1) = ((V + 1 : Nat) : Int) := wrV V (Nat.le_trans hVb (by decide))
                obtain ⟨V1, hV1⟩ : ∃ V1, V1 = V + 1 := ⟨_, rfl⟩
                rw [← hV1] at ev C5
                have WK := hidA (wrK cur (Nat.le_trans (Nat.le_of_lt hck) (Nat.le_trans LE.out.1 (by decide))))
                clear hV hVb hV1 UU C3
                go_wp2_with fail
                go_roundg gX
                case measure => omega
                case rel => exact ⟨cur + 1, by omega, Nat.le_succ_of_le hc2, by first | exact congrArg _ WK.out | rfl, C5⟩
      · obtain ⟨k6, dk, dk2, hiG, hk3⟩ := mch_k hk
        obtain ⟨A, B, -, -, hp, hA, hB, -, -⟩ := PZ.out i hiG
        obtain ⟨ga, oa, rfl, hga, cs⟩ := E4.out wr RR.out.b (by rw [← HG.out.1]; exact Nat.lt_of_le_of_lt (Nat.zero_le i) hiG)
        have p0 : wr.cell? ⟨ga, oa + i * 2, none⟩ = some (.int .i64 (A : Int)) := (cs i _ hp).1
        obtain ⟨x0, x1⟩ := RR.out.x.2 A hA
        obtain ⟨V, hV⟩ : ∃ V, V = Al.cntP (Z.take i) (A : Int) := ⟨_, rfl⟩
        have hVb : V ≤ 1000 := by rw [hV]; exact (CK.out i A).1
        have ev : wrap64 ((V : Int) + 1) = ((V + 1 : Nat) : Int) := wrV V (Nat.le_trans hVb (by decide))
        have x0' : wr.cell? ⟨gx, A, none⟩ = some (.int .i64 (V : Int)) := by rw [hV]; exact x0
        have C1 : Hid (CtR w3 S0 gx gy n k (fun j => Al.cntP (Z.take (i + 1)) (j : Int)) (fun j => Al.cntQ (Z.take i) (j : Int)) (wr.setCell ⟨gx, A, none⟩ (.int .i64 ((V + 1 : Nat) : Int)))) := by
          rw [hV]
          exact RR.out.setX GXY.out.1 HNE.out hA (fun j => Al.cntP_take hp j)
        obtain ⟨V1, hV1⟩ : ∃ V1, V1 = V + 1 := ⟨_, rfl⟩
        rw [← hV1] at ev C1
        obtain ⟨W5, hW5⟩ : ∃ W5, W5 = wr.setCell ⟨gx, A, none⟩ (.int .i64 (V1 : Int)) := ⟨_, rfl⟩
        rw [← hW5] at C1
        obtain ⟨i1, i2, i3⟩ := ix_nums hA
        obtain ⟨j1, j2, j3⟩ := ix_nums hB
        obtain ⟨y0, y1⟩ := C1.out.y.2 B hB
        obtain ⟨U, hU⟩ : ∃ U, U = Al.cntQ (Z.take i) (B : Int) := ⟨_, rfl⟩
        have hUb : U ≤ 1000 := by rw [hU]; exact (CK.out i B).2
        have eu : wrap64 ((U : Int) + 1) = ((U + 1 : Nat) : Int) := wrV U (Nat.le_trans hUb (by decide))
        have y0' : W5.cell? ⟨gy, B, none⟩ = some (.int .i64 (U : Int)) := by rw [hU]; exact y0
        have C2 : Hid (CtR w3 S0 gx gy n k (fun j => Al.cntP (Z.take (i + 1)) (j : Int)) (fun j => Al.cntQ (Z.take (i + 1)) (j : Int)) (W5.setCell ⟨gy, B, none⟩ (.int .i64 ((U + 1 : Nat) : Int)))) := by
          rw [hU]
          exact C1.out.setY GXY.out.2 HNE.out hB (fun j => Al.cntQ_take hp j)
        have p1 : W5.cell? ⟨ga, oa + i * 2 + 1, none⟩ = some (.int .i64 (B : Int)) := by
          obtain ⟨ga', oa', e, _, cs'⟩ := E4.out W5 C1.out.b (by rw [← HG.out.1]; exact Nat.lt_of_le_of_lt (Nat.zero_le i) hiG)
          cases e
          exact (cs' i _ hp).2
        obtain ⟨U1, hU1⟩ : ∃ U1, U1 = U + 1 := ⟨_, rfl⟩
        rw [← hU1] at eu C2
        have WK := hidA (wrK i (Nat.le_trans (Nat.le_of_lt hiG) (Nat.le_trans HG.out.2.1 (by decide))))
        clear x0 y0 hV hU hVb hUb hV1 hU1 hp cs RR C0 C1
        go_upto_region 12 with fail
        rw [← hW5]
        clear hW5 x0' x1 p0
        go_wp2_with fail
        go_roundg gO
        case measure => omega
        case rel => exact ⟨i + 1, hk3, by first | exact congrArg _ WK.out | rfl, C2⟩
end Go.Proofs.YtpfkoglmfbaadabDoor
