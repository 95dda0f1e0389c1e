/- Layer 15: the table of sizes: fill. -/
import Derived.Test.YthglhcabdadlpaaDoorZAlD
namespace Go.Proofs.YthglhcabdadlpaaDoor
open Go.RowKit
set_option linter.unusedVariables false
set_option linter.unusedSimpArgs false
set_option maxRecDepth 100000

theorem TB.congr {w : World} {g d n : Nat} {f f' : Nat → Nat → Nat} (h : TB w g d n f) (e : ∀ i j, i ≤ n → j < d → f i j = f' i j) : TB w g d n f' := ⟨h.1, fun i j hi hj => by rw [← e i j hi hj]; exact h.2 i j hi hj⟩
theorem gb_refl (w : World) (o : Option Nat) : w.grownBy w o := ⟨rfl, rfl, rfl, Nat.le_refl _, fun _ _ _ => rfl⟩
theorem gb_below {w w' : World} {g : Nat} (h : w.grownBy w' (some g)) (hg : g ≤ w.heap.size) : Below g w w' := ⟨h.os, h.tape, h.output, h.size, fun k hk => h.block k (by omega) (by intro e; cases e; omega)⟩
theorem gb_cell {w w' : World} {g k o : Nat} (h : w.grownBy w' (some g)) (hk : k < w.heap.size) (hn : k ≠ g) : w'.cell? ⟨k, o, none⟩ = w.cell? ⟨k, o, none⟩ := by
  have := h.block k hk (by intro e; cases e; exact hn rfl)
  simp [World.cell?, this]
theorem gb_set {w w' : World} {g : Nat} (h : w.grownBy w' (some g)) (o : Nat) (v : Value) : w.grownBy (w'.setCell ⟨g, o, none⟩ v) (some g) := by
  refine ⟨h.os, h.tape, h.output, by have := h.size; simpa using this, fun k hk hn => ?_⟩
  rw [← h.block k hk hn]
  simp only [World.setCell, Array.getElem?_modify]
  rw [if_neg (by intro e; exact hn (by rw [e]))]
theorem gb_later {w w' w2 : World} {o : Option Nat} (h : w.grownBy w' o) (b : Below w'.heap.size w' w2) : w.grownBy w2 o :=
  ⟨b.os.trans h.os, b.tape.trans h.tape, b.output.trans h.output, Nat.le_trans h.size b.size, fun k hk hn => (b.block k (Nat.lt_of_lt_of_le hk h.size)).trans (h.block k hk hn)⟩
theorem gb_from {w w' w2 : World} {o : Option Nat} (b : Below w.heap.size w w') (h : w'.grownBy w2 o) : w.grownBy w2 o :=
  ⟨h.os.trans b.os, h.tape.trans b.tape, h.output.trans b.output, Nat.le_trans b.size h.size, fun k hk hn => (h.block k (Nat.lt_of_lt_of_le hk b.size) hn).trans (b.block k hk)⟩
theorem wrA (i : Nat) (h : i ≤ 1000000) : IntKind.i64.wrap ((i : Int) + 1) = (i : Int) + 1 := by rw [IntKind.wrap_i64]; omega
theorem wrB (i : Nat) (h : i ≤ 1000000) : wrap64 ((i : Int) + 1) = (i : Int) + 1 := by unfold wrap64; omega
theorem wrC (i : Nat) (h : i ≤ 1000000) : IntKind.i64.wrap ((i : Int) - 1) = (i : Int) - 1 := by rw [IntKind.wrap_i64]; omega
theorem wrD (i : Nat) (h : i ≤ 1000000) : wrap64 ((i : Int) - 1) = (i : Int) - 1 := by unfold wrap64; omega
theorem wrE (m k j : Nat) (h : m ≤ 1000000) (e : j + 1 + k = m) : wrap64 ((m : Int) - 1 - (k : Int)) = (j : Int) := by unfold wrap64; omega
theorem wrF (m k j : Nat) (h : m ≤ 1000000) (e : j + 1 + k = m) : IntKind.i64.wrap ((m : Int) - 1 - (k : Int)) = (j : Int) := by rw [IntKind.wrap_i64]; omega
theorem wrG (v : Nat) (h : v ≤ 1000000) : IntKind.i32.wrap ((v : Int) + 1) = ((v + 1 : Nat) : Int) := by
  have h1 : ((v : Int) + 1) % 4294967296 = (v : Int) + 1 := by omega
  have h2 : ¬ ((v : Int) + 1 ≥ 2147483648) := by omega
  simp [IntKind.wrap, IntKind.signed, IntKind.bits, h1, h2]
/-- The row i, from behind, so far. -/
def flF (x : Al.Ev) (A b : List Al.Ev) (f : Nat → Nat → Nat) (i k : Nat) : Nat → Nat → Nat := fun i' j => if i' = i ∧ b.length - k ≤ j then Al.lcs (x :: A) (b.drop j) else f i' j
theorem fl_hit {x y : Al.Ev} {A b : List Al.Ev} {j : Nat} (hy : b[j]? = some y) : Al.lcs (x :: A) (b.drop j) = if x = y then Al.lcs A (b.drop (j + 1)) + 1 else max (Al.lcs A (b.drop j)) (Al.lcs (x :: A) (b.drop (j + 1))) := by
  obtain ⟨h1, h2⟩ := List.getElem?_eq_some_iff.1 hy
  rw [List.drop_eq_getElem_cons h1, h2, Al.lcs_cons]
theorem fl_step {w : World} {x : Al.Ev} {A b : List Al.Ev} {f : Nat → Nat → Nat} {g n i k v : Nat} (hk : k < b.length) (hi : i ≤ n) (hv : v = Al.lcs (x :: A) (b.drop (b.length - 1 - k)))
    (h : TB w g (b.length + 1) n (flF x A b f i k)) : TB (w.setCell ⟨g, i * (b.length + 1) + (b.length - 1 - k), none⟩ (.int .i32 (v : Nat))) g (b.length + 1) n (flF x A b f i (k + 1)) := by
  refine (h.set (v := v) hi (by omega)).congr fun i' j h1 h2 => ?_
  unfold flF
  by_cases c : i' = i ∧ j = b.length - 1 - k
  · rw [if_pos c, if_pos ⟨c.1, by omega⟩, hv, c.2]
  · rw [if_neg c]
    by_cases c2 : i' = i ∧ b.length - k ≤ j
    · rw [if_pos c2, if_pos ⟨c2.1, by omega⟩]
    · rw [if_neg c2, if_neg (fun h => c2 ⟨h.1, by
        have h3 := h.2
        have h4 : j ≠ b.length - 1 - k := fun e => c ⟨h.1, e⟩
        omega⟩)]
theorem fl_at {w : World} {x : Al.Ev} {A b : List Al.Ev} {f : Nat → Nat → Nat} {g n d i k v R1 J : Nat} (hd : d = b.length + 1) (hR : R1 = i * d) (hJ : J + 1 + k = b.length) (hi : i ≤ n) (hv : v = Al.lcs (x :: A) (b.drop J))
    (h : TB w g d n (flF x A b f i k)) : TB (w.setCell ⟨g, R1 + J, none⟩ (.int .i32 (v : Nat))) g d n (flF x A b f i (k + 1)) := by
  subst hd hR
  obtain rfl : J = b.length - 1 - k := by omega
  exact fl_step (by omega) hi hv h
theorem fl_get {w : World} {x : Al.Ev} {A b : List Al.Ev} {f : Nat → Nat → Nat} {g n d i k R1 R2 J : Nat} (hd : d = b.length + 1) (hR : R1 = i * d) (hR2 : R2 = (i + 1) * d) (hJ : J + 1 + k = b.length) (hi : i < n) (hf : ∀ j, j ≤ b.length → f (i + 1) j = Al.lcs A (b.drop j))
    (h : TB w g d n (flF x A b f i k)) : w.cell? ⟨g, R2 + (J + 1), none⟩ = some (.int .i32 (Al.lcs A (b.drop (J + 1)) : Nat)) ∧ w.cell? ⟨g, R2 + J, none⟩ = some (.int .i32 (Al.lcs A (b.drop J) : Nat)) ∧ w.cell? ⟨g, R1 + (J + 1), none⟩ = some (.int .i32 (Al.lcs (x :: A) (b.drop (J + 1)) : Nat)) ∧ (∃ u, w.cell? ⟨g, R1 + J, none⟩ = some u) ∧ w.frozen? ⟨g, R1 + J, none⟩ = false := by
  subst hR hR2
  have h1 := h.2 (i + 1) (J + 1) (by omega) (by omega)
  have h2 := h.2 (i + 1) J (by omega) (by omega)
  have h3 := h.2 i (J + 1) (by omega) (by omega)
  have h4 := h.2 i J (by omega) (by omega)
  have e1 : flF x A b f i k (i + 1) (J + 1) = Al.lcs A (b.drop (J + 1)) := by unfold flF; rw [if_neg (fun h => absurd h.1 (by omega))]; exact hf _ (by omega)
  have e2 : flF x A b f i k (i + 1) J = Al.lcs A (b.drop J) := by unfold flF; rw [if_neg (fun h => absurd h.1 (by omega))]; exact hf _ (by omega)
  have e3 : flF x A b f i k i (J + 1) = Al.lcs (x :: A) (b.drop (J + 1)) := by unfold flF; rw [if_pos ⟨rfl, by omega⟩]
  rw [e1] at h1
  rw [e2] at h2
  rw [e3] at h3
  exact ⟨h1.1, h2.1, h3.1, ⟨_, h4.1⟩, h4.2⟩
theorem TB.drew {w : World} {g d n : Nat} {f : Nat → Nat → Nat} (h : TB w g d n f) (k : Nat) : TB (w.drewN k) g d n f := ⟨h.1, h.2⟩
theorem gb_drew {w w' : World} {o : Option Nat} (h : w.grownBy w' o) (k : Nat) : w.grownBy (w'.drewN k) o := ⟨h.os, h.tape, h.output, h.size, h.block⟩
theorem fl_nums {m d k gk : Nat} {M1 : Int} (hM : M1 = (m : Int) - 1) (hk : k + (gk + 1) = m) (hd : d = m + 1) (hm : m ≤ 100) : ∃ J J1 : Nat, J + 1 + k = m ∧ J1 = J + 1 ∧ (J < m ∧ (J : Int) < (m : Int)) ∧ (J < d ∧ (J : Int) < (d : Int)) ∧ (J1 < d ∧ (J1 : Int) < (d : Int)) ∧ (wrap64 (M1 - (k : Int)) = (J : Int) ∧ IntKind.i64.wrap (M1 - (k : Int)) = (J : Int)) ∧ (wrap64 ((J : Int) + 1) = (J1 : Int) ∧ IntKind.i64.wrap ((J : Int) + 1) = (J1 : Int)) ∧ decide ((k : Int) < (m : Int)) = true := by
  subst hM
  obtain ⟨J, hJ⟩ : ∃ J, J + 1 + k = m := ⟨m - 1 - k, by omega⟩
  exact ⟨J, J + 1, hJ, rfl, by omega, by omega, by omega, ⟨wrE m k J (by omega) hJ, wrF m k J (by omega) hJ⟩, ⟨wrB J (by omega), wrA J (by omega)⟩, decide_eq_true (by omega)⟩
theorem fl_small (x : Al.Ev) (A b : List Al.Ev) (J : Nat) (hal : A.length ≤ 100) : Al.lcs A (b.drop (J + 1)) ≤ 1000000 ∧ (max (Al.lcs A (b.drop J)) (Al.lcs (x :: A) (b.drop (J + 1)))) ≤ 1000000 := by
  have z1 := (Al.lcs_bd A (b.drop (J + 1))).1
  have z2 := (Al.lcs_bd A (b.drop J)).1
  have z3 := (Al.lcs_bd (x :: A) (b.drop (J + 1))).1
  simp only [List.length_cons] at z3
  omega
set_option maxHeartbeats 16000000 in
theorem szFill (w : World) (g n i N : Nat) (x : Al.Ev) (A b : List Al.Ev) (f : Nat → Nat → Nat) (ba : Option Addr) (bc B : Nat) (hN : N ≤ 1000000) (hNe : N = (n + 1) * (b.length + 1)) (hin : i < n) (hbl : b.length ≤ 100) (hal : A.length ≤ 100)
    (hT : TB w g (b.length + 1) n f) (hB : B ≤ g) (hb : EvR B w ba b) (hf : ∀ j, j ≤ b.length → f (i + 1) j = Al.lcs A (b.drop j)) (hf0 : f i b.length = 0) :
    Calls Tryd.prog 60 #[szV g (b.length + 1) N, .int .i64 (i : Int), .agg #[.int .i64 x.1, .int .i64 x.2], .slice ba b.length bc] w fun e w' => e = .returned (.tuple #[]) ∧ TB w' g (b.length + 1) n (flF x A b f i b.length) ∧ w.grownBy w' (some g) := by
  obtain ⟨d, hd⟩ : ∃ d, d = b.length + 1 := ⟨_, rfl⟩
  have HD := hidA hd
  have hi1 : (i + 1) * d ≤ N := by rw [hNe, ← hd]; exact Nat.mul_le_mul_right d (by omega)
  have hi2 : (i + 1 + 1) * d ≤ N := by rw [hNe, ← hd]; exact Nat.mul_le_mul_right d (by omega)
  have hd0 : 0 < d := by omega
  have hnN : n + 1 ≤ N := by rw [hNe]; exact Nat.le_mul_of_pos_right _ (Nat.succ_pos _)
  have hiN : i ≤ 1000000 := Nat.le_trans (Nat.le_of_lt hin) (Nat.le_trans (Nat.le_succ n) (Nat.le_trans hnN hN))
  have HTB := hidA hT
  have HEB := hidA hb
  have HF := hidA hf
  have HF0 := hidA hf0
  have RC : Hid (∀ (wz : World) (y : Int), (y = i ∨ y = (i : Int) + 1) → Calls Tryd.prog 50 #[szV g d N, .int .i64 y] wz fun e w' => e = .returned (.slice (some ⟨g, y.toNat * d, none⟩) d d) ∧ Below wz.heap.size wz w') := fun wz y hy => by
    rcases hy with rfl | rfl
    · exact szRow wz g d N i hd0 hN hi1 _ rfl
    · exact szRow wz g d N (i + 1) hd0 hN hi2 _ (by simp)
  have hgw : g < w.heap.size := hT.1
  obtain ⟨m, hm⟩ : ∃ m, m = b.length := ⟨_, rfl⟩
  have HM := hidA hm
  rw [← hd]
  rw [← hd] at HTB
  rw [← hm] at hbl HF HF0 ⊢
  obtain ⟨x1, hx1⟩ : ∃ x1, x1 = x.1 := ⟨_, rfl⟩
  obtain ⟨x2, hx2⟩ : ∃ x2, x2 = x.2 := ⟨_, rfl⟩
  have HX1 := hidA hx1
  have HX2 := hidA hx2
  rw [← hx1, ← hx2]
  clear hx1 hx2
  obtain ⟨W0, hW0⟩ : ∃ W0, W0 = (w.alloc (.cells #[.int .i64 (d : Int), .slice (some ⟨g, 0, none⟩) N N] 86)).alloc (.cells #[.int .i64 x1, .int .i64 x2] 24) := ⟨_, rfl⟩
  obtain ⟨p, hp⟩ : ∃ p, p = w.heap.size := ⟨_, rfl⟩
  have B0 : Hid (Below w.heap.size w W0) := by rw [hW0]; exact ((Below.refl _ _).alloc (Nat.le_refl _) _).alloc (by simp) _
  have S0 : W0.heap.size = p + 2 := by rw [hW0, hp]; simp
  have c0 : W0.cell? ⟨p, 0, none⟩ = some (.int .i64 (d : Int)) := by rw [hW0, hp]; simp [go_sem]
  have c1 : W0.cell? ⟨p, 1, none⟩ = some (.slice (some ⟨g, 0, none⟩) N N) := by rw [hW0, hp]; simp [go_sem]
  have c2 : Hid (W0.cell? ⟨p + 1, 0, none⟩ = some (.int .i64 x1)) := by unfold Hid; rw [hW0, hp]; simp [go_sem]
  have c3 : Hid (W0.cell? ⟨p + 1, 1, none⟩ = some (.int .i64 x2)) := by unfold Hid; rw [hW0, hp]; simp [go_sem]
  have hp2 : p < W0.heap.size := by omega
  have hw1 : wrap64 ((i : Int) + 1) = (i : Int) + 1 := wrB i hiN
  have hw2 : IntKind.i64.wrap ((i : Int) + 1) = (i : Int) + 1 := wrA i hiN
  have T0 : Hid (TB W0 g d n f) := HTB.out.later B0.out hgw
  have E0 : Hid (EvR B W0 ba b) := HEB.out.later B0.out (by omega)
  have GP : Hid (g < p) := by unfold Hid; omega
  clear hT hb hf hf0 hd hm HTB HEB hi1 hi2 hNe hnN
  unfold szV at RC ⊢
  go_enter Tryd.func60, Tryd.ntmps60
  go_upto_region 1 with fail
  rw [← hW0, ← hp]
  have HP := hidA hp
  clear hW0 hp hgw
  have HS := hidA S0
  clear S0
  go_cut [8, 9] from 12 to 18 (fun s8 s9 wx => s8 = .slice (some ⟨g, i * d, none⟩) d d ∧ s9 = .slice (some ⟨g, (i + 1) * d, none⟩) d d ∧ Hid (Below W0.heap.size W0 wx))
  case first =>
    go_region_with (first
      | (go_at_call 50; have qq := B1.out; refine Calls.mono (RC.out _ _ (by first | exact .inl rfl | exact .inr rfl)) ?_; rintro e2 w2 ⟨rfl, b2⟩; have B2 : Hid (Below W0.heap.size W0 w2) := Below.trans qq (b2.mono qq.size); clear b2 qq)
      | (go_at_call 50; refine Calls.mono (RC.out _ _ (by first | exact .inl rfl | exact .inr rfl)) ?_; rintro e1 w1 ⟨rfl, b1⟩; have B1 : Hid (Below W0.heap.size W0 w1) := Below.trans (by go_grown) (b1.mono (by go_size)); have y0 := (B1.out.cell (p := ⟨p, 0, none⟩) hp2).trans c0; have y1 := (B1.out.cell (p := ⟨p, 1, none⟩) hp2).trans c1; clear b1))
    all_goals
      go_wp2_with fail
      go_meet
      exact ⟨by simp, by simp, B2.out.trans ⟨rfl, rfl, rfl, Nat.le_refl _, fun _ _ => rfl⟩⟩
  case rest =>
    obtain ⟨rfl, rfl, BX⟩ := hcut
    have PP : Hid (Below W0.heap.size W0 wc) := BX.out
    clear BX RC c0 c1
    have TC : Hid (TB wc g d n f) := T0.out.later PP.out (by have := GP.out; have := HS.out; omega)
    have EC2 : Hid (EvR B wc ba b) := E0.out.later PP.out (by have := GP.out; have := HS.out; omega)
    have WZ : Hid (p + 2 ≤ wc.heap.size) := by have := PP.out.size; have := HS.out; unfold Hid; omega
    have c5 : Hid (wc.cell? ⟨p + 1, 0, none⟩ = some (.int .i64 x1)) := (PP.out.cell (p := ⟨p + 1, 0, none⟩) (by have := HS.out; show p + 1 < _; omega)).trans c2.out
    have c6 : Hid (wc.cell? ⟨p + 1, 1, none⟩ = some (.int .i64 x2)) := (PP.out.cell (p := ⟨p + 1, 1, none⟩) (by have := HS.out; show p + 1 < _; omega)).trans c3.out
    have BALL : Hid (∀ w', wc.grownBy w' (some g) → w.grownBy w' (some g)) := fun w' h => gb_from (B0.out.trans (PP.out.mono (by have := B0.out.size; exact this))) h
    clear T0 E0 c2 c3 PP B0
    obtain ⟨R1, hR1⟩ : ∃ R1, R1 = i * d := ⟨_, rfl⟩
    obtain ⟨R2, hR2⟩ : ∃ R2, R2 = (i + 1) * d := ⟨_, rfl⟩
    rw [← hR1, ← hR2]
    have HR1 := hidA hR1
    have HR2 := hidA hR2
    clear hR1 hR2 hp2 hw1 hw2
    have hdm : d = m + 1 := by rw [HD.out, HM.out]
    have HDM := hidA hdm
    obtain ⟨M1, hM1⟩ : ∃ M1 : Int, M1 = (m : Int) - 1 := ⟨_, rfl⟩
    have hm1 : IntKind.i64.wrap ((m : Int) - 1) = M1 := by rw [hM1]; exact wrC m (Nat.le_trans hbl (by decide))
    have hm2 : wrap64 ((m : Int) - 1) = M1 := by rw [hM1]; exact wrD m (Nat.le_trans hbl (by decide))
    have HM1 := hidA hM1
    clear hM1
    clear hdm
    go_wp2_with fail
    go_loopg [21] m (fun gk y wr => ∃ k : Nat, k + gk = m ∧ y = .int .i64 k ∧ Hid (wc.grownBy wr (some g) ∧ TB wr g d n (flF x A b f i k)))
    case atStart => exact ⟨0, by omega, rfl, gb_refl _ _, TC.out.congr fun i' j h1 h2 => by
      unfold flF
      by_cases c : i' = i ∧ b.length - 0 ≤ j
      · rw [if_pos c]
        have e : j = m := by have := HDM.out; have := HM.out; have := c.2; omega
        rw [c.1, e, HF0.out, List.drop_eq_nil_of_le (by rw [HM.out]; exact Nat.le_refl _), Al.lcs_nilr]
      · rw [if_neg c]⟩
    case round =>
      obtain ⟨k, hk, rfl, RR⟩ := hrel
      rcases gk with _ | gk
      · obtain rfl : k = m := by omega
        have dk : decide ((k : Int) < (k : Int)) = false := decide_eq_false (by omega)
        have FIN : Hid (TB wr g d n (flF x A b f i k) ∧ w.grownBy wr (some g)) := ⟨RR.out.2, BALL.out _ RR.out.1⟩
        clear RR BALL TC EC2
        go_wp2_with fail
        go_end0
        exact ⟨rfl, FIN.out⟩
      · obtain ⟨J, J1, hJ, hJ1, ⟨hJm, hJi⟩, ⟨hJd, hJd1⟩, ⟨hJf, hJf1⟩, ⟨j1, j2⟩, ⟨q4, q3⟩, dk⟩ := fl_nums HM1.out hk HDM.out hbl
        have HJ1 := hidA hJ1
        clear hJ1
        have HGP : Hid (g ≤ wc.heap.size ∧ p + 1 < wc.heap.size ∧ p + 1 ≠ g) := ⟨Nat.le_of_lt (Nat.lt_of_lt_of_le GP.out (Nat.le_trans (Nat.le_add_right p 2) WZ.out)), Nat.lt_of_lt_of_le (Nat.lt_succ_self (p + 1)) WZ.out, Nat.ne_of_gt (Nat.lt_succ_of_lt GP.out)⟩
        have EB : Hid (EvR B wr ba b) := EC2.out.later (gb_below RR.out.1 HGP.out.1) hB
        obtain ⟨y, hy⟩ : ∃ y, b[J]? = some y := ⟨_, List.getElem?_eq_getElem (by rw [← HM.out]; exact hJm)⟩
        have HV := hidA (fl_hit (x := x) (A := A) hy)
        obtain ⟨gb, ob, rfl, hgb, cb⟩ := EB.out (by rw [← HM.out]; exact Nat.lt_of_le_of_lt (Nat.zero_le J) hJm)
        have a0 := (cb J y hy).1
        have a1 := (cb J y hy).2
        have e0 := (gb_cell RR.out.1 (k := p + 1) (o := 0) HGP.out.2.1 HGP.out.2.2).trans c5.out
        have e1 := (gb_cell RR.out.1 (k := p + 1) (o := 1) HGP.out.2.1 HGP.out.2.2).trans c6.out
        have HJB : Hid (J + 1 + k = b.length) := by unfold Hid; rw [← HM.out]; exact hJ
        clear cb hy EB EC2 TC hJ
        have HVb := hidA (fl_small x A b J hal)
        by_cases hxy : x = y
        · have HV2 : Hid (Al.lcs (x :: A) (b.drop J) = Al.lcs A (b.drop (J + 1)) + 1) := by unfold Hid; rw [HV.out, if_pos hxy]
          rw [← hxy, ← HX1.out] at a0
          rw [← hxy, ← HX2.out] at a1
          clear HV hxy
          have q1 : (x1 == x1) = true := beq_self_eq_true x1
          have q2 : (x2 == x2) = true := beq_self_eq_true x2
          go_upto_region 6 with fail
          go_quiet (fail)
          have G5 := hidA (gb_drew RR.out.1 nq)
          have T5 := hidA (RR.out.2.drew nq)
          generalize wr.drewN nq = W5 at G5 T5 ⊢
          obtain ⟨n1, -, -, ⟨u, r0⟩, fr⟩ := fl_get (HD.out) HR1.out HR2.out HJB.out hin (fun j hj => HF.out j (by rw [HM.out]; exact hj)) T5.out
          have FIN : Hid (∀ v, v = Al.lcs A (b.drop (J + 1)) → wc.grownBy (W5.setCell ⟨g, R1 + J, none⟩ (.int .i32 ((v + 1 : Nat) : Int))) (some g) ∧ TB (W5.setCell ⟨g, R1 + J, none⟩ (.int .i32 ((v + 1 : Nat) : Int))) g d n (flF x A b f i (k + 1))) := fun v hv => ⟨gb_set G5.out _ _, fl_at HD.out HR1.out HJB.out (Nat.le_of_lt hin) (by rw [hv, HV2.out]) T5.out⟩
          obtain ⟨v, hv⟩ : ∃ v, v = Al.lcs A (b.drop (J + 1)) := ⟨_, rfl⟩
          have FIN2 := hidA (FIN.out v hv)
          have q5 := wrG v (by rw [hv]; exact HVb.out.1)
          rw [← hv, ← HJ1.out] at n1
          clear FIN hv G5 T5 a0 a1 e0 e1 RR HV2 HVb j1 j2 hm1 hm2 hJi
          go_wp2_with fail
          go_roundg gk
          case measure => omega
          case rel => exact ⟨k + 1, by omega, by go_num, FIN2.out⟩
        · have HV2 : Hid (Al.lcs (x :: A) (b.drop J) = max (Al.lcs A (b.drop J)) (Al.lcs (x :: A) (b.drop (J + 1)))) := by unfold Hid; rw [HV.out, if_neg hxy]
          have q := ev_ne hxy
          rw [← HX1.out, ← HX2.out] at q
          clear HV hxy
          generalize y.1 = y1 at a0 q
          generalize y.2 = y2 at a1 q
          have KEY : ∀ W5, wc.grownBy W5 (some g) → TB W5 g d n (flF x A b f i k) → ∃ v0 r1 mx : Nat, Hid (mx = max v0 r1) ∧ W5.cell? ⟨g, R2 + J, none⟩ = some (.int .i32 (v0 : Int)) ∧ W5.cell? ⟨g, R1 + J1, none⟩ = some (.int .i32 (r1 : Int)) ∧ (∃ u, W5.cell? ⟨g, R1 + J, none⟩ = some u) ∧ W5.frozen? ⟨g, R1 + J, none⟩ = false ∧ Hid (∀ W6 : World, W6.heap = W5.heap → W6.os = W5.os → W6.tape = W5.tape → W6.output = W5.output → wc.grownBy (W6.setCell ⟨g, R1 + J, none⟩ (.int .i32 ((mx : Nat) : Int))) (some g) ∧ TB (W6.setCell ⟨g, R1 + J, none⟩ (.int .i32 ((mx : Nat) : Int))) g d n (flF x A b f i (k + 1))) := fun W5 G5 T5 => by
            obtain ⟨-, n0, r1, hu, fr⟩ := fl_get (HD.out) HR1.out HR2.out HJB.out hin (fun j hj => HF.out j (by rw [HM.out]; exact hj)) T5
            refine ⟨_, _, _, hidA rfl, n0, by rw [HJ1.out]; exact r1, hu, fr, fun W6 e1 e2 e3 e4 => ?_⟩
            have G6 : wc.grownBy W6 (some g) := ⟨e2.trans G5.os, e3.trans G5.tape, e4.trans G5.output, by rw [e1]; exact G5.size, fun k hk hn => by rw [e1]; exact G5.block k hk hn⟩
            have T6 : TB W6 g d n (flF x A b f i k) := ⟨by rw [e1]; exact T5.1, fun i j hi hj => by
              have := T5.2 i j hi hj
              simp only [World.cell?, World.frozen?] at this ⊢
              rw [e1]
              exact this⟩
            exact ⟨gb_set G6 _ _, fl_at HD.out HR1.out HJB.out (Nat.le_of_lt hin) (by rw [HV2.out]) T6⟩
          have KH := hidA KEY
          clear KEY HV2 HVb
          rcases q with q1 | ⟨q1, q2⟩
          all_goals
            go_upto_region 6 with fail
            go_quiet (fail)
            have G5 := hidA (gb_drew RR.out.1 nq)
            have T5 := hidA (RR.out.2.drew nq)
            generalize wr.drewN nq = W5 at G5 T5 ⊢
            obtain ⟨v0, r1, mx, HMX, n0, nr, ⟨u, r0⟩, fr, FIN⟩ := KH.out W5 G5.out T5.out
            have HMM : ∀ wz : World, (Builtin.max_ #[21, 21] 21 #[.int .i32 (v0 : Int), .int .i32 (r1 : Int)]).run Tryd.prog wz = .ok (.int .i32 (mx : Int)) wz := fun wz => by rw [Lib.run_max_ints, HMX.out]; congr 2; omega
            clear HMX G5 T5 a0 a1 e0 e1 RR KH j1 j2 hm1 hm2 hJi
            go_upto_region 8 with fail
            go_region
            all_goals
              go_wp2_with fail
              go_roundg gk
              case measure => omega
              case rel =>
                have R := FIN.out W5 rfl rfl rfl rfl
                exact ⟨k + 1, by omega, by go_num, ⟨R.1.os, R.1.tape, R.1.output, R.1.size, R.1.block⟩, R.2⟩
end Go.Proofs.YthglhcabdadlpaaDoor
