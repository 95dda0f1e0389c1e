/- Layer 15: the table of sizes: sizesOf. -/
import Derived.Test.YthglhcabdadlpaaDoorAlG
namespace Go.Proofs.YthglhcabdadlpaaDoor
open Go.RowKit
set_option linter.unusedVariables false
set_option linter.unusedSimpArgs false
set_option maxRecDepth 100000
/-- The table of two rows, in a new block. -/
def SzQ (w : World) (l m : List Al.Ev) (e : Ending) (w' : World) : Prop := ∃ g, e = .returned (szV g (m.length + 1) ((l.length + 1) * (m.length + 1))) ∧ w.heap.size ≤ g ∧ TB w' g (m.length + 1) l.length (fun i j => Al.lcs (l.drop i) (m.drop j)) ∧ Below w.heap.size w w'
theorem gb_block {w w' : World} {g k : Nat} (h : w.grownBy w' (some g)) (hk : k < w.heap.size) (hn : k ≠ g) : w'.heap[k]? = w.heap[k]? := h.block k hk (by intro e; cases e; exact hn rfl)
theorem sz_nums (n m : Nat) (hn : n ≤ 100) (hm : m ≤ 100) : wrap64 ((m : Int) + 1) = ((m + 1 : Nat) : Int) ∧ wrap64 ((n : Int) + 1) = ((n + 1 : Nat) : Int) ∧ wrap64 (((n + 1 : Nat) : Int) * ((m + 1 : Nat) : Int)) = (((n + 1) * (m + 1) : Nat) : Int) ∧ (n + 1) * (m + 1) ≤ 1000000 := by
  have h : (n + 1) * (m + 1) ≤ 101 * 101 := Nat.mul_le_mul (by omega) (by omega)
  refine ⟨by unfold wrap64; omega, by unfold wrap64; omega, ?_, by omega⟩
  have e : (((n + 1) * (m + 1) : Nat) : Int) = ((n + 1 : Nat) : Int) * ((m + 1 : Nat) : Int) := Int.natCast_mul _ _
  rw [← e]
  unfold wrap64
  omega
theorem mk32 (wz : World) (N : Nat) (h : N ≤ 1000000) : (Instr.makeSlice 84 (.int .i64 (N : Int)) (.int .i64 (N : Int))).run Tryd.prog wz = .ok (.slice (some ⟨wz.heap.size, 0, none⟩) N N) (wz.alloc (.cells (madeCells (Value.int .i32 0).cells (N * 1)) 21)) := by
  obtain ⟨i0, hi, hz0, hz1, hz2⟩ := infoI32
  have := run_make (P := Tryd.prog) wz 84 21 i0 (.int .i32 0) Tryd.underlying84 hi hz0 .i64 .i64 (N : Int) (N : Int) (by omega) (Int.le_refl _) (by rw [hz2]; omega) (by omega)
  rw [hz1] at this
  simpa using this
theorem TB.other {w : World} {g d n p : Nat} {f : Nat → Nat → Nat} (h : TB w g d n f) (hp : p ≠ g) (c : Nat) (v : Value) : TB (w.setCell ⟨p, c, none⟩ v) g d n f := by
  refine ⟨by have := h.1; simpa using this, fun i j hi hj => ⟨?_, ?_⟩⟩
  · rw [World.cell?_setCell_other]
    · exact (h.2 i j hi hj).1
    · intro e; exact hp (congrArg Addr.block e)
  · rw [World.frozen?_setCell]
    exact (h.2 i j hi hj).2
set_option maxHeartbeats 8000000 in
theorem szOf (w : World) (a b : Option Addr) (ca cb : Nat) (l m : List Al.Ev) {B : Nat} (ha : EvR B w a l) (hb : EvR B w b m) (hB : B ≤ w.heap.size) (hl : l.length ≤ 100) (hm : m.length ≤ 100) :
    Calls Tryd.prog 49 #[.slice a l.length ca, .slice b m.length cb] w (SzQ w l m) := by
  obtain ⟨e1, e2, e3, hN⟩ := sz_nums l.length m.length hl hm
  obtain ⟨N, hNe⟩ : ∃ N, N = (l.length + 1) * (m.length + 1) := ⟨_, rfl⟩
  have HNE := hidA hNe
  rw [← hNe] at e3 hN
  have HMK : ∀ wz : World, (Instr.makeSlice 84 (.int .i64 (N : Int)) (.int .i64 (N : Int))).run Tryd.prog wz = .ok (.slice (some ⟨wz.heap.size, 0, none⟩) N N) (wz.alloc (.cells (madeCells (Value.int .i32 0).cells (N * 1)) 21)) := fun wz => mk32 wz N hN
  have HTM : Hid (∀ wz : World, TB (wz.alloc (.cells (madeCells (Value.int .i32 0).cells (N * 1)) 21)) wz.heap.size (m.length + 1) l.length (tbF l m 0)) := fun wz => TB.made wz l m hNe
  obtain ⟨MC, hMC⟩ : ∃ MC, MC = madeCells (Value.int .i32 0).cells (N * 1) := ⟨_, rfl⟩
  rw [← hMC] at HMK HTM
  clear hMC
  have HA := hidA ha
  have HB := hidA hb
  have HQ : Hid (∀ g w', w.heap.size ≤ g → TB w' g (m.length + 1) l.length (tbF l m l.length) → Below w.heap.size w w' → SzQ w l m (.returned (szV g (m.length + 1) N)) w') := fun g w' h1 h2 h3 => ⟨g, by rw [HNE.out], h1, h2.congr fun i j _ _ => tbF_all, h3⟩
  have HF : Hid (∀ (wz : World) (g J k : Nat) (x : Al.Ev), J + 1 + k = l.length → l[J]? = some x → B ≤ g → EvR B wz b m → TB wz g (m.length + 1) l.length (tbF l m k) → Calls Tryd.prog 60 #[.agg #[.int .i64 ((m.length + 1 : Nat) : Int), .slice (some ⟨g, 0, none⟩) N N], .int .i64 (J : Int), .agg #[.int .i64 x.1, .int .i64 x.2], .slice b m.length cb] wz fun e w' => e = .returned (.tuple #[]) ∧ TB w' g (m.length + 1) l.length (tbF l m (k + 1)) ∧ wz.grownBy w' (some g)) := fun wz g J k x h1 h2 h3 h4 h5 =>
    Calls.mono (szFill wz g l.length J N x (l.drop (J + 1)) m (tbF l m k) b cb B hN hNe (by omega) hm (by simp; omega) h5 h3 h4 (fun j _ => tbF_next h1) (tbF_zero h1)) fun e w' h => ⟨h.1, h.2.1.congr fun i j _ _ => tbF_step h1 h2 i j, h.2.2⟩
  obtain ⟨Q, hQ⟩ : ∃ Q, Q = SzQ w l m := ⟨_, rfl⟩
  rw [← hQ] at HQ ⊢
  clear hQ
  obtain ⟨n, hn⟩ : ∃ n, n = l.length := ⟨_, rfl⟩
  have HN := hidA hn
  obtain ⟨k2, hk2⟩ : ∃ k2, k2 = m.length := ⟨_, rfl⟩
  obtain ⟨d, hd⟩ : ∃ d, d = m.length + 1 := ⟨_, rfl⟩
  obtain ⟨n1, hn1⟩ : ∃ n1, n1 = l.length + 1 := ⟨_, rfl⟩
  rw [← hd] at e1 e3 HTM HQ HF
  rw [← hn1] at e2 e3
  rw [← hn] at e2 hl HTM HQ HF ⊢
  rw [← hk2] at e1 hm HF ⊢
  obtain ⟨p, hp⟩ : ∃ p, p = w.heap.size := ⟨_, rfl⟩
  obtain ⟨W0, hW0⟩ : ∃ W0, W0 = w.alloc (.cells #[.int .i64 0, .slice none 0 0] 86) := ⟨_, rfl⟩
  obtain ⟨W1, hW1⟩ : ∃ W1, W1 = W0.alloc (.cells MC 21) := ⟨_, rfl⟩
  have S0 : W0.heap.size = p + 1 := by rw [hW0, hp]; simp
  have S1 : W1.heap.size = p + 2 := by rw [hW1]; simp [S0]
  obtain ⟨W2, hW2⟩ : ∃ W2, W2 = W1.alloc (.cells #[.int .i64 (d : Int), .slice (some ⟨p + 1, 0, none⟩) N N] 86) := ⟨_, rfl⟩
  have HL := hidA hl
  have HM := hidA hm
  have HP := hidA hp
  have g1 : Hid (W1.heap.size = p + 2) := S1
  have B2 : Hid (Below p w W2 ∧ W2.heap.size = p + 3 ∧ W2.heap[p]? = some (.cells #[.int .i64 0, .slice none 0 0] 86 (0, 0)) ∧ W2.heap[p + 2]? = some (.cells #[.int .i64 (d : Int), .slice (some ⟨p + 1, 0, none⟩) N N] 86 (0, 0)) ∧ TB W2 (p + 1) d n (tbF l m 0)) := by
    have b0 : Below p w W0 := by rw [hW0, hp]; exact (Below.refl _ _).alloc (Nat.le_refl _) _
    have b1 : Below (p + 1) W0 W1 := by rw [hW1]; exact (Below.refl _ _).alloc (by omega) _
    have b2 : Below (p + 2) W1 W2 := by rw [hW2]; exact (Below.refl _ _).alloc (by omega) _
    have z0 : W0.heap[p]? = some (.cells #[.int .i64 0, .slice none 0 0] 86 (0, 0)) := by rw [hW0, hp]; exact Array.getElem?_push_size
    have t1 : TB W1 (p + 1) d n (tbF l m 0) := by rw [hW1, ← S0]; exact HTM.out W0
    refine ⟨b0.trans ((b1.mono (by omega)).trans (b2.mono (by omega))), by rw [hW2]; simp [S1], ((b2.block p (by omega)).trans (b1.block p (by omega))).trans z0, ?_, t1.later b2 (by omega)⟩
    rw [hW2, ← S1]
    exact Array.getElem?_push_size
  clear hd hn1 hk2 hn hNe hl hm S0 S1
  go_enter Tryd.func49, Tryd.ntmps49
  go_upto_region 2 with fail
  rw [← hp, ← hW0, ← hW1, ← hW2]
  obtain ⟨g, hg⟩ : ∃ g, g = p + 1 := ⟨_, rfl⟩
  obtain ⟨q, hq⟩ : ∃ q, q = g + 1 := ⟨_, rfl⟩
  rw [← hg, ← hq]
  have B3 : Hid (Below p w W2 ∧ W2.heap.size = p + 3 ∧ W2.heap[p]? = some (.cells #[.int .i64 0, .slice none 0 0] 86 (0, 0)) ∧ W2.heap[q]? = some (.cells #[.int .i64 (d : Int), .slice (some ⟨g, 0, none⟩) N N] 86 (0, 0)) ∧ TB W2 g d n (tbF l m 0)) := by unfold Hid; rw [hq, hg]; exact B2.out
  have GQ : Hid (g = p + 1 ∧ q = p + 2) := ⟨hg, by omega⟩
  have HBB := hidA hB
  clear hp hW0 hW1 hW2 hg hq B2 g1 ha hb hB HTM HMK e1 e2 e3 hN
  obtain ⟨M1, hM1⟩ : ∃ M1 : Int, M1 = (n : Int) - 1 := ⟨_, rfl⟩
  have hm1 : IntKind.i64.wrap ((n : Int) - 1) = M1 := by rw [hM1]; exact wrC n (Nat.le_trans HL.out (by decide))
  have hm2 : wrap64 ((n : Int) - 1) = M1 := by rw [hM1]; exact wrD n (Nat.le_trans HL.out (by decide))
  have HM1 := hidA hM1
  clear hM1
  have EX : Hid (∀ wr, W2.grownBy wr (some g) → Below p w wr ∧ EvR B wr a l ∧ EvR B wr b m) := fun wr h => by
    have h1 : Below p w wr := B3.out.1.trans ((gb_below h (by have := B3.out.2.1; have := GQ.out; omega)).mono (by have := GQ.out; omega))
    exact ⟨h1, HA.out.later h1 (by rw [HP.out]; exact HBB.out), HB.out.later h1 (by rw [HP.out]; exact HBB.out)⟩
  go_wp2_with fail
  go_loopg [22] n (fun gk y wr => ∃ k : Nat, k + gk = n ∧ y = .int .i64 k ∧ Hid (W2.grownBy wr (some g) ∧ TB wr g d n (tbF l m k)))
  case atStart => exact ⟨0, by omega, rfl, gb_refl _ _, B3.out.2.2.2.2⟩
  case round =>
    obtain ⟨k, hk, rfl, RR⟩ := hrel
    have hbp : wr.heap[p]? = some (.cells #[.int .i64 0, .slice none 0 0] 86 (0, 0)) := (gb_block RR.out.1 (by have := B3.out.2.1; omega) (by have := GQ.out; omega)).trans B3.out.2.2.1
    have hbq : wr.heap[q]? = some (.cells #[.int .i64 (d : Int), .slice (some ⟨g, 0, none⟩) N N] 86 (0, 0)) := (gb_block RR.out.1 (by have := B3.out.2.1; have := GQ.out; omega) (by have := GQ.out; omega)).trans B3.out.2.2.2.1
    have q0 : wr.cell? ⟨q, 0, none⟩ = some (.int .i64 (d : Int)) := by simp [World.cell?, hbq]
    have q1 : wr.cell? ⟨q, 1, none⟩ = some (.slice (some ⟨g, 0, none⟩) N N) := by simp [World.cell?, hbq]
    have HBP := hidA hbp
    clear hbp hbq
    have hkb : k ≤ 100 := Nat.le_trans (by omega) HL.out
    rcases gk with _ | gk
    · obtain rfl : k = n := by omega
      have dk : decide ((k : Int) < (k : Int)) = false := decide_eq_false (by omega)
      have p0 : wr.cell? ⟨p, 0, none⟩ = some (.int .i64 0) := by have := HBP.out; simp [World.cell?, this]
      have p1 : wr.cell? ⟨p, 1, none⟩ = some (.slice none 0 0) := by have := HBP.out; simp [World.cell?, this]
      have y0 : wr.frozen? ⟨p, 0, none⟩ = false := by have := HBP.out; simp [World.frozen?, this]
      have y1 : wr.frozen? ⟨p, 1, none⟩ = false := by have := HBP.out; simp [World.frozen?, this]
      have GD : Hid (∀ u v, Q (.returned (szV g d N)) ((wr.setCell ⟨p, 0, none⟩ u).setCell ⟨p, 1, none⟩ v)) := fun u v => HQ.out g _ (by have h1 := GQ.out.1; have h2 := HP.out; rw [h1, ← h2]; exact Nat.le_succ p) ((RR.out.2.other (by have := GQ.out; omega) _ _).other (by have := GQ.out; omega) _ _) (by rw [← HP.out]; exact below_set (below_set (EX.out wr RR.out.1).1 (Nat.le_refl _) _) (Nat.le_refl _) _)
      have HBP2 := HBP.out
      clear hm1 hm2 HBP
      go_wp2_with fail
      have z0 := World.cell?_setCell_same wr ⟨p, 0, none⟩ (.int .i64 (d : Int)) p0
      have z1 : ((wr.setCell ⟨p, 0, none⟩ (.int .i64 (d : Int))).setCell ⟨p, 1, none⟩ (.slice (some ⟨g, 0, none⟩) N N)).cell? ⟨p, 0, none⟩ = some (.int .i64 (d : Int)) := by
        rw [World.cell?_setCell_other]
        · exact z0
        · intro e; cases e
      have z2 : ((wr.setCell ⟨p, 0, none⟩ (.int .i64 (d : Int))).setCell ⟨p, 1, none⟩ (.slice (some ⟨g, 0, none⟩) N N)).cell? ⟨p, 1, none⟩ = some (.slice (some ⟨g, 0, none⟩) N N) := by
        refine World.cell?_setCell_same _ _ _ (u := .slice none 0 0) ?_
        rw [World.cell?_setCell_other]
        · exact p1
        · intro e; cases e
      refine ⟨rfl, .agg #[.int .i64 (d : Int), .slice (some ⟨g, 0, none⟩) N N], by simp [results, Tryd.results49, go_sem, z1, z2], GD.out _ _⟩
    · obtain ⟨J, J1, hJ, hJ1, ⟨hJm, hJi⟩, -, -, ⟨j1, j2⟩, -, dk⟩ := fl_nums HM1.out hk rfl HL.out
      obtain ⟨x, hx⟩ : ∃ x, l[J]? = some x := ⟨_, List.getElem?_eq_getElem (by rw [← HN.out]; exact hJm)⟩
      obtain ⟨bw, ea, eb⟩ := EX.out wr RR.out.1
      obtain ⟨ga, oa, rfl, hga, cs⟩ := ea (by rw [← HN.out]; exact Nat.lt_of_le_of_lt (Nat.zero_le J) hJm)
      have a0 := (cs J x hx).1
      have a1 := (cs J x hx).2
      have FC : Hid (∀ wz : World, Below wr.heap.size wr wz → Calls Tryd.prog 60 #[.agg #[.int .i64 (d : Int), .slice (some ⟨g, 0, none⟩) N N], .int .i64 (J : Int), .agg #[.int .i64 x.1, .int .i64 x.2], .slice b k2 cb] wz fun e w' => e = .returned (.tuple #[]) ∧ W2.grownBy w' (some g) ∧ TB w' g d n (tbF l m (k + 1))) := fun wz hz =>
        Calls.mono (HF.out wz g J k x hJ hx (by have h1 := GQ.out.1; have h2 := HBB.out; have h3 := HP.out; rw [h1, h3]; exact Nat.le_succ_of_le h2) (eb.later hz (Nat.le_trans HBB.out bw.size)) (RR.out.2.later hz RR.out.2.1)) fun e w' h => ⟨h.1, ⟨h.2.2.os.trans (hz.os.trans RR.out.1.os), h.2.2.tape.trans (hz.tape.trans RR.out.1.tape), h.2.2.output.trans (hz.output.trans RR.out.1.output), Nat.le_trans RR.out.1.size (Nat.le_trans hz.size h.2.2.size), fun i hi hn => (h.2.2.block i (Nat.lt_of_lt_of_le hi (Nat.le_trans RR.out.1.size hz.size)) hn).trans ((hz.block i (Nat.lt_of_lt_of_le hi RR.out.1.size)).trans (RR.out.1.block i hi hn))⟩, h.2.1⟩
      generalize x.1 = x1 at a0 FC
      generalize x.2 = x2 at a1 FC
      clear cs hx ea eb bw HBP hJ1
      go_upto_region 6 with fail
      go_region_with (first
        | (go_at_call 60; refine Calls.mono (FC.out _ (by go_grown)) ?_; rintro e1 w1 ⟨rfl, hh⟩; have H1 := hidA hh; clear hh))
      all_goals
        go_wp2_with fail
        go_roundg gk
        case measure => omega
        case rel => exact ⟨k + 1, by omega, by go_num, ⟨H1.out.1.os, H1.out.1.tape, H1.out.1.output, H1.out.1.size, H1.out.1.block⟩, H1.out.2⟩
end Go.Proofs.YthglhcabdadlpaaDoor
