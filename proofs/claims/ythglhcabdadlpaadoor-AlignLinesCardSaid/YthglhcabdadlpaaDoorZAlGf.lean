/- Layer 15: the fixed calls of the statements (known). -/
/- Layer 15: many. -/
/- AlignAll. -/
/- Layer 15: the closure of lines. -/
/- Layer 15: the closure of lines, walked. -/
/- Layer 15: lines. -/
/- Layer 15: lines, walked. -/
import Derived.Test.YthglhcabdadlpaaDoorZAlO
import Derived.Test.YthglhcabdadlpaaDoorZAlP
import Derived.Test.YthglhcabdadlpaaDoorZAlBa
import Derived.Test.YthglhcabdadlpaaDoorZAlPn
import Derived.Test.YthglhcabdadlpaaDoorZAlJ
namespace Go.Proofs.YthglhcabdadlpaaDoor
open Go.RowKit
set_option linter.unusedVariables false
set_option linter.unusedSimpArgs false
set_option maxRecDepth 100000
def kA : List Al.Ev := [(1, 1), (1, 2), (3, 0)]
def kB : List Al.Ev := [(1, 2), (3, 0)]
def kL : List Al.Ev := [(1, 0), (2, 1)]
theorem kM6 : Al.prs (Al.mat kA kB 6) = kL := by kernel_rfl
theorem kC6 : Al.cut kA kB 6 = false := by kernel_rfl
theorem kC5 : Al.cut kA kB 5 = true := by kernel_rfl
theorem kR : Al.regs 3 2 kL = ([⟨0, 1, 0, 0⟩], 0) := by kernel_rfl
theorem kP : Al.part kA kB = 0 := by kernel_rfl
theorem kT : Al.tx (1, 1) = [112, 114, 105, 110, 116, 32, 49] := by kernel_rfl
theorem evA3 (w : World) : EvR (w.heap.size + 1) (w.alloc (.cells #[.int .i64 1, .int .i64 1, .int .i64 1, .int .i64 2, .int .i64 3, .int .i64 0] 24)) (some ⟨w.heap.size, 0, none⟩) kA := fun _ => by
  refine ⟨w.heap.size, 0, rfl, Nat.lt_succ_self _, fun j e he => ?_⟩
  rcases j with _ | _ | _ | j
  · simp [kA] at he; subst he; constructor <;> simp
  · simp [kA] at he; subst he; constructor <;> simp
  · simp [kA] at he; subst he; constructor <;> simp
  · simp [kA] at he
theorem evB2 (w : World) : EvR (w.heap.size + 1) (w.alloc (.cells #[.int .i64 1, .int .i64 2, .int .i64 3, .int .i64 0] 24)) (some ⟨w.heap.size, 0, none⟩) kB := fun _ => by
  refine ⟨w.heap.size, 0, rfl, Nat.lt_succ_self _, fun j e he => ?_⟩
  rcases j with _ | _ | j
  · simp [kB] at he; subst he; constructor <;> simp
  · simp [kB] at he; subst he; constructor <;> simp
  · simp [kB] at he
theorem evL2 (w : World) (t : TypeId) : EvR (w.heap.size + 1) (w.alloc (.cells #[.int .i64 1, .int .i64 0, .int .i64 2, .int .i64 1] t)) (some ⟨w.heap.size, 0, none⟩) kL := fun _ => by
  refine ⟨w.heap.size, 0, rfl, Nat.lt_succ_self _, fun j e he => ?_⟩
  rcases j with _ | _ | j
  · simp [kL] at he; subst he; constructor <;> simp
  · simp [kL] at he; subst he; constructor <;> simp
  · simp [kL] at he
/-- One region in its row. -/
theorem oneRg {w : World} {base : Nat} {ty : TypeId} {v : Value} {a b c d : Int} (h : OwG w base ty v [⟨a, b, c, d⟩]) : ∃ g cp, v = .slice (some ⟨g, 0, none⟩) 1 cp ∧ base ≤ g ∧ g < w.heap.size ∧ w.cell? ⟨g, 0, none⟩ = some (.int .i64 a) ∧ w.cell? ⟨g, 1, none⟩ = some (.int .i64 b) ∧ w.cell? ⟨g, 2, none⟩ = some (.int .i64 c) ∧ w.cell? ⟨g, 3, none⟩ = some (.int .i64 d) := by
  have h0 : w.ownsRow base ty 4 v 1 (rgC [⟨a, b, c, d⟩]) := h
  rcases h0.2 with ⟨_, hn⟩ | ⟨g, cap, cur, rfl, hbg, hg, _⟩
  · cases hn
  · have hc := h0.cells (g := g) rfl
    refine ⟨g, cap, rfl, hbg, (Array.getElem?_eq_some_iff.1 hg).1, ?_, ?_, ?_, ?_⟩
    · have := hc 0 _ rfl; rwa [add0A] at this
    · have := hc 1 _ rfl; rwa [add0A] at this
    · have := hc 2 _ rfl; rwa [add0A] at this
    · have := hc 3 _ rfl; rwa [add0A] at this
set_option maxHeartbeats 8000000 in
theorem known15 (w : World) (ht : Tab w) : Calls Tryd.prog 9 #[] w fun e w' => e = .returned (.bool true) ∧ Below w.heap.size w w' := by
  obtain ⟨p, hp⟩ : ∃ p, p = w.heap.size := ⟨_, rfl⟩
  obtain ⟨W1, hW1⟩ : ∃ W1, W1 = w.alloc (.cells #[.int .i64 1, .int .i64 1, .int .i64 1, .int .i64 2, .int .i64 3, .int .i64 0] 24) := ⟨_, rfl⟩
  obtain ⟨q, hq⟩ : ∃ q, q = W1.heap.size := ⟨_, rfl⟩
  obtain ⟨W2, hW2⟩ : ∃ W2, W2 = W1.alloc (.cells #[.int .i64 1, .int .i64 2, .int .i64 3, .int .i64 0] 24) := ⟨_, rfl⟩
  have hqp : q = p + 1 := by rw [hq, hW1, hp]; simp
  have b1 : Below p w W1 := by rw [hW1, hp]; exact (Below.refl _ _).alloc (Nat.le_refl _) _
  have b2 : Below q W1 W2 := by rw [hW2, hq]; exact (Below.refl _ _).alloc (Nat.le_refl _) _
  have s2 : W2.heap.size = q + 1 := by rw [hW2, hq]; simp
  have EA : Hid (EvR (q + 1) W2 (some ⟨p, 0, none⟩) kA) := by
    have h : EvR (p + 1) W1 (some ⟨p, 0, none⟩) kA := by rw [hW1, hp]; exact evA3 w
    exact (h.later b2 (by rw [hqp]; exact Nat.le_refl _)).mono (by omega)
  have EB : Hid (EvR (q + 1) W2 (some ⟨q, 0, none⟩) kB) := by rw [hW2, hq]; exact evB2 W1
  have BW : Hid (Below p w W2) := b1.trans (b2.mono (by omega))
  have HS : Hid (q + 1 ≤ W2.heap.size ∧ q = p + 1 ∧ p = w.heap.size) := ⟨by rw [s2]; exact Nat.le_refl _, hqp, hp⟩
  have HT : Hid (∀ wz, Below p w wz → Tab wz) := fun wz hz => ht.later hz (by rw [hp]; exact Nat.le_refl _)
  have CP : Hid (W2.cell? ⟨p, 0, none⟩ = some (.int .i64 1) ∧ W2.cell? ⟨p, 1, none⟩ = some (.int .i64 1) ∧ p < W2.heap.size) := by
    obtain ⟨g, o, e, _, h⟩ := EA.out (by decide)
    cases e
    exact ⟨(h 0 (1, 1) rfl).1, (h 0 (1, 1) rfl).2, by omega⟩
  rw [show Below w.heap.size = Below p from by rw [hp]]
  clear ht b1 b2 s2 hqp
  go_enter Tryd.func9, Tryd.ntmps9
  go_upto_region 3 with fail
  rw [← hp, ← hW1, ← hW2, ← HS.out.2.1]
  clear hp hW1 hq hW2
  go_wp2_with fail
  have M1 := match_any W2 (some ⟨p, 0, none⟩) (some ⟨q, 0, none⟩) 3 2 kA kB 6 EA.out EB.out HS.out.1 (by decide) (by decide) (by decide) (by decide) (by decide) (by decide)
  rw [kC6, kM6] at M1
  have MM := hidA M1
  clear M1
  refine MM.out.mono ?_
  rintro e w3 ⟨v1, rfl, o1, b3⟩
  obtain ⟨a1, c1, rfl, e1, -⟩ := o1.ev
  have E1 := hidA e1
  have B3 : Hid (Below W2.heap.size W2 w3) := b3
  clear MM o1 e1 b3
  have M2 := match_any w3 (some ⟨p, 0, none⟩) (some ⟨q, 0, none⟩) 3 2 kA kB 5 (EA.out.later B3.out HS.out.1) (EB.out.later B3.out HS.out.1) (Nat.le_trans HS.out.1 B3.out.size) (by decide) (by decide) (by decide) (by decide) (by decide) (by decide)
  rw [kC5] at M2
  have MM := hidA M2
  clear M2
  go_wp2_with fail
  refine MM.out.mono ?_
  rintro e w4 ⟨v2, rfl, o2, b4⟩
  have B4 : Hid (Below w3.heap.size w3 w4) := b4
  clear MM o2 b4
  have R1 := regions_any w4 a1 c1 kL 3 2 (E1.out.later B4.out (Nat.le_refl _)) B4.out.size (by decide) (by decide) (by decide)
  unfold RsQ at R1
  rw [kR] at R1
  have RR := hidA R1
  clear R1
  go_wp2_with fail
  refine RR.out.mono ?_
  rintro e w5 ⟨v3, rfl, o3, b5⟩
  obtain ⟨g, cp, rfl, hg1, hg2, z0, z1, z2, z3⟩ := oneRg o3
  have B5 : Hid (Below w4.heap.size w4 w5 ∧ w4.heap.size ≤ g ∧ g < w5.heap.size) := ⟨b5, hg1, hg2⟩
  have Z1 := hidA z1
  have Z3 := hidA z3
  have B25 : Hid (Below W2.heap.size W2 w5) := B3.out.trans ((B4.out.mono B3.out.size).trans (b5.mono (Nat.le_trans B3.out.size B4.out.size)))
  clear RR o3 b5 hg1 hg2 z0 z1 z2 z3
  have P1 := part_any w5 (some ⟨p, 0, none⟩) (some ⟨q, 0, none⟩) 3 2 kA kB (EA.out.later B25.out HS.out.1) (EB.out.later B25.out HS.out.1) (Nat.le_trans HS.out.1 B25.out.size) (by decide) (by decide)
  rw [kP] at P1
  have PP := hidA P1
  clear P1
  go_wp2_with fail
  refine PP.out.mono ?_
  rintro e w6 ⟨rfl, b6⟩
  have B6 : Hid (Below w5.heap.size w5 w6) := b6
  clear PP b6
  have PR := hidA (pairs_any w6 a1 c1 kL ((E1.out.later B4.out (Nat.le_refl _)).later (B5.out.1.trans (B6.out.mono B5.out.1.size)) B4.out.size) (Nat.le_trans B4.out.size (Nat.le_trans B5.out.1.size B6.out.size)) (by decide))
  go_wp2_with fail
  refine PR.out.mono ?_
  rintro e w7 ⟨v4, rfl, o4, b7⟩
  obtain ⟨a4, c4, rfl, e4, -⟩ := o4.ev
  have E4 := hidA e4
  have B7 : Hid (Below w6.heap.size w6 w7) := b7
  clear PR o4 e4 b7
  have SP0 := sameP_any (w7.alloc (.cells #[.int .i64 1, .int .i64 0, .int .i64 2, .int .i64 1] 66)) a4 (some ⟨w7.heap.size, 0, none⟩) c4 2 kL kL (B := w7.heap.size + 1) ((E4.out.later ((Below.refl w7.heap.size w7).alloc (Nat.le_refl _) _) (Nat.le_refl _)).mono (Nat.le_succ _)) (evL2 w7 _) (by simp) (by decide) (by decide)
  rw [show decide (kL = kL) = true from decide_eq_true rfl] at SP0
  have SP := hidA SP0
  clear SP0
  go_wp2_with fail
  refine SP.out.mono ?_
  rintro e w9 ⟨rfl, b9⟩
  have B79 : Below w7.heap.size w7 w9 := ((Below.refl w7.heap.size w7).alloc (Nat.le_refl _) _).trans (b9.mono (by simp))
  have B59 : Below w5.heap.size w5 w9 := B6.out.trans ((B7.out.trans (B79.mono B7.out.size)).mono B6.out.size)
  have B29 : Hid (Below W2.heap.size W2 w9) := B25.out.trans (B59.mono B25.out.size)
  have z1 := (B59.cell (p := ⟨g, 1, none⟩) B5.out.2.2).trans Z1.out
  have z3 := (B59.cell (p := ⟨g, 3, none⟩) B5.out.2.2).trans Z3.out
  have y0 := (B29.out.cell (p := ⟨p, 0, none⟩) CP.out.2.2).trans CP.out.1
  have y1 := (B29.out.cell (p := ⟨p, 1, none⟩) CP.out.2.2).trans CP.out.2.1
  have BP9 : Hid (Below p w w9) := BW.out.trans (B29.out.mono (by have := HS.out; omega))
  have TT0 := tex_any w9 (1, 1) (HT.out w9 BP9.out) (by constructor <;> decide) (by constructor <;> decide)
  unfold TxQ at TT0
  rw [kT] at TT0
  have TT := hidA TT0
  have PW : Hid (p ≤ w9.heap.size) := by have := BP9.out.size; have := HS.out; unfold Hid; omega
  clear TT0 b9 B79 B59 SP
  go_wp2_with fail
  refine TT.out.mono ?_
  rintro e w10 ⟨rfl, b10⟩
  have FIN : Hid (Below p w w10) := BP9.out.trans (b10.mono PW.out)
  clear b10
  go_wp2_with fail
  go_ret
  exact ⟨rfl, FIN.out⟩
end Go.Proofs.YthglhcabdadlpaaDoor

namespace Go.Proofs.YthglhcabdadlpaaDoor
open Go.RowKit
set_option linter.unusedVariables false
set_option linter.unusedSimpArgs false
set_option maxRecDepth 100000
set_option maxHeartbeats 2000000 in
theorem many_any15 (w : World) (a b : Option Addr) (n m ca cb : Nat) : Calls Tryd.prog 14 #[.slice a n ca, .slice b m cb] w fun e w' => e = .returned (.bool (decide (24 < n) || decide (24 < m))) ∧ w' = w := by
  by_cases c1 : 24 < n
  · have d1 : decide ((24 : Int) < (n : Int)) = true := decide_eq_true (by omega)
    rw [decide_eq_true c1, Bool.true_or]
    clear c1
    go_enter Tryd.func14, Tryd.ntmps14
    go_wp2_with fail
    go_ret
    exact ⟨rfl, rfl⟩
  · have d1 : decide ((24 : Int) < (n : Int)) = false := decide_eq_false (by omega)
    rw [decide_eq_false c1, Bool.false_or]
    clear c1
    by_cases c2 : 24 < m
    · have d2 : decide ((24 : Int) < (m : Int)) = true := decide_eq_true (by omega)
      rw [decide_eq_true c2]
      clear c2
      go_enter Tryd.func14, Tryd.ntmps14
      go_wp2_with fail
      go_ret
      exact ⟨rfl, rfl⟩
    · have d2 : decide ((24 : Int) < (m : Int)) = false := decide_eq_false (by omega)
      rw [decide_eq_false c2]
      clear c2
      go_enter Tryd.func14, Tryd.ntmps14
      go_wp2_with fail
      go_ret
      exact ⟨rfl, rfl⟩
end Go.Proofs.YthglhcabdadlpaaDoor

namespace Go.Proofs.YthglhcabdadlpaaDoor
open Go.RowKit
set_option linter.unusedVariables false
set_option linter.unusedSimpArgs false
set_option maxRecDepth 100000
/-- Numbers in a block. -/
def NB (w : World) (g n : Nat) (f : Nat → Nat) : Prop := g < w.heap.size ∧ ∀ j, j < n → w.cell? ⟨g, j, none⟩ = some (.int .i64 (f j : Nat)) ∧ w.frozen? ⟨g, j, none⟩ = false
theorem NB.congr {w : World} {g n : Nat} {f f' : Nat → Nat} (h : NB w g n f) (e : ∀ j, j < n → f j = f' j) : NB w g n f' := ⟨h.1, fun j hj => by rw [← e j hj]; exact h.2 j hj⟩
theorem NB.set {w : World} {g n j0 v : Nat} {f : Nat → Nat} (h : NB w g n f) (hj0 : j0 < n) : NB (w.setCell ⟨g, j0, none⟩ (.int .i64 (v : Nat))) g n (fun j => if j = j0 then v else f j) := by
  refine ⟨by have := h.1; simpa using this, fun j hj => ⟨?_, ?_⟩⟩
  · by_cases c : j = j0
    · subst c
      show _ = some (Value.int .i64 ((if j = j then v else f j : Nat) : Int))
      rw [if_pos rfl]
      exact World.cell?_setCell_same _ _ _ (h.2 j hj).1
    · show _ = some (Value.int .i64 ((if j = j0 then v else f j : Nat) : Int))
      rw [if_neg c, World.cell?_setCell_other]
      · exact (h.2 j hj).1
      · intro e; exact c (congrArg Addr.off e).symm
  · rw [World.frozen?_setCell]
    exact (h.2 j hj).2
theorem NB.other {w : World} {g n p : Nat} {f : Nat → Nat} (h : NB w g n f) (hp : p ≠ g) (c : Nat) (v : Value) : NB (w.setCell ⟨p, c, none⟩ v) g n f := by
  refine ⟨by have := h.1; simpa using this, fun j hj => ⟨?_, ?_⟩⟩
  · rw [World.cell?_setCell_other]
    · exact (h.2 j hj).1
    · intro e; exact hp (congrArg Addr.block e)
  · rw [World.frozen?_setCell]
    exact (h.2 j hj).2
theorem NB.made (w : World) (N : Nat) : NB (w.alloc (.cells (madeCells (Value.int .i64 0).cells (N * 1)) 3)) w.heap.size N (fun _ => 0) := by
  have hb : (w.alloc (.cells (madeCells (Value.int .i64 0).cells (N * 1)) 3)).heap[w.heap.size]? = some (.cells (madeCells (Value.int .i64 0).cells (N * 1)) 3 (0, 0)) := Array.getElem?_push_size
  refine ⟨by simp, fun j hj => ⟨?_, ?_⟩⟩
  · simp only [World.cell?, hb]
    simp [madeCells, Value.cells, hj, Nat.mod_one]
  · simp only [World.frozen?, hb]
    simp
theorem NB.later {B g n : Nat} {w w' : World} {f : Nat → Nat} (h : NB w g n f) (b : Below B w w') (hg : g < B) : NB w' g n f :=
  ⟨Nat.lt_of_lt_of_le h.1 b.size, fun j hj => ⟨(b.cell (p := ⟨g, _, none⟩) hg).trans (h.2 j hj).1, (b.frozen (p := ⟨g, _, none⟩) hg).trans (h.2 j hj).2⟩⟩
/-- Where the cells of regions lie. -/
def RgAt (w : World) (a : Option Addr) (l : List Al.Rg) : Prop := 0 < l.length → ∃ g, a = some ⟨g, 0, none⟩ ∧ g < w.heap.size ∧ ∀ k r, l[k]? = some r → w.cell? ⟨g, k * 4, none⟩ = some (.int .i64 r.fa) ∧ w.cell? ⟨g, k * 4 + 1, none⟩ = some (.int .i64 r.ta) ∧ w.cell? ⟨g, k * 4 + 2, none⟩ = some (.int .i64 r.fb) ∧ w.cell? ⟨g, k * 4 + 3, none⟩ = some (.int .i64 r.tb)
theorem rgC_get : ∀ {l : List Al.Rg} {k : Nat} {r : Al.Rg}, l[k]? = some r → (rgC l)[k * 4]? = some (.int .i64 r.fa) ∧ (rgC l)[k * 4 + 1]? = some (.int .i64 r.ta) ∧ (rgC l)[k * 4 + 2]? = some (.int .i64 r.fb) ∧ (rgC l)[k * 4 + 3]? = some (.int .i64 r.tb)
  | [], k, r, h => by simp at h
  | x :: l, 0, r, h => by simp at h; subst h; exact ⟨rfl, rfl, rfl, rfl⟩
  | x :: l, k + 1, r, h => by
    have ih := rgC_get (l := l) (k := k) (r := r) (by simpa using h)
    have e : rgC (x :: l) = .int .i64 x.fa :: .int .i64 x.ta :: .int .i64 x.fb :: .int .i64 x.tb :: rgC l := rfl
    rw [e, show (k + 1) * 4 = k * 4 + 1 + 1 + 1 + 1 from by omega]
    exact ⟨by simpa using ih.1, by simpa using ih.2.1, by simpa using ih.2.2.1, by simpa using ih.2.2.2⟩
theorem OwG.at {w : World} {base : Nat} {ty : TypeId} {v : Value} {l : List Al.Rg} (h : OwG w base ty v l) : ∃ a c, v = .slice a l.length c ∧ RgAt w a l := by
  have h0 : w.ownsRow base ty 4 v l.length (rgC l) := h
  rcases h0.2 with ⟨rfl, hn⟩ | ⟨g, cap, cur, rfl, hbg, hg, _⟩
  · exact ⟨none, 0, by rw [hn], fun h => by omega⟩
  · have hc := h0.cells (g := g) rfl
    refine ⟨_, cap, rfl, fun _ => ⟨g, rfl, (Array.getElem?_eq_some_iff.1 hg).1, fun k r hk => ?_⟩⟩
    obtain ⟨c0, c1, c2, c3⟩ := rgC_get hk
    refine ⟨?_, ?_, ?_, ?_⟩
    · have := hc _ _ c0; rwa [add0A] at this
    · have := hc _ _ c1; rwa [add0A] at this
    · have := hc _ _ c2; rwa [add0A] at this
    · have := hc _ _ c3; rwa [add0A] at this
namespace Al
theorem cntP_take {l : List Ev} {k A B : Nat} (h : l[k]? = some ((A : Int), (B : Int))) (j : Nat) : cntP (l.take (k + 1)) (j : Int) = if j = A then cntP (l.take k) (A : Int) + 1 else cntP (l.take k) (j : Int) := by
  have e : l.take (k + 1) = l.take k ++ [((A : Int), (B : Int))] := by rw [List.take_add_one, h]; rfl
  rw [e]
  unfold cntP
  rw [List.countP_append]
  by_cases c : j = A
  · subst c; simp
  · rw [if_neg c]
    have : ¬ (A : Int) = (j : Int) := by omega
    simp [this]
theorem cntQ_take {l : List Ev} {k A B : Nat} (h : l[k]? = some ((A : Int), (B : Int))) (j : Nat) : cntQ (l.take (k + 1)) (j : Int) = if j = B then cntQ (l.take k) (B : Int) + 1 else cntQ (l.take k) (j : Int) := by
  have e : l.take (k + 1) = l.take k ++ [((A : Int), (B : Int))] := by rw [List.take_add_one, h]; rfl
  rw [e]
  unfold cntQ
  rw [List.countP_append]
  by_cases c : j = B
  · subst c; simp
  · rw [if_neg c]
    have : ¬ (B : Int) = (j : Int) := by omega
    simp [this]
/-- Counts of the pairs and of the first regions, and of a part of the next. -/
def upA (Z : List Ev) (R : List Rg) (k : Nat) (fa cur : Nat) (j : Nat) : Nat := cntP Z (j : Int) + cntA (R.take k) (j : Int) + if fa ≤ j ∧ j < cur then 1 else 0
def upB (Z : List Ev) (R : List Rg) (k : Nat) (fa cur : Nat) (j : Nat) : Nat := cntQ Z (j : Int) + cntB (R.take k) (j : Int) + if fa ≤ j ∧ j < cur then 1 else 0
theorem upA_step {Z : List Ev} {R : List Rg} {k fa cur : Nat} (h : fa ≤ cur) (j : Nat) : upA Z R k fa (cur + 1) j = if j = cur then upA Z R k fa cur cur + 1 else upA Z R k fa cur j := by
  unfold upA
  by_cases c : j = cur
  · subst c
    rw [if_pos rfl, if_pos ⟨h, Nat.lt_succ_self _⟩, if_neg (fun h => absurd h.2 (Nat.lt_irrefl _))]
  · rw [if_neg c]
    by_cases d : fa ≤ j ∧ j < cur
    · rw [if_pos d, if_pos ⟨d.1, Nat.lt_succ_of_lt d.2⟩]
    · rw [if_neg d, if_neg (fun h => d ⟨h.1, by omega⟩)]
theorem upB_step {Z : List Ev} {R : List Rg} {k fa cur : Nat} (h : fa ≤ cur) (j : Nat) : upB Z R k fa (cur + 1) j = if j = cur then upB Z R k fa cur cur + 1 else upB Z R k fa cur j := by
  unfold upB
  by_cases c : j = cur
  · subst c
    rw [if_pos rfl, if_pos ⟨h, Nat.lt_succ_self _⟩, if_neg (fun h => absurd h.2 (Nat.lt_irrefl _))]
  · rw [if_neg c]
    by_cases d : fa ≤ j ∧ j < cur
    · rw [if_pos d, if_pos ⟨d.1, Nat.lt_succ_of_lt d.2⟩]
    · rw [if_neg d, if_neg (fun h => d ⟨h.1, by omega⟩)]
theorem upA_zero (Z : List Ev) (R : List Rg) (k f j : Nat) : upA Z R k f f j = cntP Z (j : Int) + cntA (R.take k) (j : Int) := by
  unfold upA
  rw [if_neg (fun h => by omega)]
  rfl
theorem upB_zero (Z : List Ev) (R : List Rg) (k f j : Nat) : upB Z R k f f j = cntQ Z (j : Int) + cntB (R.take k) (j : Int) := by
  unfold upB
  rw [if_neg (fun h => by omega)]
  rfl
theorem upA_end {Z : List Ev} {R : List Rg} {k fa ta : Nat} {r : Rg} (h : R[k]? = some r) (h1 : r.fa = fa) (h2 : r.ta = ta) (j : Nat) : upA Z R k fa ta j = cntP Z (j : Int) + cntA (R.take (k + 1)) (j : Int) := by
  have e : R.take (k + 1) = R.take k ++ [r] := by rw [List.take_add_one, h]; rfl
  rw [e]
  unfold upA cntA
  rw [List.countP_append]
  by_cases c : fa ≤ j ∧ j < ta
  · rw [if_pos c]
    have : r.fa ≤ (j : Int) ∧ (j : Int) < r.ta := by omega
    simp [this]
    omega
  · rw [if_neg c]
    have : ¬ (r.fa ≤ (j : Int) ∧ (j : Int) < r.ta) := by omega
    have d : decide (r.fa ≤ (j : Int) ∧ (j : Int) < r.ta) = false := decide_eq_false this
    simp only [List.countP_cons, List.countP_nil, d]
    rfl
theorem upB_end {Z : List Ev} {R : List Rg} {k fb tb : Nat} {r : Rg} (h : R[k]? = some r) (h1 : r.fb = fb) (h2 : r.tb = tb) (j : Nat) : upB Z R k fb tb j = cntQ Z (j : Int) + cntB (R.take (k + 1)) (j : Int) := by
  have e : R.take (k + 1) = R.take k ++ [r] := by rw [List.take_add_one, h]; rfl
  rw [e]
  unfold upB cntB
  rw [List.countP_append]
  by_cases c : fb ≤ j ∧ j < tb
  · rw [if_pos c]
    have : r.fb ≤ (j : Int) ∧ (j : Int) < r.tb := by omega
    simp [this]
    omega
  · rw [if_neg c]
    have : ¬ (r.fb ≤ (j : Int) ∧ (j : Int) < r.tb) := by omega
    have d : decide (r.fb ≤ (j : Int) ∧ (j : Int) < r.tb) = false := decide_eq_false this
    simp only [List.countP_cons, List.countP_nil, d]
    rfl
/-- A region's numbers. -/
theorem gaps_at {l m : List Ev} {L : Int} {k : Nat} (hk : k < (gaps l.length m.length 0 0 (prs (mat l m L))).length) : ∃ (r : Rg) (fa ta fb tb : Nat), (gaps l.length m.length 0 0 (prs (mat l m L)))[k]? = some r ∧ r.fa = fa ∧ r.ta = ta ∧ r.fb = fb ∧ r.tb = tb ∧ fa ≤ ta ∧ ta ≤ l.length ∧ fb ≤ tb ∧ tb ≤ m.length := by
  obtain ⟨r, hr⟩ : ∃ r, (gaps l.length m.length 0 0 (prs (mat l m L)))[k]? = some r := ⟨_, List.getElem?_eq_getElem hk⟩
  have h := gaps_in (n := l.length) (m := m.length) (-1, -1) (prs (mat l m L)) (mat_rise l m L) (by decide) (by decide) (.inr ⟨rfl, by omega⟩) (.inr ⟨rfl, by omega⟩) r (List.mem_of_getElem? hr)
  exact ⟨r, r.fa.toNat, r.ta.toNat, r.fb.toNat, r.tb.toNat, hr, by omega, by omega, by omega, by omega, by omega, by omega, by omega, by omega⟩
theorem all_A {l m : List Ev} {L : Int} {j : Nat} (hj : j < l.length) : cntP (prs (mat l m L)) (j : Int) + cntA (gaps l.length m.length 0 0 (prs (mat l m L))) (j : Int) = 1 := by
  have h := cnt_A (n := l.length) (m := m.length) (-1, -1) (prs (mat l m L)) (j : Int) (mat_rise l m L) (by omega)
  rw [if_pos (by simp only; omega)] at h
  exact h
theorem all_B {l m : List Ev} {L : Int} {j : Nat} (hj : j < m.length) : cntQ (prs (mat l m L)) (j : Int) + cntB (gaps l.length m.length 0 0 (prs (mat l m L))) (j : Int) = 1 := by
  have h := cnt_B (n := l.length) (m := m.length) (-1, -1) (prs (mat l m L)) (j : Int) (mat_rise l m L) (by omega)
  rw [if_pos (by simp only; omega)] at h
  exact h
theorem cnt_le (Z : List Ev) (R : List Rg) (k f c j : Nat) : upA Z R k f c j ≤ Z.length + R.length + 1 ∧ upB Z R k f c j ≤ Z.length + R.length + 1 ∧ cntP Z j ≤ Z.length ∧ cntQ Z j ≤ Z.length := by
  have h1 : cntP Z (j : Int) ≤ Z.length := List.countP_le_length
  have h2 : cntQ Z (j : Int) ≤ Z.length := List.countP_le_length
  have h3 : cntA (R.take k) (j : Int) ≤ R.length := Nat.le_trans List.countP_le_length (List.length_take_le' _ _)
  have h4 : cntB (R.take k) (j : Int) ≤ R.length := Nat.le_trans List.countP_le_length (List.length_take_le' _ _)
  unfold upA upB
  refine ⟨?_, ?_, h1, h2⟩ <;> split <;> omega
theorem gaps_len (n m : Int) : ∀ (fa fb : Int) (l : List Ev), (gaps n m fa fb l).length ≤ l.length + 1
  | fa, fb, [] => by simp only [gaps, one]; split <;> simp
  | fa, fb, p :: l => by
    simp only [gaps, one, List.length_append, List.length_cons]
    have := gaps_len n m (p.1 + 1) (p.2 + 1) l
    split <;> simp <;> omega
end Al
end Go.Proofs.YthglhcabdadlpaaDoor

namespace Go.Proofs.YthglhcabdadlpaaDoor
open Go.RowKit
set_option linter.unusedVariables false
set_option linter.unusedSimpArgs false
set_option maxRecDepth 100000
theorem wp_app1S {P : Program} {V : World} {o : Oper} {a : Act} {K : Act → World → Prop} {Q : Exit → Act → World → Prop} (W7 : World) (s x : Operand) (t : TypeId)
    (ho : o.op = .call { callee := .builtin .append, args := #[s, x], argTypes := #[t, t] })
    (base : Nat) (e : TypeId) (i : TypeInfo) (z : Value) (bytes : Nat) (ht : P.underlying t = some (.slice e)) (hi : P.info? e = some i) (hz : i.zero = some z)
    (hsize : i.size = 1) (hby : i.bytes = bytes) (hzs : z.cells.size = 1)
    (v : Value) (n : Nat) (xs : List Value) (hs : a.eval s = v) (hown : W7.ownsRow base e 1 v n xs) (u1 : Value)
    (hV : V.os = W7.os ∧ V.tape = W7.tape ∧ V.output = W7.output ∧ V.heap = (W7.alloc (.cells #[u1] e)).heap)
    (hx : a.eval x = .slice (some ⟨W7.heap.size, 0, none⟩) 1 1) (h1 : ∀ u ∈ [u1], u.oneCell' = true)
    (h63 : n + 1 ≤ maxLen) (hbytes : (n + 1) * bytes ≤ 140737488355328) (hbase : base ≤ W7.heap.size)
    (h : ∀ v' w', w'.ownsRow base e 1 v' (n + 1) (xs ++ [u1]) → (W7.alloc (.cells #[u1] e)).grownBy w' v.ownBlock → (v'.ownBlock = v.ownBlock ∨ ∃ g, v'.ownBlock = some g ∧ W7.heap.size + 1 ≤ g) → K (a.put o.dst v') w') : o.wp P a V K Q := by
  obtain ⟨V1, V2, V3, V4⟩ := hV
  have hb : Below W7.heap.size W7 V := ⟨V1, V2, V3, by rw [V4]; simp, fun k hk => by rw [V4]; exact ((Below.refl W7.heap.size W7).alloc (Nat.le_refl _) _).block k hk⟩
  have hsz : V.heap.size = W7.heap.size + 1 := by rw [V4]; simp
  refine wp_append_tolA s x t ho base e i z 1 bytes ht hi hz hsize hby hzs (by decide) v n xs hs (ownA hown hb) ⟨W7.heap.size, 0, none⟩ 1 1 [u1] hx rfl (fun j y hj => ?_) h1 h63 hbytes (by omega) (by decide) ?_
  · have := one1A W7 u1 e j y hj
    simp only [World.cell?] at this ⊢
    rw [V4]
    exact this
  · intro v8 w8 h8 g8 o8
    rw [hsz] at o8
    exact h v8 w8 h8 ⟨g8.os.trans V1, g8.tape.trans V2, g8.output.trans V3, by have := g8.size; rw [V4] at this; exact this, fun k hk hn => by rw [← V4]; exact g8.block k (by rw [V4]; exact hk) hn⟩ o8
/-- The lines so far in their box. -/
structure LnR (w : World) (p : Nat) (v : Value) (acc : List ByteArray) (wr : World) : Prop where
  b : Below p w wr
  all : wr.heap[p]? = some (.cells #[v] 56 (0, 0))
  row : OwnS wr (p + 1) v acc
theorem LnR.lt {w wr : World} {p : Nat} {v : Value} {acc : List ByteArray} (h : LnR w p v acc wr) : p < wr.heap.size := (Array.getElem?_eq_some_iff.1 h.all).1
theorem LnR.later {w wr w2 : World} {p : Nat} {v : Value} {acc : List ByteArray} (h : LnR w p v acc wr) (b : Below wr.heap.size wr w2) : LnR w p v acc w2 :=
  ⟨h.b.trans (b.mono (Nat.le_of_lt h.lt)), (b.block p h.lt).trans h.all, ownA (show wr.ownsRow (p + 1) 9 1 v acc.length (acc.map Value.string) from h.row) b⟩
/-- All that is not the box of lines, or the row itself, stands; where the row lies. -/
def PutF (p : Nat) (wr : World) (v v' : Value) (w' : World) : Prop := (∀ x, x < wr.heap.size → x ≠ p → some x ≠ v.ownBlock → w'.heap[x]? = wr.heap[x]?) ∧ (v'.ownBlock = v.ownBlock ∨ ∃ g, v'.ownBlock = some g ∧ wr.heap.size ≤ g) ∧ wr.heap.size ≤ w'.heap.size
theorem PutF.refl (p : Nat) (wr : World) (v : Value) : PutF p wr v v wr := ⟨fun _ _ _ _ => rfl, .inl rfl, Nat.le_refl _⟩
theorem PutF.trans {p : Nat} {w1 w2 w3 : World} {v1 v2 v3 : Value} (h : PutF p w1 v1 v2 w2) (k : PutF p w2 v2 v3 w3) : PutF p w1 v1 v3 w3 := by
  refine ⟨fun x hx hp hn => ?_, ?_, Nat.le_trans h.2.2 k.2.2⟩
  · refine (k.1 x (Nat.lt_of_lt_of_le hx h.2.2) hp (fun e => ?_)).trans (h.1 x hx hp hn)
    rcases h.2.1 with h2 | ⟨g, h2, h3⟩
    · exact hn (e.trans h2)
    · rw [h2] at e; cases e; omega
  · rcases k.2.1 with k2 | ⟨g, k2, k3⟩
    · rcases h.2.1 with h2 | ⟨g, h2, h3⟩
      · exact .inl (k2.trans h2)
      · exact .inr ⟨g, k2.trans h2, h3⟩
    · exact .inr ⟨g, k2, Nat.le_trans h.2.2 k3⟩
theorem PutF.of {p : Nat} {w1 w2 : World} {v : Value} (b : Below w1.heap.size w1 w2) : PutF p w1 v v w2 := ⟨fun x hx _ _ => b.block x hx, .inl rfl, b.size⟩
/-- One line more. -/
theorem LnR.grow {w wr w8 : World} {p : Nat} {v v8 : Value} {acc : List ByteArray} {o : Obj} {s : ByteArray} (h : LnR w p v acc wr) (h8 : w8.ownsRow (p + 1) 9 1 v8 (acc.length + 1) (acc.map Value.string ++ [.string s])) (g8 : (wr.alloc o).grownBy w8 v.ownBlock) (o8 : v8.ownBlock = v.ownBlock ∨ ∃ g, v8.ownBlock = some g ∧ wr.heap.size + 1 ≤ g) :
    (w8.cell? ⟨p, 0, none⟩ = some v ∧ w8.frozen? ⟨p, 0, none⟩ = false) ∧ LnR w p v8 (acc ++ [s]) (w8.setCell ⟨p, 0, none⟩ v8) ∧ PutF p wr v v8 (w8.setCell ⟨p, 0, none⟩ v8) := by
  have hl := h.lt
  have ow : wr.ownsRow (p + 1) 9 1 v acc.length (acc.map Value.string) := h.row
  have hk : ∀ x, x < wr.heap.size → some x ≠ v.ownBlock → w8.heap[x]? = wr.heap[x]? := fun x hx hn =>
    (g8.block x (by simp; omega) hn).trans (((Below.refl wr.heap.size wr).alloc (Nat.le_refl _) o).block x hx)
  have np : some p ≠ v.ownBlock := fun e => by have := (World.ownsRow.lt ow _ e.symm).1; omega
  have bp : w8.heap[p]? = some (.cells #[v] 56 (0, 0)) := (hk p hl np).trans h.all
  have sz : wr.heap.size ≤ w8.heap.size := by have := g8.size; simp at this; omega
  refine ⟨box1 bp, ⟨?_, heap_setCell_same w8 p 0 _ _ v8 bp, ?_⟩, fun x hx hp hn => ?_, ?_, by simpa using sz⟩
  · exact below_set (h.b.trans ⟨g8.os, g8.tape, g8.output, sz, fun x hx => hk x (by omega) (fun e => by have := (World.ownsRow.lt ow _ e.symm).1; omega)⟩) (Nat.le_refl _) _
  · refine ownsRow_setCell_below (a := ⟨p, 0, none⟩) ?_ (Nat.lt_succ_self p) v8
    rw [List.length_append, List.map_append]
    exact h8
  · rw [heap_setCell_other _ _ x _ (by simpa using hp)]
    exact hk x hx hn
  · rcases o8 with e | ⟨g, e, hg⟩
    · exact .inl e
    · exact .inr ⟨g, e, by omega⟩
theorem own63S {k : Nat} (h : k ≤ 1000) : k + 1 ≤ maxLen ∧ (k + 1) * 16 ≤ 140737488355328 := by unfold maxLen; omega
theorem tx_len (x : Al.Ev) (h1 : Al.R64 x.1) (h2 : Al.R64 x.2) : (Al.tx x).length ≤ 1000 := by
  have a1 := itA x.1 h1
  have a2 := itA x.2 h2
  unfold Al.tx
  (repeat' split) <;> simp [Al.wPrint, Al.wRead, Al.wEnd, Al.wTrap, Al.wFuel, Al.wEvent] <;> omega
theorem ln_eq (s : UInt8) (x : Al.Ev) : ((⟨#[s]⟩ : ByteArray) ++ ⟨#[32]⟩ ++ ⟨(Al.tx x).toArray⟩ : ByteArray) = Al.ln s x := by
  apply ByteArray.ext
  unfold Al.ln
  simp
end Go.Proofs.YthglhcabdadlpaaDoor

namespace Go.Proofs.YthglhcabdadlpaaDoor
open Go.RowKit
set_option linter.unusedVariables false
set_option linter.unusedSimpArgs false
set_option maxRecDepth 100000
theorem infoStrA : ∃ i, Tryd.prog.info? 9 = some i ∧ i.zero = some (.string ⟨#[]⟩) ∧ i.size = 1 ∧ i.bytes = 16 := infoP _ _ _ _ _ (by kernel_rfl)
theorem sizeLn {s : UInt8} {l : List UInt8} (h : l.length ≤ 1000) : ((⟨#[s]⟩ : ByteArray) ++ ⟨#[32]⟩ : ByteArray).size ≤ 3000 ∧ ((⟨#[s]⟩ : ByteArray) ++ ⟨#[32]⟩ ++ ⟨l.toArray⟩ : ByteArray).size ≤ 3000 := by
  have h1 : (⟨#[s]⟩ : ByteArray).size = 1 := rfl
  have h2 : (⟨#[32]⟩ : ByteArray).size = 1 := rfl
  have h3 := sizeA l
  constructor
  · rw [ByteArray.size_append, h1, h2]; omega
  · rw [ByteArray.size_append, ByteArray.size_append, h1, h2, h3]; omega
set_option maxHeartbeats 4000000 in
theorem put_any (w wr W : World) (p : Nat) (v : Value) (acc : List ByteArray) (s : UInt8) (E : List Al.Ev) (A : Option Addr) (c : Nat) {B : Nat} (h : LnR w p v acc wr) (hW : Tab W) (bW : Below W.heap.size W wr) (hWp : W.heap.size ≤ p) (hE : EvR B wr A E) (hBp : B ≤ p) (hl : acc.length + E.length ≤ 1000) (hR : ∀ x ∈ E, Al.R64 x.1 ∧ Al.R64 x.2) :
    Calls Tryd.prog 54 #[.string ⟨#[s]⟩, .slice A E.length c, .pointer (some ⟨p, 0, none⟩)] wr fun e w' => e = .returned (.tuple #[]) ∧ ∃ v', LnR w p v' (acc ++ E.map (Al.ln s)) w' ∧ PutF p wr v v' w' := by
  obtain ⟨i0, hi, zi0, zi1, zi2⟩ := infoStrA
  have HE := hidA hE
  obtain ⟨Wi, hWi⟩ : ∃ Wi, Wi = wr := ⟨_, rfl⟩
  have HBP : Hid (∀ v' acc' wz, LnR w p v' acc' wz → PutF p Wi v v' wz → Below p Wi wz) := fun v' acc' wz h1 h2 => by
    have b1 := h.b
    have b2 := h1.b
    rw [hWi]
    refine ⟨b2.os.trans b1.os.symm, b2.tape.trans b1.tape.symm, b2.output.trans b1.output.symm, by have := h2.2.2; rw [hWi] at this; exact this, fun x hx => ?_⟩
    have hv : some x ≠ v.ownBlock := fun e => by have := (World.ownsRow.lt (show wr.ownsRow (p + 1) 9 1 v acc.length (acc.map Value.string) from h.row) _ e.symm).1; omega
    have := h2.1 x (by rw [hWi]; exact Nat.lt_trans hx h.lt) (by omega) hv
    rw [hWi] at this
    exact this
  have HTX : Hid (∀ wz x, Below p Wi wz → x ∈ E → Calls Tryd.prog 12 #[.agg #[.int .i64 x.1, .int .i64 x.2]] wz fun e w' => e = .returned (.string ⟨(Al.tx x).toArray⟩) ∧ Below wz.heap.size wz w') := fun wz x hz hx => by
    obtain ⟨h1, h2⟩ := hR x hx
    rw [hWi] at hz
    exact tex_any wz x (hW.later (bW.trans (hz.mono hWp)) (Nat.le_refl _)) h1 h2
  have HTL : Hid (∀ x ∈ E, (Al.tx x).length ≤ 1000) := fun x hx => tx_len x (hR x hx).1 (hR x hx).2
  obtain ⟨N, hN⟩ : ∃ N, N = E.length := ⟨_, rfl⟩
  have HN : Hid (N = E.length ∧ acc.length + N ≤ 1000) := ⟨hN, by rw [hN]; exact hl⟩
  have HBB := hidA hBp
  have L0 : Hid (LnR w p v (acc ++ (E.take 0).map (Al.ln s)) Wi ∧ PutF p Wi v v Wi) := by
    rw [List.take_zero, List.map_nil, List.append_nil]
    refine ⟨?_, PutF.refl _ _ _⟩
    rw [hWi]
    exact h
  rw [← hN, ← hWi]
  rw [← hWi] at HE
  clear h hW bW hWp hE hBp hl hR hN hWi
  go_enter Tryd.func54, Tryd.ntmps54
  go_wp2_with fail
  go_loopg [9] N (fun gk y9 wz => ∃ (k : Nat) (vk : Value), k + gk = N ∧ y9 = .int .i64 k ∧ Hid (LnR w p vk (acc ++ (E.take k).map (Al.ln s)) wz ∧ PutF p Wi v vk wz))
  case atStart => exact ⟨0, v, Nat.zero_add _, rfl, L0.out⟩
  case round =>
    obtain ⟨k, vk, hk, rfl, RR⟩ := hrel
    rcases gk with _ | gO
    · obtain rfl : N = k := by omega
      have dk : decide ((N : Int) < (N : Int)) = false := decide_eq_false (Int.lt_irrefl _)
      have FIN : Hid (LnR w p vk (acc ++ E.map (Al.ln s)) wr ∧ PutF p Wi v vk wr) := by
        have h := RR.out
        rw [List.take_of_length_le (by rw [HN.out.1]; exact Nat.le_refl _)] at h
        exact h
      clear RR L0
      go_wp2_with fail
      go_end0
      exact ⟨rfl, vk, FIN.out⟩
    · obtain ⟨h6, dk, dk2, hkN, hk3⟩ := mch_k hk
      obtain ⟨x, hx⟩ : ∃ x, E[k]? = some x := ⟨_, List.getElem?_eq_getElem (by rw [← HN.out.1]; exact hkN)⟩
      have hxm : x ∈ E := List.mem_of_getElem? hx
      have BW : Below p Wi wr := HBP.out _ _ _ RR.out.1 RR.out.2
      obtain ⟨ga, oa, rfl, hga, csa⟩ := (HE.out.later BW HBB.out) (by rw [← HN.out.1]; exact Nat.lt_of_le_of_lt (Nat.zero_le k) hkN)
      obtain ⟨x0, x1⟩ := csa k x hx
      obtain ⟨W3, hW3⟩ : ∃ W3, W3 = wr.alloc (.cells #[.int .i64 x.1, .int .i64 x.2] 24) := ⟨_, rfl⟩
      obtain ⟨gb, hgb⟩ : ∃ gb, gb = wr.heap.size := ⟨_, rfl⟩
      have HW3 := hidA hW3
      have HGB := hidA hgb
      have b3 : Below wr.heap.size wr W3 := by rw [hW3]; exact (Below.refl _ _).alloc (Nat.le_refl _) _
      have L3 := hidA (RR.out.1.later b3)
      have P3 : Hid (PutF p Wi v vk W3) := RR.out.2.trans (PutF.of b3)
      have TX3 : Hid (∀ wz, Below W3.heap.size W3 wz → Calls Tryd.prog 12 #[.agg #[.int .i64 x.1, .int .i64 x.2]] wz fun e w' => e = .returned (.string ⟨(Al.tx x).toArray⟩) ∧ Below W3.heap.size W3 w') := fun wz hz =>
        (HTX.out wz x (BW.trans ((b3.mono (Nat.le_of_lt RR.out.1.lt)).trans (hz.mono (Nat.le_of_lt L3.out.lt)))) hxm).mono fun e w' h => ⟨h.1, hz.trans (h.2.mono hz.size)⟩
      obtain ⟨f0, f1⟩ := box2R (w := W3) (r := gb) (by rw [hW3, hgb]; exact Array.getElem?_push_size)
      obtain ⟨c0, c1⟩ := box1 L3.out.all
      have WK := hidA (wrK k (Nat.le_trans (Nat.le_of_lt hkN) (Nat.le_trans (Nat.le_add_left _ _) (Nat.le_trans HN.out.2 (by decide)))))
      obtain ⟨ac, hac⟩ : ∃ ac, ac = acc ++ (E.take k).map (Al.ln s) := ⟨_, rfl⟩
      have SN : Hid (acc ++ (E.take (k + 1)).map (Al.ln s) = ac ++ [Al.ln s x]) := by unfold Hid; rw [hac, List.take_add_one, hx, List.map_append, List.append_assoc]; rfl
      have LAC : ac.length ≤ 1000 := by rw [hac, List.length_append, List.length_map, List.length_take]; have := HN.out.2; omega
      rw [← hac] at L3
      obtain ⟨sz1, sz2⟩ := sizeLn (s := s) (HTL.out x hxm)
      obtain ⟨TB, hTB⟩ : ∃ TB : ByteArray, TB = ⟨(Al.tx x).toArray⟩ := ⟨_, rfl⟩
      rw [← hTB] at sz2 TX3
      have sz3 : ¬ (9223372036854775807 < 2 + TB.size) := by
        have h := sizeA (Al.tx x)
        have h2 := HTL.out x hxm
        rw [← hTB] at h
        omega
      have LE : Hid ((⟨#[s]⟩ : ByteArray) ++ ⟨#[32]⟩ ++ TB = Al.ln s x) := by rw [hTB]; exact ln_eq s x
      obtain ⟨LA, hLA⟩ : ∃ LA, LA = ac.length := ⟨_, rfl⟩
      have H63 := hidA (own63S (k := LA) (by rw [hLA]; exact LAC))
      have HLA := hidA hLA
      have OW : Hid (∀ wz, Below W3.heap.size W3 wz → wz.ownsRow (p + 1) 9 1 vk LA (ac.map Value.string) ∧ (wz.cell? ⟨p, 0, none⟩ = some vk ∧ wz.frozen? ⟨p, 0, none⟩ = false) ∧ p + 1 ≤ wz.heap.size) := fun wz hz => by
        have l := L3.out.later hz
        exact ⟨by rw [HLA.out]; exact l.row, box1 l.all, l.lt⟩
      have ONE : Hid (∀ u ∈ [Value.string ((⟨#[s]⟩ : ByteArray) ++ ⟨#[32]⟩ ++ TB)], u.oneCell' = true) := one_one_s _
      have GRW : Hid (∀ (wz : World) (v8 : Value) (w8 : World), Below W3.heap.size W3 wz → w8.ownsRow (p + 1) 9 1 v8 (LA + 1) (ac.map Value.string ++ [.string ((⟨#[s]⟩ : ByteArray) ++ ⟨#[32]⟩ ++ TB)]) → (wz.alloc (.cells #[.string ((⟨#[s]⟩ : ByteArray) ++ ⟨#[32]⟩ ++ TB)] 9)).grownBy w8 vk.ownBlock → (v8.ownBlock = vk.ownBlock ∨ ∃ g, v8.ownBlock = some g ∧ wz.heap.size + 1 ≤ g) → (w8.cell? ⟨p, 0, none⟩ = some vk ∧ w8.frozen? ⟨p, 0, none⟩ = false) ∧ LnR w p v8 (acc ++ (E.take (k + 1)).map (Al.ln s)) (w8.setCell ⟨p, 0, none⟩ v8) ∧ PutF p Wi v v8 (w8.setCell ⟨p, 0, none⟩ v8)) := fun wz v8 w8 hz h8 g8 o8 => by
        have l := L3.out.later hz
        rw [HLA.out, LE.out] at h8
        obtain ⟨q1, q2, q3⟩ := l.grow h8 g8 o8
        rw [SN.out]
        exact ⟨q1, q2, (P3.out.trans (PutF.of hz)).trans q3⟩
      generalize x.1 = xa at *
      generalize x.2 = xb at *
      clear hx hxm BW csa hW3 hgb b3 RR L0 hac LAC hTB hLA
      have BR : Hid (Below W3.heap.size W3 W3) := Below.refl _ _
      go_upto_region 3 with fail
      rw [← HW3.out, ← HGB.out]
      clear x0 x1
      go_region_law (first
        | (rw [if_pos (by rfl)]; refine wp_app1S w5 _ _ 56 rfl (p + 1) 9 i0 (.string ⟨#[]⟩) 16 Tryd.underlying56 hi zi0 zi1 zi2 rfl vk LA (ac.map Value.string) rfl (OW.out w5 B5.out).1 (.string ((⟨#[s]⟩ : ByteArray) ++ ⟨#[32]⟩ ++ TB)) ⟨rfl, rfl, rfl, rfl⟩ rfl ONE.out H63.out.1 H63.out.2 (OW.out w5 B5.out).2.2 ?_; intro v8 w8 h8 g8 o8; obtain ⟨va8, vc8, hv8⟩ := ownShA h8; subst hv8; have F8 := hidA (GRW.out w5 _ w8 B5.out h8 g8 o8); have z8 := F8.out.1.1; have y8 := F8.out.1.2; clear h8 g8 o8)
        | (go_simp; go_at_call 12; refine (TX3.out _ (by first | exact BR.out | exact BR.out.trans (by go_grown))).mono ?_; rintro e w5 ⟨rfl, b5⟩; have B5 := hidA b5; have c50 := (OW.out w5 b5).2.1.1; have c51 := (OW.out w5 b5).2.1.2; have c52 := (OW.out (w5.alloc (.cells #[.string ((⟨#[s]⟩ : ByteArray) ++ ⟨#[32]⟩ ++ TB)] 9)) (b5.alloc b5.size _)).2.1.1; clear b5; dsimp only))
      all_goals
        go_wp2_with fail
        go_roundg gO
        case measure => omega
        case rel => exact ⟨k + 1, _, hk3, congrArg _ WK.out, F8.out.2⟩
end Go.Proofs.YthglhcabdadlpaaDoor

namespace Go.Proofs.YthglhcabdadlpaaDoor
open Go.RowKit
set_option linter.unusedVariables false
set_option linter.unusedSimpArgs false
set_option maxRecDepth 100000
theorem EvR.take {B : Nat} {w : World} {a : Option Addr} {l : List Al.Ev} (h : EvR B w a l) (n : Nat) : EvR B w a (l.take n) := fun h0 => by
  obtain ⟨g, o, e, hg, hc⟩ := h (by rw [List.length_take] at h0; omega)
  refine ⟨g, o, e, hg, fun j x hj => hc j x ?_⟩
  rw [List.getElem?_take] at hj
  split at hj
  · exact hj
  · cases hj
/-- A row cut from an index up to another: where it lies plays no part. -/
theorem slA2 {P : Program} {t et : TypeId} (hu : P.underlying t = some (.slice et)) (he : P.elem t = et) {i : TypeInfo} (hi : P.info? et = some i) (hs : i.size = 2) (a : Option Addr) {n ca T U : Nat} (hT : T ≤ U) (hU : U ≤ n) (hn : n ≤ ca) :
    ∃ AD, (∀ w, (Instr.slice t (.slice a n ca) (some (.int .i64 (T : Int))) (some (.int .i64 (U : Int))) none).run P w = .ok (.slice AD (U - T) (ca - T)) w) ∧ ∀ (B : Nat) (w : World) (l : List Al.Ev), l.length = n → EvR B w a l → EvR B w AD ((l.drop T).take (U - T)) := by
  have hu' : P.underlying t = some (.slice (P.elem t)) := by rw [he]; exact hu
  obtain ⟨AD, -, h2⟩ := slA hu he hi hs a (Nat.le_trans hT hU) hn
  refine ⟨if ca = T then a else a.map (·.add (T * 2)), fun w => ?_, fun B w l hl h => ?_⟩
  · rw [run_slice_lh w t a n ca hu' .i64 .i64 (T : Int) (U : Int) (Int.natCast_nonneg _) (by omega) (by omega)]
    rw [he]
    have hz : (sizeOf et).run P w = .ok 2 w := by simp [go_sem, sizeOf, run_typeInfo w hi, hs]
    rw [hz]
    simp [Result.andThen, sliced]
  · by_cases c : ca = T
    · exact ev_empty (by rw [List.length_take, List.length_drop]; omega)
    · rw [if_neg c]
      refine EvR.take ?_ _
      intro h0
      rw [List.length_drop] at h0
      obtain ⟨g, o, rfl, hg, hc⟩ := h (by omega)
      have := EvR.drop (g := g) (o := o) h T
      rw [Option.map_some]
      have e : (⟨g, o, none⟩ : Addr).add (T * 2) = ⟨g, o + T * 2, none⟩ := by
        by_cases c2 : T = 0
        · subst c2; simp [Addr.add]
        · have c3 : ¬ T * 2 = 0 := by omega
          simp [Addr.add, c3]
      rw [e]
      exact this (by rw [List.length_drop]; omega)
theorem enter_ln (c : Array Value) (w : World) : (callFunc 54 c).run Tryd.prog w = .ok (.enter 54 c) w := by kernel_rfl
theorem seg_map (s : UInt8) (l : List Al.Ev) (i j : Nat) : Al.seg s l i j = ((l.drop i).take (j - i)).map (Al.ln s) := rfl
theorem sub_len {l : List Al.Ev} {i j : Nat} (h : j ≤ l.length) (hi : i ≤ j) : ((l.drop i).take (j - i)).length = j - i := by rw [List.length_take, List.length_drop]; omega
theorem sub_mem {l : List Al.Ev} {i j : Nat} {x : Al.Ev} (h : x ∈ (l.drop i).take (j - i)) : x ∈ l := List.mem_of_mem_drop (List.mem_of_mem_take h)
/-- Lines of a piece of a row are put behind what there is. -/
def PutC (w : World) (p : Nat) (l : List Al.Ev) (s : UInt8) : Prop := ∀ (wz : World) (v : Value) (acc : List ByteArray) (i j : Nat) (A : Option Addr) (c n : Nat), n = j - i → i ≤ j → j ≤ l.length → LnR w p v acc wz → EvR p wz A ((l.drop i).take (j - i)) → acc.length + (j - i) ≤ 1000 →
  Calls Tryd.prog 54 #[.string ⟨#[s]⟩, .slice A n c, .pointer (some ⟨p, 0, none⟩)] wz fun e w' => e = .returned (.tuple #[]) ∧ ∃ v', LnR w p v' (acc ++ Al.seg s l i j) w' ∧ PutF p wz v v' w'
theorem putC (w : World) (p : Nat) (l : List Al.Ev) (s : UInt8) (ht : Tab w) (hWp : w.heap.size ≤ p) (hR : ∀ x ∈ l, Al.R64 x.1 ∧ Al.R64 x.2) : PutC w p l s := fun wz v acc i j A c n hn hij hj h hE hl => by
  subst hn
  have e := sub_len hj hij
  have r := put_any w wz w p v acc s ((l.drop i).take (j - i)) A c h ht (h.b.mono hWp) hWp hE (Nat.le_refl _) (by rw [e]; exact hl) (fun x hx => hR x (sub_mem hx))
  rw [e] at r
  rw [seg_map]
  exact r
end Go.Proofs.YthglhcabdadlpaaDoor

namespace Go.Proofs.YthglhcabdadlpaaDoor
open Go.RowKit
set_option linter.unusedVariables false
set_option linter.unusedSimpArgs false
set_option maxRecDepth 100000
theorem LnR.box {w wr w' : World} {p g : Nat} {v v' : Value} {acc : List ByteArray} (h : LnR w p v acc wr) (k : PutF p wr v v' w') (hg : g < wr.heap.size) (hp : g ≠ p) (hn : some g ≠ v.ownBlock) : w'.heap[g]? = wr.heap[g]? ∧ some g ≠ v'.ownBlock ∧ g < w'.heap.size :=
  ⟨k.1 g hg hp hn, fun e => by
    rcases k.2.1 with k2 | ⟨x, k2, k3⟩
    · exact hn (e.trans k2)
    · rw [k2] at e; cases e; omega, Nat.lt_of_lt_of_le hg k.2.2⟩
theorem own_neS {w wr : World} {p g : Nat} {v : Value} {acc : List ByteArray} (h : LnR w p v acc wr) (hg : wr.heap.size ≤ g) : some g ≠ v.ownBlock := fun e => by
  have := (World.ownsRow.lt (show wr.ownsRow (p + 1) 9 1 v acc.length (acc.map Value.string) from h.row) _ e.symm).2
  omega
theorem seg_lenE (s : UInt8) {l : List Al.Ev} {i j : Nat} (h : j ≤ l.length) (hi : i ≤ j) : (Al.seg s l i j).length = j - i := by rw [seg_map, List.length_map, sub_len h hi]
theorem drop_getL {α : Type} {l : List α} {i : Nat} {x : α} (h : l[i]? = some x) : l.drop i = x :: l.drop (i + 1) := by
  obtain ⟨h1, h2⟩ := List.getElem?_eq_some_iff.1 h
  rw [List.drop_eq_getElem_cons h1, h2]
theorem wrL (k : Nat) (h : k ≤ 1000) : wrap64 ((k : Int) + 1) = ((k + 1 : Nat) : Int) ∧ IntKind.i64.wrap ((k : Int) + 1) = ((k + 1 : Nat) : Int) := by
  rw [IntKind.wrap_i64]; unfold wrap64; omega
set_option maxHeartbeats 8000000 in
theorem lines_any (w : World) (a b c : Option Addr) (ca cb cc : Nat) (l m : List Al.Ev) (q : List (Nat × Nat)) (fa ta fb tb : Nat) {B : Nat} (ha : EvR B w a l) (hb : EvR B w b m) (hc : EvR B w c (Al.prs q)) (hB : B ≤ w.heap.size) (ht : Tab w) (hRl : ∀ x ∈ l, Al.R64 x.1 ∧ Al.R64 x.2) (hRm : ∀ x ∈ m, Al.R64 x.1 ∧ Al.R64 x.2) (hch : Al.chn ta tb fa fb q) (hta : ta ≤ l.length) (htb : tb ≤ m.length) (hl : l.length ≤ 300) (hm : m.length ≤ 300) (hq : q.length ≤ 300) (hca : l.length ≤ ca) (hcb : m.length ≤ cb) :
    Calls Tryd.prog 44 #[.slice a l.length ca, .slice b m.length cb, .slice c q.length cc, .agg #[.int .i64 (fa : Int), .int .i64 (ta : Int), .int .i64 (fb : Int), .int .i64 (tb : Int)]] w fun e w' => ∃ v, e = .returned v ∧ OwnS w' w.heap.size v (Al.lnsP l m ta tb fa fb q) ∧ Below w.heap.size w w' := by
  obtain ⟨iv, hv, vz, vs1, vb⟩ := infoEv
  obtain ⟨M, hM⟩ : ∃ M, M = w.heap.size := ⟨_, rfl⟩
  obtain ⟨Wr, hWr⟩ : ∃ Wr, Wr = w.alloc (.cells #[.int .i64 (fa : Int), .int .i64 (ta : Int), .int .i64 (fb : Int), .int .i64 (tb : Int)] 59) := ⟨_, rfl⟩
  obtain ⟨p, hp⟩ : ∃ p, p = w.heap.size + 1 := ⟨_, rfl⟩
  have sp : p = Wr.heap.size := by rw [hp, hWr]; simp
  obtain ⟨W0, hW0⟩ : ∃ W0, W0 = Wr.alloc (.cells #[.slice none 0 0] 56) := ⟨_, rfl⟩
  have KR : Hid (Below w.heap.size w Wr) := by rw [hWr]; exact (Below.refl _ _).alloc (Nat.le_refl _) _
  have L0 : Hid (LnR Wr p (.slice none 0 0) [] W0) := ⟨by rw [hW0, sp]; exact (Below.refl _ _).alloc (Nat.le_refl _) _, by rw [hW0, sp]; exact Array.getElem?_push_size, OwnS.nil _ _⟩
  have HRB : Hid (∀ W, Below p Wr W → W.heap[M]? = some (.cells #[.int .i64 (fa : Int), .int .i64 (ta : Int), .int .i64 (fb : Int), .int .i64 (tb : Int)] 59 (0, 0))) := fun W hW => by
    rw [hW.block M (by rw [hp, hM]; exact Nat.lt_succ_self _), hWr, hM]
    exact Array.getElem?_push_size
  have BWp : Hid (∀ W, Below p Wr W → Below w.heap.size w W) := fun W hW => KR.out.trans (hW.mono (by rw [hp]; exact Nat.le_succ _))
  have EA : Hid (∀ W, Below p Wr W → EvR p W a l ∧ EvR p W b m ∧ EvR p W c (Al.prs q)) := fun W hW => by
    have h1 := BWp.out W hW
    have h2 : B ≤ p := by rw [hp]; exact Nat.le_trans hB (Nat.le_succ _)
    exact ⟨(ha.later h1 hB).mono h2, (hb.later h1 hB).mono h2, (hc.later h1 hB).mono h2⟩
  have TR : Tab Wr := ht.later KR.out (Nat.le_refl _)
  have P45 := hidA (putC Wr p l 45 TR (by rw [sp]; exact Nat.le_refl _) hRl)
  have P43 := hidA (putC Wr p m 43 TR (by rw [sp]; exact Nat.le_refl _) hRm)
  have P32 := hidA (putC Wr p l 32 TR (by rw [sp]; exact Nat.le_refl _) hRl)
  have TLEN : Hid ((Al.lnsP l m ta tb fa fb q).length ≤ 600) := by
    have := Al.lnsP_len (a := l) (b := m) hch
    unfold Hid
    omega
  obtain ⟨T, hT⟩ : ∃ T, T = Al.lnsP l m ta tb fa fb q := ⟨_, rfl⟩
  have HT0 : Hid (([] : List ByteArray) ++ Al.lnsP l m ta tb fa fb (q.drop 0) = T ∧ Al.chn ta tb fa fb (q.drop 0)) := ⟨hT.symm, hch⟩
  rw [← hT] at TLEN ⊢
  have LL : Hid (ta ≤ l.length ∧ tb ≤ m.length ∧ l.length ≤ 300 ∧ m.length ≤ 300 ∧ l.length ≤ ca ∧ m.length ≤ cb) := ⟨hta, htb, hl, hm, hca, hcb⟩
  have SA : Hid (∀ x y, x ≤ y → y ≤ l.length → ∃ AD, (∀ w, (Instr.slice 22 (.slice a l.length ca) (some (.int .i64 (x : Int))) (some (.int .i64 (y : Int))) none).run Tryd.prog w = .ok (.slice AD (y - x) (ca - x)) w) ∧ ∀ (B : Nat) (w : World) (d : List Al.Ev), d.length = l.length → EvR B w a d → EvR B w AD ((d.drop x).take (y - x))) := fun x y h1 h2 => slA2 Tryd.underlying22 (by kernel_rfl) hv vs1 a h1 h2 hca (P := Tryd.prog)
  have SB : Hid (∀ x y, x ≤ y → y ≤ m.length → ∃ AD, (∀ w, (Instr.slice 22 (.slice b m.length cb) (some (.int .i64 (x : Int))) (some (.int .i64 (y : Int))) none).run Tryd.prog w = .ok (.slice AD (y - x) (cb - x)) w) ∧ ∀ (B : Nat) (w : World) (d : List Al.Ev), d.length = m.length → EvR B w b d → EvR B w AD ((d.drop x).take (y - x))) := fun x y h1 h2 => slA2 Tryd.underlying22 (by kernel_rfl) hv vs1 b h1 h2 hcb (P := Tryd.prog)
  obtain ⟨N, hN⟩ : ∃ N, N = l.length := ⟨_, rfl⟩
  obtain ⟨O, hO⟩ : ∃ O, O = m.length := ⟨_, rfl⟩
  obtain ⟨G, hG⟩ : ∃ G, G = q.length := ⟨_, rfl⟩
  have HN : Hid (N = l.length ∧ O = m.length ∧ G = q.length ∧ G ≤ 300) := ⟨hN, hO, hG, by rw [hG]; exact hq⟩
  rw [← hN] at SA
  rw [← hO] at SB
  rw [← hN, ← hO, ← hG]
  have hF := enter_ln
  have HM := hidA hM
  have HP := hidA hp
  have HWr := hidA hWr
  have HSP : Hid (Wr.heap.size = p) := sp.symm
  have HW0 := hidA hW0
  obtain ⟨e0, e1, e2, e3, -, -, -, -⟩ := box4 (HRB.out W0 L0.out.b)
  clear ha hb hc hB ht hRl hRm hch hta htb hl hm hq hca hcb hM hp hWr hW0 sp TR hT hN hO hG
  go_enter Tryd.func44, Tryd.ntmps44
  go_upto_region 1 with fail
  rw [← HWr.out, ← HM.out]
  go_upto_region 3 with fail
  rw [HSP.out, ← HW0.out]
  have RB0 := hidA L0.out.b
  go_quiet (fail)
  have LQ : Hid (LnR Wr p (.slice none 0 0) [] (W0.drewN nq)) := L0.out.later ⟨rfl, rfl, rfl, Nat.le_refl _, fun _ _ => rfl⟩
  generalize W0.drewN nq = W5 at LQ ⊢
  clear e0 e1 e2 e3 L0 RB0
  go_wp2_with fail
  go_loopg [11, 12, 22] G (fun gk y11 y12 y22 wr => ∃ (k i j : Nat) (v : Value) (acc : List ByteArray), k + gk = G ∧ y22 = .int .i64 k ∧ y11 = .int .i64 i ∧ y12 = .int .i64 j ∧ Hid (LnR Wr p v acc wr ∧ acc ++ Al.lnsP l m ta tb i j (q.drop k) = T ∧ Al.chn ta tb i j (q.drop k)))
  case atStart => exact ⟨0, fa, fb, _, [], Nat.zero_add _, rfl, rfl, rfl, LQ.out, HT0.out⟩
  case round =>
    obtain ⟨k, i, j, v, acc, hk, rfl, rfl, rfl, RR⟩ := hrel
    obtain ⟨e0, e1, e2, e3, -, -, -, -⟩ := box4 (HRB.out wr RR.out.1.b)
    rcases gk with _ | gO
    · obtain rfl : G = k := by omega
      have dk : decide ((G : Int) < (G : Int)) = false := decide_eq_false (Int.lt_irrefl _)
      have hdr : q.drop G = [] := List.drop_eq_nil_of_le (by rw [HN.out.2.2.1]; exact Nat.le_refl _)
      have RX : Hid (acc ++ (Al.seg 45 l i ta ++ Al.seg 43 m j tb) = T ∧ i ≤ ta ∧ j ≤ tb) := by
        have h := RR.out.2
        rw [hdr] at h
        exact h
      obtain ⟨XA, hsa, hra⟩ := SA.out i ta RX.out.2.1 (by rw [HN.out.1]; exact LL.out.1)
      obtain ⟨XB, hsb, hrb⟩ := SB.out j tb RX.out.2.2 (by rw [HN.out.2.1]; exact LL.out.2.1)
      have LEN : Hid (acc.length + (ta - i) ≤ 1000 ∧ (acc ++ Al.seg 45 l i ta).length + (tb - j) ≤ 1000) := by
        have h1 := TLEN.out
        rw [← RX.out.1] at h1
        simp only [List.length_append, seg_lenE 45 LL.out.1 RX.out.2.1, seg_lenE 43 LL.out.2.1 RX.out.2.2] at h1 ⊢
        constructor <;> omega
      obtain ⟨n1, hn1⟩ : ∃ n, n = ta - i := ⟨_, rfl⟩
      obtain ⟨n2, hn2⟩ : ∃ n, n = tb - j := ⟨_, rfl⟩
      have U1 := hidA (P45.out wr v acc i ta XA (ca - i) n1 hn1 RX.out.2.1 LL.out.1 RR.out.1 (hra p wr l HN.out.1.symm (EA.out wr RR.out.1.b).1) LEN.out.1)
      have U2 : Hid (∀ w4 v4, LnR Wr p v4 (acc ++ Al.seg 45 l i ta) w4 → Calls Tryd.prog 54 #[.string ⟨#[43]⟩, .slice XB n2 (cb - j), .pointer (some ⟨p, 0, none⟩)] w4 fun e w' => e = .returned (.tuple #[]) ∧ ∃ v', LnR Wr p v' ((acc ++ Al.seg 45 l i ta) ++ Al.seg 43 m j tb) w' ∧ PutF p w4 v4 v' w') := fun w4 v4 h4 => P43.out w4 v4 _ j tb XB (cb - j) n2 hn2 RX.out.2.2 LL.out.2.1 h4 (hrb p w4 m HN.out.2.1.symm (EA.out w4 h4.b).2.1) LEN.out.2
      rw [← hn1] at hsa
      rw [← hn2] at hsb
      generalize ca - i = c1 at *
      generalize cb - j = c2 at *
      clear hn1 hn2 hra hrb hdr RR LQ LEN
      go_wp2_with fail
      refine U1.out.mono ?_
      rintro e w4 ⟨rfl, v4, h4, f4⟩
      have H4 := hidA h4
      have U3 := hidA (U2.out w4 v4 h4)
      clear e0 e1 e2 e3 U1 U2 f4 h4
      obtain ⟨e0, e1, e2, e3, -, -, -, -⟩ := box4 (HRB.out w4 H4.out.b)
      go_wp2_with fail
      refine U3.out.mono ?_
      rintro e w5 ⟨rfl, v5, h5, f5⟩
      obtain ⟨va, vc, hv5⟩ := ownShA (show w5.ownsRow (p + 1) 9 1 v5 _ _ from h5.row)
      subst hv5
      obtain ⟨c0, -⟩ := box1 h5.all
      have FIN : Hid (OwnS w5 w.heap.size (.slice va ((acc ++ Al.seg 45 l i ta) ++ Al.seg 43 m j tb).length vc) T ∧ Below w.heap.size w w5) := by
        refine ⟨?_, BWp.out _ h5.b⟩
        have h := h5.row
        rw [show (acc ++ Al.seg 45 l i ta) ++ Al.seg 43 m j tb = T by rw [List.append_assoc]; exact RX.out.1] at h ⊢
        exact World.ownsRow.mono h (by rw [HP.out]; omega)
      generalize ((acc ++ Al.seg 45 l i ta) ++ Al.seg 43 m j tb).length = n5 at *
      clear e0 e1 e2 e3 U3 f5 h5 H4
      go_wp2_with fail
      go_ret
      exact ⟨_, rfl, FIN.out⟩
    · obtain ⟨h6, dk, dk2, hkG, hk3⟩ := mch_k hk
      obtain ⟨x, hx⟩ : ∃ x, q[k]? = some x := ⟨_, List.getElem?_eq_getElem (by rw [← HN.out.2.2.1]; exact hkG)⟩
      have RX : Hid (acc ++ (Al.seg 45 l i x.1 ++ (Al.seg 43 m j x.2 ++ (Al.seg 32 l x.1 (x.1 + 1) ++ Al.lnsP l m ta tb (x.1 + 1) (x.2 + 1) (q.drop (k + 1))))) = T ∧ i ≤ x.1 ∧ j ≤ x.2 ∧ x.1 + 1 ≤ N ∧ x.2 + 1 ≤ O ∧ Al.chn ta tb (x.1 + 1) (x.2 + 1) (q.drop (k + 1))) := by
        have h := RR.out.2
        rw [drop_getL hx] at h
        obtain ⟨h1, h2, h3, h4, h5, h7⟩ := h
        exact ⟨h1, h2, h3, by have := LL.out.1; rw [HN.out.1]; omega, by have := LL.out.2.1; rw [HN.out.2.1]; omega, h7⟩
      have hpx : (Al.prs q)[k]? = some ((x.1 : Int), (x.2 : Int)) := by unfold Al.prs; rw [List.getElem?_map, hx]; rfl
      obtain ⟨gc, oc, rfl, hgc, csc⟩ := (EA.out wr RR.out.1.b).2.2 (by rw [Al.prs_len, ← HN.out.2.2.1]; exact Nat.lt_of_le_of_lt (Nat.zero_le k) hkG)
      obtain ⟨x0, x1⟩ := csc k _ hpx
      simp only at x0 x1
      obtain ⟨X, hX⟩ : ∃ X, X = x.1 := ⟨_, rfl⟩
      obtain ⟨Y, hY⟩ : ∃ Y, Y = x.2 := ⟨_, rfl⟩
      rw [← hX, ← hY] at RX
      rw [← hX] at x0
      rw [← hY] at x1
      clear hX hY hpx hx csc
      obtain ⟨XA, hsa, hra⟩ := SA.out i X RX.out.2.1 (Nat.le_of_succ_le RX.out.2.2.2.1)
      obtain ⟨XB, hsb, hrb⟩ := SB.out j Y RX.out.2.2.1 (Nat.le_of_succ_le RX.out.2.2.2.2.1)
      obtain ⟨XC, hsc, hrc⟩ := SA.out X (X + 1) (Nat.le_succ X) RX.out.2.2.2.1
      have bX : X ≤ l.length := by rw [← HN.out.1]; exact Nat.le_of_succ_le RX.out.2.2.2.1
      have bX1 : X + 1 ≤ l.length := by rw [← HN.out.1]; exact RX.out.2.2.2.1
      have bY : Y ≤ m.length := by rw [← HN.out.2.1]; exact Nat.le_of_succ_le RX.out.2.2.2.2.1
      have LEN : Hid (acc.length + (X - i) ≤ 1000 ∧ (acc ++ Al.seg 45 l i X).length + (Y - j) ≤ 1000 ∧ ((acc ++ Al.seg 45 l i X) ++ Al.seg 43 m j Y).length + (X + 1 - X) ≤ 1000) := by
        have h1 := TLEN.out
        rw [← RX.out.1] at h1
        simp only [List.length_append, seg_lenE 45 bX RX.out.2.1, seg_lenE 43 bY RX.out.2.2.1, seg_lenE 32 bX1 (Nat.le_succ X)] at h1 ⊢
        refine ⟨?_, ?_, ?_⟩ <;> omega
      obtain ⟨n1, hn1⟩ : ∃ n, n = X - i := ⟨_, rfl⟩
      obtain ⟨n2, hn2⟩ : ∃ n, n = Y - j := ⟨_, rfl⟩
      obtain ⟨n3, hn3⟩ : ∃ n, n = X + 1 - X := ⟨_, rfl⟩
      obtain ⟨wX, wX'⟩ := wrL X (Nat.le_trans bX (Nat.le_trans LL.out.2.2.1 (by decide)))
      obtain ⟨wY, wY'⟩ := wrL Y (Nat.le_trans bY (Nat.le_trans LL.out.2.2.2.1 (by decide)))
      obtain ⟨W3, hW3⟩ : ∃ W3, W3 = wr.alloc (.cells #[.int .i64 (X : Int), .int .i64 (Y : Int)] 64) := ⟨_, rfl⟩
      obtain ⟨gb, hgb⟩ : ∃ gb, gb = wr.heap.size := ⟨_, rfl⟩
      have b3 : Below wr.heap.size wr W3 := by rw [hW3]; exact (Below.refl _ _).alloc (Nat.le_refl _) _
      have L3 := hidA (RR.out.1.later b3)
      have NG : Hid (gb < W3.heap.size ∧ gb ≠ p ∧ some gb ≠ v.ownBlock) := ⟨by rw [hW3, hgb]; simp, by have := RR.out.1.lt; omega, own_neS RR.out.1 (by rw [hgb]; exact Nat.le_refl _)⟩
      have G3 : Hid (W3.heap[gb]? = some (.cells #[.int .i64 (X : Int), .int .i64 (Y : Int)] 64 (0, 0))) := by rw [hW3, hgb]; exact Array.getElem?_push_size
      have U1 := hidA (P45.out W3 v acc i X XA (ca - i) n1 hn1 RX.out.2.1 bX L3.out (hra p W3 l HN.out.1.symm (EA.out W3 L3.out.b).1) LEN.out.1)
      have U2 : Hid (∀ w4 v4, LnR Wr p v4 (acc ++ Al.seg 45 l i X) w4 → Calls Tryd.prog 54 #[.string ⟨#[43]⟩, .slice XB n2 (cb - j), .pointer (some ⟨p, 0, none⟩)] w4 fun e w' => e = .returned (.tuple #[]) ∧ ∃ v', LnR Wr p v' ((acc ++ Al.seg 45 l i X) ++ Al.seg 43 m j Y) w' ∧ PutF p w4 v4 v' w') := fun w4 v4 h4 => P43.out w4 v4 _ j Y XB (cb - j) n2 hn2 RX.out.2.2.1 bY h4 (hrb p w4 m HN.out.2.1.symm (EA.out w4 h4.b).2.1) LEN.out.2.1
      have U3 : Hid (∀ w4 v4, LnR Wr p v4 ((acc ++ Al.seg 45 l i X) ++ Al.seg 43 m j Y) w4 → Calls Tryd.prog 54 #[.string ⟨#[32]⟩, .slice XC n3 (ca - X), .pointer (some ⟨p, 0, none⟩)] w4 fun e w' => e = .returned (.tuple #[]) ∧ ∃ v', LnR Wr p v' (((acc ++ Al.seg 45 l i X) ++ Al.seg 43 m j Y) ++ Al.seg 32 l X (X + 1)) w' ∧ PutF p w4 v4 v' w') := fun w4 v4 h4 => P32.out w4 v4 _ X (X + 1) XC (ca - X) n3 hn3 (Nat.le_succ X) bX1 h4 (hrc p w4 l HN.out.1.symm (EA.out w4 h4.b).1) LEN.out.2.2
      have NXT : Hid ((((acc ++ Al.seg 45 l i X) ++ Al.seg 43 m j Y) ++ Al.seg 32 l X (X + 1)) ++ Al.lnsP l m ta tb (X + 1) (Y + 1) (q.drop (k + 1)) = T ∧ Al.chn ta tb (X + 1) (Y + 1) (q.drop (k + 1))) := ⟨by rw [← RX.out.1]; simp only [List.append_assoc], RX.out.2.2.2.2.2⟩
      have WK := hidA (wrK k (Nat.le_trans (Nat.le_of_lt hkG) (Nat.le_trans HN.out.2.2.2 (by decide))))
      have HW3 := hidA hW3
      have HGB := hidA hgb
      obtain ⟨X1, hX1⟩ : ∃ X1, X1 = X + 1 := ⟨_, rfl⟩
      obtain ⟨Y1, hY1⟩ : ∃ Y1, Y1 = Y + 1 := ⟨_, rfl⟩
      rw [← hX1] at NXT U3 wX wX' hsc
      rw [← hY1] at NXT wY wY'
      have HX1 := hidA hX1
      rw [← hX1] at hn3
      rw [← hn1] at hsa
      rw [← hn2] at hsb
      rw [← hn3] at hsc
      generalize ca - i = c1 at *
      generalize cb - j = c2 at *
      generalize ca - X = c3 at *
      clear hn1 hn2 hn3 hra hrb hrc RR LQ LEN RX bX bX1 bY b3 hX1 hY1 hW3 hgb
      go_upto_region 7 with fail
      rw [← HW3.out, ← HGB.out]
      obtain ⟨f0, f1⟩ := box2R G3.out
      clear x0 x1 e0 e1 e2 e3
      go_wp2_with fail
      refine U1.out.mono ?_
      rintro e w4 ⟨rfl, v4, h4, f4⟩
      obtain ⟨n4, m4, k4⟩ := L3.out.box f4 NG.out.1 NG.out.2.1 NG.out.2.2
      have G4 := hidA (n4.trans G3.out)
      have NG4 : Hid (gb < w4.heap.size ∧ gb ≠ p ∧ some gb ≠ v4.ownBlock) := ⟨k4, NG.out.2.1, m4⟩
      have L4 := hidA h4
      have V2 := hidA (U2.out w4 v4 h4)
      clear f0 f1 n4 m4 k4 f4 h4 U1 U2 L3 NG G3
      obtain ⟨f0, f1⟩ := box2R G4.out
      go_wp2_with fail
      refine V2.out.mono ?_
      rintro e w5 ⟨rfl, v5, h5, f5⟩
      obtain ⟨n4, m4, k4⟩ := L4.out.box f5 NG4.out.1 NG4.out.2.1 NG4.out.2.2
      have G5 := hidA (n4.trans G4.out)
      have NG5 : Hid (gb < w5.heap.size ∧ gb ≠ p ∧ some gb ≠ v5.ownBlock) := ⟨k4, NG4.out.2.1, m4⟩
      have L5 := hidA h5
      have V3 := hidA (U3.out w5 v5 h5)
      clear f0 f1 n4 m4 k4 f5 h5 V2 U3 L4 NG4 G4
      obtain ⟨f0, f1⟩ := box2R G5.out
      go_wp2_with fail
      refine V3.out.mono ?_
      rintro e w6 ⟨rfl, v6, h6', f6⟩
      obtain ⟨n4, m4, k4⟩ := L5.out.box f6 NG5.out.1 NG5.out.2.1 NG5.out.2.2
      have G6 := hidA (n4.trans G5.out)
      have L6 := hidA h6'
      clear f0 f1 n4 m4 k4 f6 h6' V3 L5 NG5 G5 hsa hsb hsc
      obtain ⟨f0, f1⟩ := box2R G6.out
      go_upto_region 10 with fail
      go_quiet (fail)
      have L7 := hidA (L6.out.later (w2 := w6.drewN nq) ⟨rfl, rfl, rfl, Nat.le_refl _, fun _ _ => rfl⟩)
      generalize w6.drewN nq = W7 at *
      go_wp2_with fail
      go_roundg gO
      case measure => omega
      case rel => exact ⟨k + 1, X1, Y1, _, _, hk3, congrArg _ WK.out, by first | rfl | exact congrArg _ wX, by first | rfl | exact congrArg _ wY, L7.out, NXT.out⟩
end Go.Proofs.YthglhcabdadlpaaDoor
