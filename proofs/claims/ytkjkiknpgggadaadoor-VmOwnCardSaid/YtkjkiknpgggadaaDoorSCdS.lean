/- Layer 8, plain: the heights of a code, found round by round (the document's way). No Go in sight. -/
/- Layer 8: what an instruction takes and leaves, and which places come next (the document's effect and follow). -/
/- Layer 8: the document's line of every instruction. -/
import Derived.Test.YtkjkiknpgggadaaDoorSWordsPl
import Derived.Test.YtkjkiknpgggadaaDoorSCdR
import Derived.Test.YtkjkiknpgggadaaDoorSCdJ
import Derived.Deep.DeepAppendWide
import Derived.BigQuiet
import Derived.Test.YtkjkiknpgggadaaDoorSCdI
import Derived.Test.YtkjkiknpgggadaaDoorRows
import Derived.Test.YtkjkiknpgggadaaDoorSCdA
import Derived.WalkKit
import Derived.WalkMore
import Derived.WalkSpells
import Derived.WalkLawsBesides
import Derived.Shelf.Small.Wraps
import Derived.Shelf.Strings.Prefix
import Derived.Test.YtkjkiknpgggadaaDoorProg
namespace Go.Proofs.YtkjkiknpgggadaaDoor.Cd
open Go.RowKit

def fl (i : In) (p : Int) : List Int := if i.op = 20 then [] else if i.op = 17 then [i.n] else if i.op = 18 then [p + 1, i.n] else [p + 1]
theorem fl_n1 {i : In} {p : Int} (h : i.op ≠ 20) : n1 i p ∈ fl i p := by
  unfold fl n1
  rw [if_neg h]
  split
  · simp
  · split <;> simp
theorem fl_n2 {i : In} {p : Int} (h : i.op ≠ 20) : n2 i p ∈ fl i p := by
  unfold fl n2
  rw [if_neg h]
  split
  · simp [*]
  · split
    · simp [*]
    · simp [*]
theorem fl_rc {l : List Co} {c : Co} {p : Nat} {h : Int} {i : In} (r : Rc l c p h) (e : c.ins[p]? = some i) {q : Int} (hq : q ∈ fl i p) : Rc l c q (h - tk i + lv l i) := by
  unfold fl at hq
  by_cases h20 : i.op = 20
  · rw [if_pos h20] at hq; cases hq
  · rw [if_neg h20] at hq
    have r1 := Rc.one _ h i r (by omega) (by rw [Int.toNat_natCast]; exact e) h20
    have r2 := Rc.two _ h i r (by omega) (by rw [Int.toNat_natCast]; exact e) h20
    unfold n1 at r1
    unfold n2 at r2
    by_cases h17 : i.op = 17
    · rw [if_pos h17] at hq r1
      rw [List.mem_singleton.1 hq]; exact r1
    · rw [if_neg h17] at hq r1
      by_cases h18 : i.op = 18
      · rw [if_pos h18] at hq
        rw [if_pos (.inr h18)] at r2
        simp only [List.mem_cons, List.not_mem_nil, or_false] at hq
        rcases hq with rfl | rfl
        · exact r1
        · exact r2
      · rw [if_neg h18] at hq
        rw [List.mem_singleton.1 hq]; exact r1
theorem fl_bd {B : Int} {l : List Co} {c : Co} {i : In} (h : al B l c i = true) (p : Nat) {q : Int} (hq : q ∈ fl i p) : 0 ≤ q ∧ (q < c.ins.length ∨ q = p + 1) := by
  unfold fl at hq
  by_cases h20 : i.op = 20
  · rw [if_pos h20] at hq; cases hq
  · rw [if_neg h20] at hq
    by_cases h17 : i.op = 17
    · rw [if_pos h17] at hq
      rw [List.mem_singleton.1 hq]
      simp [al, h17] at h
      omega
    · rw [if_neg h17] at hq
      by_cases h18 : i.op = 18
      · rw [if_pos h18] at hq
        simp [al, h18] at h
        simp only [List.mem_cons, List.not_mem_nil, or_false] at hq
        rcases hq with rfl | rfl
        · omega
        · omega
      · rw [if_neg h18] at hq
        rw [List.mem_singleton.1 hq]
        omega
def Gd (l : List Co) (c : Co) (hs : List Int) (p : Nat) : Prop := ∀ h i, hs[p]? = some h → h ≠ -1 → c.ins[p]? = some i → tk i ≤ h ∧ h ≤ 4096 ∧ (bare i = true → h = tk i) ∧ ∀ q, q ∈ fl i p → 0 ≤ q ∧ hs[q.toNat]? = some (h - tk i + lv l i)
structure RI (l : List Co) (c : Co) (hs : List Int) : Prop where
  len : hs.length = c.ins.length
  ok : ∀ (p : Nat) h, hs[p]? = some h → h = -1 ∨ (0 ≤ h ∧ h ≤ 4097 ∧ Rc l c p h)
  zero : hs[0]? = some 0
theorem RI.set {l : List Co} {c : Co} {hs : List Int} (H : RI l c hs) {q : Nat} {h : Int} (e : hs[q]? = some (-1)) (r : Rc l c q h) (h0 : 0 ≤ h) (h1 : h ≤ 4097) : RI l c (hs.set q h) := by
  have ql := (List.getElem?_eq_some_iff.1 e).1
  refine ⟨by simp [H.len], fun p x ex => ?_, ?_⟩
  · by_cases hp : q = p
    · subst hp
      rw [List.getElem?_set_self ql] at ex
      cases ex
      exact .inr ⟨h0, h1, r⟩
    · rw [List.getElem?_set_ne hp] at ex
      exact H.ok p x ex
  · have : q ≠ 0 := fun e0 => by subst e0; rw [H.zero] at e; cases e
    rw [List.getElem?_set_ne this]
    exact H.zero
theorem set_keep {hs : List Int} {q p : Nat} {h x : Int} (e : hs[q]? = some (-1)) (e2 : hs[p]? = some x) (n : x ≠ -1) : (hs.set q h)[p]? = some x := by
  have : q ≠ p := fun e3 => by subst e3; rw [e2] at e; exact n (Option.some.inj e)
  rw [List.getElem?_set_ne this]
  exact e2
theorem RI.begin {l : List Co} {c : Co} (h : 0 < c.ins.length) : RI l c ((List.replicate c.ins.length (-1)).set 0 0) := by
  refine ⟨by simp, fun p x e => ?_, by rw [List.getElem?_set_self (by simpa using h)]⟩
  by_cases hp : 0 = p
  · subst hp
    rw [List.getElem?_set_self (by simpa using h)] at e
    cases e
    exact .inr ⟨by omega, by omega, .zero⟩
  · rw [List.getElem?_set_ne hp, List.getElem?_replicate] at e
    split at e
    · exact .inl (Option.some.inj e).symm
    · cases e
theorem RI.cl {l : List Co} {c : Co} {hs : List Int} (H : RI l c hs) (hl0 : ∀ i, i ∈ c.ins → 0 ≤ lv l i) (G : ∀ p, p < c.ins.length → Gd l c hs p) : Cl l c hs := by
  refine ⟨H.len, H.zero, fun p h e => ?_, fun p h i e n ei => ?_⟩
  · rcases H.ok p h e with a | a
    · exact .inl a
    · exact .inr a.2.2
  · obtain ⟨g1, g2, g3, g4⟩ := G p (List.getElem?_eq_some_iff.1 ei).1 h i e n ei
    refine ⟨g1, g2, g3, fun ho => ?_⟩
    have a := g4 _ (fl_n1 ho)
    have b := g4 _ (fl_n2 ho)
    have := hl0 i (List.mem_of_getElem? ei)
    exact ⟨a.1, b.1, a.2, b.2, by omega⟩
theorem Gd.leave {l : List Co} {c : Co} {hs : List Int} {p : Nat} (e : hs[p]? = some (-1)) : Gd l c hs p := fun h i eh n _ => by
  rw [e] at eh
  exact absurd (Option.some.inj eh).symm n
theorem Gd.mk {l : List Co} {c : Co} {hs : List Int} {p : Nat} {h : Int} {i : In} (e : hs[p]? = some h) (ei : c.ins[p]? = some i) (h1 : tk i ≤ h) (h2 : h ≤ 4096) (h3 : bare i = true → h = tk i) (h4 : ∀ q, q ∈ fl i p → 0 ≤ q ∧ hs[q.toNat]? = some (h - tk i + lv l i)) : Gd l c hs p := fun h' i' eh n ei' => by
  rw [e] at eh; cases eh
  rw [ei] at ei'; cases ei'
  exact ⟨h1, h2, h3, h4⟩
theorem bad_at {B : Int} {l : List Co} {c : Co} {p : Nat} {h : Int} {i : In} (r : Rc l c p h) (ei : c.ins[p]? = some i) (n : ¬ (tk i ≤ h ∧ h ≤ 4096 ∧ (bare i = true → h = tk i))) : HR B l c none := by
  refine no_lo r fun lo => ?_
  obtain ⟨_, i', e', a, b, d⟩ := lo
  rw [Int.toNat_natCast, ei] at e'
  cases e'
  exact n ⟨a, b, d⟩
end Go.Proofs.YtkjkiknpgggadaaDoor.Cd

namespace Go.Proofs.YtkjkiknpgggadaaDoor
open Go.RowKit
set_option linter.unusedVariables false
set_option linter.unusedSimpArgs false

abbrev rowBx (x : List UInt8) (n t l : Int) : Obj := .cells #[.string ⟨x.toArray⟩, .int .i64 n, .int .i64 t, .int .i64 l] 91
set_option maxRecDepth 100000 in
set_option maxHeartbeats 8000000 in
theorem rEff_no (k : Nat) (n m : Int) (B : Nat) (la : Option Addr) (lc : Nat) (l : List Cd.Co) (w : World) (h1 : 1 ≤ k) (h2 : k ≤ 25) (h9 : k ≠ 19) : Calls Tryd.prog 71 #[.slice la l.length lc, inV ⟨k, n, m⟩] w fun e w' => e = .returned (.tuple #[.int .i64 (Cd.tk ⟨k, n, m⟩), .int .i64 (Cd.lv l ⟨k, n, m⟩)]) ∧ Below w.heap.size w w' := by
  obtain ⟨x, hx⟩ : ∃ x, x = Cd.wd k := ⟨_, rfl⟩
  obtain ⟨u, hu⟩ : ∃ u, u = Cd.nm k := ⟨_, rfl⟩
  obtain ⟨t, ht⟩ : ∃ t, t = Cd.takesL.getD k 0 := ⟨_, rfl⟩
  obtain ⟨v, hv⟩ : ∃ v, v = Cd.leavesL.getD k 0 := ⟨_, rfl⟩
  have EO : Hid (∀ W, Calls Tryd.prog 53 #[.int .i64 (k : Int)] W fun e w' => e = .returned (.agg #[.string ⟨x.toArray⟩, .int .i64 u, .int .i64 t, .int .i64 v]) ∧ Below W.heap.size W w') := fun W => by
    have := rOf_any (k : Int) W
    unfold ofV at this
    rw [if_pos ⟨by omega, by omega⟩, Int.toNat_natCast, ← hx, ← hu, ← ht, ← hv] at this
    exact this
  have ET : Hid (Cd.tk ⟨k, n, m⟩ = if k = 20 then n else t) := by
    unfold Hid Cd.tk
    dsimp only
    rw [if_neg (by omega), Int.toNat_natCast, ht]
    by_cases e : k = 20
    · rw [if_pos (by omega), if_pos e]
    · rw [if_neg (by omega), if_neg e]
  have EL : Hid (Cd.lv l ⟨k, n, m⟩ = if k = 20 then 0 else v) := by
    unfold Hid Cd.lv
    dsimp only
    rw [if_neg (by omega), Int.toNat_natCast, hv]
    by_cases e : k = 20
    · rw [if_pos (by omega), if_pos e]
    · rw [if_neg (by omega), if_neg e]
  rw [ET.out, EL.out]
  by_cases h20 : k = 20
  · rw [if_pos h20, if_pos h20]
    have k20 : ((k : Int) == 20) = true := by rw [h20]; rfl
    clear h20
    obtain ⟨W, hW⟩ : ∃ W, W = w.alloc (inB ⟨k, n, m⟩) := ⟨_, rfl⟩
    obtain ⟨b, hb⟩ : ∃ b, b = w.heap.size := ⟨_, rfl⟩
    obtain ⟨b0, b1, b2, bw⟩ := in_box w ⟨k, n, m⟩ b W hb hW
    dsimp only at b0 b1 b2
    have bl : b < W.heap.size := by rw [hb, hW]; simp
    have BW : Hid (Below w.heap.size w W) := bw
    clear hx hu ht hv bw ET EL
    go_enter Tryd.func71, Tryd.ntmps71
    go_upto_region 1 with fail
    first | rw [← hW, ← hb] | rw [← hW]
    clear hW hb
    go_wp2_with fail
    refine Calls.mono (EO.out _) ?_
    rintro e1 w1 ⟨rfl, y1⟩
    have B1 : Hid (Below w.heap.size w w1) := BW.out.trans (y1.mono BW.out.size)
    have d0 := (y1.cell (p := ⟨b, 0, none⟩) bl).trans b0
    have d1 := (y1.cell (p := ⟨b, 1, none⟩) bl).trans b1
    have d2 := (y1.cell (p := ⟨b, 2, none⟩) bl).trans b2
    have bl1 : b < w1.heap.size := Nat.lt_of_lt_of_le bl y1.size
    clear y1 EO b0 b1 b2 bl BW
    obtain ⟨W5, hW5⟩ : ∃ W5, W5 = w1.alloc (rowBx x u t v) := ⟨_, rfl⟩
    obtain ⟨rb, hrb⟩ : ∃ rb, rb = w1.heap.size := ⟨_, rfl⟩
    have b5 : Below w1.heap.size w1 W5 := by rw [hW5]; exact (Below.refl _ _).alloc (Nat.le_refl _) _
    have r2 : W5.cell? ⟨rb, 2, none⟩ = some (.int .i64 t) := by rw [hW5, hrb]; simp [go_sem]
    have r3 : W5.cell? ⟨rb, 3, none⟩ = some (.int .i64 v) := by rw [hW5, hrb]; simp [go_sem]
    have f0 := (b5.cell (p := ⟨b, 0, none⟩) bl1).trans d0
    have f1 := (b5.cell (p := ⟨b, 1, none⟩) bl1).trans d1
    have f2 := (b5.cell (p := ⟨b, 2, none⟩) bl1).trans d2
    have B5 : Hid (Below w.heap.size w W5) := B1.out.trans (b5.mono B1.out.size)
    clear b5 d0 d1 d2 bl1 B1
    go_upto_region 2 with fail
    rw [← hW5, ← hrb]
    clear hW5 hrb
    clear h9 h1 h2
    go_wp2_with fail
    go_ret2
    exact ⟨rfl, B5.out⟩
  · rw [if_neg h20, if_neg h20]
    have e20 : ((k : Int) == 20) = false := beq_eq_false_iff_ne.2 (by omega)
    have e19 : ((k : Int) == 19) = false := beq_eq_false_iff_ne.2 (by omega)
    have g19 : ((k : Int) != 19) = true := by simp [bne, e19]
    obtain ⟨W, hW⟩ : ∃ W, W = w.alloc (inB ⟨k, n, m⟩) := ⟨_, rfl⟩
    obtain ⟨b, hb⟩ : ∃ b, b = w.heap.size := ⟨_, rfl⟩
    obtain ⟨b0, b1, b2, bw⟩ := in_box w ⟨k, n, m⟩ b W hb hW
    dsimp only at b0 b1 b2
    have bl : b < W.heap.size := by rw [hb, hW]; simp
    have BW : Hid (Below w.heap.size w W) := bw
    clear hx hu ht hv bw ET EL
    go_enter Tryd.func71, Tryd.ntmps71
    go_upto_region 1 with fail
    first | rw [← hW, ← hb] | rw [← hW]
    clear hW hb
    go_wp2_with fail
    refine Calls.mono (EO.out _) ?_
    rintro e1 w1 ⟨rfl, y1⟩
    have B1 : Hid (Below w.heap.size w w1) := BW.out.trans (y1.mono BW.out.size)
    have d0 := (y1.cell (p := ⟨b, 0, none⟩) bl).trans b0
    have d1 := (y1.cell (p := ⟨b, 1, none⟩) bl).trans b1
    have d2 := (y1.cell (p := ⟨b, 2, none⟩) bl).trans b2
    have bl1 : b < w1.heap.size := Nat.lt_of_lt_of_le bl y1.size
    clear y1 EO b0 b1 b2 bl BW
    obtain ⟨W5, hW5⟩ : ∃ W5, W5 = w1.alloc (rowBx x u t v) := ⟨_, rfl⟩
    obtain ⟨rb, hrb⟩ : ∃ rb, rb = w1.heap.size := ⟨_, rfl⟩
    have b5 : Below w1.heap.size w1 W5 := by rw [hW5]; exact (Below.refl _ _).alloc (Nat.le_refl _) _
    have r2 : W5.cell? ⟨rb, 2, none⟩ = some (.int .i64 t) := by rw [hW5, hrb]; simp [go_sem]
    have r3 : W5.cell? ⟨rb, 3, none⟩ = some (.int .i64 v) := by rw [hW5, hrb]; simp [go_sem]
    have f0 := (b5.cell (p := ⟨b, 0, none⟩) bl1).trans d0
    have f1 := (b5.cell (p := ⟨b, 1, none⟩) bl1).trans d1
    have f2 := (b5.cell (p := ⟨b, 2, none⟩) bl1).trans d2
    have B5 : Hid (Below w.heap.size w W5) := B1.out.trans (b5.mono B1.out.size)
    clear b5 d0 d1 d2 bl1 B1
    go_upto_region 2 with fail
    rw [← hW5, ← hrb]
    clear hW5 hrb
    clear h20 h9 h1 h2
    go_wp2_with fail
    go_quiet (fail)
    have BQ := below_drewN B5.out nq
    clear B5 f0 f1 f2 r2 r3
    generalize W5.drewN nq = W6 at BQ ⊢
    go_wp2_with fail
    go_ret2
    exact ⟨rfl, BQ⟩
set_option maxRecDepth 100000 in
set_option maxHeartbeats 8000000 in
theorem rEff_call (k : Nat) (m : Int) (d : Cd.Co) (B : Nat) (la : Option Addr) (lc : Nat) (l : List Cd.Co) (w : World) (hB : B ≤ w.heap.size) (hc : CoS B w la l) (hd : l[k]? = some d) : Calls Tryd.prog 71 #[.slice la l.length lc, inV ⟨19, k, m⟩] w fun e w' => e = .returned (.tuple #[.int .i64 (Cd.tk ⟨19, k, m⟩), .int .i64 (Cd.lv l ⟨19, k, m⟩)]) ∧ Below w.heap.size w w' := by
  obtain ⟨x, hx⟩ : ∃ x, x = Cd.wd 19 := ⟨_, rfl⟩
  obtain ⟨u, hu⟩ : ∃ u, u = Cd.nm 19 := ⟨_, rfl⟩
  obtain ⟨t, ht⟩ : ∃ t, t = Cd.takesL.getD (19 : Int).toNat 0 := ⟨_, rfl⟩
  obtain ⟨v, hv⟩ : ∃ v, v = Cd.leavesL.getD (19 : Int).toNat 0 := ⟨_, rfl⟩
  have EO : Hid (∀ W, Calls Tryd.prog 53 #[.int .i64 19] W fun e w' => e = .returned (.agg #[.string ⟨x.toArray⟩, .int .i64 u, .int .i64 t, .int .i64 v]) ∧ Below W.heap.size W w') := fun W => by
    have := rOf_any 19 W
    unfold ofV at this
    rw [if_pos ⟨by omega, by omega⟩, ← hx, ← hu, ← ht, ← hv] at this
    exact this
  have ET : Hid (Cd.tk ⟨19, k, m⟩ = m) := by unfold Hid Cd.tk; rw [if_pos rfl]
  have EL : Hid (Cd.lv l ⟨19, k, m⟩ = if d.ans then 1 else 0) := by
    unfold Hid Cd.lv
    dsimp only
    rw [if_pos rfl, Int.toNat_natCast, hd]
    rfl
  rw [ET.out, EL.out]
  obtain ⟨g, o, ia, ic, rfl, hg, at_⟩ := hc.at hd
  have kl : k < l.length := (List.getElem?_eq_some_iff.1 hd).1
  have hki : (k : Int) < (l.length : Int) := by omega
  have hk0 : (0 : Int) ≤ (k : Int) := by omega
  have HC3 : Hid (∀ X, Below w.heap.size w X → X.cell? ⟨g, o + k * 4 + 3, none⟩ = some (.bool d.ans)) := fun X hX => (hX.cell (p := ⟨g, _, none⟩) (Nat.lt_of_lt_of_le hg hB)).trans at_.c3
  generalize l.length = L at hki kl ⊢
  generalize d.ans = da at HC3 ⊢
  obtain ⟨W, hW⟩ : ∃ W, W = w.alloc (inB ⟨19, k, m⟩) := ⟨_, rfl⟩
  obtain ⟨b, hb⟩ : ∃ b, b = w.heap.size := ⟨_, rfl⟩
  obtain ⟨b0, b1, b2, bw⟩ := in_box w ⟨19, k, m⟩ b W hb hW
  dsimp only at b0 b1 b2
  have bl : b < W.heap.size := by rw [hb, hW]; simp
  have BW : Hid (Below w.heap.size w W) := bw
  clear hx hu ht hv bw ET EL at_ hd hc
  go_enter Tryd.func71, Tryd.ntmps71
  go_upto_region 1 with fail
  rw [← hW, ← hb]
  clear hW hb
  go_wp2_with fail
  refine Calls.mono (EO.out _) ?_
  rintro e1 w1 ⟨rfl, y1⟩
  have B1 : Hid (Below w.heap.size w w1) := BW.out.trans (y1.mono BW.out.size)
  have d0 := (y1.cell (p := ⟨b, 0, none⟩) bl).trans b0
  have d1 := (y1.cell (p := ⟨b, 1, none⟩) bl).trans b1
  have d2 := (y1.cell (p := ⟨b, 2, none⟩) bl).trans b2
  have bl1 : b < w1.heap.size := Nat.lt_of_lt_of_le bl y1.size
  clear y1 EO b0 b1 b2 bl BW
  obtain ⟨W5, hW5⟩ : ∃ W5, W5 = w1.alloc (rowBx x u t v) := ⟨_, rfl⟩
  have b5 : Below w1.heap.size w1 W5 := by rw [hW5]; exact (Below.refl _ _).alloc (Nat.le_refl _) _
  have f0 := (b5.cell (p := ⟨b, 0, none⟩) bl1).trans d0
  have f1 := (b5.cell (p := ⟨b, 1, none⟩) bl1).trans d1
  have f2 := (b5.cell (p := ⟨b, 2, none⟩) bl1).trans d2
  have B5 : Hid (Below w.heap.size w W5) := B1.out.trans (b5.mono B1.out.size)
  have c3 := HC3.out _ B5.out
  clear b5 d0 d1 d2 bl1 B1 HC3
  go_upto_region 2 with fail
  rw [← hW5]
  clear hW5
  cases da with
  | true =>
    go_wp2_with fail
    go_ret2
    exact ⟨rfl, B5.out⟩
  | false =>
    go_wp2_with fail
    go_ret2
    exact ⟨rfl, B5.out⟩
theorem rEff_any (i : Cd.In) (B : Nat) (la : Option Addr) (lc : Nat) (l : List Cd.Co) (w : World) (hB : B ≤ w.heap.size) (hc : CoS B w la l) (h1 : 1 ≤ i.op) (h2 : i.op ≤ 25) (h9 : i.op = 19 → 0 ≤ i.n ∧ i.n < l.length) : Calls Tryd.prog 71 #[.slice la l.length lc, inV i] w fun e w' => e = .returned (.tuple #[.int .i64 (Cd.tk i), .int .i64 (Cd.lv l i)]) ∧ Below w.heap.size w w' := by
  obtain ⟨op, n, m⟩ := i
  dsimp only at h1 h2 h9
  by_cases e : op = 19
  · subst e
    obtain ⟨k, rfl⟩ : ∃ k : Nat, n = k := ⟨n.toNat, by have := h9 rfl; omega⟩
    exact rEff_call k m _ B la lc l w hB hc (List.getElem?_eq_getElem (by have := h9 rfl; omega))
  · obtain ⟨k, rfl⟩ : ∃ k : Nat, op = k := ⟨op.toNat, by omega⟩
    exact rEff_no k n m B la lc l w (by omega) (by omega) (by omega)
def FlS (B : Nat) (w : World) (a : Option Addr) (l : List Int) : Prop := 0 < l.length → ∃ g, a = some ⟨g, 0, none⟩ ∧ B ≤ g ∧ g < w.heap.size ∧ ∀ j x, l[j]? = some x → w.cell? ⟨g, j, none⟩ = some (.int .i64 x)
def FlE (w : World) (l : List Int) (e : Ending) (w' : World) : Prop := ∃ a c, e = .returned (.slice a l.length c) ∧ FlS w.heap.size w' a l ∧ Below w.heap.size w w'
theorem flE_one {w w' : World} {B : Nat} {x : Int} (hb : Below w.heap.size w w') (h : w.heap.size ≤ B) (hl : B < w'.heap.size) (hc : w'.cell? ⟨B, 0, none⟩ = some (.int .i64 x)) : FlE w [x] (.returned (.slice (some ⟨B, 0, none⟩) 1 1)) w' :=
  ⟨some ⟨B, 0, none⟩, 1, rfl, fun _ => ⟨B, rfl, h, hl, fun j y hj => by
    match j, hj with
    | 0, hj => simp at hj; subst hj; exact hc
    | j + 1, hj => simp at hj⟩, hb⟩
theorem flE_row {w w' : World} {v : Value} {e : TypeId} {l : List Int} {n : Nat} (hn : n = l.length) (hb : Below w.heap.size w w') (h : w'.ownsRow w.heap.size e 1 v n (nC l)) : FlE w l (.returned v) w' := by
  have hc := @World.ownsRow.cells _ _ _ _ _ _ _ h
  have hl := World.ownsRow.lt h
  rcases h.2 with ⟨rfl, h0⟩ | ⟨g, cap, cur, rfl, hbb, _⟩
  · exact ⟨none, 0, by rw [← hn, h0], fun h1 => by omega, hb⟩
  · refine ⟨_, cap, by rw [hn], fun _ => ⟨g, rfl, hbb, (hl g rfl).2, fun j x hx => ?_⟩, hb⟩
    have := @hc g rfl j (.int .i64 x) (by simp [nC, hx])
    have e : (⟨g, 0, none⟩ : Addr).add j = ⟨g, j, none⟩ := by unfold Addr.add; split <;> simp_all
    rwa [e] at this
theorem one_at (w : World) (v : Value) (t : TypeId) : ∀ (j : Nat) u, [v][j]? = some u → (w.alloc (.cells #[v] t)).cell? ((⟨w.heap.size, 0, none⟩ : Addr).add j) = some u := by
  intro j u hj
  match j, hj with
  | 0, hj => simp at hj; subst hj; simp [Addr.add]
  | n + 1, hj => simp at hj
set_option maxRecDepth 100000 in
set_option maxHeartbeats 8000000 in
theorem rFol_any (i : Cd.In) (p : Nat) (hp : p ≤ 1000000) (w : World) : Calls Tryd.prog 72 #[inV i, .int .i64 p] w (FlE w (Cd.fl i p)) := by
  obtain ⟨i0, hi, hz0, hz1, hz2⟩ := info_parts cInt
  obtain ⟨op, n, m⟩ := i
  obtain ⟨W, hW⟩ : ∃ W, W = w.alloc (inB ⟨op, n, m⟩) := ⟨_, rfl⟩
  obtain ⟨b, hb⟩ : ∃ b, b = w.heap.size := ⟨_, rfl⟩
  obtain ⟨b0, b1, b2, bw⟩ := in_box w ⟨op, n, m⟩ b W hb hW
  dsimp only at b0 b1 b2
  have bl : b < W.heap.size := by rw [hb, hW]; simp
  have BW : Hid (Below w.heap.size w W) := bw
  have hnb : ¬ b = W.heap.size := by omega
  unfold Cd.fl
  dsimp only
  clear bw
  by_cases h20 : op = 20
  · subst h20
    rw [if_pos rfl]
    go_enter Tryd.func72, Tryd.ntmps72
    go_upto_region 1 with fail
    first | rw [← hW, ← hb] | rw [← hW]
    clear hW hb
    go_wp2_with fail
    go_ret
    exact ⟨none, 0, rfl, fun h => by simp at h, BW.out⟩
  · have e20 : (op == 20) = false := beq_eq_false_iff_ne.2 h20
    rw [if_neg h20]
    by_cases h17 : op = 17
    · subst h17
      rw [if_pos rfl]
      clear h20
      go_enter Tryd.func72, Tryd.ntmps72
      go_upto_region 1 with fail
      rw [← hW, ← hb]
      clear hW hb
      go_wp2_with fail
      go_ret
      exact flE_one (BW.out.trans (Below.mono (by go_grown) BW.out.size)) BW.out.size (by simp) (by simp [go_sem])
    · have e17 : (op == 17) = false := beq_eq_false_iff_ne.2 h17
      rw [if_neg h17]
      by_cases h18 : op = 18
      · subst h18
        rw [if_pos rfl]
        clear h20 h17
        obtain ⟨W4, hW4⟩ : ∃ W4, W4 = W.alloc (.cells #[.int .i64 ((p : Int) + 1)] 3) := ⟨_, rfl⟩
        have R4 : Hid (W4.ownsRow w.heap.size 3 1 (.slice (some ⟨W.heap.size, 0, none⟩) 1 1) 1 [.int .i64 ((p : Int) + 1)]) := by
          unfold Hid
          rw [hW4]
          exact World.ownsRow_lit W #[.int .i64 ((p : Int) + 1)] 1 BW.out.size (by unfold maxLen; omega) rfl
        have b4 : Below W.heap.size W W4 := by rw [hW4]; exact (Below.refl _ _).alloc (Nat.le_refl _) _
        have d0 := (b4.cell (p := ⟨b, 0, none⟩) bl).trans b0
        have d1 := (b4.cell (p := ⟨b, 1, none⟩) bl).trans b1
        have B4 : Hid (Below w.heap.size w W4) := BW.out.trans (b4.mono BW.out.size)
        have bl4 : b < W4.heap.size := Nat.lt_of_lt_of_le bl b4.size
        have nb4 : ¬ b = W4.heap.size := by omega
        have hz4 : w.heap.size ≤ W4.heap.size := B4.out.size
        have H63 : Hid (1 + 1 ≤ maxLen ∧ ((1 + 1) + (1 + 1) / 4 + 192) * 8 ≤ 281474976710656) := by unfold Hid maxLen; omega
        have ONE1 : Hid (∀ u ∈ [Value.int .i64 n], u.oneCell' = true) := fun y hy => by simp at hy; subst hy; rfl
        go_enter Tryd.func72, Tryd.ntmps72
        go_upto_region 1 with fail
        rw [← hW, ← hb]
        clear hW hb
        go_upto_region 6 with fail
        rw [← hW4]
        clear hW4 b4 b0 b1 b2 bl hnb
        go_wp2_with (at_builtin; refine wpList_append_own_wide _ rfl _ _ 96 rfl w.heap.size 3 i0 (.int .i64 0) 1 8 Tryd.underlying96 hi hz0 hz1 hz2 rfl (by decide) _ _ _ rfl (own_lat R4.out ((Below.refl _ _).alloc (Nat.le_refl _) _)) ⟨W4.heap.size, 0, none⟩ 1 1 [.int .i64 n] rfl rfl (one_at _ _ _) ONE1.out H63.out.1 H63.out.2 (by simp; omega) ?_)
        intro v9 w9 h9 g9 o9
        have FIN : Hid (FlE w [(p : Int) + 1, n] (.returned v9) w9) := flE_row (n := 1 + 1) rfl (B4.out.trans ⟨g9.os, g9.tape, g9.output, by have := g9.size; simp at this; omega, fun k hk => by
          have e1 := g9.block k (by simp; have := B4.out.size; omega) (fun e => by simp [Value.ownBlock] at e; have := BW.out.size; omega)
          rw [e1]
          exact ((Below.refl W4.heap.size W4).alloc (Nat.le_refl _) _).block k (by have := B4.out.size; omega)⟩) h9
        obtain ⟨va9, cap9, hv9⟩ := own_shp h9
        subst hv9
        clear h9 g9 o9
        go_wp2_with fail
        go_ret
        exact FIN.out
      · have e18 : (op == 18) = false := beq_eq_false_iff_ne.2 h18
        rw [if_neg h18]
        clear h20 h17 h18
        obtain ⟨W4, hW4⟩ : ∃ W4, W4 = W.alloc (.cells #[.int .i64 ((p : Int) + 1)] 3) := ⟨_, rfl⟩
        have b4 : Below W.heap.size W W4 := by rw [hW4]; exact (Below.refl _ _).alloc (Nat.le_refl _) _
        have d0 := (b4.cell (p := ⟨b, 0, none⟩) bl).trans b0
        have FIN : Hid (FlE w [(p : Int) + 1] (.returned (.slice (some ⟨W.heap.size, 0, none⟩) 1 1)) W4) := flE_one (BW.out.trans (b4.mono BW.out.size)) BW.out.size (by rw [hW4]; simp) (by rw [hW4]; simp [go_sem])
        go_enter Tryd.func72, Tryd.ntmps72
        go_upto_region 1 with fail
        rw [← hW, ← hb]
        clear hW hb
        go_upto_region 6 with fail
        rw [← hW4]
        clear hW4 b4 b0 b1 b2 bl hnb
        go_wp2_with fail
        go_ret
        exact FIN.out
end Go.Proofs.YtkjkiknpgggadaaDoor

namespace Go.Proofs.YtkjkiknpgggadaaDoor
open Go.RowKit
set_option linter.unusedVariables false
set_option linter.unusedSimpArgs false

theorem bsz (l : List UInt8) : (⟨l.toArray⟩ : ByteArray).size = l.length := by simp [ByteArray.size]
theorem sE_eq {s : ByteArray} {l : List UInt8} {e : Int} (h : s.data.toList = l) : Ending.returned (.tuple #[.string s, .int .i64 e]) = .returned (sE l e) := by
  rw [← h]
abbrev rowB (x : List UInt8) (n t l : Int) : Obj := .cells #[.string ⟨x.toArray⟩, .int .i64 n, .int .i64 t, .int .i64 l] 91
set_option maxRecDepth 100000 in
set_option maxHeartbeats 8000000 in
theorem rText_out (i : Cd.In) (w : World) (h : ¬ (1 ≤ i.op ∧ i.op ≤ 25)) : Calls Tryd.prog 94 #[inV i] w fun e w' => e = .returned (sE [] 61) ∧ Below w.heap.size w w' := by
  have EO : Hid (∀ W, Calls Tryd.prog 53 #[.int .i64 i.op] W fun e w' => e = .returned (.agg #[.string ⟨#[]⟩, .int .i64 0, .int .i64 0, .int .i64 0]) ∧ Below W.heap.size W w') := fun W => by
    have := rOf_any i.op W
    unfold ofV at this
    rw [if_neg h] at this
    exact this
  clear h
  go_enter Tryd.func94, Tryd.ntmps94
  go_wp2_with fail
  refine Calls.mono (EO.out _) ?_
  rintro e1 w1 ⟨rfl, b1⟩
  have B1 : Hid (Below w.heap.size w w1) := Below.trans (by go_grown) (b1.mono (by go_size))
  clear b1 EO
  go_wp2_with fail
  go_ret2
  exact ⟨rfl, B1.out.alloc B1.out.size _⟩
set_option maxRecDepth 100000 in
set_option maxHeartbeats 8000000 in
theorem rText_in (k : Nat) (n m : Int) (w : World) (h1 : 1 ≤ k) (h2 : k ≤ 25) (hok : Cd.In.Ok ⟨k, n, m⟩) : Calls Tryd.prog 94 #[inV ⟨k, n, m⟩] w fun e w' => e = .returned (txE ⟨k, n, m⟩) ∧ Below w.heap.size w w' := by
  obtain ⟨x, hx⟩ : ∃ x, x = Cd.wordL.getD k [] := ⟨_, rfl⟩
  obtain ⟨u, hu⟩ : ∃ u : Nat, Cd.nm k = u := by
    rcases Cd.nm_is k with e | e | e
    · exact ⟨0, e⟩
    · exact ⟨1, e⟩
    · exact ⟨2, e⟩
  have hu3 : u = 0 ∨ u = 1 ∨ u = 2 := by rcases Cd.nm_is k with e | e | e <;> omega
  obtain ⟨t, ht⟩ : ∃ t, t = Cd.takesL.getD k 0 := ⟨_, rfl⟩
  obtain ⟨v, hv⟩ : ∃ v, v = Cd.leavesL.getD k 0 := ⟨_, rfl⟩
  have EO : Hid (∀ W, Calls Tryd.prog 53 #[.int .i64 (k : Int)] W fun e w' => e = .returned (.agg #[.string ⟨x.toArray⟩, .int .i64 (u : Int), .int .i64 t, .int .i64 v]) ∧ Below W.heap.size W w') := fun W => by
    have := rOf_any (k : Int) W
    unfold ofV at this
    rw [if_pos ⟨by omega, by omega⟩, hu] at this
    unfold Cd.wd at this
    rw [Int.toNat_natCast, ← hx, ← ht, ← hv] at this
    exact this
  have xne : x ≠ [] := by rw [hx]; exact Cd.word_some k (by omega) h1
  have XL : Hid (x.length ≤ 30) := by rw [hx]; exact word_len k (by omega)
  have NL : Hid ((Lib.itoa n).length ≤ 21) := Pl.itoa_len n hok.2.1.1 hok.2.1.2
  have ML : Hid ((Lib.itoa m).length ≤ 21) := Pl.itoa_len m hok.2.2.1 hok.2.2.2
  have ET : Hid (∀ W, Calls Tryd.prog 99 #[.int .i64 n] W fun e w' => e = .returned (.string ⟨(Lib.itoa n).toArray⟩) ∧ Below W.heap.size W w') := fun W => rtext_any n W hok.2.1.1 hok.2.1.2
  have EU : Hid (∀ W, Calls Tryd.prog 99 #[.int .i64 m] W fun e w' => e = .returned (.string ⟨(Lib.itoa m).toArray⟩) ∧ Below W.heap.size W w') := fun W => rtext_any m W hok.2.2.1 hok.2.2.2
  have TX : Hid (Cd.tx ⟨k, n, m⟩ = Lib.join ([x, Lib.itoa n, Lib.itoa m].take (1 + u)) [32]) := by
    unfold Hid Cd.tx Cd.lw Cd.wd
    dsimp only
    rw [hu, Int.toNat_natCast, Int.toNat_natCast, hx]
  have HLL : Hid (Cd.hl ⟨k, n, m⟩ = ((n == 0 || decide (0 < (u : Int))) && (m == 0 || decide (1 < (u : Int))))) := by
    unfold Hid Cd.hl
    dsimp only
    rw [decide_eq_true (by omega : (1 : Int) ≤ k), decide_eq_true (by omega : (k : Int) ≤ 25), hu]
    simp
  obtain ⟨W, hW⟩ : ∃ W, W = w.alloc (inB ⟨k, n, m⟩) := ⟨_, rfl⟩
  obtain ⟨b, hb⟩ : ∃ b, b = w.heap.size := ⟨_, rfl⟩
  obtain ⟨b0, b1, b2, bw⟩ := in_box w ⟨k, n, m⟩ b W hb hW
  dsimp only at b0 b1 b2
  have bl : b < W.heap.size := by rw [hb, hW]; simp
  have BW : Hid (Below w.heap.size w W) := bw
  have xeb : (x == []) = false := beq_eq_false_iff_ne.2 xne
  have xec : (([] : List UInt8) == x) = false := beq_eq_false_iff_ne.2 (fun e => xne e.symm)
  clear hok hx hu ht hv bw xne h1 h2
  go_enter Tryd.func94, Tryd.ntmps94
  go_upto_region 1 with fail
  rw [← hW, ← hb]
  clear hW hb
  go_wp2_with fail
  refine Calls.mono (EO.out _) ?_
  rintro e1 w1 ⟨rfl, y1⟩
  have B1 : Hid (Below w.heap.size w w1) := BW.out.trans (y1.mono BW.out.size)
  have d1 := (y1.cell (p := ⟨b, 1, none⟩) bl).trans b1
  have d2 := (y1.cell (p := ⟨b, 2, none⟩) bl).trans b2
  have bl1 : b < w1.heap.size := Nat.lt_of_lt_of_le bl y1.size
  have nb1 : ¬ b = w1.heap.size := Nat.ne_of_lt bl1
  clear y1 EO b0 b1 b2 bl BW
  obtain ⟨W5, hW5⟩ : ∃ W5, W5 = w1.alloc (rowB x u t v) := ⟨_, rfl⟩
  obtain ⟨rb, hrb⟩ : ∃ rb, rb = w1.heap.size := ⟨_, rfl⟩
  have b5 : Below w1.heap.size w1 W5 := by rw [hW5]; exact (Below.refl _ _).alloc (Nat.le_refl _) _
  have r0 : W5.cell? ⟨rb, 0, none⟩ = some (.string ⟨x.toArray⟩) := by rw [hW5, hrb]; simp [go_sem]
  have r1 : W5.cell? ⟨rb, 1, none⟩ = some (.int .i64 (u : Int)) := by rw [hW5, hrb]; simp [go_sem]
  have rl : rb < W5.heap.size := by rw [hW5, hrb]; simp
  have f1 := (b5.cell (p := ⟨b, 1, none⟩) bl1).trans d1
  have f2 := (b5.cell (p := ⟨b, 2, none⟩) bl1).trans d2
  have bl5 : b < W5.heap.size := Nat.lt_of_lt_of_le bl1 b5.size
  have B5 : Hid (Below w.heap.size w W5) := B1.out.trans (b5.mono B1.out.size)
  clear b5 d1 d2 bl1 nb1 B1
  go_upto_region 2 with fail
  rw [← hW5, ← hrb]
  clear hW5 hrb
  rcases hu3 with rfl | rfl | rfl
  · by_cases hn : n = 0
    · by_cases hm : m = 0
      · have en : (n == 0) = true := by rw [hn]; rfl
        have gn : (n != 0) = false := by simp [bne, en]
        have em : (m == 0) = true := by rw [hm]; rfl
        have gm : (m != 0) = false := by simp [bne, em]
        have EV : Hid (txE ⟨k, n, m⟩ = sE (Lib.join ([x, Lib.itoa n, Lib.itoa m].take (1 + 0)) [32]) 0) := by
          unfold Hid txE
          rw [if_pos (by rw [HLL.out]; rw [en, em]; decide), TX.out]
        clear HLL TX
        clear hn hm
        go_wp2_with fail
        go_ret2
        exact ⟨by rw [EV.out]; exact sE_eq (by simp [Lib.join]), B5.out⟩
      · have en : (n == 0) = true := by rw [hn]; rfl
        have gn : (n != 0) = false := by simp [bne, en]
        have em : (m == 0) = false := beq_eq_false_iff_ne.2 hm
        have gm : (m != 0) = true := by simp [bne, em]
        have EV : Hid (txE ⟨k, n, m⟩ = sE [] 61) := by
          unfold Hid txE
          rw [if_neg (by rw [HLL.out]; rw [en, em]; decide)]
        clear HLL TX
        go_wp2_with fail
        go_ret2
        exact ⟨by rw [EV.out]; rfl, B5.out⟩
    · have en : (n == 0) = false := beq_eq_false_iff_ne.2 hn
      have gn : (n != 0) = true := by simp [bne, en]
      have EV : Hid (txE ⟨k, n, m⟩ = sE [] 61) := by
        unfold Hid txE
        rw [if_neg (by rw [HLL.out]; rw [en]; simp)]
      clear HLL TX
      go_wp2_with fail
      go_ret2
      exact ⟨by rw [EV.out]; rfl, B5.out⟩
  · by_cases hm : m = 0
    · have em : (m == 0) = true := by rw [hm]; rfl
      have gm : (m != 0) = false := by simp [bne, em]
      have EV : Hid (txE ⟨k, n, m⟩ = sE (Lib.join ([x, Lib.itoa n, Lib.itoa m].take (1 + 1)) [32]) 0) := by
        unfold Hid txE
        rw [if_pos (by rw [HLL.out]; rw [em]; simp), TX.out]
      clear HLL TX
      clear hm
      have z1 : (⟨x.toArray⟩ : ByteArray).size + (⟨#[32]⟩ : ByteArray).size ≤ 9223372036854775807 := by have := XL.out; simp only [ByteArray.size_append, bsz, List.length_cons, List.length_nil]; omega
      go_wp2_with fail
      refine Calls.mono (ET.out _) ?_
      rintro e2 w2 ⟨rfl, y2⟩
      have B6 : Hid (Below w.heap.size w w2) := B5.out.trans (y2.mono B5.out.size)
      have q1 := (y2.cell (p := ⟨rb, 1, none⟩) rl).trans r1
      have z2 : ((⟨x.toArray⟩ : ByteArray) ++ (⟨#[32]⟩ : ByteArray)).size + (⟨(Lib.itoa n).toArray⟩ : ByteArray).size ≤ 9223372036854775807 := by have h1 := XL.out; have h2 := NL.out; simp only [ByteArray.size_append, bsz, List.length_cons, List.length_nil]; omega
      clear y2 r0 r1 f1 f2 ET EU B5
      go_wp2_with fail
      go_ret2
      refine ⟨?_, B6.out⟩
      rw [EV.out]
      refine sE_eq ?_
      show _ = Lib.join [x, Lib.itoa n] [32]
      rw [Pl.join_cons2]
      simp [Lib.join]
    · have em : (m == 0) = false := beq_eq_false_iff_ne.2 hm
      have gm : (m != 0) = true := by simp [bne, em]
      have EV : Hid (txE ⟨k, n, m⟩ = sE [] 61) := by
        unfold Hid txE
        rw [if_neg (by rw [HLL.out]; rw [em]; simp)]
      clear HLL TX
      go_wp2_with fail
      go_ret2
      exact ⟨by rw [EV.out]; rfl, B5.out⟩
  · have hx2 : True := trivial
    clear hx2
    have EV : Hid (txE ⟨k, n, m⟩ = sE (Lib.join ([x, Lib.itoa n, Lib.itoa m].take (1 + 2)) [32]) 0) := by
      unfold Hid txE
      rw [if_pos (by rw [HLL.out]; simp), TX.out]
    clear HLL TX
    have z1 : (⟨x.toArray⟩ : ByteArray).size + (⟨#[32]⟩ : ByteArray).size ≤ 9223372036854775807 := by have := XL.out; simp only [ByteArray.size_append, bsz, List.length_cons, List.length_nil]; omega
    go_wp2_with fail
    refine Calls.mono (ET.out _) ?_
    rintro e2 w2 ⟨rfl, y2⟩
    have B6 : Hid (Below w.heap.size w w2) := B5.out.trans (y2.mono B5.out.size)
    have q1 := (y2.cell (p := ⟨rb, 1, none⟩) rl).trans r1
    have q2 := (y2.cell (p := ⟨b, 2, none⟩) bl5).trans f2
    have z2 : ((⟨x.toArray⟩ : ByteArray) ++ (⟨#[32]⟩ : ByteArray)).size + (⟨(Lib.itoa n).toArray⟩ : ByteArray).size ≤ 9223372036854775807 := by have h1 := XL.out; have h2 := NL.out; simp only [ByteArray.size_append, bsz, List.length_cons, List.length_nil]; omega
    have z3 : ((⟨x.toArray⟩ : ByteArray) ++ (⟨#[32]⟩ : ByteArray) ++ (⟨(Lib.itoa n).toArray⟩ : ByteArray)).size + (⟨#[32]⟩ : ByteArray).size ≤ 9223372036854775807 := by have h1 := XL.out; have h2 := NL.out; simp only [ByteArray.size_append, bsz, List.length_cons, List.length_nil]; omega
    clear y2 r0 r1 f1 f2 ET B5
    go_wp2_with fail
    refine Calls.mono (EU.out _) ?_
    rintro e3 w3 ⟨rfl, y3⟩
    have B7 : Hid (Below w.heap.size w w3) := B6.out.trans (y3.mono B6.out.size)
    have z4 : ((⟨x.toArray⟩ : ByteArray) ++ (⟨#[32]⟩ : ByteArray) ++ (⟨(Lib.itoa n).toArray⟩ : ByteArray) ++ (⟨#[32]⟩ : ByteArray)).size + (⟨(Lib.itoa m).toArray⟩ : ByteArray).size ≤ 9223372036854775807 := by have h1 := XL.out; have h2 := NL.out; have h3 := ML.out; simp only [ByteArray.size_append, bsz, List.length_cons, List.length_nil]; omega
    clear y3 q1 q2 EU B6
    go_wp2_with fail
    go_ret2
    refine ⟨?_, B7.out⟩
    rw [EV.out]
    refine sE_eq ?_
    show _ = Lib.join [x, Lib.itoa n, Lib.itoa m] [32]
    rw [Pl.join_cons2, Pl.join_cons2]
    simp [Lib.join]
theorem rText_any (i : Cd.In) (w : World) (hok : i.Ok) : Calls Tryd.prog 94 #[inV i] w fun e w' => e = .returned (txE i) ∧ Below w.heap.size w w' := by
  by_cases h : 1 ≤ i.op ∧ i.op ≤ 25
  · obtain ⟨op, n, m⟩ := i
    dsimp only at h
    obtain ⟨k, rfl⟩ : ∃ k : Nat, op = k := ⟨op.toNat, by omega⟩
    exact rText_in k n m w (by omega) (by omega) hok
  · have : txE i = sE [] 61 := by
      unfold txE
      rw [if_neg (fun hh => h ⟨(Cd.hl_op hh).1, (Cd.hl_op hh).2.1⟩)]
    rw [this]
    exact rText_out i w h
end Go.Proofs.YtkjkiknpgggadaaDoor

