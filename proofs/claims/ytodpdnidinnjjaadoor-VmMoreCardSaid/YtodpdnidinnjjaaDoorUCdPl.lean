/- Layer 8, plain: instructions, codes, and the heights of a code's places. No Go in sight; no condition. -/
import Derived.RowKit
namespace Go.Proofs.YtodpdnidinnjjaaDoor.Cd
open Go.RowKit

/-- An instruction. -/
structure In where
  op : Int
  n : Int
  m : Int
/-- A code. -/
structure Co where
  ins : List In
  cells : Int
  params : Int
  ans : Bool
/-- How many numbers stand in an operation's line; what it takes, and leaves. -/
def numsL : List Int := [0, 1, 1, 1, 2, 2, 2, 0, 0, 0, 0, 0, 0, 0, 0, 0, 0, 1, 1, 2, 1, 0, 0, 0, 2, 0]
def takesL : List Int := [0, 0, 0, 1, 1, 2, 0, 2, 2, 2, 2, 2, 2, 2, 2, 1, 1, 0, 1, 0, 0, 1, 0, 1, 0, 1]
def leavesL : List Int := [0, 1, 1, 0, 1, 0, 0, 1, 1, 1, 1, 1, 1, 1, 1, 1, 1, 0, 0, 0, 0, 0, 1, 0, 0, 0]
def nm (op : Int) : Int := numsL.getD op.toNat 0
/-- Whether an instruction has a line. -/
def hl (i : In) : Bool := decide (1 ≤ i.op) && decide (i.op ≤ 25) && (i.n == 0 || decide (0 < nm i.op)) && (i.m == 0 || decide (1 < nm i.op))
def an (c : Co) : Int := if c.ans then 1 else 0
/-- Whether there are so many cells from the first one on. -/
def hc (c : Co) (f s : Int) : Bool := decide (0 ≤ f) && decide (f ≤ c.cells - s)
/-- Whether a call is of a code of at most B parameters, with what that one is given. -/
def mc (B : Int) (l : List Co) (i : In) : Bool := decide (0 ≤ i.n) && decide (0 ≤ i.m) && (match l[i.n.toNat]? with | some d => i.m == d.params && decide (d.params ≤ B) | none => false)
/-- Whether the numbers of an instruction are as they must be. -/
def al (B : Int) (l : List Co) (c : Co) (i : In) : Bool :=
  if i.op = 2 ∨ i.op = 3 then hc c i.n 1
  else if i.op = 4 ∨ i.op = 5 ∨ i.op = 6 then decide (1 ≤ i.m) && decide (i.m ≤ 64) && hc c i.n i.m
  else if i.op = 17 ∨ i.op = 18 then decide (0 ≤ i.n) && decide (i.n < c.ins.length)
  else if i.op = 19 then mc B l i
  else if i.op = 20 then i.n == an c
  else if i.op = 24 then decide (0 ≤ i.n) && decide (1 ≤ i.m) && decide (i.m ≤ 3)
  else true
/-- Whether a code has as much of everything as it may. -/
def sz (c : Co) : Bool := decide (1 ≤ c.ins.length) && decide (c.ins.length ≤ 65536) && decide (0 ≤ c.cells) && decide (c.cells ≤ 65536) && decide (0 ≤ c.params) && decide (c.params ≤ 8) && decide (c.params ≤ c.cells)
/-- What an instruction takes, and leaves. -/
def tk (i : In) : Int := if i.op = 19 then i.m else if i.op = 20 then i.n else takesL.getD i.op.toNat 0
def lv (l : List Co) (i : In) : Int := if i.op = 19 then (match l[i.n.toNat]? with | some d => an d | none => 0) else if i.op = 20 then 0 else leavesL.getD i.op.toNat 0
/-- The two places that may come next of one that is no leave's. -/
def n1 (i : In) (p : Int) : Int := if i.op = 17 then i.n else p + 1
def n2 (i : In) (p : Int) : Int := if i.op = 17 ∨ i.op = 18 then i.n else p + 1
/-- Whether the stack may have no more than what is taken. -/
def bare (i : In) : Bool := decide (i.op = 20) || decide (i.op = 24)
/-- A place that can be reached, at a height. -/
inductive Rc (l : List Co) (c : Co) : Int → Int → Prop
  | zero : Rc l c 0 0
  | one (p h : Int) (i : In) (r : Rc l c p h) (hp : 0 ≤ p) (e : c.ins[p.toNat]? = some i) (ho : i.op ≠ 20) : Rc l c (n1 i p) (h - tk i + lv l i)
  | two (p h : Int) (i : In) (r : Rc l c p h) (hp : 0 ≤ p) (e : c.ins[p.toNat]? = some i) (ho : i.op ≠ 20) : Rc l c (n2 i p) (h - tk i + lv l i)
/-- What is asked of a place that can be reached. -/
def Lo (c : Co) (p h : Int) : Prop := 0 ≤ p ∧ ∃ i, c.ins[p.toNat]? = some i ∧ tk i ≤ h ∧ h ≤ 4096 ∧ (bare i = true → h = tk i)
/-- A code is as it must be among others. -/
structure Fit (B : Int) (l : List Co) (c : Co) : Prop where
  sz : sz c = true
  al : ∀ i, i ∈ c.ins → hl i = true ∧ al B l c i = true
  lo : ∀ p h, Rc l c p h → Lo c p h
  eq : ∀ p h h', Rc l c p h → Rc l c p h' → h = h'
/-- A row of heights from which one can not go wrong, and in which nothing stands that can not be reached. -/
structure Cl (l : List Co) (c : Co) (H : List Int) : Prop where
  len : H.length = c.ins.length
  zero : H[0]? = some 0
  rc : ∀ (p : Nat) h, H[p]? = some h → h = -1 ∨ Rc l c p h
  go : ∀ (p : Nat) h i, H[p]? = some h → h ≠ -1 → c.ins[p]? = some i → tk i ≤ h ∧ h ≤ 4096 ∧ (bare i = true → h = tk i) ∧ (i.op ≠ 20 → 0 ≤ n1 i p ∧ 0 ≤ n2 i p ∧ H[(n1 i p).toNat]? = some (h - tk i + lv l i) ∧ H[(n2 i p).toNat]? = some (h - tk i + lv l i) ∧ 0 ≤ h - tk i + lv l i)
theorem Cl.all {l : List Co} {c : Co} {H : List Int} (h : Cl l c H) {p x : Int} (r : Rc l c p x) : 0 ≤ p ∧ H[p.toNat]? = some x ∧ 0 ≤ x := by
  induction r with
  | zero => exact ⟨by omega, h.zero, by omega⟩
  | one p x i r hp e ho ih =>
    obtain ⟨a, b, c1⟩ := ih
    have g := h.go p.toNat x i b (by omega) e
    rw [Int.toNat_of_nonneg a] at g
    obtain ⟨_, _, _, g⟩ := g
    obtain ⟨g1, _, g3, _, g5⟩ := g ho
    exact ⟨g1, g3, g5⟩
  | two p x i r hp e ho ih =>
    obtain ⟨a, b, c1⟩ := ih
    have g := h.go p.toNat x i b (by omega) e
    rw [Int.toNat_of_nonneg a] at g
    obtain ⟨_, _, _, g⟩ := g
    obtain ⟨_, g2, _, g4, g5⟩ := g ho
    exact ⟨g2, g4, g5⟩
/-- A row of heights as they must be: the code is as it must be. -/
theorem Cl.fit {B : Int} {l : List Co} {c : Co} {H : List Int} (h : Cl l c H) (hs : sz c = true) (ha : ∀ i, i ∈ c.ins → hl i = true ∧ al B l c i = true) : Fit B l c := by
  refine ⟨hs, ha, fun p x r => ?_, fun p x x' r r' => ?_⟩
  · obtain ⟨a, b, d⟩ := h.all r
    obtain ⟨hb, _⟩ := List.getElem?_eq_some_iff.1 b
    rw [h.len] at hb
    have e := List.getElem?_eq_getElem hb
    obtain ⟨g1, g2, g3, _⟩ := h.go _ _ _ b (by omega) e
    exact ⟨a, _, e, g1, g2, g3⟩
  · have a := (h.all r).2.1
    have b := (h.all r').2.1
    rw [a] at b
    exact Option.some.inj b
theorem Cl.uniq {l : List Co} {c : Co} {H K : List Int} (h : Cl l c H) (k : Cl l c K) : H = K := by
  apply List.ext_getElem?
  intro j
  by_cases hj : j < c.ins.length
  · obtain ⟨y, hy⟩ : ∃ y, H[j]? = some y := ⟨_, List.getElem?_eq_getElem (by rw [h.len]; exact hj)⟩
    obtain ⟨z, hz⟩ : ∃ z, K[j]? = some z := ⟨_, List.getElem?_eq_getElem (by rw [k.len]; exact hj)⟩
    rw [hy, hz]
    rcases h.rc j y hy with e | r
    · rcases k.rc j z hz with e' | r'
      · rw [e, e']
      · have a := (h.all r').2
        rw [Int.toNat_natCast, hy] at a
        exact a.1
    · have a := (k.all r).2
      rw [Int.toNat_natCast, hz] at a
      exact a.1.symm
  · rw [List.getElem?_eq_none (by rw [h.len]; omega), List.getElem?_eq_none (by rw [k.len]; omega)]
/-- What the heights of a code among others are. -/
def HR (B : Int) (l : List Co) (c : Co) : Option (List Int) → Prop
  | none => ¬ Fit B l c
  | some H => Cl l c H ∧ Fit B l c
theorem HR.uniq {B : Int} {l : List Co} {c : Co} {r r' : Option (List Int)} (h : HR B l c r) (h' : HR B l c r') : r = r' := by
  match r, r', h, h' with
  | none, none, _, _ => rfl
  | none, some _, h, h' => exact absurd h'.2 h
  | some _, none, h, h' => exact absurd h.2 h'
  | some _, some _, h, h' => rw [h.1.uniq h'.1]
/-- What is found out where there is no fit. -/
theorem no_lo {B : Int} {l : List Co} {c : Co} {p h : Int} (r : Rc l c p h) (n : ¬ Lo c p h) : HR B l c none := fun f => n (f.lo p h r)
theorem no_eq {B : Int} {l : List Co} {c : Co} {p h h' : Int} (r : Rc l c p h) (r' : Rc l c p h') (n : h ≠ h') : HR B l c none := fun f => n (f.eq p h h' r r')
theorem no_sz {B : Int} {l : List Co} {c : Co} (n : ¬ sz c = true) : HR B l c none := fun f => n f.sz
theorem no_al {B : Int} {l : List Co} {c : Co} {i : In} (hi : i ∈ c.ins) (n : ¬ (hl i = true ∧ al B l c i = true)) : HR B l c none := fun f => n (f.al i hi)
/-- What the heights of the code k are. -/
def HK (B : Int) (l : List Co) (k : Int) (r : Option (List Int)) : Prop := (0 ≤ k ∧ ∃ c, l[k.toNat]? = some c ∧ HR B l c r) ∨ (¬ (0 ≤ k ∧ k.toNat < l.length) ∧ r = none)
theorem HK.uniq {B : Int} {l : List Co} {k : Int} {r r' : Option (List Int)} (h : HK B l k r) (h' : HK B l k r') : r = r' := by
  rcases h with ⟨a, c, e, h⟩ | ⟨a, rfl⟩
  · rcases h' with ⟨a', c', e', h'⟩ | ⟨a', rfl⟩
    · rw [e] at e'
      cases e'
      exact h.uniq h'
    · exact absurd ⟨a, (List.getElem?_eq_some_iff.1 e).1⟩ a'
  · rcases h' with ⟨a', c', e', h'⟩ | ⟨a', rfl⟩
    · exact absurd ⟨a', (List.getElem?_eq_some_iff.1 e').1⟩ a
    · rfl
/-- The codes are sound by main. -/
def Snd (B : Int) (l : List Co) (main : Int) : Prop := l.length ≤ 40 ∧ 0 ≤ main ∧ (∃ c, l[main.toNat]? = some c ∧ c.params = 0 ∧ c.ans = false) ∧ ∀ c, c ∈ l → Fit B l c
theorem al_mono {B B' : Int} {l : List Co} {c : Co} {i : In} (hB : ∀ d, d ∈ l → d.params ≤ B') (h : al B l c i = true) : al B' l c i = true := by
  have key : mc B l i = true → mc B' l i = true := by
    unfold mc
    cases e : l[i.n.toNat]? with
    | none => simp
    | some d =>
      simp
      intro h1 h2 h3 _
      exact ⟨⟨h1, h2⟩, h3, hB d (List.mem_of_getElem? e)⟩
  by_cases e : i.op = 19
  · simp only [al, e] at h ⊢
    exact key h
  · simpa [al, e] using h
/-- Sound is sound, however many parameters a call may hand over. -/
theorem snd_mono {B B' : Int} {l : List Co} {main : Int} (hB : 8 ≤ B') (h : Snd B l main) : Snd B' l main := by
  obtain ⟨h1, h2, h3, h4⟩ := h
  refine ⟨h1, h2, h3, fun c hc => ?_⟩
  obtain ⟨f1, f2, f3, f4⟩ := h4 c hc
  refine ⟨f1, fun i hi => ⟨(f2 i hi).1, al_mono (fun d hd => ?_) (f2 i hi).2⟩, f3, f4⟩
  have := (h4 d hd).sz
  unfold sz at this
  simp at this
  omega
end Go.Proofs.YtodpdnidinnjjaaDoor.Cd
