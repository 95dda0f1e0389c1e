/- VmMore, plain: more fuel changes nothing but an EvFuel at the end; more input nothing but a TrapInput at the end. -/
/- Layer 9: rows of events: SameEvents, ahead. -/
/- VmMore: three machines, and an input that is longer. -/
/- VmEnds, walked: a machine ends behind as many ticks as it has fuel, at most; its last event, and no other, is an end. -/
/- VmMore, walked: more fuel changes nothing but an EvFuel at the end; more input nothing but a TrapInput at the end. -/
import Derived.Test.YtodpdnidinnjjaaDoorUVmEn
import Derived.BigQuiet
import Derived.Test.YtodpdnidinnjjaaDoorUVmRo
namespace Go.Proofs.YtodpdnidinnjjaaDoor.Vm
open Go.RowKit
set_option linter.unusedVariables false
set_option linter.unusedSimpArgs false

def Mc.fg (M : Mc) (u : Int) (G : Gh) : Mc := { M with fuel := u, g := G }
theorem fg_ite {c : Prop} [Decidable c] (A B : Mc) (u : Int) (G : Gh) : (if c then A else B).fg u G = if c then A.fg u G else B.fg u G := by split <;> rfl
theorem jn_fg (M : Mc) (u : Int) (G : Gh) (op a b : Int) : jn (M.fg u G) op a b = (jn M op a b).fg u G := by
  unfold jn
  cases bt op a b <;> rfl
theorem rk_fg (M : Mc) (u : Int) (G : Gh) (f : Fr) (i : Cd.In) : rk (M.fg u G) f i = (rk M f i).fg u G := by
  unfold rk
  simp only [fg_ite]
  by_cases h1 : i.op = 1
  · simp only [if_pos h1]; rfl
  simp only [if_neg h1]
  by_cases h2 : i.op = 2
  · simp only [if_pos h2]; rfl
  simp only [if_neg h2]
  by_cases h3 : i.op = 3
  · simp only [if_pos h3]; rfl
  simp only [if_neg h3]
  by_cases h4 : i.op = 4
  · simp only [if_pos h4]
    unfold ix
    rw [fg_ite]
    rfl
  simp only [if_neg h4]
  by_cases h5 : i.op = 5
  · simp only [if_pos h5]
    unfold pt
    rw [fg_ite]
    rfl
  simp only [if_neg h5]
  by_cases h6 : i.op = 6
  · simp only [if_pos h6]; rfl
  simp only [if_neg h6]
  by_cases h15 : i.op = 15
  · simp only [if_pos h15]; rfl
  simp only [if_neg h15]
  by_cases h16 : i.op = 16
  · simp only [if_pos h16]; rfl
  simp only [if_neg h16]
  by_cases h25 : i.op = 25
  · simp only [if_pos h25]; rfl
  simp only [if_neg h25]
  exact jn_fg { M with stack := M.stack.dropLast.dropLast } u G _ _ _
theorem ex_fg (M : Mc) (u : Int) (G : Gh) (fs : List Fr) (f : Fr) (i : Cd.In) : ex (M.fg u G) fs f i = (ex M fs f i).fg u G := by
  unfold ex
  simp only [fg_ite]
  by_cases h1 : i.op = 17
  · simp only [if_pos h1]; rfl
  simp only [if_neg h1]
  by_cases h2 : i.op = 18
  · simp only [if_pos h2]; rfl
  simp only [if_neg h2]
  by_cases h3 : i.op = 19
  · simp only [if_pos h3]
    show (if M.frames.length = 50 then trp (M.fg u G) 4 else match M.codes[i.n.toNat]? with | some d => en (M.fg u G) i.n.toNat d.cells.toNat i.m.toNat | none => M.fg u G) = _
    cases M.codes[i.n.toNat]? <;> rfl
  simp only [if_neg h3]
  by_cases h4 : i.op = 20
  · simp only [if_pos h4]
    unfold lv
    rw [fg_ite]
    rfl
  simp only [if_neg h4]
  by_cases h5 : i.op = 21
  · simp only [if_pos h5]; rfl
  simp only [if_neg h5]
  by_cases h6 : i.op = 22
  · simp only [if_pos h6]
    unfold rd
    show (match M.input[M.read]? with | none => { M.fg u G with events := M.events ++ [(4, 5)], run := false } | some n => { M.fg u G with read := M.read + 1, events := M.events ++ [(2, n)], stack := M.stack ++ [n] }) = _
    cases M.input[M.read]? <;> rfl
  simp only [if_neg h6]
  by_cases h7 : i.op = 23
  · simp only [if_pos h7]; rfl
  simp only [if_neg h7]
  exact rk_fg M u G f i
def Mc.ig (M : Mc) (y : List Int) (G : Gh) : Mc := { M with input := y, g := G }
theorem ig_ite {c : Prop} [Decidable c] (A B : Mc) (y : List Int) (G : Gh) : (if c then A else B).ig y G = if c then A.ig y G else B.ig y G := by split <;> rfl
theorem jn_ig (M : Mc) (y : List Int) (G : Gh) (op a b : Int) : jn (M.ig y G) op a b = (jn M op a b).ig y G := by
  unfold jn
  cases bt op a b <;> rfl
theorem rk_ig (M : Mc) (y : List Int) (G : Gh) (f : Fr) (i : Cd.In) : rk (M.ig y G) f i = (rk M f i).ig y G := by
  unfold rk
  simp only [ig_ite]
  by_cases h1 : i.op = 1
  · simp only [if_pos h1]; rfl
  simp only [if_neg h1]
  by_cases h2 : i.op = 2
  · simp only [if_pos h2]; rfl
  simp only [if_neg h2]
  by_cases h3 : i.op = 3
  · simp only [if_pos h3]; rfl
  simp only [if_neg h3]
  by_cases h4 : i.op = 4
  · simp only [if_pos h4]
    unfold ix
    rw [ig_ite]
    rfl
  simp only [if_neg h4]
  by_cases h5 : i.op = 5
  · simp only [if_pos h5]
    unfold pt
    rw [ig_ite]
    rfl
  simp only [if_neg h5]
  by_cases h6 : i.op = 6
  · simp only [if_pos h6]; rfl
  simp only [if_neg h6]
  by_cases h15 : i.op = 15
  · simp only [if_pos h15]; rfl
  simp only [if_neg h15]
  by_cases h16 : i.op = 16
  · simp only [if_pos h16]; rfl
  simp only [if_neg h16]
  by_cases h25 : i.op = 25
  · simp only [if_pos h25]; rfl
  simp only [if_neg h25]
  exact jn_ig { M with stack := M.stack.dropLast.dropLast } y G _ _ _
theorem ex_ig (M : Mc) (y : List Int) (G : Gh) (fs : List Fr) (f : Fr) (i : Cd.In) (h6 : i.op ≠ 22) : ex (M.ig y G) fs f i = (ex M fs f i).ig y G := by
  unfold ex
  simp only [ig_ite]
  by_cases h1 : i.op = 17
  · simp only [if_pos h1]; rfl
  simp only [if_neg h1]
  by_cases h2 : i.op = 18
  · simp only [if_pos h2]; rfl
  simp only [if_neg h2]
  by_cases h3 : i.op = 19
  · simp only [if_pos h3]
    show (if M.frames.length = 50 then trp (M.ig y G) 4 else match M.codes[i.n.toNat]? with | some d => en (M.ig y G) i.n.toNat d.cells.toNat i.m.toNat | none => M.ig y G) = _
    cases M.codes[i.n.toNat]? <;> rfl
  simp only [if_neg h3]
  by_cases h4 : i.op = 20
  · simp only [if_pos h4]
    unfold lv
    rw [ig_ite]
    rfl
  simp only [if_neg h4]
  by_cases h5 : i.op = 21
  · simp only [if_pos h5]; rfl
  simp only [if_neg h5]
  simp only [if_neg h6]
  by_cases h7 : i.op = 23
  · simp only [if_pos h7]; rfl
  simp only [if_neg h7]
  exact rk_ig M y G f i

/-- The one begins the other. -/
def Pre (a b : List (Int × Int)) : Prop := ∃ t, b = a ++ t
theorem Pre.refl (a : List (Int × Int)) : Pre a a := ⟨[], by simp⟩
theorem Pre.trans {a b c : List (Int × Int)} (h : Pre a b) (k : Pre b c) : Pre a c := by
  obtain ⟨t, rfl⟩ := h
  obtain ⟨u, rfl⟩ := k
  exact ⟨t ++ u, by simp⟩
theorem ex_nx_fg (M : Mc) (u : Int) (G : Gh) (fs : List Fr) (f : Fr) (i : Cd.In) : ex (nx (M.fg u G) fs f) fs (fn f) i = (ex (nx M fs f) fs (fn f) i).fg u G := ex_fg (nx M fs f) u G fs (fn f) i
theorem WF.fg {B : Int} {M : Mc} (w : WF B M) {u : Int} (G : Gh) (h : 0 ≤ u) (h2 : M.ticks + u ≤ 10000000) : WF B (M.fg u G) := ⟨w.len, w.fit, w.fs, w.f1, w.f50, w.rd, w.inp, h, w.ti, h2⟩
/-- So many instructions, with more fuel. -/
theorem go_fg {B : Int} : ∀ (n : Nat) (M : Mc) (d : Int) (G : Gh), 0 ≤ d → WF B M → M.run = true → (go n (M.fg (M.fuel + d) G) = (go n M).fg ((go n M).fuel + d) G) ∨ ((go n M).run = true ∧ (go n M).ticks = M.ticks ∧ (go n (M.fg (M.fuel + d) G)).run = true ∧ (go n (M.fg (M.fuel + d) G)).ticks = M.ticks + 1 ∧ (go n (M.fg (M.fuel + d) G)).events = (go n M).events)
  | 0, M, d, G, hd, w, hr => .inl rfl
  | n + 1, M, d, G, hd, w, hr => by
    obtain ⟨fs, f, c, i, C0, S0, h, a⟩ := w.at
    have e1 := go_succ a n
    have e2 : go (n + 1) (M.fg (M.fuel + d) G) = if i.op = 24 then (if 0 < M.fuel + d then mk (nx (M.fg (M.fuel + d) G) fs f) fs (fn f) i else nx (M.fg (M.fuel + d) G) fs f) else if (ex (nx (M.fg (M.fuel + d) G) fs f) fs (fn f) i).run then go n (ex (nx (M.fg (M.fuel + d) G) fs f) fs (fn f) i) else ex (nx (M.fg (M.fuel + d) G) fs f) fs (fn f) i := by
      rw [go, it_of (M := M.fg (M.fuel + d) G) a.hf a.tp.hc a.hi]
      rfl
    by_cases h24 : i.op = 24
    · rw [if_pos h24] at e1 e2
      by_cases hf : 0 < M.fuel
      · rw [if_pos hf] at e1
        rw [if_pos (by omega)] at e2
        rw [e1, e2]
        left
        show mk (nx (M.fg (M.fuel + d) G) fs f) fs (fn f) i = (mk (nx M fs f) fs (fn f) i).fg (M.fuel - 1 + d) G
        have : M.fuel + d - 1 = M.fuel - 1 + d := by omega
        rw [← this]
        rfl
      · rw [if_neg hf] at e1
        by_cases hf2 : 0 < M.fuel + d
        · rw [if_pos hf2] at e2
          rw [e1, e2]
          exact .inr ⟨hr, rfl, hr, rfl, rfl⟩
        · rw [if_neg hf2] at e2
          rw [e1, e2]
          exact .inl rfl
    · rw [if_neg h24] at e1 e2
      rw [ex_nx_fg] at e2
      obtain ⟨kp, wn⟩ := ex_ok w hr a h24
      have hfu : (ex (nx M fs f) fs (fn f) i).fuel = M.fuel := kp.fu
      cases hx : (ex (nx M fs f) fs (fn f) i).run with
      | true =>
        rw [hx] at e1
        rw [show ((ex (nx M fs f) fs (fn f) i).fg (M.fuel + d) G).run = (ex (nx M fs f) fs (fn f) i).run from rfl, hx] at e2
        rw [e1, e2]
        simp only [if_true]
        have ih := go_fg n (ex (nx M fs f) fs (fn f) i) d G hd (wn hx) hx
        rw [hfu, kp.ti] at ih
        exact ih
      | false =>
        rw [hx] at e1
        rw [show ((ex (nx M fs f) fs (fn f) i).fg (M.fuel + d) G).run = (ex (nx M fs f) fs (fn f) i).run from rfl, hx] at e2
        rw [e1, e2]
        left
        simp only [Bool.false_eq_true, if_false]
        rw [hfu]
theorem fin_fg (t : Int) (M : Mc) (u : Int) (G : Gh) : fin t (M.fg u G) = (fin t M).fg u G := by
  unfold fin
  rw [fg_ite]
  rfl
/-- A step with more fuel. -/
theorem step_fg {B : Int} {M : Mc} (w : WF B M) (hr : M.run = true) (d : Int) (G : Gh) (hd : 0 ≤ d) : (step (M.fg (M.fuel + d) G) = (step M).fg ((step M).fuel + d) G ∧ ticked (M.fg (M.fuel + d) G) = ticked M) ∨ (ticked M = false ∧ ticked (M.fg (M.fuel + d) G) = true ∧ ∃ E, (step M).events = E ++ [(5, 0)] ∧ (step (M.fg (M.fuel + d) G)).events = E) := by
  have hr2 : (M.fg (M.fuel + d) G).run = true := hr
  rcases go_fg 1048576 M d G hd w hr with e | ⟨a1, a2, a3, a4, a5⟩
  · left
    unfold step ticked
    rw [if_pos hr, if_pos hr2, hr, hr2, e]
    refine ⟨?_, rfl⟩
    show fin M.ticks ((go 1048576 M).fg ((go 1048576 M).fuel + d) G) = _
    rw [fin_fg]
    congr 1
    unfold fin
    split <;> rfl
  · right
    unfold step ticked
    rw [if_pos hr, if_pos hr2, hr, hr2]
    show (true && decide ((go 1048576 M).ticks > M.ticks)) = false ∧ (true && decide ((go 1048576 (M.fg (M.fuel + d) G)).ticks > M.ticks)) = true ∧ ∃ E, (fin M.ticks (go 1048576 M)).events = E ++ [(5, 0)] ∧ (fin M.ticks (go 1048576 (M.fg (M.fuel + d) G))).events = E
    refine ⟨by rw [a2]; simp, by rw [a4]; simp; omega, (go 1048576 M).events, ?_, ?_⟩
    · unfold fin
      rw [if_pos ⟨a1, by omega⟩]
    · unfold fin
      rw [if_neg (fun h => h.2 (by omega))]
      exact a5
theorem nth_fg {B : Int} {M : Mc} (w : WF B M) (hr : M.run = true) (d : Int) (G : Gh) (hd : 0 ≤ d) : ∀ (j : Nat), (∀ i, i < j → ticked (nth i M) = true) → nth j (M.fg (M.fuel + d) G) = (nth j M).fg ((nth j M).fuel + d) G ∧ ∀ i, i < j → ticked (nth i (M.fg (M.fuel + d) G)) = true
  | 0, _ => ⟨rfl, fun i hi => by omega⟩
  | j + 1, h => by
    obtain ⟨e, ht⟩ := nth_fg w hr d G hd j fun i hi => h i (by omega)
    have o := on_all w hr j fun i hi => h i (by omega)
    have tj := h j (by omega)
    rcases step_fg o.wf o.run d G hd with ⟨s1, s2⟩ | ⟨s1, _⟩
    · refine ⟨by rw [nth_succ, nth_succ, e, s1], fun i hi => ?_⟩
      rcases Nat.lt_succ_iff_lt_or_eq.1 hi with h1 | h1
      · exact ht i h1
      · rw [h1, e, s2]
        exact tj
    · rw [tj] at s1
      cases s1
theorem nth_pre {B : Int} {M : Mc} (w : WF B M) (hr : M.run = true) {k : Nat} (hk : EndP M k) : ∀ j, j ≤ k + 1 → Pre (nth j M).events (nth (k + 1) M).events := fun j hj => by
  obtain ⟨t, ht⟩ : ∃ t, k + 1 = j + t := ⟨k + 1 - j, by omega⟩
  clear hj
  induction t generalizing j with
  | zero =>
    rw [show j = k + 1 by omega]
    exact Pre.refl _
  | succ t ih =>
    have o := on_all w hr j fun i hi => hk.tk i (by omega)
    obtain ⟨g, _⟩ := step_gd o.wf o.run
    obtain ⟨x, e, _⟩ := g.ev
    refine Pre.trans ⟨x, ?_⟩ (ih (j + 1) (by omega))
    rw [nth_succ]
    exact e
/-- What more fuel makes of the end. -/
theorem more_fu {B : Int} {M : Mc} (w : WF B M) (hr : M.run = true) (d : Int) (G : Gh) (hd : 0 ≤ d) (w2 : WF B (M.fg (M.fuel + d) G)) {k k2 : Nat} (hk : EndP M k) (hk2 : EndP (M.fg (M.fuel + d) G) k2) :
    (k = k2 ∧ (nth (k + 1) M).events = (nth (k2 + 1) (M.fg (M.fuel + d) G)).events) ∨ (k ≤ k2 ∧ ∃ E, (nth (k + 1) M).events = E ++ [(5, 0)] ∧ Pre E (nth (k2 + 1) (M.fg (M.fuel + d) G)).events) := by
  obtain ⟨e, ht⟩ := nth_fg w hr d G hd k hk.tk
  have o := on_all w hr k hk.tk
  rcases step_fg o.wf o.run d G hd with ⟨s1, s2⟩ | ⟨s1, s2, E, s3, s4⟩
  · left
    have hk' : EndP (M.fg (M.fuel + d) G) k := ⟨ht, by rw [e, s2]; exact hk.no⟩
    have := hk'.uniq hk2
    subst this
    refine ⟨rfl, ?_⟩
    rw [nth_succ, nth_succ, e, s1]
    rfl
  · right
    have hle : k + 1 ≤ k2 := by
      rcases Nat.lt_or_ge k k2 with h | h
      · exact h
      · have h2 := hk2.no
        rcases Nat.lt_or_eq_of_le h with h3 | h3
        · rw [ht k2 h3] at h2
          cases h2
        · rw [h3, e, s2] at h2
          cases h2
    refine ⟨by omega, E, by rw [nth_succ]; exact s3, ?_⟩
    have p := nth_pre (M := M.fg (M.fuel + d) G) w2 hr hk2 (k + 1) (by omega)
    rw [nth_succ, e, s4] at p
    exact p
/-- So many instructions, with more input. -/
theorem WF.ig {B : Int} {M : Mc} (w : WF B M) {x : List Int} (G : Gh) (h : (M.input ++ x).length ≤ 1000000) : WF B (M.ig (M.input ++ x) G) := ⟨w.len, w.fit, w.fs, w.f1, w.f50, by show M.read ≤ (M.input ++ x).length; have := w.rd; rw [List.length_append]; omega, h, w.fu, w.ti, w.su⟩
theorem go_ig {B : Int} : ∀ (n : Nat) (M : Mc) (x : List Int) (G : Gh), (M.input ++ x).length ≤ 1000000 → WF B M → M.run = true → (go n (M.ig (M.input ++ x) G) = (go n M).ig (M.input ++ x) G) ∨ ((go n M).run = false ∧ (go n M).ticks = M.ticks ∧ ∃ E, (go n M).events = E ++ [(4, 5)] ∧ Pre E (go n (M.ig (M.input ++ x) G)).events)
  | 0, M, x, G, hx, w, hr => .inl rfl
  | n + 1, M, x, G, hx, w, hr => by
    obtain ⟨fs, f, c, i, C0, S0, h, a⟩ := w.at
    have e1 := go_succ a n
    have e2 : go (n + 1) (M.ig (M.input ++ x) G) = if i.op = 24 then (if 0 < M.fuel then mk (nx (M.ig (M.input ++ x) G) fs f) fs (fn f) i else nx (M.ig (M.input ++ x) G) fs f) else if (ex (nx (M.ig (M.input ++ x) G) fs f) fs (fn f) i).run then go n (ex (nx (M.ig (M.input ++ x) G) fs f) fs (fn f) i) else ex (nx (M.ig (M.input ++ x) G) fs f) fs (fn f) i := by
      rw [go, it_of (M := M.ig (M.input ++ x) G) a.hf a.tp.hc a.hi]
      rfl
    by_cases h24 : i.op = 24
    · rw [if_pos h24] at e1 e2
      rw [e1, e2]
      left
      split <;> rfl
    · rw [if_neg h24] at e1 e2
      obtain ⟨kp, wn⟩ := ex_ok w hr a h24
      by_cases hcase : i.op = 22 ∧ M.input[M.read]? = none
      · obtain ⟨h22, hno⟩ := hcase
        have ex1 : ex (nx M fs f) fs (fn f) i = { nx M fs f with events := M.events ++ [(4, 5)], run := false } := by
          obtain ⟨op, n', z'⟩ := i
          dsimp only at h22
          subst h22
          show rd (nx M fs f) = _
          unfold rd
          rw [show (nx M fs f).input[(nx M fs f).read]? = none from hno]
        right
        rw [e1, ex1]
        simp only [Bool.false_eq_true, if_false]
        refine ⟨trivial, trivial, M.events, rfl, ?_⟩
        have w2 := w.ig (x := x) G hx
        obtain ⟨t, e3, _⟩ := (go_gd (n + 1) _ w2 hr).ev
        exact ⟨t, e3⟩
      · have ex2 : ex (nx (M.ig (M.input ++ x) G) fs f) fs (fn f) i = (ex (nx M fs f) fs (fn f) i).ig (M.input ++ x) G := by
          by_cases h22 : i.op = 22
          · obtain ⟨v, hv⟩ : ∃ v, M.input[M.read]? = some v := by
              cases hq : M.input[M.read]? with
              | none => exact absurd ⟨h22, hq⟩ hcase
              | some v => exact ⟨v, rfl⟩
            obtain ⟨op, n', z'⟩ := i
            dsimp only at h22
            subst h22
            show rd (nx (M.ig (M.input ++ x) G) fs f) = (rd (nx M fs f)).ig (M.input ++ x) G
            unfold rd
            rw [show (nx M fs f).input[(nx M fs f).read]? = some v from hv, show (nx (M.ig (M.input ++ x) G) fs f).input[(nx (M.ig (M.input ++ x) G) fs f).read]? = some v from (List.getElem?_append_left (List.getElem?_eq_some_iff.1 hv).1).trans hv]
            rfl
          · exact ex_ig (nx M fs f) (M.input ++ x) G fs (fn f) i h22
        rw [ex2] at e2
        cases hxr : (ex (nx M fs f) fs (fn f) i).run with
        | true =>
          rw [hxr] at e1
          rw [show ((ex (nx M fs f) fs (fn f) i).ig (M.input ++ x) G).run = (ex (nx M fs f) fs (fn f) i).run from rfl, hxr] at e2
          rw [e1, e2]
          simp only [if_true]
          have ih := go_ig n (ex (nx M fs f) fs (fn f) i) x G (by rw [kp.inp]; exact hx) (wn hxr) hxr
          rw [kp.inp, kp.ti] at ih
          exact ih
        | false =>
          rw [hxr] at e1
          rw [show ((ex (nx M fs f) fs (fn f) i).ig (M.input ++ x) G).run = (ex (nx M fs f) fs (fn f) i).run from rfl, hxr] at e2
          rw [e1, e2]
          left
          simp only [Bool.false_eq_true, if_false]
theorem fin_ig (t : Int) (M : Mc) (y : List Int) (G : Gh) : fin t (M.ig y G) = (fin t M).ig y G := by
  unfold fin
  rw [ig_ite]
  rfl
theorem step_ig {B : Int} {M : Mc} (w : WF B M) (hr : M.run = true) (x : List Int) (G : Gh) (hx : (M.input ++ x).length ≤ 1000000) : (step (M.ig (M.input ++ x) G) = (step M).ig (M.input ++ x) G ∧ ticked (M.ig (M.input ++ x) G) = ticked M) ∨ (ticked M = false ∧ ∃ E, (step M).events = E ++ [(4, 5)] ∧ Pre E (step (M.ig (M.input ++ x) G)).events) := by
  have hr2 : (M.ig (M.input ++ x) G).run = true := hr
  rcases go_ig 1048576 M x G hx w hr with e | ⟨a1, a2, E, a3, a4⟩
  · left
    unfold step ticked
    rw [if_pos hr, if_pos hr2, hr, hr2, e]
    refine ⟨?_, rfl⟩
    show fin M.ticks ((go 1048576 M).ig (M.input ++ x) G) = _
    rw [fin_ig]
  · right
    unfold step ticked
    rw [if_pos hr, if_pos hr2, hr]
    refine ⟨by rw [a2]; simp, E, ?_, a4.trans ?_⟩
    · unfold fin
      rw [if_neg (fun h => by rw [a1] at h; cases h.1)]
      exact a3
    · unfold fin
      split
      · exact ⟨[(5, 0)], rfl⟩
      · exact Pre.refl _
theorem nth_ig {B : Int} {M : Mc} (w : WF B M) (hr : M.run = true) (x : List Int) (G : Gh) (hx : (M.input ++ x).length ≤ 1000000) : ∀ (j : Nat), (∀ i, i < j → ticked (nth i M) = true) → nth j (M.ig (M.input ++ x) G) = (nth j M).ig (M.input ++ x) G ∧ ∀ i, i < j → ticked (nth i (M.ig (M.input ++ x) G)) = true
  | 0, _ => ⟨rfl, fun i hi => by omega⟩
  | j + 1, h => by
    obtain ⟨e, ht⟩ := nth_ig w hr x G hx j fun i hi => h i (by omega)
    have o := on_all w hr j fun i hi => h i (by omega)
    have tj := h j (by omega)
    have s := step_ig o.wf o.run x G (by rw [o.inp]; exact hx)
    rw [o.inp] at s
    rcases s with ⟨s1, s2⟩ | ⟨s1, _⟩
    · refine ⟨by rw [nth_succ, nth_succ, e, s1], fun i hi => ?_⟩
      rcases Nat.lt_succ_iff_lt_or_eq.1 hi with h1 | h1
      · exact ht i h1
      · rw [h1, e, s2]
        exact tj
    · rw [tj] at s1
      cases s1
/-- What more input makes of the end. -/
theorem more_in {B : Int} {M : Mc} (w : WF B M) (hr : M.run = true) (x : List Int) (G : Gh) (hx : (M.input ++ x).length ≤ 1000000) {k k2 : Nat} (hk : EndP M k) (hk2 : EndP (M.ig (M.input ++ x) G) k2) :
    (k = k2 ∧ (nth (k + 1) M).events = (nth (k2 + 1) (M.ig (M.input ++ x) G)).events) ∨ (k ≤ k2 ∧ ∃ E, (nth (k + 1) M).events = E ++ [(4, 5)] ∧ Pre E (nth (k2 + 1) (M.ig (M.input ++ x) G)).events) := by
  obtain ⟨e, ht⟩ := nth_ig w hr x G hx k hk.tk
  have o := on_all w hr k hk.tk
  have w2 := w.ig (x := x) G hx
  have hle : k ≤ k2 := by
    rcases Nat.lt_or_ge k2 k with h | h
    · have h2 := hk2.no
      rw [ht k2 h] at h2
      cases h2
    · exact h
  have s := step_ig o.wf o.run x G (by rw [o.inp]; exact hx)
  rw [o.inp] at s
  rcases s with ⟨s1, s2⟩ | ⟨s1, E, s3, s4⟩
  · left
    have hk' : EndP (M.ig (M.input ++ x) G) k := ⟨ht, by rw [e, s2]; exact hk.no⟩
    have := hk'.uniq hk2
    subst this
    refine ⟨rfl, ?_⟩
    rw [nth_succ, nth_succ, e, s1]
    rfl
  · right
    refine ⟨hle, E, by rw [nth_succ]; exact s3, ?_⟩
    have p := nth_pre (M := M.ig (M.input ++ x) G) w2 hr hk2 (k + 1) (by omega)
    rw [nth_succ, e] at p
    exact s4.trans p
end Go.Proofs.YtodpdnidinnjjaaDoor.Vm

namespace Go.Proofs.YtodpdnidinnjjaaDoor
open Go.RowKit
set_option linter.unusedVariables false
set_option linter.unusedSimpArgs false

/-- Events as they lie. -/
def EvS (w : World) (a : Option Addr) (l : List (Int × Int)) : Prop := 0 < l.length → ∃ g, a = some ⟨g, 0, none⟩ ∧ g < w.heap.size ∧ ∀ (j : Nat) e, l[j]? = some e → w.cell? ⟨g, j * 2, none⟩ = some (.int .i64 e.1) ∧ w.cell? ⟨g, j * 2 + 1, none⟩ = some (.int .i64 e.2)
theorem EvW.s {lo : Nat} {w : World} {a : Option Addr} {l : List (Int × Int)} (h : EvW lo w.heap.size w a l) : EvS w a l := fun h0 => by
  obtain ⟨g, e, _, h2, h3⟩ := h h0
  exact ⟨g, e, h2, h3⟩
theorem EvS.later {w w' : World} {a : Option Addr} {l : List (Int × Int)} (h : EvS w a l) (b : Below w.heap.size w w') : EvS w' a l := fun h0 => by
  obtain ⟨g, e, h2, h3⟩ := h h0
  exact ⟨g, e, Nat.lt_of_lt_of_le h2 b.size, fun j x hj => ⟨(b.cell (p := ⟨g, _, none⟩) h2).trans (h3 j x hj).1, (b.cell (p := ⟨g, _, none⟩) h2).trans (h3 j x hj).2⟩⟩
theorem EvS.pre {w : World} {a : Option Addr} {l t : List (Int × Int)} (h : EvS w a (l ++ t)) : EvS w a l := fun h0 => by
  obtain ⟨g, e, h2, h3⟩ := h (by rw [List.length_append]; omega)
  refine ⟨g, e, h2, fun j x hj => h3 j x ?_⟩
  rw [List.getElem?_append_left (List.getElem?_eq_some_iff.1 hj).1]
  exact hj
set_option maxRecDepth 100000 in
set_option maxHeartbeats 4000000 in
theorem vmEvents2 (m : Nat) (w : World) (V : VmV) (M : Vm.Mc) (h : VmS m w V M) (hb : M.events.length ≤ 1000000000) : Calls Tryd.prog 17 #[.pointer (some ⟨m, 0, none⟩)] w fun e w' => ∃ a c, e = .returned (.slice a M.events.length c) ∧ M.events.length ≤ c ∧ EvS w' a M.events ∧ Below w.heap.size w w' := by
  have ho : w.ownsRow (m + 1) 43 2 V.ev M.events.length (Vm.evC M.events) := h.rows.ob
  obtain ⟨sa, sc, hv⟩ := own_shp ho
  have c9 := h.cell.2.2.2.2.2.1
  rw [hv] at c9 ho
  have EC : Hid (Calls Tryd.prog 45 #[.slice sa M.events.length sc] w fun e w' => ∃ a c, e = .returned (.slice a M.events.length c) ∧ M.events.length ≤ c ∧ EvS w' a M.events ∧ Below w.heap.size w w') := by
    refine (cloneEv w sa M.events.length sc (Vm.evC M.events) (fun e => ?_) (evC_len _) (fun ad e => ?_) (evC_one _) (by omega)).mono fun e w' ⟨v', h1, h2, h3⟩ => ?_
    · subst e
      rcases ho.2 with ⟨_, e0⟩ | ⟨_, _, _, e, _⟩
      · exact e0
      · cases e
    · subst e
      rcases ho.2 with ⟨e, _⟩ | ⟨g, cap, cur, e, _⟩
      · cases e
      · cases e
        exact fun j u hu => @World.ownsRow.cells _ _ _ _ _ _ _ ho g rfl j u hu
    · obtain ⟨a, cap, e1, h4, h5⟩ := own_evW h2 rfl
      exact ⟨a, cap, by rw [h1, e1], h4, h5.s, h3⟩
  obtain ⟨n, hn⟩ : ∃ n, n = M.events.length := ⟨_, rfl⟩
  rw [← hn] at EC c9 ⊢
  clear h ho hv hb hn
  go_enter Tryd.func17, Tryd.ntmps17
  go_wp2_with fail
  refine Calls.mono EC.out ?_
  rintro e1 w1 ⟨a, c, rfl, h0, h1, h2⟩
  have FIN : Hid (∃ a' c', Ending.returned (.slice a n c) = .returned (.slice a' n c') ∧ n ≤ c' ∧ EvS w1 a' M.events ∧ Below w.heap.size w w1) := ⟨a, c, rfl, h0, h1, h2⟩
  clear h0 h1 h2 EC c9
  go_wp2_with fail
  go_ret
  first
    | exact FIN.out
    | simpa using FIN.out
theorem oEvents2 (lo m : Nat) (w : World) (V : VmV) (M : Vm.Mc) (h : VmO lo m w V M) (hb : M.events.length ≤ 1000000000) : Calls Tryd.prog 17 #[.pointer (some ⟨m, 0, none⟩)] w fun e w' => ∃ a c, e = .returned (.slice a M.events.length c) ∧ M.events.length ≤ c ∧ EvS w' a M.events ∧ Below w.heap.size w w' := vmEvents2 m w V (M.gh ⟨w, VOwn V, lo⟩) h.re hb
set_option maxRecDepth 100000 in
set_option maxHeartbeats 8000000 in
theorem sameEv_yes (w : World) (a b : Option Addr) (ca cb : Nat) (l : List (Int × Int)) (ha : EvS w a l) (hb : EvS w b l) (hl : l.length ≤ 1000000000) : Calls Tryd.prog 23 #[.slice a l.length ca, .slice b l.length cb] w fun e w' => e = .returned (.bool true) ∧ Below w.heap.size w w' := by
  have HA : Hid (EvS w a l) := ha
  have HB : Hid (EvS w b l) := hb
  obtain ⟨n, hn⟩ : ∃ n, n = l.length := ⟨_, rfl⟩
  have HN : Hid (n = l.length) := hn
  rw [← hn] at hl ⊢
  clear ha hb hn
  go_enter Tryd.func23, Tryd.ntmps23
  go_wp2_with fail
  go_loopg [5] n (fun gk i wr => ∃ k : Nat, k + gk = n ∧ i = .int .i64 k ∧ Hid (Below w.heap.size w wr))
  case atStart => exact ⟨0, by omega, rfl, Below.refl _ _⟩
  case round =>
    obtain ⟨k, hk, rfl, BR⟩ := hrel
    rcases gk with _ | gk
    · obtain rfl : k = n := by omega
      have hki : ¬ (k : Int) < (k : Int) := by omega
      have dk : decide ((k : Int) < (k : Int)) = false := decide_eq_false hki
      go_wp2_with fail
      go_ret
      exact ⟨rfl, BR.out⟩
    · have hlt : k < n := by omega
      have hki : (k : Int) < (n : Int) := by omega
      have dk : decide ((k : Int) < (n : Int)) = true := decide_eq_true hki
      have dkn : decide (k < n) = true := decide_eq_true hlt
      obtain ⟨x, hx⟩ : ∃ x, l[k]? = some x := ⟨_, List.getElem?_eq_getElem (by rw [← HN.out]; exact hlt)⟩
      obtain ⟨ga, rfl, hga, ca'⟩ := (HA.out.later BR.out) (by rw [← HN.out]; omega)
      obtain ⟨gb, rfl, hgb, cb'⟩ := (HB.out.later BR.out) (by rw [← HN.out]; omega)
      have a0 := (ca' k x hx).1
      have a1 := (ca' k x hx).2
      have b0 := (cb' k x hx).1
      have b1 := (cb' k x hx).2
      generalize x.1 = x1 at a0 b0
      generalize x.2 = x2 at a1 b1
      have q1 : (x1 == x1) = true := beq_self_eq_true x1
      have q2 : (x2 == x2) = true := beq_self_eq_true x2
      clear ca' cb' hx
      go_upto_region 6 with fail
      go_quiet (fail)
      have BQ := below_drewN BR.out nq
      generalize wr.drewN nq = W5 at BQ ⊢
      have BH : Hid (Below w.heap.size w W5) := BQ
      clear BQ a0 a1 b0 b1
      go_wp2_with fail
      go_roundg gk
      case measure => omega
      case rel => exact ⟨k + 1, by omega, by go_num, BH⟩
set_option maxRecDepth 100000 in
set_option maxHeartbeats 8000000 in
theorem ahead_yes (w : World) (a b : Option Addr) (ca cb : Nat) (l t : List (Int × Int)) (ha : EvS w a l) (hb : EvS w b (l ++ t)) (hcb : (l ++ t).length ≤ cb) (hl : (l ++ t).length ≤ 1000000000) : Calls Tryd.prog 22 #[.slice a l.length ca, .slice b (l ++ t).length cb] w fun e w' => e = .returned (.bool true) ∧ Below w.heap.size w w' := by
  have hll : l.length ≤ (l ++ t).length := by rw [List.length_append]; omega
  have ES : Hid (Calls Tryd.prog 23 #[.slice a l.length ca, .slice b l.length cb] w fun e w' => e = .returned (.bool true) ∧ Below w.heap.size w w') := sameEv_yes w a b ca cb l ha hb.pre (by omega)
  generalize (l ++ t).length = m at *
  generalize l.length = n at *
  clear ha hb
  have h1 : (n : Int) ≤ (m : Int) := by omega
  have d1 : decide ((n : Int) ≤ (m : Int)) = true := decide_eq_true h1
  have d2 : decide (n ≤ m) = true := decide_eq_true hll
  have h2 : (n : Int) ≤ (cb : Int) := by omega
  have h3 : (0 : Int) ≤ (n : Int) := by omega
  have h4 : n ≤ cb := by omega
  go_enter Tryd.func22, Tryd.ntmps22
  cases b with
  | none =>
    go_wp2_with fail
    refine Calls.mono ES.out ?_
    rintro e1 w1 ⟨rfl, b1⟩
    have FIN : Hid (Below w.heap.size w w1) := b1
    clear b1 ES
    go_wp2_with fail
    go_ret
    exact ⟨rfl, FIN.out⟩
  | some ad =>
    obtain ⟨ab, ao, asp⟩ := ad
    go_wp2_with fail
    refine Calls.mono ES.out ?_
    rintro e1 w1 ⟨rfl, b1⟩
    have FIN : Hid (Below w.heap.size w w1) := b1
    clear b1 ES
    go_wp2_with fail
    go_ret
    exact ⟨rfl, FIN.out⟩
end Go.Proofs.YtodpdnidinnjjaaDoor

namespace Go.Proofs.YtodpdnidinnjjaaDoor
open Go.RowKit
set_option linter.unusedVariables false
set_option linter.unusedSimpArgs false

theorem vmAmong2 (a n : Int) (hn : 0 < n) (hn2 : n ≤ 1000000) : ∃ r : Nat, (r : Int) < n ∧ ∀ w, Calls Tryd.prog 21 #[.int .i64 a, .int .i64 n] w fun e w' => e = .returned (.int .i64 (r : Int)) ∧ w' = w := by
  have hb1 := Int.tmod_lt_of_pos a hn
  have hb2 := Int.lt_tmod_of_pos a hn
  generalize hq : a.tmod n = q at hb1 hb2
  by_cases h0 : 0 ≤ q
  · refine ⟨q.toNat, by omega, fun w => ?_⟩
    go_enter Tryd.func21, Tryd.ntmps21
    go_wp2
    go_ret
    exact ⟨by rw [Int.toNat_of_nonneg h0]; rfl, rfl⟩
  · obtain ⟨r, hr⟩ : ∃ r : Nat, q + n = (r : Int) := ⟨(q + n).toNat, by omega⟩
    refine ⟨r, by omega, fun w => ?_⟩
    have HR : Hid (q + n = (r : Int)) := hr
    clear hr
    go_enter Tryd.func21, Tryd.ntmps21
    go_wp2
    go_ret
    exact ⟨by rw [← HR.out]; rfl, rfl⟩
theorem app_nums (w : World) (base : Nat) (v : Value) (xs : List Int) (own : w.ownsRow base 2 1 v xs.length (nC xs)) (hbase : base ≤ w.heap.size) (a : Option Addr) (c : Nat) (l : List Int) (h : NuS w.heap.size w a l) (hn : a = none → c = 0) (hb : xs.length + l.length ≤ 1000000) (ty : TypeId) : ∃ v' w', (Builtin.append_ #[23, 23] ty #[v, .slice a l.length c]).run Tryd.prog w = .ok v' w' ∧ w'.ownsRow base 2 1 v' (xs ++ l).length (nC (xs ++ l)) ∧ w.grownBy w' v.ownBlock := by
  obtain ⟨i0, hi, hz0, hz1, hz2⟩ := info_parts info64
  cases a with
  | none =>
    obtain rfl := hn rfl
    have hl0 : l = [] := by
      rcases Nat.eq_zero_or_pos l.length with h0 | h0
      · exact List.length_eq_zero_iff.1 h0
      · obtain ⟨g, o, e2, _⟩ := h h0
        cases e2
    subst hl0
    exact ⟨v, w, run_append_owned_none (P := Tryd.prog) w base 23 ty 2 i0 1 Tryd.underlying23 hi v xs.length (nC xs) own, by rw [List.append_nil]; exact own, ⟨rfl, rfl, rfl, Nat.le_refl _, fun _ _ _ => rfl⟩⟩
  | some ad =>
    have hx : ∀ j u, (nC l)[j]? = some u → w.cell? (ad.add j) = some u := by
      rcases Nat.eq_zero_or_pos l.length with h0 | h0
      · have : l = [] := List.length_eq_zero_iff.1 h0
        subst this
        intro j u hu
        simp [nC] at hu
      · obtain ⟨g, o, e2, _, hc⟩ := h h0
        cases e2
        intro j u hu
        rw [adM]
        simp only [nC, List.getElem?_map, Option.map_eq_some_iff] at hu
        obtain ⟨x, hx, rfl⟩ := hu
        exact hc j x hx
    obtain ⟨v', w', hr, h2, h3, _⟩ := run_append_own_wide (P := Tryd.prog) w base 23 ty 2 i0 (.int .i64 0) 1 8 Tryd.underlying23 hi hz0 hz1 hz2 rfl (by decide) v xs.length (nC xs) own ad l.length c (nC l) (by simp [nC]) hx (nC_one l) (by unfold maxLen; omega) (by omega) hbase
    refine ⟨v', w', hr, ?_, h3⟩
    rw [List.length_append]
    have e : nC (xs ++ l) = nC xs ++ nC l := by simp [nC]
    rw [e]
    exact h2
/-- Two appends: a longer input. -/
structure WdQ (X : World) (ia : Option Addr) (ic : Nat) (inp : List Int) (ja : Option Addr) (jc : Nat) (ins : List Int) (a1 : Option Addr) (n1 c1 : Nat) (X1 : World) (a2 : Option Addr) (c2 : Nat) (X2 : World) : Prop where
  r1 : (Builtin.append_ #[23, 23] 23 #[.slice none 0 0, .slice ia inp.length ic]).run Tryd.prog X = .ok (.slice a1 n1 c1) X1
  r2 : (Builtin.append_ #[23, 23] 23 #[.slice a1 n1 c1, .slice ja ins.length jc]).run Tryd.prog X1 = .ok (.slice a2 (inp ++ ins).length c2) X2
  nu : NuS X2.heap.size X2 a2 (inp ++ ins)
  b : Below X.heap.size X X2
theorem wide9 (X : World) (ia : Option Addr) (ic : Nat) (inp : List Int) (ja : Option Addr) (jc : Nat) (ins : List Int) (hi : NuS X.heap.size X ia inp) (hin : ia = none → ic = 0) (hj : NuS X.heap.size X ja ins) (hjn : ja = none → jc = 0) (hb : inp.length + ins.length ≤ 1000000) : ∃ a1 n1 c1 X1 a2 c2 X2, WdQ X ia ic inp ja jc ins a1 n1 c1 X1 a2 c2 X2 := by
  obtain ⟨v1, X1, r1, o1, g1⟩ := app_nums X X.heap.size (.slice none 0 0) [] (World.ownsRow_nil _ _ _ _) (Nat.le_refl _) ia ic inp hi hin (by simp; omega) 23
  have b1 : Below X.heap.size X X1 := grn_none g1
  have hj1 : NuS X1.heap.size X1 ja ins := fun h0 => by
    obtain ⟨g, o, e, hg, hc⟩ := (hj.later b1) h0
    exact ⟨g, o, e, Nat.lt_of_lt_of_le hg b1.size, hc⟩
  rw [List.nil_append] at o1
  obtain ⟨v2, X2, r2, o2, g2⟩ := app_nums X1 X.heap.size v1 inp o1 b1.size ja jc ins hj1 hjn hb 23
  obtain ⟨a1, c1, e1⟩ := own_shp o1
  subst e1
  have b2 : Below X.heap.size X X2 := b1.trans ⟨g2.os, g2.tape, g2.output, g2.size, fun k hk => g2.block k (Nat.lt_of_lt_of_le hk b1.size) (fun e => by have := (World.ownsRow.lt o1 k e.symm).1; omega)⟩
  obtain ⟨a2, c2, e2, _, nu⟩ := own_nuW o2 rfl
  subst e2
  exact ⟨a1, _, c1, X1, a2, c2, X2, r1, r2, nu.s, b2⟩
/-- Three machines. -/
structure K3 (z : Nat) (w : World) (la ma : Nat) (Va : VmV) (A : Vm.Mc) (lb mb : Nat) (Vb : VmV) (C : Vm.Mc) (lc mc : Nat) (Vc : VmV) (D : Vm.Mc) : Prop where
  a : VmO la ma w Va A
  b : VmO lb mb w Vb C
  c : VmO lc mc w Vc D
  ab : Dis la ma Va lb mb Vb
  ac : Dis la ma Va lc mc Vc
  bc : Dis lb mb Vb lc mc Vc
  za : z ≤ la
  zb : z ≤ lb
  zc : z ≤ lc
theorem K3.later {z : Nat} {w w' : World} {la ma lb mb lc mc : Nat} {Va Vb Vc : VmV} {A C D : Vm.Mc} (h : K3 z w la ma Va A lb mb Vb C lc mc Vc D) (b : Below w.heap.size w w') : K3 z w' la ma Va A lb mb Vb C lc mc Vc D := ⟨h.a.later b, h.b.later b, h.c.later b, h.ab, h.ac, h.bc, h.za, h.zb, h.zc⟩
theorem K3.swapB {z : Nat} {w : World} {la ma lb mb lc mc : Nat} {Va Vb Vc : VmV} {A C D : Vm.Mc} (h : K3 z w la ma Va A lb mb Vb C lc mc Vc D) : K3 z w lb mb Vb C la ma Va A lc mc Vc D := ⟨h.b, h.a, h.c, h.ab.symm, h.bc, h.ac, h.zb, h.za, h.zc⟩
theorem K3.swapC {z : Nat} {w : World} {la ma lb mb lc mc : Nat} {Va Vb Vc : VmV} {A C D : Vm.Mc} (h : K3 z w la ma Va A lb mb Vb C lc mc Vc D) : K3 z w lc mc Vc D lb mb Vb C la ma Va A := ⟨h.c, h.b, h.a, h.bc.symm, h.ac.symm, h.ab.symm, h.zc, h.zb, h.za⟩
/-- The first one is run to its end. -/
theorem k3End {z : Nat} {w : World} {la ma lb mb lc mc : Nat} {Va Vb Vc : VmV} {A C D : Vm.Mc} (h : K3 z w la ma Va A lb mb Vb C lc mc Vc D) {B : Int} (wf : Vm.WF B A) (hrun : A.run = true) (h0 : A.events = []) {most : Int} (hm : A.fuel ≤ most) (hm2 : most ≤ 800) :
    Calls Tryd.prog 14 #[.pointer (some ⟨ma, 0, none⟩), .int .i64 most] w fun e w' => e = .returned (.bool true) ∧ ∃ k V', Vm.EndP A k ∧ Hid (K3 z w' la ma V' (Vm.nth (k + 1) A) lb mb Vb C lc mc Vc D) ∧ Hid (Below z w w') :=
  (oEnd la ma w Va A B most h.a wf hrun hm (by omega) (fun j hj hle => Vm.ev_le (Vm.on_all wf hrun j hj) h0 (by omega))).mono fun e w' ⟨h1, k, V', hk, h2, f⟩ => by
    have ob := h.a.other f h.b h.ab
    have oc := h.a.other f h.c h.ac
    exact ⟨h1, k, V', hk, ⟨h2, ob.1, oc.1, ob.2, oc.2, h.bc, h.za, h.zb, h.zc⟩, f.low (Nat.le_trans h.za h.a.lm)⟩
/-- What becomes of the three. -/
structure M3 (Ea Ek Ew t : List (Int × Int)) (x1 x2 : Int) (ka kk kw : Nat) : Prop where
  ea : Ea = t ++ [(x1, x2)]
  f5 : x1 = 5 → (∃ u, Ek = t ++ u) ∧ ka ≤ kk
  n5 : x1 ≠ 5 → Ea = Ek ∧ ka = kk
  i5 : x1 = 4 ∧ x2 = 5 → (∃ u, Ew = t ++ u) ∧ ka ≤ kw
  j5 : ¬ (x1 = 4 ∧ x2 = 5) → Ea = Ew ∧ ka = kw
theorem m3_of {B : Int} {M : Vm.Mc} (w : Vm.WF B M) (hr : M.run = true) (h0 : M.events = []) {d : Int} {G : Gh} (hd : 0 ≤ d) (w2 : Vm.WF B (M.fg (M.fuel + d) G)) {x : List Int} {G' : Gh} (hx : (M.input ++ x).length ≤ 1000000) {ka kk kw : Nat} (hk : Vm.EndP M ka) (hk2 : Vm.EndP (M.fg (M.fuel + d) G) kk) (hk3 : Vm.EndP (M.ig (M.input ++ x) G') kw) :
    ∃ t x1 x2, M3 (Vm.nth (ka + 1) M).events (Vm.nth (kk + 1) (M.fg (M.fuel + d) G)).events (Vm.nth (kw + 1) (M.ig (M.input ++ x) G')).events t x1 x2 ka kk kw := by
  obtain ⟨t, ⟨x1, x2⟩, e1, _, _, _⟩ := (hk.dn w hr).ev
  rw [h0, List.nil_append] at e1
  have r1 := Vm.more_fu w hr d G hd w2 hk hk2
  have r2 := Vm.more_in w hr x G' hx hk hk3
  refine ⟨t, x1, x2, e1, fun h5 => ?_, fun h5 => ?_, fun h5 => ?_, fun h5 => ?_⟩
  · rcases r1 with ⟨q1, q2⟩ | ⟨q1, E, q2, u, q3⟩
    · exact ⟨⟨[(x1, x2)], by rw [← q2, e1]⟩, by omega⟩
    · rw [e1] at q2
      obtain ⟨e3, _⟩ := List.append_inj' q2 rfl
      exact ⟨⟨u, by rw [q3, e3]⟩, q1⟩
  · rcases r1 with ⟨q1, q2⟩ | ⟨q1, E, q2, _⟩
    · exact ⟨q2, q1⟩
    · rw [e1] at q2
      obtain ⟨_, e4⟩ := List.append_inj' q2 rfl
      simp at e4
      exact absurd e4.1 h5
  · rcases r2 with ⟨q1, q2⟩ | ⟨q1, E, q2, u, q3⟩
    · exact ⟨⟨[(x1, x2)], by rw [← q2, e1]⟩, by omega⟩
    · rw [e1] at q2
      obtain ⟨e3, _⟩ := List.append_inj' q2 rfl
      exact ⟨⟨u, by rw [q3, e3]⟩, q1⟩
  · rcases r2 with ⟨q1, q2⟩ | ⟨q1, E, q2, _⟩
    · exact ⟨q2, q1⟩
    · rw [e1] at q2
      obtain ⟨_, e4⟩ := List.append_inj' q2 rfl
      simp at e4
      exact absurd ⟨e4.1, e4.2⟩ h5
end Go.Proofs.YtodpdnidinnjjaaDoor

namespace Go.Proofs.YtodpdnidinnjjaaDoor
open Go.RowKit
set_option linter.unusedVariables false
set_option linter.unusedSimpArgs false

theorem fw_le {f : Int} {n : Nat} (h : VmArg (Vm.fw f) n) : 0 ≤ Vm.fw f ∧ Vm.fw f ≤ 200 := by
  obtain ⟨h1, h2, _⟩ := h
  refine ⟨h1, ?_⟩
  unfold Vm.fw at h1 h2 ⊢
  split
  · omega
  · rename_i hn
    rw [if_neg hn] at h2
    omega
/-- A row of events whose last one, and no other, is an end. -/
structure EvE (l : List (Int × Int)) : Prop where
  pos : 0 < l.length
  mid : ∀ (k : Nat) e, l[k]? = some e → (3 ≤ e.1 ↔ k + 1 = l.length)
theorem EvE.of {t : List (Int × Int)} {e : Int × Int} (h : ∀ x ∈ t, x.1 < 3) (he : 3 ≤ e.1) : EvE (t ++ [e]) := by
  refine ⟨by simp, fun k x hk => ?_⟩
  rw [List.length_append, List.length_singleton]
  by_cases hkt : k < t.length
  · rw [List.getElem?_append_left hkt] at hk
    have := h x (List.mem_of_getElem? hk)
    omega
  · have hkl := (List.getElem?_eq_some_iff.1 hk).1
    rw [List.length_append, List.length_singleton] at hkl
    have e0 : k = t.length := by omega
    subst e0
    simp at hk
    subst hk
    omega
set_option maxRecDepth 100000 in
set_option maxHeartbeats 16000000 in
theorem ends9_walk (la : Option Addr) (l : List Cd.Co) (lc : Nat) (main : Int) (ia : Option Addr) (inp : List Int) (ic : Nat) (fuel : Int) (B : Nat) (w : World) (hB : B ≤ w.heap.size) (tn : Tn B w) (tm : Tm B w) (hco : CoS w.heap.size w la l) (hok : ∀ d, d ∈ l → d.Ok) (hi : NuS w.heap.size w ia inp) (hin : ia = none → ic = 0) :
    Calls Tryd.prog 4 #[.slice la l.length lc, .int .i64 main, .slice ia inp.length ic, .int .i64 fuel] w fun e w' => e = .returned (.bool true) ∧ Below w.heap.size w w' := by
  have EB : Hid _ := both9 w.heap.size w la ia lc ic l inp main fuel ⟨Nat.le_refl _, hco, hok, tn.mono hB, tm.mono hB⟩ hi hin
  have EK : Hid (∀ X, Below w.heap.size w X → Calls Tryd.prog 10 #[] X fun e w' => e = .returned (.bool true) ∧ Below X.heap.size X w') := fun X hX => known9 B X (Nat.le_trans hB hX.size) (tn.later (hX.mono hB)) (tm.later (hX.mono hB))
  have EF : Hid (∀ X, Calls Tryd.prog 15 #[.int .i64 fuel] X fun e w' => e = .returned (.int .i64 (Vm.fw fuel)) ∧ w' = X) := fun X => vmFew fuel X
  generalize inp.length = nI at EB ⊢
  generalize l.length = L at EB ⊢
  clear tn tm hco hok hi hin
  go_enter Tryd.func4, Tryd.ntmps4
  go_wp2_with fail
  refine Calls.mono EB.out ?_
  intro e1 w1 Q1
  rcases Q1 with ⟨rfl, b1⟩ | ⟨m, r, V, on, p, c, G, rfl, hmp, hs, hc, ha, hi2, h1, b1⟩
  · have B1 : Hid (Below w.heap.size w w1) := b1
    clear b1 EB
    go_wp2_with fail
    refine Calls.mono (EK.out _ B1.out) ?_
    rintro e2 w2 ⟨rfl, b2⟩
    have FIN : Hid (Below w.heap.size w w2) := B1.out.trans (b2.mono B1.out.size)
    clear b2
    go_wp2_with fail
    go_ret
    exact ⟨rfl, FIN.out⟩
  · have B1 : Hid (Below w.heap.size w w1) := b1
    clear b1 EB
    cases on with
    | false =>
      clear h1 hs hc ha
      go_wp2_with fail
      refine Calls.mono (EK.out _ B1.out) ?_
      rintro e2 w2 ⟨rfl, b2⟩
      have FIN : Hid (Below w.heap.size w w2) := B1.out.trans (b2.mono B1.out.size)
      clear b2
      go_wp2_with fail
      go_ret
      exact ⟨rfl, FIN.out⟩
    | true =>
      obtain ⟨M, hM⟩ : ∃ M, M = Vm.beg l p c.cells.toNat inp (Vm.fw fuel) G := ⟨_, rfl⟩
      have wf : Vm.WF Cd.top M := by rw [hM]; exact Vm.beg_wf hs hc ⟨ha.1, ha.2.1⟩ ha.2.2
      have fle := fw_le ha
      have hrun : M.run = true := by rw [hM]; rfl
      have hfu : M.fuel = Vm.fw fuel := by rw [hM]; rfl
      have hti : M.ticks = 0 := by rw [hM]; rfl
      have hev0 : M.events = [] := by rw [hM]; rfl
      rw [← hM] at h1
      have EE : Hid (Calls Tryd.prog 14 #[.pointer (some ⟨m, 0, none⟩), .int .i64 (Vm.fw fuel)] w1 fun e w' => e = .returned (.bool true) ∧ ∃ (k : Nat) (N : Vm.Mc) (V' : VmV), (k : Int) ≤ Vm.fw fuel ∧ N.run = false ∧ N.ticks = k ∧ EvE N.events ∧ N.events.length ≤ 900000000 ∧ VmO w.heap.size m w' V' N ∧ Below w.heap.size w w') := by
        refine (oEnd w.heap.size m w1 V M Cd.top (Vm.fw fuel) h1 wf hrun (by omega) (by omega) (fun j hj hle => Vm.ev_le (Vm.on_all wf hrun j hj) hev0 (by omega))).mono fun e w' ⟨h1', k, V', hk, ho, hf⟩ => ?_
        have D := hk.dn wf hrun
        have hkl := D.on.le
        obtain ⟨t, x, e1, e2, e3, e4⟩ := D.ev
        rw [hev0, List.nil_append] at e1
        refine ⟨h1', k, _, V', by omega, D.run, by rw [D.ti, hti]; omega, by rw [e1]; exact EvE.of e3 e4, ?_, ho, B1.out.trans (hf.low h1.lm)⟩
        rw [e1, List.length_append, List.length_singleton]
        have : (k + 1) * 1048577 ≤ 201 * 1048577 := Nat.mul_le_mul_right _ (by omega)
        omega
      obtain ⟨F, hF⟩ : ∃ F, F = Vm.fw fuel := ⟨_, rfl⟩
      rw [← hF] at EE EF
      clear h1 hs hc ha wf hrun hfu hti hev0 hM hF fle
      go_wp2_with fail
      refine Calls.mono (EF.out _) ?_
      rintro e2 w2 ⟨rfl, hw2⟩
      subst hw2
      go_wp2_with fail
      refine Calls.mono EE.out ?_
      rintro e3 w3 ⟨rfl, k, N, V3, hk, hr, hti, hev, hel, h3, b3⟩
      have B3 : Hid (Below w.heap.size w w3) := b3
      have H3 : Hid (VmO w.heap.size m w3 V3 N) := h3
      have HT : Hid (N.ticks = k ∧ N.run = false ∧ EvE N.events ∧ N.events.length ≤ 900000000) := ⟨hti, hr, hev, hel⟩
      have ET : Hid (∀ X, Below w3.heap.size w3 X → Calls Tryd.prog 16 #[.pointer (some ⟨m, 0, none⟩)] X fun e w' => e = .returned (.int .i64 k) ∧ Below X.heap.size X w') := fun X hX => by
        have := oTicks _ _ _ _ _ (H3.out.later hX)
        rw [HT.out.1] at this
        exact this
      obtain ⟨nf, hnf⟩ : ∃ nf, nf = N.frames.length := ⟨_, rfl⟩
      have EFr : Hid (∀ X, Below w3.heap.size w3 X → Calls Tryd.prog 18 #[.pointer (some ⟨m, 0, none⟩)] X fun e w' => e = .returned (.int .i64 nf) ∧ Below X.heap.size X w') := fun X hX => by
        have := oFrames _ _ _ _ _ (H3.out.later hX)
        rw [← hnf] at this
        exact this
      obtain ⟨n, hn⟩ : ∃ n, n = N.events.length := ⟨_, rfl⟩
      have HNL : Hid (n = N.events.length) := hn
      have hn0 : 0 < n := by rw [hn]; exact hev.pos
      have hnb : n ≤ 900000000 := by rw [hn]; exact hel
      have EC : Hid (∀ X, Below w3.heap.size w3 X → Calls Tryd.prog 19 #[.pointer (some ⟨m, 0, none⟩)] X fun e w' => e = .returned (.int .i64 n) ∧ Below X.heap.size X w') := fun X hX => by
        have := oCount _ _ _ _ _ (H3.out.later hX)
        rw [← hn] at this
        exact this
      have EV : Hid (∀ X, Below w3.heap.size w3 X → Calls Tryd.prog 17 #[.pointer (some ⟨m, 0, none⟩)] X fun e w' => ∃ a c, e = .returned (.slice a n c) ∧ EvW X.heap.size w'.heap.size w' a N.events ∧ Below X.heap.size X w') := fun X hX => by
        have := oEvents _ _ _ _ _ (H3.out.later hX) (by omega)
        rw [← hn] at this
        exact this
      have ES : Hid (∀ X, Below w3.heap.size w3 X → Calls Tryd.prog 12 #[.pointer (some ⟨m, 0, none⟩)] X fun e w' => e = .returned (.bool false) ∧ Below X.heap.size X w') := fun X hX => oStepE _ _ _ _ _ (H3.out.later hX) hr
      clear EE b3 h3 hr hti hev hel hnf hn
      have hkF : ¬ (k : Int) > F := by omega
      go_wp2_with fail
      refine Calls.mono (ET.out _ (Below.refl _ _)) ?_
      rintro e4 w4 ⟨rfl, b4⟩
      have B4 : Hid (Below w3.heap.size w3 w4) := b4
      clear b4
      go_wp2_with fail
      refine Calls.mono (EF.out _) ?_
      rintro e5 w5 ⟨rfl, hw5⟩
      subst hw5
      go_wp2_with fail
      refine Calls.mono (EV.out _ B4.out) ?_
      rintro e6 w6 ⟨ea, ec, rfl, v6, b6⟩
      obtain ⟨g6, rfl, hg6, hl6, hc6⟩ := v6 (by rw [← HNL.out]; exact hn0)
      have HC6 : Hid (∀ (j : Nat) e, N.events[j]? = some e → w6.cell? ⟨g6, j * 2, none⟩ = some (.int .i64 e.1)) := fun j e hj => (hc6 j e hj).1
      have B6 : Hid (Below w3.heap.size w3 w6) := B4.out.trans (b6.mono B4.out.size)
      clear v6 hc6 b6 B4
      go_wp2_with fail
      go_loopw [14] (fun i wr => ∃ j : Nat, j ≤ n ∧ i = .int .i64 j ∧ Hid (Below w6.heap.size w6 wr)) (fun i _ => n - (intOf i).toNat)
      case atStart => exact ⟨0, by omega, rfl, Below.refl _ _⟩
      case round =>
        obtain ⟨j, hj, rfl, BR⟩ := hrel
        by_cases hlt : j < n
        · have hji : (j : Int) < (n : Int) := by omega
          have dj : decide ((j : Int) < (n : Int)) = true := decide_eq_true hji
          have djn : decide (j < n) = true := decide_eq_true hlt
          obtain ⟨x, hx⟩ : ∃ x, N.events[j]? = some x := ⟨_, List.getElem?_eq_getElem (by rw [← HNL.out]; exact hlt)⟩
          have c0 := (BR.out.cell (p := ⟨g6, j * 2, none⟩) hl6).trans (HC6.out j x hx)
          have mid := HT.out.2.2.1.mid j x hx
          rw [← HNL.out] at mid
          generalize x.1 = x1 at c0 mid
          clear hx
          by_cases h3 : 3 ≤ x1
          · have hjn : j + 1 = n := mid.1 h3
            have d3 : decide (3 ≤ x1) = true := decide_eq_true h3
            have d3' : decide (x1 ≥ 3) = true := decide_eq_true h3
            have dq : ((j : Int) == (n : Int) - 1) = true := beq_iff_eq.2 (by omega)
            clear mid
            go_wp2_with fail
            go_roundw
            case rel => exact ⟨j + 1, by omega, by go_num, BR⟩
            case measure => simp [intOf]; omega
          · have hjn : ¬ j + 1 = n := fun h => h3 (mid.2 h)
            have d3 : decide (3 ≤ x1) = false := decide_eq_false h3
            have d3' : decide (x1 ≥ 3) = false := decide_eq_false h3
            have dq : ((j : Int) == (n : Int) - 1) = false := beq_eq_false_iff_ne.2 (by omega)
            clear mid
            go_wp2_with fail
            go_roundw
            case rel => exact ⟨j + 1, by omega, by go_num, BR⟩
            case measure => simp [intOf]; omega
        · have hji : ¬ (j : Int) < (n : Int) := by omega
          have dj : decide ((j : Int) < (n : Int)) = false := decide_eq_false hji
          have djn : decide (j < n) = false := decide_eq_false hlt
          have hn0i : (n : Int) > 0 := by omega
          have dn0 : decide ((0 : Int) < (n : Int)) = true := decide_eq_true hn0i
          have B7 : Hid (Below w3.heap.size w3 wr) := B6.out.trans (BR.out.mono B6.out.size)
          go_wp2_with fail
          refine Calls.mono (ET.out _ B7.out) ?_
          rintro e8 w8 ⟨rfl, b8⟩
          have B8 : Hid (Below w3.heap.size w3 w8) := B7.out.trans (b8.mono B7.out.size)
          clear b8 B7
          go_wp2_with fail
          refine Calls.mono (EFr.out _ B8.out) ?_
          rintro e9 w9 ⟨rfl, b9⟩
          have B9 : Hid (Below w3.heap.size w3 w9) := B8.out.trans (b9.mono B8.out.size)
          clear b9 B8
          go_wp2_with fail
          refine Calls.mono (ES.out _ B9.out) ?_
          rintro e10 w10 ⟨rfl, b10⟩
          have B10 : Hid (Below w3.heap.size w3 w10) := B9.out.trans (b10.mono B9.out.size)
          clear b10 B9
          go_wp2_with fail
          refine Calls.mono (ET.out _ B10.out) ?_
          rintro e11 w11 ⟨rfl, b11⟩
          have B11 : Hid (Below w3.heap.size w3 w11) := B10.out.trans (b11.mono B10.out.size)
          clear b11 B10
          go_wp2_with fail
          refine Calls.mono (EFr.out _ B11.out) ?_
          rintro e12 w12 ⟨rfl, b12⟩
          have B12 : Hid (Below w3.heap.size w3 w12) := B11.out.trans (b12.mono B11.out.size)
          clear b12 B11
          go_wp2_with fail
          refine Calls.mono (EC.out _ B12.out) ?_
          rintro e13 w13 ⟨rfl, b13⟩
          have B13 : Hid (Below w.heap.size w w13) := B3.out.trans ((B12.out.trans (b13.mono B12.out.size)).mono B3.out.size)
          clear b13 B12
          go_wp2_with fail
          refine Calls.mono (EK.out _ B13.out) ?_
          rintro e14 w14 ⟨rfl, b14⟩
          have FIN : Hid (Below w.heap.size w w14) := B13.out.trans (b14.mono B13.out.size)
          clear b14 B13
          go_wp2_with fail
          go_ret
          exact ⟨rfl, FIN.out⟩
end Go.Proofs.YtodpdnidinnjjaaDoor

namespace Go.Proofs.YtodpdnidinnjjaaDoor
open Go.RowKit
set_option linter.unusedVariables false
set_option linter.unusedSimpArgs false

set_option maxRecDepth 100000 in
set_option maxHeartbeats 16000000 in
theorem more9_walk (la : Option Addr) (l : List Cd.Co) (lc : Nat) (main : Int) (ia : Option Addr) (inp : List Int) (ic : Nat) (fuel more : Int) (ja : Option Addr) (ins : List Int) (jc : Nat) (B : Nat) (w : World) (hB : B ≤ w.heap.size) (tn : Tn B w) (tm : Tm B w) (hco : CoS w.heap.size w la l) (hok : ∀ d, d ∈ l → d.Ok) (hi : NuS w.heap.size w ia inp) (hin : ia = none → ic = 0) (hj : NuS w.heap.size w ja ins) (hjn : ja = none → jc = 0) :
    Calls Tryd.prog 5 #[.slice la l.length lc, .int .i64 main, .slice ia inp.length ic, .int .i64 fuel, .int .i64 more, .slice ja ins.length jc] w fun e w' => e = .returned (.bool true) ∧ Below w.heap.size w w' := by
  have HH : Hid (∀ X, Below w.heap.size w X → CdH w.heap.size X la l ∧ NuS X.heap.size X ia inp ∧ NuS X.heap.size X ja ins) := fun X hX => by
    have up : ∀ (a : Option Addr) (y : List Int), NuS w.heap.size w a y → NuS X.heap.size X a y := fun a y h h0 => by
      obtain ⟨g, o, e, hg, hc⟩ := (h.later hX) h0
      exact ⟨g, o, e, Nat.lt_of_lt_of_le hg hX.size, hc⟩
    exact ⟨CdH.later ⟨Nat.le_refl _, hco, hok, tn.mono hB, tm.mono hB⟩ hX, up _ _ hi, up _ _ hj⟩
  have HNN : Hid ((ia = none → ic = 0) ∧ (ja = none → jc = 0)) := ⟨hin, hjn⟩
  have EB : Hid _ := both9 w.heap.size w la ia lc ic l inp main fuel ⟨Nat.le_refl _, hco, hok, tn.mono hB, tm.mono hB⟩ hi hin
  have EK : Hid (∀ X, Below w.heap.size w X → Calls Tryd.prog 10 #[] X fun e w' => e = .returned (.bool true) ∧ Below X.heap.size X w') := fun X hX => known9 B X (Nat.le_trans hB hX.size) (tn.later (hX.mono hB)) (tm.later (hX.mono hB))
  have EF : Hid (∀ X, Calls Tryd.prog 15 #[.int .i64 fuel] X fun e w' => e = .returned (.int .i64 (Vm.fw fuel)) ∧ w' = X) := fun X => vmFew fuel X
  obtain ⟨r, hr100, ea⟩ := vmAmong2 more 100 (by decide) (by decide)
  have EA : Hid (∀ X, Calls Tryd.prog 21 #[.int .i64 more, .int .i64 100] X fun e w' => e = .returned (.int .i64 (r : Int)) ∧ w' = X) := ea
  obtain ⟨nI, hnI⟩ : ∃ nI, nI = inp.length := ⟨_, rfl⟩
  obtain ⟨nJ, hnJ⟩ : ∃ nJ, nJ = ins.length := ⟨_, rfl⟩
  obtain ⟨L, hL⟩ : ∃ L, L = l.length := ⟨_, rfl⟩
  have HN : Hid (nI = inp.length ∧ nJ = ins.length ∧ L = l.length) := ⟨hnI, hnJ, hL⟩
  rw [← hnI, ← hL] at EB ⊢
  rw [← hnJ]
  clear tn tm hco hok hi hin hj hjn ea hnI hnJ hL
  go_enter Tryd.func5, Tryd.ntmps5
  go_wp2_with fail
  refine Calls.mono EB.out ?_
  intro e1 w1 Q1
  rcases Q1 with ⟨rfl, b1⟩ | ⟨m, rr, V, on, p, c, G, rfl, hmp, hs, hc, ha, hi2, h1, b1⟩
  · have B1 : Hid (Below w.heap.size w w1) := b1
    clear b1 EB
    go_wp2_with fail
    refine Calls.mono (EK.out _ B1.out) ?_
    rintro e2 w2 ⟨rfl, b2⟩
    have FIN : Hid (Below w.heap.size w w2) := B1.out.trans (b2.mono B1.out.size)
    clear b2
    go_wp2_with fail
    go_ret
    exact ⟨rfl, FIN.out⟩
  · have B1 : Hid (Below w.heap.size w w1) := b1
    clear b1 EB
    subst hmp
    cases on with
    | false =>
      clear h1 hs hc ha
      go_wp2_with fail
      refine Calls.mono (EK.out _ B1.out) ?_
      rintro e2 w2 ⟨rfl, b2⟩
      have FIN : Hid (Below w.heap.size w w2) := B1.out.trans (b2.mono B1.out.size)
      clear b2
      go_wp2_with fail
      go_ret
      exact ⟨rfl, FIN.out⟩
    | true =>
      by_cases hJ : nJ > 100
      · have dJ : decide ((100 : Int) < (nJ : Int)) = true := decide_eq_true (by omega)
        have hJi : (nJ : Int) > 100 := by omega
        clear h1 hs hc ha
        go_wp2_with fail
        refine Calls.mono (EK.out _ B1.out) ?_
        rintro e2 w2 ⟨rfl, b2⟩
        have FIN : Hid (Below w.heap.size w w2) := B1.out.trans (b2.mono B1.out.size)
        clear b2
        go_wp2_with fail
        go_ret
        exact ⟨rfl, FIN.out⟩
      · have dJ : decide ((100 : Int) < (nJ : Int)) = false := decide_eq_false (by omega)
        have hJi : ¬ (nJ : Int) > 100 := by omega
        obtain ⟨F, hF⟩ : ∃ F, F = Vm.fw fuel := ⟨_, rfl⟩
        rw [← hF] at EF h1 ha
        have fle : 0 ≤ F ∧ F ≤ 200 := by rw [hF] at ha ⊢; exact fw_le ha
        obtain ⟨A, hA⟩ : ∃ A, A = Vm.beg l p c.cells.toNat inp F G := ⟨_, rfl⟩
        rw [← hA] at h1
        have HP : Hid (Cd.Snd Cd.top l p ∧ l[p]? = some c ∧ inp.length ≤ 200 ∧ ins.length ≤ 100 ∧ A = Vm.beg l p c.cells.toNat inp F G) := ⟨hs, hc, hi2, by have := HN.out.2.1; omega, hA⟩
        have H1 : Hid (VmO w.heap.size m w1 V A) := h1
        have EN1 : Hid (∀ X, Below w.heap.size w X → Calls Tryd.prog 20 #[.slice la L lc, .int .i64 p, .slice ia nI ic, .int .i64 (F + (r : Int))] X fun e w' => ∃ m V G, e = .returned (.tuple #[.pointer (some ⟨m, 0, none⟩), .int .i64 0]) ∧ VmO X.heap.size m w' V (A.fg (A.fuel + (r : Int)) G) ∧ Below X.heap.size X w') := fun X hX => by
          have := vmNewO w.heap.size X la ia lc ic l inp p c (F + (r : Int)) (HH.out X hX).1 (HH.out X hX).2.1 hs hc ⟨by omega, by omega, by omega⟩
          rw [← HN.out.1, ← HN.out.2.2] at this
          refine this.mono fun e w' ⟨m, V, a1, a2, a3⟩ => ⟨m, V, ⟨X, fun _ => False, X.heap.size⟩, a1, ?_, a3⟩
          rw [HP.out.2.2.2.2]
          exact a2
        have EN2 : Hid (∀ X, Below w.heap.size w X → ∀ (a2 : Option Addr) (c2 : Nat), NuS X.heap.size X a2 (inp ++ ins) → Calls Tryd.prog 20 #[.slice la L lc, .int .i64 p, .slice a2 (inp ++ ins).length c2, .int .i64 F] X fun e w' => ∃ m V G, e = .returned (.tuple #[.pointer (some ⟨m, 0, none⟩), .int .i64 0]) ∧ VmO X.heap.size m w' V (A.ig (A.input ++ ins) G) ∧ Below X.heap.size X w') := fun X hX a2 c2 hn2 => by
          have := vmNewO w.heap.size X la a2 lc c2 l (inp ++ ins) p c F (HH.out X hX).1 hn2 hs hc ⟨fle.1, by omega, by have := HP.out; rw [List.length_append]; omega⟩
          rw [← HN.out.2.2] at this
          refine this.mono fun e w' ⟨m, V, a1, a2, a3⟩ => ⟨m, V, ⟨X, fun _ => False, X.heap.size⟩, a1, ?_, a3⟩
          rw [HP.out.2.2.2.2]
          exact a2
        clear h1 hs hc ha hi2 hA hF
        go_wp2_with fail
        refine Calls.mono (EF.out _) ?_
        rintro e2 w2 ⟨rfl, hw2⟩
        subst hw2
        go_wp2_with fail
        refine Calls.mono (EA.out _) ?_
        rintro e3 w3 ⟨rfl, hw3⟩
        subst hw3
        go_wp2_with fail
        refine Calls.mono (EN1.out _ B1.out) ?_
        rintro e4 w4 ⟨m2, V2, G2, rfl, h4, b4⟩
        have H4 : Hid (VmO w3.heap.size m2 w4 V2 (A.fg (A.fuel + (r : Int)) G2)) := h4
        have H14 : Hid (VmO w.heap.size m w4 V A) := H1.out.later b4
        have D4 : Hid (Dis w.heap.size m V w3.heap.size m2 V2) := H1.out.young (Nat.le_refl _) h4
        have B4 : Hid (Below w.heap.size w w4) := B1.out.trans (b4.mono B1.out.size)
        have Z4 : Hid (w.heap.size ≤ w3.heap.size) := B1.out.size
        obtain ⟨a1, n1, c1, X1, a2, c2, X2, WD⟩ := wide9 w4 ia ic inp ja jc ins (HH.out _ B4.out).2.1 HNN.out.1 (HH.out _ B4.out).2.2 HNN.out.2 (by have := HP.out; omega)
        have r1 := WD.r1
        have r2 := WD.r2
        rw [← HN.out.1] at r1
        rw [← HN.out.2.1] at r2
        have NU : Hid (NuS X2.heap.size X2 a2 (inp ++ ins)) := WD.nu
        have BX : Hid (Below w4.heap.size w4 X2) := WD.b
        obtain ⟨lb, hlb⟩ : ∃ lb, lb = w3.heap.size := ⟨_, rfl⟩
        rw [← hlb] at H4 D4 Z4
        obtain ⟨nW, hnW⟩ : ∃ nW, nW = (inp ++ ins).length := ⟨_, rfl⟩
        rw [← hnW] at r2 EN2
        clear h4 b4 H1 EN1 B1 WD hlb hnW
        go_wp2_with (at_builtin; first | (refine Lib.wpList_append_run _ rfl _ _ _ _ rfl _ _ rfl rfl _ _ r1 ?_) | (refine Lib.wpList_append_run _ rfl _ _ _ _ rfl _ _ rfl rfl _ _ r2 ?_))
        refine Calls.mono (EF.out _) ?_
        rintro e5 w5 ⟨rfl, hw5⟩
        subst hw5
        clear r1 r2
        have BX2 : Hid (Below w.heap.size w w5) := B4.out.trans (BX.out.mono B4.out.size)
        go_wp2_with fail
        refine Calls.mono (EN2.out _ BX2.out _ _ NU.out) ?_
        rintro e6 w6 ⟨m3, V3, G3, rfl, h6, b6⟩
        have HK : Hid (K3 w.heap.size w6 w.heap.size m V A lb m2 V2 (A.fg (A.fuel + (r : Int)) G2) w5.heap.size m3 V3 (A.ig (A.input ++ ins) G3)) := ⟨(H14.out.later BX.out).later b6, (H4.out.later BX.out).later b6, h6, D4.out, (H14.out.later BX.out).young (Nat.le_refl _) h6, (H4.out.later BX.out).young (Nat.le_refl _) h6, Nat.le_refl _, Z4.out, BX2.out.size⟩
        have B6 : Hid (Below w.heap.size w w6) := BX2.out.trans (b6.mono BX2.out.size)
        have wf : Vm.WF Cd.top A := by rw [HP.out.2.2.2.2]; exact Vm.beg_wf HP.out.1 HP.out.2.1 ⟨fle.1, by omega⟩ (by have := HP.out; omega)
        have hfu : A.fuel = F := by rw [HP.out.2.2.2.2]; rfl
        have hrun : A.run = true := by rw [HP.out.2.2.2.2]; rfl
        have hev0 : A.events = [] := by rw [HP.out.2.2.2.2]; rfl
        have hti0 : A.ticks = 0 := by rw [HP.out.2.2.2.2]; rfl
        have hin0 : A.input = inp := by rw [HP.out.2.2.2.2]; rfl
        have hlen : (A.input ++ ins).length ≤ 1000000 := by rw [hin0, List.length_append]; have := HP.out; omega
        have wf2 : Vm.WF Cd.top (A.fg (A.fuel + (r : Int)) G2) := wf.fg G2 (by omega) (by omega)
        have wf3 : Vm.WF Cd.top (A.ig (A.input ++ ins) G3) := wf.ig G3 hlen
        have HW : Hid (Vm.WF Cd.top A ∧ A.run = true ∧ A.events = [] ∧ A.ticks = 0 ∧ A.fuel = F ∧ Vm.WF Cd.top (A.fg (A.fuel + (r : Int)) G2) ∧ Vm.WF Cd.top (A.ig (A.input ++ ins) G3) ∧ (A.input ++ ins).length ≤ 1000000) := ⟨wf, hrun, hev0, hti0, hfu, wf2, wf3, hlen⟩
        obtain ⟨lw, hlw⟩ : ∃ lw, lw = w5.heap.size := ⟨_, rfl⟩
        rw [← hlw] at HK
        clear h6 b6 EN2 H14 H4 D4 BX BX2 NU B4 wf hfu hrun hev0 hti0 hin0 hlen wf2 wf3 hlw
        go_wp2_with fail
        refine Calls.mono (k3End HK.out HW.out.1 HW.out.2.1 HW.out.2.2.1 (most := 300) (by rw [HW.out.2.2.2.2.1]; omega) (by decide)) ?_
        rintro e7 w7 ⟨rfl, ka, V7, hka, HK7, C7⟩
        have B7 : Hid (Below w.heap.size w w7) := B6.out.trans C7.out
        have HKA : Hid (Vm.EndP A ka) := hka
        clear C7 B6 HK hka
        go_wp2_with fail
        refine Calls.mono (k3End HK7.out.swapB HW.out.2.2.2.2.2.1 HW.out.2.1 HW.out.2.2.1 (most := 400) (by show A.fuel + (r : Int) ≤ 400; rw [HW.out.2.2.2.2.1]; omega) (by decide)) ?_
        rintro e8 w8 ⟨rfl, kk, V8, hkk, HK8, C8⟩
        have B8 : Hid (Below w.heap.size w w8) := B7.out.trans C8.out
        have HKK : Hid (Vm.EndP (A.fg (A.fuel + (r : Int)) G2) kk) := hkk
        clear C8 B7 HK7 hkk
        go_wp2_with fail
        refine Calls.mono (k3End HK8.out.swapC HW.out.2.2.2.2.2.2.1 HW.out.2.1 HW.out.2.2.1 (most := 300) (by show A.fuel ≤ 300; rw [HW.out.2.2.2.2.1]; omega) (by decide)) ?_
        rintro e9 w9 ⟨rfl, kw, V9, hkw, HK9, C9⟩
        have B9 : Hid (Below w.heap.size w w9) := B8.out.trans C9.out
        clear C9 B8 HK8
        obtain ⟨t, x1, x2, m3f⟩ := m3_of HW.out.1 HW.out.2.1 HW.out.2.2.1 (Int.natCast_nonneg r) HW.out.2.2.2.2.2.1 HW.out.2.2.2.2.2.2.2 HKA.out HKK.out hkw
        have dA := HKA.out.dn HW.out.1 HW.out.2.1
        have dK := HKK.out.dn HW.out.2.2.2.2.2.1 HW.out.2.1
        have dW := hkw.dn HW.out.2.2.2.2.2.2.1 HW.out.2.1
        obtain ⟨NA, hNA⟩ : ∃ N, N = Vm.nth (ka + 1) A := ⟨_, rfl⟩
        obtain ⟨NK, hNK⟩ : ∃ N, N = Vm.nth (kk + 1) (A.fg (A.fuel + (r : Int)) G2) := ⟨_, rfl⟩
        obtain ⟨NW, hNW⟩ : ∃ N, N = Vm.nth (kw + 1) (A.ig (A.input ++ ins) G3) := ⟨_, rfl⟩
        rw [← hNA, ← hNK, ← hNW] at m3f
        have HK10 : Hid (K3 w.heap.size w9 lw m3 V9 NW w.heap.size m V7 NA lb m2 V8 NK) := by rw [hNA, hNK, hNW]; exact HK9.out
        have hW := HW.out
        have lA : NA.events.length ≤ 900000000 ∧ NA.ticks = ka := by
          refine ⟨?_, by rw [hNA, dA.ti, hW.2.2.2.1]; omega⟩
          obtain ⟨t', x', q1, q2, _⟩ := dA.ev
          have q3 := dA.on.le
          rw [hNA, q1, hW.2.2.1]
          simp
          have : (ka + 1) * 1048577 ≤ 801 * 1048577 := Nat.mul_le_mul_right _ (by omega)
          omega
        have lK : NK.events.length ≤ 900000000 ∧ NK.ticks = kk := by
          refine ⟨?_, by rw [hNK, dK.ti]; show A.ticks + _ = _; rw [hW.2.2.2.1]; omega⟩
          obtain ⟨t', x', q1, q2, _⟩ := dK.ev
          have q3 : (kk : Int) ≤ A.fuel + (r : Int) := dK.on.le
          rw [hNK, q1]
          show (A.events ++ t' ++ [x']).length ≤ _
          rw [hW.2.2.1]
          simp
          have : (kk + 1) * 1048577 ≤ 801 * 1048577 := Nat.mul_le_mul_right _ (by omega)
          omega
        have lW : NW.events.length ≤ 900000000 ∧ NW.ticks = kw := by
          refine ⟨?_, by rw [hNW, dW.ti]; show A.ticks + _ = _; rw [hW.2.2.2.1]; omega⟩
          obtain ⟨t', x', q1, q2, _⟩ := dW.ev
          have q3 : (kw : Int) ≤ A.fuel := dW.on.le
          rw [hNW, q1]
          show (A.events ++ t' ++ [x']).length ≤ _
          rw [hW.2.2.1]
          simp
          have : (kw + 1) * 1048577 ≤ 801 * 1048577 := Nat.mul_le_mul_right _ (by omega)
          omega
        have pK : 0 < NK.events.length := by
          obtain ⟨t', x', q1, _⟩ := dK.ev
          rw [hNK, q1, List.length_append, List.length_singleton]
          omega
        have pW : 0 < NW.events.length := by
          obtain ⟨t', x', q1, _⟩ := dW.ev
          rw [hNW, q1, List.length_append, List.length_singleton]
          omega
        have HM : Hid (M3 NA.events NK.events NW.events t x1 x2 ka kk kw) := m3f
        have HLN : Hid ((NA.events.length ≤ 900000000 ∧ NA.ticks = ka) ∧ (NK.events.length ≤ 900000000 ∧ NK.ticks = kk) ∧ (NW.events.length ≤ 900000000 ∧ NW.ticks = kw)) := ⟨lA, lK, lW⟩
        obtain ⟨tl, htl⟩ : ∃ tl, tl = t.length := ⟨_, rfl⟩
        obtain ⟨nb, hnb⟩ : ∃ nb, nb = NK.events.length := ⟨_, rfl⟩
        obtain ⟨nc, hnc⟩ : ∃ nc, nc = NW.events.length := ⟨_, rfl⟩
        have hna : NA.events.length = tl + 1 := by rw [m3f.ea, htl]; simp
        have HLL : Hid (tl = t.length ∧ nb = NK.events.length ∧ nc = NW.events.length ∧ NA.events.length = tl + 1) := ⟨htl, hnb, hnc, hna⟩
        have hbl : tl + 1 ≤ 900000000 := by rw [← hna]; exact lA.1
        rw [← hnb] at pK
        rw [← hnc] at pW
        have EVA : Hid (Calls Tryd.prog 17 #[.pointer (some ⟨m, 0, none⟩)] w9 fun e w' => ∃ a c, e = .returned (.slice a (tl + 1) c) ∧ tl + 1 ≤ c ∧ EvS w' a NA.events ∧ Below w9.heap.size w9 w') := by
          have := oEvents2 _ _ _ _ _ HK10.out.b (by omega)
          rw [hna] at this
          exact this
        have EVK : Hid (∀ X, Below w9.heap.size w9 X → Calls Tryd.prog 17 #[.pointer (some ⟨m2, 0, none⟩)] X fun e w' => ∃ a c, e = .returned (.slice a nb c) ∧ nb ≤ c ∧ EvS w' a NK.events ∧ Below X.heap.size X w') := fun X hX => by
          have := oEvents2 _ _ _ _ _ (HK10.out.c.later hX) (by omega)
          rw [← hnb] at this
          exact this
        have EVW : Hid (∀ X, Below w9.heap.size w9 X → Calls Tryd.prog 17 #[.pointer (some ⟨m3, 0, none⟩)] X fun e w' => ∃ a c, e = .returned (.slice a nc c) ∧ nc ≤ c ∧ EvS w' a NW.events ∧ Below X.heap.size X w') := fun X hX => by
          have := oEvents2 _ _ _ _ _ (HK10.out.a.later hX) (by omega)
          rw [← hnc] at this
          exact this
        clear m3f dA dK dW hNA hNK hNW hkw HKA HKK hW lA lK lW htl hnb hnc hna HK9 HW HP
        go_wp2_with fail
        refine Calls.mono EVA.out ?_
        rintro e10 w10 ⟨sa, ca, rfl, hca, va, b10⟩
        have B10 : Hid (Below w9.heap.size w9 w10) := b10
        have VA : Hid (EvS w10 sa NA.events) := va
        clear b10 va EVA
        go_wp2_with fail
        refine Calls.mono (EVK.out _ B10.out) ?_
        rintro e12 w12 ⟨sb, cb, rfl, hcb, vb, b12⟩
        have B12 : Hid (Below w9.heap.size w9 w12) := B10.out.trans (b12.mono B10.out.size)
        have VA2 : Hid (EvS w12 sa NA.events) := VA.out.later b12
        have VB2 : Hid (EvS w12 sb NK.events) := vb
        clear b12 vb EVK VA B10
        go_wp2_with fail
        refine Calls.mono (EVW.out _ B12.out) ?_
        rintro e11 w11 ⟨sc, cc, rfl, hcc, vc, b11⟩
        have B11 : Hid (Below w.heap.size w w11) := B9.out.trans ((B12.out.trans (b11.mono B12.out.size)).mono B9.out.size)
        have HK11 : Hid (K3 w.heap.size w11 lw m3 V9 NW w.heap.size m V7 NA lb m2 V8 NK) := HK10.out.later (B12.out.trans (b11.mono B12.out.size))
        have VA3 : Hid (EvS w11 sa NA.events) := VA2.out.later b11
        have VB3 : Hid (EvS w11 sb NK.events) := VB2.out.later b11
        have VC3 : Hid (EvS w11 sc NW.events) := vc
        have ETm : Hid (∀ X, Below w11.heap.size w11 X → Calls Tryd.prog 16 #[.pointer (some ⟨m, 0, none⟩)] X fun e w' => e = .returned (.int .i64 ka) ∧ Below X.heap.size X w') := fun X hX => by
          have := oTicks _ _ _ _ _ (HK11.out.b.later hX)
          rw [HLN.out.1.2] at this
          exact this
        have ETk : Hid (∀ X, Below w11.heap.size w11 X → Calls Tryd.prog 16 #[.pointer (some ⟨m2, 0, none⟩)] X fun e w' => e = .returned (.int .i64 kk) ∧ Below X.heap.size X w') := fun X hX => by
          have := oTicks _ _ _ _ _ (HK11.out.c.later hX)
          rw [HLN.out.2.1.2] at this
          exact this
        have ETn : Hid (∀ X, Below w11.heap.size w11 X → Calls Tryd.prog 16 #[.pointer (some ⟨m3, 0, none⟩)] X fun e w' => e = .returned (.int .i64 kw) ∧ Below X.heap.size X w') := fun X hX => by
          have := oTicks _ _ _ _ _ (HK11.out.a.later hX)
          rw [HLN.out.2.2.2] at this
          exact this
        have SAB : Hid (NA.events = NK.events → ∀ X, Below w11.heap.size w11 X → Calls Tryd.prog 23 #[.slice sa (tl + 1) ca, .slice sb nb cb] X fun e w' => e = .returned (.bool true) ∧ Below X.heap.size X w') := fun he X hX => by
          have h2 := VB3.out.later hX
          rw [← he] at h2
          have := sameEv_yes X sa sb ca cb NA.events (VA3.out.later hX) h2 (by have := HLN.out.1.1; omega)
          rw [HLL.out.2.2.2] at this
          rw [HLL.out.2.1, ← he, HLL.out.2.2.2]
          exact this
        have SAC : Hid (NA.events = NW.events → ∀ X, Below w11.heap.size w11 X → Calls Tryd.prog 23 #[.slice sa (tl + 1) ca, .slice sc nc cc] X fun e w' => e = .returned (.bool true) ∧ Below X.heap.size X w') := fun he X hX => by
          have h2 := VC3.out.later hX
          rw [← he] at h2
          have := sameEv_yes X sa sc ca cc NA.events (VA3.out.later hX) h2 (by have := HLN.out.1.1; omega)
          rw [HLL.out.2.2.2] at this
          rw [HLL.out.2.2.1, ← he, HLL.out.2.2.2]
          exact this
        have AAB : Hid ((∃ u, NK.events = t ++ u) → ∀ X, Below w11.heap.size w11 X → Calls Tryd.prog 22 #[.slice sa tl ca, .slice sb nb cb] X fun e w' => e = .returned (.bool true) ∧ Below X.heap.size X w') := fun ⟨u, he⟩ X hX => by
          have h1 := VA3.out.later hX
          rw [HM.out.ea] at h1
          have h2 := VB3.out.later hX
          rw [he] at h2
          have h3 : (t ++ u).length = nb := by rw [← he, ← HLL.out.2.1]
          have := ahead_yes X sa sb ca cb t u h1.pre h2 (by rw [h3]; exact hcb) (by rw [h3, HLL.out.2.1]; have := HLN.out.2.1.1; omega)
          rw [h3, ← HLL.out.1] at this
          exact this
        have AAC : Hid ((∃ u, NW.events = t ++ u) → ∀ X, Below w11.heap.size w11 X → Calls Tryd.prog 22 #[.slice sa tl ca, .slice sc nc cc] X fun e w' => e = .returned (.bool true) ∧ Below X.heap.size X w') := fun ⟨u, he⟩ X hX => by
          have h1 := VA3.out.later hX
          rw [HM.out.ea] at h1
          have h2 := VC3.out.later hX
          rw [he] at h2
          have h3 : (t ++ u).length = nc := by rw [← he, ← HLL.out.2.2.1]
          have := ahead_yes X sa sc ca cc t u h1.pre h2 (by rw [h3]; exact hcc) (by rw [h3, HLL.out.2.2.1]; have := HLN.out.2.2.1; omega)
          rw [h3, ← HLL.out.1] at this
          exact this
        obtain ⟨ga, hsa, hgl, cA⟩ := VA3.out (by rw [HLL.out.2.2.2]; omega)
        have hat : NA.events[tl]? = some (x1, x2) := by rw [HM.out.ea, HLL.out.1]; simp
        have s0 := (cA tl _ hat).1
        have s1 := (cA tl _ hat).2
        dsimp only at s0 s1
        have FF : Hid ((x1 = 5 → (∃ u, NK.events = t ++ u) ∧ ka ≤ kk) ∧ (x1 ≠ 5 → NA.events = NK.events ∧ ka = kk) ∧ (x1 = 4 ∧ x2 = 5 → (∃ u, NW.events = t ++ u) ∧ ka ≤ kw) ∧ (¬ (x1 = 4 ∧ x2 = 5) → NA.events = NW.events ∧ ka = kw)) := ⟨HM.out.f5, HM.out.n5, HM.out.i5, HM.out.j5⟩
        subst hsa
        have zb : ((nb : Int) == 0) = false := beq_eq_false_iff_ne.2 (by omega)
        have zc : ((nc : Int) == 0) = false := beq_eq_false_iff_ne.2 (by omega)
        have za : ((tl : Int) + 1 == 0) = false := beq_eq_false_iff_ne.2 (by omega)
        have e2 : ((tl : Int) + 1 - 1) = tl := by omega
        have hci : (tl : Int) ≤ (ca : Int) := by omega
        have ht0 : (0 : Int) ≤ (tl : Int) := by omega
        have ht1 : (tl : Int) < (tl : Int) + 1 := by omega
        clear cA hat VA2 VB2 VA3 VB3 VC3 vc b11 HK10 HK11 EVW B12 B9 HM HLN HLL pK pW
        obtain ⟨W13, hW13⟩ : ∃ W13, W13 = w11.alloc (.cells #[.int .i64 x1, .int .i64 x2] 43) := ⟨_, rfl⟩
        obtain ⟨bx, hbx⟩ : ∃ bx, bx = w11.heap.size := ⟨_, rfl⟩
        have k13 : W13.heap[bx]? = some (.cells #[.int .i64 x1, .int .i64 x2] 43 (0, 0)) := by rw [hW13, hbx]; exact alloc_at w11 _
        have bl : bx < W13.heap.size := (Array.getElem?_eq_some_iff.1 k13).1
        have t0 : W13.cell? ⟨bx, 0, none⟩ = some (.int .i64 x1) := by simp [World.cell?, k13]
        have t1 : W13.cell? ⟨bx, 1, none⟩ = some (.int .i64 x2) := by simp [World.cell?, k13]
        have B13 : Hid (Below w11.heap.size w11 W13) := by rw [hW13]; exact (Below.refl _ _).alloc (Nat.le_refl _) _
        clear k13
        go_upto_region 14 with fail
        rw [← hW13, ← hbx]
        clear hW13 hbx s0 s1
        by_cases h5 : x1 = 5
        · subst h5
          obtain ⟨p1, p2⟩ := FF.out.1 rfl
          obtain ⟨p3, p4⟩ := FF.out.2.2.2 (fun h => by have := h.1; omega)
          have C1 : Hid _ := AAB.out p1
          have C2 : Hid _ := SAC.out p3
          have g1 : ¬ (kk : Int) < (ka : Int) := by omega
          have g2 : decide ((kk : Int) < (ka : Int)) = false := decide_eq_false g1
          have g4 : decide (kk < ka) = false := decide_eq_false (by omega)
          have g3 : ((kw : Int) == (ka : Int)) = true := beq_iff_eq.2 (by omega)
          clear p1 p3 AAB AAC SAB SAC FF
          go_wp2_with fail
          refine Calls.mono (C1.out _ B13.out) ?_
          rintro e20 w20 ⟨rfl, b20⟩
          have t0 := (b20.cell (p := ⟨bx, 0, none⟩) bl).trans t0
          have t1 := (b20.cell (p := ⟨bx, 1, none⟩) bl).trans t1
          have bl := Nat.lt_of_lt_of_le bl b20.size
          have B20 : Hid (Below w11.heap.size w11 w20) := B13.out.trans (b20.mono B13.out.size)
          clear b20 B13
          go_wp2_with fail
          refine Calls.mono (ETk.out _ B20.out) ?_
          rintro e21 w21 ⟨rfl, b21⟩
          have t0 := (b21.cell (p := ⟨bx, 0, none⟩) bl).trans t0
          have t1 := (b21.cell (p := ⟨bx, 1, none⟩) bl).trans t1
          have bl := Nat.lt_of_lt_of_le bl b21.size
          have B21 : Hid (Below w11.heap.size w11 w21) := B20.out.trans (b21.mono B20.out.size)
          clear b21 B20
          go_wp2_with fail
          refine Calls.mono (ETm.out _ B21.out) ?_
          rintro e22 w22 ⟨rfl, b22⟩
          have t0 := (b22.cell (p := ⟨bx, 0, none⟩) bl).trans t0
          have t1 := (b22.cell (p := ⟨bx, 1, none⟩) bl).trans t1
          have bl := Nat.lt_of_lt_of_le bl b22.size
          have B22 : Hid (Below w11.heap.size w11 w22) := B21.out.trans (b22.mono B21.out.size)
          clear b22 B21
          go_wp2_with fail
          refine Calls.mono (C2.out _ B22.out) ?_
          rintro e23 w23 ⟨rfl, b23⟩
          have B23 : Hid (Below w11.heap.size w11 w23) := B22.out.trans (b23.mono B22.out.size)
          clear b23 B22
          go_wp2_with fail
          refine Calls.mono (ETn.out _ B23.out) ?_
          rintro e24 w24 ⟨rfl, b24⟩
          have B24 : Hid (Below w11.heap.size w11 w24) := B23.out.trans (b24.mono B23.out.size)
          clear b24 B23
          go_wp2_with fail
          refine Calls.mono (ETm.out _ B24.out) ?_
          rintro e25 w25 ⟨rfl, b25⟩
          have B25 : Hid (Below w11.heap.size w11 w25) := B24.out.trans (b25.mono B24.out.size)
          clear b25 B24
          go_wp2_with fail
          refine Calls.mono (EK.out _ (B11.out.trans (B25.out.mono B11.out.size))) ?_
          rintro e26 w26 ⟨rfl, b26⟩
          have FIN : Hid (Below w.heap.size w w26) := (B11.out.trans (B25.out.mono B11.out.size)).trans (b26.mono (Nat.le_trans B11.out.size B25.out.size))
          clear b26 B25
          go_wp2_with fail
          go_ret
          exact ⟨rfl, FIN.out⟩
        · have f5 : (x1 == 5) = false := beq_eq_false_iff_ne.2 h5
          obtain ⟨p1, p2⟩ := FF.out.2.1 h5
          have C1 : Hid _ := SAB.out p1
          have g1 : ((ka : Int) != (kk : Int)) = false := by rw [p2]; simp
          by_cases h45 : x1 = 4 ∧ x2 = 5
          · obtain ⟨p3, p4⟩ := FF.out.2.2.1 h45
            have C2 : Hid _ := AAC.out p3
            obtain ⟨rfl, rfl⟩ := h45
            have g2 : (ka : Int) ≤ (kw : Int) := by omega
            have g3 : decide ((ka : Int) ≤ (kw : Int)) = true := decide_eq_true g2
            have g4 : decide (ka ≤ kw) = true := decide_eq_true p4
            clear p1 p3 AAB AAC SAB SAC FF
            go_wp2_with fail
            refine Calls.mono (C1.out _ B13.out) ?_
            rintro e20 w20 ⟨rfl, b20⟩
            have t0 := (b20.cell (p := ⟨bx, 0, none⟩) bl).trans t0
            have t1 := (b20.cell (p := ⟨bx, 1, none⟩) bl).trans t1
            have bl := Nat.lt_of_lt_of_le bl b20.size
            have B20 : Hid (Below w11.heap.size w11 w20) := B13.out.trans (b20.mono B13.out.size)
            clear b20 B13
            go_wp2_with fail
            refine Calls.mono (ETm.out _ B20.out) ?_
            rintro e21 w21 ⟨rfl, b21⟩
            have t0 := (b21.cell (p := ⟨bx, 0, none⟩) bl).trans t0
            have t1 := (b21.cell (p := ⟨bx, 1, none⟩) bl).trans t1
            have bl := Nat.lt_of_lt_of_le bl b21.size
            have B21 : Hid (Below w11.heap.size w11 w21) := B20.out.trans (b21.mono B20.out.size)
            clear b21 B20
            go_wp2_with fail
            refine Calls.mono (ETk.out _ B21.out) ?_
            rintro e22 w22 ⟨rfl, b22⟩
            have t0 := (b22.cell (p := ⟨bx, 0, none⟩) bl).trans t0
            have t1 := (b22.cell (p := ⟨bx, 1, none⟩) bl).trans t1
            have bl := Nat.lt_of_lt_of_le bl b22.size
            have B22 : Hid (Below w11.heap.size w11 w22) := B21.out.trans (b22.mono B21.out.size)
            clear b22 B21
            go_wp2_with fail
            refine Calls.mono (C2.out _ B22.out) ?_
            rintro e23 w23 ⟨rfl, b23⟩
            have B23 : Hid (Below w11.heap.size w11 w23) := B22.out.trans (b23.mono B22.out.size)
            clear b23 B22
            go_wp2_with fail
            refine Calls.mono (ETn.out _ B23.out) ?_
            rintro e24 w24 ⟨rfl, b24⟩
            have B24 : Hid (Below w11.heap.size w11 w24) := B23.out.trans (b24.mono B23.out.size)
            clear b24 B23
            go_wp2_with fail
            refine Calls.mono (ETm.out _ B24.out) ?_
            rintro e25 w25 ⟨rfl, b25⟩
            have B25 : Hid (Below w11.heap.size w11 w25) := B24.out.trans (b25.mono B24.out.size)
            clear b25 B24
            go_wp2_with fail
            refine Calls.mono (EK.out _ (B11.out.trans (B25.out.mono B11.out.size))) ?_
            rintro e26 w26 ⟨rfl, b26⟩
            have FIN : Hid (Below w.heap.size w w26) := (B11.out.trans (B25.out.mono B11.out.size)).trans (b26.mono (Nat.le_trans B11.out.size B25.out.size))
            clear b26 B25
            go_wp2_with fail
            go_ret
            exact ⟨rfl, FIN.out⟩
          · obtain ⟨p3, p4⟩ := FF.out.2.2.2 h45
            have C2 : Hid _ := SAC.out p3
            have g3 : ((kw : Int) == (ka : Int)) = true := beq_iff_eq.2 (by omega)
            have hx2 : (x1 == 4) = false ∨ ((x1 == 4) = true ∧ (x2 == 5) = false) := by
              by_cases h4 : x1 = 4
              · exact .inr ⟨beq_iff_eq.2 h4, beq_eq_false_iff_ne.2 (fun h => h45 ⟨h4, h⟩)⟩
              · exact .inl (beq_eq_false_iff_ne.2 h4)
            clear p1 p3 AAB AAC SAB SAC FF
            rcases hx2 with f4 | ⟨f4, f45⟩
            · clear h45
              go_wp2_with fail
              refine Calls.mono (C1.out _ B13.out) ?_
              rintro e20 w20 ⟨rfl, b20⟩
              have t0 := (b20.cell (p := ⟨bx, 0, none⟩) bl).trans t0
              have t1 := (b20.cell (p := ⟨bx, 1, none⟩) bl).trans t1
              have bl := Nat.lt_of_lt_of_le bl b20.size
              have B20 : Hid (Below w11.heap.size w11 w20) := B13.out.trans (b20.mono B13.out.size)
              clear b20 B13
              go_wp2_with fail
              refine Calls.mono (ETm.out _ B20.out) ?_
              rintro e21 w21 ⟨rfl, b21⟩
              have t0 := (b21.cell (p := ⟨bx, 0, none⟩) bl).trans t0
              have t1 := (b21.cell (p := ⟨bx, 1, none⟩) bl).trans t1
              have bl := Nat.lt_of_lt_of_le bl b21.size
              have B21 : Hid (Below w11.heap.size w11 w21) := B20.out.trans (b21.mono B20.out.size)
              clear b21 B20
              go_wp2_with fail
              refine Calls.mono (ETk.out _ B21.out) ?_
              rintro e22 w22 ⟨rfl, b22⟩
              have t0 := (b22.cell (p := ⟨bx, 0, none⟩) bl).trans t0
              have t1 := (b22.cell (p := ⟨bx, 1, none⟩) bl).trans t1
              have bl := Nat.lt_of_lt_of_le bl b22.size
              have B22 : Hid (Below w11.heap.size w11 w22) := B21.out.trans (b22.mono B21.out.size)
              clear b22 B21
              go_wp2_with fail
              refine Calls.mono (C2.out _ B22.out) ?_
              rintro e23 w23 ⟨rfl, b23⟩
              have B23 : Hid (Below w11.heap.size w11 w23) := B22.out.trans (b23.mono B22.out.size)
              clear b23 B22
              go_wp2_with fail
              refine Calls.mono (ETn.out _ B23.out) ?_
              rintro e24 w24 ⟨rfl, b24⟩
              have B24 : Hid (Below w11.heap.size w11 w24) := B23.out.trans (b24.mono B23.out.size)
              clear b24 B23
              go_wp2_with fail
              refine Calls.mono (ETm.out _ B24.out) ?_
              rintro e25 w25 ⟨rfl, b25⟩
              have B25 : Hid (Below w11.heap.size w11 w25) := B24.out.trans (b25.mono B24.out.size)
              clear b25 B24
              go_wp2_with fail
              refine Calls.mono (EK.out _ (B11.out.trans (B25.out.mono B11.out.size))) ?_
              rintro e26 w26 ⟨rfl, b26⟩
              have FIN : Hid (Below w.heap.size w w26) := (B11.out.trans (B25.out.mono B11.out.size)).trans (b26.mono (Nat.le_trans B11.out.size B25.out.size))
              clear b26 B25
              go_wp2_with fail
              go_ret
              exact ⟨rfl, FIN.out⟩
            · clear h45
              go_wp2_with fail
              refine Calls.mono (C1.out _ B13.out) ?_
              rintro e20 w20 ⟨rfl, b20⟩
              have t0 := (b20.cell (p := ⟨bx, 0, none⟩) bl).trans t0
              have t1 := (b20.cell (p := ⟨bx, 1, none⟩) bl).trans t1
              have bl := Nat.lt_of_lt_of_le bl b20.size
              have B20 : Hid (Below w11.heap.size w11 w20) := B13.out.trans (b20.mono B13.out.size)
              clear b20 B13
              go_wp2_with fail
              refine Calls.mono (ETm.out _ B20.out) ?_
              rintro e21 w21 ⟨rfl, b21⟩
              have t0 := (b21.cell (p := ⟨bx, 0, none⟩) bl).trans t0
              have t1 := (b21.cell (p := ⟨bx, 1, none⟩) bl).trans t1
              have bl := Nat.lt_of_lt_of_le bl b21.size
              have B21 : Hid (Below w11.heap.size w11 w21) := B20.out.trans (b21.mono B20.out.size)
              clear b21 B20
              go_wp2_with fail
              refine Calls.mono (ETk.out _ B21.out) ?_
              rintro e22 w22 ⟨rfl, b22⟩
              have t0 := (b22.cell (p := ⟨bx, 0, none⟩) bl).trans t0
              have t1 := (b22.cell (p := ⟨bx, 1, none⟩) bl).trans t1
              have bl := Nat.lt_of_lt_of_le bl b22.size
              have B22 : Hid (Below w11.heap.size w11 w22) := B21.out.trans (b22.mono B21.out.size)
              clear b22 B21
              go_wp2_with fail
              refine Calls.mono (C2.out _ B22.out) ?_
              rintro e23 w23 ⟨rfl, b23⟩
              have B23 : Hid (Below w11.heap.size w11 w23) := B22.out.trans (b23.mono B22.out.size)
              clear b23 B22
              go_wp2_with fail
              refine Calls.mono (ETn.out _ B23.out) ?_
              rintro e24 w24 ⟨rfl, b24⟩
              have B24 : Hid (Below w11.heap.size w11 w24) := B23.out.trans (b24.mono B23.out.size)
              clear b24 B23
              go_wp2_with fail
              refine Calls.mono (ETm.out _ B24.out) ?_
              rintro e25 w25 ⟨rfl, b25⟩
              have B25 : Hid (Below w11.heap.size w11 w25) := B24.out.trans (b25.mono B24.out.size)
              clear b25 B24
              go_wp2_with fail
              refine Calls.mono (EK.out _ (B11.out.trans (B25.out.mono B11.out.size))) ?_
              rintro e26 w26 ⟨rfl, b26⟩
              have FIN : Hid (Below w.heap.size w w26) := (B11.out.trans (B25.out.mono B11.out.size)).trans (b26.mono (Nat.le_trans B11.out.size B25.out.size))
              clear b26 B25
              go_wp2_with fail
              go_ret
              exact ⟨rfl, FIN.out⟩
end Go.Proofs.YtodpdnidinnjjaaDoor
