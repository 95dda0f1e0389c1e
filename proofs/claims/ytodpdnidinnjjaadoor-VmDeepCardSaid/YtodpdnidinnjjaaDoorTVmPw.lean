/- Layer 9, plain: a machine of sound codes stays one that can go on. -/
import Derived.Test.YtodpdnidinnjjaaDoorTVmZ
namespace Go.Proofs.YtodpdnidinnjjaaDoor.Vm
open Go.RowKit
set_option linter.unusedVariables false
set_option linter.unusedSimpArgs false

/-- Frames, their cells and stacks; the last one waits for so many numbers. -/
inductive Fs (l : List Cd.Co) : List Fr → Nat → Nat → Int → Prop
  | nil : Fs l [] 0 0 0
  | snoc (fs : List Fr) (f : Fr) (C S h : Nat) (a : Int) (c : Cd.Co) (r : Fs l fs C S (Cd.an c)) (hc : l[f.proc]? = some c) (hb : f.base = C) (hr : Cd.Rc l c (f.place : Int) ((h : Int) + a)) : Fs l (fs ++ [f]) (C + c.cells.toNat) (S + h) a
/-- The last frame. -/
structure Tp (l : List Cd.Co) (fs : List Fr) (f : Fr) (C S : Nat) (a : Int) (c : Cd.Co) (C0 S0 h : Nat) : Prop where
  r : Fs l fs C0 S0 (Cd.an c)
  hc : l[f.proc]? = some c
  hb : f.base = C0
  cC : C = C0 + c.cells.toNat
  sS : S = S0 + h
  hr : Cd.Rc l c (f.place : Int) ((h : Int) + a)
theorem Fs.inv {l : List Cd.Co} {fs : List Fr} {f : Fr} {C S : Nat} {a : Int} (h : Fs l (fs ++ [f]) C S a) : ∃ c C0 S0 h, Tp l fs f C S a c C0 S0 h := by
  generalize e : fs ++ [f] = gs at h
  cases h with
  | nil => simp at e
  | snoc fs' f' C S h a c r hc hb hr =>
    obtain ⟨rfl, e2⟩ := List.append_inj' e rfl
    cases e2
    exact ⟨c, C, S, h, r, hc, hb, rfl, rfl, hr⟩
theorem Tp.fs {l : List Cd.Co} {fs : List Fr} {f : Fr} {C S : Nat} {a : Int} {c : Cd.Co} {C0 S0 h : Nat} (t : Tp l fs f C S a c C0 S0 h) : Fs l (fs ++ [f]) C S a := by
  rw [t.cC, t.sS]
  exact .snoc fs f C0 S0 h a c t.r t.hc t.hb t.hr
theorem an_nn (c : Cd.Co) : 0 ≤ Cd.an c ∧ Cd.an c ≤ 1 := by unfold Cd.an; cases c.ans <;> decide
theorem Fs.bnd {B : Int} {l : List Cd.Co} (hfit : ∀ c, c ∈ l → Cd.Fit B l c) {fs : List Fr} {C S : Nat} {a : Int} (h : Fs l fs C S a) : 0 ≤ a → C ≤ fs.length * 65536 ∧ S ≤ fs.length * 4096 := by
  induction h with
  | nil => intro _; simp
  | snoc fs f C S h a c r hc hb hr ih =>
    intro ha
    have i := ih (an_nn c).1
    have ft := hfit c (List.mem_of_getElem? hc)
    have lo := ft.lo _ _ hr
    obtain ⟨_, ii, _, _, h4, _⟩ := lo
    have s := ft.sz
    unfold Cd.sz at s
    simp at s
    rw [List.length_append, List.length_singleton, Nat.add_mul, Nat.add_mul]
    omega
/-- A machine that runs and can go on. -/
structure WF (B : Int) (M : Mc) : Prop where
  len : M.codes.length ≤ 40
  fit : ∀ c, c ∈ M.codes → Cd.Fit B M.codes c
  fs : Fs M.codes M.frames M.cells.length M.stack.length 0
  f1 : 1 ≤ M.frames.length
  f50 : M.frames.length ≤ 50
  rd : M.read ≤ M.input.length
  inp : M.input.length ≤ 1000000
  fu : 0 ≤ M.fuel
  ti : 0 ≤ M.ticks
  su : M.ticks + M.fuel ≤ 10000000
/-- The instruction that comes, and what is known of it. -/
structure At (B : Int) (M : Mc) (fs : List Fr) (f : Fr) (c : Cd.Co) (i : Cd.In) (C0 S0 h : Nat) : Prop where
  hf : M.frames = fs ++ [f]
  tp : Tp M.codes fs f M.cells.length M.stack.length 0 c C0 S0 h
  hi : c.ins[f.place]? = some i
  ft : Cd.Fit B M.codes c
  tk : Cd.tk i ≤ h
  h4 : h ≤ 4096
  bare : Cd.bare i = true → (h : Int) = Cd.tk i
  hl : Cd.hl i = true
  al : Cd.al B M.codes c i = true
theorem WF.at {B : Int} {M : Mc} (w : WF B M) : ∃ fs f c i C0 S0 h, At B M fs f c i C0 S0 h := by
  obtain ⟨fs, f, hf⟩ : ∃ fs f, M.frames = fs ++ [f] := by
    rcases List.eq_nil_or_concat M.frames with h | ⟨s, a, h⟩
    · have := w.f1
      rw [h] at this
      simp at this
    · exact ⟨s, a, by rw [h]; simp⟩
  have h0 := w.fs
  rw [hf] at h0
  obtain ⟨c, C0, S0, h, t⟩ := h0.inv
  have ft := w.fit c (List.mem_of_getElem? t.hc)
  have hr := t.hr
  obtain ⟨hp, i, hi, h1, h2, h3⟩ := ft.lo _ _ hr
  rw [Int.toNat_natCast] at hi
  have ha := ft.al i (List.mem_of_getElem? hi)
  exact ⟨fs, f, c, i, C0, S0, h, hf, t, hi, ft, by omega, by omega, fun hb => by have := h3 hb; omega, ha.1, ha.2⟩
/-- What an instruction leaves as it is. -/
structure Kp (M N : Mc) : Prop where
  co : N.codes = M.codes
  inp : N.input = M.input
  fu : N.fuel = M.fuel
  ti : N.ticks = M.ticks
  g : N.g = M.g
  ev : ∃ t, N.events = M.events ++ t ∧ t.length ≤ 1 ∧ (N.run = true → ∀ e ∈ t, e.1 < 3) ∧ (N.run = false → ∃ e, t = [e] ∧ 3 ≤ e.1)
/-- An instruction that changes the stack and the cells of the last frame alone. -/
structure Rk (M N : Mc) (i : Cd.In) : Prop extends Kp M N where
  fr : N.frames = M.frames
  rd : N.read = M.read
  ce : N.cells.length = M.cells.length
  st : N.run = true → (N.stack.length : Int) = M.stack.length - Cd.tk i + Cd.lv M.codes i
theorem rk_rk {M : Mc} {f : Fr} {i : Cd.In} (hr : M.run = true) (ho : (1 ≤ i.op ∧ i.op ≤ 16) ∨ i.op = 25) (ht : Cd.tk i ≤ M.stack.length) : Rk M (rk M f i) i := by
  obtain ⟨op, n, z⟩ := i
  dsimp only at ho
  have hcases : op = 1 ∨ op = 2 ∨ op = 3 ∨ op = 4 ∨ op = 5 ∨ op = 6 ∨ op = 15 ∨ op = 16 ∨ op = 25 ∨ (7 ≤ op ∧ op ≤ 14) := by omega
  have none : ∀ N : Mc, N.run = true → N.events = M.events → ∃ t, N.events = M.events ++ t ∧ t.length ≤ 1 ∧ (N.run = true → ∀ e ∈ t, e.1 < 3) ∧ (N.run = false → ∃ e, t = [e] ∧ 3 ≤ e.1) := fun N h e => ⟨[], by simp [e], by simp, fun _ e he => by simp at he, fun h2 => by rw [h] at h2; cases h2⟩
  have trap : ∀ (N : Mc) k, N.run = false → N.events = M.events ++ [(4, k)] → ∃ t, N.events = M.events ++ t ∧ t.length ≤ 1 ∧ (N.run = true → ∀ e ∈ t, e.1 < 3) ∧ (N.run = false → ∃ e, t = [e] ∧ 3 ≤ e.1) := fun N k h e => ⟨[(4, k)], e, by simp, fun h2 => (by rw [h] at h2; cases h2), fun _ => ⟨_, rfl, (by decide : (3 : Int) ≤ 4)⟩⟩
  rcases hcases with rfl | rfl | rfl | rfl | rfl | rfl | rfl | rfl | rfl | ⟨h7, h14⟩
  · refine ⟨⟨rfl, rfl, rfl, rfl, rfl, none _ hr rfl⟩, rfl, rfl, rfl, fun _ => ?_⟩
    simp [rk, Cd.tk, Cd.lv, Cd.takesL, Cd.leavesL]
  · refine ⟨⟨rfl, rfl, rfl, rfl, rfl, none _ hr rfl⟩, rfl, rfl, rfl, fun _ => ?_⟩
    simp [rk, Cd.tk, Cd.lv, Cd.takesL, Cd.leavesL]
  · have h0 : (1 : Int) ≤ M.stack.length := ht
    refine ⟨⟨rfl, rfl, rfl, rfl, rfl, none _ hr rfl⟩, rfl, rfl, by simp [rk], fun _ => ?_⟩
    simp [rk, Cd.tk, Cd.lv, Cd.takesL, Cd.leavesL]
    omega
  · have h0 : (1 : Int) ≤ M.stack.length := ht
    have e : rk M f ⟨4, n, z⟩ = ix M M.stack.dropLast (M.stack.getLastD 0) (f.base + n.toNat) z.toNat := rfl
    rw [e]
    unfold ix
    split
    · refine ⟨⟨rfl, rfl, rfl, rfl, rfl, none _ hr rfl⟩, rfl, rfl, rfl, fun _ => ?_⟩
      simp [Cd.tk, Cd.lv, Cd.takesL, Cd.leavesL]
      omega
    · exact ⟨⟨rfl, rfl, rfl, rfl, rfl, trap _ _ rfl rfl⟩, rfl, rfl, rfl, fun h => by cases h⟩
  · have h0 : (2 : Int) ≤ M.stack.length := ht
    have e : rk M f ⟨5, n, z⟩ = pt M M.stack.dropLast.dropLast (M.stack.dropLast.getLastD 0) (M.stack.getLastD 0) (f.base + n.toNat) z.toNat := rfl
    rw [e]
    unfold pt
    split
    · refine ⟨⟨rfl, rfl, rfl, rfl, rfl, none _ hr rfl⟩, rfl, rfl, by simp, fun _ => ?_⟩
      simp [Cd.tk, Cd.lv, Cd.takesL, Cd.leavesL]
      omega
    · exact ⟨⟨rfl, rfl, rfl, rfl, rfl, trap _ _ rfl rfl⟩, rfl, rfl, rfl, fun h => by cases h⟩
  · refine ⟨⟨rfl, rfl, rfl, rfl, rfl, none _ hr rfl⟩, rfl, rfl, by simp [rk, cl_len], fun _ => ?_⟩
    simp [rk, Cd.tk, Cd.lv, Cd.takesL, Cd.leavesL]
  · have h0 : (1 : Int) ≤ M.stack.length := ht
    refine ⟨⟨rfl, rfl, rfl, rfl, rfl, none _ hr rfl⟩, rfl, rfl, by simp [rk], fun _ => ?_⟩
    simp [rk, Cd.tk, Cd.lv, Cd.takesL, Cd.leavesL]
    omega
  · have h0 : (1 : Int) ≤ M.stack.length := ht
    refine ⟨⟨rfl, rfl, rfl, rfl, rfl, none _ hr rfl⟩, rfl, rfl, by simp [rk], fun _ => ?_⟩
    simp [rk, Cd.tk, Cd.lv, Cd.takesL, Cd.leavesL]
    omega
  · have h0 : (1 : Int) ≤ M.stack.length := ht
    refine ⟨⟨rfl, rfl, rfl, rfl, rfl, none _ hr rfl⟩, rfl, rfl, by simp [rk], fun _ => ?_⟩
    simp [rk, Cd.tk, Cd.lv, Cd.takesL, Cd.leavesL]
    omega
  · have e : rk M f ⟨op, n, z⟩ = jn { M with stack := M.stack.dropLast.dropLast } op (M.stack.dropLast.getLastD 0) (M.stack.getLastD 0) := by
      unfold rk
      dsimp only
      rw [if_neg (by omega), if_neg (by omega), if_neg (by omega), if_neg (by omega), if_neg (by omega), if_neg (by omega), if_neg (by omega), if_neg (by omega), if_neg (by omega)]
    have t2 : Cd.tk ⟨op, n, z⟩ = 2 ∧ Cd.lv M.codes ⟨op, n, z⟩ = 1 := by
      have : op = 7 ∨ op = 8 ∨ op = 9 ∨ op = 10 ∨ op = 11 ∨ op = 12 ∨ op = 13 ∨ op = 14 := by omega
      rcases this with rfl | rfl | rfl | rfl | rfl | rfl | rfl | rfl <;> exact ⟨rfl, rfl⟩
    rw [t2.1] at ht
    rw [e]
    unfold jn
    split
    · refine ⟨⟨rfl, rfl, rfl, rfl, rfl, none _ hr rfl⟩, rfl, rfl, rfl, fun _ => ?_⟩
      rw [t2.1, t2.2]
      simp
      omega
    · exact ⟨⟨rfl, rfl, rfl, rfl, rfl, trap _ _ rfl rfl⟩, rfl, rfl, rfl, fun h => by cases h⟩
end Go.Proofs.YtodpdnidinnjjaaDoor.Vm
