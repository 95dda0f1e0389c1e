/- Layer 9: the plain machine, instruction by instruction; reckon as a whole. -/
/- Layer 9, plain: a machine of sound codes stays one that can go on. -/
/- Layer 9, plain: each instruction, and a whole step, keeps what a machine of sound codes is. -/
/- Layer 9: what a machine tells: Ended, Ticks, Tick, Count, Frames; one that is not there. -/
import Derived.Test.YtkjkiknpgggadaaDoorSVmY
import Derived.Test.YtkjkiknpgggadaaDoorSVmG
namespace Go.Proofs.YtkjkiknpgggadaaDoor
open Go.RowKit
set_option linter.unusedVariables false
set_option linter.unusedSimpArgs false

namespace Vm
theorem last1 : ∀ (l : List Int), 1 ≤ l.length → l = l.dropLast ++ [l.getLastD 0] := fun l h => by
  rcases List.eq_nil_or_concat l with rfl | ⟨s, a, rfl⟩
  · simp at h
  · simp
theorem last2 : ∀ (l : List Int), 2 ≤ l.length → l = l.dropLast.dropLast ++ [l.dropLast.getLastD 0, l.getLastD 0] := fun l h => by
  have h1 := last1 l (by omega)
  have h2 := last1 l.dropLast (by simp; omega)
  rw [h1]
  rw [h2]
  simp
def rk (M : Mc) (f : Fr) (i : Cd.In) : Mc :=
  if i.op = 1 then { M with stack := M.stack ++ [i.n] }
  else if i.op = 2 then { M with stack := M.stack ++ [M.cells.getD (f.base + i.n.toNat) 0] }
  else if i.op = 3 then { M with stack := M.stack.dropLast, cells := M.cells.set (f.base + i.n.toNat) (M.stack.getLastD 0) }
  else if i.op = 4 then ix M M.stack.dropLast (M.stack.getLastD 0) (f.base + i.n.toNat) i.m.toNat
  else if i.op = 5 then pt M M.stack.dropLast.dropLast (M.stack.dropLast.getLastD 0) (M.stack.getLastD 0) (f.base + i.n.toNat) i.m.toNat
  else if i.op = 6 then { M with cells := cl M.cells (f.base + i.n.toNat) i.m.toNat }
  else if i.op = 15 then { M with stack := M.stack.dropLast ++ [tr (M.stack.getLastD 0 == 0)] }
  else if i.op = 16 then { M with stack := M.stack.dropLast ++ [wrap64 (-(M.stack.getLastD 0))] }
  else if i.op = 25 then { M with stack := M.stack.dropLast }
  else jn { M with stack := M.stack.dropLast.dropLast } i.op (M.stack.dropLast.getLastD 0) (M.stack.getLastD 0)
def trp (M : Mc) (k : Int) : Mc := { M with events := M.events ++ [(4, k)], run := false }
def ex (M : Mc) (fs : List Fr) (f : Fr) (i : Cd.In) : Mc :=
  if i.op = 17 then { M with frames := fs ++ [{ f with place := i.n.toNat }] }
  else if i.op = 18 then (if M.stack.getLastD 0 = 0 then { M with stack := M.stack.dropLast, frames := fs ++ [{ f with place := i.n.toNat }] } else { M with stack := M.stack.dropLast })
  else if i.op = 19 then (if M.frames.length = 50 then trp M 4 else match M.codes[i.n.toNat]? with | some d => en M i.n.toNat d.cells.toNat i.m.toNat | none => M)
  else if i.op = 20 then lv M fs f
  else if i.op = 21 then { M with stack := M.stack.dropLast, events := M.events ++ [(1, M.stack.getLastD 0)] }
  else if i.op = 22 then rd M
  else if i.op = 23 then (if M.stack.getLastD 0 = 0 then trp { M with stack := M.stack.dropLast } 3 else { M with stack := M.stack.dropLast })
  else rk M f i
def it (M : Mc) : Option (List Fr × Fr × Cd.Co × Cd.In) :=
  match M.frames.getLast? with
  | none => none
  | some f => match M.codes[f.proc]? with
    | none => none
    | some c => match c.ins[f.place]? with
      | none => none
      | some i => some (M.frames.dropLast, f, c, i)
theorem it_of {M : Mc} {fs : List Fr} {f : Fr} {c : Cd.Co} {i : Cd.In} (hf : M.frames = fs ++ [f]) (hc : M.codes[f.proc]? = some c) (hi : c.ins[f.place]? = some i) : it M = some (fs, f, c, i) := by
  unfold it
  rw [hf]
  simp [hc, hi]
def go : Nat → Mc → Mc
  | 0, M => M
  | n + 1, M => match it M with
    | none => M
    | some (fs, f, _, i) =>
      if i.op = 24 then (if 0 < M.fuel then mk { M with frames := fs ++ [{ f with place := f.place + 1 }] } fs { f with place := f.place + 1 } i else { M with frames := fs ++ [{ f with place := f.place + 1 }] })
      else if (ex { M with frames := fs ++ [{ f with place := f.place + 1 }] } fs { f with place := f.place + 1 } i).run then go n (ex { M with frames := fs ++ [{ f with place := f.place + 1 }] } fs { f with place := f.place + 1 } i)
      else ex { M with frames := fs ++ [{ f with place := f.place + 1 }] } fs { f with place := f.place + 1 } i
def fin (t : Int) (M : Mc) : Mc := if M.run = true ∧ ¬ M.ticks > t then { M with events := M.events ++ [(5, 0)], run := false } else M
def step (M : Mc) : Mc := if M.run then fin M.ticks (go 1048576 M) else M
def ticked (M : Mc) : Bool := M.run && decide ((go 1048576 M).ticks > M.ticks)
end Vm
set_option maxHeartbeats 2000000 in
theorem vmReckon (m : Nat) (w : World) (V : VmV) (M : Vm.Mc) (fs : List Vm.Fr) (f : Vm.Fr) (c : Cd.Co) (k : Nat) (i : Cd.In) (B : Int) (h : VmS m w V M) (hf : M.frames = fs ++ [f]) (hc : M.codes[f.proc]? = some c) (hk : c.cells = k) (hb : f.base + k ≤ M.cells.length) (hl : M.cells.length ≤ 100000000) (hfl : fs.length ≤ 1000000) (hs : M.stack.length ≤ 900000) (he : M.events.length ≤ 1000000000) (ho : (1 ≤ i.op ∧ i.op ≤ 16) ∨ i.op = 25) (ha : Cd.al B M.codes c i = true) (ht : Cd.tk i ≤ M.stack.length) :
    Calls Tryd.prog 33 #[.pointer (some ⟨m, 0, none⟩), inV i] w fun e w' => e = .returned (.tuple #[]) ∧ VmQ m w w' (Vm.rk M f i) := by
  obtain ⟨op, n, z⟩ := i
  dsimp only at ho
  have h1 := Vm.last1 M.stack
  have h2 := Vm.last2 M.stack
  obtain ⟨s1, e1⟩ : ∃ s, s = M.stack.dropLast := ⟨_, rfl⟩
  obtain ⟨a1, e2⟩ : ∃ s, s = M.stack.getLastD 0 := ⟨_, rfl⟩
  obtain ⟨s2, e3⟩ : ∃ s, s = M.stack.dropLast.dropLast := ⟨_, rfl⟩
  obtain ⟨a2, e4⟩ : ∃ s, s = M.stack.dropLast.getLastD 0 := ⟨_, rfl⟩
  have l1 : s1.length ≤ 900000 := by rw [e1]; simp; omega
  have l2 : s2.length ≤ 900000 := by rw [e3]; simp; omega
  unfold Vm.rk
  dsimp only
  rw [← e1, ← e2] at h1
  rw [← e3, ← e4, ← e2] at h2
  rw [← e3, ← e4, ← e1, ← e2]
  have hcases : op = 1 ∨ op = 2 ∨ op = 3 ∨ op = 4 ∨ op = 5 ∨ op = 6 ∨ op = 15 ∨ op = 16 ∨ op = 25 ∨ op = 7 ∨ op = 8 ∨ op = 9 ∨ op = 10 ∨ op = 11 ∨ op = 12 ∨ op = 13 ∨ op = 14 := by omega
  have t1 : ∀ x : Int, Cd.tk ⟨op, n, z⟩ = x → x ≤ M.stack.length := fun x e => by rw [← e]; exact ht
  clear ht
  rcases hcases with rfl | rfl | rfl | rfl | rfl | rfl | rfl | rfl | rfl | rfl | rfl | rfl | rfl | rfl | rfl | rfl | rfl
  · simp only [if_true]
    exact vmR1 m w V M fs f c k n z h hf hc hk hb hl hfl (by omega)
  · simp only [Cd.al, Cd.hc, true_or, if_true, Bool.and_eq_true, decide_eq_true_eq] at ha
    obtain ⟨j, hj⟩ : ∃ j : Nat, n = j := ⟨n.toNat, by omega⟩
    subst hj
    simpa using vmR2 m w V M fs f c k j z h hf hc hk hb hl hfl (by omega) (by omega)
  · simp only [Cd.al, Cd.hc, or_true, if_true, Bool.and_eq_true, decide_eq_true_eq] at ha
    have h0 := t1 1 rfl
    obtain ⟨j, hj⟩ : ∃ j : Nat, n = j := ⟨n.toNat, by omega⟩
    subst hj
    simpa using vmR3 m w V M fs f c k j z s1 a1 h hf hc hk hb hl hfl (h1 (by omega)) (by omega) (by omega)
  · simp [Cd.al, Cd.hc] at ha
    have h0 := t1 1 rfl
    obtain ⟨j, hj⟩ : ∃ j : Nat, n = j := ⟨n.toNat, by omega⟩
    obtain ⟨y, hy⟩ : ∃ y : Nat, z = y := ⟨z.toNat, by omega⟩
    subst hj hy
    simpa using vmR4 m w V M fs f c k j y s1 a1 h hf hc hk hb hl hfl (h1 (by omega)) (by omega) he (by omega) (by omega)
  · simp [Cd.al, Cd.hc] at ha
    have h0 := t1 2 rfl
    obtain ⟨j, hj⟩ : ∃ j : Nat, n = j := ⟨n.toNat, by omega⟩
    obtain ⟨y, hy⟩ : ∃ y : Nat, z = y := ⟨z.toNat, by omega⟩
    subst hj hy
    simpa using vmR5 m w V M fs f c k j y s2 a2 a1 h hf hc hk hb hl hfl (h2 (by omega)) (by omega) he (by omega) (by omega)
  · simp [Cd.al, Cd.hc] at ha
    obtain ⟨j, hj⟩ : ∃ j : Nat, n = j := ⟨n.toNat, by omega⟩
    obtain ⟨y, hy⟩ : ∃ y : Nat, z = y := ⟨z.toNat, by omega⟩
    subst hj hy
    simpa using vmR6 m w V M fs f c k j y h hf hc hk hb hl hfl (by omega) (by omega)
  · have h0 := t1 1 rfl
    cases hz : (a1 == 0) with
    | true => simpa [Vm.tr] using vmR15t m w V M fs f c k n z s1 a1 h hf hc hk hb hl hfl (h1 (by omega)) (by omega) hz
    | false => simpa [Vm.tr] using vmR15f m w V M fs f c k n z s1 a1 h hf hc hk hb hl hfl (h1 (by omega)) (by omega) hz
  · have h0 := t1 1 rfl
    simpa using vmR16 m w V M fs f c k n z s1 a1 h hf hc hk hb hl hfl (h1 (by omega)) (by omega)
  · have h0 := t1 1 rfl
    simpa using vmR25 m w V M fs f c k n z s1 a1 h hf hc hk hb hl hfl (h1 (by omega)) (by omega)
  · have h0 := t1 2 rfl
    simpa using vmR7 m w V M fs f c k n z s2 a2 a1 h hf hc hk hb hl hfl (h2 (by omega)) (by omega) he
  · have h0 := t1 2 rfl
    simpa using vmR8 m w V M fs f c k n z s2 a2 a1 h hf hc hk hb hl hfl (h2 (by omega)) (by omega) he
  · have h0 := t1 2 rfl
    simpa using vmR9 m w V M fs f c k n z s2 a2 a1 h hf hc hk hb hl hfl (h2 (by omega)) (by omega) he
  · have h0 := t1 2 rfl
    simpa using vmR10 m w V M fs f c k n z s2 a2 a1 h hf hc hk hb hl hfl (h2 (by omega)) (by omega) he
  · have h0 := t1 2 rfl
    simpa using vmR11 m w V M fs f c k n z s2 a2 a1 h hf hc hk hb hl hfl (h2 (by omega)) (by omega) he
  · have h0 := t1 2 rfl
    simpa using vmR12 m w V M fs f c k n z s2 a2 a1 h hf hc hk hb hl hfl (h2 (by omega)) (by omega) he
  · have h0 := t1 2 rfl
    simpa using vmR13 m w V M fs f c k n z s2 a2 a1 h hf hc hk hb hl hfl (h2 (by omega)) (by omega) he
  · have h0 := t1 2 rfl
    simpa using vmR14 m w V M fs f c k n z s2 a2 a1 h hf hc hk hb hl hfl (h2 (by omega)) (by omega) he
set_option maxRecDepth 100000 in
set_option maxHeartbeats 4000000 in
theorem vmCall (m : Nat) (w : World) (V : VmV) (M : Vm.Mc) (d : Cd.Co) (p gi : Nat) (k : Nat) (h : VmS m w V M) (hc : M.codes[p]? = some d) (hk : d.cells = k) (hl : M.cells.length + k ≤ 100000000) (hfl : M.frames.length ≤ 50) (hs : M.stack.length ≤ 900000) (hgi : gi ≤ M.stack.length) (hgk : gi ≤ k) (he : M.events.length ≤ 1000000000) :
    Calls Tryd.prog 28 #[.pointer (some ⟨m, 0, none⟩), inV ⟨19, p, gi⟩] w fun e w' => e = .returned (.tuple #[]) ∧ VmQ m w w' (if M.frames.length = 50 then Vm.trp M 4 else Vm.en M p k gi) := by
  obtain ⟨W1, hW1⟩ : ∃ W1, W1 = w.alloc (inB ⟨19, (p : Int), (gi : Int)⟩) := ⟨_, rfl⟩
  obtain ⟨ib, hib⟩ : ∃ ib, ib = w.heap.size := ⟨_, rfl⟩
  obtain ⟨t0, t1, t2, bw⟩ := in_box w ⟨19, (p : Int), (gi : Int)⟩ ib W1 hib hW1
  dsimp only at t0 t1 t2
  have h1 := h.later bw
  have HB : Hid (Below m w W1) := bw.mono (Nat.le_of_lt h.lt)
  have c10 := h1.cell.2.2.2.2.2.2.1
  obtain ⟨fa, fc, hv⟩ := own_shp (show W1.ownsRow (m + 1) 70 4 V.fv M.frames.length (Vm.frC M.frames) from h1.rows.oc)
  rw [hv] at c10
  have ET : Hid _ := vmTrap m W1 V M 4 h1 he
  have EE : Hid _ := vmEnter m W1 V M d p k gi h1 hc hk hl (by omega) (by omega) hgi hgk
  obtain ⟨n, hn⟩ : ∃ n, n = M.frames.length := ⟨_, rfl⟩
  rw [← hn] at c10 ⊢
  clear h h1 hv bw hc hk hl hfl hs hgi hgk he hn
  by_cases h50 : n = 50
  · subst h50
    rw [if_pos rfl]
    go_enter Tryd.func28, Tryd.ntmps28
    go_upto_region 1 with fail
    rw [← hW1, ← hib]
    clear hW1 hib
    go_wp2_with fail
    refine Calls.mono ET.out ?_
    rintro e1 w1 ⟨rfl, Q1⟩
    have FIN : Hid (VmQ m w w1 (Vm.trp M 4)) := ⟨HB.out.trans Q1.1, Q1.2⟩
    clear Q1 ET EE
    go_wp2_with fail
    first
      | (go_end0; exact ⟨rfl, FIN.out⟩)
      | (refine bodyPost_ret (v := .tuple #[]) (by simp [results, Tryd.results28, go_sem]) rfl ?_; exact ⟨rfl, FIN.out⟩)
  · rw [if_neg h50]
    have hb : ((n : Int) == 50) = false := beq_eq_false_iff_ne.2 (by omega)
    go_enter Tryd.func28, Tryd.ntmps28
    go_upto_region 1 with fail
    rw [← hW1, ← hib]
    clear hW1 hib
    go_wp2_with fail
    refine Calls.mono EE.out ?_
    rintro e1 w1 ⟨rfl, Q1⟩
    have FIN : Hid (VmQ m w w1 (Vm.en M p k gi)) := ⟨HB.out.trans Q1.1, Q1.2⟩
    clear Q1 ET EE
    go_wp2_with fail
    first
      | (go_end0; exact ⟨rfl, FIN.out⟩)
      | (go_ret; exact ⟨rfl, FIN.out⟩)
end Go.Proofs.YtkjkiknpgggadaaDoor

namespace Go.Proofs.YtkjkiknpgggadaaDoor.Vm
open Go.RowKit
set_option linter.unusedVariables false
set_option linter.unusedSimpArgs false

inductive Fs (l : List Cd.Co) : List Fr → Nat → Nat → Int → Prop
  | nil : Fs l [] 0 0 0
  | snoc (fs : List Fr) (f : Fr) (C S h : Nat) (a : Int) (c : Cd.Co) (r : Fs l fs C S (Cd.an c)) (hc : l[f.proc]? = some c) (hb : f.base = C) (hr : Cd.Rc l c (f.place : Int) ((h : Int) + a)) : Fs l (fs ++ [f]) (C + c.cells.toNat) (S + h) a
structure Tp (l : List Cd.Co) (fs : List Fr) (f : Fr) (C S : Nat) (a : Int) (c : Cd.Co) (C0 S0 h : Nat) : Prop where
  r : Fs l fs C0 S0 (Cd.an c)
  hc : l[f.proc]? = some c
  hb : f.base = C0
  cC : C = C0 + c.cells.toNat
  sS : S = S0 + h
  hr : Cd.Rc l c (f.place : Int) ((h : Int) + a)
theorem Fs.inv {l : List Cd.Co} {fs : List Fr} {f : Fr} {C S : Nat} {a : Int} (h : Fs l (fs ++ [f]) C S a) : ∃ c C0 S0 h, Tp l fs f C S a c C0 S0 h := by
  generalize e : fs ++ [f] = gs at h
  cases h with
  | nil => simp at e
  | snoc fs' f' C S h a c r hc hb hr =>
    obtain ⟨rfl, e2⟩ := List.append_inj' e rfl
    cases e2
    exact ⟨c, C, S, h, r, hc, hb, rfl, rfl, hr⟩
theorem an_nn (c : Cd.Co) : 0 ≤ Cd.an c ∧ Cd.an c ≤ 1 := by unfold Cd.an; cases c.ans <;> decide
theorem Fs.bnd {B : Int} {l : List Cd.Co} (hfit : ∀ c, c ∈ l → Cd.Fit B l c) {fs : List Fr} {C S : Nat} {a : Int} (h : Fs l fs C S a) : 0 ≤ a → C ≤ fs.length * 65536 ∧ S ≤ fs.length * 4096 := by
  induction h with
  | nil => intro _; simp
  | snoc fs f C S h a c r hc hb hr ih =>
    intro ha
    have i := ih (an_nn c).1
    have ft := hfit c (List.mem_of_getElem? hc)
    have lo := ft.lo _ _ hr
    obtain ⟨_, ii, _, _, h4, _⟩ := lo
    have s := ft.sz
    unfold Cd.sz at s
    simp at s
    rw [List.length_append, List.length_singleton, Nat.add_mul, Nat.add_mul]
    omega
structure WF (B : Int) (M : Mc) : Prop where
  len : M.codes.length ≤ 40
  fit : ∀ c, c ∈ M.codes → Cd.Fit B M.codes c
  fs : Fs M.codes M.frames M.cells.length M.stack.length 0
  f1 : 1 ≤ M.frames.length
  f50 : M.frames.length ≤ 50
  rd : M.read ≤ M.input.length
  inp : M.input.length ≤ 1000000
  fu : 0 ≤ M.fuel
  ti : 0 ≤ M.ticks
  su : M.ticks + M.fuel ≤ 10000000
structure At (B : Int) (M : Mc) (fs : List Fr) (f : Fr) (c : Cd.Co) (i : Cd.In) (C0 S0 h : Nat) : Prop where
  hf : M.frames = fs ++ [f]
  tp : Tp M.codes fs f M.cells.length M.stack.length 0 c C0 S0 h
  hi : c.ins[f.place]? = some i
  ft : Cd.Fit B M.codes c
  tk : Cd.tk i ≤ h
  h4 : h ≤ 4096
  bare : Cd.bare i = true → (h : Int) = Cd.tk i
  hl : Cd.hl i = true
  al : Cd.al B M.codes c i = true
theorem WF.at {B : Int} {M : Mc} (w : WF B M) : ∃ fs f c i C0 S0 h, At B M fs f c i C0 S0 h := by
  obtain ⟨fs, f, hf⟩ : ∃ fs f, M.frames = fs ++ [f] := by
    rcases List.eq_nil_or_concat M.frames with h | ⟨s, a, h⟩
    · have := w.f1
      rw [h] at this
      simp at this
    · exact ⟨s, a, by rw [h]; simp⟩
  have h0 := w.fs
  rw [hf] at h0
  obtain ⟨c, C0, S0, h, t⟩ := h0.inv
  have ft := w.fit c (List.mem_of_getElem? t.hc)
  have hr := t.hr
  obtain ⟨hp, i, hi, h1, h2, h3⟩ := ft.lo _ _ hr
  rw [Int.toNat_natCast] at hi
  have ha := ft.al i (List.mem_of_getElem? hi)
  exact ⟨fs, f, c, i, C0, S0, h, hf, t, hi, ft, by omega, by omega, fun hb => by have := h3 hb; omega, ha.1, ha.2⟩
structure Kp (M N : Mc) : Prop where
  co : N.codes = M.codes
  inp : N.input = M.input
  fu : N.fuel = M.fuel
  ti : N.ticks = M.ticks
  g : N.g = M.g
  ev : ∃ t, N.events = M.events ++ t ∧ t.length ≤ 1 ∧ (N.run = true → ∀ e ∈ t, e.1 < 3) ∧ (N.run = false → ∃ e, t = [e] ∧ 3 ≤ e.1)
structure Rk (M N : Mc) (i : Cd.In) : Prop extends Kp M N where
  fr : N.frames = M.frames
  rd : N.read = M.read
  ce : N.cells.length = M.cells.length
  st : N.run = true → (N.stack.length : Int) = M.stack.length - Cd.tk i + Cd.lv M.codes i
theorem rk_rk {M : Mc} {f : Fr} {i : Cd.In} (hr : M.run = true) (ho : (1 ≤ i.op ∧ i.op ≤ 16) ∨ i.op = 25) (ht : Cd.tk i ≤ M.stack.length) : Rk M (rk M f i) i := by
  obtain ⟨op, n, z⟩ := i
  dsimp only at ho
  have hcases : op = 1 ∨ op = 2 ∨ op = 3 ∨ op = 4 ∨ op = 5 ∨ op = 6 ∨ op = 15 ∨ op = 16 ∨ op = 25 ∨ (7 ≤ op ∧ op ≤ 14) := by omega
  have none : ∀ N : Mc, N.run = true → N.events = M.events → ∃ t, N.events = M.events ++ t ∧ t.length ≤ 1 ∧ (N.run = true → ∀ e ∈ t, e.1 < 3) ∧ (N.run = false → ∃ e, t = [e] ∧ 3 ≤ e.1) := fun N h e => ⟨[], by simp [e], by simp, fun _ e he => by simp at he, fun h2 => by rw [h] at h2; cases h2⟩
  have trap : ∀ (N : Mc) k, N.run = false → N.events = M.events ++ [(4, k)] → ∃ t, N.events = M.events ++ t ∧ t.length ≤ 1 ∧ (N.run = true → ∀ e ∈ t, e.1 < 3) ∧ (N.run = false → ∃ e, t = [e] ∧ 3 ≤ e.1) := fun N k h e => ⟨[(4, k)], e, by simp, fun h2 => (by rw [h] at h2; cases h2), fun _ => ⟨_, rfl, (by decide : (3 : Int) ≤ 4)⟩⟩
  rcases hcases with rfl | rfl | rfl | rfl | rfl | rfl | rfl | rfl | rfl | ⟨h7, h14⟩
  · refine ⟨⟨rfl, rfl, rfl, rfl, rfl, none _ hr rfl⟩, rfl, rfl, rfl, fun _ => ?_⟩
    simp [rk, Cd.tk, Cd.lv, Cd.takesL, Cd.leavesL]
  · refine ⟨⟨rfl, rfl, rfl, rfl, rfl, none _ hr rfl⟩, rfl, rfl, rfl, fun _ => ?_⟩
    simp [rk, Cd.tk, Cd.lv, Cd.takesL, Cd.leavesL]
  · have h0 : (1 : Int) ≤ M.stack.length := ht
    refine ⟨⟨rfl, rfl, rfl, rfl, rfl, none _ hr rfl⟩, rfl, rfl, by simp [rk], fun _ => ?_⟩
    simp [rk, Cd.tk, Cd.lv, Cd.takesL, Cd.leavesL]
    omega
  · have h0 : (1 : Int) ≤ M.stack.length := ht
    have e : rk M f ⟨4, n, z⟩ = ix M M.stack.dropLast (M.stack.getLastD 0) (f.base + n.toNat) z.toNat := rfl
    rw [e]
    unfold ix
    split
    · refine ⟨⟨rfl, rfl, rfl, rfl, rfl, none _ hr rfl⟩, rfl, rfl, rfl, fun _ => ?_⟩
      simp [Cd.tk, Cd.lv, Cd.takesL, Cd.leavesL]
      omega
    · exact ⟨⟨rfl, rfl, rfl, rfl, rfl, trap _ _ rfl rfl⟩, rfl, rfl, rfl, fun h => by cases h⟩
  · have h0 : (2 : Int) ≤ M.stack.length := ht
    have e : rk M f ⟨5, n, z⟩ = pt M M.stack.dropLast.dropLast (M.stack.dropLast.getLastD 0) (M.stack.getLastD 0) (f.base + n.toNat) z.toNat := rfl
    rw [e]
    unfold pt
    split
    · refine ⟨⟨rfl, rfl, rfl, rfl, rfl, none _ hr rfl⟩, rfl, rfl, by simp, fun _ => ?_⟩
      simp [Cd.tk, Cd.lv, Cd.takesL, Cd.leavesL]
      omega
    · exact ⟨⟨rfl, rfl, rfl, rfl, rfl, trap _ _ rfl rfl⟩, rfl, rfl, rfl, fun h => by cases h⟩
  · refine ⟨⟨rfl, rfl, rfl, rfl, rfl, none _ hr rfl⟩, rfl, rfl, by simp [rk, cl_len], fun _ => ?_⟩
    simp [rk, Cd.tk, Cd.lv, Cd.takesL, Cd.leavesL]
  · have h0 : (1 : Int) ≤ M.stack.length := ht
    refine ⟨⟨rfl, rfl, rfl, rfl, rfl, none _ hr rfl⟩, rfl, rfl, by simp [rk], fun _ => ?_⟩
    simp [rk, Cd.tk, Cd.lv, Cd.takesL, Cd.leavesL]
    omega
  · have h0 : (1 : Int) ≤ M.stack.length := ht
    refine ⟨⟨rfl, rfl, rfl, rfl, rfl, none _ hr rfl⟩, rfl, rfl, by simp [rk], fun _ => ?_⟩
    simp [rk, Cd.tk, Cd.lv, Cd.takesL, Cd.leavesL]
    omega
  · have h0 : (1 : Int) ≤ M.stack.length := ht
    refine ⟨⟨rfl, rfl, rfl, rfl, rfl, none _ hr rfl⟩, rfl, rfl, by simp [rk], fun _ => ?_⟩
    simp [rk, Cd.tk, Cd.lv, Cd.takesL, Cd.leavesL]
    omega
  · have e : rk M f ⟨op, n, z⟩ = jn { M with stack := M.stack.dropLast.dropLast } op (M.stack.dropLast.getLastD 0) (M.stack.getLastD 0) := by
      unfold rk
      dsimp only
      rw [if_neg (by omega), if_neg (by omega), if_neg (by omega), if_neg (by omega), if_neg (by omega), if_neg (by omega), if_neg (by omega), if_neg (by omega), if_neg (by omega)]
    have t2 : Cd.tk ⟨op, n, z⟩ = 2 ∧ Cd.lv M.codes ⟨op, n, z⟩ = 1 := by
      have : op = 7 ∨ op = 8 ∨ op = 9 ∨ op = 10 ∨ op = 11 ∨ op = 12 ∨ op = 13 ∨ op = 14 := by omega
      rcases this with rfl | rfl | rfl | rfl | rfl | rfl | rfl | rfl <;> exact ⟨rfl, rfl⟩
    rw [t2.1] at ht
    rw [e]
    unfold jn
    split
    · refine ⟨⟨rfl, rfl, rfl, rfl, rfl, none _ hr rfl⟩, rfl, rfl, rfl, fun _ => ?_⟩
      rw [t2.1, t2.2]
      simp
      omega
    · exact ⟨⟨rfl, rfl, rfl, rfl, rfl, trap _ _ rfl rfl⟩, rfl, rfl, rfl, fun h => by cases h⟩
end Go.Proofs.YtkjkiknpgggadaaDoor.Vm

namespace Go.Proofs.YtkjkiknpgggadaaDoor.Vm
open Go.RowKit
set_option linter.unusedVariables false
set_option linter.unusedSimpArgs false

theorem leaves_nn (k : Nat) : 0 ≤ Cd.leavesL.getD k 0 := by
  by_cases h : k < 26
  · have t : ∀ j : Fin 26, 0 ≤ Cd.leavesL.getD j.val 0 := by decide
    exact t ⟨k, h⟩
  · rw [List.getD_eq_getElem?_getD, List.getElem?_eq_none (by show 26 ≤ _; omega)]
    simp
theorem lv_nn (l : List Cd.Co) (i : Cd.In) : 0 ≤ Cd.lv l i := by
  unfold Cd.lv
  split
  · split
    · exact (an_nn _).1
    · omega
  · split
    · omega
    · exact leaves_nn _
theorem Fs.add {l : List Cd.Co} {fs : List Fr} {C S : Nat} {a : Int} (h : Fs l fs C S a) (ha : 0 ≤ a) : Fs l fs C (S + a.toNat) 0 := by
  cases h with
  | nil => exact .nil
  | snoc fs f C S h a c r hc hb hr =>
    rw [Nat.add_assoc]
    refine .snoc fs f C S (h + a.toNat) 0 c r hc hb ?_
    have e : ((h + a.toNat : Nat) : Int) + 0 = (h : Int) + a := by omega
    rw [e]
    exact hr
abbrev fn (f : Fr) : Fr := { f with place := f.place + 1 }
abbrev nx (M : Mc) (fs : List Fr) (f : Fr) : Mc := { M with frames := fs ++ [fn f] }
theorem At.on {B : Int} {M : Mc} {fs : List Fr} {f : Fr} {c : Cd.Co} {i : Cd.In} {C0 S0 h : Nat} (a : At B M fs f c i C0 S0 h) {N : Mc} {p : Nat} (hr : Cd.Rc M.codes c (p : Int) ((h : Int) - Cd.tk i + Cd.lv M.codes i)) (co : N.codes = M.codes) (m : Int) (hf : N.frames = fs ++ [{ f with place := p, mark := m }]) (hc : N.cells.length = M.cells.length) (hs : (N.stack.length : Int) = M.stack.length - Cd.tk i + Cd.lv M.codes i) : Fs N.codes N.frames N.cells.length N.stack.length 0 := by
  have l0 := lv_nn M.codes i
  have t0 := a.tk
  obtain ⟨h', eh⟩ : ∃ h' : Nat, (h' : Int) = (h : Int) - Cd.tk i + Cd.lv M.codes i := ⟨((h : Int) - Cd.tk i + Cd.lv M.codes i).toNat, by omega⟩
  have sS := a.tp.sS
  have e1 : N.stack.length = S0 + h' := by omega
  rw [co, hf, hc, e1, a.tp.cC]
  refine .snoc fs { f with place := p, mark := m } C0 S0 h' 0 c a.tp.r a.tp.hc a.tp.hb ?_
  show Cd.Rc M.codes c (p : Int) ((h' : Int) + 0)
  rw [Int.add_zero, eh]
  exact hr
theorem At.one {B : Int} {M : Mc} {fs : List Fr} {f : Fr} {c : Cd.Co} {i : Cd.In} {C0 S0 h : Nat} (a : At B M fs f c i C0 S0 h) (ho : i.op ≠ 20) : Cd.Rc M.codes c (Cd.n1 i f.place) ((h : Int) - Cd.tk i + Cd.lv M.codes i) := by
  have := Cd.Rc.one (l := M.codes) (c := c) (f.place : Int) ((h : Int) + 0) i a.tp.hr (by omega) (by rw [Int.toNat_natCast]; exact a.hi) ho
  rwa [Int.add_zero] at this
theorem At.two {B : Int} {M : Mc} {fs : List Fr} {f : Fr} {c : Cd.Co} {i : Cd.In} {C0 S0 h : Nat} (a : At B M fs f c i C0 S0 h) (ho : i.op ≠ 20) : Cd.Rc M.codes c (Cd.n2 i f.place) ((h : Int) - Cd.tk i + Cd.lv M.codes i) := by
  have := Cd.Rc.two (l := M.codes) (c := c) (f.place : Int) ((h : Int) + 0) i a.tp.hr (by omega) (by rw [Int.toNat_natCast]; exact a.hi) ho
  rwa [Int.add_zero] at this
theorem wf_of {B : Int} {M N : Mc} (w : WF B M) (k : Kp M N) (fs : Fs N.codes N.frames N.cells.length N.stack.length 0) (f1 : 1 ≤ N.frames.length) (f50 : N.frames.length ≤ 50) (rd : N.read ≤ N.input.length) : WF B N :=
  ⟨by rw [k.co]; exact w.len, by rw [k.co]; exact w.fit, fs, f1, f50, rd, by rw [k.inp]; exact w.inp, by rw [k.fu]; exact w.fu, by rw [k.ti]; exact w.ti, by rw [k.ti, k.fu]; exact w.su⟩
theorem kp_none {M N : Mc} (co : N.codes = M.codes) (inp : N.input = M.input) (fu : N.fuel = M.fuel) (ti : N.ticks = M.ticks) (g : N.g = M.g) (h : N.run = true) (e : N.events = M.events) : Kp M N := ⟨co, inp, fu, ti, g, [], by simp [e], by simp, fun _ e he => by simp at he, fun h2 => by rw [h] at h2; cases h2⟩
theorem kp_one {M N : Mc} (co : N.codes = M.codes) (inp : N.input = M.input) (fu : N.fuel = M.fuel) (ti : N.ticks = M.ticks) (g : N.g = M.g) (h : N.run = true) {k a : Int} (hk : k < 3) (e : N.events = M.events ++ [(k, a)]) : Kp M N := ⟨co, inp, fu, ti, g, [(k, a)], e, by simp, fun _ e he => by simp at he; subst he; exact hk, fun h2 => by rw [h] at h2; cases h2⟩
theorem kp_end {M N : Mc} (co : N.codes = M.codes) (inp : N.input = M.input) (fu : N.fuel = M.fuel) (ti : N.ticks = M.ticks) (g : N.g = M.g) (h : N.run = false) {k a : Int} (hk : 3 ≤ k) (e : N.events = M.events ++ [(k, a)]) : Kp M N := ⟨co, inp, fu, ti, g, [(k, a)], e, by simp, fun h2 => (by rw [h] at h2; cases h2), fun _ => ⟨_, rfl, hk⟩⟩
theorem At.ops {B : Int} {M : Mc} {fs : List Fr} {f : Fr} {c : Cd.Co} {i : Cd.In} {C0 S0 h : Nat} (a : At B M fs f c i C0 S0 h) : 1 ≤ i.op ∧ i.op ≤ 25 := by
  have := a.hl
  unfold Cd.hl at this
  simp only [Bool.and_eq_true, decide_eq_true_eq] at this
  exact ⟨this.1.1.1, this.1.1.2⟩
theorem At.sum {B : Int} {M : Mc} {fs : List Fr} {f : Fr} {c : Cd.Co} {i : Cd.In} {C0 S0 h : Nat} (a : At B M fs f c i C0 S0 h) : Cd.tk i ≤ M.stack.length := by
  have := a.tp.sS
  have := a.tk
  omega
theorem At.len {B : Int} {M : Mc} {fs : List Fr} {f : Fr} {c : Cd.Co} {i : Cd.In} {C0 S0 h : Nat} (w : WF B M) (a : At B M fs f c i C0 S0 h) (g : Fr) : 1 ≤ (fs ++ [g]).length ∧ (fs ++ [g]).length ≤ 50 := by
  have := w.f50
  rw [a.hf] at this
  simp at this ⊢
  omega
theorem ex_ok {B : Int} {M : Mc} {fs : List Fr} {f : Fr} {c : Cd.Co} {i : Cd.In} {C0 S0 h : Nat} (w : WF B M) (hr : M.run = true) (a : At B M fs f c i C0 S0 h) (h24 : i.op ≠ 24) : Kp M (ex (nx M fs f) fs (fn f) i) ∧ ((ex (nx M fs f) fs (fn f) i).run = true → WF B (ex (nx M fs f) fs (fn f) i)) := by
  have ho := a.ops
  have hsu := a.sum
  have hal := a.al
  by_cases hrk : (1 ≤ i.op ∧ i.op ≤ 16) ∨ i.op = 25
  · have e : ex (nx M fs f) fs (fn f) i = rk (nx M fs f) (fn f) i := by
      unfold ex
      rw [if_neg (by omega), if_neg (by omega), if_neg (by omega), if_neg (by omega), if_neg (by omega), if_neg (by omega), if_neg (by omega)]
    rw [e]
    have r := rk_rk (M := nx M fs f) (f := fn f) (i := i) hr hrk hsu
    have k : Kp M (rk (nx M fs f) (fn f) i) := ⟨r.co, r.inp, r.fu, r.ti, r.g, r.ev⟩
    refine ⟨k, fun hrun => ?_⟩
    have n1 := a.one (by omega)
    have e1 : Cd.n1 i f.place = ((f.place + 1 : Nat) : Int) := by
      unfold Cd.n1
      rw [if_neg (by omega)]
      omega
    rw [e1] at n1
    refine wf_of w k (a.on n1 r.co f.mark r.fr r.ce (r.st hrun)) ?_ ?_ ?_
    · rw [r.fr]; exact (a.len w _).1
    · rw [r.fr]; exact (a.len w _).2
    · rw [r.rd, r.inp]; exact w.rd
  · have hc : i.op = 17 ∨ i.op = 18 ∨ i.op = 19 ∨ i.op = 20 ∨ i.op = 21 ∨ i.op = 22 ∨ i.op = 23 := by omega
    obtain ⟨op, n, z⟩ := i
    dsimp only at hc
    have pl : ((f.place + 1 : Nat) : Int) = (f.place : Int) + 1 := by omega
    rcases hc with rfl | rfl | rfl | rfl | rfl | rfl | rfl
    · -- jump
      have n1 := a.one (by simp)
      simp [Cd.al] at hal
      have e1 : Cd.n1 ⟨17, n, z⟩ f.place = ((n.toNat : Nat) : Int) := by
        show n = _
        omega
      rw [e1] at n1
      have e : ex (nx M fs f) fs (fn f) ⟨17, n, z⟩ = { nx M fs f with frames := fs ++ [{ fn f with place := n.toNat }] } := rfl
      rw [e]
      have k : Kp M { nx M fs f with frames := fs ++ [{ fn f with place := n.toNat }] } := kp_none rfl rfl rfl rfl rfl hr rfl
      exact ⟨k, fun _ => wf_of w k (a.on n1 rfl f.mark rfl rfl (by simp [Cd.tk, Cd.lv, Cd.takesL, Cd.leavesL])) (a.len w _).1 (a.len w _).2 w.rd⟩
    · -- zero
      simp [Cd.al] at hal
      have ht : (1 : Int) ≤ M.stack.length := hsu
      have hs : ((M.stack.dropLast.length : Nat) : Int) = M.stack.length - Cd.tk ⟨18, n, z⟩ + Cd.lv M.codes ⟨18, n, z⟩ := by
        simp [Cd.tk, Cd.lv, Cd.takesL, Cd.leavesL]
        omega
      have e : ex (nx M fs f) fs (fn f) ⟨18, n, z⟩ = if M.stack.getLastD 0 = 0 then { nx M fs f with stack := M.stack.dropLast, frames := fs ++ [{ fn f with place := n.toNat }] } else { nx M fs f with stack := M.stack.dropLast } := rfl
      rw [e]
      split
      · have n2 := a.two (by simp)
        have e1 : Cd.n2 ⟨18, n, z⟩ f.place = ((n.toNat : Nat) : Int) := by
          show n = _
          omega
        rw [e1] at n2
        have k : Kp M { nx M fs f with stack := M.stack.dropLast, frames := fs ++ [{ fn f with place := n.toNat }] } := kp_none rfl rfl rfl rfl rfl hr rfl
        exact ⟨k, fun _ => wf_of w k (a.on n2 rfl f.mark rfl rfl hs) (a.len w _).1 (a.len w _).2 w.rd⟩
      · have n1 := a.one (by simp)
        have e1 : Cd.n1 ⟨18, n, z⟩ f.place = ((f.place + 1 : Nat) : Int) := by
          rw [pl]
          rfl
        rw [e1] at n1
        have k : Kp M { nx M fs f with stack := M.stack.dropLast } := kp_none rfl rfl rfl rfl rfl hr rfl
        exact ⟨k, fun _ => wf_of w k (a.on n1 rfl f.mark rfl rfl hs) (a.len w _).1 (a.len w _).2 w.rd⟩
    · -- call
      simp only [Cd.al, Cd.mc] at hal
      simp at hal
      obtain ⟨⟨hn0, hz0⟩, hal⟩ := hal
      cases hd : M.codes[n.toNat]? with
      | none => rw [hd] at hal; simp at hal
      | some d =>
        rw [hd] at hal
        simp at hal
        have ftd := (w.fit d (List.mem_of_getElem? hd)).sz
        unfold Cd.sz at ftd
        simp at ftd
        have e : ex (nx M fs f) fs (fn f) ⟨19, n, z⟩ = if (fs ++ [fn f]).length = 50 then trp (nx M fs f) 4 else en (nx M fs f) n.toNat d.cells.toNat z.toNat := by
          unfold ex
          simp [hd]
        rw [e]
        split
        · exact ⟨kp_end rfl rfl rfl rfl rfl rfl (k := 4) (a := 4) (by decide) rfl, fun hx => by cases hx⟩
        · rename_i h50
          have k : Kp M (en (nx M fs f) n.toNat d.cells.toNat z.toNat) := kp_none rfl rfl rfl rfl rfl hr rfl
          refine ⟨k, fun _ => wf_of w k ?_ (by simp [en]) (by have := (a.len w (fn f)).2; simp [en] at h50 this ⊢; omega) w.rd⟩
          have n1 := a.one (by simp)
          have e1 : Cd.n1 ⟨19, n, z⟩ f.place = ((f.place + 1 : Nat) : Int) := by
            rw [pl]
            rfl
          have e2 : Cd.lv M.codes ⟨19, n, z⟩ = Cd.an d := by
            unfold Cd.lv
            simp [hd]
          have e3 : Cd.tk ⟨19, n, z⟩ = z := rfl
          rw [e1, e2, e3] at n1
          have htk := a.tk
          have hsS := a.tp.sS
          have hcC := a.tp.cC
          rw [e3] at htk hsu
          have fs1 : Fs M.codes (fs ++ [fn f]) M.cells.length (S0 + (h - z.toNat)) (Cd.an d) := by
            rw [hcC]
            refine .snoc fs (fn f) C0 S0 (h - z.toNat) (Cd.an d) c a.tp.r a.tp.hc a.tp.hb ?_
            have : ((h - z.toNat : Nat) : Int) = (h : Int) - z := by omega
            rw [this]
            exact n1
          have fs2 := Fs.snoc (l := M.codes) (fs ++ [fn f]) ⟨n.toNat, 0, -1, M.cells.length⟩ M.cells.length (S0 + (h - z.toNat)) 0 0 d fs1 hd rfl .zero
          show Fs M.codes ((fs ++ [fn f]) ++ [⟨n.toNat, 0, -1, M.cells.length⟩]) (M.cells ++ (M.stack.drop (M.stack.length - z.toNat) ++ List.replicate (d.cells.toNat - z.toNat) 0)).length (M.stack.take (M.stack.length - z.toNat)).length 0
          have l1 : (M.cells ++ (M.stack.drop (M.stack.length - z.toNat) ++ List.replicate (d.cells.toNat - z.toNat) 0)).length = M.cells.length + d.cells.toNat := by
            simp
            omega
          have l2 : (M.stack.take (M.stack.length - z.toNat)).length = S0 + (h - z.toNat) + 0 := by
            simp
            omega
          rw [l1, l2]
          exact fs2
    · -- leave
      simp [Cd.al] at hal
      subst hal
      have hb := a.bare rfl
      have e3 : Cd.tk ⟨20, Cd.an c, z⟩ = Cd.an c := rfl
      rw [e3] at hb
      have e : ex (nx M fs f) fs (fn f) ⟨20, Cd.an c, z⟩ = lv (nx M fs f) fs (fn f) := rfl
      rw [e]
      unfold lv
      split
      · exact ⟨kp_end rfl rfl rfl rfl rfl rfl (k := 3) (a := 0) (by decide) rfl, fun hx => by cases hx⟩
      · rename_i hne
        have k : Kp M { nx M fs f with cells := M.cells.take (fn f).base, frames := fs } := kp_none rfl rfl rfl rfl rfl hr rfl
        have hfl := (a.len w f).2
        have hpos : 1 ≤ fs.length := by
          rcases fs with _ | ⟨x, y⟩
          · exact absurd rfl hne
          · simp
        refine ⟨k, fun _ => wf_of w k ?_ hpos (by simp at hfl; show fs.length ≤ 50; omega) w.rd⟩
        have r := a.tp.r.add (an_nn c).1
        have hsS := a.tp.sS
        have hcC := a.tp.cC
        have hba := a.tp.hb
        show Fs M.codes fs (M.cells.take f.base).length M.stack.length 0
        have l1 : (M.cells.take f.base).length = C0 := by
          simp
          omega
        have l2 : M.stack.length = S0 + (Cd.an c).toNat := by omega
        rw [l1, l2]
        exact r
    · -- print
      have ht : (1 : Int) ≤ M.stack.length := hsu
      have hs : ((M.stack.dropLast.length : Nat) : Int) = M.stack.length - Cd.tk ⟨21, n, z⟩ + Cd.lv M.codes ⟨21, n, z⟩ := by
        simp [Cd.tk, Cd.lv, Cd.takesL, Cd.leavesL]
        omega
      have n1 := a.one (by simp)
      have e1 : Cd.n1 ⟨21, n, z⟩ f.place = ((f.place + 1 : Nat) : Int) := by
        rw [pl]
        rfl
      rw [e1] at n1
      have e : ex (nx M fs f) fs (fn f) ⟨21, n, z⟩ = { nx M fs f with stack := M.stack.dropLast, events := M.events ++ [(1, M.stack.getLastD 0)] } := rfl
      rw [e]
      have k : Kp M { nx M fs f with stack := M.stack.dropLast, events := M.events ++ [(1, M.stack.getLastD 0)] } := kp_one rfl rfl rfl rfl rfl hr (k := 1) (a := M.stack.getLastD 0) (by decide) rfl
      exact ⟨k, fun _ => wf_of w k (a.on n1 rfl f.mark rfl rfl hs) (a.len w _).1 (a.len w _).2 w.rd⟩
    · -- read
      have n1 := a.one (by simp)
      have e1 : Cd.n1 ⟨22, n, z⟩ f.place = ((f.place + 1 : Nat) : Int) := by
        rw [pl]
        rfl
      rw [e1] at n1
      have e : ex (nx M fs f) fs (fn f) ⟨22, n, z⟩ = rd (nx M fs f) := rfl
      rw [e]
      unfold rd
      show Kp M (match M.input[M.read]? with | none => { nx M fs f with events := M.events ++ [(4, 5)], run := false } | some n => { nx M fs f with read := M.read + 1, events := M.events ++ [(2, n)], stack := M.stack ++ [n] }) ∧ ((match M.input[M.read]? with | none => { nx M fs f with events := M.events ++ [(4, 5)], run := false } | some n => { nx M fs f with read := M.read + 1, events := M.events ++ [(2, n)], stack := M.stack ++ [n] } : Mc).run = true → WF B (match M.input[M.read]? with | none => { nx M fs f with events := M.events ++ [(4, 5)], run := false } | some n => { nx M fs f with read := M.read + 1, events := M.events ++ [(2, n)], stack := M.stack ++ [n] }))
      cases hx : M.input[M.read]? with
      | none => exact ⟨kp_end rfl rfl rfl rfl rfl rfl (k := 4) (a := 5) (by decide) rfl, fun hx => by cases hx⟩
      | some v =>
        have hlt := (List.getElem?_eq_some_iff.1 hx).1
        have k : Kp M { nx M fs f with read := M.read + 1, events := M.events ++ [(2, v)], stack := M.stack ++ [v] } := kp_one rfl rfl rfl rfl rfl hr (k := 2) (a := v) (by decide) rfl
        exact ⟨k, fun _ => wf_of w k (a.on n1 rfl f.mark rfl rfl (by simp [Cd.tk, Cd.lv, Cd.takesL, Cd.leavesL])) (a.len w _).1 (a.len w _).2 hlt⟩
    · -- test
      have ht : (1 : Int) ≤ M.stack.length := hsu
      have hs : ((M.stack.dropLast.length : Nat) : Int) = M.stack.length - Cd.tk ⟨23, n, z⟩ + Cd.lv M.codes ⟨23, n, z⟩ := by
        simp [Cd.tk, Cd.lv, Cd.takesL, Cd.leavesL]
        omega
      have n1 := a.one (by simp)
      have e1 : Cd.n1 ⟨23, n, z⟩ f.place = ((f.place + 1 : Nat) : Int) := by
        rw [pl]
        rfl
      rw [e1] at n1
      have e : ex (nx M fs f) fs (fn f) ⟨23, n, z⟩ = if M.stack.getLastD 0 = 0 then trp { nx M fs f with stack := M.stack.dropLast } 3 else { nx M fs f with stack := M.stack.dropLast } := rfl
      rw [e]
      split
      · exact ⟨kp_end rfl rfl rfl rfl rfl rfl (k := 4) (a := 3) (by decide) rfl, fun hx => by cases hx⟩
      · have k : Kp M { nx M fs f with stack := M.stack.dropLast } := kp_none rfl rfl rfl rfl rfl hr rfl
        exact ⟨k, fun _ => wf_of w k (a.on n1 rfl f.mark rfl rfl hs) (a.len w _).1 (a.len w _).2 w.rd⟩
structure Gd (B : Int) (M N : Mc) (n : Nat) : Prop where
  co : N.codes = M.codes
  inp : N.input = M.input
  g : N.g = M.g
  ev : ∃ t, N.events = M.events ++ t ∧ t.length ≤ n ∧ (N.run = true → ∀ e ∈ t, e.1 < 3) ∧ (N.run = false → ∃ s e, t = s ++ [e] ∧ (∀ x ∈ s, x.1 < 3) ∧ 3 ≤ e.1)
  tk : (N.ticks = M.ticks ∧ N.fuel = M.fuel) ∨ (N.ticks = M.ticks + 1 ∧ N.fuel = M.fuel - 1 ∧ 0 < M.fuel ∧ N.run = true)
  wf : N.run = true → WF B N
theorem Kp.gd {B : Int} {M N : Mc} (k : Kp M N) (w : N.run = true → WF B N) (n : Nat) : Gd B M N (n + 1) := by
  obtain ⟨t, h1, h2, h3, h4⟩ := k.ev
  exact ⟨k.co, k.inp, k.g, ⟨t, h1, by omega, h3, fun h => by
    obtain ⟨e, he, h5⟩ := h4 h
    exact ⟨[], e, by simp [he], fun x hx => by simp at hx, h5⟩⟩, .inl ⟨k.ti, k.fu⟩, w⟩
theorem Gd.after {B : Int} {M N O : Mc} {n : Nat} (k : Kp M N) (hr : N.run = true) (g : Gd B N O n) : Gd B M O (n + 1) := by
  obtain ⟨t, h1, h2, h3, h4⟩ := k.ev
  obtain ⟨t', g1, g2, g3, g4⟩ := g.ev
  refine ⟨g.co.trans k.co, g.inp.trans k.inp, g.g.trans k.g, ⟨t ++ t', by rw [g1, h1, List.append_assoc], by rw [List.length_append]; omega, fun ho e he => ?_, fun ho => ?_⟩, ?_, g.wf⟩
  · rcases List.mem_append.1 he with he | he
    · exact h3 hr e he
    · exact g3 ho e he
  · obtain ⟨s, e, hs, h5, h6⟩ := g4 ho
    refine ⟨t ++ s, e, by rw [hs, List.append_assoc], fun x hx => ?_, h6⟩
    rcases List.mem_append.1 hx with hx | hx
    · exact h3 hr x hx
    · exact h5 x hx
  · have := g.tk
    rw [k.ti, k.fu] at this
    exact this
theorem mk_gd {B : Int} {M : Mc} {fs : List Fr} {f : Fr} {c : Cd.Co} {i : Cd.In} {C0 S0 h : Nat} (w : WF B M) (hr : M.run = true) (a : At B M fs f c i C0 S0 h) (h24 : i.op = 24) (n : Nat) : Gd B M (if 0 < M.fuel then mk (nx M fs f) fs (fn f) i else nx M fs f) (n + 1) := by
  have n1 := a.one (by omega)
  have e1 : Cd.n1 i f.place = ((f.place + 1 : Nat) : Int) := by
    unfold Cd.n1
    rw [if_neg (by omega)]
    omega
  have e2 : Cd.tk i = 0 ∧ Cd.lv M.codes i = 0 := by
    obtain ⟨op, x, y⟩ := i
    dsimp only at h24
    subst h24
    exact ⟨rfl, rfl⟩
  rw [e1] at n1
  have hs : ((M.stack.length : Nat) : Int) = M.stack.length - Cd.tk i + Cd.lv M.codes i := by rw [e2.1, e2.2]; omega
  split
  · rename_i hfu
    have su := w.su
    have ti := w.ti
    refine ⟨rfl, rfl, rfl, ⟨[], by simp [mk], by simp, fun _ e he => by simp at he, fun h2 => by rw [show (mk (nx M fs f) fs (fn f) i).run = M.run from rfl, hr] at h2; cases h2⟩, .inr ⟨rfl, rfl, hfu, hr⟩, fun _ => ?_⟩
    refine ⟨w.len, w.fit, a.on n1 rfl i.n rfl rfl hs, (a.len w _).1, (a.len w _).2, w.rd, w.inp, ?_, ?_, ?_⟩
    · show 0 ≤ M.fuel - 1
      omega
    · show 0 ≤ M.ticks + 1
      omega
    · show M.ticks + 1 + (M.fuel - 1) ≤ 10000000
      omega
  · have k : Kp M (nx M fs f) := kp_none rfl rfl rfl rfl rfl hr rfl
    exact k.gd (fun _ => wf_of w k (a.on n1 rfl f.mark rfl rfl hs) (a.len w _).1 (a.len w _).2 w.rd) n
theorem go_succ {B : Int} {M : Mc} {fs : List Fr} {f : Fr} {c : Cd.Co} {i : Cd.In} {C0 S0 h : Nat} (a : At B M fs f c i C0 S0 h) (n : Nat) : go (n + 1) M = if i.op = 24 then (if 0 < M.fuel then mk (nx M fs f) fs (fn f) i else nx M fs f) else if (ex (nx M fs f) fs (fn f) i).run then go n (ex (nx M fs f) fs (fn f) i) else ex (nx M fs f) fs (fn f) i := by
  rw [go, it_of a.hf a.tp.hc a.hi]
theorem go_gd {B : Int} : ∀ (n : Nat) (M : Mc), WF B M → M.run = true → Gd B M (go n M) n
  | 0, M, w, hr => ⟨rfl, rfl, rfl, ⟨[], by simp [go], by simp, fun _ e he => by simp at he, fun h2 => by rw [show (go 0 M).run = M.run from rfl, hr] at h2; cases h2⟩, .inl ⟨rfl, rfl⟩, fun _ => w⟩
  | n + 1, M, w, hr => by
    obtain ⟨fs, f, c, i, C0, S0, h, a⟩ := w.at
    rw [go_succ a]
    by_cases h24 : i.op = 24
    · rw [if_pos h24]
      exact mk_gd w hr a h24 n
    · rw [if_neg h24]
      have x := ex_ok w hr a h24
      by_cases hx : (ex (nx M fs f) fs (fn f) i).run = true
      · rw [if_pos hx]
        exact (go_gd n _ (x.2 hx) hx).after x.1 hx
      · rw [if_neg hx]
        exact x.1.gd x.2 n
theorem step_gd {B : Int} {M : Mc} (w : WF B M) (hr : M.run = true) : Gd B M (step M) 1048577 ∧ ((step M).run = true → ticked M = true) ∧ (ticked M = true → (step M).ticks = M.ticks + 1 ∧ (step M).run = true) := by
  have g := go_gd 1048576 M w hr
  unfold step ticked
  rw [if_pos hr, hr]
  generalize go 1048576 M = N at g ⊢
  unfold fin
  by_cases hf : N.run = true ∧ ¬ N.ticks > M.ticks
  · rw [if_pos hf]
    obtain ⟨t, h1, h2, h3, h4⟩ := g.ev
    have e : N.ticks = M.ticks := by
      have := g.tk
      omega
    refine ⟨⟨g.co, g.inp, g.g, ⟨t ++ [(5, 0)], by show N.events ++ [(5, 0)] = _; rw [h1, List.append_assoc], by rw [List.length_append, List.length_singleton]; omega, fun h => (by cases h), fun _ => ⟨t, _, rfl, h3 hf.1, by decide⟩⟩, ?_, fun h => (by cases h)⟩, fun h => (by cases h), fun h => ?_⟩
    · rcases g.tk with h | h
      · exact .inl h
      · exact absurd h.1 (by omega)
    · simp at h
      omega
  · rw [if_neg hf]
    obtain ⟨t, h1, h2, h3, h4⟩ := g.ev
    have hT : N.run = true → N.ticks > M.ticks := fun h => by
      by_cases hx : N.ticks > M.ticks
      · exact hx
      · exact absurd ⟨h, hx⟩ hf
    refine ⟨⟨g.co, g.inp, g.g, ⟨t, h1, by omega, h3, h4⟩, g.tk, g.wf⟩, fun h => by simpa using hT h, fun h => ?_⟩
    simp at h
    rcases g.tk with h' | h'
    · omega
    · exact ⟨h'.1, h'.2.2.2⟩
end Go.Proofs.YtkjkiknpgggadaaDoor.Vm

namespace Go.Proofs.YtkjkiknpgggadaaDoor
open Go.RowKit
set_option linter.unusedVariables false
set_option linter.unusedSimpArgs false

set_option maxRecDepth 100000 in
set_option maxHeartbeats 4000000 in
theorem vmEnded (m : Nat) (w : World) (V : VmV) (M : Vm.Mc) (h : VmS m w V M) : Calls Tryd.prog 18 #[.pointer (some ⟨m, 0, none⟩)] w fun e w' => e = .returned (.bool (!M.run)) ∧ Below w.heap.size w w' := by
  have c13 := h.cell.2.2.2.2.2.2.2.2.2
  generalize M.run = r at c13 ⊢
  clear h
  go_enter Tryd.func18, Tryd.ntmps18
  go_wp2_with fail
  first
    | (go_ret; exact ⟨rfl, by go_grown⟩)
    | (go_region; all_goals (go_wp2_with fail; go_ret; exact ⟨rfl, by go_grown⟩))
set_option maxRecDepth 100000 in
set_option maxHeartbeats 4000000 in
theorem vmTicks (m : Nat) (w : World) (V : VmV) (M : Vm.Mc) (h : VmS m w V M) : Calls Tryd.prog 17 #[.pointer (some ⟨m, 0, none⟩)] w fun e w' => e = .returned (.int .i64 M.ticks) ∧ Below w.heap.size w w' := by
  have c4 := h.cell.2.2.2.2.1
  clear h
  go_enter Tryd.func17, Tryd.ntmps17
  go_wp2_with fail
  first
    | (go_ret; exact ⟨rfl, by go_grown⟩)
    | (go_region; all_goals (go_wp2_with fail; go_ret; exact ⟨rfl, by go_grown⟩))
set_option maxRecDepth 100000 in
set_option maxHeartbeats 4000000 in
theorem vmCount (m : Nat) (w : World) (V : VmV) (M : Vm.Mc) (h : VmS m w V M) : Calls Tryd.prog 21 #[.pointer (some ⟨m, 0, none⟩)] w fun e w' => e = .returned (.int .i64 M.events.length) ∧ Below w.heap.size w w' := by
  have c9 := h.cell.2.2.2.2.2.1
  obtain ⟨a, c, hv⟩ := own_shp (show w.ownsRow (m + 1) 50 2 V.ev M.events.length (Vm.evC M.events) from h.rows.ob)
  rw [hv] at c9
  clear h hv
  go_enter Tryd.func21, Tryd.ntmps21
  go_wp2_with fail
  first
    | (go_ret; exact ⟨rfl, by go_grown⟩)
    | (go_region; all_goals (go_wp2_with fail; go_ret; exact ⟨rfl, by go_grown⟩))
set_option maxRecDepth 100000 in
set_option maxHeartbeats 4000000 in
theorem vmFrames (m : Nat) (w : World) (V : VmV) (M : Vm.Mc) (h : VmS m w V M) : Calls Tryd.prog 19 #[.pointer (some ⟨m, 0, none⟩)] w fun e w' => e = .returned (.int .i64 M.frames.length) ∧ Below w.heap.size w w' := by
  have c10 := h.cell.2.2.2.2.2.2.1
  obtain ⟨a, c, hv⟩ := own_shp (show w.ownsRow (m + 1) 70 4 V.fv M.frames.length (Vm.frC M.frames) from h.rows.oc)
  rw [hv] at c10
  clear h hv
  go_enter Tryd.func19, Tryd.ntmps19
  go_wp2_with fail
  first
    | (go_ret; exact ⟨rfl, by go_grown⟩)
    | (go_region; all_goals (go_wp2_with fail; go_ret; exact ⟨rfl, by go_grown⟩))
end Go.Proofs.YtkjkiknpgggadaaDoor

