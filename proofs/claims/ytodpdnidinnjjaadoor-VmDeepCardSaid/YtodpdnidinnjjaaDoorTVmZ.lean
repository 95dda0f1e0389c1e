/- Layer 9: the plain machine, instruction by instruction; reckon as a whole. -/
import Derived.Test.YtodpdnidinnjjaaDoorTVmY
namespace Go.Proofs.YtodpdnidinnjjaaDoor
open Go.RowKit
set_option linter.unusedVariables false
set_option linter.unusedSimpArgs false

namespace Vm
theorem last1 : ∀ (l : List Int), 1 ≤ l.length → l = l.dropLast ++ [l.getLastD 0] := fun l h => by
  rcases List.eq_nil_or_concat l with rfl | ⟨s, a, rfl⟩
  · simp at h
  · simp
theorem last2 : ∀ (l : List Int), 2 ≤ l.length → l = l.dropLast.dropLast ++ [l.dropLast.getLastD 0, l.getLastD 0] := fun l h => by
  have h1 := last1 l (by omega)
  have h2 := last1 l.dropLast (by simp; omega)
  rw [h1]
  rw [h2]
  simp
/-- An instruction that asks for nothing but the last frame's cells and its stack. -/
def rk (M : Mc) (f : Fr) (i : Cd.In) : Mc :=
  if i.op = 1 then { M with stack := M.stack ++ [i.n] }
  else if i.op = 2 then { M with stack := M.stack ++ [M.cells.getD (f.base + i.n.toNat) 0] }
  else if i.op = 3 then { M with stack := M.stack.dropLast, cells := M.cells.set (f.base + i.n.toNat) (M.stack.getLastD 0) }
  else if i.op = 4 then ix M M.stack.dropLast (M.stack.getLastD 0) (f.base + i.n.toNat) i.m.toNat
  else if i.op = 5 then pt M M.stack.dropLast.dropLast (M.stack.dropLast.getLastD 0) (M.stack.getLastD 0) (f.base + i.n.toNat) i.m.toNat
  else if i.op = 6 then { M with cells := cl M.cells (f.base + i.n.toNat) i.m.toNat }
  else if i.op = 15 then { M with stack := M.stack.dropLast ++ [tr (M.stack.getLastD 0 == 0)] }
  else if i.op = 16 then { M with stack := M.stack.dropLast ++ [wrap64 (-(M.stack.getLastD 0))] }
  else if i.op = 25 then { M with stack := M.stack.dropLast }
  else jn { M with stack := M.stack.dropLast.dropLast } i.op (M.stack.dropLast.getLastD 0) (M.stack.getLastD 0)
/-- A trap. -/
def trp (M : Mc) (k : Int) : Mc := { M with events := M.events ++ [(4, k)], run := false }
/-- An instruction that is no mark; the frames are fs and f, whose place is the one behind it. -/
def ex (M : Mc) (fs : List Fr) (f : Fr) (i : Cd.In) : Mc :=
  if i.op = 17 then { M with frames := fs ++ [{ f with place := i.n.toNat }] }
  else if i.op = 18 then (if M.stack.getLastD 0 = 0 then { M with stack := M.stack.dropLast, frames := fs ++ [{ f with place := i.n.toNat }] } else { M with stack := M.stack.dropLast })
  else if i.op = 19 then (if M.frames.length = 50 then trp M 4 else match M.codes[i.n.toNat]? with | some d => en M i.n.toNat d.cells.toNat i.m.toNat | none => M)
  else if i.op = 20 then lv M fs f
  else if i.op = 21 then { M with stack := M.stack.dropLast, events := M.events ++ [(1, M.stack.getLastD 0)] }
  else if i.op = 22 then rd M
  else if i.op = 23 then (if M.stack.getLastD 0 = 0 then trp { M with stack := M.stack.dropLast } 3 else { M with stack := M.stack.dropLast })
  else rk M f i
/-- The last frame, its code, and the instruction that comes. -/
def it (M : Mc) : Option (List Fr × Fr × Cd.Co × Cd.In) :=
  match M.frames.getLast? with
  | none => none
  | some f => match M.codes[f.proc]? with
    | none => none
    | some c => match c.ins[f.place]? with
      | none => none
      | some i => some (M.frames.dropLast, f, c, i)
theorem it_of {M : Mc} {fs : List Fr} {f : Fr} {c : Cd.Co} {i : Cd.In} (hf : M.frames = fs ++ [f]) (hc : M.codes[f.proc]? = some c) (hi : c.ins[f.place]? = some i) : it M = some (fs, f, c, i) := by
  unfold it
  rw [hf]
  simp [hc, hi]
/-- So many instructions at most, as far as a mark or the end. -/
def go : Nat → Mc → Mc
  | 0, M => M
  | n + 1, M => match it M with
    | none => M
    | some (fs, f, _, i) =>
      if i.op = 24 then (if 0 < M.fuel then mk { M with frames := fs ++ [{ f with place := f.place + 1 }] } fs { f with place := f.place + 1 } i else { M with frames := fs ++ [{ f with place := f.place + 1 }] })
      else if (ex { M with frames := fs ++ [{ f with place := f.place + 1 }] } fs { f with place := f.place + 1 } i).run then go n (ex { M with frames := fs ++ [{ f with place := f.place + 1 }] } fs { f with place := f.place + 1 } i)
      else ex { M with frames := fs ++ [{ f with place := f.place + 1 }] } fs { f with place := f.place + 1 } i
/-- What a step makes of the machine behind it. -/
def fin (t : Int) (M : Mc) : Mc := if M.run = true ∧ ¬ M.ticks > t then { M with events := M.events ++ [(5, 0)], run := false } else M
def step (M : Mc) : Mc := if M.run then fin M.ticks (go 1048576 M) else M
def ticked (M : Mc) : Bool := M.run && decide ((go 1048576 M).ticks > M.ticks)
end Vm
set_option maxHeartbeats 2000000 in
theorem vmReckon (m : Nat) (w : World) (V : VmV) (M : Vm.Mc) (fs : List Vm.Fr) (f : Vm.Fr) (c : Cd.Co) (k : Nat) (i : Cd.In) (B : Int) (h : VmS m w V M) (hf : M.frames = fs ++ [f]) (hc : M.codes[f.proc]? = some c) (hk : c.cells = k) (hb : f.base + k ≤ M.cells.length) (hl : M.cells.length ≤ 100000000) (hfl : fs.length ≤ 1000000) (hs : M.stack.length ≤ 900000) (he : M.events.length ≤ 1000000000) (ho : (1 ≤ i.op ∧ i.op ≤ 16) ∨ i.op = 25) (ha : Cd.al B M.codes c i = true) (ht : Cd.tk i ≤ M.stack.length) :
    Calls Tryd.prog 41 #[.pointer (some ⟨m, 0, none⟩), inV i] w fun e w' => e = .returned (.tuple #[]) ∧ VmQ m w w' (Vm.rk M f i) := by
  obtain ⟨op, n, z⟩ := i
  dsimp only at ho
  have h1 := Vm.last1 M.stack
  have h2 := Vm.last2 M.stack
  obtain ⟨s1, e1⟩ : ∃ s, s = M.stack.dropLast := ⟨_, rfl⟩
  obtain ⟨a1, e2⟩ : ∃ s, s = M.stack.getLastD 0 := ⟨_, rfl⟩
  obtain ⟨s2, e3⟩ : ∃ s, s = M.stack.dropLast.dropLast := ⟨_, rfl⟩
  obtain ⟨a2, e4⟩ : ∃ s, s = M.stack.dropLast.getLastD 0 := ⟨_, rfl⟩
  have l1 : s1.length ≤ 900000 := by rw [e1]; simp; omega
  have l2 : s2.length ≤ 900000 := by rw [e3]; simp; omega
  unfold Vm.rk
  dsimp only
  rw [← e1, ← e2] at h1
  rw [← e3, ← e4, ← e2] at h2
  rw [← e3, ← e4, ← e1, ← e2]
  have hcases : op = 1 ∨ op = 2 ∨ op = 3 ∨ op = 4 ∨ op = 5 ∨ op = 6 ∨ op = 15 ∨ op = 16 ∨ op = 25 ∨ op = 7 ∨ op = 8 ∨ op = 9 ∨ op = 10 ∨ op = 11 ∨ op = 12 ∨ op = 13 ∨ op = 14 := by omega
  have t1 : ∀ x : Int, Cd.tk ⟨op, n, z⟩ = x → x ≤ M.stack.length := fun x e => by rw [← e]; exact ht
  clear ht
  rcases hcases with rfl | rfl | rfl | rfl | rfl | rfl | rfl | rfl | rfl | rfl | rfl | rfl | rfl | rfl | rfl | rfl | rfl
  · simp only [if_true]
    exact vmR1 m w V M fs f c k n z h hf hc hk hb hl hfl (by omega)
  · simp only [Cd.al, Cd.hc, true_or, if_true, Bool.and_eq_true, decide_eq_true_eq] at ha
    obtain ⟨j, hj⟩ : ∃ j : Nat, n = j := ⟨n.toNat, by omega⟩
    subst hj
    simpa using vmR2 m w V M fs f c k j z h hf hc hk hb hl hfl (by omega) (by omega)
  · simp only [Cd.al, Cd.hc, or_true, if_true, Bool.and_eq_true, decide_eq_true_eq] at ha
    have h0 := t1 1 rfl
    obtain ⟨j, hj⟩ : ∃ j : Nat, n = j := ⟨n.toNat, by omega⟩
    subst hj
    simpa using vmR3 m w V M fs f c k j z s1 a1 h hf hc hk hb hl hfl (h1 (by omega)) (by omega) (by omega)
  · simp [Cd.al, Cd.hc] at ha
    have h0 := t1 1 rfl
    obtain ⟨j, hj⟩ : ∃ j : Nat, n = j := ⟨n.toNat, by omega⟩
    obtain ⟨y, hy⟩ : ∃ y : Nat, z = y := ⟨z.toNat, by omega⟩
    subst hj hy
    simpa using vmR4 m w V M fs f c k j y s1 a1 h hf hc hk hb hl hfl (h1 (by omega)) (by omega) he (by omega) (by omega)
  · simp [Cd.al, Cd.hc] at ha
    have h0 := t1 2 rfl
    obtain ⟨j, hj⟩ : ∃ j : Nat, n = j := ⟨n.toNat, by omega⟩
    obtain ⟨y, hy⟩ : ∃ y : Nat, z = y := ⟨z.toNat, by omega⟩
    subst hj hy
    simpa using vmR5 m w V M fs f c k j y s2 a2 a1 h hf hc hk hb hl hfl (h2 (by omega)) (by omega) he (by omega) (by omega)
  · simp [Cd.al, Cd.hc] at ha
    obtain ⟨j, hj⟩ : ∃ j : Nat, n = j := ⟨n.toNat, by omega⟩
    obtain ⟨y, hy⟩ : ∃ y : Nat, z = y := ⟨z.toNat, by omega⟩
    subst hj hy
    simpa using vmR6 m w V M fs f c k j y h hf hc hk hb hl hfl (by omega) (by omega)
  · have h0 := t1 1 rfl
    cases hz : (a1 == 0) with
    | true => simpa [Vm.tr] using vmR15t m w V M fs f c k n z s1 a1 h hf hc hk hb hl hfl (h1 (by omega)) (by omega) hz
    | false => simpa [Vm.tr] using vmR15f m w V M fs f c k n z s1 a1 h hf hc hk hb hl hfl (h1 (by omega)) (by omega) hz
  · have h0 := t1 1 rfl
    simpa using vmR16 m w V M fs f c k n z s1 a1 h hf hc hk hb hl hfl (h1 (by omega)) (by omega)
  · have h0 := t1 1 rfl
    simpa using vmR25 m w V M fs f c k n z s1 a1 h hf hc hk hb hl hfl (h1 (by omega)) (by omega)
  · have h0 := t1 2 rfl
    simpa using vmR7 m w V M fs f c k n z s2 a2 a1 h hf hc hk hb hl hfl (h2 (by omega)) (by omega) he
  · have h0 := t1 2 rfl
    simpa using vmR8 m w V M fs f c k n z s2 a2 a1 h hf hc hk hb hl hfl (h2 (by omega)) (by omega) he
  · have h0 := t1 2 rfl
    simpa using vmR9 m w V M fs f c k n z s2 a2 a1 h hf hc hk hb hl hfl (h2 (by omega)) (by omega) he
  · have h0 := t1 2 rfl
    simpa using vmR10 m w V M fs f c k n z s2 a2 a1 h hf hc hk hb hl hfl (h2 (by omega)) (by omega) he
  · have h0 := t1 2 rfl
    simpa using vmR11 m w V M fs f c k n z s2 a2 a1 h hf hc hk hb hl hfl (h2 (by omega)) (by omega) he
  · have h0 := t1 2 rfl
    simpa using vmR12 m w V M fs f c k n z s2 a2 a1 h hf hc hk hb hl hfl (h2 (by omega)) (by omega) he
  · have h0 := t1 2 rfl
    simpa using vmR13 m w V M fs f c k n z s2 a2 a1 h hf hc hk hb hl hfl (h2 (by omega)) (by omega) he
  · have h0 := t1 2 rfl
    simpa using vmR14 m w V M fs f c k n z s2 a2 a1 h hf hc hk hb hl hfl (h2 (by omega)) (by omega) he
set_option maxRecDepth 100000 in
set_option maxHeartbeats 4000000 in
theorem vmCall (m : Nat) (w : World) (V : VmV) (M : Vm.Mc) (d : Cd.Co) (p gi : Nat) (k : Nat) (h : VmS m w V M) (hc : M.codes[p]? = some d) (hk : d.cells = k) (hl : M.cells.length + k ≤ 100000000) (hfl : M.frames.length ≤ 50) (hs : M.stack.length ≤ 900000) (hgi : gi ≤ M.stack.length) (hgk : gi ≤ k) (he : M.events.length ≤ 1000000000) :
    Calls Tryd.prog 36 #[.pointer (some ⟨m, 0, none⟩), inV ⟨19, p, gi⟩] w fun e w' => e = .returned (.tuple #[]) ∧ VmQ m w w' (if M.frames.length = 50 then Vm.trp M 4 else Vm.en M p k gi) := by
  obtain ⟨W1, hW1⟩ : ∃ W1, W1 = w.alloc (inB ⟨19, (p : Int), (gi : Int)⟩) := ⟨_, rfl⟩
  obtain ⟨ib, hib⟩ : ∃ ib, ib = w.heap.size := ⟨_, rfl⟩
  obtain ⟨t0, t1, t2, bw⟩ := in_box w ⟨19, (p : Int), (gi : Int)⟩ ib W1 hib hW1
  dsimp only at t0 t1 t2
  have h1 := h.later bw
  have HB : Hid (Below m w W1) := bw.mono (Nat.le_of_lt h.lt)
  have c10 := h1.cell.2.2.2.2.2.2.1
  obtain ⟨fa, fc, hv⟩ := own_shp (show W1.ownsRow (m + 1) 74 4 V.fv M.frames.length (Vm.frC M.frames) from h1.rows.oc)
  rw [hv] at c10
  have ET : Hid _ := vmTrap m W1 V M 4 h1 he
  have EE : Hid _ := vmEnter m W1 V M d p k gi h1 hc hk hl (by omega) (by omega) hgi hgk
  obtain ⟨n, hn⟩ : ∃ n, n = M.frames.length := ⟨_, rfl⟩
  rw [← hn] at c10 ⊢
  clear h h1 hv bw hc hk hl hfl hs hgi hgk he hn
  by_cases h50 : n = 50
  · subst h50
    rw [if_pos rfl]
    go_enter Tryd.func36, Tryd.ntmps36
    go_upto_region 1 with fail
    rw [← hW1, ← hib]
    clear hW1 hib
    go_wp2_with fail
    refine Calls.mono ET.out ?_
    rintro e1 w1 ⟨rfl, Q1⟩
    have FIN : Hid (VmQ m w w1 (Vm.trp M 4)) := ⟨HB.out.trans Q1.1, Q1.2⟩
    clear Q1 ET EE
    go_wp2_with fail
    first
      | (go_end0; exact ⟨rfl, FIN.out⟩)
      | (refine bodyPost_ret (v := .tuple #[]) (by simp [results, Tryd.results36, go_sem]) rfl ?_; exact ⟨rfl, FIN.out⟩)
  · rw [if_neg h50]
    have hb : ((n : Int) == 50) = false := beq_eq_false_iff_ne.2 (by omega)
    go_enter Tryd.func36, Tryd.ntmps36
    go_upto_region 1 with fail
    rw [← hW1, ← hib]
    clear hW1 hib
    go_wp2_with fail
    refine Calls.mono EE.out ?_
    rintro e1 w1 ⟨rfl, Q1⟩
    have FIN : Hid (VmQ m w w1 (Vm.en M p k gi)) := ⟨HB.out.trans Q1.1, Q1.2⟩
    clear Q1 ET EE
    go_wp2_with fail
    first
      | (go_end0; exact ⟨rfl, FIN.out⟩)
      | (go_ret; exact ⟨rfl, FIN.out⟩)
end Go.Proofs.YtodpdnidinnjjaaDoor
