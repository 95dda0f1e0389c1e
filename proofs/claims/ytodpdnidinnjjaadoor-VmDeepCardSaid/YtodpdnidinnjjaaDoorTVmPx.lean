/- Layer 9, plain: each instruction, and a whole step, keeps what a machine of sound codes is. -/
import Derived.Test.YtodpdnidinnjjaaDoorTVmPw
namespace Go.Proofs.YtodpdnidinnjjaaDoor.Vm
open Go.RowKit
set_option linter.unusedVariables false
set_option linter.unusedSimpArgs false

theorem leaves_nn (k : Nat) : 0 ≤ Cd.leavesL.getD k 0 := by
  by_cases h : k < 26
  · have t : ∀ j : Fin 26, 0 ≤ Cd.leavesL.getD j.val 0 := by decide
    exact t ⟨k, h⟩
  · rw [List.getD_eq_getElem?_getD, List.getElem?_eq_none (by show 26 ≤ _; omega)]
    simp
theorem lv_nn (l : List Cd.Co) (i : Cd.In) : 0 ≤ Cd.lv l i := by
  unfold Cd.lv
  split
  · split
    · exact (an_nn _).1
    · omega
  · split
    · omega
    · exact leaves_nn _
theorem Fs.add {l : List Cd.Co} {fs : List Fr} {C S : Nat} {a : Int} (h : Fs l fs C S a) (ha : 0 ≤ a) : Fs l fs C (S + a.toNat) 0 := by
  cases h with
  | nil => exact .nil
  | snoc fs f C S h a c r hc hb hr =>
    rw [Nat.add_assoc]
    refine .snoc fs f C S (h + a.toNat) 0 c r hc hb ?_
    have e : ((h + a.toNat : Nat) : Int) + 0 = (h : Int) + a := by omega
    rw [e]
    exact hr
/-- The last frame's next place. -/
abbrev fn (f : Fr) : Fr := { f with place := f.place + 1 }
abbrev nx (M : Mc) (fs : List Fr) (f : Fr) : Mc := { M with frames := fs ++ [fn f] }
theorem At.on {B : Int} {M : Mc} {fs : List Fr} {f : Fr} {c : Cd.Co} {i : Cd.In} {C0 S0 h : Nat} (a : At B M fs f c i C0 S0 h) {N : Mc} {p : Nat} (hr : Cd.Rc M.codes c (p : Int) ((h : Int) - Cd.tk i + Cd.lv M.codes i)) (co : N.codes = M.codes) (m : Int) (hf : N.frames = fs ++ [{ f with place := p, mark := m }]) (hc : N.cells.length = M.cells.length) (hs : (N.stack.length : Int) = M.stack.length - Cd.tk i + Cd.lv M.codes i) : Fs N.codes N.frames N.cells.length N.stack.length 0 := by
  have l0 := lv_nn M.codes i
  have t0 := a.tk
  obtain ⟨h', eh⟩ : ∃ h' : Nat, (h' : Int) = (h : Int) - Cd.tk i + Cd.lv M.codes i := ⟨((h : Int) - Cd.tk i + Cd.lv M.codes i).toNat, by omega⟩
  have sS := a.tp.sS
  have e1 : N.stack.length = S0 + h' := by omega
  rw [co, hf, hc, e1, a.tp.cC]
  refine .snoc fs { f with place := p, mark := m } C0 S0 h' 0 c a.tp.r a.tp.hc a.tp.hb ?_
  show Cd.Rc M.codes c (p : Int) ((h' : Int) + 0)
  rw [Int.add_zero, eh]
  exact hr
theorem At.one {B : Int} {M : Mc} {fs : List Fr} {f : Fr} {c : Cd.Co} {i : Cd.In} {C0 S0 h : Nat} (a : At B M fs f c i C0 S0 h) (ho : i.op ≠ 20) : Cd.Rc M.codes c (Cd.n1 i f.place) ((h : Int) - Cd.tk i + Cd.lv M.codes i) := by
  have := Cd.Rc.one (l := M.codes) (c := c) (f.place : Int) ((h : Int) + 0) i a.tp.hr (by omega) (by rw [Int.toNat_natCast]; exact a.hi) ho
  rwa [Int.add_zero] at this
theorem At.two {B : Int} {M : Mc} {fs : List Fr} {f : Fr} {c : Cd.Co} {i : Cd.In} {C0 S0 h : Nat} (a : At B M fs f c i C0 S0 h) (ho : i.op ≠ 20) : Cd.Rc M.codes c (Cd.n2 i f.place) ((h : Int) - Cd.tk i + Cd.lv M.codes i) := by
  have := Cd.Rc.two (l := M.codes) (c := c) (f.place : Int) ((h : Int) + 0) i a.tp.hr (by omega) (by rw [Int.toNat_natCast]; exact a.hi) ho
  rwa [Int.add_zero] at this
theorem wf_of {B : Int} {M N : Mc} (w : WF B M) (k : Kp M N) (fs : Fs N.codes N.frames N.cells.length N.stack.length 0) (f1 : 1 ≤ N.frames.length) (f50 : N.frames.length ≤ 50) (rd : N.read ≤ N.input.length) : WF B N :=
  ⟨by rw [k.co]; exact w.len, by rw [k.co]; exact w.fit, fs, f1, f50, rd, by rw [k.inp]; exact w.inp, by rw [k.fu]; exact w.fu, by rw [k.ti]; exact w.ti, by rw [k.ti, k.fu]; exact w.su⟩
theorem kp_none {M N : Mc} (co : N.codes = M.codes) (inp : N.input = M.input) (fu : N.fuel = M.fuel) (ti : N.ticks = M.ticks) (g : N.g = M.g) (h : N.run = true) (e : N.events = M.events) : Kp M N := ⟨co, inp, fu, ti, g, [], by simp [e], by simp, fun _ e he => by simp at he, fun h2 => by rw [h] at h2; cases h2⟩
theorem kp_one {M N : Mc} (co : N.codes = M.codes) (inp : N.input = M.input) (fu : N.fuel = M.fuel) (ti : N.ticks = M.ticks) (g : N.g = M.g) (h : N.run = true) {k a : Int} (hk : k < 3) (e : N.events = M.events ++ [(k, a)]) : Kp M N := ⟨co, inp, fu, ti, g, [(k, a)], e, by simp, fun _ e he => by simp at he; subst he; exact hk, fun h2 => by rw [h] at h2; cases h2⟩
theorem kp_end {M N : Mc} (co : N.codes = M.codes) (inp : N.input = M.input) (fu : N.fuel = M.fuel) (ti : N.ticks = M.ticks) (g : N.g = M.g) (h : N.run = false) {k a : Int} (hk : 3 ≤ k) (e : N.events = M.events ++ [(k, a)]) : Kp M N := ⟨co, inp, fu, ti, g, [(k, a)], e, by simp, fun h2 => (by rw [h] at h2; cases h2), fun _ => ⟨_, rfl, hk⟩⟩
theorem At.ops {B : Int} {M : Mc} {fs : List Fr} {f : Fr} {c : Cd.Co} {i : Cd.In} {C0 S0 h : Nat} (a : At B M fs f c i C0 S0 h) : 1 ≤ i.op ∧ i.op ≤ 25 := by
  have := a.hl
  unfold Cd.hl at this
  simp only [Bool.and_eq_true, decide_eq_true_eq] at this
  exact ⟨this.1.1.1, this.1.1.2⟩
theorem At.sum {B : Int} {M : Mc} {fs : List Fr} {f : Fr} {c : Cd.Co} {i : Cd.In} {C0 S0 h : Nat} (a : At B M fs f c i C0 S0 h) : Cd.tk i ≤ M.stack.length := by
  have := a.tp.sS
  have := a.tk
  omega
theorem At.len {B : Int} {M : Mc} {fs : List Fr} {f : Fr} {c : Cd.Co} {i : Cd.In} {C0 S0 h : Nat} (w : WF B M) (a : At B M fs f c i C0 S0 h) (g : Fr) : 1 ≤ (fs ++ [g]).length ∧ (fs ++ [g]).length ≤ 50 := by
  have := w.f50
  rw [a.hf] at this
  simp at this ⊢
  omega
/-- The instruction leaves a machine that can go on, or one that has ended. -/
theorem ex_ok {B : Int} {M : Mc} {fs : List Fr} {f : Fr} {c : Cd.Co} {i : Cd.In} {C0 S0 h : Nat} (w : WF B M) (hr : M.run = true) (a : At B M fs f c i C0 S0 h) (h24 : i.op ≠ 24) : Kp M (ex (nx M fs f) fs (fn f) i) ∧ ((ex (nx M fs f) fs (fn f) i).run = true → WF B (ex (nx M fs f) fs (fn f) i)) := by
  have ho := a.ops
  have hsu := a.sum
  have hal := a.al
  by_cases hrk : (1 ≤ i.op ∧ i.op ≤ 16) ∨ i.op = 25
  · have e : ex (nx M fs f) fs (fn f) i = rk (nx M fs f) (fn f) i := by
      unfold ex
      rw [if_neg (by omega), if_neg (by omega), if_neg (by omega), if_neg (by omega), if_neg (by omega), if_neg (by omega), if_neg (by omega)]
    rw [e]
    have r := rk_rk (M := nx M fs f) (f := fn f) (i := i) hr hrk hsu
    have k : Kp M (rk (nx M fs f) (fn f) i) := ⟨r.co, r.inp, r.fu, r.ti, r.g, r.ev⟩
    refine ⟨k, fun hrun => ?_⟩
    have n1 := a.one (by omega)
    have e1 : Cd.n1 i f.place = ((f.place + 1 : Nat) : Int) := by
      unfold Cd.n1
      rw [if_neg (by omega)]
      omega
    rw [e1] at n1
    refine wf_of w k (a.on n1 r.co f.mark r.fr r.ce (r.st hrun)) ?_ ?_ ?_
    · rw [r.fr]; exact (a.len w _).1
    · rw [r.fr]; exact (a.len w _).2
    · rw [r.rd, r.inp]; exact w.rd
  · have hc : i.op = 17 ∨ i.op = 18 ∨ i.op = 19 ∨ i.op = 20 ∨ i.op = 21 ∨ i.op = 22 ∨ i.op = 23 := by omega
    obtain ⟨op, n, z⟩ := i
    dsimp only at hc
    have pl : ((f.place + 1 : Nat) : Int) = (f.place : Int) + 1 := by omega
    rcases hc with rfl | rfl | rfl | rfl | rfl | rfl | rfl
    · -- jump
      have n1 := a.one (by simp)
      simp [Cd.al] at hal
      have e1 : Cd.n1 ⟨17, n, z⟩ f.place = ((n.toNat : Nat) : Int) := by
        show n = _
        omega
      rw [e1] at n1
      have e : ex (nx M fs f) fs (fn f) ⟨17, n, z⟩ = { nx M fs f with frames := fs ++ [{ fn f with place := n.toNat }] } := rfl
      rw [e]
      have k : Kp M { nx M fs f with frames := fs ++ [{ fn f with place := n.toNat }] } := kp_none rfl rfl rfl rfl rfl hr rfl
      exact ⟨k, fun _ => wf_of w k (a.on n1 rfl f.mark rfl rfl (by simp [Cd.tk, Cd.lv, Cd.takesL, Cd.leavesL])) (a.len w _).1 (a.len w _).2 w.rd⟩
    · -- zero
      simp [Cd.al] at hal
      have ht : (1 : Int) ≤ M.stack.length := hsu
      have hs : ((M.stack.dropLast.length : Nat) : Int) = M.stack.length - Cd.tk ⟨18, n, z⟩ + Cd.lv M.codes ⟨18, n, z⟩ := by
        simp [Cd.tk, Cd.lv, Cd.takesL, Cd.leavesL]
        omega
      have e : ex (nx M fs f) fs (fn f) ⟨18, n, z⟩ = if M.stack.getLastD 0 = 0 then { nx M fs f with stack := M.stack.dropLast, frames := fs ++ [{ fn f with place := n.toNat }] } else { nx M fs f with stack := M.stack.dropLast } := rfl
      rw [e]
      split
      · have n2 := a.two (by simp)
        have e1 : Cd.n2 ⟨18, n, z⟩ f.place = ((n.toNat : Nat) : Int) := by
          show n = _
          omega
        rw [e1] at n2
        have k : Kp M { nx M fs f with stack := M.stack.dropLast, frames := fs ++ [{ fn f with place := n.toNat }] } := kp_none rfl rfl rfl rfl rfl hr rfl
        exact ⟨k, fun _ => wf_of w k (a.on n2 rfl f.mark rfl rfl hs) (a.len w _).1 (a.len w _).2 w.rd⟩
      · have n1 := a.one (by simp)
        have e1 : Cd.n1 ⟨18, n, z⟩ f.place = ((f.place + 1 : Nat) : Int) := by
          rw [pl]
          rfl
        rw [e1] at n1
        have k : Kp M { nx M fs f with stack := M.stack.dropLast } := kp_none rfl rfl rfl rfl rfl hr rfl
        exact ⟨k, fun _ => wf_of w k (a.on n1 rfl f.mark rfl rfl hs) (a.len w _).1 (a.len w _).2 w.rd⟩
    · -- call
      simp only [Cd.al, Cd.mc] at hal
      simp at hal
      obtain ⟨⟨hn0, hz0⟩, hal⟩ := hal
      cases hd : M.codes[n.toNat]? with
      | none => rw [hd] at hal; simp at hal
      | some d =>
        rw [hd] at hal
        simp at hal
        have ftd := (w.fit d (List.mem_of_getElem? hd)).sz
        unfold Cd.sz at ftd
        simp at ftd
        have e : ex (nx M fs f) fs (fn f) ⟨19, n, z⟩ = if (fs ++ [fn f]).length = 50 then trp (nx M fs f) 4 else en (nx M fs f) n.toNat d.cells.toNat z.toNat := by
          unfold ex
          simp [hd]
        rw [e]
        split
        · exact ⟨kp_end rfl rfl rfl rfl rfl rfl (k := 4) (a := 4) (by decide) rfl, fun hx => by cases hx⟩
        · rename_i h50
          have k : Kp M (en (nx M fs f) n.toNat d.cells.toNat z.toNat) := kp_none rfl rfl rfl rfl rfl hr rfl
          refine ⟨k, fun _ => wf_of w k ?_ (by simp [en]) (by have := (a.len w (fn f)).2; simp [en] at h50 this ⊢; omega) w.rd⟩
          have n1 := a.one (by simp)
          have e1 : Cd.n1 ⟨19, n, z⟩ f.place = ((f.place + 1 : Nat) : Int) := by
            rw [pl]
            rfl
          have e2 : Cd.lv M.codes ⟨19, n, z⟩ = Cd.an d := by
            unfold Cd.lv
            simp [hd]
          have e3 : Cd.tk ⟨19, n, z⟩ = z := rfl
          rw [e1, e2, e3] at n1
          have htk := a.tk
          have hsS := a.tp.sS
          have hcC := a.tp.cC
          rw [e3] at htk hsu
          have fs1 : Fs M.codes (fs ++ [fn f]) M.cells.length (S0 + (h - z.toNat)) (Cd.an d) := by
            rw [hcC]
            refine .snoc fs (fn f) C0 S0 (h - z.toNat) (Cd.an d) c a.tp.r a.tp.hc a.tp.hb ?_
            have : ((h - z.toNat : Nat) : Int) = (h : Int) - z := by omega
            rw [this]
            exact n1
          have fs2 := Fs.snoc (l := M.codes) (fs ++ [fn f]) ⟨n.toNat, 0, -1, M.cells.length⟩ M.cells.length (S0 + (h - z.toNat)) 0 0 d fs1 hd rfl .zero
          show Fs M.codes ((fs ++ [fn f]) ++ [⟨n.toNat, 0, -1, M.cells.length⟩]) (M.cells ++ (M.stack.drop (M.stack.length - z.toNat) ++ List.replicate (d.cells.toNat - z.toNat) 0)).length (M.stack.take (M.stack.length - z.toNat)).length 0
          have l1 : (M.cells ++ (M.stack.drop (M.stack.length - z.toNat) ++ List.replicate (d.cells.toNat - z.toNat) 0)).length = M.cells.length + d.cells.toNat := by
            simp
            omega
          have l2 : (M.stack.take (M.stack.length - z.toNat)).length = S0 + (h - z.toNat) + 0 := by
            simp
            omega
          rw [l1, l2]
          exact fs2
    · -- leave
      simp [Cd.al] at hal
      subst hal
      have hb := a.bare rfl
      have e3 : Cd.tk ⟨20, Cd.an c, z⟩ = Cd.an c := rfl
      rw [e3] at hb
      have e : ex (nx M fs f) fs (fn f) ⟨20, Cd.an c, z⟩ = lv (nx M fs f) fs (fn f) := rfl
      rw [e]
      unfold lv
      split
      · exact ⟨kp_end rfl rfl rfl rfl rfl rfl (k := 3) (a := 0) (by decide) rfl, fun hx => by cases hx⟩
      · rename_i hne
        have k : Kp M { nx M fs f with cells := M.cells.take (fn f).base, frames := fs } := kp_none rfl rfl rfl rfl rfl hr rfl
        have hfl := (a.len w f).2
        have hpos : 1 ≤ fs.length := by
          rcases fs with _ | ⟨x, y⟩
          · exact absurd rfl hne
          · simp
        refine ⟨k, fun _ => wf_of w k ?_ hpos (by simp at hfl; show fs.length ≤ 50; omega) w.rd⟩
        have r := a.tp.r.add (an_nn c).1
        have hsS := a.tp.sS
        have hcC := a.tp.cC
        have hba := a.tp.hb
        show Fs M.codes fs (M.cells.take f.base).length M.stack.length 0
        have l1 : (M.cells.take f.base).length = C0 := by
          simp
          omega
        have l2 : M.stack.length = S0 + (Cd.an c).toNat := by omega
        rw [l1, l2]
        exact r
    · -- print
      have ht : (1 : Int) ≤ M.stack.length := hsu
      have hs : ((M.stack.dropLast.length : Nat) : Int) = M.stack.length - Cd.tk ⟨21, n, z⟩ + Cd.lv M.codes ⟨21, n, z⟩ := by
        simp [Cd.tk, Cd.lv, Cd.takesL, Cd.leavesL]
        omega
      have n1 := a.one (by simp)
      have e1 : Cd.n1 ⟨21, n, z⟩ f.place = ((f.place + 1 : Nat) : Int) := by
        rw [pl]
        rfl
      rw [e1] at n1
      have e : ex (nx M fs f) fs (fn f) ⟨21, n, z⟩ = { nx M fs f with stack := M.stack.dropLast, events := M.events ++ [(1, M.stack.getLastD 0)] } := rfl
      rw [e]
      have k : Kp M { nx M fs f with stack := M.stack.dropLast, events := M.events ++ [(1, M.stack.getLastD 0)] } := kp_one rfl rfl rfl rfl rfl hr (k := 1) (a := M.stack.getLastD 0) (by decide) rfl
      exact ⟨k, fun _ => wf_of w k (a.on n1 rfl f.mark rfl rfl hs) (a.len w _).1 (a.len w _).2 w.rd⟩
    · -- read
      have n1 := a.one (by simp)
      have e1 : Cd.n1 ⟨22, n, z⟩ f.place = ((f.place + 1 : Nat) : Int) := by
        rw [pl]
        rfl
      rw [e1] at n1
      have e : ex (nx M fs f) fs (fn f) ⟨22, n, z⟩ = rd (nx M fs f) := rfl
      rw [e]
      unfold rd
      show Kp M (match M.input[M.read]? with | none => { nx M fs f with events := M.events ++ [(4, 5)], run := false } | some n => { nx M fs f with read := M.read + 1, events := M.events ++ [(2, n)], stack := M.stack ++ [n] }) ∧ ((match M.input[M.read]? with | none => { nx M fs f with events := M.events ++ [(4, 5)], run := false } | some n => { nx M fs f with read := M.read + 1, events := M.events ++ [(2, n)], stack := M.stack ++ [n] } : Mc).run = true → WF B (match M.input[M.read]? with | none => { nx M fs f with events := M.events ++ [(4, 5)], run := false } | some n => { nx M fs f with read := M.read + 1, events := M.events ++ [(2, n)], stack := M.stack ++ [n] }))
      cases hx : M.input[M.read]? with
      | none => exact ⟨kp_end rfl rfl rfl rfl rfl rfl (k := 4) (a := 5) (by decide) rfl, fun hx => by cases hx⟩
      | some v =>
        have hlt := (List.getElem?_eq_some_iff.1 hx).1
        have k : Kp M { nx M fs f with read := M.read + 1, events := M.events ++ [(2, v)], stack := M.stack ++ [v] } := kp_one rfl rfl rfl rfl rfl hr (k := 2) (a := v) (by decide) rfl
        exact ⟨k, fun _ => wf_of w k (a.on n1 rfl f.mark rfl rfl (by simp [Cd.tk, Cd.lv, Cd.takesL, Cd.leavesL])) (a.len w _).1 (a.len w _).2 hlt⟩
    · -- test
      have ht : (1 : Int) ≤ M.stack.length := hsu
      have hs : ((M.stack.dropLast.length : Nat) : Int) = M.stack.length - Cd.tk ⟨23, n, z⟩ + Cd.lv M.codes ⟨23, n, z⟩ := by
        simp [Cd.tk, Cd.lv, Cd.takesL, Cd.leavesL]
        omega
      have n1 := a.one (by simp)
      have e1 : Cd.n1 ⟨23, n, z⟩ f.place = ((f.place + 1 : Nat) : Int) := by
        rw [pl]
        rfl
      rw [e1] at n1
      have e : ex (nx M fs f) fs (fn f) ⟨23, n, z⟩ = if M.stack.getLastD 0 = 0 then trp { nx M fs f with stack := M.stack.dropLast } 3 else { nx M fs f with stack := M.stack.dropLast } := rfl
      rw [e]
      split
      · exact ⟨kp_end rfl rfl rfl rfl rfl rfl (k := 4) (a := 3) (by decide) rfl, fun hx => by cases hx⟩
      · have k : Kp M { nx M fs f with stack := M.stack.dropLast } := kp_none rfl rfl rfl rfl rfl hr rfl
        exact ⟨k, fun _ => wf_of w k (a.on n1 rfl f.mark rfl rfl hs) (a.len w _).1 (a.len w _).2 w.rd⟩
/-- What so many instructions leave. -/
structure Gd (B : Int) (M N : Mc) (n : Nat) : Prop where
  co : N.codes = M.codes
  inp : N.input = M.input
  g : N.g = M.g
  ev : ∃ t, N.events = M.events ++ t ∧ t.length ≤ n ∧ (N.run = true → ∀ e ∈ t, e.1 < 3) ∧ (N.run = false → ∃ s e, t = s ++ [e] ∧ (∀ x ∈ s, x.1 < 3) ∧ 3 ≤ e.1)
  tk : (N.ticks = M.ticks ∧ N.fuel = M.fuel) ∨ (N.ticks = M.ticks + 1 ∧ N.fuel = M.fuel - 1 ∧ 0 < M.fuel ∧ N.run = true)
  wf : N.run = true → WF B N
theorem Kp.gd {B : Int} {M N : Mc} (k : Kp M N) (w : N.run = true → WF B N) (n : Nat) : Gd B M N (n + 1) := by
  obtain ⟨t, h1, h2, h3, h4⟩ := k.ev
  exact ⟨k.co, k.inp, k.g, ⟨t, h1, by omega, h3, fun h => by
    obtain ⟨e, he, h5⟩ := h4 h
    exact ⟨[], e, by simp [he], fun x hx => by simp at hx, h5⟩⟩, .inl ⟨k.ti, k.fu⟩, w⟩
theorem Gd.after {B : Int} {M N O : Mc} {n : Nat} (k : Kp M N) (hr : N.run = true) (g : Gd B N O n) : Gd B M O (n + 1) := by
  obtain ⟨t, h1, h2, h3, h4⟩ := k.ev
  obtain ⟨t', g1, g2, g3, g4⟩ := g.ev
  refine ⟨g.co.trans k.co, g.inp.trans k.inp, g.g.trans k.g, ⟨t ++ t', by rw [g1, h1, List.append_assoc], by rw [List.length_append]; omega, fun ho e he => ?_, fun ho => ?_⟩, ?_, g.wf⟩
  · rcases List.mem_append.1 he with he | he
    · exact h3 hr e he
    · exact g3 ho e he
  · obtain ⟨s, e, hs, h5, h6⟩ := g4 ho
    refine ⟨t ++ s, e, by rw [hs, List.append_assoc], fun x hx => ?_, h6⟩
    rcases List.mem_append.1 hx with hx | hx
    · exact h3 hr x hx
    · exact h5 x hx
  · have := g.tk
    rw [k.ti, k.fu] at this
    exact this
theorem mk_gd {B : Int} {M : Mc} {fs : List Fr} {f : Fr} {c : Cd.Co} {i : Cd.In} {C0 S0 h : Nat} (w : WF B M) (hr : M.run = true) (a : At B M fs f c i C0 S0 h) (h24 : i.op = 24) (n : Nat) : Gd B M (if 0 < M.fuel then mk (nx M fs f) fs (fn f) i else nx M fs f) (n + 1) := by
  have n1 := a.one (by omega)
  have e1 : Cd.n1 i f.place = ((f.place + 1 : Nat) : Int) := by
    unfold Cd.n1
    rw [if_neg (by omega)]
    omega
  have e2 : Cd.tk i = 0 ∧ Cd.lv M.codes i = 0 := by
    obtain ⟨op, x, y⟩ := i
    dsimp only at h24
    subst h24
    exact ⟨rfl, rfl⟩
  rw [e1] at n1
  have hs : ((M.stack.length : Nat) : Int) = M.stack.length - Cd.tk i + Cd.lv M.codes i := by rw [e2.1, e2.2]; omega
  split
  · rename_i hfu
    have su := w.su
    have ti := w.ti
    refine ⟨rfl, rfl, rfl, ⟨[], by simp [mk], by simp, fun _ e he => by simp at he, fun h2 => by rw [show (mk (nx M fs f) fs (fn f) i).run = M.run from rfl, hr] at h2; cases h2⟩, .inr ⟨rfl, rfl, hfu, hr⟩, fun _ => ?_⟩
    refine ⟨w.len, w.fit, a.on n1 rfl i.n rfl rfl hs, (a.len w _).1, (a.len w _).2, w.rd, w.inp, ?_, ?_, ?_⟩
    · show 0 ≤ M.fuel - 1
      omega
    · show 0 ≤ M.ticks + 1
      omega
    · show M.ticks + 1 + (M.fuel - 1) ≤ 10000000
      omega
  · have k : Kp M (nx M fs f) := kp_none rfl rfl rfl rfl rfl hr rfl
    exact k.gd (fun _ => wf_of w k (a.on n1 rfl f.mark rfl rfl hs) (a.len w _).1 (a.len w _).2 w.rd) n
theorem go_succ {B : Int} {M : Mc} {fs : List Fr} {f : Fr} {c : Cd.Co} {i : Cd.In} {C0 S0 h : Nat} (a : At B M fs f c i C0 S0 h) (n : Nat) : go (n + 1) M = if i.op = 24 then (if 0 < M.fuel then mk (nx M fs f) fs (fn f) i else nx M fs f) else if (ex (nx M fs f) fs (fn f) i).run then go n (ex (nx M fs f) fs (fn f) i) else ex (nx M fs f) fs (fn f) i := by
  rw [go, it_of a.hf a.tp.hc a.hi]
theorem go_gd {B : Int} : ∀ (n : Nat) (M : Mc), WF B M → M.run = true → Gd B M (go n M) n
  | 0, M, w, hr => ⟨rfl, rfl, rfl, ⟨[], by simp [go], by simp, fun _ e he => by simp at he, fun h2 => by rw [show (go 0 M).run = M.run from rfl, hr] at h2; cases h2⟩, .inl ⟨rfl, rfl⟩, fun _ => w⟩
  | n + 1, M, w, hr => by
    obtain ⟨fs, f, c, i, C0, S0, h, a⟩ := w.at
    rw [go_succ a]
    by_cases h24 : i.op = 24
    · rw [if_pos h24]
      exact mk_gd w hr a h24 n
    · rw [if_neg h24]
      have x := ex_ok w hr a h24
      by_cases hx : (ex (nx M fs f) fs (fn f) i).run = true
      · rw [if_pos hx]
        exact (go_gd n _ (x.2 hx) hx).after x.1 hx
      · rw [if_neg hx]
        exact x.1.gd x.2 n
/-- What a step leaves: it runs on only behind a tick. -/
theorem step_gd {B : Int} {M : Mc} (w : WF B M) (hr : M.run = true) : Gd B M (step M) 1048577 ∧ ((step M).run = true → ticked M = true) ∧ (ticked M = true → (step M).ticks = M.ticks + 1 ∧ (step M).run = true) := by
  have g := go_gd 1048576 M w hr
  unfold step ticked
  rw [if_pos hr, hr]
  generalize go 1048576 M = N at g ⊢
  unfold fin
  by_cases hf : N.run = true ∧ ¬ N.ticks > M.ticks
  · rw [if_pos hf]
    obtain ⟨t, h1, h2, h3, h4⟩ := g.ev
    have e : N.ticks = M.ticks := by
      have := g.tk
      omega
    refine ⟨⟨g.co, g.inp, g.g, ⟨t ++ [(5, 0)], by show N.events ++ [(5, 0)] = _; rw [h1, List.append_assoc], by rw [List.length_append, List.length_singleton]; omega, fun h => (by cases h), fun _ => ⟨t, _, rfl, h3 hf.1, by decide⟩⟩, ?_, fun h => (by cases h)⟩, fun h => (by cases h), fun h => ?_⟩
    · rcases g.tk with h | h
      · exact .inl h
      · exact absurd h.1 (by omega)
    · simp at h
      omega
  · rw [if_neg hf]
    obtain ⟨t, h1, h2, h3, h4⟩ := g.ev
    have hT : N.run = true → N.ticks > M.ticks := fun h => by
      by_cases hx : N.ticks > M.ticks
      · exact hx
      · exact absurd ⟨h, hx⟩ hf
    refine ⟨⟨g.co, g.inp, g.g, ⟨t, h1, by omega, h3, h4⟩, g.tk, g.wf⟩, fun h => by simpa using hT h, fun h => ?_⟩
    simp at h
    rcases g.tk with h' | h'
    · omega
    · exact ⟨h'.1, h'.2.2.2⟩
end Go.Proofs.YtodpdnidinnjjaaDoor.Vm
