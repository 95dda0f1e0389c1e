/- Layer 9, plain: one instruction of the document's machine against the program's. -/
/- Layer 9, plain: the document's machine stays one that can go on; a step of it is the program's. -/
/- Layer 9, plain: a step of the document's machine is a step of the program's. -/
/- Layer 9, plain: the numbers of the document's machine are of 64 bits, and stay so. -/
import Derived.Test.YtkjkiknpgggadaaDoorSVmQq
namespace Go.Proofs.YtkjkiknpgggadaaDoor.Vm
open Go.RowKit
set_option linter.unusedVariables false
set_option linter.unusedSimpArgs false

abbrev lf (gs : List Rf) (g : Rf) : Fr := ⟨g.proc, g.place, g.mark, (fce gs).length⟩
def Mc.up (M : Mc) (fr : List Fr) (ce st : List Int) : Mc := { M with frames := fr, cells := ce, stack := st }
def Mc.dn (M : Mc) (fr : List Fr) (ce st : List Int) (ev : List (Int × Int)) : Mc := { M with frames := fr, cells := ce, stack := st, events := ev, run := false }
theorem up_last (R : Rm) (gs : List Rf) (g' : Rf) (G : Gh) : abs { R with frames := gs ++ [g'] } G = (abs R G).up (frs 0 gs ++ [lf gs g']) (fce gs ++ g'.cells) (fst gs ++ g'.stack) := abs_last R gs g' G
theorem dn_last (R : Rm) (gs : List Rf) (g' : Rf) (k n : Int) (G : Gh) : abs (rend { R with frames := gs ++ [g'] } k n) G = (abs R G).dn (frs 0 gs ++ [lf gs g']) (fce gs ++ g'.cells) (fst gs ++ g'.stack) (R.events ++ [(k, n)]) := by
  show { abs { R with frames := gs ++ [g'] } G with events := R.events ++ [(k, n)], run := false } = _
  rw [abs_last]
  rfl
theorem abs_of {R : Rm} {gs : List Rf} {g : Rf} (hf : R.frames = gs ++ [g]) (G : Gh) : abs R G = { abs R G with frames := frs 0 gs ++ [lf gs g], cells := fce gs ++ g.cells, stack := fst gs ++ g.stack } := by
  have := abs_last R gs g G
  rw [← hf] at this
  exact this
theorem dflt {R : Rm} {gs : List Rf} {g : Rf} {i : Cd.In} (h : i.op ≠ 24 ∧ i.op ≠ 19 ∧ i.op ≠ 20 ∧ i.op ≠ 21 ∧ i.op ≠ 22) : ron R gs g i = (if (res (rf1 g (Cd.tk i).toNat) i (rtk g (Cd.tk i).toNat)).2 = 0 then ({ R with frames := gs ++ [{ sto (rf1 g (Cd.tk i).toNat) i (rtk g (Cd.tk i).toNat) with stack := (rf1 g (Cd.tk i).toNat).stack ++ (res (rf1 g (Cd.tk i).toNat) i (rtk g (Cd.tk i).toNat)).1 }] }, false) else (rend { R with frames := gs ++ [rf1 g (Cd.tk i).toNat] } 4 (res (rf1 g (Cd.tk i).toNat) i (rtk g (Cd.tk i).toNat)).2, false)) := by
  obtain ⟨h1, h2, h3, h4, h5⟩ := h
  unfold ron
  rw [if_neg h1, if_neg h2, if_neg h3, if_neg h4, if_neg h5]
theorem d_on {R : Rm} {gs : List Rf} {g : Rf} {i : Cd.In} {t : Nat} {s x : List Int} {l : List Int} {g' : Rf} (h : i.op ≠ 24 ∧ i.op ≠ 19 ∧ i.op ≠ 20 ∧ i.op ≠ 21 ∧ i.op ≠ 22) (ht : (Cd.tk i).toNat = t) (h1 : g.stack.take (g.stack.length - t) = s) (h2 : g.stack.drop (g.stack.length - t) = l) (hr : res { g with place := g.place + 1, stack := s } i l = (x, 0)) (hs : sto { g with place := g.place + 1, stack := s } i l = g') : ron R gs g i = ({ R with frames := gs ++ [{ g' with stack := s ++ x }] }, false) := by
  have e1 : rf1 g t = { g with place := g.place + 1, stack := s } := by unfold rf1; rw [h1]
  have e2 : rtk g t = l := h2
  rw [dflt h, ht, e1, e2, hr, hs]
  rfl
theorem d_off {R : Rm} {gs : List Rf} {g : Rf} {i : Cd.In} {t : Nat} {s x : List Int} {l : List Int} {k : Int} (h : i.op ≠ 24 ∧ i.op ≠ 19 ∧ i.op ≠ 20 ∧ i.op ≠ 21 ∧ i.op ≠ 22) (ht : (Cd.tk i).toNat = t) (h1 : g.stack.take (g.stack.length - t) = s) (h2 : g.stack.drop (g.stack.length - t) = l) (hk : k ≠ 0) (hr : res { g with place := g.place + 1, stack := s } i l = (x, k)) : ron R gs g i = (rend { R with frames := gs ++ [{ g with place := g.place + 1, stack := s }] } 4 k, false) := by
  have e1 : rf1 g t = { g with place := g.place + 1, stack := s } := by unfold rf1; rw [h1]
  have e2 : rtk g t = l := h2
  rw [dflt h, ht, e1, e2, hr]
  simp only [if_neg hk]
theorem ev_last (R : Rm) (gs : List Rf) (g' : Rf) (rd' : Nat) (ev : List (Int × Int)) (G : Gh) : abs { R with frames := gs ++ [g'], events := ev, read := rd' } G = { (abs R G).up (frs 0 gs ++ [lf gs g']) (fce gs ++ g'.cells) (fst gs ++ g'.stack) with events := ev, read := rd' } := by
  show { abs { R with frames := gs ++ [g'] } G with events := ev, read := rd' } = _
  rw [abs_last]
  rfl
theorem tk_app (p s : List Int) (t : Nat) (h : t ≤ s.length) : (p ++ s).drop ((p ++ s).length - t) = s.drop (s.length - t) ∧ (p ++ s).take ((p ++ s).length - t) = p ++ s.take (s.length - t) := by
  have e : (p ++ s).length - t = p.length + (s.length - t) := by rw [List.length_append]; omega
  rw [e]
  constructor
  · rw [List.drop_append]
    simp
  · rw [List.take_append, List.take_of_length_le (by omega)]
    congr 2
    omega
set_option maxHeartbeats 1000000 in
theorem ron_abs {B : Int} {R : Rm} {gs : List Rf} {g : Rf} {c : Cd.Co} {i : Cd.In} (a : RA B R gs g c i) (hr : R.ended = false) (h24 : i.op ≠ 24) (h50 : gs.length + 1 ≤ 50) (G : Gh) : (ron R gs g i).2 = false ∧ Eqv (ex (nx (abs R G) (frs 0 gs) (lf gs g)) (frs 0 gs) (fn (lf gs g)) i) (abs (ron R gs g i).1 G) := by
  obtain ⟨C0, S0, A⟩ := a.at_ G
  have ho := A.ops
  have htk := a.tk
  have hal := A.al
  have hab := abs_of a.hf G
  obtain ⟨pr, pl, mk', ce, st⟩ := g
  obtain ⟨op, n, z⟩ := i
  dsimp only at htk ho h24
  have hl1 := last1 st
  have hl2 := last2 st
  have hcases : op = 1 ∨ op = 2 ∨ op = 3 ∨ op = 4 ∨ op = 5 ∨ op = 6 ∨ (7 ≤ op ∧ op ≤ 14) ∨ op = 15 ∨ op = 16 ∨ op = 17 ∨ op = 18 ∨ op = 19 ∨ op = 20 ∨ op = 21 ∨ op = 22 ∨ op = 23 ∨ op = 25 := by omega
  have nx_e : nx (abs R G) (frs 0 gs) (lf gs ⟨pr, pl, mk', ce, st⟩) = (abs R G).up (frs 0 gs ++ [⟨pr, pl + 1, mk', (fce gs).length⟩]) (fce gs ++ ce) (fst gs ++ st) := by
    unfold nx
    rw [hab]
    rfl
  rw [nx_e]
  have z0 : st.take (st.length - 0) = st ∧ st.drop (st.length - 0) = [] := by simp
  rcases hcases with rfl | rfl | rfl | rfl | rfl | rfl | ⟨h7, h14⟩ | rfl | rfl | rfl | rfl | rfl | rfl | rfl | rfl | rfl | rfl
  · -- push
    rw [d_on (x := [n]) (s := st) (l := []) (t := 0) (g' := ⟨pr, pl + 1, mk', ce, st⟩) (by simp) rfl z0.1 z0.2 rfl rfl]
    refine ⟨rfl, .inl ?_⟩
    rw [up_last]
    show (abs R G).up _ _ ((fst gs ++ st) ++ [n]) = _
    rw [List.append_assoc]
    try rfl
  · -- load
    rw [d_on (x := [ce.getD n.toNat 0]) (s := st) (l := []) (t := 0) (g' := ⟨pr, pl + 1, mk', ce, st⟩) (by simp) rfl z0.1 z0.2 rfl rfl]
    refine ⟨rfl, .inl ?_⟩
    rw [up_last]
    show (abs R G).up _ _ ((fst gs ++ st) ++ [(fce gs ++ ce).getD ((fce gs).length + n.toNat) 0]) = _
    rw [gd_app, List.append_assoc]
    try rfl
  · -- store
    have h0 : (1 : Int) ≤ st.length := htk
    obtain ⟨s, a1, rfl⟩ : ∃ s a, st = s ++ [a] := ⟨_, _, hl1 (by omega)⟩
    rw [d_on (x := []) (s := s) (l := [a1]) (t := 1) (g' := ⟨pr, pl + 1, mk', ce.set n.toNat a1, s⟩) (by simp) rfl (tk1 s a1).1 (tk1 s a1).2 rfl rfl]
    refine ⟨rfl, .inl ?_⟩
    rw [up_last]
    show (abs R G).up _ ((fce gs ++ ce).set ((fce gs).length + n.toNat) ((fst gs ++ (s ++ [a1])).getLastD 0)) ((fst gs ++ (s ++ [a1])).dropLast) = _
    rw [(dl1 _ _ _).1, (dl1 _ _ _).2, st_app, List.append_nil]
    try rfl
  · -- index
    have h0 : (1 : Int) ≤ st.length := htk
    obtain ⟨s, a1, rfl⟩ : ∃ s a, st = s ++ [a] := ⟨_, _, hl1 (by omega)⟩
    have eL : ex ((abs R G).up (frs 0 gs ++ [⟨pr, pl + 1, mk', (fce gs).length⟩]) (fce gs ++ ce) (fst gs ++ (s ++ [a1]))) (frs 0 gs) (fn (lf gs ⟨pr, pl, mk', ce, s ++ [a1]⟩)) ⟨4, n, z⟩ = ix ((abs R G).up (frs 0 gs ++ [⟨pr, pl + 1, mk', (fce gs).length⟩]) (fce gs ++ ce) (fst gs ++ (s ++ [a1]))) (fst gs ++ (s ++ [a1])).dropLast ((fst gs ++ (s ++ [a1])).getLastD 0) ((fce gs).length + n.toNat) z.toNat := rfl
    rw [eL, (dl1 _ _ _).1, (dl1 _ _ _).2]
    by_cases hp : ip a1 z.toNat = true
    · rw [d_on (x := [ce.getD (n.toNat + a1.toNat) 0]) (s := s) (l := [a1]) (t := 1) (g' := ⟨pr, pl + 1, mk', ce, s⟩) (by simp) rfl (tk1 s a1).1 (tk1 s a1).2 (by show (if ip a1 z.toNat = true then _ else _) = _; exact if_pos hp) rfl]
      refine ⟨rfl, .inl ?_⟩
      rw [up_last]
      unfold ix
      rw [if_pos hp]
      show (abs R G).up _ _ ((fst gs ++ s) ++ [(fce gs ++ ce).getD ((fce gs).length + n.toNat + a1.toNat) 0]) = _
      rw [Nat.add_assoc, gd_app, List.append_assoc]
      try rfl
    · rw [d_off (x := []) (s := s) (l := [a1]) (t := 1) (k := 2) (by simp) rfl (tk1 s a1).1 (tk1 s a1).2 (by decide) (by show (if ip a1 z.toNat = true then _ else _) = _; exact if_neg hp)]
      refine ⟨rfl, .inl ?_⟩
      rw [dn_last]
      unfold ix
      rw [if_neg hp]
      rfl
  · -- put
    have h0 : (2 : Int) ≤ st.length := htk
    obtain ⟨s, a1, a2, rfl⟩ : ∃ s a b, st = s ++ [a, b] := ⟨_, _, _, hl2 (by omega)⟩
    have eL : ex ((abs R G).up (frs 0 gs ++ [⟨pr, pl + 1, mk', (fce gs).length⟩]) (fce gs ++ ce) (fst gs ++ (s ++ [a1, a2]))) (frs 0 gs) (fn (lf gs ⟨pr, pl, mk', ce, s ++ [a1, a2]⟩)) ⟨5, n, z⟩ = pt ((abs R G).up (frs 0 gs ++ [⟨pr, pl + 1, mk', (fce gs).length⟩]) (fce gs ++ ce) (fst gs ++ (s ++ [a1, a2]))) (fst gs ++ (s ++ [a1, a2])).dropLast.dropLast ((fst gs ++ (s ++ [a1, a2])).dropLast.getLastD 0) ((fst gs ++ (s ++ [a1, a2])).getLastD 0) ((fce gs).length + n.toNat) z.toNat := rfl
    rw [eL, (dl2 _ _ _ _).1, (dl2 _ _ _ _).2.1, (dl2 _ _ _ _).2.2]
    by_cases hp : ip a1 z.toNat = true
    · rw [d_on (x := []) (s := s) (l := [a1, a2]) (t := 2) (g' := ⟨pr, pl + 1, mk', ce.set (n.toNat + a1.toNat) a2, s⟩) (by simp) rfl (tk2 s a1 a2).1 (tk2 s a1 a2).2 (by show (if ip a1 z.toNat = true then _ else _) = _; exact if_pos hp) rfl]
      refine ⟨rfl, .inl ?_⟩
      rw [up_last]
      unfold pt
      rw [if_pos hp]
      show (abs R G).up _ ((fce gs ++ ce).set ((fce gs).length + n.toNat + a1.toNat) a2) (fst gs ++ s) = _
      rw [Nat.add_assoc, st_app, List.append_nil]
      try rfl
    · rw [d_off (x := []) (s := s) (l := [a1, a2]) (t := 2) (k := 2) (by simp) rfl (tk2 s a1 a2).1 (tk2 s a1 a2).2 (by decide) (by show (if ip a1 z.toNat = true then _ else _) = _; exact if_neg hp)]
      refine ⟨rfl, .inl ?_⟩
      rw [dn_last]
      unfold pt
      rw [if_neg hp]
      rfl
  · -- clear
    rw [d_on (x := []) (s := st) (l := []) (t := 0) (g' := ⟨pr, pl + 1, mk', cl ce n.toNat z.toNat, st⟩) (by simp) rfl z0.1 z0.2 rfl rfl]
    refine ⟨rfl, .inl ?_⟩
    rw [up_last]
    show (abs R G).up _ (cl (fce gs ++ ce) ((fce gs).length + n.toNat) z.toNat) (fst gs ++ st) = _
    rw [cl_app, List.append_nil]
    try rfl
  · -- two numbers
    have t2 : Cd.tk ⟨op, n, z⟩ = 2 := by
      have : op = 7 ∨ op = 8 ∨ op = 9 ∨ op = 10 ∨ op = 11 ∨ op = 12 ∨ op = 13 ∨ op = 14 := by omega
      rcases this with rfl | rfl | rfl | rfl | rfl | rfl | rfl | rfl <;> rfl
    rw [t2] at htk
    obtain ⟨s, a1, a2, rfl⟩ : ∃ s a b, st = s ++ [a, b] := ⟨_, _, _, hl2 (by omega)⟩
    have eL : ex ((abs R G).up (frs 0 gs ++ [⟨pr, pl + 1, mk', (fce gs).length⟩]) (fce gs ++ ce) (fst gs ++ (s ++ [a1, a2]))) (frs 0 gs) (fn (lf gs ⟨pr, pl, mk', ce, s ++ [a1, a2]⟩)) ⟨op, n, z⟩ = jn ((abs R G).up (frs 0 gs ++ [⟨pr, pl + 1, mk', (fce gs).length⟩]) (fce gs ++ ce) ((fst gs ++ (s ++ [a1, a2])).dropLast.dropLast)) op ((fst gs ++ (s ++ [a1, a2])).dropLast.getLastD 0) ((fst gs ++ (s ++ [a1, a2])).getLastD 0) := by
      rw [ex_rk (show (1 ≤ op ∧ op ≤ 16) ∨ op = 25 by omega)]
      unfold rk
      dsimp only
      rw [if_neg (by omega), if_neg (by omega), if_neg (by omega), if_neg (by omega), if_neg (by omega), if_neg (by omega), if_neg (by omega), if_neg (by omega), if_neg (by omega)]
      rfl
    have hres : res ⟨pr, pl + 1, mk', ce, s⟩ ⟨op, n, z⟩ [a1, a2] = (match bt op a1 a2 with | some v => ([v], 0) | none => ([], 1)) := by
      unfold res
      dsimp only
      rw [if_neg (by omega), if_neg (by omega), if_neg (by omega), if_neg (by omega), if_pos ⟨h7, h14⟩]
      rfl
    have hsto : sto ⟨pr, pl + 1, mk', ce, s⟩ ⟨op, n, z⟩ [a1, a2] = ⟨pr, pl + 1, mk', ce, s⟩ := by
      unfold sto
      dsimp only
      rw [if_neg (by omega), if_neg (by omega), if_neg (by omega), if_neg (by omega), if_neg (by omega)]
    rw [eL, (dl2 _ _ _ _).1, (dl2 _ _ _ _).2.1, (dl2 _ _ _ _).2.2]
    cases hb : bt op a1 a2 with
    | some v =>
      rw [hb] at hres
      rw [d_on (x := [v]) (s := s) (l := [a1, a2]) (t := 2) (g' := ⟨pr, pl + 1, mk', ce, s⟩) (by simp; omega) (by rw [t2]; rfl) (tk2 s a1 a2).1 (tk2 s a1 a2).2 hres hsto]
      refine ⟨rfl, .inl ?_⟩
      rw [up_last]
      unfold jn
      rw [hb]
      show (abs R G).up _ _ ((fst gs ++ s) ++ [v]) = _
      rw [List.append_assoc]
      rfl
    | none =>
      rw [hb] at hres
      rw [d_off (x := []) (s := s) (l := [a1, a2]) (t := 2) (k := 1) (by simp; omega) (by rw [t2]; rfl) (tk2 s a1 a2).1 (tk2 s a1 a2).2 (by decide) hres]
      refine ⟨rfl, .inl ?_⟩
      rw [dn_last]
      unfold jn
      rw [hb]
      rfl
  · -- not
    have h0 : (1 : Int) ≤ st.length := htk
    obtain ⟨s, a1, rfl⟩ : ∃ s a, st = s ++ [a] := ⟨_, _, hl1 (by omega)⟩
    rw [d_on (x := [tr (a1 == 0)]) (s := s) (l := [a1]) (t := 1) (g' := ⟨pr, pl + 1, mk', ce, s⟩) (by simp) rfl (tk1 s a1).1 (tk1 s a1).2 rfl rfl]
    refine ⟨rfl, .inl ?_⟩
    rw [up_last]
    show (abs R G).up _ _ ((fst gs ++ (s ++ [a1])).dropLast ++ [tr ((fst gs ++ (s ++ [a1])).getLastD 0 == 0)]) = _
    rw [(dl1 _ _ _).1, (dl1 _ _ _).2, List.append_assoc]
    try rfl
  · -- neg
    have h0 : (1 : Int) ≤ st.length := htk
    obtain ⟨s, a1, rfl⟩ : ∃ s a, st = s ++ [a] := ⟨_, _, hl1 (by omega)⟩
    rw [d_on (x := [wrap64 (-a1)]) (s := s) (l := [a1]) (t := 1) (g' := ⟨pr, pl + 1, mk', ce, s⟩) (by simp) rfl (tk1 s a1).1 (tk1 s a1).2 rfl rfl]
    refine ⟨rfl, .inl ?_⟩
    rw [up_last]
    show (abs R G).up _ _ ((fst gs ++ (s ++ [a1])).dropLast ++ [wrap64 (-((fst gs ++ (s ++ [a1])).getLastD 0))]) = _
    rw [(dl1 _ _ _).1, (dl1 _ _ _).2, List.append_assoc]
    try rfl
  · -- jump
    rw [d_on (x := []) (s := st) (l := []) (t := 0) (g' := ⟨pr, n.toNat, mk', ce, st⟩) (by simp) rfl z0.1 z0.2 rfl rfl]
    refine ⟨rfl, .inl ?_⟩
    rw [up_last]
    show (abs R G).up (frs 0 gs ++ [⟨pr, n.toNat, mk', (fce gs).length⟩]) _ (fst gs ++ st) = _
    rw [List.append_nil]
    try rfl
  · -- zero
    have h0 : (1 : Int) ≤ st.length := htk
    obtain ⟨s, a1, rfl⟩ : ∃ s a, st = s ++ [a] := ⟨_, _, hl1 (by omega)⟩
    have eL : ex ((abs R G).up (frs 0 gs ++ [⟨pr, pl + 1, mk', (fce gs).length⟩]) (fce gs ++ ce) (fst gs ++ (s ++ [a1]))) (frs 0 gs) (fn (lf gs ⟨pr, pl, mk', ce, s ++ [a1]⟩)) ⟨18, n, z⟩ = if (fst gs ++ (s ++ [a1])).getLastD 0 = 0 then (abs R G).up (frs 0 gs ++ [⟨pr, n.toNat, mk', (fce gs).length⟩]) (fce gs ++ ce) (fst gs ++ (s ++ [a1])).dropLast else (abs R G).up (frs 0 gs ++ [⟨pr, pl + 1, mk', (fce gs).length⟩]) (fce gs ++ ce) (fst gs ++ (s ++ [a1])).dropLast := rfl
    rw [eL, (dl1 _ _ _).1, (dl1 _ _ _).2]
    by_cases ha : a1 = 0
    · rw [d_on (x := []) (s := s) (l := [a1]) (t := 1) (g' := ⟨pr, n.toNat, mk', ce, s⟩) (by simp) rfl (tk1 s a1).1 (tk1 s a1).2 rfl (by show (if a1 = 0 then _ else _) = _; exact if_pos ha)]
      refine ⟨rfl, .inl ?_⟩
      rw [up_last, if_pos ha, List.append_nil]
      try rfl
    · rw [d_on (x := []) (s := s) (l := [a1]) (t := 1) (g' := ⟨pr, pl + 1, mk', ce, s⟩) (by simp) rfl (tk1 s a1).1 (tk1 s a1).2 rfl (by show (if a1 = 0 then _ else _) = _; exact if_neg ha)]
      refine ⟨rfl, .inl ?_⟩
      rw [up_last, if_neg ha, List.append_nil]
      try rfl
  · -- call
    have h0 : (z : Int) ≤ st.length := htk
    simp only [Cd.al, Cd.mc] at hal
    simp at hal
    obtain ⟨⟨hn0, hz0⟩, hal⟩ := hal
    have hal : (match R.codes[n.toNat]? with | some d => (z == d.params && decide (d.params ≤ B)) | none => false) = true := hal
    cases hd : R.codes[n.toNat]? with
    | none => rw [hd] at hal; simp at hal
    | some d =>
      obtain ⟨gi, rfl⟩ : ∃ gi : Nat, z = gi := ⟨z.toNat, by omega⟩
      have hgi : gi ≤ st.length := by omega
      have flen : (frs 0 gs ++ [(⟨pr, pl + 1, mk', (fce gs).length⟩ : Fr)]).length = gs.length + 1 := by rw [List.length_append, frs_len]; rfl
      have eL : ex ((abs R G).up (frs 0 gs ++ [⟨pr, pl + 1, mk', (fce gs).length⟩]) (fce gs ++ ce) (fst gs ++ st)) (frs 0 gs) (fn (lf gs ⟨pr, pl, mk', ce, st⟩)) ⟨19, n, (gi : Int)⟩ = if gs.length + 1 = 50 then trp ((abs R G).up (frs 0 gs ++ [⟨pr, pl + 1, mk', (fce gs).length⟩]) (fce gs ++ ce) (fst gs ++ st)) 4 else en ((abs R G).up (frs 0 gs ++ [⟨pr, pl + 1, mk', (fce gs).length⟩]) (fce gs ++ ce) (fst gs ++ st)) n.toNat d.cells.toNat gi := by
        have := ex_call (M := (abs R G).up (frs 0 gs ++ [⟨pr, pl + 1, mk', (fce gs).length⟩]) (fce gs ++ ce) (fst gs ++ st)) (fs := frs 0 gs) (f := fn (lf gs ⟨pr, pl, mk', ce, st⟩)) (p := n.toNat) (gi := gi) (d := d) hd
        rw [Int.toNat_of_nonneg hn0] at this
        rw [this]
        show (if (frs 0 gs ++ [(⟨pr, pl + 1, mk', (fce gs).length⟩ : Fr)]).length = 50 then _ else _) = _
        rw [flen]
      have eR : ron R gs ⟨pr, pl, mk', ce, st⟩ ⟨19, n, (gi : Int)⟩ = if 50 ≤ gs.length + 1 then (rend { R with frames := gs ++ [rf1 ⟨pr, pl, mk', ce, st⟩ gi] } 4 4, false) else (rbeg { R with frames := gs ++ [rf1 ⟨pr, pl, mk', ce, st⟩ gi] } n.toNat d.cells.toNat (rtk ⟨pr, pl, mk', ce, st⟩ gi), false) := by
        show (if 50 ≤ gs.length + 1 then (rend { R with frames := gs ++ [rf1 ⟨pr, pl, mk', ce, st⟩ ((gi : Int)).toNat] } 4 4, false) else (match R.codes[n.toNat]? with | some d => rbeg { R with frames := gs ++ [rf1 ⟨pr, pl, mk', ce, st⟩ ((gi : Int)).toNat] } n.toNat d.cells.toNat (rtk ⟨pr, pl, mk', ce, st⟩ ((gi : Int)).toNat) | none => R, false)) = _
        rw [hd, Int.toNat_natCast]
      rw [eL, eR]
      by_cases hq : gs.length + 1 = 50
      · rw [if_pos hq, if_pos (by omega)]
        refine ⟨rfl, .inr ⟨rfl, rfl, ?_⟩⟩
        rw [dn_last]
        rfl
      · rw [if_neg hq, if_neg (by omega)]
        refine ⟨rfl, .inl ?_⟩
        have ta := tk_app (fst gs) st gi hgi
        have hl : (st.drop (st.length - gi)).length = gi := by rw [List.length_drop]; omega
        show (abs R G).up ((frs 0 gs ++ [⟨pr, pl + 1, mk', (fce gs).length⟩]) ++ [⟨n.toNat, 0, -1, (fce gs ++ ce).length⟩]) ((fce gs ++ ce) ++ ((fst gs ++ st).drop ((fst gs ++ st).length - gi) ++ List.replicate (d.cells.toNat - gi) 0)) ((fst gs ++ st).take ((fst gs ++ st).length - gi)) = abs { R with frames := (gs ++ [rf1 ⟨pr, pl, mk', ce, st⟩ gi]) ++ [⟨n.toNat, 0, -1, st.drop (st.length - gi) ++ List.replicate (d.cells.toNat - (st.drop (st.length - gi)).length) 0, []⟩] } G
        have hfc : fce (gs ++ [rf1 ⟨pr, pl, mk', ce, st⟩ gi]) = fce gs ++ ce := by rw [fce_app, fce_one]; rfl
        have hfs : fst (gs ++ [rf1 ⟨pr, pl, mk', ce, st⟩ gi]) = fst gs ++ st.take (st.length - gi) := by rw [fst_app, fst_one]; rfl
        have hfr : frs 0 (gs ++ [rf1 ⟨pr, pl, mk', ce, st⟩ gi]) = frs 0 gs ++ [⟨pr, pl + 1, mk', (fce gs).length⟩] := by rw [frs_app, Nat.zero_add]; rfl
        rw [up_last, ta.1, ta.2, hl, hfr]
        unfold lf
        rw [hfc, hfs, List.append_nil]
  · -- leave
    simp [Cd.al] at hal
    subst hal
    have hb := A.bare rfl
    have hst : st.length = (Cd.an c).toNat := by
      have e : (st.length : Int) = Cd.an c := hb
      omega
    have hdr : rtk ⟨pr, pl, mk', ce, st⟩ (Cd.an c).toNat = st := by
      show st.drop (st.length - (Cd.an c).toNat) = st
      rw [hst, Nat.sub_self]
      rfl
    have hta : (fce gs ++ ce).take (fce gs).length = fce gs := by simp
    have eL : ex ((abs R G).up (frs 0 gs ++ [⟨pr, pl + 1, mk', (fce gs).length⟩]) (fce gs ++ ce) (fst gs ++ st)) (frs 0 gs) (fn (lf gs ⟨pr, pl, mk', ce, st⟩)) ⟨20, Cd.an c, z⟩ = if frs 0 gs = [] then (abs R G).dn (frs 0 gs) ((fce gs ++ ce).take (fce gs).length) (fst gs ++ st) (R.events ++ [(3, 0)]) else (abs R G).up (frs 0 gs) ((fce gs ++ ce).take (fce gs).length) (fst gs ++ st) := rfl
    have eR : ron R gs ⟨pr, pl, mk', ce, st⟩ ⟨20, Cd.an c, z⟩ = match gs.getLast? with | none => (rend { R with frames := [] } 3 0, false) | some b => ({ R with frames := gs.dropLast ++ [{ b with stack := b.stack ++ rtk ⟨pr, pl, mk', ce, st⟩ (Cd.an c).toNat }] }, false) := rfl
    rw [eL, eR, hta, hdr]
    rcases List.eq_nil_or_concat gs with rfl | ⟨gs', b, e⟩
    · refine ⟨rfl, .inr ⟨rfl, rfl, ?_⟩⟩
      rfl
    · rw [List.concat_eq_append] at e
      subst e
      have hne : ¬ frs 0 (gs' ++ [b]) = [] := by rw [frs_app]; simp
      rw [if_neg hne]
      simp only [List.getLast?_append, List.getLast?_singleton, Option.some_or, List.dropLast_concat]
      refine ⟨trivial, .inl ?_⟩
      rw [up_last, frs_app, fce_app, fst_app, fce_one, fst_one, Nat.zero_add, List.append_assoc]
  · -- print
    have h0 : (1 : Int) ≤ st.length := htk
    obtain ⟨s, a1, rfl⟩ : ∃ s a, st = s ++ [a] := ⟨_, _, hl1 (by omega)⟩
    have eR : ron R gs ⟨pr, pl, mk', ce, s ++ [a1]⟩ ⟨21, n, z⟩ = ({ R with frames := gs ++ [rf1 ⟨pr, pl, mk', ce, s ++ [a1]⟩ 1], events := R.events ++ [(1, (rtk ⟨pr, pl, mk', ce, s ++ [a1]⟩ 1).getD 0 0)] }, false) := rfl
    have e1 : rf1 ⟨pr, pl, mk', ce, s ++ [a1]⟩ 1 = ⟨pr, pl + 1, mk', ce, s⟩ := by unfold rf1; rw [(tk1 s a1).1]
    have e2 : rtk ⟨pr, pl, mk', ce, s ++ [a1]⟩ 1 = [a1] := (tk1 s a1).2
    rw [eR, e1, e2]
    refine ⟨rfl, .inl ?_⟩
    have := ev_last R gs ⟨pr, pl + 1, mk', ce, s⟩ R.read (R.events ++ [(1, a1)]) G
    refine Eq.trans ?_ this.symm
    show { (abs R G).up _ _ ((fst gs ++ (s ++ [a1])).dropLast) with events := R.events ++ [(1, (fst gs ++ (s ++ [a1])).getLastD 0)] } = _
    rw [(dl1 _ _ _).1, (dl1 _ _ _).2]
    rfl
  · -- read
    have eL : ex ((abs R G).up (frs 0 gs ++ [⟨pr, pl + 1, mk', (fce gs).length⟩]) (fce gs ++ ce) (fst gs ++ st)) (frs 0 gs) (fn (lf gs ⟨pr, pl, mk', ce, st⟩)) ⟨22, n, z⟩ = match R.input[R.read]? with | none => (abs R G).dn (frs 0 gs ++ [⟨pr, pl + 1, mk', (fce gs).length⟩]) (fce gs ++ ce) (fst gs ++ st) (R.events ++ [(4, 5)]) | some v => { (abs R G).up (frs 0 gs ++ [⟨pr, pl + 1, mk', (fce gs).length⟩]) (fce gs ++ ce) ((fst gs ++ st) ++ [v]) with events := R.events ++ [(2, v)], read := R.read + 1 } := rfl
    have eR : ron R gs ⟨pr, pl, mk', ce, st⟩ ⟨22, n, z⟩ = match R.input[R.read]? with | none => (rend { R with frames := gs ++ [rf1 ⟨pr, pl, mk', ce, st⟩ 0] } 4 5, false) | some n => ({ R with frames := gs ++ [{ rf1 ⟨pr, pl, mk', ce, st⟩ 0 with stack := (rf1 ⟨pr, pl, mk', ce, st⟩ 0).stack ++ [n] }], events := R.events ++ [(2, n)], read := R.read + 1 }, false) := rfl
    have e1 : rf1 ⟨pr, pl, mk', ce, st⟩ 0 = ⟨pr, pl + 1, mk', ce, st⟩ := by unfold rf1; rw [z0.1]
    rw [eL, eR, e1]
    cases R.input[R.read]? with
    | none =>
      refine ⟨rfl, .inl ?_⟩
      dsimp only
      rw [dn_last]
    | some v =>
      refine ⟨rfl, .inl ?_⟩
      have := ev_last R gs ⟨pr, pl + 1, mk', ce, st ++ [v]⟩ (R.read + 1) (R.events ++ [(2, v)]) G
      refine Eq.trans ?_ this.symm
      dsimp only
      rw [List.append_assoc]
  · -- test
    have h0 : (1 : Int) ≤ st.length := htk
    obtain ⟨s, a1, rfl⟩ : ∃ s a, st = s ++ [a] := ⟨_, _, hl1 (by omega)⟩
    have eL : ex ((abs R G).up (frs 0 gs ++ [⟨pr, pl + 1, mk', (fce gs).length⟩]) (fce gs ++ ce) (fst gs ++ (s ++ [a1]))) (frs 0 gs) (fn (lf gs ⟨pr, pl, mk', ce, s ++ [a1]⟩)) ⟨23, n, z⟩ = if (fst gs ++ (s ++ [a1])).getLastD 0 = 0 then trp ((abs R G).up (frs 0 gs ++ [⟨pr, pl + 1, mk', (fce gs).length⟩]) (fce gs ++ ce) (fst gs ++ (s ++ [a1])).dropLast) 3 else (abs R G).up (frs 0 gs ++ [⟨pr, pl + 1, mk', (fce gs).length⟩]) (fce gs ++ ce) (fst gs ++ (s ++ [a1])).dropLast := rfl
    rw [eL, (dl1 _ _ _).1, (dl1 _ _ _).2]
    by_cases ha : a1 = 0
    · rw [d_off (x := []) (s := s) (l := [a1]) (t := 1) (k := 3) (by simp) rfl (tk1 s a1).1 (tk1 s a1).2 (by decide) (by show (if a1 = 0 then _ else _) = _; exact if_pos ha)]
      refine ⟨rfl, .inl ?_⟩
      rw [dn_last, if_pos ha]
      rfl
    · rw [d_on (x := []) (s := s) (l := [a1]) (t := 1) (g' := ⟨pr, pl + 1, mk', ce, s⟩) (by simp) rfl (tk1 s a1).1 (tk1 s a1).2 (by show (if a1 = 0 then _ else _) = _; exact if_neg ha) rfl]
      refine ⟨rfl, .inl ?_⟩
      rw [up_last, if_neg ha, List.append_nil]
      try rfl
  · -- drop
    have h0 : (1 : Int) ≤ st.length := htk
    obtain ⟨s, a1, rfl⟩ : ∃ s a, st = s ++ [a] := ⟨_, _, hl1 (by omega)⟩
    rw [d_on (x := []) (s := s) (l := [a1]) (t := 1) (g' := ⟨pr, pl + 1, mk', ce, s⟩) (by simp) rfl (tk1 s a1).1 (tk1 s a1).2 rfl rfl]
    refine ⟨rfl, .inl ?_⟩
    rw [up_last]
    show (abs R G).up _ _ ((fst gs ++ (s ++ [a1])).dropLast) = _
    rw [(dl1 _ _ _).1, List.append_nil]
    try rfl
end Go.Proofs.YtkjkiknpgggadaaDoor.Vm

namespace Go.Proofs.YtkjkiknpgggadaaDoor.Vm
open Go.RowKit
set_option linter.unusedVariables false
set_option linter.unusedSimpArgs false

theorem Fs.uniq {B : Int} {l : List Cd.Co} (hfit : ∀ c, c ∈ l → Cd.Fit B l c) {fs : List Fr} {C S : Nat} {a : Int} (h : Fs l fs C S a) : ∀ {C' S' : Nat}, Fs l fs C' S' a → C = C' ∧ S = S' := by
  induction h with
  | nil =>
    intro C' S' h'
    generalize e : ([] : List Fr) = xs at h'
    cases h' with
    | nil => exact ⟨rfl, rfl⟩
    | snoc => simp at e
  | snoc fs f C S h a c r hc hb hr ih =>
    intro C' S' h'
    obtain ⟨c', C0, S0, h2, t⟩ := h'.inv
    have e1 := t.hc
    rw [hc] at e1
    cases e1
    obtain ⟨q1, q2⟩ := ih t.r
    have q3 := (hfit c (List.mem_of_getElem? hc)).eq _ _ _ hr t.hr
    have q4 := t.cC
    have q5 := t.sS
    omega
theorem snoc_rs {B : Int} {l : List Cd.Co} (hfit : ∀ c, c ∈ l → Cd.Fit B l c) {gs : List Rf} {g : Rf} {a a0 : Int} (h : Rs l gs a0) (hf : Fs l (frs 0 (gs ++ [g])) (fce (gs ++ [g])).length (fst (gs ++ [g])).length a) (ha : ∀ c, l[g.proc]? = some c → Cd.an c = a0) : Rs l (gs ++ [g]) a := by
  rw [frs_app, Nat.zero_add] at hf
  obtain ⟨c, C0, S0, h0, t⟩ := hf.inv
  have e0 := ha c t.hc
  subst e0
  obtain ⟨q1, q2⟩ := h.fs.uniq hfit t.r
  have q3 := t.cC
  have q4 := t.sS
  rw [fce_app, fce_one, List.length_append] at q3
  rw [fst_app, fst_one, List.length_append] at q4
  have s := (hfit c (List.mem_of_getElem? t.hc)).sz
  unfold Cd.sz at s
  simp at s
  refine .snoc gs g a c h t.hc (by omega) ?_
  have e : (g.stack.length : Int) = h0 := by omega
  rw [e]
  exact t.hr
theorem rw_last {B : Int} {R : Rm} (w : ∀ G, WF B (abs R G)) {gs : List Rf} {g : Rf} {a0 : Int} (hf : R.frames = gs ++ [g]) (h : Rs R.codes gs a0) (ha : ∀ c, R.codes[g.proc]? = some c → Cd.an c = a0) : RW B R := by
  refine ⟨w, ?_⟩
  have w0 := w ⟨default, fun _ => False, 0⟩
  rw [hf]
  refine snoc_rs (B := B) w0.fit h ?_ ha
  have := w0.fs
  rw [show (abs R ⟨default, fun _ => False, 0⟩).frames = frs 0 R.frames from rfl, show (abs R ⟨default, fun _ => False, 0⟩).cells = fce R.frames from rfl, show (abs R ⟨default, fun _ => False, 0⟩).stack = fst R.frames from rfl, hf] at this
  exact this
theorem RA.same {B : Int} {R : Rm} {gs : List Rf} {g : Rf} {c : Cd.Co} {i : Cd.In} (a : RA B R gs g c i) {l : List Cd.Co} (hl : l = R.codes) {p : Nat} (hp : p = g.proc) : ∀ c', l[p]? = some c' → Cd.an c' = Cd.an c := fun c' h => by
  rw [hl, hp, a.hc] at h
  cases h
  rfl
theorem sto_proc (f : Rf) (i : Cd.In) (l : List Int) : (sto f i l).proc = f.proc := by
  unfold sto
  split
  · rfl
  · split
    · rfl
    · split
      · rfl
      · split
        · rfl
        · split
          · split <;> rfl
          · rfl
theorem Eqv.run {M N : Mc} (h : Eqv M N) : M.run = N.run := by
  rcases h with h | ⟨h1, h2, _⟩
  · rw [h]
  · rw [h1, h2]
theorem Eqv.eq {M N : Mc} (h : Eqv M N) (hr : N.run = true) : M = N := by
  rcases h with h | ⟨_, h2, _⟩
  · exact h
  · rw [h2] at hr
    cases hr
theorem ron_rw {B : Int} {R : Rm} (w : RW B R) (hr : R.ended = false) {gs : List Rf} {g : Rf} {c : Cd.Co} {i : Cd.In} (a : RA B R gs g c i) (h24 : i.op ≠ 24) (he : (ron R gs g i).1.ended = false) : RW B (ron R gs g i).1 := by
  have h50 : gs.length + 1 ≤ 50 := by
    have := (w.wf ⟨default, fun _ => False, 0⟩).f50
    rw [show (abs R ⟨default, fun _ => False, 0⟩).frames = frs 0 R.frames from rfl, frs_len, a.hf, List.length_append] at this
    exact this
  have wn : ∀ G, WF B (abs (ron R gs g i).1 G) := fun G => by
    obtain ⟨C0, S0, A⟩ := a.at_ G
    have e := (ron_abs a hr h24 h50 G).2
    have hrun : (abs (ron R gs g i).1 G).run = true := by show (!(ron R gs g i).1.ended) = true; rw [he]; rfl
    have x := ex_ok (w.wf G) (by show (!R.ended) = true; rw [hr]; rfl) A h24
    rw [← e.eq hrun]
    exact x.2 (by rw [e.run]; exact hrun)
  obtain ⟨op, n, z⟩ := i
  have ho := (a.at_ ⟨default, fun _ => False, 0⟩).choose_spec.choose_spec.ops
  have hal := (a.at_ ⟨default, fun _ => False, 0⟩).choose_spec.choose_spec.al
  dsimp only at ho h24
  by_cases h19 : op = 19
  · subst h19
    simp only [Cd.al, Cd.mc] at hal
    simp at hal
    have hal2 : (match R.codes[n.toNat]? with | some d => (z == d.params && decide (d.params ≤ B)) | none => false) = true := hal.2
    cases hd : R.codes[n.toNat]? with
    | none => rw [hd] at hal2; simp at hal2
    | some d =>
      have eR : ron R gs g ⟨19, n, z⟩ = if 50 ≤ gs.length + 1 then (rend { R with frames := gs ++ [rf1 g z.toNat] } 4 4, false) else (rbeg { R with frames := gs ++ [rf1 g z.toNat] } n.toNat d.cells.toNat (rtk g z.toNat), false) := by
        show (if 50 ≤ gs.length + 1 then (rend { R with frames := gs ++ [rf1 g z.toNat] } 4 4, false) else (match R.codes[n.toNat]? with | some d => rbeg { R with frames := gs ++ [rf1 g z.toNat] } n.toNat d.cells.toNat (rtk g z.toNat) | none => R, false)) = _
        rw [hd]
      rw [eR] at wn he ⊢
      by_cases hq : 50 ≤ gs.length + 1
      · rw [if_pos hq] at he
        cases he
      · rw [if_neg hq] at wn ⊢
        have w0 := wn ⟨default, fun _ => False, 0⟩
        have fs := w0.fs
        obtain ⟨new, hnew⟩ : ∃ new : Rf, new = ⟨n.toNat, 0, -1, rtk g z.toNat ++ List.replicate (d.cells.toNat - (rtk g z.toNat).length) 0, []⟩ := ⟨_, rfl⟩
        have hfr : (rbeg { R with frames := gs ++ [rf1 g z.toNat] } n.toNat d.cells.toNat (rtk g z.toNat)).frames = (gs ++ [rf1 g z.toNat]) ++ [new] := by rw [hnew]; rfl
        have fs' : Fs R.codes (frs 0 ((gs ++ [rf1 g z.toNat]) ++ [new])) (fce ((gs ++ [rf1 g z.toNat]) ++ [new])).length (fst ((gs ++ [rf1 g z.toNat]) ++ [new])).length 0 := by rw [← hfr]; exact fs
        have fs2 := fs'
        rw [frs_app, Nat.zero_add] at fs2
        obtain ⟨c', C0, S0, h0, t⟩ := fs2.inv
        have hcd : c' = d := by
          have := t.hc
          rw [hnew] at this
          exact Option.some.inj (this.symm.trans hd)
        subst hcd
        have hz : (h0 : Int) + 0 = 0 := by
          have := t.hr
          rw [hnew] at this
          exact (w0.fit c' (List.mem_of_getElem? hd)).eq _ _ _ this .zero
        have hS : S0 = (fst (gs ++ [rf1 g z.toNat])).length := by
          have := t.sS
          rw [fst_app, fst_one, List.length_append, hnew] at this
          simp at this
          omega
        have hC : C0 = (fce (gs ++ [rf1 g z.toNat])).length := t.hb.symm
        have r1 := t.r
        rw [hC, hS] at r1
        have rs1 := snoc_rs (B := B) w0.fit a.r r1 (a.same rfl rfl)
        refine rw_last wn hfr rs1 (fun c2 h2 => ?_)
        rw [hnew] at h2
        have : R.codes[n.toNat]? = some c2 := h2
        rw [hd] at this
        cases this
        rfl
  · by_cases h20 : op = 20
    · subst h20
      have eR : ron R gs g ⟨20, n, z⟩ = match gs.getLast? with | none => (rend { R with frames := [] } 3 0, false) | some b => ({ R with frames := gs.dropLast ++ [{ b with stack := b.stack ++ rtk g n.toNat }] }, false) := rfl
      rw [eR] at wn he ⊢
      rcases List.eq_nil_or_concat gs with e | ⟨gs', b, e⟩
      · subst e
        cases he
      · rw [List.concat_eq_append] at e
        have r := a.r
        subst e
        simp only [List.getLast?_append, List.getLast?_singleton, Option.some_or, List.dropLast_concat] at wn he ⊢
        obtain ⟨cb, r1, r2, _, _⟩ := r.inv
        exact rw_last wn rfl r1 (fun c2 h2 => by
          have : R.codes[b.proc]? = some c2 := h2
          rw [r2] at this
          cases this
          rfl)
    · by_cases h21 : op = 21
      · subst h21
        exact rw_last wn rfl a.r (a.same rfl rfl)
      · by_cases h22 : op = 22
        · subst h22
          have eR : ron R gs g ⟨22, n, z⟩ = match R.input[R.read]? with | none => (rend { R with frames := gs ++ [rf1 g 0] } 4 5, false) | some n => ({ R with frames := gs ++ [{ rf1 g 0 with stack := (rf1 g 0).stack ++ [n] }], events := R.events ++ [(2, n)], read := R.read + 1 }, false) := rfl
          rw [eR] at wn he ⊢
          cases hq : R.input[R.read]? with
          | none => rw [hq] at he; cases he
          | some v =>
            rw [hq] at wn
            exact rw_last wn rfl a.r (a.same rfl rfl)
        · have eR := dflt (R := R) (gs := gs) (g := g) (i := ⟨op, n, z⟩) ⟨h24, h19, h20, h21, h22⟩
          rw [eR] at wn he ⊢
          split at he
          · rename_i h0
            rw [if_pos h0] at wn ⊢
            refine rw_last wn rfl a.r (a.same rfl ?_)
            exact sto_proc _ _ _
          · cases he
end Go.Proofs.YtkjkiknpgggadaaDoor.Vm

namespace Go.Proofs.YtkjkiknpgggadaaDoor.Vm
open Go.RowKit
set_option linter.unusedVariables false
set_option linter.unusedSimpArgs false

def Rm.rn (R : Rm) (k : Int) : Rm := { R with ran := k }
theorem RW.rn {B : Int} {R : Rm} (w : RW B R) (k : Int) : RW B (R.rn k) := ⟨w.wf, w.rs⟩
def rgo : Nat → Int → Rm → Rm × Bool
  | 0, _, R => (R, false)
  | k + 1, n, R => if R.ended then (R, false) else match rit R with
    | none => (R, false)
    | some (gs, g, i) => if (ron (R.rn (n + 1)) gs g i).2 then ron (R.rn (n + 1)) gs g i else rgo k (n + 1) (ron (R.rn (n + 1)) gs g i).1
def rstep (R : Rm) : Rm × Bool := if (rgo 1048576 0 R).2 then rgo 1048576 0 R else if (rgo 1048576 0 R).1.ended then rgo 1048576 0 R else (rend (rgo 1048576 0 R).1 5 0, false)
theorem rgo_ended : ∀ (k : Nat) (n : Int) (R : Rm), R.ended = true → rgo k n R = (R, false)
  | 0, n, R, h => rfl
  | k + 1, n, R, h => by rw [rgo, h]; rfl
theorem ron_mark {B : Int} {R : Rm} (w : RW B R) {gs : List Rf} {g : Rf} {c : Cd.Co} {i : Cd.In} (a : RA B R gs g c i) (h24 : i.op = 24) (G : Gh) : (0 < R.fuel ∧ (ron R gs g i).2 = true ∧ (ron R gs g i).1.ended = R.ended ∧ (ron R gs g i).1.ticks = R.ticks + 1 ∧ abs (ron R gs g i).1 G = mk (nx (abs R G) (frs 0 gs) (lf gs g)) (frs 0 gs) (fn (lf gs g)) i ∧ ∃ g', (ron R gs g i).1.frames = gs ++ [g'] ∧ g'.proc = g.proc ∧ (ron R gs g i).1.codes = R.codes) ∨ (¬ 0 < R.fuel ∧ (ron R gs g i).2 = false ∧ (ron R gs g i).1.ended = true ∧ abs (ron R gs g i).1 G = { nx (abs R G) (frs 0 gs) (lf gs g) with events := R.events ++ [(5, 0)], run := false }) := by
  have hfu := (w.wf G).fu
  have hfu' : 0 ≤ R.fuel := hfu
  have e1 : rf1 g 0 = { g with place := g.place + 1 } := by unfold rf1; simp
  have hab := abs_of a.hf G
  unfold ron
  rw [if_pos h24, e1]
  by_cases hf : R.fuel = 0
  · right
    rw [if_pos hf]
    refine ⟨by omega, rfl, rfl, ?_⟩
    rw [dn_last]
    show _ = { (abs R G).up (frs 0 gs ++ [⟨g.proc, g.place + 1, g.mark, (fce gs).length⟩]) (abs R G).cells (abs R G).stack with events := R.events ++ [(5, 0)], run := false }
    have c1 : (abs R G).cells = fce gs ++ g.cells := by rw [hab]
    have c2 : (abs R G).stack = fst gs ++ g.stack := by rw [hab]
    rw [c1, c2]
    rfl
  · left
    rw [if_neg hf]
    refine ⟨by omega, rfl, rfl, rfl, ?_, _, rfl, rfl, rfl⟩
    have c1 : (abs R G).cells = fce gs ++ g.cells := by rw [hab]
    have c2 : (abs R G).stack = fst gs ++ g.stack := by rw [hab]
    show { abs { R with frames := gs ++ [{ g with place := g.place + 1, mark := i.n }] } G with fuel := R.fuel - 1, ticks := R.ticks + 1, t0 := i.m, t1 := (g.proc : Int), t2 := i.n, t3 := (gs.length : Int) + 1 } = { (abs R G).up (frs 0 gs ++ [⟨g.proc, g.place + 1, i.n, (fce gs).length⟩]) (abs R G).cells (abs R G).stack with fuel := R.fuel - 1, ticks := R.ticks + 1, t0 := i.m, t1 := (g.proc : Int), t2 := i.n, t3 := ((frs 0 gs).length : Int) + 1 }
    rw [up_last, frs_len, c1, c2]
inductive RgQ (B : Int) (R : Rm) (G : Gh) (q : Rm × Bool) (N : Mc) : Prop
  | tick (h1 : q.2 = true) (h2 : q.1.ended = false) (h3 : N = abs q.1 G) (h4 : q.1.ticks = R.ticks + 1) (h5 : RW B q.1)
  | none (h1 : q.2 = false) (h2 : q.1.ended = false) (h3 : N = abs q.1 G) (h4 : q.1.ticks = R.ticks) (h5 : RW B q.1)
  | fuel (h1 : q.2 = false) (h2 : q.1.ended = true) (h3 : N.run = true) (h4 : N.ticks = R.ticks) (h5 : abs q.1 G = { N with events := N.events ++ [(5, 0)], run := false })
  | ends (h1 : q.2 = false) (h2 : q.1.ended = true) (h3 : N.run = false) (h4 : N.ticks = R.ticks) (h5 : Eqv N (abs q.1 G))
theorem rgo_abs {B : Int} : ∀ (k : Nat) (n : Int) (R : Rm), RW B R → R.ended = false → ∀ G, RgQ B R G (rgo k n R) (go k (abs R G))
  | 0, n, R, w, hr, G => .none rfl hr rfl rfl w
  | k + 1, n, R, w, hr, G => by
    have w1 := w.rn (n + 1)
    obtain ⟨gs, g, c, i, a⟩ := w1.at
    obtain ⟨C0, S0, A⟩ := a.at_ G
    have hrun : (abs R G).run = true := by show (!R.ended) = true; rw [hr]; rfl
    have eL : go (k + 1) (abs R G) = if i.op = 24 then (if 0 < R.fuel then mk (nx (abs R G) (frs 0 gs) (lf gs g)) (frs 0 gs) (fn (lf gs g)) i else nx (abs R G) (frs 0 gs) (lf gs g)) else if (ex (nx (abs R G) (frs 0 gs) (lf gs g)) (frs 0 gs) (fn (lf gs g)) i).run then go k (ex (nx (abs R G) (frs 0 gs) (lf gs g)) (frs 0 gs) (fn (lf gs g)) i) else ex (nx (abs R G) (frs 0 gs) (lf gs g)) (frs 0 gs) (fn (lf gs g)) i := go_succ A k
    have eR : rgo (k + 1) n R = if (ron (R.rn (n + 1)) gs g i).2 then ron (R.rn (n + 1)) gs g i else rgo k (n + 1) (ron (R.rn (n + 1)) gs g i).1 := by
      rw [rgo, if_neg (by rw [hr]; simp), show rit R = some (gs, g, i) from rit_of (R := R) a.hf a.hc a.hi]
    rw [eL, eR]
    by_cases h24 : i.op = 24
    · rw [if_pos h24]
      rcases ron_mark w1 a h24 G with ⟨m1, m2, m3, m4, m5, g', m6, m7, m8⟩ | ⟨m1, m2, m3, m4⟩
      · have m1' : 0 < R.fuel := m1
        rw [if_pos m1', if_pos m2]
        have hen : (ron (R.rn (n + 1)) gs g i).1.ended = false := m3.trans hr
        refine .tick m2 hen m5.symm m4 ?_
        refine rw_last (fun G' => ?_) m6 (by rw [m8]; exact a.r) (a.same m8 m7)
        obtain ⟨C1, S1, A1⟩ := a.at_ G'
        have gd := mk_gd (w1.wf G') hrun A1 h24 0
        rcases ron_mark w1 a h24 G' with ⟨q1, _, _, _, q5, _⟩ | ⟨q1, _⟩
        · have q1' : 0 < (abs (R.rn (n + 1)) G').fuel := m1
          rw [if_pos q1', ← q5] at gd
          exact gd.wf (by show (!(ron (R.rn (n + 1)) gs g i).1.ended) = true; rw [hen]; rfl)
        · exact absurd m1 q1
      · have m1' : ¬ 0 < R.fuel := m1
        rw [if_neg m1', m2]
        simp only [Bool.false_eq_true, if_false]
        rw [rgo_ended k _ _ m3]
        exact .fuel rfl m3 hrun rfl m4
    · rw [if_neg h24]
      have h50 : gs.length + 1 ≤ 50 := by
        have := (w1.wf G).f50
        rw [show (abs (R.rn (n + 1)) G).frames = frs 0 (R.rn (n + 1)).frames from rfl, frs_len, a.hf, List.length_append] at this
        exact this
      obtain ⟨x1, x2⟩ := ron_abs a hr h24 h50 G
      have xk := (ex_ok (w1.wf G) hrun A h24).1
      rw [x1]
      simp only [Bool.false_eq_true, if_false]
      have x2' : Eqv (ex (nx (abs R G) (frs 0 gs) (lf gs g)) (frs 0 gs) (fn (lf gs g)) i) (abs (ron (R.rn (n + 1)) gs g i).1 G) := x2
      have xt : (ex (nx (abs R G) (frs 0 gs) (lf gs g)) (frs 0 gs) (fn (lf gs g)) i).ticks = R.ticks := xk.ti
      cases he : (ron (R.rn (n + 1)) gs g i).1.ended with
      | true =>
        have hN : (ex (nx (abs R G) (frs 0 gs) (lf gs g)) (frs 0 gs) (fn (lf gs g)) i).run = false := by
          rw [x2'.run]
          show (!(ron (R.rn (n + 1)) gs g i).1.ended) = false
          rw [he]
          rfl
        rw [hN]
        simp only [Bool.false_eq_true, if_false]
        rw [rgo_ended k _ _ he]
        exact .ends rfl he hN xt x2'
      | false =>
        have hN : (abs (ron (R.rn (n + 1)) gs g i).1 G).run = true := by
          show (!(ron (R.rn (n + 1)) gs g i).1.ended) = true
          rw [he]
          rfl
        have e := x2'.eq hN
        rw [e] at xt ⊢
        rw [hN]
        simp only [if_true]
        have wn := ron_rw w1 hr a h24 he
        have ih := rgo_abs k (n + 1) (ron (R.rn (n + 1)) gs g i).1 wn he G
        have xt' : (ron (R.rn (n + 1)) gs g i).1.ticks = R.ticks := xt
        cases ih with
        | tick h1 h2 h3 h4 h5 => exact .tick h1 h2 h3 (by rw [h4, xt']) h5
        | none h1 h2 h3 h4 h5 => exact .none h1 h2 h3 (by rw [h4, xt']) h5
        | fuel h1 h2 h3 h4 h5 => exact .fuel h1 h2 h3 (by rw [h4, xt']) h5
        | ends h1 h2 h3 h4 h5 => exact .ends h1 h2 h3 (by rw [h4, xt']) h5
theorem rstep_abs {B : Int} {R : Rm} (w : RW B R) (hr : R.ended = false) (G : Gh) : (rstep R).2 = ticked (abs R G) ∧ Eqv (step (abs R G)) (abs (rstep R).1 G) ∧ ((rstep R).1.ended = false → RW B (rstep R).1) := by
  have hrun : (abs R G).run = true := by show (!R.ended) = true; rw [hr]; rfl
  have q := rgo_abs 1048576 0 R w hr G
  have et : (abs R G).ticks = R.ticks := rfl
  have es : step (abs R G) = fin R.ticks (go 1048576 (abs R G)) := by unfold step; rw [if_pos hrun]; rfl
  have ek : ticked (abs R G) = decide ((go 1048576 (abs R G)).ticks > R.ticks) := by unfold ticked; rw [hrun]; rfl
  rw [es, ek]
  unfold rstep
  generalize rgo 1048576 0 R = z at q ⊢
  generalize go 1048576 (abs R G) = N at q ⊢
  cases q with
  | tick h1 h2 h3 h4 h5 =>
    have e : N.ticks = R.ticks + 1 := by rw [h3]; exact h4
    rw [if_pos h1]
    refine ⟨by rw [h1]; exact (decide_eq_true (by omega)).symm, .inl ?_, fun _ => h5⟩
    unfold fin
    rw [if_neg (fun h => h.2 (by omega))]
    exact h3
  | none h1 h2 h3 h4 h5 =>
    have e : N.ticks = R.ticks := by rw [h3]; exact h4
    have er : N.run = true := by rw [h3]; show (!z.1.ended) = true; rw [h2]; rfl
    rw [if_neg (by rw [h1]; simp), if_neg (by rw [h2]; simp)]
    refine ⟨(decide_eq_false (by omega)).symm, .inl ?_, fun h => by cases h⟩
    unfold fin
    rw [if_pos ⟨er, by omega⟩, h3]
    rfl
  | fuel h1 h2 h3 h4 h5 =>
    rw [if_neg (by rw [h1]; simp), if_pos h2]
    refine ⟨by rw [h1]; exact (decide_eq_false (by omega)).symm, .inl ?_, fun h => by rw [h2] at h; cases h⟩
    unfold fin
    rw [if_pos ⟨h3, by omega⟩, h5]
  | ends h1 h2 h3 h4 h5 =>
    rw [if_neg (by rw [h1]; simp), if_pos h2]
    refine ⟨by rw [h1]; exact (decide_eq_false (by omega)).symm, ?_, fun h => by rw [h2] at h; cases h⟩
    unfold fin
    rw [if_neg (fun h => by rw [h3] at h; cases h.1)]
    exact h5
end Go.Proofs.YtkjkiknpgggadaaDoor.Vm

namespace Go.Proofs.YtkjkiknpgggadaaDoor.Vm
open Go.RowKit
set_option linter.unusedVariables false
set_option linter.unusedSimpArgs false

def A6 (l : List Int) : Prop := ∀ x ∈ l, Cd.I6 x
theorem i6_zero : Cd.I6 0 := ⟨by omega, by omega⟩
theorem i6_wrap (a : Int) : Cd.I6 (wrap64 a) := by unfold Cd.I6 wrap64; omega
theorem i6_tr (b : Bool) : Cd.I6 (tr b) := by cases b <;> (unfold Cd.I6 tr; simp)
theorem A6.nil : A6 [] := fun x hx => by cases hx
theorem A6.one {a : Int} (h : Cd.I6 a) : A6 [a] := fun x hx => by rw [List.mem_singleton.1 hx]; exact h
theorem A6.app {a b : List Int} (h : A6 a) (k : A6 b) : A6 (a ++ b) := fun x hx => by
  rcases List.mem_append.1 hx with h1 | h1
  · exact h x h1
  · exact k x h1
theorem A6.take {a : List Int} (h : A6 a) (n : Nat) : A6 (a.take n) := fun x hx => h x (List.mem_of_mem_take hx)
theorem A6.drop {a : List Int} (h : A6 a) (n : Nat) : A6 (a.drop n) := fun x hx => h x (List.mem_of_mem_drop hx)
theorem A6.getD {a : List Int} (h : A6 a) (n : Nat) : Cd.I6 (a.getD n 0) := by
  rw [List.getD_eq_getElem?_getD]
  cases e : a[n]? with
  | none => exact i6_zero
  | some x => exact h x (List.mem_of_getElem? e)
theorem A6.set {a : List Int} (h : A6 a) (n : Nat) {v : Int} (hv : Cd.I6 v) : A6 (a.set n v) := fun x hx => by
  rcases List.mem_or_eq_of_mem_set hx with h1 | h1
  · exact h x h1
  · rw [h1]; exact hv
theorem A6.rep (n : Nat) : A6 (List.replicate n 0) := fun x hx => by rw [(List.mem_replicate.1 hx).2]; exact i6_zero
theorem A6.cl : ∀ (z : Nat) {a : List Int} (h : A6 a) (n : Nat), A6 (cl a n z)
  | 0, a, h, n => h
  | z + 1, a, h, n => by
    rw [Vm.cl]
    exact A6.cl z (h.set n i6_zero) _
theorem i6_bt {op a b v : Int} (ha : Cd.I6 a) (hb : Cd.I6 b) (h : bt op a b = some v) : Cd.I6 v := by
  have hq : ∀ x y : Int, Cd.I6 (Pl.quot x y) := fun x y => i6_wrap _
  have hr : b ≠ 0 → Cd.I6 (Pl.rest a b) := fun h0 => by
    unfold Pl.rest Cd.I6
    have h1 := Int.natAbs_tmod a b
    have h2 := Nat.mod_lt a.natAbs (Int.natAbs_pos.2 h0)
    have h3 : a.natAbs % b.natAbs ≤ a.natAbs := Nat.mod_le _ _
    unfold Cd.I6 at ha hb
    omega
  unfold bt at h
  split at h
  · cases h; exact i6_wrap _
  · split at h
    · cases h; exact i6_wrap _
    · split at h
      · cases h; exact i6_wrap _
      · split at h
        · split at h
          · cases h
          · cases h; exact hq _ _
        · split at h
          · split at h
            · cases h
            · rename_i h0
              cases h; exact hr h0
          · split at h
            · cases h; exact i6_tr _
            · split at h
              · cases h; exact i6_tr _
              · cases h; exact i6_tr _
theorem A6.res {f : Rf} {i : Cd.In} {l : List Int} (hc : A6 f.cells) (hl : A6 l) (hi : Cd.I6 i.n) : A6 (res f i l).1 := by
  unfold Vm.res
  split
  · exact A6.one hi
  · split
    · exact A6.one (hc.getD _)
    · split
      · split
        · exact A6.one (hc.getD _)
        · exact A6.nil
      · split
        · split <;> exact A6.nil
        · split
          · split
            · rename_i v e
              exact A6.one (i6_bt (hl.getD 0) (hl.getD 1) e)
            · exact A6.nil
          · split
            · exact A6.one (i6_tr _)
            · split
              · exact A6.one (i6_wrap _)
              · split
                · split <;> exact A6.nil
                · exact A6.nil
theorem A6.sto {f : Rf} {i : Cd.In} {l : List Int} (hc : A6 f.cells) (hl : A6 l) : A6 (sto f i l).cells ∧ (sto f i l).stack = f.stack := by
  unfold Vm.sto
  split
  · exact ⟨hc.set _ (hl.getD 0), rfl⟩
  · split
    · exact ⟨hc.set _ (hl.getD 1), rfl⟩
    · split
      · exact ⟨A6.cl _ hc _, rfl⟩
      · split
        · exact ⟨hc, rfl⟩
        · split
          · split
            · exact ⟨hc, rfl⟩
            · exact ⟨hc, rfl⟩
          · exact ⟨hc, rfl⟩
structure RB (R : Rm) : Prop where
  co : ∀ d ∈ R.codes, d.Ok
  inp : A6 R.input
  fr : ∀ f ∈ R.frames, A6 f.cells ∧ A6 f.stack
theorem RB.rn {R : Rm} (h : RB R) (k : Int) : RB (R.rn k) := ⟨h.co, h.inp, h.fr⟩
theorem RB.last {R : Rm} (h : RB R) {gs : List Rf} {g g' : Rf} (hf : R.frames = gs ++ [g]) (hg : A6 g.cells → A6 g.stack → A6 g'.cells ∧ A6 g'.stack) : ∀ f ∈ gs ++ [g'], A6 f.cells ∧ A6 f.stack := fun f hm => by
  have q := h.fr
  rw [hf] at q
  rcases List.mem_append.1 hm with h1 | h1
  · exact q f (List.mem_append.2 (.inl h1))
  · rw [List.mem_singleton.1 h1]
    obtain ⟨a, b⟩ := q g (by simp)
    exact hg a b
theorem ron_rb {B : Int} {R : Rm} {gs : List Rf} {g : Rf} {c : Cd.Co} {i : Cd.In} (h : RB R) (a : RA B R gs g c i) : RB (ron R gs g i).1 := by
  have hin : i.Ok := (h.co c (List.mem_of_getElem? a.hc)).1 i (List.mem_of_getElem? a.hi)
  have lg : ∀ t, ∀ f ∈ gs ++ [rf1 g t], A6 f.cells ∧ A6 f.stack := fun t => h.last a.hf (fun h1 h2 => ⟨h1, h2.take _⟩)
  obtain ⟨gc, gst⟩ := h.fr g (by rw [a.hf]; simp)
  have lr : ∀ t, A6 (rtk g t) := fun t => gst.drop _
  unfold ron
  split
  · split
    · exact ⟨h.co, h.inp, lg 0⟩
    · exact ⟨h.co, h.inp, h.last a.hf (fun h1 h2 => ⟨h1, h2.take _⟩)⟩
  · split
    · split
      · exact ⟨h.co, h.inp, lg _⟩
      · split
        · refine ⟨h.co, h.inp, fun f hm => ?_⟩
          rcases List.mem_append.1 hm with h1 | h1
          · exact lg _ f h1
          · rw [List.mem_singleton.1 h1]
            exact ⟨(lr _).app (A6.rep _), A6.nil⟩
        · exact h
    · split
      · split
        · exact ⟨h.co, h.inp, fun f hm => by cases hm⟩
        · rename_i b hb
          have hgs : ∀ f ∈ gs, A6 f.cells ∧ A6 f.stack := fun f hm => h.fr f (by rw [a.hf]; exact List.mem_append.2 (.inl hm))
          refine ⟨h.co, h.inp, fun f hm => ?_⟩
          rcases List.mem_append.1 hm with h1 | h1
          · exact hgs f ((List.dropLast_sublist gs).subset h1)
          · rw [List.mem_singleton.1 h1]
            obtain ⟨x, y⟩ := hgs b (List.mem_of_getLast? hb)
            exact ⟨x, y.app (lr _)⟩
      · split
        · exact ⟨h.co, h.inp, lg _⟩
        · split
          · split
            · exact ⟨h.co, h.inp, lg 0⟩
            · rename_i n hn
              exact ⟨h.co, h.inp, h.last a.hf (fun h1 h2 => ⟨h1, (h2.take _).app (A6.one (h.inp n (List.mem_of_getElem? hn)))⟩)⟩
          · split
            · refine ⟨h.co, h.inp, h.last a.hf (fun h1 h2 => ⟨(A6.sto (f := rf1 g (Cd.tk i).toNat) h1 (lr _)).1, (h2.take _).app (A6.res (f := rf1 g (Cd.tk i).toNat) h1 (lr _) hin.2.1)⟩)⟩
            · exact ⟨h.co, h.inp, lg _⟩
theorem rgo_rb {B : Int} : ∀ (k : Nat) (n : Int) (R : Rm), RW B R → R.ended = false → RB R → RB (rgo k n R).1
  | 0, n, R, w, hr, hb => hb
  | k + 1, n, R, w, hr, hb => by
    have w1 := w.rn (n + 1)
    obtain ⟨gs, g, c, i, a⟩ := w1.at
    have eR : rgo (k + 1) n R = if (ron (R.rn (n + 1)) gs g i).2 then ron (R.rn (n + 1)) gs g i else rgo k (n + 1) (ron (R.rn (n + 1)) gs g i).1 := by
      rw [rgo, if_neg (by rw [hr]; simp), show rit R = some (gs, g, i) from rit_of (R := R) a.hf a.hc a.hi]
    have b1 := ron_rb (hb.rn (n + 1)) a
    rw [eR]
    cases ht : (ron (R.rn (n + 1)) gs g i).2 with
    | true =>
      simp only [if_true]
      exact b1
    | false =>
      simp only [Bool.false_eq_true, if_false]
      cases he : (ron (R.rn (n + 1)) gs g i).1.ended with
      | true =>
        rw [rgo_ended k _ _ he]
        exact b1
      | false =>
        by_cases h24 : i.op = 24
        · rcases ron_mark w1 a h24 ⟨default, fun _ => False, 0⟩ with ⟨_, m2, _⟩ | ⟨_, _, m3, _⟩
          · rw [ht] at m2; cases m2
          · rw [he] at m3; cases m3
        · exact rgo_rb k (n + 1) _ (ron_rw w1 hr a h24 he) he b1
theorem rstep_rb {B : Int} {R : Rm} (w : RW B R) (hr : R.ended = false) (hb : RB R) : RB (rstep R).1 := by
  have q := rgo_rb 1048576 0 R w hr hb
  unfold rstep
  generalize rgo 1048576 0 R = z at q ⊢
  split
  · exact q
  · split
    · exact q
    · exact ⟨q.co, q.inp, q.fr⟩
end Go.Proofs.YtkjkiknpgggadaaDoor.Vm

