/- Layer 9: the machine, plain and in memory; pop, push, tell, end. -/
import Derived.Test.YtodpdnidinnjjaaDoorUVmT
import Derived.Test.YtodpdnidinnjjaaDoorUVmA
import Derived.Test.YtodpdnidinnjjaaDoorUCdMs
import Derived.Deep.RegionHeld3
namespace Go.Proofs.YtodpdnidinnjjaaDoor
open Go.RowKit
set_option linter.unusedVariables false
set_option linter.unusedSimpArgs false

namespace Vm
/-- A procedure that has begun. -/
structure Fr where
  proc : Nat
  place : Nat
  mark : Int
  base : Nat
/-- A machine. -/
structure Mc where
  codes : List Cd.Co
  input : List Int
  read : Nat
  fuel : Int
  ticks : Int
  t0 : Int
  t1 : Int
  t2 : Int
  t3 : Int
  events : List (Int × Int)
  frames : List Fr
  cells : List Int
  stack : List Int
  run : Bool
  g : Gh
def frC (l : List Fr) : List Value := l.flatMap fun f => [.int .i64 f.proc, .int .i64 f.place, .int .i64 f.mark, .int .i64 f.base]
def evC (l : List (Int × Int)) : List Value := l.flatMap fun e => [.int .i64 e.1, .int .i64 e.2]
theorem evC_app (l k : List (Int × Int)) : evC (l ++ k) = evC l ++ evC k := List.flatMap_append
theorem frC_app (l k : List Fr) : frC (l ++ k) = frC l ++ frC k := List.flatMap_append
theorem frC_len (l : List Fr) : (frC l).length = l.length * 4 := by
  induction l with
  | nil => rfl
  | cons a r ih =>
    unfold frC at ih ⊢
    rw [List.flatMap_cons, List.length_append, ih]
    simp only [List.length_cons, List.length_nil]
    omega
end Vm
/-- Where a machine's parts lie. -/
structure VmV where
  ca : Option Addr
  cc : Nat
  ia : Option Addr
  ic : Nat
  ev : Value
  fv : Value
  cv : Value
  sv : Value
abbrev vmB (V : VmV) (M : Vm.Mc) : Obj := .cells #[.slice V.ca M.codes.length V.cc, .slice V.ia M.input.length V.ic, .int .i64 M.read, .int .i64 M.fuel, .int .i64 M.ticks, .int .i64 M.t0, .int .i64 M.t1, .int .i64 M.t2, .int .i64 M.t3, V.ev, V.fv, V.cv, V.sv, .bool M.run] 68 (0, 0)
abbrev evR (V : VmV) (M : Vm.Mc) : Rw := ⟨43, 2, V.ev, M.events.length, Vm.evC M.events⟩
abbrev frR (V : VmV) (M : Vm.Mc) : Rw := ⟨74, 4, V.fv, M.frames.length, Vm.frC M.frames⟩
abbrev ceR (V : VmV) (M : Vm.Mc) : Rw := ⟨2, 1, V.cv, M.cells.length, nC M.cells⟩
abbrev stR (V : VmV) (M : Vm.Mc) : Rw := ⟨2, 1, V.sv, M.stack.length, nC M.stack⟩
/-- The machine in its block m, its rows above, its codes and input below. -/
structure VmS (m : Nat) (w : World) (V : VmV) (M : Vm.Mc) : Prop where
  box : w.heap[m]? = some (vmB V M)
  rows : VmR M.g w (m + 1) (stR V M) (evR V M) (frR V M) (ceR V M)
  co : CoW M.g.lo m w V.ca M.codes
  inp : NuW M.g.lo m w V.ia M.input
theorem VmS.lt {m : Nat} {w : World} {V : VmV} {M : Vm.Mc} (h : VmS m w V M) : m < w.heap.size := (Array.getElem?_eq_some_iff.1 h.box).1
theorem VmS.later {m : Nat} {w w' : World} {V : VmV} {M : Vm.Mc} (h : VmS m w V M) (b : Below w.heap.size w w') : VmS m w' V M :=
  ⟨(b.block m h.lt).trans h.box, h.rows.later b, h.co.later (b.mono (Nat.le_of_lt h.lt)), h.inp.later (b.mono (Nat.le_of_lt h.lt))⟩
theorem VmS.cell {m : Nat} {w : World} {V : VmV} {M : Vm.Mc} (h : VmS m w V M) : w.cell? ⟨m, 0, none⟩ = some (.slice V.ca M.codes.length V.cc) ∧ w.cell? ⟨m, 1, none⟩ = some (.slice V.ia M.input.length V.ic) ∧ w.cell? ⟨m, 2, none⟩ = some (.int .i64 M.read) ∧ w.cell? ⟨m, 3, none⟩ = some (.int .i64 M.fuel) ∧ w.cell? ⟨m, 4, none⟩ = some (.int .i64 M.ticks) ∧ w.cell? ⟨m, 9, none⟩ = some V.ev ∧ w.cell? ⟨m, 10, none⟩ = some V.fv ∧ w.cell? ⟨m, 11, none⟩ = some V.cv ∧ w.cell? ⟨m, 12, none⟩ = some V.sv ∧ w.cell? ⟨m, 13, none⟩ = some (.bool M.run) := by
  have := h.box
  refine ⟨?_, ?_, ?_, ?_, ?_, ?_, ?_, ?_, ?_, ?_⟩ <;> simp [World.cell?, this]
theorem VmS.frozen {m : Nat} {w : World} {V : VmV} {M : Vm.Mc} (h : VmS m w V M) (k : Nat) : w.frozen? ⟨m, k, none⟩ = false := by simp [World.frozen?, h.box]
/-- Below the machine nothing has turned; the machine is the other one. -/
def VmQ (m : Nat) (w w' : World) (M : Vm.Mc) : Prop := Below m w w' ∧ ∃ V, VmS m w' V M
theorem below_set {m k : Nat} {w : World} {u : Value} : Below m w (w.setCell ⟨m, k, none⟩ u) := ⟨rfl, rfl, rfl, by simp, fun j hj => heap_setCell_other _ _ j _ (by simp; omega)⟩
/-- The stack is set anew. -/
theorem VmS.setS {m : Nat} {w w8 : World} {V : VmV} {M : Vm.Mc} (h : VmS m w V M) (b8 : Below (m + 1) w w8) {sv' : Value} {st' : List Int} (r8 : VmR M.g w8 (m + 1) ⟨2, 1, sv', st'.length, nC st'⟩ (evR V M) (frR V M) (ceR V M)) : VmQ m w (w8.setCell ⟨m, 12, none⟩ sv') { M with stack := st' } := by
  have hb : w8.heap[m]? = some (vmB V M) := (b8.block m (by omega)).trans h.box
  have bm : Below m w (w8.setCell ⟨m, 12, none⟩ sv') := (b8.mono (by omega)).trans below_set
  exact ⟨bm, { V with sv := sv' }, ⟨heap_setCell_same _ _ _ _ _ _ hb, r8.below _, h.co.later bm, h.inp.later bm⟩⟩
theorem VmS.setS2 {m : Nat} {w w8 : World} {V : VmV} {M : Vm.Mc} (h : VmS m w V M) (b8 : Below (m + 1) w w8) {sv' : Value} {st' : List Int} (r8 : VmR M.g w8 (m + 1) ⟨2, 1, sv', st'.length, nC st'⟩ (evR V M) (frR V M) (ceR V M)) : Below m w (w8.setCell ⟨m, 12, none⟩ sv') ∧ VmS m (w8.setCell ⟨m, 12, none⟩ sv') { V with sv := sv' } { M with stack := st' } := by
  have hb : w8.heap[m]? = some (vmB V M) := (b8.block m (by omega)).trans h.box
  have bm : Below m w (w8.setCell ⟨m, 12, none⟩ sv') := (b8.mono (by omega)).trans below_set
  exact ⟨bm, ⟨heap_setCell_same _ _ _ _ _ _ hb, r8.below _, h.co.later bm, h.inp.later bm⟩⟩
/-- The machine with another stack, all else where it lay. -/
def VmP (m : Nat) (w w' : World) (V : VmV) (M : Vm.Mc) : Prop := Below m w w' ∧ ∃ sv', VmS m w' { V with sv := sv' } M
theorem VmP.q {m : Nat} {w w' : World} {V : VmV} {M : Vm.Mc} (h : VmP m w w' V M) : VmQ m w w' M := ⟨h.1, _, h.2.choose_spec⟩
/-- The events are. -/
theorem VmS.setE {m : Nat} {w w8 : World} {V : VmV} {M : Vm.Mc} (h : VmS m w V M) (b8 : Below (m + 1) w w8) {ev' : Value} {es' : List (Int × Int)} (r8 : VmR M.g w8 (m + 1) (stR V M) ⟨43, 2, ev', es'.length, Vm.evC es'⟩ (frR V M) (ceR V M)) : VmQ m w (w8.setCell ⟨m, 9, none⟩ ev') { M with events := es' } := by
  have hb : w8.heap[m]? = some (vmB V M) := (b8.block m (by omega)).trans h.box
  have bm : Below m w (w8.setCell ⟨m, 9, none⟩ ev') := (b8.mono (by omega)).trans below_set
  exact ⟨bm, { V with ev := ev' }, ⟨heap_setCell_same _ _ _ _ _ _ hb, r8.below _, h.co.later bm, h.inp.later bm⟩⟩
theorem row_shp {w : World} {base : Nat} {r : Rw} (h : r.Own w base) : ∃ ao c, r.v = .slice ao r.n c := own_shp h
theorem grown_below {G : Gh} {m : Nat} {w X w8 : World} {a b c d : Rw} (h : VmR G w (m + 1) a b c d) (hm : m < w.heap.size) (y : Below w.heap.size w X) (g8 : X.grownBy w8 a.v.ownBlock) : Below (m + 1) w w8 :=
  (y.mono hm).trans ⟨g8.os, g8.tape, g8.output, g8.size, fun k hk => g8.block k (by have := y.size; omega) (fun e => by have := (World.ownsRow.lt h.oa _ e.symm).1; omega)⟩
theorem info64 : (Tryd.prog.info? 2).map (fun i => (i.zero, i.size, i.bytes)) = some (some (.int .i64 0), 1, 8) := by kernel_rfl
theorem infoEv : (Tryd.prog.info? 43).map (fun i => (i.zero, i.size, i.bytes)) = some (some (.agg #[.int .i64 0, .int .i64 0]), 2, 16) := by kernel_rfl
theorem lit_1 (w : World) (v : Value) (t : TypeId) : ∀ (j : Nat) u, [v][j]? = some u → (w.alloc (.cells #[v] t)).cell? ((⟨w.heap.size, 0, none⟩ : Addr).add j) = some u := by
  intro j u hj
  match j, hj with
  | 0, hj => simp at hj; subst hj; simp [Addr.add]
  | n + 1, hj => simp at hj
theorem lit_2 (w : World) (v v' : Value) (t : TypeId) : ∀ (j : Nat) u, [v, v'][j]? = some u → (w.alloc (.cells #[v, v'] t)).cell? ((⟨w.heap.size, 0, none⟩ : Addr).add j) = some u := by
  intro j u hj
  match j, hj with
  | 0, hj => simp at hj; subst hj; simp [Addr.add]
  | 1, hj => simp at hj; subst hj; simp [Addr.add]
  | n + 2, hj => simp at hj
set_option maxRecDepth 100000 in
set_option maxHeartbeats 4000000 in
theorem vmPop3 (m : Nat) (w : World) (V : VmV) (M : Vm.Mc) (s : List Int) (a : Int) (h : VmS m w V M) (hs : M.stack = s ++ [a]) (hb : s.length ≤ 1000000) : Calls Tryd.prog 35 #[.pointer (some ⟨m, 0, none⟩)] w fun e w' => e = .returned (.int .i64 a) ∧ ∃ sv', w' = w.setCell ⟨m, 12, none⟩ sv' ∧ Below m w w' ∧ VmS m w' { V with sv := sv' } { M with stack := s } := by
  have ho := h.rows.oa
  unfold Rw.Own at ho
  dsimp only at ho
  rw [hs, List.length_append, List.length_singleton] at ho
  obtain ⟨g, cap, hv, hcap⟩ : ∃ g cap, V.sv = .slice (some ⟨g, 0, none⟩) (s.length + 1) cap ∧ s.length + 1 ≤ cap := by
    rcases ho.2 with ⟨_, e⟩ | ⟨g, cap, cur, e, _, _, hc, _⟩
    · omega
    · exact ⟨g, cap, e, hc⟩
  rw [hv] at ho
  have hcell : w.cell? ⟨g, s.length, none⟩ = some (.int .i64 a) := by
    have := @World.ownsRow.cells _ _ _ _ _ _ _ ho g rfl s.length (.int .i64 a) (by simp [nC])
    have e : (⟨g, 0, none⟩ : Addr).add s.length = ⟨g, s.length, none⟩ := by unfold Addr.add; split <;> simp_all
    rwa [e] at this
  have e1 : nC (s ++ [a]) = nC s ++ [.int .i64 a] := by simp [nC]
  rw [e1] at ho
  have w2 := ownsRow_pop (n := s.length) (size := 1) (by simp [nC]) ho
  have RR := h.rows.cut (v' := .slice (some ⟨g, 0, none⟩) s.length cap) (n' := s.length) (xs' := nC s) w2 (fun k e => by show V.sv.ownBlock = _; rw [hv]; exact e)
  have FIN : Hid (∃ sv', w.setCell ⟨m, 12, none⟩ (.slice (some ⟨g, 0, none⟩) s.length cap) = w.setCell ⟨m, 12, none⟩ sv' ∧ Below m w (w.setCell ⟨m, 12, none⟩ (.slice (some ⟨g, 0, none⟩) s.length cap)) ∧ VmS m (w.setCell ⟨m, 12, none⟩ (.slice (some ⟨g, 0, none⟩) s.length cap)) { V with sv := sv' } { M with stack := s }) := ⟨_, rfl, (h.setS2 (Below.refl _ _) RR).1, (h.setS2 (Below.refl _ _) RR).2⟩
  have c12 := h.cell.2.2.2.2.2.2.2.2.1
  rw [hv] at c12
  have f12 := h.frozen 12
  have hlt := h.lt
  obtain ⟨n, hn⟩ : ∃ n, n = s.length := ⟨_, rfl⟩
  rw [← hn] at c12 hcell FIN hcap hb
  have e2 : ((n : Int) + 1 - 1) = n := by omega
  have hci : (n : Int) ≤ (cap : Int) := by omega
  clear w2 RR ho h hs hv hn
  go_enter Tryd.func35, Tryd.ntmps35
  go_wp2_with fail
  go_ret
  exact ⟨rfl, FIN.out⟩
theorem vmPop2 (m : Nat) (w : World) (V : VmV) (M : Vm.Mc) (s : List Int) (a : Int) (h : VmS m w V M) (hs : M.stack = s ++ [a]) (hb : s.length ≤ 1000000) : Calls Tryd.prog 35 #[.pointer (some ⟨m, 0, none⟩)] w fun e w' => e = .returned (.int .i64 a) ∧ VmP m w w' V { M with stack := s } := (vmPop3 m w V M s a h hs hb).mono fun e w' ⟨h1, sv', h2, h3, h4⟩ => ⟨h1, h3, sv', h4⟩
theorem vmPop (m : Nat) (w : World) (V : VmV) (M : Vm.Mc) (s : List Int) (a : Int) (h : VmS m w V M) (hs : M.stack = s ++ [a]) (hb : s.length ≤ 1000000) : Calls Tryd.prog 35 #[.pointer (some ⟨m, 0, none⟩)] w fun e w' => e = .returned (.int .i64 a) ∧ VmQ m w w' { M with stack := s } := (vmPop2 m w V M s a h hs hb).mono fun e w' ⟨h1, h2⟩ => ⟨h1, h2.q⟩
set_option maxRecDepth 100000 in
set_option maxHeartbeats 4000000 in
theorem vmPush (m : Nat) (w : World) (V : VmV) (M : Vm.Mc) (a : Int) (h : VmS m w V M) (hb : M.stack.length ≤ 1000000) : Calls Tryd.prog 57 #[.pointer (some ⟨m, 0, none⟩), .int .i64 a] w fun e w' => e = .returned (.tuple #[]) ∧ VmQ m w w' { M with stack := M.stack ++ [a] } := by
  obtain ⟨i0, hi, hz0, hz1, hz2⟩ := info_parts info64
  have ho : w.ownsRow (m + 1) 2 1 V.sv M.stack.length (nC M.stack) := h.rows.oa
  obtain ⟨sa, sc, hv⟩ := own_shp ho
  have HH : Hid (VmS m w V M) := h
  have c12 := h.cell.2.2.2.2.2.2.2.2.1
  have HV : Hid (V.sv = .slice sa M.stack.length sc) := hv
  rw [hv] at c12 ho
  have hlt := h.lt
  obtain ⟨n, hn⟩ : ∃ n, n = M.stack.length := ⟨_, rfl⟩
  have HN : Hid (n = M.stack.length) := hn
  rw [← hn] at c12 ho hb
  have HO : Hid (w.ownsRow (m + 1) 2 1 (.slice sa n sc) n (nC M.stack)) := ho
  have H63 : Hid (n + 1 ≤ maxLen ∧ (n + 1) * 8 ≤ 140737488355328) := by unfold Hid maxLen; omega
  have ONE1 : Hid (∀ u ∈ [Value.int .i64 a], u.oneCell' = true) := fun y hy => by simp at hy; subst hy; rfl
  have f12 := h.frozen 12
  clear h hv ho hn
  go_enter Tryd.func57, Tryd.ntmps57
  go_wp2_with (at_builtin; refine wpList_app_t rfl _ _ 23 rfl (m + 1) 2 i0 (.int .i64 0) 1 8 Tryd.underlying23 hi hz0 hz1 hz2 rfl (by decide) _ _ _ rfl (own_lat HO.out ((Below.refl _ _).alloc (Nat.le_refl _) _)) ⟨w.heap.size, 0, none⟩ 1 1 [.int .i64 a] rfl rfl (lit_1 _ _ _) ONE1.out H63.out.1 H63.out.2 (by simp; omega) (by decide) ?_)
  intro v8 w8 h8 g8 o8
  have y : Below w.heap.size w (w.alloc (.cells #[.int .i64 a] 2)) := (Below.refl _ _).alloc (Nat.le_refl _) _
  have b8 : Below (m + 1) w w8 := grown_below HH.out.rows hlt y (by show World.grownBy _ _ V.sv.ownBlock; rw [HV.out, ← HN.out]; exact g8)
  have R8 := HH.out.rows.grow y (v' := v8) (n' := (M.stack ++ [a]).length) (xs' := nC (M.stack ++ [a])) (by rw [List.length_append, ← HN.out]; simpa [nC] using h8) (by show World.grownBy _ _ V.sv.ownBlock; rw [HV.out, ← HN.out]; exact g8) (by show v8.ownBlock = V.sv.ownBlock ∨ _; rw [HV.out, ← HN.out]; simpa using o8)
  have FIN : Hid (VmQ m w (w8.setCell ⟨m, 12, none⟩ v8) { M with stack := M.stack ++ [a] }) := HH.out.setS b8 R8
  have k12 := (b8.cell (p := ⟨m, 12, none⟩) (Nat.lt_succ_self m)).trans c12
  have g12 := (b8.frozen (p := ⟨m, 12, none⟩) (Nat.lt_succ_self m)).trans f12
  obtain ⟨va8, cap8, hv8⟩ := own_shp h8
  subst hv8
  clear h8 g8 o8 R8 y b8 c12 f12
  go_wp2_with fail
  first
    | (go_end0; exact ⟨rfl, FIN.out⟩)
    | (go_ret; exact ⟨rfl, FIN.out⟩)
set_option maxRecDepth 100000 in
set_option maxHeartbeats 4000000 in
theorem vmTell (m : Nat) (w : World) (V : VmV) (M : Vm.Mc) (k a : Int) (h : VmS m w V M) (hb : M.events.length ≤ 1000000000) : Calls Tryd.prog 38 #[.pointer (some ⟨m, 0, none⟩), .int .i64 k, .int .i64 a] w fun e w' => e = .returned (.tuple #[]) ∧ VmQ m w w' { M with events := M.events ++ [(k, a)] } := by
  obtain ⟨i0, hi, hz0, hz1, hz2⟩ := info_parts infoEv
  have ho : w.ownsRow (m + 1) 43 2 V.ev M.events.length (Vm.evC M.events) := h.rows.ob
  obtain ⟨sa, sc, hv⟩ := own_shp ho
  have HH : Hid (VmS m w V M) := h
  have c9 := h.cell.2.2.2.2.2.1
  have HV : Hid (V.ev = .slice sa M.events.length sc) := hv
  rw [hv] at c9 ho
  have hlt := h.lt
  obtain ⟨n, hn⟩ : ∃ n, n = M.events.length := ⟨_, rfl⟩
  have HN : Hid (n = M.events.length) := hn
  rw [← hn] at c9 ho hb
  have HO : Hid (w.ownsRow (m + 1) 43 2 (.slice sa n sc) n (Vm.evC M.events)) := ho
  have H63 : Hid (n + 1 ≤ maxLen ∧ (n + 1) * 16 ≤ 140737488355328) := by unfold Hid maxLen; omega
  have ONE1 : Hid (∀ u ∈ [Value.int .i64 k, .int .i64 a], u.oneCell' = true) := fun y hy => by
    simp only [List.mem_cons, List.not_mem_nil, or_false] at hy
    rcases hy with rfl | rfl <;> rfl
  have f9 := h.frozen 9
  clear h hv ho hn
  go_enter Tryd.func38, Tryd.ntmps38
  go_wp2_with (at_builtin; refine wpList_app_t rfl _ _ 33 rfl (m + 1) 43 i0 (.agg #[.int .i64 0, .int .i64 0]) 2 16 Tryd.underlying33 hi hz0 hz1 hz2 rfl (by decide) _ _ _ rfl (own_lat HO.out ((Below.refl _ _).alloc (Nat.le_refl _) _)) ⟨w.heap.size, 0, none⟩ 1 1 [.int .i64 k, .int .i64 a] rfl rfl (lit_2 _ _ _ _) ONE1.out H63.out.1 H63.out.2 (by simp; omega) (by decide) ?_)
  intro v8 w8 h8 g8 o8
  have y : Below w.heap.size w (w.alloc (.cells #[.int .i64 k, .int .i64 a] 43)) := (Below.refl _ _).alloc (Nat.le_refl _) _
  have RS := HH.out.rows.swap1
  have b8 : Below (m + 1) w w8 := grown_below RS hlt y (by show World.grownBy _ _ V.ev.ownBlock; rw [HV.out, ← HN.out]; exact g8)
  have R8 := (RS.grow y (v' := v8) (n' := (M.events ++ [(k, a)]).length) (xs' := Vm.evC (M.events ++ [(k, a)])) (by rw [List.length_append, ← HN.out, Vm.evC_app]; simpa [Vm.evC] using h8) (by show World.grownBy _ _ V.ev.ownBlock; rw [HV.out, ← HN.out]; exact g8) (by show v8.ownBlock = V.ev.ownBlock ∨ _; rw [HV.out, ← HN.out]; simpa using o8)).swap1
  have FIN : Hid (VmQ m w (w8.setCell ⟨m, 9, none⟩ v8) { M with events := M.events ++ [(k, a)] }) := HH.out.setE b8 R8
  have k9 := (b8.cell (p := ⟨m, 9, none⟩) (Nat.lt_succ_self m)).trans c9
  have g9 := (b8.frozen (p := ⟨m, 9, none⟩) (Nat.lt_succ_self m)).trans f9
  obtain ⟨va8, cap8, hv8⟩ := own_shp h8
  subst hv8
  clear h8 g8 o8 R8 RS y b8 c9 f9
  go_wp2_with fail
  first
    | (go_end0; exact ⟨rfl, FIN.out⟩)
    | (go_ret; exact ⟨rfl, FIN.out⟩)
theorem VmQ.trans {m : Nat} {w w1 w2 : World} {M1 M2 : Vm.Mc} (h1 : VmQ m w w1 M1) (h2 : VmQ m w1 w2 M2) : VmQ m w w2 M2 := ⟨h1.1.trans h2.1, h2.2⟩
/-- The machine no longer runs. -/
theorem VmS.setR {m : Nat} {w : World} {V : VmV} {M : Vm.Mc} (h : VmS m w V M) (r : Bool) : VmQ m w (w.setCell ⟨m, 13, none⟩ (.bool r)) { M with run := r } :=
  ⟨below_set, V, heap_setCell_same _ _ _ _ _ _ h.box, h.rows.below _, h.co.later below_set, h.inp.later below_set⟩
set_option maxRecDepth 100000 in
set_option maxHeartbeats 2000000 in
theorem vmEnd (m : Nat) (w : World) (V : VmV) (M : Vm.Mc) (k a : Int) (h : VmS m w V M) (hb : M.events.length ≤ 1000000000) : Calls Tryd.prog 42 #[.pointer (some ⟨m, 0, none⟩), .int .i64 k, .int .i64 a] w fun e w' => e = .returned (.tuple #[]) ∧ VmQ m w w' { M with events := M.events ++ [(k, a)], run := false } := by
  have ET : Hid _ := vmTell m w V M k a h hb
  have hlt := h.lt
  clear h
  go_enter Tryd.func42, Tryd.ntmps42
  go_wp2_with fail
  refine Calls.mono ET.out ?_
  rintro e1 w1 ⟨rfl, b1, V1, h1⟩
  have FIN : Hid (VmQ m w (w1.setCell ⟨m, 13, none⟩ (.bool false)) { M with events := M.events ++ [(k, a)], run := false }) := VmQ.trans ⟨b1, V1, h1⟩ (h1.setR false)
  have c13 := h1.cell.2.2.2.2.2.2.2.2.2
  have f13 := h1.frozen 13
  clear h1 b1 ET
  go_wp2_with fail
  first
    | (go_end0; exact ⟨rfl, FIN.out⟩)
    | (go_ret; exact ⟨rfl, FIN.out⟩)
set_option maxRecDepth 100000 in
set_option maxHeartbeats 2000000 in
theorem vmTrap (m : Nat) (w : World) (V : VmV) (M : Vm.Mc) (k : Int) (h : VmS m w V M) (hb : M.events.length ≤ 1000000000) : Calls Tryd.prog 40 #[.pointer (some ⟨m, 0, none⟩), .int .i64 k] w fun e w' => e = .returned (.tuple #[]) ∧ VmQ m w w' { M with events := M.events ++ [(4, k)], run := false } := by
  have ET : Hid _ := vmEnd m w V M 4 k h hb
  clear h
  go_enter Tryd.func40, Tryd.ntmps40
  go_wp2_with fail
  refine Calls.mono ET.out ?_
  rintro e1 w1 ⟨rfl, Q1⟩
  have FIN : Hid _ := Q1
  clear Q1 ET
  go_wp2_with fail
  first
    | (go_end0; exact ⟨rfl, FIN.out⟩)
    | (go_ret; exact ⟨rfl, FIN.out⟩)
end Go.Proofs.YtodpdnidinnjjaaDoor
