/- CheckMore: procedures in memory, cell by cell, and an owned row of procedures; the frame of an argument api.Proc. -/
import Derived.Test.YtfpabjdhibmefaaZCkMs
import Derived.Test.YtfpabjdhibmefaaZStD
import Derived.Test.YtfpabjdhibmefaaZCkSy
import Derived.Deep.DeepAppendWide
import Derived.Deep.RegionLaw
import Derived.Deep.RegionHeld3
import Derived.OneCell
namespace Go.Proofs.Ytfpabjdhibmefaa
open Go.ChangeShapes Go.WideShapes Go.ChangeAt Go.RowKit
set_option linter.unusedVariables false
set_option maxRecDepth 100000

theorem mAdd (g o n : Nat) : (⟨g, o, none⟩ : Addr).add n = ⟨g, o + n, none⟩ := by unfold Addr.add; split <;> simp_all
/-- A procedure as it lies. -/
structure Lp where
  pa : Option Addr
  pc : Nat
  ba : Option Addr
  bc : Nat
  x : Sy.Pc
def Lp.cs (p : Lp) : List Value := [.string ⟨p.x.name.toArray⟩, .slice p.pa p.x.params.length p.pc, .int .i64 p.x.type, .slice p.ba p.x.body.length p.bc]
def LpS (ps : List Lp) : List Value := ps.flatMap Lp.cs
theorem LpS_len : ∀ ps : List Lp, (LpS ps).length = ps.length * 4
  | [] => rfl
  | p :: ps => by
    have := LpS_len ps
    unfold LpS at this ⊢
    rw [List.flatMap_cons, List.length_append, this, List.length_cons]
    show 4 + _ = _
    omega
theorem LpS_one (ps : List Lp) : ∀ u ∈ LpS ps, u.oneCell' = true := by
  intro u hu
  obtain ⟨p, _, hp⟩ := List.mem_flatMap.1 hu
  unfold Lp.cs at hp
  simp only [List.mem_cons, List.not_mem_nil, or_false] at hp
  rcases hp with rfl | rfl | rfl | rfl <;> rfl
theorem LpS_get : ∀ (ps : List Lp) (j : Nat) (p : Lp), ps[j]? = some p → (LpS ps)[j * 4]? = some (.string ⟨p.x.name.toArray⟩) ∧ (LpS ps)[j * 4 + 1]? = some (.slice p.pa p.x.params.length p.pc) ∧ (LpS ps)[j * 4 + 2]? = some (.int .i64 p.x.type) ∧ (LpS ps)[j * 4 + 3]? = some (.slice p.ba p.x.body.length p.bc)
  | [], j, p, h => by simp at h
  | q :: ps, 0, p, h => by
    simp at h
    subst h
    exact ⟨rfl, rfl, rfl, rfl⟩
  | q :: ps, j + 1, p, h => by
    have ih := LpS_get ps j p (by simpa using h)
    have e : ∀ k, (LpS (q :: ps))[(j + 1) * 4 + k]? = (LpS ps)[j * 4 + k]? := fun k => by
      unfold LpS
      rw [List.flatMap_cons, List.getElem?_append_right (by show 4 ≤ _; omega)]
      congr 1
      show _ - 4 = _
      omega
    exact ⟨(e 0).trans ih.1, (e 1).trans ih.2.1, (e 2).trans ih.2.2.1, (e 3).trans ih.2.2.2⟩
theorem LpS_app (ps qs : List Lp) : LpS (ps ++ qs) = LpS ps ++ LpS qs := List.flatMap_append
/-- What lies for procedures. -/
structure LpM (w : World) (a : Addr) (l : List Sy.Pc) (ps : List Lp) : Prop where
  eq : ps.map Lp.x = l
  get : ∀ j u, (LpS ps)[j]? = some u → w.cell? (a.add j) = some u
  hi : ∀ p ∈ ps, PaS (fun _ => True) w (.slice p.pa p.x.params.length p.pc) p.x.params ∧ SmS (fun _ => True) w (.slice p.ba p.x.body.length p.bc) p.x.body
theorem lists_of {α β : Type} {R : Nat → α → β → Prop} : ∀ (l : List α) (k : Nat), (∀ j c, l[j]? = some c → ∃ y, R (k + j) c y) → ∃ ys : List β, ys.length = l.length ∧ ∀ j c y, l[j]? = some c → ys[j]? = some y → R (k + j) c y
  | [], k, _ => ⟨[], rfl, fun j c y h => by simp at h⟩
  | c :: l, k, h => by
    obtain ⟨y, hy⟩ := h 0 c rfl
    obtain ⟨ys, e, hs⟩ := lists_of l (k + 1) fun j d hj => by
      obtain ⟨z, hz⟩ := h (j + 1) d (by simpa using hj)
      exact ⟨z, by rw [Nat.add_assoc, Nat.add_comm 1 j]; exact hz⟩
    refine ⟨y :: ys, by simp [e], fun j d z hd hz => ?_⟩
    match j with
    | 0 => simp at hd hz; subst hd; subst hz; exact hy
    | j + 1 =>
      have := hs j d z (by simpa using hd) (by simpa using hz)
      rw [Nat.add_assoc, Nat.add_comm 1 j] at this
      exact this
theorem PcS.lpm {w : World} {la : Option Addr} {lc : Nat} {l : List Sy.Pc} (h : PcS (fun _ => True) w (.slice la l.length lc) l) (h0 : 0 < l.length) : ∃ g o ps, la = some ⟨g, o, none⟩ ∧ g < w.heap.size ∧ LpM w ⟨g, o, none⟩ l ps := by
  obtain ⟨a, c, e, h⟩ := h
  cases e
  obtain ⟨g, o, rfl, _, hg, hc⟩ := h h0
  obtain ⟨ys, e, hs⟩ := lists_of (R := fun j x (y : Option Addr × Nat × Option Addr × Nat) => PcAt (fun _ => True) w g (o + j * 4) x y.1 y.2.1 y.2.2.1 y.2.2.2) l 0 fun j x hj => by
    obtain ⟨x', pa, pc, ba, bc, e1, q⟩ := hc j (List.getElem?_eq_some_iff.1 hj).1
    rw [hj] at e1
    cases e1
    exact ⟨(pa, pc, ba, bc), by rw [Nat.zero_add]; exact q⟩
  refine ⟨g, o, (l.zip ys).map fun p => ⟨p.2.1, p.2.2.1, p.2.2.2.1, p.2.2.2.2, p.1⟩, rfl, hg, ?_, fun j u hu => ?_, fun p hp => ?_⟩
  · rw [List.map_map]
    show (l.zip ys).map (fun p => p.1) = l
    rw [List.map_fst_zip]
    omega
  · obtain ⟨k, r, rfl, h4⟩ : ∃ k r, j = k * 4 + r ∧ r < 4 := ⟨j / 4, j % 4, by omega, Nat.mod_lt _ (by decide)⟩
    have hj : k < l.length := by
      have := (List.getElem?_eq_some_iff.1 hu).1
      rw [LpS_len, List.length_map, List.length_zip, e, Nat.min_self] at this
      omega
    obtain ⟨x, hc1⟩ : ∃ x, l[k]? = some x := ⟨_, List.getElem?_eq_getElem hj⟩
    obtain ⟨y, hy⟩ : ∃ y, ys[k]? = some y := ⟨_, List.getElem?_eq_getElem (by omega)⟩
    have hp : ((l.zip ys).map fun p => (⟨p.2.1, p.2.2.1, p.2.2.2.1, p.2.2.2.2, p.1⟩ : Lp))[k]? = some ⟨y.1, y.2.1, y.2.2.1, y.2.2.2, x⟩ := by
      rw [List.getElem?_map, (List.getElem?_zip_eq_some (z := (x, y))).2 ⟨hc1, hy⟩]
      rfl
    have q := hs k _ _ hc1 hy
    rw [Nat.zero_add] at q
    obtain ⟨a0, a1, a2, a3⟩ := LpS_get _ _ _ hp
    rw [mAdd]
    match r, h4 with
    | 0, _ => rw [Nat.add_zero] at hu; rw [a0] at hu; rw [Nat.add_zero, ← hu]; exact q.c0
    | 1, _ => rw [a1] at hu; rw [← hu, ← Nat.add_assoc]; exact q.c1
    | 2, _ => rw [a2] at hu; rw [← hu, ← Nat.add_assoc]; exact q.c2
    | 3, _ => rw [a3] at hu; rw [← hu, ← Nat.add_assoc]; exact q.c3
  · obtain ⟨x, hx, rfl⟩ := List.mem_map.1 hp
    obtain ⟨j, hj⟩ := List.getElem?_of_mem hx
    have q := hs j _ _ (List.getElem?_zip_eq_some.1 hj).1 (List.getElem?_zip_eq_some.1 hj).2
    exact ⟨q.hp, q.hb⟩
/-- An owned row of procedures is procedures in memory. -/
theorem own_pcs {w : World} {base : Nat} {e : TypeId} {v : Value} {ps : List Lp} {n : Nat} (h : w.ownsRow base e 4 v n (LpS ps)) (hn : n = ps.length) (h0 : 0 < n) (hi : ∀ p ∈ ps, PaS (fun _ => True) w (.slice p.pa p.x.params.length p.pc) p.x.params ∧ SmS (fun _ => True) w (.slice p.ba p.x.body.length p.bc) p.x.body) : ∃ a cap, v = .slice a n cap ∧ PcS (fun _ => True) w (.slice a n cap) (ps.map Lp.x) := by
  have hc := @World.ownsRow.cells _ _ _ _ _ _ _ h
  have hl := h.lt
  rcases h.2 with ⟨_, h1⟩ | ⟨g, cap, cur, rfl, _⟩
  · omega
  · refine ⟨_, cap, rfl, _, cap, by rw [List.length_map, ← hn], fun _ => ⟨g, 0, rfl, trivial, (hl g rfl).2, fun j hj => ?_⟩⟩
    rw [List.length_map] at hj
    obtain ⟨p, hp⟩ : ∃ p, ps[j]? = some p := ⟨_, List.getElem?_eq_getElem hj⟩
    obtain ⟨a0, a1, a2, a3⟩ := LpS_get _ _ _ hp
    have q := hi p (List.mem_of_getElem? hp)
    have get := fun j u hu => @hc g rfl j u hu
    refine ⟨p.x, p.pa, p.pc, p.ba, p.bc, by rw [List.getElem?_map, hp]; rfl, ?_, ?_, ?_, ?_, q.1, q.2⟩
    · have := get _ _ a0; rw [mAdd] at this; exact this
    · have := get _ _ a1; rw [mAdd] at this; rw [Nat.add_assoc]; exact this
    · have := get _ _ a2; rw [mAdd] at this; rw [Nat.add_assoc]; exact this
    · have := get _ _ a3; rw [mAdd] at this; rw [Nat.add_assoc]; exact this
theorem infoPc4 : (Try.prog.info? 25).map (fun i => (i.zero, i.size, i.bytes)) = some (some (.agg #[.string ⟨#[]⟩, .slice none 0 0, .int .i64 0, .slice none 0 0]), 4, 72) := by kernel_rfl
/-- An argument that is a procedure. -/
theorem arg_pc {H : Type} {enc : TypeId × Value → H} {W : World} {v : Value} {d : DataW H} {p : List MemPlace} {ts : List TypeId} {ds : List (DataW H)} {j base : Nat}
    (hv : Value.okWide Try.prog W .any base 25 v)
    (h : ∃ fuel, DataW.trod enc Try.prog W 0 (fun _ => true) true fuel 25 v.cells.toList = some (d, p))
    (hsz : (DataW.weightsEach Try.prog ts ds).all (· ≤ reachBytes) = true) (ht : ts[j]? = some 25) (hd : ds[j]? = some d) :
    ∃ x pa pc ba bc, v = pcV x pa pc ba bc ∧ PaS (fun _ => True) W (.slice pa x.params.length pc) x.params ∧ SmS (fun _ => True) W (.slice ba x.body.length bc) x.body ∧ x.Ok := by
  obtain ⟨cs, rfl, hc⟩ := okWide_struct Try.underlying25 hv
  rw [cPc4] at hc
  obtain ⟨fuel, hf⟩ := h
  have e0 : (Value.agg cs).cells.toList = cs.toList := by simp [Value.cells]
  rw [e0] at hf
  have key : ∀ q, q ∈ d.weights Try.prog 25 → q ≤ reachBytes := fun q hq => of_decide_eq_true (List.all_eq_true.1 hsz _ (DataW.weights_mem_each ht hd _ hq))
  obtain ⟨s, m, v0, v1, z0, z1, n', hcs, hy, hm, t0, t1⟩ := pc_cells (by simpa using hc) hf
  dsimp only at hy
  rw [hy, weights_proc] at key
  obtain ⟨ps, ⟨pa, pc, rfl⟩, hp, op, lp⟩ := pas_open n' v0 z0 t0 (fun q hq => key q (List.mem_cons_of_mem _ (List.mem_append.2 (.inl hq))))
  obtain ⟨b, ⟨ba, bc, rfl⟩, hb, ob, lb⟩ := sts_open n' v1 z1 t1 (fun q hq => key q (List.mem_cons_of_mem _ (List.mem_append.2 (.inr hq))))
  refine ⟨⟨s, ps, m, b⟩, pa, pc, ba, bc, ?_, hp, hb, ⟨reach_15 (key _ (List.mem_cons_self ..)), hm, op, lp, ob, lb⟩⟩
  obtain ⟨cl⟩ := cs
  dsimp only at hcs
  rw [hcs]
  rfl
theorem mLat {w w' : World} {base size n : Nat} {e : TypeId} {v : Value} {xs : List Value} (h : w.ownsRow base e size v n xs) (hb : Below w.heap.size w w') : w'.ownsRow base e size v n xs :=
  World.ownsRow.kept h (row := none) ⟨hb.os, hb.tape, hb.output, hb.size, fun k hk _ => hb.block k hk⟩ (by
    rcases h.2 with ⟨rfl, _⟩ | ⟨g, cap, cur, rfl, _⟩
    · exact .inl rfl
    · exact .inr (by simp [Value.ownBlock]))
theorem mOwnZ {w : World} {base size n cap : Nat} {e : TypeId} {a : Option Addr} {xs : List Value} (h : w.ownsRow base e size (.slice a (0 + n) cap) (0 + n) ([] ++ xs)) : w.ownsRow base e size (.slice a n cap) n xs := by
  rw [Nat.zero_add, List.nil_append] at h
  exact h
theorem mGrN {X Y : World} {v : Value} (g : X.grownBy Y v.ownBlock) (h : v.ownBlock = none) : Below X.heap.size X Y := by
  rw [h] at g
  exact ⟨g.os, g.tape, g.output, g.size, fun k hk => g.block k hk (by simp)⟩
theorem mGrO {w X Y : World} {e : TypeId} {sz n : Nat} {v : Value} {xs : List Value} (h : X.ownsRow w.heap.size e sz v n xs) (g : X.grownBy Y v.ownBlock) (hb : Below w.heap.size w X) : Below w.heap.size w Y :=
  hb.trans ⟨g.os, g.tape, g.output, g.size, fun k hk => g.block k (Nat.lt_of_lt_of_le hk hb.size) (fun e => by have := (World.ownsRow.lt h _ e.symm).1; omega)⟩
theorem mFour (w : World) (c0 c1 c2 c3 : Value) (t : TypeId) : ∀ (j : Nat) u, [c0, c1, c2, c3][j]? = some u → (w.alloc (.cells #[c0, c1, c2, c3] t)).cell? ((⟨w.heap.size, 0, none⟩ : Addr).add j) = some u := by
  intro j u hj
  rw [mAdd]
  match j, hj with
  | 0, hj => simp at hj; subst hj; simp
  | 1, hj => simp at hj; subst hj; simp
  | 2, hj => simp at hj; subst hj; simp
  | 3, hj => simp at hj; subst hj; simp
  | n + 4, hj => simp at hj
theorem mCells {Y : World} {n : Nat} {c0 c1 c2 c3 : Value} (e0 : Y.cell? ⟨n, 0, none⟩ = some c0) (e1 : Y.cell? ⟨n, 1, none⟩ = some c1) (e2 : Y.cell? ⟨n, 2, none⟩ = some c2) (e3 : Y.cell? ⟨n, 3, none⟩ = some c3) : ∀ (j : Nat) u, [c0, c1, c2, c3][j]? = some u → Y.cell? ((⟨n, 0, none⟩ : Addr).add j) = some u := by
  intro j u hj
  rw [mAdd, Nat.zero_add]
  match j, hj with
  | 0, hj => simp at hj; subst hj; exact e0
  | 1, hj => simp at hj; subst hj; exact e1
  | 2, hj => simp at hj; subst hj; exact e2
  | 3, hj => simp at hj; subst hj; exact e3
  | n + 4, hj => simp at hj
theorem mOne (s : ByteArray) (pa : Option Addr) (pn pc : Nat) (t : Int) (ba : Option Addr) (bn bc : Nat) : ∀ u ∈ [Value.string s, .slice pa pn pc, .int .i64 t, .slice ba bn bc], u.oneCell' = true := by
  intro u hp
  simp only [List.mem_cons, List.not_mem_nil, or_false] at hp
  rcases hp with rfl | rfl | rfl | rfl <;> rfl
/-- The row with one more is procedures in memory. -/
theorem pcs_more {w wx : World} {base L cap : Nat} {T : TypeId} {va : Option Addr} {ps : List Sy.Pc} {lps : List Lp} {a : Addr} {x : Sy.Pc} {pa : Option Addr} {pn pc : Nat} {ba : Option Addr} {bn bc : Nat} (hL : L = ps.length) (hpn : pn = x.params.length) (hbn : bn = x.body.length) (hM : LpM w a ps lps) (h1 : PaS (fun _ => True) w (.slice pa x.params.length pc) x.params) (h2 : SmS (fun _ => True) w (.slice ba x.body.length bc) x.body)
    (R : wx.ownsRow base T 4 (.slice va (L + 1) cap) (L + 1) (LpS lps ++ [.string ⟨x.name.toArray⟩, .slice pa pn pc, .int .i64 x.type, .slice ba bn bc])) (b : Below w.heap.size w wx) : PcS (fun _ => True) wx (.slice va (L + 1) cap) (ps ++ [x]) := by
  subst hL hpn hbn
  have e : LpS lps ++ [.string ⟨x.name.toArray⟩, .slice pa x.params.length pc, .int .i64 x.type, .slice ba x.body.length bc] = LpS (lps ++ [⟨pa, pc, ba, bc, x⟩]) := by rw [LpS_app]; rfl
  rw [e] at R
  have hl : lps.length = ps.length := by rw [← hM.eq, List.length_map]
  obtain ⟨a', cp, hv, co⟩ := own_pcs R (by simp [hl]) (by omega) (fun p hp => by
    rcases List.mem_append.1 hp with h | h
    · have := hM.hi p h
      exact ⟨this.1.later b (Nat.le_refl _), this.2.later b (Nat.le_refl _)⟩
    · simp at h
      subst h
      exact ⟨h1.later b (Nat.le_refl _), h2.later b (Nat.le_refl _)⟩)
  cases hv
  rw [List.map_append, hM.eq] at co
  exact co
end Go.Proofs.Ytfpabjdhibmefaa
