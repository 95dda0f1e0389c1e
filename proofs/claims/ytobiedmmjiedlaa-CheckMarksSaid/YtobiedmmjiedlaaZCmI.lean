/- Layer 4: great of a program. -/
/- CheckMore: procedures in memory, cell by cell, and an owned row of procedures; the frame of an argument api.Proc. -/
/- Layer 4: the statement of a mark (the program's Stmt). -/
/- Layer 4: statements in order of marks, with where their blocks end (the document's Row), plain; a row behind a row. -/
/- Layer 4: the document's Row. -/
import Derived.Test.YtobiedmmjiedlaaZCkSz
import Derived.Test.YtobiedmmjiedlaaZStD
import Derived.Deep.DeepAppendWide
import Derived.Deep.RegionLaw
import Derived.Deep.RegionHeld3
import Derived.OneCell
import Derived.Test.YtobiedmmjiedlaaZCmD
import Derived.Test.YtobiedmmjiedlaaZCkG
namespace Go.Proofs.Ytobiedmmjiedlaa
open Go.RowKit

set_option maxRecDepth 100000 in
set_option maxHeartbeats 1000000 in
theorem pgGreat_any (A : Nat → Prop) (l : List Sy.Pc) (hl : l.length ≤ 1000000000000000) (hP : ∀ x, x ∈ l → x.Ok) (sa : Option Addr) (sc : Nat) (w : World) (hs : PcS A w (.slice sa l.length sc) l) :
    Calls Try.prog 4 #[.agg #[.slice sa l.length sc]] w fun e w' => ∃ b : Bool, e = .returned (.bool b) ∧ (b = false → l.length ≤ 1000000 ∧ ∀ x, x ∈ l → PcB x) ∧ Below w.heap.size w w' := by
  have E1 : Hid (∀ W, Below w.heap.size w W → _) := fun W hW => pgSize_any A l hl hP sa sc 1500 W (by decide) (by decide) (hs.later hW (Nat.le_refl _))
  clear hs hl hP
  go_enter Try.func4, Try.ntmps4
  go_wp2_with fail
  refine Calls.mono (E1.out _ (by go_grown)) ?_
  rintro e w1 ⟨r, rfl, z, b1⟩
  have Z : Hid (PSR 1500 l r) := z
  have B1 : Hid (Below w.heap.size w w1) := Below.trans (by go_grown) (b1.mono (by go_size))
  clear b1 z
  go_wp2_with fail
  go_ret
  refine ⟨_, rfl, fun h => ?_, B1.out⟩
  have hr : r ≤ 1500 := by simpa using h
  obtain ⟨z1, z2⟩ := Z.out
  obtain ⟨z3, z4⟩ := z2 hr
  refine ⟨by omega, fun x hx => ?_⟩
  obtain ⟨z5, z6⟩ := z4 x hx
  exact ⟨by omega, z6⟩
end Go.Proofs.Ytobiedmmjiedlaa

namespace Go.Proofs.Ytobiedmmjiedlaa
open Go.ChangeShapes Go.WideShapes Go.ChangeAt Go.RowKit
set_option linter.unusedVariables false
set_option maxRecDepth 100000

theorem mAdd (g o n : Nat) : (⟨g, o, none⟩ : Addr).add n = ⟨g, o + n, none⟩ := by unfold Addr.add; split <;> simp_all
/-- A procedure as it lies. -/
structure Lp where
  pa : Option Addr
  pc : Nat
  ba : Option Addr
  bc : Nat
  x : Sy.Pc
def Lp.cs (p : Lp) : List Value := [.string ⟨p.x.name.toArray⟩, .slice p.pa p.x.params.length p.pc, .int .i64 p.x.type, .slice p.ba p.x.body.length p.bc]
def LpS (ps : List Lp) : List Value := ps.flatMap Lp.cs
theorem LpS_len : ∀ ps : List Lp, (LpS ps).length = ps.length * 4
  | [] => rfl
  | p :: ps => by
    have := LpS_len ps
    unfold LpS at this ⊢
    rw [List.flatMap_cons, List.length_append, this, List.length_cons]
    show 4 + _ = _
    omega
theorem LpS_one (ps : List Lp) : ∀ u ∈ LpS ps, u.oneCell' = true := by
  intro u hu
  obtain ⟨p, _, hp⟩ := List.mem_flatMap.1 hu
  unfold Lp.cs at hp
  simp only [List.mem_cons, List.not_mem_nil, or_false] at hp
  rcases hp with rfl | rfl | rfl | rfl <;> rfl
theorem LpS_get : ∀ (ps : List Lp) (j : Nat) (p : Lp), ps[j]? = some p → (LpS ps)[j * 4]? = some (.string ⟨p.x.name.toArray⟩) ∧ (LpS ps)[j * 4 + 1]? = some (.slice p.pa p.x.params.length p.pc) ∧ (LpS ps)[j * 4 + 2]? = some (.int .i64 p.x.type) ∧ (LpS ps)[j * 4 + 3]? = some (.slice p.ba p.x.body.length p.bc)
  | [], j, p, h => by simp at h
  | q :: ps, 0, p, h => by
    simp at h
    subst h
    exact ⟨rfl, rfl, rfl, rfl⟩
  | q :: ps, j + 1, p, h => by
    have ih := LpS_get ps j p (by simpa using h)
    have e : ∀ k, (LpS (q :: ps))[(j + 1) * 4 + k]? = (LpS ps)[j * 4 + k]? := fun k => by
      unfold LpS
      rw [List.flatMap_cons, List.getElem?_append_right (by show 4 ≤ _; omega)]
      congr 1
      show _ - 4 = _
      omega
    exact ⟨(e 0).trans ih.1, (e 1).trans ih.2.1, (e 2).trans ih.2.2.1, (e 3).trans ih.2.2.2⟩
theorem LpS_app (ps qs : List Lp) : LpS (ps ++ qs) = LpS ps ++ LpS qs := List.flatMap_append
/-- What lies for procedures. -/
structure LpM (w : World) (a : Addr) (l : List Sy.Pc) (ps : List Lp) : Prop where
  eq : ps.map Lp.x = l
  get : ∀ j u, (LpS ps)[j]? = some u → w.cell? (a.add j) = some u
  hi : ∀ p ∈ ps, PaS (fun _ => True) w (.slice p.pa p.x.params.length p.pc) p.x.params ∧ SmS (fun _ => True) w (.slice p.ba p.x.body.length p.bc) p.x.body
theorem lists_of {α β : Type} {R : Nat → α → β → Prop} : ∀ (l : List α) (k : Nat), (∀ j c, l[j]? = some c → ∃ y, R (k + j) c y) → ∃ ys : List β, ys.length = l.length ∧ ∀ j c y, l[j]? = some c → ys[j]? = some y → R (k + j) c y
  | [], k, _ => ⟨[], rfl, fun j c y h => by simp at h⟩
  | c :: l, k, h => by
    obtain ⟨y, hy⟩ := h 0 c rfl
    obtain ⟨ys, e, hs⟩ := lists_of l (k + 1) fun j d hj => by
      obtain ⟨z, hz⟩ := h (j + 1) d (by simpa using hj)
      exact ⟨z, by rw [Nat.add_assoc, Nat.add_comm 1 j]; exact hz⟩
    refine ⟨y :: ys, by simp [e], fun j d z hd hz => ?_⟩
    match j with
    | 0 => simp at hd hz; subst hd; subst hz; exact hy
    | j + 1 =>
      have := hs j d z (by simpa using hd) (by simpa using hz)
      rw [Nat.add_assoc, Nat.add_comm 1 j] at this
      exact this
theorem PcS.lpm {w : World} {la : Option Addr} {lc : Nat} {l : List Sy.Pc} (h : PcS (fun _ => True) w (.slice la l.length lc) l) (h0 : 0 < l.length) : ∃ g o ps, la = some ⟨g, o, none⟩ ∧ g < w.heap.size ∧ LpM w ⟨g, o, none⟩ l ps := by
  obtain ⟨a, c, e, h⟩ := h
  cases e
  obtain ⟨g, o, rfl, _, hg, hc⟩ := h h0
  obtain ⟨ys, e, hs⟩ := lists_of (R := fun j x (y : Option Addr × Nat × Option Addr × Nat) => PcAt (fun _ => True) w g (o + j * 4) x y.1 y.2.1 y.2.2.1 y.2.2.2) l 0 fun j x hj => by
    obtain ⟨x', pa, pc, ba, bc, e1, q⟩ := hc j (List.getElem?_eq_some_iff.1 hj).1
    rw [hj] at e1
    cases e1
    exact ⟨(pa, pc, ba, bc), by rw [Nat.zero_add]; exact q⟩
  refine ⟨g, o, (l.zip ys).map fun p => ⟨p.2.1, p.2.2.1, p.2.2.2.1, p.2.2.2.2, p.1⟩, rfl, hg, ?_, fun j u hu => ?_, fun p hp => ?_⟩
  · rw [List.map_map]
    show (l.zip ys).map (fun p => p.1) = l
    rw [List.map_fst_zip]
    omega
  · obtain ⟨k, r, rfl, h4⟩ : ∃ k r, j = k * 4 + r ∧ r < 4 := ⟨j / 4, j % 4, by omega, Nat.mod_lt _ (by decide)⟩
    have hj : k < l.length := by
      have := (List.getElem?_eq_some_iff.1 hu).1
      rw [LpS_len, List.length_map, List.length_zip, e, Nat.min_self] at this
      omega
    obtain ⟨x, hc1⟩ : ∃ x, l[k]? = some x := ⟨_, List.getElem?_eq_getElem hj⟩
    obtain ⟨y, hy⟩ : ∃ y, ys[k]? = some y := ⟨_, List.getElem?_eq_getElem (by omega)⟩
    have hp : ((l.zip ys).map fun p => (⟨p.2.1, p.2.2.1, p.2.2.2.1, p.2.2.2.2, p.1⟩ : Lp))[k]? = some ⟨y.1, y.2.1, y.2.2.1, y.2.2.2, x⟩ := by
      rw [List.getElem?_map, (List.getElem?_zip_eq_some (z := (x, y))).2 ⟨hc1, hy⟩]
      rfl
    have q := hs k _ _ hc1 hy
    rw [Nat.zero_add] at q
    obtain ⟨a0, a1, a2, a3⟩ := LpS_get _ _ _ hp
    rw [mAdd]
    match r, h4 with
    | 0, _ => rw [Nat.add_zero] at hu; rw [a0] at hu; rw [Nat.add_zero, ← hu]; exact q.c0
    | 1, _ => rw [a1] at hu; rw [← hu, ← Nat.add_assoc]; exact q.c1
    | 2, _ => rw [a2] at hu; rw [← hu, ← Nat.add_assoc]; exact q.c2
    | 3, _ => rw [a3] at hu; rw [← hu, ← Nat.add_assoc]; exact q.c3
  · obtain ⟨x, hx, rfl⟩ := List.mem_map.1 hp
    obtain ⟨j, hj⟩ := List.getElem?_of_mem hx
    have q := hs j _ _ (List.getElem?_zip_eq_some.1 hj).1 (List.getElem?_zip_eq_some.1 hj).2
    exact ⟨q.hp, q.hb⟩
/-- An owned row of procedures is procedures in memory. -/
theorem own_pcs {w : World} {base : Nat} {e : TypeId} {v : Value} {ps : List Lp} {n : Nat} (h : w.ownsRow base e 4 v n (LpS ps)) (hn : n = ps.length) (h0 : 0 < n) (hi : ∀ p ∈ ps, PaS (fun _ => True) w (.slice p.pa p.x.params.length p.pc) p.x.params ∧ SmS (fun _ => True) w (.slice p.ba p.x.body.length p.bc) p.x.body) : ∃ a cap, v = .slice a n cap ∧ PcS (fun _ => True) w (.slice a n cap) (ps.map Lp.x) := by
  have hc := @World.ownsRow.cells _ _ _ _ _ _ _ h
  have hl := h.lt
  rcases h.2 with ⟨_, h1⟩ | ⟨g, cap, cur, rfl, _⟩
  · omega
  · refine ⟨_, cap, rfl, _, cap, by rw [List.length_map, ← hn], fun _ => ⟨g, 0, rfl, trivial, (hl g rfl).2, fun j hj => ?_⟩⟩
    rw [List.length_map] at hj
    obtain ⟨p, hp⟩ : ∃ p, ps[j]? = some p := ⟨_, List.getElem?_eq_getElem hj⟩
    obtain ⟨a0, a1, a2, a3⟩ := LpS_get _ _ _ hp
    have q := hi p (List.mem_of_getElem? hp)
    have get := fun j u hu => @hc g rfl j u hu
    refine ⟨p.x, p.pa, p.pc, p.ba, p.bc, by rw [List.getElem?_map, hp]; rfl, ?_, ?_, ?_, ?_, q.1, q.2⟩
    · have := get _ _ a0; rw [mAdd] at this; exact this
    · have := get _ _ a1; rw [mAdd] at this; rw [Nat.add_assoc]; exact this
    · have := get _ _ a2; rw [mAdd] at this; rw [Nat.add_assoc]; exact this
    · have := get _ _ a3; rw [mAdd] at this; rw [Nat.add_assoc]; exact this
theorem infoPc4 : (Try.prog.info? 25).map (fun i => (i.zero, i.size, i.bytes)) = some (some (.agg #[.string ⟨#[]⟩, .slice none 0 0, .int .i64 0, .slice none 0 0]), 4, 72) := by kernel_rfl
/-- An argument that is a procedure. -/
theorem arg_pc {H : Type} {enc : TypeId × Value → H} {W : World} {v : Value} {d : DataW H} {p : List MemPlace} {ts : List TypeId} {ds : List (DataW H)} {j base : Nat}
    (hv : Value.okWide Try.prog W .any base 25 v)
    (h : ∃ fuel, DataW.trod enc Try.prog W 0 (fun _ => true) true fuel 25 v.cells.toList = some (d, p))
    (hsz : (DataW.weightsEach Try.prog ts ds).all (· ≤ reachBytes) = true) (ht : ts[j]? = some 25) (hd : ds[j]? = some d) :
    ∃ x pa pc ba bc, v = pcV x pa pc ba bc ∧ PaS (fun _ => True) W (.slice pa x.params.length pc) x.params ∧ SmS (fun _ => True) W (.slice ba x.body.length bc) x.body ∧ x.Ok := by
  obtain ⟨cs, rfl, hc⟩ := okWide_struct Try.underlying25 hv
  rw [cPc4] at hc
  obtain ⟨fuel, hf⟩ := h
  have e0 : (Value.agg cs).cells.toList = cs.toList := by simp [Value.cells]
  rw [e0] at hf
  have key : ∀ q, q ∈ d.weights Try.prog 25 → q ≤ reachBytes := fun q hq => of_decide_eq_true (List.all_eq_true.1 hsz _ (DataW.weights_mem_each ht hd _ hq))
  obtain ⟨s, m, v0, v1, z0, z1, n', hcs, hy, hm, t0, t1⟩ := pc_cells (by simpa using hc) hf
  dsimp only at hy
  rw [hy, weights_proc] at key
  obtain ⟨ps, ⟨pa, pc, rfl⟩, hp, op, lp⟩ := pas_open n' v0 z0 t0 (fun q hq => key q (List.mem_cons_of_mem _ (List.mem_append.2 (.inl hq))))
  obtain ⟨b, ⟨ba, bc, rfl⟩, hb, ob, lb⟩ := sts_open n' v1 z1 t1 (fun q hq => key q (List.mem_cons_of_mem _ (List.mem_append.2 (.inr hq))))
  refine ⟨⟨s, ps, m, b⟩, pa, pc, ba, bc, ?_, hp, hb, ⟨reach_15 (key _ (List.mem_cons_self ..)), hm, op, lp, ob, lb⟩⟩
  obtain ⟨cl⟩ := cs
  dsimp only at hcs
  rw [hcs]
  rfl
theorem mLat {w w' : World} {base size n : Nat} {e : TypeId} {v : Value} {xs : List Value} (h : w.ownsRow base e size v n xs) (hb : Below w.heap.size w w') : w'.ownsRow base e size v n xs :=
  World.ownsRow.kept h (row := none) ⟨hb.os, hb.tape, hb.output, hb.size, fun k hk _ => hb.block k hk⟩ (by
    rcases h.2 with ⟨rfl, _⟩ | ⟨g, cap, cur, rfl, _⟩
    · exact .inl rfl
    · exact .inr (by simp [Value.ownBlock]))
theorem mOwnZ {w : World} {base size n cap : Nat} {e : TypeId} {a : Option Addr} {xs : List Value} (h : w.ownsRow base e size (.slice a (0 + n) cap) (0 + n) ([] ++ xs)) : w.ownsRow base e size (.slice a n cap) n xs := by
  rw [Nat.zero_add, List.nil_append] at h
  exact h
theorem mGrN {X Y : World} {v : Value} (g : X.grownBy Y v.ownBlock) (h : v.ownBlock = none) : Below X.heap.size X Y := by
  rw [h] at g
  exact ⟨g.os, g.tape, g.output, g.size, fun k hk => g.block k hk (by simp)⟩
theorem mGrO {w X Y : World} {e : TypeId} {sz n : Nat} {v : Value} {xs : List Value} (h : X.ownsRow w.heap.size e sz v n xs) (g : X.grownBy Y v.ownBlock) (hb : Below w.heap.size w X) : Below w.heap.size w Y :=
  hb.trans ⟨g.os, g.tape, g.output, g.size, fun k hk => g.block k (Nat.lt_of_lt_of_le hk hb.size) (fun e => by have := (World.ownsRow.lt h _ e.symm).1; omega)⟩
theorem mFour (w : World) (c0 c1 c2 c3 : Value) (t : TypeId) : ∀ (j : Nat) u, [c0, c1, c2, c3][j]? = some u → (w.alloc (.cells #[c0, c1, c2, c3] t)).cell? ((⟨w.heap.size, 0, none⟩ : Addr).add j) = some u := by
  intro j u hj
  rw [mAdd]
  match j, hj with
  | 0, hj => simp at hj; subst hj; simp
  | 1, hj => simp at hj; subst hj; simp
  | 2, hj => simp at hj; subst hj; simp
  | 3, hj => simp at hj; subst hj; simp
  | n + 4, hj => simp at hj
theorem mCells {Y : World} {n : Nat} {c0 c1 c2 c3 : Value} (e0 : Y.cell? ⟨n, 0, none⟩ = some c0) (e1 : Y.cell? ⟨n, 1, none⟩ = some c1) (e2 : Y.cell? ⟨n, 2, none⟩ = some c2) (e3 : Y.cell? ⟨n, 3, none⟩ = some c3) : ∀ (j : Nat) u, [c0, c1, c2, c3][j]? = some u → Y.cell? ((⟨n, 0, none⟩ : Addr).add j) = some u := by
  intro j u hj
  rw [mAdd, Nat.zero_add]
  match j, hj with
  | 0, hj => simp at hj; subst hj; exact e0
  | 1, hj => simp at hj; subst hj; exact e1
  | 2, hj => simp at hj; subst hj; exact e2
  | 3, hj => simp at hj; subst hj; exact e3
  | n + 4, hj => simp at hj
theorem mOne (s : ByteArray) (pa : Option Addr) (pn pc : Nat) (t : Int) (ba : Option Addr) (bn bc : Nat) : ∀ u ∈ [Value.string s, .slice pa pn pc, .int .i64 t, .slice ba bn bc], u.oneCell' = true := by
  intro u hp
  simp only [List.mem_cons, List.not_mem_nil, or_false] at hp
  rcases hp with rfl | rfl | rfl | rfl <;> rfl
/-- The row with one more is procedures in memory. -/
theorem pcs_more {w wx : World} {base L cap : Nat} {T : TypeId} {va : Option Addr} {ps : List Sy.Pc} {lps : List Lp} {a : Addr} {x : Sy.Pc} {pa : Option Addr} {pn pc : Nat} {ba : Option Addr} {bn bc : Nat} (hL : L = ps.length) (hpn : pn = x.params.length) (hbn : bn = x.body.length) (hM : LpM w a ps lps) (h1 : PaS (fun _ => True) w (.slice pa x.params.length pc) x.params) (h2 : SmS (fun _ => True) w (.slice ba x.body.length bc) x.body)
    (R : wx.ownsRow base T 4 (.slice va (L + 1) cap) (L + 1) (LpS lps ++ [.string ⟨x.name.toArray⟩, .slice pa pn pc, .int .i64 x.type, .slice ba bn bc])) (b : Below w.heap.size w wx) : PcS (fun _ => True) wx (.slice va (L + 1) cap) (ps ++ [x]) := by
  subst hL hpn hbn
  have e : LpS lps ++ [.string ⟨x.name.toArray⟩, .slice pa x.params.length pc, .int .i64 x.type, .slice ba x.body.length bc] = LpS (lps ++ [⟨pa, pc, ba, bc, x⟩]) := by rw [LpS_app]; rfl
  rw [e] at R
  have hl : lps.length = ps.length := by rw [← hM.eq, List.length_map]
  obtain ⟨a', cp, hv, co⟩ := own_pcs R (by simp [hl]) (by omega) (fun p hp => by
    rcases List.mem_append.1 hp with h | h
    · have := hM.hi p h
      exact ⟨this.1.later b (Nat.le_refl _), this.2.later b (Nat.le_refl _)⟩
    · simp at h
      subst h
      exact ⟨h1.later b (Nat.le_refl _), h2.later b (Nat.le_refl _)⟩)
  cases hv
  rw [List.map_append, hM.eq] at co
  exact co
end Go.Proofs.Ytobiedmmjiedlaa

namespace Go.Proofs.Ytobiedmmjiedlaa
open Go.RowKit
set_option linter.unusedVariables false
set_option linter.unusedSimpArgs false
namespace Sy
def zero : St := .mk 0 [] [] 0 [] [] []
/-- The statement of a mark, or none. -/
def mkAt (l : List St) (q : Int) : St := if 1 ≤ q ∧ q ≤ cts l then ((rws l)[q.toNat - 1]?).getD zero else zero
def mkIs (l : List St) (q : Int) : Bool := decide (1 ≤ q ∧ q ≤ cts l)
theorem mkAt_some {l : List St} {q : Nat} {x : St} (h1 : 1 ≤ q) (h2 : q ≤ cts l) (h : (rws l)[q - 1]? = some x) : mkAt l q = x := by
  unfold mkAt
  rw [if_pos (by omega), Int.toNat_natCast, h]
  rfl
mutual
theorem rw_bd : ∀ x : St, Bd x → ∀ y, y ∈ rw x → Bd y
  | .mk k n p m e b l => by
    intro h y hy
    rw [rw] at hy
    have h' := h
    cases h with
    | mk _ _ _ _ _ _ _ hn hp le he lb ll hb hl =>
      rcases List.mem_cons.1 hy with rfl | hy
      · exact h'
      · rcases List.mem_append.1 hy with hy | hy
        · exact rws_bd b hb y hy
        · exact rws_bd l hl y hy
theorem rws_bd : ∀ l : List St, (∀ x, x ∈ l → Bd x) → ∀ y, y ∈ rws l → Bd y
  | [], _, y, hy => by simp [rws] at hy
  | s :: r, h, y, hy => by
    rw [rws] at hy
    rcases List.mem_append.1 hy with hy | hy
    · exact rw_bd s (h s (List.mem_cons_self ..)) y hy
    · exact rws_bd r (fun x hx => h x (List.mem_cons_of_mem _ hx)) y hy
end
theorem zero_bd : Bd zero := .mk _ _ _ _ _ _ _ (by simp) (by simp) (by simp) (fun _ h => by cases h) (by simp) (by simp) (fun _ h => by cases h) (fun _ h => by cases h)
theorem mkAt_bd {l : List St} (h : ∀ x, x ∈ l → Bd x) (q : Int) : Bd (mkAt l q) := by
  unfold mkAt
  split
  · cases hx : (rws l)[q.toNat - 1]? with
    | none => exact zero_bd
    | some x => exact rws_bd l h x (List.mem_of_getElem? hx)
  · exact zero_bd
end Sy
theorem cpSt_any (x : Sy.St) : Sy.Bd x → CpS x := by
  refine Sy.ind (P := fun x => Sy.Bd x → CpS x) (fun k n p m e b l ihb ihl h => ?_) x
  cases h with
  | mk _ _ _ _ _ _ _ hn hp le he lb ll hb hl =>
    exact cpS_st k n p m e b l (cpEs_any e (by omega) he) (cpSs_loop b (by omega) fun x hx => ihb x hx (hb x hx)) (cpSs_loop l (by omega) fun x hx => ihl x hx (hl x hx))
/-- What Stmt answers. -/
def StQ (w : World) (l : List Sy.St) (q : Int) (e : Ending) (w' : World) : Prop := ∃ k n p m ee b ll sa sc ba bc la lc, Sy.mkAt l q = .mk k n p m ee b ll ∧
  e = .returned (.tuple #[.agg #[.int .i64 k, .string ⟨(n : List UInt8).toArray⟩, .string ⟨(p : List UInt8).toArray⟩, .int .i64 m, .slice sa (ee : List Sx.Ex).length sc, .slice ba (b : List Sy.St).length bc, .slice la (ll : List Sy.St).length lc], .bool (Sy.mkIs l q)]) ∧
  ExS (fun _ => True) w' (.slice sa ee.length sc) ee ∧ SmS (fun _ => True) w' (.slice ba b.length bc) b ∧ SmS (fun _ => True) w' (.slice la ll.length lc) ll ∧ Below w.heap.size w w'
theorem StQ.no {w : World} {l : List Sy.St} {q : Int} (h : ¬ (1 ≤ q ∧ q ≤ Sy.cts l)) {w' : World} (b : Below w.heap.size w w') : StQ w l q (.returned (.tuple #[.agg #[.int .i64 0, .string ⟨#[]⟩, .string ⟨#[]⟩, .int .i64 0, .slice none 0 0, .slice none 0 0, .slice none 0 0], .bool false])) w' := by
  refine ⟨0, [], [], 0, [], [], [], none, 0, none, 0, none, 0, ?_, ?_, .nil _ _, .nil _ _, .nil _ _, b⟩
  · unfold Sy.mkAt; rw [if_neg h]; rfl
  · unfold Sy.mkIs; rw [decide_eq_false h]; rfl
/-- The end of a function that answers a statement in a box, and a Bool: a box that is full. -/
def EnB (w : World) (M : Nat) (v0 v1 v2 v3 v4 v5 v6 : Value) (wx : World) : Prop := Bs wx M v0 v1 v2 v3 v4 v5 v6 ∧ Below w.heap.size w wx
theorem Bs.fzs {w : World} {g : Nat} {c0 c1 c2 c3 c4 c5 c6 : Value} (h : Bs w g c0 c1 c2 c3 c4 c5 c6) : w.frozen? ⟨g, 0, none⟩ = false ∧ w.frozen? ⟨g, 1, none⟩ = false ∧ w.frozen? ⟨g, 2, none⟩ = false ∧ w.frozen? ⟨g, 3, none⟩ = false ∧ w.frozen? ⟨g, 4, none⟩ = false ∧ w.frozen? ⟨g, 5, none⟩ = false ∧ w.frozen? ⟨g, 6, none⟩ = false := ⟨h.fz 0, h.fz 1, h.fz 2, h.fz 3, h.fz 4, h.fz 5, h.fz 6⟩
theorem Bs.gb {w w' : World} {g M : Nat} {c0 c1 c2 c3 c4 c5 c6 : Value} (h : Bs w g c0 c1 c2 c3 c4 c5 c6) (q : w.grownBy w' (some M)) (hn : g ≠ M) : Bs w' g c0 c1 c2 c3 c4 c5 c6 := (q.block g h.lt1 (by simp; exact hn)).trans h
set_option maxRecDepth 100000 in
set_option maxHeartbeats 4000000 in
theorem stmtAt_any (x : Sy.Pc) (pa : Option Addr) (pc : Nat) (ba : Option Addr) (bc : Nat) (q : Int) (w : World) (hs : SmS (fun _ => True) w (.slice ba x.body.length bc) x.body) (hB : PcB x) (hq : q ≤ 9223372036854775807) :
    Calls Try.prog 6 #[pcV x pa pc ba bc, .int .i64 q] w (StQ w x.body q) := by
  obtain ⟨M, hM⟩ : ∃ M, M = w.heap.size := ⟨_, rfl⟩
  have HMM := hidC hM
  unfold pcV
  obtain ⟨W0, hW0⟩ : ∃ W, W = (w.alloc (.cells #[.string ⟨x.name.toArray⟩, .slice pa x.params.length pc, .int .i64 x.type, .slice ba x.body.length bc] 25)).alloc (.cells #[.int .i64 0, .string ⟨#[]⟩, .string ⟨#[]⟩, .int .i64 0, .slice none 0 0, .slice none 0 0, .slice none 0 0] 33) := ⟨_, rfl⟩
  obtain ⟨z1, z2, z3⟩ := bs_two w (.cells #[.string ⟨x.name.toArray⟩, .slice pa x.params.length pc, .int .i64 x.type, .slice ba x.body.length bc] 25) (.cells #[.int .i64 0, .string ⟨#[]⟩, .string ⟨#[]⟩, .int .i64 0, .slice none 0 0, .slice none 0 0, .slice none 0 0] 33)
  have K0 : Hid (Below w.heap.size w W0) := by rw [hW0]; exact ⟨z3.os, z3.tape, z3.output, z3.size, z3.block⟩
  have S0 : Hid (W0.heap.size = M + 2) := by rw [hW0, hM]; exact hidC (by simp)
  have B0 : Hid (Bs W0 (M + 1) (.int .i64 0) (.string ⟨#[]⟩) (.string ⟨#[]⟩) (.int .i64 0) (.slice none 0 0) (.slice none 0 0) (.slice none 0 0)) := by rw [hW0, hM]; exact z2
  have P0 : Hid (W0.heap[M]? = some (.cells #[.string ⟨x.name.toArray⟩, .slice pa x.params.length pc, .int .i64 x.type, .slice ba x.body.length bc] 25)) := by rw [hW0, hM]; exact z1
  have HS := hidC hs
  have HB := hidC hB
  have hq' := hidC hq
  obtain ⟨pn, hpn⟩ : ∃ n, n = x.params.length := ⟨_, rfl⟩
  obtain ⟨N, hN⟩ : ∃ n, n = x.body.length := ⟨_, rfl⟩
  obtain ⟨nm, hnm⟩ : ∃ n, n = x.name := ⟨_, rfl⟩
  obtain ⟨ty, hty⟩ : ∃ n, n = x.type := ⟨_, rfl⟩
  obtain ⟨bd, hbd⟩ : ∃ n, n = x.body := ⟨_, rfl⟩
  have HBd : Hid (Sy.cts bd ≤ 1000000 ∧ ∀ s, s ∈ bd → Sy.Bd s) := by rw [hbd]; exact ⟨Nat.le_trans (Nat.le_add_left _ _) hB.1, hB.2⟩
  rw [← hpn, ← hN, ← hnm, ← hty] at P0 hW0
  rw [← hpn, ← hN, ← hnm, ← hty, ← hbd]
  rw [← hbd] at hN
  have HNb := hidC hN
  rw [← hbd, ← hN] at HS
  clear hs hB hpn hN hnm hty hbd HB hq z1 z2 z3
  by_cases h1 : q < 1
  · have d1 : decide (q < 1) = true := decide_eq_true h1
    have NO := hidC (fun w' (b : Below w.heap.size w w') => StQ.no (w := w) (l := bd) (q := q) (by omega) b)
    have B1 := hidC (B0.out.set7 (.int .i64 0) (.string ⟨#[]⟩) (.string ⟨#[]⟩) (.int .i64 0) (.slice none 0 0) (.slice none 0 0) (.slice none 0 0))
    have K1 := hidC (sets7_below K0.out (show w.heap.size ≤ M + 1 by rw [HMM.out]; exact Nat.le_succ _) (.int .i64 0) (.string ⟨#[]⟩) (.string ⟨#[]⟩) (.int .i64 0) (.slice none 0 0) (.slice none 0 0) (.slice none 0 0))
    obtain ⟨c0, c1, c2, c3, c4, c5, c6⟩ := B0.out.cells
    obtain ⟨f0, f1, f2, f3, f4, f5, f6⟩ := B0.out.fzs
    go_enter Try.func6, Try.ntmps6
    go_upto_region 1 with fail
    rw [← hW0, ← hM]
    clear hW0 hM
    go_upto_region 2 with fail
    go_cut [5] from 9 to 9 (fun s5 wx => s5 = .bool false ∧ EnB w (M + 1) (.int .i64 0) (.string ⟨#[]⟩) (.string ⟨#[]⟩) (.int .i64 0) (.slice none 0 0) (.slice none 0 0) (.slice none 0 0) wx)
    case first =>
      go_wp2_with fail
      go_meet
      exact ⟨rfl, B1.out, K1.out⟩
    case rest =>
      obtain ⟨rfl, E1⟩ := hcut
      have HE := hidC E1
      clear E1 c0 c1 c2 c3 c4 c5 c6 f0 f1 f2 f3 f4 f5 f6 B1 K1
      obtain ⟨d0, d1', d2, d3, d4, d5, d6⟩ := HE.out.1.cells
      go_wp2_with fail
      exact ⟨rfl, .tuple #[.agg #[.int .i64 0, .string ⟨#[]⟩, .string ⟨#[]⟩, .int .i64 0, .slice none 0 0, .slice none 0 0, .slice none 0 0], .bool false], by simp [results, Try.results6, go_sem, d0, d1', d2, d3, d4, d5, d6], NO.out _ HE.out.2⟩
  · have d1 : decide (q < 1) = false := decide_eq_false h1
    obtain ⟨Q, hQ⟩ : ∃ Q : Nat, (Q : Int) = q := ⟨q.toNat, Int.toNat_of_nonneg (by omega)⟩
    subst hQ
    have hQ1 : 1 ≤ Q := by omega
    have hQ2 : Q ≤ 9223372036854775807 := by have := hq'.out; omega
    obtain ⟨W1, hW1⟩ : ∃ W, W = W0.alloc (.cells #[.int .i64 (Q : Int), .int .i64 0, .string ⟨#[]⟩, .string ⟨#[]⟩, .int .i64 0, .slice none 0 0, .slice none 0 0, .slice none 0 0] 59) := ⟨_, rfl⟩
    have KB1 : Hid (Below W0.heap.size W0 W1) := by rw [hW1]; exact box_below W0 _
    have F1 : Hid (Fb W1 (M + 2) (Q : Int) (.int .i64 0) (.string ⟨#[]⟩) (.string ⟨#[]⟩) (.int .i64 0) (.slice none 0 0) (.slice none 0 0) (.slice none 0 0)) := by rw [hW1, ← S0.out]; exact heap_alloc_new W0 _
    have B1 := hidC (B0.out.later KB1.out (n := 0))
    have P1 := hidC ((KB1.out.block M (by have := S0.out; omega)).trans P0.out)
    have K1 := hidC (K0.out.trans (KB1.out.mono K0.out.size))
    have HS1 : Hid (SmS (fun g => g < M + 2) W1 (.slice ba N bc) bd) := (HS.out.mono (A' := fun g => g < M + 2) fun g hg _ => by have := HMM.out; omega).later K1.out (Nat.le_refl _)
    have HFN := hidC (finder_any bd (Nat.le_trans HBd.out.1 (by decide)) (fun y hy => finder_st y (Nat.le_trans (Sy.ct_mem hy) (Nat.le_trans HBd.out.1 (by decide)))) (M + 2) ba bc W1 Q (.int .i64 0) (.string ⟨#[]⟩) (.string ⟨#[]⟩) (.int .i64 0) (.slice none 0 0) (.slice none 0 0) (.slice none 0 0) hQ1 hQ2 (by rw [← HNb.out]; exact HS1.out) F1.out)
    rw [← HNb.out] at HFN
    have p3 : W1.cell? ⟨M, 3, none⟩ = some (.slice ba N bc) := by simp [World.cell?, P1.out]
    go_enter Try.func6, Try.ntmps6
    go_upto_region 1 with fail
    rw [← hW0, ← hM]
    clear hW0 hM
    go_upto_region 4 with fail
    rw [← hW1, S0.out]
    clear hW1
    by_cases h2 : Q ≤ Sy.cts bd
    · have HF2 := hidC (HFN.out.1 h2)
      have YES := hidC (fun (y : Sy.St) (h : (Sy.rws bd)[Q - 1]? = some y) => Sy.mkAt_some hQ1 h2 h)
      have YIS : Hid (Sy.mkIs bd (Q : Int) = true) := hidC (decide_eq_true (by omega))
      have YBD := hidC (fun (y : Sy.St) (h : (Sy.rws bd)[Q - 1]? = some y) => cpSt_any y (Sy.rws_bd bd HBd.out.2 y (List.mem_of_getElem? h)))
      clear HFN HBd
      go_wp2_with fail
      refine HF2.out.mono ?_
      rintro e1 w2 ⟨rfl, g2, k, n, p, m, e, b, ll, sa0, sc0, ba0, bc0, la0, lc0, hx, f2, x2, y2, l2⟩
      have F2 := hidC f2
      have B2 := hidC (B1.out.gb g2 (by omega))
      have K2 : Hid (Below w.heap.size w w2) := ⟨g2.os.trans K1.out.os, g2.tape.trans K1.out.tape, g2.output.trans K1.out.output, Nat.le_trans K1.out.size g2.size, fun i hi => (g2.block i (Nat.lt_of_lt_of_le hi K1.out.size) (by simp; have := HMM.out; omega)).trans (K1.out.block i hi)⟩
      have ECp := hidC (YBD.out _ hx (fun g => g < M + 2) k n p m e b ll sa0 ba0 la0 sc0 bc0 lc0 w2 rfl x2 y2 l2)
      have EQ := hidC (YES.out _ hx)
      obtain ⟨en, hen⟩ : ∃ n, n = e.length := ⟨_, rfl⟩
      obtain ⟨bn, hbn⟩ : ∃ n, n = b.length := ⟨_, rfl⟩
      obtain ⟨ln, hln⟩ : ∃ n, n = ll.length := ⟨_, rfl⟩
      have HEN := hidC hen
      have HBN := hidC hbn
      have HLN := hidC hln
      rw [← hen, ← hbn, ← hln] at F2 ECp
      clear g2 f2 x2 y2 l2 hx hen hbn hln YES YBD p3
      obtain ⟨c0, c1, c2, c3, c4, c5, c6⟩ := F2.out.cells
      go_upto_region 6 with fail
      go_cut [5] from 17 to 19 (fun s5 wx => s5 = .bool true ∧ ∃ sa' sc' ba' bc' la' lc', Hid (EnB w (M + 1) (.int .i64 k) (.string ⟨n.toArray⟩) (.string ⟨p.toArray⟩) (.int .i64 m) (.slice sa' en sc') (.slice ba' bn bc') (.slice la' ln lc') wx ∧ ExS (fun _ => True) wx (.slice sa' en sc') e ∧ SmS (fun _ => True) wx (.slice ba' bn bc') b ∧ SmS (fun _ => True) wx (.slice la' ln lc') ll))
      case first =>
        go_wp2_with fail
        refine ECp.out.mono ?_
        rintro e3 w3 ⟨sa', sc', ba', bc', la', lc', rfl, x3, y3, l3, k3⟩
        have hlo : w.heap.size ≤ M + 1 := by rw [HMM.out]; exact Nat.le_succ _
        have B3 := hidC (B2.out.later k3 (n := 0))
        have nA : ¬ (w2.heap.size ≤ M + 1) := by have := F2.out.lt; omega
        have FIN : Hid (EnB w (M + 1) (.int .i64 k) (.string ⟨n.toArray⟩) (.string ⟨p.toArray⟩) (.int .i64 m) (.slice sa' en sc') (.slice ba' bn bc') (.slice la' ln lc') (((((((w3.setCell ⟨M + 1, 0, none⟩ (.int .i64 k)).setCell ⟨M + 1, 1, none⟩ (.string ⟨n.toArray⟩)).setCell ⟨M + 1, 2, none⟩ (.string ⟨p.toArray⟩)).setCell ⟨M + 1, 3, none⟩ (.int .i64 m)).setCell ⟨M + 1, 4, none⟩ (.slice sa' en sc')).setCell ⟨M + 1, 5, none⟩ (.slice ba' bn bc')).setCell ⟨M + 1, 6, none⟩ (.slice la' ln lc')) ∧ ExS (fun _ => True) (((((((w3.setCell ⟨M + 1, 0, none⟩ (.int .i64 k)).setCell ⟨M + 1, 1, none⟩ (.string ⟨n.toArray⟩)).setCell ⟨M + 1, 2, none⟩ (.string ⟨p.toArray⟩)).setCell ⟨M + 1, 3, none⟩ (.int .i64 m)).setCell ⟨M + 1, 4, none⟩ (.slice sa' en sc')).setCell ⟨M + 1, 5, none⟩ (.slice ba' bn bc')).setCell ⟨M + 1, 6, none⟩ (.slice la' ln lc')) (.slice sa' en sc') e ∧ SmS (fun _ => True) (((((((w3.setCell ⟨M + 1, 0, none⟩ (.int .i64 k)).setCell ⟨M + 1, 1, none⟩ (.string ⟨n.toArray⟩)).setCell ⟨M + 1, 2, none⟩ (.string ⟨p.toArray⟩)).setCell ⟨M + 1, 3, none⟩ (.int .i64 m)).setCell ⟨M + 1, 4, none⟩ (.slice sa' en sc')).setCell ⟨M + 1, 5, none⟩ (.slice ba' bn bc')).setCell ⟨M + 1, 6, none⟩ (.slice la' ln lc')) (.slice ba' bn bc') b ∧ SmS (fun _ => True) (((((((w3.setCell ⟨M + 1, 0, none⟩ (.int .i64 k)).setCell ⟨M + 1, 1, none⟩ (.string ⟨n.toArray⟩)).setCell ⟨M + 1, 2, none⟩ (.string ⟨p.toArray⟩)).setCell ⟨M + 1, 3, none⟩ (.int .i64 m)).setCell ⟨M + 1, 4, none⟩ (.slice sa' en sc')).setCell ⟨M + 1, 5, none⟩ (.slice ba' bn bc')).setCell ⟨M + 1, 6, none⟩ (.slice la' ln lc')) (.slice la' ln lc') ll) :=
          ⟨⟨B3.out.set7 _ _ _ _ _ _ _, sets7_below (K2.out.trans (k3.mono K2.out.size)) hlo _ _ _ _ _ _ _⟩, (x3.sets7 nA _ _ _ _ _ _ _).mono fun _ _ _ => trivial, (y3.sets7 nA _ _ _ _ _ _ _).mono fun _ _ _ => trivial, (l3.sets7 nA _ _ _ _ _ _ _).mono fun _ _ _ => trivial⟩
        clear x3 y3 l3 k3 hlo nA c0 c1 c2 c3 c4 c5 c6
        obtain ⟨c0, c1, c2, c3, c4, c5, c6⟩ := B3.out.cells
        obtain ⟨f0, f1, f2, f3, f4, f5, f6⟩ := B3.out.fzs
        go_wp2_with fail
        go_meet
        exact ⟨rfl, sa', sc', ba', bc', la', lc', FIN.out⟩
      case rest =>
        obtain ⟨rfl, sa', sc', ba', bc', la', lc', HE⟩ := hcut
        clear ECp F2 B2 K2 c0 c1 c2 c3 c4 c5 c6
        obtain ⟨d0, d1', d2, d3, d4, d5, d6⟩ := HE.out.1.1.cells
        go_wp2_with fail
        refine ⟨rfl, .tuple #[.agg #[.int .i64 k, .string ⟨n.toArray⟩, .string ⟨p.toArray⟩, .int .i64 m, .slice sa' en sc', .slice ba' bn bc', .slice la' ln lc'], .bool true], by simp [results, Try.results6, go_sem, d0, d1', d2, d3, d4, d5, d6], ?_⟩
        refine ⟨k, n, p, m, e, b, ll, sa', sc', ba', bc', la', lc', EQ.out, ?_, by rw [← HEN.out]; exact HE.out.2.1, by rw [← HBN.out]; exact HE.out.2.2.1, by rw [← HLN.out]; exact HE.out.2.2.2, HE.out.1.2⟩
        rw [YIS.out, HEN.out, HBN.out, HLN.out]
    · have h3 : Sy.cts bd < Q := by omega
      have HF2 := hidC (HFN.out.2 h3)
      have NO := hidC (fun w' (b : Below w.heap.size w w') => StQ.no (w := w) (l := bd) (q := (Q : Int)) (by omega) b)
      clear HFN HBd
      go_wp2_with fail
      refine HF2.out.mono ?_
      rintro e1 w2 ⟨rfl, g2, -⟩
      have B2 := hidC (B1.out.gb g2 (by omega))
      have K2 : Hid (Below w.heap.size w w2) := ⟨g2.os.trans K1.out.os, g2.tape.trans K1.out.tape, g2.output.trans K1.out.output, Nat.le_trans K1.out.size g2.size, fun i hi => (g2.block i (Nat.lt_of_lt_of_le hi K1.out.size) (by simp; have := HMM.out; omega)).trans (K1.out.block i hi)⟩
      clear g2 p3
      have B3 := hidC (B2.out.set7 (.int .i64 0) (.string ⟨#[]⟩) (.string ⟨#[]⟩) (.int .i64 0) (.slice none 0 0) (.slice none 0 0) (.slice none 0 0))
      have K3 := hidC (sets7_below K2.out (show w.heap.size ≤ M + 1 by rw [HMM.out]; exact Nat.le_succ _) (.int .i64 0) (.string ⟨#[]⟩) (.string ⟨#[]⟩) (.int .i64 0) (.slice none 0 0) (.slice none 0 0) (.slice none 0 0))
      obtain ⟨c0, c1, c2, c3, c4, c5, c6⟩ := B2.out.cells
      obtain ⟨f0, f1, f2, f3, f4, f5, f6⟩ := B2.out.fzs
      go_upto_region 5 with fail
      go_cut [5] from 16 to 16 (fun s5 wx => s5 = .bool false ∧ EnB w (M + 1) (.int .i64 0) (.string ⟨#[]⟩) (.string ⟨#[]⟩) (.int .i64 0) (.slice none 0 0) (.slice none 0 0) (.slice none 0 0) wx)
      case first =>
        go_wp2_with fail
        go_meet
        exact ⟨rfl, B3.out, K3.out⟩
      case rest =>
        obtain ⟨rfl, E1⟩ := hcut
        have HE := hidC E1
        clear E1 c0 c1 c2 c3 c4 c5 c6 f0 f1 f2 f3 f4 f5 f6 B3 K3
        obtain ⟨d0, d1', d2, d3, d4, d5, d6⟩ := HE.out.1.cells
        go_wp2_with fail
        exact ⟨rfl, .tuple #[.agg #[.int .i64 0, .string ⟨#[]⟩, .string ⟨#[]⟩, .int .i64 0, .slice none 0 0, .slice none 0 0, .slice none 0 0], .bool false], by simp [results, Try.results6, go_sem, d0, d1', d2, d3, d4, d5, d6], NO.out _ HE.out.2⟩
end Go.Proofs.Ytobiedmmjiedlaa

namespace Go.Proofs.Ytobiedmmjiedlaa
open Go.RowKit
set_option linter.unusedVariables false
set_option linter.unusedSimpArgs false
namespace Sy
mutual
def itl (last nx : Int) : List St → List (St × Int)
  | [] => []
  | x :: r => ite last nx x ++ itl last (nx + ct x) r
def ite (last nx : Int) : St → List (St × Int)
  | .mk k n p m e b l => (.mk k n p m e b l, last) :: (itl (nx + 1 + cts b - 1) (nx + 1) b ++ itl (nx + 1 + cts b + cts l - 1) (nx + 1 + cts b) l)
end
def its (nx : Int) (l : List St) : List (St × Int) := itl (nx + cts l - 1) nx l
mutual
theorem itl_fst (last nx : Int) : ∀ l : List St, (itl last nx l).map Prod.fst = rws l
  | [] => rfl
  | x :: r => by rw [itl, List.map_append, ite_fst last nx x, itl_fst last _ r, rws]
theorem ite_fst (last nx : Int) : ∀ x : St, (ite last nx x).map Prod.fst = rw x
  | .mk k n p m e b l => by
    rw [ite, List.map_cons, List.map_append, itl_fst _ _ b, itl_fst _ _ l, rw]
end
theorem itl_len (last nx : Int) (l : List St) : (itl last nx l).length = cts l := by
  have := congrArg List.length (itl_fst last nx l)
  rw [List.length_map, rws_len] at this
  exact this
theorem itl_app (last : Int) : ∀ (nx : Int) (a b : List St), itl last nx (a ++ b) = itl last nx a ++ itl last (nx + cts a) b
  | nx, [], b => by simp [itl, cts]
  | nx, x :: r, b => by
    rw [List.cons_append, itl, itl, itl_app last (nx + ct x) r b, List.append_assoc, cts]
    congr 3
    omega
theorem itl_take (last nx : Int) {l : List St} {j : Nat} {x : St} (h : l[j]? = some x) : itl last nx (l.take (j + 1)) = itl last nx (l.take j) ++ ite last (nx + cts (l.take j)) x := by
  rw [List.take_add_one, h, itl_app]
  simp [itl]
end Sy
theorem run_app_none {P : Program} {w : World} {base : Nat} {t ty e : TypeId} {i : TypeInfo} {size : Nat} (ht : P.underlying t = some (.slice e)) (hi : P.info? e = some i) {v : Value} {n : Nat} {xs : List Value} (hown : w.ownsRow base e size v n xs) (ad : Option Addr) (c : Nat) :
    (Builtin.append_ #[t, t] ty #[v, .slice ad 0 c]).run P w = .ok v w := by
  rcases hown.2 with ⟨rfl, -⟩ | ⟨g, cap, cur, rfl, -, -, hk, -⟩
  · cases ad <;> simp [Builtin.append_, run_underlying ht, sizeOf, run_typeInfo w hi, storeCells, go_sem]
  · cases ad <;> simp [Builtin.append_, run_underlying ht, sizeOf, run_typeInfo w hi, storeCells, go_sem, hk]
/-- A whole row, be there nothing in it, behind a row. -/
theorem wpList_app_own {P : Program} {V : World} {ops : Array Oper} {rest : List Oper} {o : Oper} {a : Act} {Q : Exit → Act → World → Prop} (hgd : o.guard = none) (s x : Operand) (t : TypeId)
    (ho : o.op = .call { callee := .builtin .append, args := #[s, x], argTypes := #[t, t] })
    (base : Nat) (e : TypeId) (i : TypeInfo) (z : Value) (size bytes : Nat) (ht : P.underlying t = some (.slice e)) (hi : P.info? e = some i) (hz : i.zero = some z)
    (hsize : i.size = size) (hby : i.bytes = bytes) (hzs : z.cells.size = size) (hsz : 0 < size)
    (v : Value) (n : Nat) (xs : List Value) (hs : a.eval s = v) (hown : V.ownsRow base e size v n xs)
    (ad : Option Addr) (m c : Nat) (hx : a.eval x = .slice ad m c) (base2 : Nat) (ys : List Value) (how2 : V.ownsRow base2 e size (.slice ad m c) m ys) (h1 : ∀ u ∈ ys, u.oneCell' = true)
    (h63 : n + m ≤ maxLen) (hbytes : (n + m) * bytes ≤ 140737488355328) (hbase : base ≤ V.heap.size)
    (h : ∀ v' w', w'.ownsRow base e size v' (n + m) (xs ++ ys) → V.grownBy w' v.ownBlock → (v'.ownBlock = v.ownBlock ∨ ∃ g, v'.ownBlock = some g ∧ V.heap.size ≤ g) → wpList P ops Q rest (a.put o.dst v') w') : wpList P ops Q (o :: rest) a V := by
  by_cases h0 : m = 0
  · subst h0
    have hy : ys = [] := by have := how2.1; simpa using this
    subst hy
    refine wpList_plain hgd fun K hK => ?_
    unfold Oper.wp execOp
    simp only [ho, resolve, invoke, builtin, Sem.run_bind, Sem.run_pure, Result.andThen_ok, List.map_toArray, List.map_cons, List.map_nil, hs, hx, run_app_none ht hi hown]
    exact hK _ _ (h _ _ (by rw [List.append_nil]; exact hown) ⟨rfl, rfl, rfl, Nat.le_refl _, fun _ _ _ => rfl⟩ (.inl rfl))
  · have hc := @World.ownsRow.cells _ _ _ _ _ _ _ how2
    rcases how2.2 with ⟨e1, e2⟩ | ⟨g, cap, cur, e1, _⟩
    · exact absurd e2 h0
    · injection e1 with q1 q2 q3
      subst q1
      exact wpList_append_told hgd s x t ho base e i z size bytes ht hi hz hsize hby hzs hsz v n xs hs hown ⟨g, 0, none⟩ m c ys hx how2.1 (hc rfl) h1 h63 hbytes hbase (by omega) h
end Go.Proofs.Ytobiedmmjiedlaa

namespace Go.Proofs.Ytobiedmmjiedlaa
open Go.RowKit
set_option linter.unusedVariables false
set_option linter.unusedSimpArgs false
theorem infoIm : (Try.prog.info? 65).map (fun i => (i.size, i.bytes)) = some (8, 128) := by kernel_rfl
theorem infoIz : ∃ i z, Try.prog.info? 65 = some i ∧ i.zero = some z ∧ i.size = 8 ∧ i.bytes = 128 ∧ z.cells.size = 8 := by
  have h : (Try.prog.info? 65).map (fun i => (i.zero.map (fun z => z.cells.size), i.size, i.bytes)) = some (some 8, 8, 128) := by kernel_rfl
  cases hx : Try.prog.info? 65 with
  | none => rw [hx] at h; cases h
  | some i =>
    rw [hx] at h
    simp at h
    obtain ⟨⟨z, h1, h2⟩, h3, h4⟩ := h
    exact ⟨i, z, rfl, h1, h3, h4, h2⟩
def ItV (k : Int) (n p : List UInt8) (m : Int) (s b l : Value) (last : Int) : List Value := [.int .i64 k, .string ⟨n.toArray⟩, .string ⟨p.toArray⟩, .int .i64 m, s, b, l, .int .i64 last]
def MadI (B : Nat) (w : World) (cells : List Value) (q : Nat) (y : Sy.St × Int) : Prop := ∃ k n p m sa sc ba bc la lc e b ll, y.1 = .mk k n p m e b ll ∧ (∀ i u, (ItV k n p m (.slice sa (e : List Sx.Ex).length sc) (.slice ba (b : List Sy.St).length bc) (.slice la (ll : List Sy.St).length lc) y.2)[i]? = some u → cells[q * 8 + i]? = some u) ∧
  ExS (fun g => g < B) w (.slice sa e.length sc) e ∧ SmS (fun g => g < B) w (.slice ba b.length bc) b ∧ SmS (fun g => g < B) w (.slice la ll.length lc) ll
structure RwI (B base : Nat) (w : World) (v : Value) (L : List (Sy.St × Int)) (cells : List Value) : Prop where
  own : w.ownsRow base 65 8 v L.length cells
  one : ∀ u ∈ cells, u.oneCell' = true
  mad : ∀ q y, L[q]? = some y → MadI B w cells q y
theorem ExS.lw {B n : Nat} {w w' : World} {sl : Value} {l : List Sx.Ex} (h : ExS (fun g => g < B) w sl l) (b : Below n w w') (hn : B ≤ n) : ExS (fun g => g < B) w' sl l :=
  h.keep (fun _ _ a => a) (fun q hA _ => b.cell (Nat.lt_of_lt_of_le hA hn)) b.size
theorem SmS.lw {B n : Nat} {w w' : World} {sl : Value} {l : List Sy.St} (h : SmS (fun g => g < B) w sl l) (b : Below n w w') (hn : B ≤ n) : SmS (fun g => g < B) w' sl l :=
  h.keep (fun _ _ a => a) (fun q hA _ => b.cell (Nat.lt_of_lt_of_le hA hn)) b.size
theorem MadI.later {B n : Nat} {w w' : World} {cells : List Value} {q : Nat} {y : Sy.St × Int} (h : MadI B w cells q y) (b : Below n w w') (hn : B ≤ n) : MadI B w' cells q y := by
  obtain ⟨k, n, p, m, sa, sc, ba, bc, la, lc, e, bb, ll, h1, h2, h3, h4, h5⟩ := h
  exact ⟨k, n, p, m, sa, sc, ba, bc, la, lc, e, bb, ll, h1, h2, h3.lw b hn, h4.lw b hn, h5.lw b hn⟩
theorem RwI.later {B base : Nat} {w w' : World} {v : Value} {L : List (Sy.St × Int)} {cells : List Value} (h : RwI B base w v L cells) (b : Below w.heap.size w w') (hB : B ≤ w.heap.size) : RwI B base w' v L cells :=
  ⟨own_later h.own b, h.one, fun q y hy => (h.mad q y hy).later b hB⟩
theorem RwI.put {B base : Nat} {w w' : World} {v v' : Value} {L L2 : List (Sy.St × Int)} {cells ys : List Value} (h : RwI B base w v L cells) (hl : ys.length = L2.length * 8) (ho : ∀ u ∈ ys, u.oneCell' = true) (hm : ∀ q y, L2[q]? = some y → MadI B w ys q y)
    (own : w'.ownsRow base 65 8 v' (L.length + L2.length) (cells ++ ys)) (b : Below B w w') : RwI B base w' v' (L ++ L2) (cells ++ ys) := by
  have hc := h.own.1
  refine ⟨by rw [List.length_append]; exact own, fun u hu => (List.mem_append.1 hu).elim (h.one u) (ho u), fun q y hy => ?_⟩
  by_cases c : q < L.length
  · rw [List.getElem?_append_left c] at hy
    obtain ⟨k, n, p, m, sa, sc, ba, bc, la, lc, e, bb, ll, h1, h2, h3, h4, h5⟩ := (h.mad q y hy).later b (Nat.le_refl _)
    refine ⟨k, n, p, m, sa, sc, ba, bc, la, lc, e, bb, ll, h1, fun i u hu => ?_, h3, h4, h5⟩
    have hi : i < 8 := by have := (List.getElem?_eq_some_iff.1 hu).1; simpa [ItV] using this
    exact (List.getElem?_append_left (by omega)).trans (h2 i u hu)
  · rw [List.getElem?_append_right (by omega)] at hy
    obtain ⟨k, n, p, m, sa, sc, ba, bc, la, lc, e, bb, ll, h1, h2, h3, h4, h5⟩ := (hm _ y hy).later b (Nat.le_refl _)
    refine ⟨k, n, p, m, sa, sc, ba, bc, la, lc, e, bb, ll, h1, fun i u hu => ?_, h3, h4, h5⟩
    rw [List.getElem?_append_right (by omega), hc, show q * 8 + i - L.length * 8 = (q - L.length) * 8 + i by omega]
    exact h2 i u hu
def RoC (l : List Sy.St) : Prop := ∀ (B : Nat) (sa : Option Addr) (sc : Nat) (w : World) (nx : Int), 0 ≤ nx → nx + (Sy.cts l : Int) ≤ 1000000000000000 → SmS (fun g => g < B) w (.slice sa l.length sc) l → B ≤ w.heap.size →
  Calls Try.prog 17 #[.slice sa l.length sc, .int .i64 nx] w fun e w' => ∃ v cells, e = .returned v ∧ RwI B w.heap.size w' v (Sy.its nx l) cells ∧ Below w.heap.size w w'
def RoP (x : Sy.St) : Prop := ∃ k n p m e b l, x = .mk k n p m e b l ∧ RoC b ∧ RoC l
theorem eight_cells (w : World) (c0 c1 c2 c3 c4 c5 c6 c7 : Value) (t : TypeId) : ∀ (j : Nat) u, [c0, c1, c2, c3, c4, c5, c6, c7][j]? = some u → (w.alloc (.cells #[c0, c1, c2, c3, c4, c5, c6, c7] t)).cell? ((⟨w.heap.size, 0, none⟩ : Addr).add j) = some u := by
  intro j u h
  have e : (⟨w.heap.size, 0, none⟩ : Addr).add j = ⟨w.heap.size, 0 + j, none⟩ := by unfold Addr.add; split <;> simp_all
  rw [e]
  have h0 := heap_alloc_new w (.cells #[c0, c1, c2, c3, c4, c5, c6, c7] t)
  unfold World.cell?
  dsimp only
  rw [h0]
  simpa using h
theorem belGrow {wr W w4 : World} {base size n : Nat} {e : TypeId} {v : Value} {xs : List Value} (hown : wr.ownsRow base e size v n xs) (bW : Below wr.heap.size wr W) (g4 : W.grownBy w4 v.ownBlock) (hb : base ≤ wr.heap.size) : Below base wr w4 :=
  ⟨g4.os.trans bW.os, g4.tape.trans bW.tape, g4.output.trans bW.output, Nat.le_trans bW.size g4.size, fun i hi => (g4.block i (Nat.lt_of_lt_of_le (Nat.lt_of_lt_of_le hi hb) bW.size) (fun e => by have := (World.ownsRow.lt hown i e.symm).1; omega)).trans (bW.block i (Nat.lt_of_lt_of_le hi hb))⟩
theorem itCat {last nx : Int} {l : List Sy.St} {j : Nat} {k : Int} {n p : List UInt8} {m : Int} {e : List Sx.Ex} {b ll : List Sy.St} (h : l[j]? = some (.mk k n p m e b ll)) :
    Sy.itl last nx (l.take (j + 1)) = ((Sy.itl last nx (l.take j) ++ [(.mk k n p m e b ll, last)]) ++ Sy.its (nx + (Sy.cts (l.take j) : Nat) + 1) b) ++ Sy.its (nx + (Sy.cts (l.take j) : Nat) + 1 + (Sy.cts b : Nat)) ll := by
  rw [Sy.itl_take last nx h, Sy.ite]
  simp only [Sy.its, List.append_assoc, List.cons_append, List.nil_append]
set_option maxRecDepth 100000 in
set_option maxHeartbeats 4000000 in
theorem row_loop (l : List Sy.St) (hl : Sy.cts l ≤ 1000000) (hP : ∀ x, x ∈ l → RoP x) : RoC l := by
  intro B sa sc w nx hn0 hn1 hs hBw
  obtain ⟨i0, z0, hi, hz0, hz1, hz2, hz3⟩ := infoIz
  have HS := hidC hs
  have HP := hidC hP
  have HBW := hidC hBw
  have HL := hidC hl
  have HX : Hid (0 ≤ nx ∧ nx + (Sy.cts l : Int) ≤ 1000000000000000) := ⟨hn0, hn1⟩
  have hll : l.length ≤ 1000000 := Nat.le_trans (Sy.len_cts l) hl
  have HTo := hidC (fun (W : World) (h : SmS (fun g => g < B) W (.slice sa l.length sc) l) => total_any l (fun g => g < B) sa sc W (Nat.le_trans hl (by decide)) h)
  obtain ⟨N, hN⟩ : ∃ N, N = l.length := ⟨_, rfl⟩
  have HN := hidC hN
  obtain ⟨T, hT⟩ : ∃ T, T = Sy.cts l := ⟨_, rfl⟩
  have HT := hidC hT
  obtain ⟨last, hlast⟩ : ∃ z, z = nx + (T : Int) - 1 := ⟨_, rfl⟩
  have HLast := hidC hlast
  have HTL : Hid (T ≤ 1000000) := by rw [hT]; exact hl
  have hx2 : nx + (T : Int) ≤ 1000000000000000 := by rw [hT]; exact hn1
  have w1' : wrap64 (nx + (T : Int)) = nx + (T : Int) := by unfold wrap64; omega
  have w2' : wrap64 (nx + (T : Int) - 1) = last := by rw [hlast]; unfold wrap64; omega
  rw [← hN] at HS hll HTo ⊢
  rw [← hT] at HTo
  have HT0 := hidC (HTo.out w HS.out)
  clear hs hP hN hT hlast hl hBw hn0 hn1 HTo hx2
  go_enter Try.func17, Try.ntmps17
  go_wp2_with fail
  refine HT0.out.mono ?_
  rintro e1 w1 ⟨rfl, k1⟩
  have K1 := hidC k1
  clear k1
  go_wp2_with fail
  simp only [w1', w2']
  go_loopg [1, 5, 7] N (fun gk nv v i wr => ∃ (j : Nat) (cells : List Value), j + gk = N ∧ i = .int .i64 j ∧ nv = .int .i64 (nx + (Sy.cts (l.take j) : Nat)) ∧ Hid (RwI B w.heap.size wr v (Sy.itl last nx (l.take j)) cells) ∧ Hid (Below w.heap.size w wr))
  case atStart => exact ⟨0, [], by omega, rfl, by simp [Sy.cts], ⟨World.ownsRow_nil _ _ _ _, by simp, fun q y h => by simp [Sy.itl] at h⟩, K1.out⟩
  case round =>
    obtain ⟨j, cells, hj, rfl, rfl, HR, KR⟩ := hrel
    rcases gk with _ | gk
    · obtain rfl : j = N := by omega
      have d1 : decide ((j : Int) < (j : Int)) = false := decide_eq_false (by omega)
      obtain ⟨va, vc, hv⟩ := own_shape HR.out.own
      subst hv
      have FIN : Hid (RwI B w.heap.size wr (.slice va (Sy.itl last nx (l.take j)).length vc) (Sy.its nx l) cells) := by
        have e : Sy.itl last nx (l.take j) = Sy.its nx l := by rw [HN.out, List.take_length, HLast.out, HT.out]; rfl
        have h := HR.out
        rw [e] at h ⊢
        exact h
      go_wp2_with fail
      go_ret
      exact ⟨_, cells, rfl, FIN.out, KR.out⟩
    · have d1 : decide ((j : Int) < (N : Int)) = true := decide_eq_true (by omega)
      have d1n : decide (j < N) = true := decide_eq_true (by omega)
      have hjN : j < N := by omega
      obtain ⟨g, o, k, n, p, m, ea, ec, ba, bc, la, lc, e, b, ll, rfl, ha, hg, el, h1⟩ := (HS.out.lw KR.out HBW.out).part j (by rw [← HN.out]; exact hjN)
      obtain ⟨k', n', p', m', e', b', l', ex, zb, zl⟩ := HP.out _ (List.mem_of_getElem? el)
      injection ex with x1 x2 x3 x4 x5 x6 x7
      subst x1 x2 x3 x4 x5 x6 x7
      have T1 := Sy.cts_take el
      have T2 := Sy.cts_at el
      rw [Sy.ct] at T1 T2
      have CAT := hidC (itCat (last := last) (nx := nx) el)
      obtain ⟨cj, hcj⟩ : ∃ c, c = Sy.cts (l.take j) := ⟨_, rfl⟩
      obtain ⟨tb, htb⟩ : ∃ c, c = Sy.cts b := ⟨_, rfl⟩
      obtain ⟨tl, htl⟩ : ∃ c, c = Sy.cts ll := ⟨_, rfl⟩
      have HTB := hidC htb
      have HTL2 := hidC htl
      obtain ⟨Pl, hPl⟩ : ∃ c, c = Sy.itl last nx (l.take j) := ⟨_, rfl⟩
      have HPL : Hid (Pl.length = cj) := by rw [hPl, hcj]; exact Sy.itl_len _ _ _
      rw [← hcj, ← htb, ← htl] at T1 T2
      rw [← hcj, ← hPl, ← htb] at CAT
      rw [← hPl] at HR
      rw [← hcj]
      have hlb := HL.out
      have hnx := HX.out
      have HBd : Hid (0 ≤ nx + (cj : Int) + 1 ∧ nx + (cj : Int) + 1 + tb + tl ≤ 1000000000000000 ∧ cj + 1 + tb + tl ≤ 1000000) := ⟨by omega, by omega, by omega⟩
      have HNJ : Hid (Sy.cts (l.take (j + 1)) = cj + 1 + tb + tl) := by unfold Hid; omega
      have EB := hidC (fun (W : World) (q : Below w.heap.size wr W) => zb B ba bc W (nx + (cj : Int) + 1) HBd.out.1 (by have := HBd.out.2.1; omega) (h1.hb.lw q HBW.out) (Nat.le_trans HBW.out (Nat.le_trans KR.out.size q.size)))
      have ELs := hidC (fun (W : World) (q : Below w.heap.size wr W) => zl B la lc W (nx + (cj : Int) + 1 + tb) (by have := HBd.out.1; omega) (by have := HBd.out.2.1; omega) (h1.hl.lw q HBW.out) (Nat.le_trans HBW.out (Nat.le_trans KR.out.size q.size)))
      have HMad : Hid (∀ q y, [(Sy.St.mk k n p m e b ll, last)][q]? = some y → MadI B wr (ItV k n p m (.slice ea e.length ec) (.slice ba b.length bc) (.slice la ll.length lc) last) q y) := fun q y hy => by
        cases q with
        | zero => cases hy; exact ⟨k, n, p, m, ea, ec, ba, bc, la, lc, e, b, ll, rfl, fun i u hu => (by rw [Nat.zero_mul, Nat.zero_add]; exact hu), h1.he, h1.hb, h1.hl⟩
        | succ q => simp at hy
      obtain ⟨c0, c1, c2, c3, c4, c5, c6, -, -, -⟩ := h1
      obtain ⟨va, vc, hv⟩ := own_shape HR.out.own
      rw [HPL.out] at hv
      subst hv
      obtain ⟨en, hen⟩ : ∃ n, n = e.length := ⟨_, rfl⟩
      obtain ⟨bn, hbn⟩ : ∃ n, n = b.length := ⟨_, rfl⟩
      obtain ⟨ln, hln⟩ : ∃ n, n = ll.length := ⟨_, rfl⟩
      rw [← hen] at HMad c4
      rw [← hbn] at EB HMad c5
      rw [← hln] at ELs HMad c6
      have HGB : Hid (g < w.heap.size) := Nat.lt_of_lt_of_le ha HBW.out
      have hz0s : w.heap.size ≤ wr.heap.size := KR.out.size
      have OW : Hid (wr.ownsRow w.heap.size 65 8 (.slice va cj vc) cj cells) := by have h := HR.out.own; rw [HPL.out] at h; exact h
      have RW := hidC (own_later OW.out (box_below wr (.cells #[.int .i64 k, .string ⟨n.toArray⟩, .string ⟨p.toArray⟩, .int .i64 m, .slice ea en ec, .slice ba bn bc, .slice la ln lc, .int .i64 last] 65)))
      have EIG : Hid (∀ (i : Nat) u, (ItV k n p m (.slice ea en ec) (.slice ba bn bc) (.slice la ln lc) last)[i]? = some u → (wr.alloc (.cells #[.int .i64 k, .string ⟨n.toArray⟩, .string ⟨p.toArray⟩, .int .i64 m, .slice ea en ec, .slice ba bn bc, .slice la ln lc, .int .i64 last] 65)).cell? ((⟨wr.heap.size, 0, none⟩ : Addr).add i) = some u) := eight_cells _ _ _ _ _ _ _ _ _ _
      have ONE : Hid (∀ u ∈ ItV k n p m (.slice ea en ec) (.slice ba bn bc) (.slice la ln lc) last, u.oneCell' = true) := by intro x hx; simp [ItV] at hx; rcases hx with rfl | rfl | rfl | rfl | rfl | rfl | rfl | rfl <;> rfl
      have H63 : Hid ((cj + 1 ≤ maxLen ∧ (cj + 1) * 128 ≤ 140737488355328) ∧ (cj + 1 + tb ≤ maxLen ∧ (cj + 1 + tb) * 128 ≤ 140737488355328) ∧ (cj + 1 + tb + tl ≤ maxLen ∧ (cj + 1 + tb + tl) * 128 ≤ 140737488355328)) := by have := HBd.out.2.2; unfold Hid maxLen; omega
      have v1' : wrap64 (nx + (cj : Int) + 1) = nx + (cj : Int) + 1 := by have := HBd.out; unfold wrap64; omega
      have v2' : wrap64 (nx + (cj : Int) + 1 + tb) = nx + (cj : Int) + 1 + tb := by have := HBd.out; unfold wrap64; omega
      have v3' : wrap64 (nx + (cj : Int) + 1 + tb + tl) = nx + (cj : Int) + 1 + tb + tl := by have := HBd.out; unfold wrap64; omega
      clear hen hbn hln el zb zl ha hg T1 T2 hlb hnx hcj htb htl hPl
      go_wp2_with (at_builtin; refine wpList_append_told rfl _ _ 62 rfl w.heap.size 65 i0 z0 8 128 Try.underlying62 hi hz0 hz1 hz2 hz3 (by decide) _ cj cells rfl RW.out ⟨wr.heap.size, 0, none⟩ 1 1 (ItV k n p m (.slice ea en ec) (.slice ba bn bc) (.slice la ln lc) last) rfl rfl EIG.out ONE.out H63.out.1.1 H63.out.1.2 (by simp; exact Nat.le_trans hz0s (Nat.le_succ _)) (by decide) ?_)
      intro v4 w4 h4 g4 o4
      have B4 : Hid (Below w.heap.size wr w4) := belGrow OW.out (box_below wr _) g4 hz0s
      have S4 : Hid (wr.heap.size ≤ w4.heap.size) := B4.out.size
      have R4 : Hid (RwI B w.heap.size w4 v4 (Pl ++ [(.mk k n p m e b ll, last)]) (cells ++ ItV k n p m (.slice ea en ec) (.slice ba bn bc) (.slice la ln lc) last)) := HR.out.put (L2 := [(.mk k n p m e b ll, last)]) rfl ONE.out HMad.out (by rw [HPL.out]; exact h4) (B4.out.mono HBW.out)
      obtain ⟨v4a, v4c, hv4⟩ := own_shape h4
      subst hv4
      have OV4 := hidC (World.ownsRow.lt h4)
      have O4 := hidC h4
      have EB4 := hidC (EB.out w4 B4.out)
      have c6' := (B4.out.cell (p := ⟨g, o + j * 7 + 6, none⟩) HGB.out).trans c6
      have c5' := (B4.out.cell (p := ⟨g, o + j * 7 + 5, none⟩) HGB.out).trans c5
      clear h4 g4 o4 EIG RW c0 c1 c2 c3 c4 c5 c6
      go_wp2_with fail
      refine EB4.out.mono ?_
      rintro e5 w5 ⟨v5, cells5, rfl, r5, k5⟩
      obtain ⟨v5a, v5c, hv5⟩ := own_shape r5.own
      rw [show (Sy.its (nx + (cj : Int) + 1) b).length = tb by rw [HTB.out]; exact Sy.itl_len _ _ _] at hv5
      subst hv5
      have B5 : Hid (Below w.heap.size wr w5) := B4.out.trans (k5.mono (Nat.le_trans hz0s S4.out))
      have K5 := hidC k5
      have R5 := hidC r5
      have EL5 := hidC (ELs.out w5 B5.out)
      have c6 := (k5.cell (p := ⟨g, o + j * 7 + 6, none⟩) (Nat.lt_of_lt_of_le HGB.out (Nat.le_trans hz0s S4.out))).trans c6'
      clear r5 k5 c6' c5'
      go_wp2_with fail
      refine EL5.out.mono ?_
      rintro e6 w6 ⟨v6, cells6, rfl, r6, k6⟩
      obtain ⟨v6a, v6c, hv6⟩ := own_shape r6.own
      rw [show (Sy.its (nx + (cj : Int) + 1 + (tb : Nat)) ll).length = tl by rw [HTL2.out]; exact Sy.itl_len _ _ _] at hv6
      subst hv6
      have Z45 := hidC K5.out.size
      have Z56 := hidC k6.size
      have Z04 : Hid (B ≤ w4.heap.size) := Nat.le_trans HBW.out (Nat.le_trans hz0s S4.out)
      have R46 : Hid (RwI B w.heap.size w6 (.slice v4a (cj + 1) v4c) (Pl ++ [(.mk k n p m e b ll, last)]) (cells ++ ItV k n p m (.slice ea en ec) (.slice ba bn bc) (.slice la ln lc) last)) := R4.out.later (K5.out.trans (k6.mono Z45.out)) Z04.out
      have R56 : Hid (RwI B w4.heap.size w6 (.slice v5a tb v5c) (Sy.its (nx + (cj : Int) + 1) b) cells5) := R5.out.later k6 (Nat.le_trans Z04.out Z45.out)
      have OW6 : Hid (w6.ownsRow w.heap.size 65 8 (.slice v4a (cj + 1) v4c) (cj + 1) (cells ++ ItV k n p m (.slice ea en ec) (.slice ba bn bc) (.slice la ln lc) last)) := own_later (own_later O4.out K5.out) k6
      have OB6 : Hid (w6.ownsRow w4.heap.size 65 8 (.slice v5a tb v5c) tb cells5) := by have h := R56.out.own; rw [show (Sy.its (nx + (cj : Int) + 1) b).length = tb by rw [HTB.out]; exact Sy.itl_len _ _ _] at h; exact h
      have OE6 : Hid (w6.ownsRow w5.heap.size 65 8 (.slice v6a tl v6c) tl cells6) := by have h := r6.own; rw [show (Sy.its (nx + (cj : Int) + 1 + (tb : Nat)) ll).length = tl by rw [HTL2.out]; exact Sy.itl_len _ _ _] at h; exact h
      have R6 := hidC r6
      have ZB6 : Hid (w.heap.size ≤ w6.heap.size) := Nat.le_trans (Nat.le_trans hz0s S4.out) (Nat.le_trans Z45.out Z56.out)
      have B6 : Hid (Below w.heap.size wr w6) := B5.out.trans (k6.mono (Nat.le_trans (Nat.le_trans hz0s S4.out) Z45.out))
      clear r6 k6 c6 R5 R4 O4
      go_wp2_with (at_builtin; refine wpList_app_own rfl _ _ 62 rfl w.heap.size 65 i0 z0 8 128 Try.underlying62 hi hz0 hz1 hz2 hz3 (by decide) _ (cj + 1) _ rfl OW6.out v5a tb v5c rfl w4.heap.size cells5 OB6.out R56.out.one H63.out.2.1.1 H63.out.2.1.2 ZB6.out ?_)
      intro v7 w7 h7 g7 o7
      have B7 : Hid (Below w.heap.size w6 w7) := belGrow OW6.out (Below.refl _ _) g7 ZB6.out
      have ZB7 : Hid (w.heap.size ≤ w7.heap.size) := Nat.le_trans ZB6.out B7.out.size
      have R7 : Hid (RwI B w.heap.size w7 v7 ((Pl ++ [(.mk k n p m e b ll, last)]) ++ Sy.its (nx + (cj : Int) + 1) b) ((cells ++ ItV k n p m (.slice ea en ec) (.slice ba bn bc) (.slice la ln lc) last) ++ cells5)) := R46.out.put R56.out.own.1 R56.out.one R56.out.mad (by rw [List.length_append, HPL.out, show (Sy.its (nx + (cj : Int) + 1) b).length = tb by rw [HTB.out]; exact Sy.itl_len _ _ _]; simp only [List.append_assoc]; exact h7) (B7.out.mono HBW.out)
      have OE7 : Hid (w7.ownsRow w5.heap.size 65 8 (.slice v6a tl v6c) tl cells6) := by
        refine World.ownsRow.kept OE6.out g7 ?_
        cases hx : (Value.slice v6a tl v6c).ownBlock with
        | none => exact .inl rfl
        | some y => exact .inr (fun e => by have h1 := (World.ownsRow.lt OE6.out y hx).1; have h2 := (OV4.out y e.symm).2; have h3 := Z45.out; omega)
      obtain ⟨v7a, v7c, hv7⟩ := own_shape h7
      subst hv7
      have OW7 := hidC h7
      have HMad7 : Hid (∀ q y, (Sy.its (nx + (cj : Int) + 1 + (tb : Nat)) ll)[q]? = some y → MadI B w7 cells6 q y) := fun q y hy => (R6.out.mad q y hy).later B7.out HBW.out
      clear h7 g7 o7
      go_wp2_with (at_builtin; refine wpList_app_own rfl _ _ 62 rfl w.heap.size 65 i0 z0 8 128 Try.underlying62 hi hz0 hz1 hz2 hz3 (by decide) _ (cj + 1 + tb) _ rfl OW7.out v6a tl v6c rfl w5.heap.size cells6 OE7.out R6.out.one H63.out.2.2.1 H63.out.2.2.2 ZB7.out ?_)
      intro v8 w8 h8 g8 o8
      have B8 : Hid (Below w.heap.size w7 w8) := belGrow OW7.out (Below.refl _ _) g8 ZB7.out
      have R8 : Hid (RwI B w.heap.size w8 v8 (Sy.itl last nx (l.take (j + 1))) (((cells ++ ItV k n p m (.slice ea en ec) (.slice ba bn bc) (.slice la ln lc) last) ++ cells5) ++ cells6)) := by
        rw [CAT.out]
        exact R7.out.put R6.out.own.1 R6.out.one HMad7.out (by rw [List.length_append, List.length_append, HPL.out, show (Sy.its (nx + (cj : Int) + 1) b).length = tb by rw [HTB.out]; exact Sy.itl_len _ _ _, show (Sy.its (nx + (cj : Int) + 1 + (tb : Nat)) ll).length = tl by rw [HTL2.out]; exact Sy.itl_len _ _ _]; simp only [List.append_assoc]; exact h8) (B8.out.mono HBW.out)
      have K8 := hidC (KR.out.trans (B6.out.trans (B7.out.trans B8.out)))
      clear h8 g8 o8
      go_wp2_with fail
      go_roundg gk
      case measure => omega
      case rel => exact ⟨j + 1, _, by omega, by go_num, by rw [HNJ.out]; first | (exact congrArg _ (by push_cast; omega)) | (rw [v3']; exact congrArg _ (by push_cast; omega)) | go_num, R8, K8⟩
theorem row_st (x : Sy.St) : Sy.ct x ≤ 1000000 → RoP x := by
  refine Sy.ind (P := fun x => Sy.ct x ≤ 1000000 → RoP x) (fun k n p m e b l ihb ihl h => ?_) x
  rw [Sy.ct] at h
  exact ⟨k, n, p, m, e, b, l, rfl, row_loop b (by omega) fun x hx => ihb x hx (Nat.le_trans (Sy.ct_mem hx) (by omega)), row_loop l (by omega) fun x hx => ihl x hx (Nat.le_trans (Sy.ct_mem hx) (by omega))⟩
theorem row_any (l : List Sy.St) (hl : Sy.cts l ≤ 1000000) : RoC l := row_loop l hl fun x hx => row_st x (Nat.le_trans (Sy.ct_mem hx) hl)
end Go.Proofs.Ytobiedmmjiedlaa
