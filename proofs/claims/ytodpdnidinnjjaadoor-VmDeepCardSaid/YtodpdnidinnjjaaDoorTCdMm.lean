/- CodeMore: codes in memory, cell by cell, and an owned row of codes. -/
import Derived.Test.YtodpdnidinnjjaaDoorTCdPl
import Derived.Test.YtodpdnidinnjjaaDoorTCdB
import Derived.Test.YtodpdnidinnjjaaDoorTPlain
import Derived.Lib.Split
import Derived.Lib.IndexBytes
import Derived.Lib.Join
import Derived.Test.YtodpdnidinnjjaaDoorTGrN
import Derived.Test.YtodpdnidinnjjaaDoorRows
import Derived.WalkKit
import Derived.WalkMore
import Derived.WalkSpells
import Derived.WalkLawsBesides
import Derived.Shelf.Small.Wraps
import Derived.Shelf.Strings.Prefix
import Derived.Test.YtodpdnidinnjjaaDoorProg
import Derived.Lib.AppendIntMem
import Derived.Deep.QuietTactic
import Derived.BigQuiet
import Derived.Shelf.Strings.Builder1
import Derived.RowKit
import Derived.KernelRfl
import Derived.Test.YtodpdnidinnjjaaDoorTCdG
import Derived.Test.YtodpdnidinnjjaaDoorTCdL
import Derived.Deep.DeepAppendWide
namespace Go.Proofs.YtodpdnidinnjjaaDoor
open Go.RowKit
set_option linter.unusedVariables false

theorem adM (g o n : Nat) : (⟨g, o, none⟩ : Addr).add n = ⟨g, o + n, none⟩ := by simp [Addr.add]
/-- A code as it lies: where its instructions are, how many there may be, and itself. -/
structure Lc where
  ia : Option Addr
  ic : Nat
  c : Cd.Co
def Lc.cs (p : Lc) : List Value := [.slice p.ia p.c.ins.length p.ic, .int .i64 p.c.cells, .int .i64 p.c.params, .bool p.c.ans]
def LcS (ps : List Lc) : List Value := ps.flatMap Lc.cs
theorem LcS_len : ∀ ps : List Lc, (LcS ps).length = ps.length * 4
  | [] => rfl
  | p :: ps => by
    have := LcS_len ps
    unfold LcS at this ⊢
    rw [List.flatMap_cons, List.length_append, this, List.length_cons]
    show 4 + _ = _
    omega
theorem LcS_one (ps : List Lc) : ∀ u ∈ LcS ps, u.oneCell' = true := by
  intro u hu
  obtain ⟨p, _, hp⟩ := List.mem_flatMap.1 hu
  unfold Lc.cs at hp
  simp only [List.mem_cons, List.not_mem_nil, or_false] at hp
  rcases hp with rfl | rfl | rfl | rfl <;> rfl
theorem LcS_get : ∀ (ps : List Lc) (j : Nat) (p : Lc), ps[j]? = some p → (LcS ps)[j * 4]? = some (.slice p.ia p.c.ins.length p.ic) ∧ (LcS ps)[j * 4 + 1]? = some (.int .i64 p.c.cells) ∧ (LcS ps)[j * 4 + 2]? = some (.int .i64 p.c.params) ∧ (LcS ps)[j * 4 + 3]? = some (.bool p.c.ans)
  | [], j, p, h => by simp at h
  | q :: ps, 0, p, h => by
    simp at h
    subst h
    exact ⟨rfl, rfl, rfl, rfl⟩
  | q :: ps, j + 1, p, h => by
    have ih := LcS_get ps j p (by simpa using h)
    have e : ∀ k, (LcS (q :: ps))[(j + 1) * 4 + k]? = (LcS ps)[j * 4 + k]? := fun k => by
      unfold LcS
      rw [List.flatMap_cons, List.getElem?_append_right (by show 4 ≤ _; omega)]
      congr 1
      show _ - 4 = _
      omega
    exact ⟨(e 0).trans ih.1, (e 1).trans ih.2.1, (e 2).trans ih.2.2.1, (e 3).trans ih.2.2.2⟩
theorem LcS_app (ps qs : List Lc) : LcS (ps ++ qs) = LcS ps ++ LcS qs := List.flatMap_append
/-- What lies for codes. -/
structure LcM (B : Nat) (w : World) (a : Addr) (l : List Cd.Co) (ps : List Lc) : Prop where
  eq : ps.map Lc.c = l
  get : ∀ j u, (LcS ps)[j]? = some u → w.cell? (a.add j) = some u
  hi : ∀ p ∈ ps, InS B w p.ia p.c.ins ∧ p.c.ins.length ≤ p.ic
theorem lists_of {α β : Type} {R : Nat → α → β → Prop} : ∀ (l : List α) (k : Nat), (∀ j c, l[j]? = some c → ∃ y, R (k + j) c y) → ∃ ys : List β, ys.length = l.length ∧ ∀ j c y, l[j]? = some c → ys[j]? = some y → R (k + j) c y
  | [], k, _ => ⟨[], rfl, fun j c y h => by simp at h⟩
  | c :: l, k, h => by
    obtain ⟨y, hy⟩ := h 0 c rfl
    obtain ⟨ys, e, hs⟩ := lists_of l (k + 1) fun j d hj => by
      obtain ⟨z, hz⟩ := h (j + 1) d (by simpa using hj)
      exact ⟨z, by rw [Nat.add_assoc, Nat.add_comm 1 j]; exact hz⟩
    refine ⟨y :: ys, by simp [e], fun j d z hd hz => ?_⟩
    match j with
    | 0 => simp at hd hz; subst hd; subst hz; exact hy
    | j + 1 =>
      have := hs j d z (by simpa using hd) (by simpa using hz)
      rw [Nat.add_assoc, Nat.add_comm 1 j] at this
      exact this
theorem CoS.lcm {B : Nat} {w : World} {la : Option Addr} {l : List Cd.Co} (h : CoS B w la l) (h0 : 0 < l.length) : ∃ g o ps, la = some ⟨g, o, none⟩ ∧ g < B ∧ LcM B w ⟨g, o, none⟩ l ps := by
  obtain ⟨g, o, rfl, hg, hc⟩ := h.2 h0
  obtain ⟨ys, e, hs⟩ := lists_of (R := fun j c (y : Option Addr × Nat) => CoAt B w g (o + j * 4) c y.1 y.2) l 0 fun j c hj => by
    obtain ⟨ia, ic, q⟩ := hc j c hj
    exact ⟨(ia, ic), by rw [Nat.zero_add]; exact q⟩
  refine ⟨g, o, (l.zip ys).map fun p => ⟨p.2.1, p.2.2, p.1⟩, rfl, hg, ?_, fun j u hu => ?_, fun p hp => ?_⟩
  · rw [List.map_map]
    show (l.zip ys).map (fun p => p.1) = l
    rw [List.map_fst_zip]
    omega
  · obtain ⟨k, r, rfl, h4⟩ : ∃ k r, j = k * 4 + r ∧ r < 4 := ⟨j / 4, j % 4, by omega, Nat.mod_lt _ (by decide)⟩
    have hj : k < l.length := by
      have := (List.getElem?_eq_some_iff.1 hu).1
      rw [LcS_len, List.length_map, List.length_zip, e, Nat.min_self] at this
      omega
    obtain ⟨c, hc1⟩ : ∃ c, l[k]? = some c := ⟨_, List.getElem?_eq_getElem hj⟩
    obtain ⟨y, hy⟩ : ∃ y, ys[k]? = some y := ⟨_, List.getElem?_eq_getElem (by omega)⟩
    have hp : ((l.zip ys).map fun p => (⟨p.2.1, p.2.2, p.1⟩ : Lc))[k]? = some ⟨y.1, y.2, c⟩ := by
      rw [List.getElem?_map, (List.getElem?_zip_eq_some (z := (c, y))).2 ⟨hc1, hy⟩]
      rfl
    have q := hs k _ _ hc1 hy
    rw [Nat.zero_add] at q
    obtain ⟨a0, a1, a2, a3⟩ := LcS_get _ _ _ hp
    rw [adM]
    match r, h4 with
    | 0, _ => rw [Nat.add_zero] at hu; rw [a0] at hu; rw [Nat.add_zero, ← hu]; exact q.c0
    | 1, _ => rw [a1] at hu; rw [← hu, ← Nat.add_assoc]; exact q.c1
    | 2, _ => rw [a2] at hu; rw [← hu, ← Nat.add_assoc]; exact q.c2
    | 3, _ => rw [a3] at hu; rw [← hu, ← Nat.add_assoc]; exact q.c3
  · obtain ⟨x, hx, rfl⟩ := List.mem_map.1 hp
    obtain ⟨j, hj⟩ := List.getElem?_of_mem hx
    have hj1 : l[j]? = some x.1 := by
      have := (List.getElem?_zip_eq_some.1 hj).1
      exact this
    have hj2 : ys[j]? = some x.2 := (List.getElem?_zip_eq_some.1 hj).2
    have q := hs j _ _ hj1 hj2
    exact ⟨q.hi, q.hc⟩
/-- An owned row of codes is codes in memory. -/
theorem own_cos {w : World} {base : Nat} {e : TypeId} {v : Value} {ps : List Lc} {n : Nat} (h : w.ownsRow base e 4 v n (LcS ps)) (hn : n = ps.length) (h0 : 0 < n) (hb : n ≤ 1000000000000000) (hi : ∀ p ∈ ps, InS w.heap.size w p.ia p.c.ins ∧ p.c.ins.length ≤ p.ic) : ∃ a cap, v = .slice a n cap ∧ CoS w.heap.size w a (ps.map Lc.c) := by
  have hc := @World.ownsRow.cells _ _ _ _ _ _ _ h
  have hl := h.lt
  rcases h.2 with ⟨_, h1⟩ | ⟨g, cap, cur, rfl, _⟩
  · omega
  · refine ⟨_, cap, rfl, by rw [List.length_map]; omega, fun _ => ⟨g, 0, rfl, (hl g rfl).2, fun j c hj => ?_⟩⟩
    rw [List.getElem?_map] at hj
    obtain ⟨p, hp, rfl⟩ := Option.map_eq_some_iff.1 hj
    obtain ⟨a0, a1, a2, a3⟩ := LcS_get _ _ _ hp
    have q := hi p (List.mem_of_getElem? hp)
    have get := fun j u hu => @hc g rfl j u hu
    refine ⟨p.ia, p.ic, ?_, ?_, ?_, ?_, q.1, q.2⟩
    · have := get _ _ a0; rw [adM] at this; exact this
    · have := get _ _ a1; rw [adM] at this; rw [Nat.add_assoc]; exact this
    · have := get _ _ a2; rw [adM] at this; rw [Nat.add_assoc]; exact this
    · have := get _ _ a3; rw [adM] at this; rw [Nat.add_assoc]; exact this
end Go.Proofs.YtodpdnidinnjjaaDoor
