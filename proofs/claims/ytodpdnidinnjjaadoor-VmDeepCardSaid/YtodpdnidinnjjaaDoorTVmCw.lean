/- Layer 9: codes and numbers within blocks; copied: codes in memory of their own. -/
import Derived.Test.YtodpdnidinnjjaaDoorTVmCl
import Derived.Test.YtodpdnidinnjjaaDoorTCdMm
import Derived.Test.YtodpdnidinnjjaaDoorTVmM
import Derived.Test.YtodpdnidinnjjaaDoorTVmF
import Derived.Deep.LoopGhost
namespace Go.Proofs.YtodpdnidinnjjaaDoor
open Go.RowKit
set_option linter.unusedVariables false
set_option linter.unusedSimpArgs false

def InX (l : List Cd.In) : List Value := l.flatMap fun i => [.int .i64 i.op, .int .i64 i.n, .int .i64 i.m]
theorem InX_len : ∀ l : List Cd.In, (InX l).length = l.length * 3
  | [] => rfl
  | p :: ps => by
    have := InX_len ps
    simp only [InX, List.flatMap_cons, List.length_append, List.length_cons, List.length_nil] at this ⊢
    omega
theorem InX_one (ps : List Cd.In) : ∀ u ∈ InX ps, u.oneCell' = true := by
  intro u hu
  obtain ⟨p, _, hp⟩ := List.mem_flatMap.1 hu
  simp only [List.mem_cons, List.not_mem_nil, or_false] at hp
  rcases hp with rfl | rfl | rfl <;> rfl
theorem InX_get : ∀ (ps : List Cd.In) (j : Nat) (p : Cd.In), ps[j]? = some p → (InX ps)[j * 3]? = some (.int .i64 p.op) ∧ (InX ps)[j * 3 + 1]? = some (.int .i64 p.n) ∧ (InX ps)[j * 3 + 2]? = some (.int .i64 p.m)
  | [], j, p, h => by simp at h
  | q :: ps, 0, p, h => by
    simp at h
    subst h
    exact ⟨rfl, rfl, rfl⟩
  | q :: ps, j + 1, p, h => by
    have ih := InX_get ps j p (by simpa using h)
    have e : ∀ k, (InX (q :: ps))[(j + 1) * 3 + k]? = (InX ps)[j * 3 + k]? := fun k => by
      unfold InX
      rw [List.flatMap_cons, List.getElem?_append_right (by show 3 ≤ _; omega)]
      congr 1
      show _ - 3 = _
      omega
    exact ⟨(e 0).trans ih.1, (e 1).trans ih.2.1, (e 2).trans ih.2.2⟩
theorem InX_cell {w : World} {g o : Nat} {l : List Cd.In} (h : ∀ j i, l[j]? = some i → InAt w g (o + j * 3) i) : ∀ j u, (InX l)[j]? = some u → w.cell? ((⟨g, o, none⟩ : Addr).add j) = some u := fun j u hu => by
  obtain ⟨k, r, rfl, h3⟩ : ∃ k r, j = k * 3 + r ∧ r < 3 := ⟨j / 3, j % 3, by omega, Nat.mod_lt _ (by decide)⟩
  have hj : k < l.length := by
    have := (List.getElem?_eq_some_iff.1 hu).1
    rw [InX_len] at this
    omega
  have e := List.getElem?_eq_getElem hj
  have q := InX_get l k _ e
  have a := h k _ e
  rw [adM]
  match r, h3 with
  | 0, _ => rw [Nat.add_zero, q.1] at hu; cases hu; exact a.c0
  | 1, _ => rw [q.2.1] at hu; cases hu; exact a.c1
  | 2, _ => rw [q.2.2] at hu; cases hu; exact a.c2
/-- A row of one's own is instructions, or numbers, within blocks. -/
theorem own_inW {w : World} {base n : Nat} {e : TypeId} {v : Value} {l : List Cd.In} (h : w.ownsRow base e 3 v n (InX l)) (hn : n = l.length) (hb : n ≤ 1000000000000000) : ∃ a cap, v = .slice a n cap ∧ n ≤ cap ∧ InW base w.heap.size w a l := by
  have hc := @World.ownsRow.cells _ _ _ _ _ _ _ h
  have hl := h.lt
  rcases h.2 with ⟨hv, h1⟩ | ⟨g, cap, cur, rfl, hbg, _, hcap, _⟩
  · exact ⟨none, 0, by rw [hv, h1], by omega, by omega, fun h0 => by omega⟩
  · refine ⟨_, cap, rfl, hcap, by omega, fun _ => ⟨g, 0, rfl, hbg, (hl g rfl).2, fun j i hj => ?_⟩⟩
    obtain ⟨a0, a1, a2⟩ := InX_get _ _ _ hj
    have get := fun j u hu => @hc g rfl j u hu
    refine ⟨?_, ?_, ?_⟩
    · have := get _ _ a0; rw [adM] at this; exact this
    · have := get _ _ a1; rw [adM] at this; rw [Nat.add_assoc]; exact this
    · have := get _ _ a2; rw [adM] at this; rw [Nat.add_assoc]; exact this
theorem own_nuW {w : World} {base n : Nat} {e : TypeId} {v : Value} {l : List Int} (h : w.ownsRow base e 1 v n (nC l)) (hn : n = l.length) : ∃ a cap, v = .slice a n cap ∧ n ≤ cap ∧ NuW base w.heap.size w a l := by
  have hc := @World.ownsRow.cells _ _ _ _ _ _ _ h
  have hl := h.lt
  rcases h.2 with ⟨hv, h1⟩ | ⟨g, cap, cur, rfl, hbg, _, hcap, _⟩
  · exact ⟨none, 0, by rw [hv, h1], by omega, fun h0 => by omega⟩
  · refine ⟨_, cap, rfl, hcap, fun _ => ⟨g, 0, rfl, hbg, (hl g rfl).2, fun j i hj => ?_⟩⟩
    have := @hc g rfl j (.int .i64 i) (by simp [nC, hj])
    rw [adM] at this
    exact this
theorem cloneIns (w : World) (ia : Option Addr) (ic : Nat) (l : List Cd.In) (h : InS w.heap.size w ia l) (hb : l.length ≤ 1000000) : Calls Tryd.prog 68 #[.slice ia l.length ic] w fun e w' => ∃ a' c', e = .returned (.slice a' l.length c') ∧ l.length ≤ c' ∧ InW w.heap.size w'.heap.size w' a' l ∧ Below w.heap.size w w' := by
  refine (cloneIn w ia l.length ic (InX l) (fun e => ?_) (InX_len l) (fun ad e => ?_) (InX_one l) (by omega)).mono fun e w' ⟨v', h1, h2, h3⟩ => ?_
  · rcases Nat.eq_zero_or_pos l.length with h0 | h0
    · exact h0
    · obtain ⟨g, o, e2, _⟩ := h.2 h0
      rw [e] at e2
      cases e2
  · rcases Nat.eq_zero_or_pos l.length with h0 | h0
    · have : l = [] := List.length_eq_zero_iff.1 h0
      subst this
      intro j u hu
      simp [InX] at hu
    · obtain ⟨g, o, e2, _, hc⟩ := h.2 h0
      rw [e] at e2
      cases e2
      exact InX_cell hc
  · obtain ⟨a, cap, e1, h4, h5⟩ := own_inW h2 rfl (by omega)
    exact ⟨a, cap, by rw [h1, e1], h4, h5, h3⟩
theorem nC_one (l : List Int) : ∀ u ∈ nC l, u.oneCell' = true := fun u hu => by
  simp only [nC, List.mem_map] at hu
  obtain ⟨x, _, rfl⟩ := hu
  rfl
theorem cloneNums (w : World) (ia : Option Addr) (ic : Nat) (l : List Int) (h : NuS w.heap.size w ia l) (hb : l.length ≤ 1000000) : Calls Tryd.prog 48 #[.slice ia l.length ic] w fun e w' => ∃ a' c', e = .returned (.slice a' l.length c') ∧ l.length ≤ c' ∧ NuW w.heap.size w'.heap.size w' a' l ∧ Below w.heap.size w w' := by
  refine (cloneNu w ia l.length ic (nC l) (fun e => ?_) (by simp [nC]) (fun ad e => ?_) (nC_one l) (by omega)).mono fun e w' ⟨v', h1, h2, h3⟩ => ?_
  · rcases Nat.eq_zero_or_pos l.length with h0 | h0
    · exact h0
    · obtain ⟨g, o, e2, _⟩ := h h0
      rw [e] at e2
      cases e2
  · rcases Nat.eq_zero_or_pos l.length with h0 | h0
    · have : l = [] := List.length_eq_zero_iff.1 h0
      subst this
      intro j u hu
      simp [nC] at hu
    · obtain ⟨g, o, e2, _, hc⟩ := h h0
      rw [e] at e2
      cases e2
      intro j u hu
      rw [adM]
      simp only [nC, List.getElem?_map, Option.map_eq_some_iff] at hu
      obtain ⟨x, hx, rfl⟩ := hu
      exact hc j x hx
  · obtain ⟨a, cap, e1, h4, h5⟩ := own_nuW h2 rfl
    exact ⟨a, cap, by rw [h1, e1], h4, h5, h3⟩
theorem LcS_set : ∀ (ps : List Lc) (k : Nat) (p : Lc) (a : Option Addr) (cap : Nat), ps[k]? = some p → (LcS ps).set (k * 4) (.slice a p.c.ins.length cap) = LcS (ps.set k ⟨a, cap, p.c⟩)
  | [], k, p, a, cap, h => by simp at h
  | q :: ps, 0, p, a, cap, h => by
    simp at h
    subst h
    rfl
  | q :: ps, k + 1, p, a, cap, h => by
    have ih := LcS_set ps k p a cap (by simpa using h)
    unfold LcS at ih ⊢
    rw [List.flatMap_cons, List.set_append_right _ _ (by show 4 ≤ _; omega), List.set_cons_succ, List.flatMap_cons, ← ih]
    congr 2
    show _ - 4 = _
    omega
theorem own_cell {w : World} {base n g cap sz : Nat} {e : TypeId} {xs : List Value} (h : w.ownsRow base e sz (.slice (some ⟨g, 0, none⟩) n cap) n xs) {j : Nat} (hj : j < n * sz) : ∃ u, w.cell? ⟨g, j, none⟩ = some u ∧ w.frozen? ⟨g, j, none⟩ = false := by
  rcases h.2 with ⟨e, _⟩ | ⟨g', cap', cur, e, hb, hh, h1, h2, h3, h4⟩
  · cases e
  · cases e
    have hl : j < cur.size := by rw [h3]; exact Nat.lt_of_lt_of_le hj (Nat.mul_le_mul_right _ h1)
    exact ⟨cur[j], by simp [World.cell?, hh, hl], by simp [World.frozen?, hh]⟩
theorem set_same {α : Type} : ∀ {l : List α} {k : Nat} {c : α}, l[k]? = some c → l.set k c = l
  | [], k, c, h => by simp at h
  | x :: l, 0, c, h => by simp at h; subst h; rfl
  | x :: l, k + 1, c, h => by rw [List.set_cons_succ, set_same (by simpa using h)]
/-- While codes are copied. -/
structure CpI (w : World) (l : List Cd.Co) (g cap k : Nat) (qs : List Lc) (wr : World) : Prop where
  b : Below w.heap.size w wr
  eq : qs.map Lc.c = l
  row : wr.ownsRow w.heap.size 53 4 (.slice (some ⟨g, 0, none⟩) l.length cap) l.length (LcS qs)
  hi : ∀ j q, j < k → qs[j]? = some q → InW (g + 1) wr.heap.size wr q.ia q.c.ins ∧ q.c.ins.length ≤ q.ic
theorem CpI.bg {w : World} {l : List Cd.Co} {g cap k : Nat} {qs : List Lc} {wr : World} (h : CpI w l g cap k qs wr) : w.heap.size ≤ g ∧ g < wr.heap.size := h.row.lt g rfl
theorem CpI.step {w : World} {l : List Cd.Co} {g cap k : Nat} {qs : List Lc} {wr : World} (h : CpI w l g cap k qs wr) {W1 w2 : World} (b1 : Below wr.heap.size wr W1) (b2 : Below W1.heap.size W1 w2) {c : Cd.Co} (hc : l[k]? = some c) {a : Option Addr} {ic : Nat} (hi : InW W1.heap.size w2.heap.size w2 a c.ins) (hcap : c.ins.length ≤ ic) : CpI w l g cap (k + 1) (qs.set k ⟨a, ic, c⟩) (w2.setCell ⟨g, k * 4, none⟩ (.slice a c.ins.length ic)) := by
  have bg := h.bg
  have hk : k < l.length := (List.getElem?_eq_some_iff.1 hc).1
  have hb : Below wr.heap.size wr w2 := b1.trans (b2.mono b1.size)
  obtain ⟨q, hq, hqc⟩ : ∃ q, qs[k]? = some q ∧ q.c = c := by
    have := hc
    rw [← h.eq, List.getElem?_map] at this
    obtain ⟨p, hp, e⟩ := Option.map_eq_some_iff.1 this
    exact ⟨p, hp, e⟩
  have r2 := own_setc (own_lat h.row hb) (i := k * 4) (by omega) (.slice a c.ins.length ic)
  have e1 := LcS_set qs k q a ic hq
  rw [hqc] at e1
  rw [e1] at r2
  have sz : (w2.setCell ⟨g, k * 4, none⟩ (.slice a c.ins.length ic)).heap.size = w2.heap.size := by simp
  refine ⟨(h.b.trans (hb.mono h.b.size)).trans ⟨rfl, rfl, rfl, by simp, fun j hj => heap_setCell_other _ _ j _ (by simp; omega)⟩, ?_, r2, fun j p hj hp => ?_⟩
  · rw [List.map_set, h.eq]
    exact set_same hc
  · have kp : Kpt (g + 1) w2.heap.size w2 (w2.setCell ⟨g, k * 4, none⟩ (.slice a c.ins.length ic)) := fun b h1 h2 => heap_setCell_other _ _ b _ (by simp; omega)
    rw [sz]
    by_cases hjk : j = k
    · subst hjk
      rw [List.getElem?_set_self (by rw [← List.length_map (f := Lc.c), h.eq]; exact hk)] at hp
      cases hp
      exact ⟨(hi.mono (by have := b1.size; omega) (Nat.le_refl _)).keep kp, hcap⟩
    · rw [List.getElem?_set_ne (fun e => hjk e.symm)] at hp
      have := h.hi j p (by omega) hp
      exact ⟨((this.1.keep (bl_kpt hb)).mono (Nat.le_refl _) hb.size).keep kp, this.2⟩
theorem CpI.done {w : World} {l : List Cd.Co} {g cap k : Nat} {qs : List Lc} {wr : World} (h : CpI w l g cap k qs wr) (hk : l.length ≤ k) (hb : l.length ≤ 1000) : CoW w.heap.size wr.heap.size wr (some ⟨g, 0, none⟩) l := by
  have bg := h.bg
  have hc := @World.ownsRow.cells _ _ _ _ _ _ _ h.row
  refine ⟨by omega, fun _ => ⟨g, 0, rfl, bg.1, bg.2, fun j c hj => ?_⟩⟩
  have hj' := hj
  rw [← h.eq, List.getElem?_map] at hj'
  obtain ⟨p, hp, rfl⟩ := Option.map_eq_some_iff.1 hj'
  obtain ⟨a0, a1, a2, a3⟩ := LcS_get _ _ _ hp
  have q := h.hi j p (by have := (List.getElem?_eq_some_iff.1 hj).1; omega) hp
  have get := fun j u hu => @hc g rfl j u hu
  refine ⟨p.ia, p.ic, ?_, ?_, ?_, ?_, q.1.mono (by omega) (Nat.le_refl _), q.2⟩
  · have := get _ _ a0; rw [adM] at this; exact this
  · have := get _ _ a1; rw [adM] at this; rw [Nat.add_assoc]; exact this
  · have := get _ _ a2; rw [adM] at this; rw [Nat.add_assoc]; exact this
  · have := get _ _ a3; rw [adM] at this; rw [Nat.add_assoc]; exact this
/-- A code's box. -/
abbrev coBx (c : Cd.Co) (ia : Option Addr) (ic : Nat) : Obj := .cells #[.slice ia c.ins.length ic, .int .i64 c.cells, .int .i64 c.params, .bool c.ans] 53
def CpL (w : World) (l : List Cd.Co) (g cap : Nat) (i : Value) (wr : World) : Prop := ∃ (k : Nat) (qs : List Lc), k ≤ l.length ∧ i = .int .i64 k ∧ Hid (CpI w l g cap k qs wr)
set_option maxRecDepth 100000 in
set_option maxHeartbeats 8000000 in
theorem vmCopied (w : World) (la : Option Addr) (lc : Nat) (l : List Cd.Co) (h : CoS w.heap.size w la l) (h0 : 0 < l.length) (hb : l.length ≤ 1000) (hi : ∀ c ∈ l, c.ins.length ≤ 1000000) :
    Calls Tryd.prog 47 #[.slice la l.length lc] w fun e w' => ∃ a' c', e = .returned (.slice a' l.length c') ∧ CoW w.heap.size w'.heap.size w' a' l ∧ Below w.heap.size w w' := by
  obtain ⟨lg, lo, ps, rfl, hlg, lm⟩ := h.lcm h0
  have hpl : ps.length = l.length := by rw [← lm.eq, List.length_map]
  have EC : Hid (Calls Tryd.prog 67 #[.slice (some ⟨lg, lo, none⟩) l.length lc] w fun e w' => ∃ g cap, e = .returned (.slice (some ⟨g, 0, none⟩) l.length cap) ∧ CpI w l g cap 0 ps w') := by
    refine (cloneCo w _ l.length lc (LcS ps) (fun e => by cases e) (by rw [LcS_len, hpl]) (fun ad e => by cases e; exact lm.get) (LcS_one ps) (by omega)).mono fun e w' ⟨v', h1, h2, h3⟩ => ?_
    obtain ⟨g, cap, hv⟩ : ∃ g cap, v' = .slice (some ⟨g, 0, none⟩) l.length cap := by
      rcases h2.2 with ⟨_, e0⟩ | ⟨g, cap, cur, e, _⟩
      · omega
      · exact ⟨g, cap, e⟩
    subst hv
    exact ⟨g, cap, h1, h3, lm.eq, h2, fun j q hj => by omega⟩
  have HC : Hid (CoS w.heap.size w (some ⟨lg, lo, none⟩) l) := h
  have HI : Hid (∀ c ∈ l, c.ins.length ≤ 1000000) := hi
  have HB : Hid (l.length ≤ 1000) := hb
  obtain ⟨L, hL⟩ : ∃ L, L = l.length := ⟨_, rfl⟩
  have HL : Hid (L = l.length) := hL
  rw [← hL] at hb h0 EC ⊢
  clear h hi lm hpl hL
  go_enter Tryd.func47, Tryd.ntmps47
  go_wp2_with fail
  refine Calls.mono EC.out ?_
  rintro e1 w1 ⟨g, cap, rfl, I1⟩
  have II : Hid (CpI w l g cap 0 ps w1) := I1
  clear I1 EC
  go_wp2_with fail
  go_loopw [10] (fun i wr => CpL w l g cap i wr) (fun i _ => L - (intOf i).toNat)
  case atStart => exact ⟨0, ps, by omega, rfl, II⟩
  case round =>
    obtain ⟨k, qs, hk, rfl, CI⟩ := hrel
    rw [← HL.out] at hk
    clear II
    by_cases hlt : k < L
    · have hki : (k : Int) < (L : Int) := by omega
      have dk : decide ((k : Int) < (L : Int)) = true := decide_eq_true hki
      have dkn : decide (k < L) = true := decide_eq_true hlt
      have hkl : k < l.length := by rw [← HL.out]; exact hlt
      obtain ⟨c, hc⟩ : ∃ c, l[k]? = some c := ⟨_, List.getElem?_eq_getElem hkl⟩
      obtain ⟨g', o', ia, ic, e, hg', ca⟩ := (HC.out.later CI.out.b).at hc
      cases e
      have bg := CI.out.bg
      have row := CI.out.row
      have hgk := own_cell row (j := k * 4) (by omega)
      have c0 := ca.c0
      have c1 := ca.c1
      have c2 := ca.c2
      have c3 := ca.c3
      obtain ⟨W1, hW1⟩ : ∃ W1, W1 = wr.alloc (coBx c ia ic) := ⟨_, rfl⟩
      obtain ⟨cb, hcb⟩ : ∃ cb, cb = wr.heap.size := ⟨_, rfl⟩
      have b1 : Below wr.heap.size wr W1 := by rw [hW1]; exact (Below.refl _ _).alloc (Nat.le_refl _) _
      have x1 : W1.heap[cb]? = some (coBx c ia ic) := by rw [hW1, hcb]; exact alloc_at wr _
      have d0 : W1.cell? ⟨cb, 0, none⟩ = some (.slice ia c.ins.length ic) := by simp [World.cell?, x1]
      have ECl : Hid _ := cloneIns W1 ia ic c.ins ((ca.hi.later (b1.mono CI.out.b.size)).mono (Nat.le_trans CI.out.b.size b1.size)) (HI.out c (List.mem_of_getElem? hc))
      have HCI : Hid (l[k]? = some c) := hc
      have B1 : Hid (Below wr.heap.size wr W1) := b1
      have hcap : L ≤ cap := by
        rcases row.2 with ⟨e, _⟩ | ⟨_, _, _, e, _, _, h1, _⟩
        · cases e
        · cases e
          rw [HL.out]
          exact h1
      have hgz : ¬ g = cb := by omega
      obtain ⟨nI, hnI⟩ : ∃ nI, nI = c.ins.length := ⟨_, rfl⟩
      have HNI : Hid (nI = c.ins.length) := hnI
      clear ca hg' row b1 x1 hkl hc
      go_upto_region 5 with fail
      rw [← hW1, ← hcb]
      clear hW1 hcb c0 c1 c2 c3
      go_wp2_with fail
      refine Calls.mono ECl.out ?_
      rintro e4 w4 ⟨a4, c4, rfl, hc4, i4, b4⟩
      have bz := B1.out.trans (b4.mono B1.out.size)
      obtain ⟨u, hu, hfu⟩ := hgk
      have z0 := (bz.cell (p := ⟨g, k * 4, none⟩) bg.2).trans hu
      have zf := (bz.frozen (p := ⟨g, k * 4, none⟩) bg.2).trans hfu
      have SN : Hid _ := CI.out.step B1.out b4 HCI.out i4 hc4
      clear i4 b4 bz ECl CI hu hfu hc4 B1 d0
      go_wp2_with fail
      go_roundw
      case rel => exact ⟨k + 1, _, by rw [← HL.out]; omega, by go_num, SN⟩
      case measure => simp [intOf]; omega
    · have hki : ¬ (k : Int) < (L : Int) := by omega
      have dk : decide ((k : Int) < (L : Int)) = false := decide_eq_false hki
      have dkn : decide (k < L) = false := decide_eq_false hlt
      have FIN : Hid (∃ a' c', Ending.returned (.slice (some ⟨g, 0, none⟩) L cap) = .returned (.slice a' L c') ∧ CoW w.heap.size wr.heap.size wr a' l ∧ Below w.heap.size w wr) := ⟨_, _, rfl, CI.out.done (by rw [← HL.out]; omega) HB.out, CI.out.b⟩
      clear CI
      go_wp2_with fail
      go_ret
      first
        | exact FIN.out
        | simpa using FIN.out
end Go.Proofs.YtodpdnidinnjjaaDoor
