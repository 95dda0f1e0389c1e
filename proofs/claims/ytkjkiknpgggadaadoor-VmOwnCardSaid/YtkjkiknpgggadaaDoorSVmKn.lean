/- Layer 9: the statements' own fixed calls (known) come out true. -/
import Derived.Test.YtkjkiknpgggadaaDoorSVmRc
import Derived.KernelRfl
namespace Go.Proofs.YtkjkiknpgggadaaDoor
open Go.RowKit
set_option linter.unusedVariables false
set_option linter.unusedSimpArgs false

namespace Vm
def kc : Cd.Co := ⟨[⟨24, 0, 1⟩, ⟨1, 5, 0⟩, ⟨21, 0, 0⟩, ⟨24, 1, 3⟩, ⟨20, 0, 0⟩], 0, 0, false⟩
theorem kc_ok : kc.Ok := ⟨fun i hi => by simp [kc] at hi; rcases hi with rfl | rfl | rfl | rfl | rfl <;> exact ⟨⟨by decide, by decide⟩, ⟨by decide, by decide⟩, by decide, by decide⟩, ⟨by decide, by decide⟩, by decide, by decide⟩
theorem kc_cl : Cd.Cl [kc] kc [0, 0, 1, 0, 0] := by
  have r1 : Cd.Rc [kc] kc 1 0 := Cd.Rc.one (l := [kc]) (c := kc) 0 0 ⟨24, 0, 1⟩ .zero (by omega) rfl (by decide)
  have r2 : Cd.Rc [kc] kc 2 1 := Cd.Rc.one (l := [kc]) (c := kc) 1 0 ⟨1, 5, 0⟩ r1 (by omega) rfl (by decide)
  have r3 : Cd.Rc [kc] kc 3 0 := Cd.Rc.one (l := [kc]) (c := kc) 2 1 ⟨21, 0, 0⟩ r2 (by omega) rfl (by decide)
  have r4 : Cd.Rc [kc] kc 4 0 := Cd.Rc.one (l := [kc]) (c := kc) 3 0 ⟨24, 1, 3⟩ r3 (by omega) rfl (by decide)
  refine ⟨rfl, rfl, fun p h e => ?_, fun p h i e n ei => ?_⟩
  · match p, e with
    | 0, e => simp at e; subst e; exact .inr .zero
    | 1, e => simp at e; subst e; exact .inr r1
    | 2, e => simp at e; subst e; exact .inr r2
    | 3, e => simp at e; subst e; exact .inr r3
    | 4, e => simp at e; subst e; exact .inr r4
    | p + 5, e => simp at e
  · match p, e, ei with
    | 0, e, ei => simp at e; subst e; simp [kc] at ei; subst ei; exact ⟨by decide, by omega, fun _ => by decide, fun _ => ⟨by decide, by decide, by decide, by decide, by decide⟩⟩
    | 1, e, ei => simp at e; subst e; simp [kc] at ei; subst ei; exact ⟨by decide, by omega, (fun h => by cases h), fun _ => ⟨by decide, by decide, by decide, by decide, by decide⟩⟩
    | 2, e, ei => simp at e; subst e; simp [kc] at ei; subst ei; exact ⟨by decide, by omega, (fun h => by cases h), fun _ => ⟨by decide, by decide, by decide, by decide, by decide⟩⟩
    | 3, e, ei => simp at e; subst e; simp [kc] at ei; subst ei; exact ⟨by decide, by omega, fun _ => by decide, fun _ => ⟨by decide, by decide, by decide, by decide, by decide⟩⟩
    | 4, e, ei => simp at e; subst e; simp [kc] at ei; subst ei; exact ⟨by decide, by omega, fun _ => by decide, fun h => absurd rfl h⟩
    | p + 5, e, ei => simp at e
theorem kc_fit : Cd.Fit Cd.top [kc] kc := kc_cl.fit (by decide) (fun i hi => by simp [kc] at hi; rcases hi with rfl | rfl | rfl | rfl | rfl <;> exact ⟨by decide, by decide⟩)
theorem kc_snd : Cd.Snd Cd.top [kc] ((0 : Nat) : Int) := ⟨by decide, by omega, ⟨kc, rfl, rfl, rfl⟩, fun c hc => by simp at hc; subst hc; exact kc_fit⟩
def kA (G : Gh) : Mc := beg [kc] 0 0 [] 9 G
def kB (G : Gh) : Mc := beg [kc] 0 0 [] 1 G
theorem kA_wf (G : Gh) : WF Cd.top (kA G) := beg_wf kc_snd rfl ⟨by decide, by decide⟩ (by decide)
theorem kB_wf (G : Gh) : WF Cd.top (kB G) := beg_wf kc_snd rfl ⟨by decide, by decide⟩ (by decide)
theorem kA0 (G : Gh) : ticked (kA G) = true := by kernel_rfl
theorem kA1 (G : Gh) : ticked (step (kA G)) = true := by kernel_rfl
theorem kA2 (G : Gh) : ticked (step (step (kA G))) = false := by kernel_rfl
theorem kA3 (G : Gh) : (step (step (step (kA G)))).events = [(1, 5), (3, 0)] := by kernel_rfl
theorem kA4 (G : Gh) : (step (step (step (kA G)))).ticks = 2 := by kernel_rfl
theorem kA5 (G : Gh) : (step (step (step (kA G)))).frames.length = 0 := by kernel_rfl
theorem kA6 (G : Gh) : (step (step (step (kA G)))).run = false := by kernel_rfl
theorem kB0 (G : Gh) : ticked (kB G) = true := by kernel_rfl
theorem kB1 (G : Gh) : ticked (step (kB G)) = false := by kernel_rfl
theorem kB2 (G : Gh) : (step (step (kB G))).events = [(1, 5), (5, 0)] := by kernel_rfl
theorem kB3 (G : Gh) : (step (step (kB G))).frames.length = 1 := by kernel_rfl
theorem kAo (G : Gh) : ∀ j, j ≤ 2 → On Cd.top (kA G) j := fun j hj => on_all (kA_wf G) rfl j fun i hi => by
  match i, hi with
  | 0, _ => exact kA0 G
  | 1, _ => exact kA1 G
  | i + 2, h => omega
theorem kBo (G : Gh) : ∀ j, j ≤ 1 → On Cd.top (kB G) j := fun j hj => on_all (kB_wf G) rfl j fun i hi => by
  match i, hi with
  | 0, _ => exact kB0 G
  | i + 1, h => omega
theorem ev_le {B : Int} {M : Mc} {j : Nat} (o : On B M j) (h0 : M.events = []) (hj : j ≤ 900) : (nth j M).events.length + 1048577 ≤ 1000000000 := by
  obtain ⟨t, e, h, _⟩ := o.ev
  rw [e, h0]
  simp
  omega
end Vm
theorem akp (w : World) (o : Obj) {k : Nat} (h : k < w.heap.size) : (w.alloc o).heap[k]? = w.heap[k]? := ((Below.refl w.heap.size w).alloc (Nat.le_refl _) o).block k h
theorem anw (w : World) (o : Obj) {k : Nat} (h : k = w.heap.size) : (w.alloc o).heap[k]? = some o := by subst h; exact alloc_at w o
theorem ins_lit {w : World} {g : Nat} {l : List Cd.In} {T : TypeId} (h : w.heap[g]? = some (.cells (InX l).toArray T (0, 0))) : ∀ j i, l[j]? = some i → InAt w g (0 + j * 3) i := fun j i hj => by
  obtain ⟨a, b, c⟩ := InX_get l j i hj
  rw [Nat.zero_add]
  refine ⟨?_, ?_, ?_⟩ <;> (simp only [World.cell?, h, List.getElem?_toArray]; assumption)
theorem cos_lit {w : World} {h : Nat} {ps : List Lc} {T : TypeId} (hh : h < w.heap.size) (e2 : w.heap[h]? = some (.cells (LcS ps).toArray T (0, 0))) (hb : ps.length ≤ 1000) (hi : ∀ p ∈ ps, InS w.heap.size w p.ia p.c.ins ∧ p.c.ins.length ≤ p.ic) : CoS w.heap.size w (some ⟨h, 0, none⟩) (ps.map Lc.c) := by
  refine ⟨by rw [List.length_map]; omega, fun _ => ⟨h, 0, rfl, hh, fun j c hj => ?_⟩⟩
  rw [List.getElem?_map] at hj
  obtain ⟨p, hp, rfl⟩ := Option.map_eq_some_iff.1 hj
  obtain ⟨a0, a1, a2, a3⟩ := LcS_get _ _ _ hp
  have q := hi p (List.mem_of_getElem? hp)
  rw [Nat.zero_add]
  refine ⟨p.ia, p.ic, ?_, ?_, ?_, ?_, q.1, q.2⟩ <;> (simp only [World.cell?, e2, List.getElem?_toArray]; assumption)
structure K2 (z : Nat) (w : World) (la ma : Nat) (Va : VmV) (A : Vm.Mc) (lb mb : Nat) (Vb : VmV) (C : Vm.Mc) : Prop where
  a : VmO la ma w Va A
  b : VmO lb mb w Vb C
  d : Dis la ma Va lb mb Vb
  za : z ≤ la
  zb : z ≤ lb
theorem K2.later {z : Nat} {w w' : World} {la ma lb mb : Nat} {Va Vb : VmV} {A C : Vm.Mc} (h : K2 z w la ma Va A lb mb Vb C) (b : Below w.heap.size w w') : K2 z w' la ma Va A lb mb Vb C := ⟨h.a.later b, h.b.later b, h.d, h.za, h.zb⟩
theorem k2StepA {z : Nat} {w : World} {la ma lb mb : Nat} {Va Vb : VmV} {A C : Vm.Mc} (h : K2 z w la ma Va A lb mb Vb C) {B : Int} (wf : Vm.WF B A) (hrun : A.run = true) (he : A.events.length + 1048577 ≤ 1000000000) {t : Bool} (ht : Vm.ticked A = t) :
    Calls Tryd.prog 8 #[.pointer (some ⟨ma, 0, none⟩)] w fun e w' => e = .returned (.bool t) ∧ ∃ V', Hid (K2 z w' la ma V' (Vm.step A) lb mb Vb C) ∧ Hid (Below z w w') :=
  (oStep la ma w Va A B h.a wf hrun he).mono fun e w' ⟨h1, V', h2, f⟩ => by
    have o := h.a.other f h.b h.d
    exact ⟨by rw [h1, ht], V', ⟨h2, o.1, o.2, h.za, h.zb⟩, f.low (Nat.le_trans h.za h.a.lm)⟩
theorem k2StepB {z : Nat} {w : World} {la ma lb mb : Nat} {Va Vb : VmV} {A C : Vm.Mc} (h : K2 z w la ma Va A lb mb Vb C) {B : Int} (wf : Vm.WF B C) (hrun : C.run = true) (he : C.events.length + 1048577 ≤ 1000000000) {t : Bool} (ht : Vm.ticked C = t) :
    Calls Tryd.prog 8 #[.pointer (some ⟨mb, 0, none⟩)] w fun e w' => e = .returned (.bool t) ∧ ∃ V', Hid (K2 z w' la ma Va A lb mb V' (Vm.step C)) ∧ Hid (Below z w w') :=
  (oStep lb mb w Vb C B h.b wf hrun he).mono fun e w' ⟨h1, V', h2, f⟩ => by
    have o := h.b.other f h.a h.d.symm
    exact ⟨by rw [h1, ht], V', ⟨o.1, h2, o.2.symm, h.za, h.zb⟩, f.low (Nat.le_trans h.zb h.b.lm)⟩
set_option maxRecDepth 100000 in
set_option maxHeartbeats 16000000 in
theorem known9 (B : Nat) (w : World) (hB : B ≤ w.heap.size) (tn : Tn B w) (tm : Tm B w) : Calls Tryd.prog 6 #[] w fun e w' => e = .returned (.bool true) ∧ Below w.heap.size w w' := by
  obtain ⟨q, hq⟩ : ∃ q, q = w.heap.size := ⟨_, rfl⟩
  obtain ⟨W, hW⟩ : ∃ W, W = (w.alloc (.cells (InX Vm.kc.ins).toArray 47)).alloc (.cells (LcS [⟨some ⟨q, 0, none⟩, 5, Vm.kc⟩]).toArray 41) := ⟨_, rfl⟩
  have b0 : Below w.heap.size w W := by rw [hW]; exact ((Below.refl _ _).alloc (Nat.le_refl _) _).alloc (by simp) _
  have sW : W.heap.size = q + 1 + 1 := by rw [hW, hq]; simp
  have x1 : W.heap[q]? = some (.cells (InX Vm.kc.ins).toArray 47 (0, 0)) := by rw [hW, akp _ _ (by simp; omega), anw _ _ hq]
  have x2 : W.heap[q + 1]? = some (.cells (LcS [⟨some ⟨q, 0, none⟩, 5, Vm.kc⟩]).toArray 41 (0, 0)) := by rw [hW, anw _ _ (by simp; omega)]
  have CH : Hid (∀ X, Below W.heap.size W X → CdH W.heap.size X (some ⟨q + 1, 0, none⟩) [Vm.kc]) := fun X hX => by
    have co := cos_lit (w := W) (h := q + 1) (ps := [⟨some ⟨q, 0, none⟩, 5, Vm.kc⟩]) (by omega) x2 (by simp) (fun p hp => by
      simp at hp
      subst hp
      exact ⟨⟨(by decide : (5 : Nat) ≤ 1000000000000000), fun _ => ⟨q, 0, rfl, by omega, ins_lit x1⟩⟩, (by decide : (5 : Nat) ≤ 5)⟩)
    have hz : Below B w X := (b0.mono hB).trans (hX.mono (Nat.le_trans hB b0.size))
    exact ⟨hX.size, co.later hX, fun d hd => by simp at hd; subst hd; exact Vm.kc_ok, (tn.later hz).mono (Nat.le_trans hB b0.size), (tm.later hz).mono (Nat.le_trans hB b0.size)⟩
  have EN : Hid (∀ X, Below W.heap.size W X → ∀ fuel : Int, 0 ≤ fuel → fuel ≤ 1048576 → Calls Tryd.prog 15 #[.slice (some ⟨q + 1, 0, none⟩) 1 1, .int .i64 0, .slice none 0 0, .int .i64 fuel] X fun e w' => ∃ m V, e = .returned (.tuple #[.pointer (some ⟨m, 0, none⟩), .int .i64 0]) ∧ VmO X.heap.size m w' V (Vm.beg [Vm.kc] 0 0 [] fuel ⟨X, fun _ => False, X.heap.size⟩) ∧ Below X.heap.size X w') := fun X hX fuel h1 h2 => vmNewO W.heap.size X _ none 1 0 [Vm.kc] [] 0 Vm.kc fuel (CH.out X hX) (fun h => by simp at h) Vm.kc_snd rfl ⟨h1, h2, by simp⟩
  have B0 : Hid (Below w.heap.size w W) := b0
  have HS : Hid (W.heap.size = w.heap.size + 2) := by unfold Hid; omega
  clear tn tm CH x1 x2 sW b0
  go_enter Tryd.func6, Tryd.ntmps6
  go_upto_region 2 with fail
  rw [← hq]
  have hW2 : W = (w.alloc (.cells #[.int .i64 24, .int .i64 0, .int .i64 1, .int .i64 1, .int .i64 5, .int .i64 0, .int .i64 21, .int .i64 0, .int .i64 0, .int .i64 24, .int .i64 1, .int .i64 3, .int .i64 20, .int .i64 0, .int .i64 0] 47)).alloc (.cells #[.slice (some ⟨q, 0, none⟩) 5 5, .int .i64 0, .int .i64 0, .bool false] 41) := hW
  rw [← hW2]
  clear hW hW2 hq
  go_wp2_with fail
  refine Calls.mono (EN.out _ (Below.refl _ _) 9 (by decide) (by decide)) ?_
  rintro e1 w1 ⟨ma, Va, rfl, ha, b1⟩
  have HA : Hid (VmO W.heap.size ma w1 Va (Vm.kA ⟨W, fun _ => False, W.heap.size⟩)) := ha
  have B1 : Hid (Below W.heap.size W w1) := b1
  clear ha b1
  go_wp2_with fail
  refine Calls.mono (EN.out _ B1.out 1 (by decide) (by decide)) ?_
  rintro e2 w2 ⟨mb, Vb, rfl, hb, b2⟩
  have HK : Hid (K2 W.heap.size w2 W.heap.size ma Va (Vm.kA ⟨W, fun _ => False, W.heap.size⟩) w1.heap.size mb Vb (Vm.kB ⟨w1, fun _ => False, w1.heap.size⟩)) := ⟨HA.out.later b2, hb, HA.out.young (Nat.le_refl _) hb, Nat.le_refl _, B1.out.size⟩
  have B2 : Hid (Below W.heap.size W w2) := B1.out.trans (b2.mono B1.out.size)
  obtain ⟨GA, hGA⟩ : ∃ G : Gh, G = ⟨W, fun _ => False, W.heap.size⟩ := ⟨_, rfl⟩
  obtain ⟨GB, hGB⟩ : ∃ G : Gh, G = ⟨w1, fun _ => False, w1.heap.size⟩ := ⟨_, rfl⟩
  obtain ⟨lb, hlb⟩ : ∃ lb, lb = w1.heap.size := ⟨_, rfl⟩
  rw [← hGA, ← hGB, ← hlb] at HK
  clear hb b2 EN HA B1 hGA hGB hlb
  go_wp2_with fail
  refine Calls.mono (k2StepA HK.out (Vm.kA_wf GA) (rfl) (Vm.ev_le (Vm.kAo GA 0 (by omega)) rfl (by omega)) (Vm.kA0 GA)) ?_
  rintro e3 w3 ⟨rfl, V3, HK3, C3⟩
  have B3 : Hid (Below W.heap.size W w3) := B2.out.trans (C3.out.mono (Nat.le_refl _))
  clear C3 HK B2
  go_wp2_with fail
  refine Calls.mono (k2StepA HK3.out ((Vm.kAo GA 1 (by omega)).wf) ((Vm.kAo GA 1 (by omega)).run) (Vm.ev_le (Vm.kAo GA 1 (by omega)) rfl (by omega)) (Vm.kA1 GA)) ?_
  rintro e4 w4 ⟨rfl, V4, HK4, C4⟩
  have B4 : Hid (Below W.heap.size W w4) := B3.out.trans (C4.out.mono (Nat.le_refl _))
  clear C4 HK3 B3
  go_wp2_with fail
  refine Calls.mono (k2StepA HK4.out ((Vm.kAo GA 2 (by omega)).wf) ((Vm.kAo GA 2 (by omega)).run) (Vm.ev_le (Vm.kAo GA 2 (by omega)) rfl (by omega)) (Vm.kA2 GA)) ?_
  rintro e5 w5 ⟨rfl, V5, HK5, C5⟩
  have B5 : Hid (Below W.heap.size W w5) := B4.out.trans (C5.out.mono (Nat.le_refl _))
  clear C5 HK4 B4
  go_wp2_with fail
  refine Calls.mono (k2StepB HK5.out (Vm.kB_wf GB) (rfl) (Vm.ev_le (Vm.kBo GB 0 (by omega)) rfl (by omega)) (Vm.kB0 GB)) ?_
  rintro e6 w6 ⟨rfl, V6, HK6, C6⟩
  have B6 : Hid (Below W.heap.size W w6) := B5.out.trans (C6.out.mono (Nat.le_refl _))
  clear C6 HK5 B5
  go_wp2_with fail
  refine Calls.mono (k2StepB HK6.out ((Vm.kBo GB 1 (by omega)).wf) ((Vm.kBo GB 1 (by omega)).run) (Vm.ev_le (Vm.kBo GB 1 (by omega)) rfl (by omega)) (Vm.kB1 GB)) ?_
  rintro e7 w7 ⟨rfl, V7, HK7, C7⟩
  have B7 : Hid (Below W.heap.size W w7) := B6.out.trans (C7.out.mono (Nat.le_refl _))
  clear C7 HK6 B6
  have EA : Hid (Calls Tryd.prog 13 #[.pointer (some ⟨ma, 0, none⟩)] w7 fun e w' => ∃ a c, e = .returned (.slice a 2 c) ∧ EvW w7.heap.size w'.heap.size w' a [(1, 5), (3, 0)] ∧ Below w7.heap.size w7 w') := by
    have := oEvents _ _ _ _ _ HK7.out.a (by rw [Vm.kA3 GA]; decide)
    rw [Vm.kA3 GA] at this
    exact this
  go_wp2_with fail
  refine Calls.mono EA.out ?_
  rintro e8 w8 ⟨a8, c8, rfl, v8, b8⟩
  obtain ⟨g8, rfl, hg8, hl8, hc8⟩ := v8 (by decide)
  have x0 := (hc8 0 _ rfl).1
  have x1 := (hc8 0 _ rfl).2
  have x2 := (hc8 1 _ rfl).1
  have K8 := HK7.out.later b8
  have B8 : Hid (Below W.heap.size W w8) := B7.out.trans (b8.mono B7.out.size)
  have EB : Hid (Calls Tryd.prog 13 #[.pointer (some ⟨mb, 0, none⟩)] w8 fun e w' => ∃ a c, e = .returned (.slice a 2 c) ∧ EvW w8.heap.size w'.heap.size w' a [(1, 5), (5, 0)] ∧ Below w8.heap.size w8 w') := by
    have := oEvents _ _ _ _ _ K8.b (by rw [Vm.kB2 GB]; decide)
    rw [Vm.kB2 GB] at this
    exact this
  have HK8 : Hid (K2 W.heap.size w8 _ _ _ _ _ _ _ _) := K8
  clear hc8 b8 K8 EA HK7 B7
  go_wp2_with fail
  refine Calls.mono EB.out ?_
  rintro e9 w9 ⟨a9, c9, rfl, v9, b9⟩
  obtain ⟨g9, rfl, hg9, hl9, hc9⟩ := v9 (by decide)
  have y2 := (hc9 1 _ rfl).1
  have z0 := (b9.cell (p := ⟨g8, 0 * 2, none⟩) hl8).trans x0
  have z1 := (b9.cell (p := ⟨g8, 0 * 2 + 1, none⟩) hl8).trans x1
  have z2 := (b9.cell (p := ⟨g8, 1 * 2, none⟩) hl8).trans x2
  have hl89 : g8 < w9.heap.size := Nat.lt_of_lt_of_le hl8 b9.size
  have K9 := HK8.out.later b9
  have B9 : Hid (Below W.heap.size W w9) := B8.out.trans (b9.mono B8.out.size)
  have ET : Hid (Calls Tryd.prog 17 #[.pointer (some ⟨ma, 0, none⟩)] w9 fun e w' => e = .returned (.int .i64 2) ∧ Below w9.heap.size w9 w') := by
    have := oTicks _ _ _ _ _ K9.a
    rw [Vm.kA4 GA] at this
    exact this
  have HK9 : Hid (K2 W.heap.size w9 _ _ _ _ _ _ _ _) := K9
  dsimp only at y2 z0 z1 z2
  clear hc9 b9 K9 EB HK8 B8 x0 x1 x2 v8 v9
  go_wp2_with fail
  refine Calls.mono ET.out ?_
  rintro e10 w10 ⟨rfl, b10⟩
  have s0 : w10.cell? ⟨g8, 0, none⟩ = some (.int .i64 1) := (b10.cell (p := ⟨g8, 0, none⟩) hl89).trans z0
  have s1 : w10.cell? ⟨g8, 1, none⟩ = some (.int .i64 5) := (b10.cell (p := ⟨g8, 1, none⟩) hl89).trans z1
  have s2 : w10.cell? ⟨g8, 2, none⟩ = some (.int .i64 3) := (b10.cell (p := ⟨g8, 2, none⟩) hl89).trans z2
  have r2 : w10.cell? ⟨g9, 2, none⟩ = some (.int .i64 5) := (b10.cell (p := ⟨g9, 2, none⟩) hl9).trans y2
  have K10 := HK9.out.later b10
  have B10 : Hid (Below W.heap.size W w10) := B9.out.trans (b10.mono B9.out.size)
  have EE : Hid (Calls Tryd.prog 18 #[.pointer (some ⟨ma, 0, none⟩)] w10 fun e w' => e = .returned (.bool true) ∧ Below w10.heap.size w10 w') := by
    have := oEnded _ _ _ _ _ K10.a
    rw [Vm.kA6 GA] at this
    exact this
  have HK10 : Hid (K2 W.heap.size w10 _ _ _ _ _ _ _ _) := K10
  clear b10 K10 ET HK9 B9 z0 z1 z2 y2
  go_wp2_with fail
  refine Calls.mono EE.out ?_
  rintro e11 w11 ⟨rfl, b11⟩
  have K11 := HK10.out.later b11
  have B11 : Hid (Below W.heap.size W w11) := B10.out.trans (b11.mono B10.out.size)
  have EF : Hid (Calls Tryd.prog 19 #[.pointer (some ⟨ma, 0, none⟩)] w11 fun e w' => e = .returned (.int .i64 0) ∧ Below w11.heap.size w11 w') := by
    have := oFrames _ _ _ _ _ K11.a
    rw [Vm.kA5 GA] at this
    exact this
  have HK11 : Hid (K2 W.heap.size w11 _ _ _ _ _ _ _ _) := K11
  clear b11 K11 EE HK10 B10 s0 s1 s2 r2
  go_wp2_with fail
  refine Calls.mono EF.out ?_
  rintro e12 w12 ⟨rfl, b12⟩
  have K12 := HK11.out.later b12
  have B12 : Hid (Below W.heap.size W w12) := B11.out.trans (b12.mono B11.out.size)
  have EG : Hid (Calls Tryd.prog 19 #[.pointer (some ⟨mb, 0, none⟩)] w12 fun e w' => e = .returned (.int .i64 1) ∧ Below w12.heap.size w12 w') := by
    have := oFrames _ _ _ _ _ K12.b
    rw [Vm.kB3 GB] at this
    exact this
  clear b12 K12 EF HK11 B11
  go_wp2_with fail
  refine Calls.mono EG.out ?_
  rintro e13 w13 ⟨rfl, b13⟩
  have FIN : Hid (Below w.heap.size w w13) := B0.out.trans ((B12.out.trans (b13.mono B12.out.size)).mono B0.out.size)
  clear b13 EG B12
  go_wp2_with fail
  go_ret
  exact ⟨rfl, FIN.out⟩
end Go.Proofs.YtkjkiknpgggadaaDoor

