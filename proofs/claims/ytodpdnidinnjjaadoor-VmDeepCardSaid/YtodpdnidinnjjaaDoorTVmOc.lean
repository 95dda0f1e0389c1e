/- Layer 9: what a machine tells, with all that belongs to it; one that is not there. -/
import Derived.Test.YtodpdnidinnjjaaDoorTVmNw
namespace Go.Proofs.YtodpdnidinnjjaaDoor
open Go.RowKit
set_option linter.unusedVariables false
set_option linter.unusedSimpArgs false

theorem oEnded (lo m : Nat) (w : World) (V : VmV) (M : Vm.Mc) (h : VmO lo m w V M) : Calls Tryd.prog 28 #[.pointer (some ⟨m, 0, none⟩)] w fun e w' => e = .returned (.bool (!M.run)) ∧ Below w.heap.size w w' := vmEnded m w V (M.gh ⟨w, VOwn V, lo⟩) h.re
theorem oTicks (lo m : Nat) (w : World) (V : VmV) (M : Vm.Mc) (h : VmO lo m w V M) : Calls Tryd.prog 16 #[.pointer (some ⟨m, 0, none⟩)] w fun e w' => e = .returned (.int .i64 M.ticks) ∧ Below w.heap.size w w' := vmTicks m w V (M.gh ⟨w, VOwn V, lo⟩) h.re
theorem oCount (lo m : Nat) (w : World) (V : VmV) (M : Vm.Mc) (h : VmO lo m w V M) : Calls Tryd.prog 19 #[.pointer (some ⟨m, 0, none⟩)] w fun e w' => e = .returned (.int .i64 M.events.length) ∧ Below w.heap.size w w' := vmCount m w V (M.gh ⟨w, VOwn V, lo⟩) h.re
theorem oFrames (lo m : Nat) (w : World) (V : VmV) (M : Vm.Mc) (h : VmO lo m w V M) : Calls Tryd.prog 18 #[.pointer (some ⟨m, 0, none⟩)] w fun e w' => e = .returned (.int .i64 M.frames.length) ∧ Below w.heap.size w w' := vmFrames m w V (M.gh ⟨w, VOwn V, lo⟩) h.re
/-- Events within blocks. -/
def EvW (lo hi : Nat) (w : World) (a : Option Addr) (l : List (Int × Int)) : Prop := 0 < l.length → ∃ g, a = some ⟨g, 0, none⟩ ∧ lo ≤ g ∧ g < hi ∧ ∀ j e, l[j]? = some e → w.cell? ⟨g, j * 2, none⟩ = some (.int .i64 e.1) ∧ w.cell? ⟨g, j * 2 + 1, none⟩ = some (.int .i64 e.2)
theorem EvW.keep {lo hi : Nat} {w w' : World} {a : Option Addr} {l : List (Int × Int)} (h : EvW lo hi w a l) (k : Kpt lo hi w w') : EvW lo hi w' a l := fun h0 => by
  obtain ⟨g, e, h1, h2, h3⟩ := h h0
  exact ⟨g, e, h1, h2, fun j x hj => ⟨(k.cell h1 h2).trans (h3 j x hj).1, (k.cell h1 h2).trans (h3 j x hj).2⟩⟩
theorem EvW.later {lo hi : Nat} {w w' : World} {a : Option Addr} {l : List (Int × Int)} (h : EvW lo hi w a l) (b : Below hi w w') : EvW lo hi w' a l := h.keep (bl_kpt b)
theorem evC_len : ∀ l : List (Int × Int), (Vm.evC l).length = l.length * 2
  | [] => rfl
  | p :: ps => by
    have := evC_len ps
    simp only [Vm.evC, List.flatMap_cons, List.length_append, List.length_cons, List.length_nil] at this ⊢
    omega
theorem evC_one (ps : List (Int × Int)) : ∀ u ∈ Vm.evC ps, u.oneCell' = true := by
  intro u hu
  obtain ⟨p, _, hp⟩ := List.mem_flatMap.1 hu
  simp only [List.mem_cons, List.not_mem_nil, or_false] at hp
  rcases hp with rfl | rfl <;> rfl
theorem evC_get : ∀ (ps : List (Int × Int)) (j : Nat) (p : Int × Int), ps[j]? = some p → (Vm.evC ps)[j * 2]? = some (.int .i64 p.1) ∧ (Vm.evC ps)[j * 2 + 1]? = some (.int .i64 p.2)
  | [], j, p, h => by simp at h
  | q :: ps, 0, p, h => by
    simp at h
    subst h
    exact ⟨rfl, rfl⟩
  | q :: ps, j + 1, p, h => by
    have ih := evC_get ps j p (by simpa using h)
    have e : ∀ k, (Vm.evC (q :: ps))[(j + 1) * 2 + k]? = (Vm.evC ps)[j * 2 + k]? := fun k => by
      unfold Vm.evC
      rw [List.flatMap_cons, List.getElem?_append_right (by show 2 ≤ _; omega)]
      congr 1
      show _ - 2 = _
      omega
    exact ⟨(e 0).trans ih.1, (e 1).trans ih.2⟩
theorem own_evW {w : World} {base n : Nat} {e : TypeId} {v : Value} {l : List (Int × Int)} (h : w.ownsRow base e 2 v n (Vm.evC l)) (hn : n = l.length) : ∃ a cap, v = .slice a n cap ∧ n ≤ cap ∧ EvW base w.heap.size w a l := by
  have hc := @World.ownsRow.cells _ _ _ _ _ _ _ h
  have hl := h.lt
  rcases h.2 with ⟨hv, h1⟩ | ⟨g, cap, cur, rfl, hbg, _, hcap, _⟩
  · exact ⟨none, 0, by rw [hv, h1], by omega, fun h0 => by omega⟩
  · refine ⟨_, cap, rfl, hcap, fun _ => ⟨g, rfl, hbg, (hl g rfl).2, fun j i hj => ?_⟩⟩
    obtain ⟨a0, a1⟩ := evC_get _ _ _ hj
    have get := fun j u hu => @hc g rfl j u hu
    refine ⟨?_, ?_⟩
    · have := get _ _ a0; rw [adM, Nat.zero_add] at this; exact this
    · have := get _ _ a1; rw [adM, Nat.zero_add] at this; exact this
set_option maxRecDepth 100000 in
set_option maxHeartbeats 4000000 in
theorem vmEvents (m : Nat) (w : World) (V : VmV) (M : Vm.Mc) (h : VmS m w V M) (hb : M.events.length ≤ 1000000000) : Calls Tryd.prog 17 #[.pointer (some ⟨m, 0, none⟩)] w fun e w' => ∃ a c, e = .returned (.slice a M.events.length c) ∧ EvW w.heap.size w'.heap.size w' a M.events ∧ Below w.heap.size w w' := by
  have ho : w.ownsRow (m + 1) 43 2 V.ev M.events.length (Vm.evC M.events) := h.rows.ob
  obtain ⟨sa, sc, hv⟩ := own_shp ho
  have c9 := h.cell.2.2.2.2.2.1
  rw [hv] at c9 ho
  have EC : Hid (Calls Tryd.prog 45 #[.slice sa M.events.length sc] w fun e w' => ∃ a c, e = .returned (.slice a M.events.length c) ∧ EvW w.heap.size w'.heap.size w' a M.events ∧ Below w.heap.size w w') := by
    refine (cloneEv w sa M.events.length sc (Vm.evC M.events) (fun e => ?_) (evC_len _) (fun ad e => ?_) (evC_one _) (by omega)).mono fun e w' ⟨v', h1, h2, h3⟩ => ?_
    · subst e
      rcases ho.2 with ⟨_, e0⟩ | ⟨_, _, _, e, _⟩
      · exact e0
      · cases e
    · subst e
      rcases ho.2 with ⟨e, _⟩ | ⟨g, cap, cur, e, _⟩
      · cases e
      · cases e
        exact fun j u hu => @World.ownsRow.cells _ _ _ _ _ _ _ ho g rfl j u hu
    · obtain ⟨a, cap, e1, h4, h5⟩ := own_evW h2 rfl
      exact ⟨a, cap, by rw [h1, e1], h5, h3⟩
  obtain ⟨n, hn⟩ : ∃ n, n = M.events.length := ⟨_, rfl⟩
  rw [← hn] at EC c9 ⊢
  clear h ho hv hb hn
  go_enter Tryd.func17, Tryd.ntmps17
  go_wp2_with fail
  refine Calls.mono EC.out ?_
  rintro e1 w1 ⟨a, c, rfl, h1, h2⟩
  have FIN : Hid (∃ a' c', Ending.returned (.slice a n c) = .returned (.slice a' n c') ∧ EvW w.heap.size w1.heap.size w1 a' M.events ∧ Below w.heap.size w w1) := ⟨a, c, rfl, h1, h2⟩
  clear h1 h2 EC c9
  go_wp2_with fail
  go_ret
  first
    | exact FIN.out
    | simpa using FIN.out
theorem oEvents (lo m : Nat) (w : World) (V : VmV) (M : Vm.Mc) (h : VmO lo m w V M) (hb : M.events.length ≤ 1000000000) : Calls Tryd.prog 17 #[.pointer (some ⟨m, 0, none⟩)] w fun e w' => ∃ a c, e = .returned (.slice a M.events.length c) ∧ EvW w.heap.size w'.heap.size w' a M.events ∧ Below w.heap.size w w' := vmEvents m w V (M.gh ⟨w, VOwn V, lo⟩) h.re hb
set_option maxRecDepth 100000 in
set_option maxHeartbeats 4000000 in
theorem vmTickN (w : World) : Calls Tryd.prog 27 #[.pointer none] w fun e w' => e = .returned (.tuple #[.agg #[.int .i64 0, .int .i64 0, .int .i64 0, .int .i64 0], .bool false]) ∧ Below w.heap.size w w' := by
  go_enter Tryd.func27, Tryd.ntmps27
  go_wp2_with fail
  refine bodyPost_ret (v := .tuple #[.agg #[.int .i64 0, .int .i64 0, .int .i64 0, .int .i64 0], .bool false]) (by simp [results, Tryd.results27, go_sem]) rfl ?_
  exact ⟨rfl, by go_grown⟩
set_option maxRecDepth 100000 in
set_option maxHeartbeats 4000000 in
theorem vmFrameN (k : Int) (w : World) : Calls Tryd.prog 26 #[.pointer none, .int .i64 k] w fun e w' => e = .returned (.tuple #[.int .i64 0, .int .i64 0, .slice none 0 0, .bool false]) ∧ Below w.heap.size w w' := by
  have EF : Hid _ := vmFramesN w
  by_cases hk : k < 0
  · have dk : decide (k < 0) = true := decide_eq_true hk
    go_enter Tryd.func26, Tryd.ntmps26
    go_wp2_with fail
    refine bodyPost_ret (v := .tuple #[.int .i64 0, .int .i64 0, .slice none 0 0, .bool false]) (by simp [results, Tryd.results26, go_sem]) rfl ?_
    exact ⟨rfl, by go_grown⟩
  · have dk : decide (k < 0) = false := decide_eq_false hk
    have hk0 : 0 ≤ k := by omega
    have dk2 : decide (0 ≤ k) = true := decide_eq_true hk0
    have dk3 : decide (k ≥ 0) = true := decide_eq_true hk0
    go_enter Tryd.func26, Tryd.ntmps26
    go_wp2_with fail
    refine Calls.mono EF.out ?_
    rintro e1 w1 ⟨rfl, b1⟩
    have FIN : Hid (Below w.heap.size w w1) := b1
    clear b1 EF
    go_wp2_with fail
    refine bodyPost_ret (v := .tuple #[.int .i64 0, .int .i64 0, .slice none 0 0, .bool false]) (by simp [results, Tryd.results26, go_sem]) rfl ?_
    exact ⟨rfl, FIN.out⟩
set_option maxRecDepth 100000 in
set_option maxHeartbeats 4000000 in
theorem vmCopyN (w : World) : Calls Tryd.prog 29 #[.pointer none] w fun e w' => e = .returned (.pointer none) ∧ Below w.heap.size w w' := by
  go_enter Tryd.func29, Tryd.ntmps29
  go_wp2_with fail
  first
    | (go_ret; exact ⟨rfl, by go_grown⟩)
    | (refine bodyPost_ret (v := .pointer none) (by simp [results, Tryd.results29, go_sem]) rfl ?_; exact ⟨rfl, by go_grown⟩)
/-- Two machines of which nothing is the other's. -/
def Dis (lo m : Nat) (V : VmV) (lo2 m2 : Nat) (V2 : VmV) : Prop := ∀ k, Sup lo m V k → Sup lo2 m2 V2 k → False
theorem Dis.symm {lo m lo2 m2 : Nat} {V V2 : VmV} (h : Dis lo m V lo2 m2 V2) : Dis lo2 m2 V2 lo m V := fun k a b => h k b a
theorem VmO.sup_lt {lo m : Nat} {w : World} {V : VmV} {M : Vm.Mc} (h : VmO lo m w V M) {k : Nat} (s : Sup lo m V k) : k < w.heap.size := by
  rcases s with s | s
  · have := h.lt; omega
  · exact (h.own_lt s).2
theorem VmO.sup_ge {lo m : Nat} {w : World} {V : VmV} {M : Vm.Mc} (h : VmO lo m w V M) {k : Nat} (s : Sup lo m V k) : lo ≤ k := by
  rcases s with s | s
  · exact s.1
  · have := (h.own_lt s).1; have := h.lm; omega
/-- What one does leaves the other as it was. -/
theorem VmO.other {lo m lo2 m2 : Nat} {w w' : World} {V V' V2 : VmV} {M M2 : Vm.Mc} (h : VmO lo m w V M) (f : Frm m w w' V V') (h2 : VmO lo2 m2 w V2 M2) (d : Dis lo m V lo2 m2 V2) : VmO lo2 m2 w' V2 M2 ∧ Dis lo m V' lo2 m2 V2 := by
  refine ⟨h2.keep fun b s => f.eq b (h2.sup_lt s) (fun e => d b (.inl ⟨by have := h.lm; omega, by omega⟩) s) (fun o => d b (.inr o) s), fun k a b => ?_⟩
  rcases a with a | a
  · exact d k (.inl a) b
  · rcases f.ow k a with o | o
    · exact d k (.inr o) b
    · have := h2.sup_lt b
      omega
/-- One that begins later has nothing of the elder one's. -/
theorem VmO.young {lo m lo2 m2 : Nat} {w w' : World} {V V2 : VmV} {M M2 : Vm.Mc} (h : VmO lo m w V M) (hl : w.heap.size ≤ lo2) (h2 : VmO lo2 m2 w' V2 M2) : Dis lo m V lo2 m2 V2 := fun k a b => by
  have := h.sup_lt a
  have := h2.sup_ge b
  omega
theorem Frm.low {m : Nat} {w w' : World} {V V' : VmV} (h : Frm m w w' V V') {b : Nat} (hb : b ≤ m) : Below b w w' := h.b.mono hb
end Go.Proofs.YtodpdnidinnjjaaDoor
