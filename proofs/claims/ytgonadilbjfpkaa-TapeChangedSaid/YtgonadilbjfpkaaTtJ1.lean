/- Layer 13: an event's record is taken: with a number. -/
import Derived.Test.YtgonadilbjfpkaaTtI
namespace Go.Proofs.Ytgonadilbjfpkaa
open Go.RowKit
set_option linter.unusedVariables false
set_option linter.unusedSimpArgs false
/-- An event's box. -/
theorem ebxA (W : World) (kd : Int) : (W.alloc (.cells #[.int .i64 kd, .int .i64 0] 96)).heap[W.heap.size]? = some (.cells #[.int .i64 kd, .int .i64 0] 96 (0, 0)) := heap_alloc_new W _
theorem ebxK {W w' : World} {g X : Nat} {o : Obj} (q : W.grownBy w' (some g)) (h : W.heap[X]? = some o) (hg : g < X) : w'.heap[X]? = some o :=
  (q.block X (Array.getElem?_eq_some_iff.1 h).1 (by simp; omega)).trans h
theorem set1_gb (w : World) (X i : Nat) (a : Value) : w.grownBy (w.setCell ⟨X, i, none⟩ a) (some X) :=
  ⟨rfl, rfl, rfl, by simp, fun k hk hn => heap_setCell_other _ _ k _ (by intro e; exact hn (by rw [e]))⟩
set_option maxRecDepth 100000 in
set_option maxHeartbeats 4000000 in
theorem event_ok (w0 w : World) (g : Nat) (a : Option Addr) (c : Nat) (b : List Int) (k : Nat) (tv cv ev : Value) (s : Int) (t : Tp.Tr) (h : TrR w0 g a c b k tv cv ev s t w) (hk : k < b.length) (kd : Int) (hn : Tp.hasN kd = true) (z u : Nat) (h1 : Tp.rdF 0 0 (b.drop (k + 1)) = .inl (z, u)) (hE : t.events.length ≤ 1000000) :
    Calls Try.prog 77 #[.pointer (some ⟨g, 0, none⟩), .int .i64 kd] w fun e w' => e = .returned (.tuple #[]) ∧ ∃ tv cv ev, TrR w0 g a c b (k + 1 + u) tv cv ev s ⟨t.ticks, t.counts, t.events ++ [⟨kd, Tp.zag z⟩]⟩ w' := by
  have hln := h.p.ln
  have a1 := h.p.c1
  have af := h.p.fz 1
  have H1 := hidT (h.setK (k' := k + 1) hk)
  have ek : ((k + 1 : Nat) : Int) = (k : Int) + 1 := by omega
  rw [ek] at H1
  obtain ⟨W1, hW1⟩ : ∃ W, W = w.setCell ⟨g, 1, none⟩ (.int .i64 ((k : Int) + 1)) := ⟨_, rfl⟩
  rw [← hW1] at H1
  clear ek
  have E2 := hidT (numbered_any kd)
  rw [hn] at E2
  have E1 : Hid (∀ W, TrR w0 g a c b (k + 1) tv cv ev s t W → Calls Try.prog 60 #[.pointer (some ⟨g, 0, none⟩)] W fun e w' => e = .returned (.int .i64 (Tp.zag z)) ∧ PlQ g 75 a c b [tv, cv, ev, .int .i64 s] W (k + 1 + u) w') := fun W q => by have := number_any W g _ a c b _ _ q.p; rw [h1] at this; exact this
  clear h1
  have hT1 := hidT hE
  clear hE
  obtain ⟨i0, hi, hz0, hz1, hz2⟩ := info_of infoIt
  clear h
  go_enter Try.func77, Try.ntmps77
  go_upto_region 2 with fail
  rw [← hW1]
  clear hW1 a1 af
  go_wp2_with fail
  refine (E2.out _).mono ?_
  rintro e w2 ⟨rfl, rfl⟩
  go_wp2_with fail
  refine (E1.out _ (H1.out.later (by go_grown))).mono ?_
  rintro e w3 ⟨rfl, q3⟩
  have H3 := hidT ((H1.out.later (by go_grown)).go q3)
  have hg1 := H1.out.p.lt
  have bx : Hid (w3.heap[W1.heap.size]? = some (.cells #[.int .i64 kd, .int .i64 0] 96 (0, 0))) := ebxK q3.2 (ebxA W1 kd) hg1
  have y0 : w3.cell? ⟨W1.heap.size, 0, none⟩ = some (.int .i64 kd) := by have := bx.out; simp [World.cell?, this]
  have y1 : w3.cell? ⟨W1.heap.size, 1, none⟩ = some (.int .i64 0) := by have := bx.out; simp [World.cell?, this]
  have f1 : w3.frozen? ⟨W1.heap.size, 1, none⟩ = false := by have := bx.out; simp [World.frozen?, this]
  obtain ⟨wc, hwc⟩ : ∃ W, W = w3.setCell ⟨W1.heap.size, 1, none⟩ (.int .i64 (Tp.zag z)) := ⟨_, rfl⟩
  have lt1 : Hid (∀ v : Value, (∀ j, v.ownBlock = some j → j < W1.heap.size) → v.ownBlock ≠ some W1.heap.size) := fun v h e => by have := h _ e; omega
  have H5 : Hid (TrR w0 g a c b (k + 1 + u) tv cv ev s t wc) := by
    rw [hwc]
    exact H3.out.off (set1_gb w3 W1.heap.size 1 _) H1.out.bl.size (lt1.out _ (fun j hj => (World.ownsRow.lt H1.out.ot j hj).2)) (lt1.out _ (fun j hj => (World.ownsRow.lt H1.out.oc j hj).2)) (lt1.out _ (fun j hj => (World.ownsRow.lt H1.out.oe j hj).2))
  have B5 : wc.heap[W1.heap.size]? = some (.cells #[.int .i64 kd, .int .i64 (Tp.zag z)] 96 (0, 0)) := by
    rw [hwc, heap_setCell_same _ _ 1 _ _ _ bx.out]
    simp
  have m0 : wc.cell? ⟨W1.heap.size, 0, none⟩ = some (.int .i64 kd) := by simp [World.cell?, B5]
  have m1 : wc.cell? ⟨W1.heap.size, 1, none⟩ = some (.int .i64 (Tp.zag z)) := by simp [World.cell?, B5]
  clear B5 bx lt1 q3 E1 E2
  have HW := hidT hwc
  clear hwc
  generalize W1.heap.size = M5 at *
  go_upto_region 5 with fail
  rw [← HW.out]
  clear y0 y1 f1
  obtain ⟨ea, ec, hv3⟩ := ownShT H5.out.oe
  subst hv3
  obtain ⟨n0, n1, n2, n3⟩ := H5.out.cells
  have hlt5 := H5.out.p.lt
  have EPT := hidT (fun (W : World) (fst : Int) (q : Below wc.heap.size wc W) => putE_any W w0.heap.size g fst (.slice ea t.events.length ec) t.events ⟨kd, Tp.zag z⟩ (H5.out.later q).oe (H5.out.later q).bl.size hT1.out)
  obtain ⟨ne, hne⟩ : ∃ n, n = t.events.length := ⟨_, rfl⟩
  have HNE := hidT hne
  rw [← hne] at EPT H5 n2
  clear hne hT1
  go_region_with (first
    | (go_at_call 80; refine Calls.mono (EPT.out _ _ (by go_grown)) ?_; rintro e w6 ⟨v6, rfl, o6, k6⟩; have F6 := (H5.out.later (by go_grown)).grE o6 k6 (congrArg (· + 1) HNE.out) rfl; have F6a := F6.1; have F6b := F6.2.1; have H6 := hidT F6.2.2; have F6s := ownShT o6; obtain ⟨va6, vc6, hv6⟩ := F6s; subst hv6; clear F6 o6 k6))
  all_goals go_wp2_with fail
  all_goals refine ⟨rfl, .tuple #[], by simp [results, Try.results77, go_sem], rfl, ?_⟩
  all_goals exact ⟨_, _, _, H6.out⟩
end Go.Proofs.Ytgonadilbjfpkaa
