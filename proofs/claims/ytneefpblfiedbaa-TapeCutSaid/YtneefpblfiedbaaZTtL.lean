/- Layer 13: a tick's record: its second number is wrong. -/
/- Layer 13: a tick's record: its third number is wrong. -/
/- Layer 13: a tick's record: it is right. -/
/- Layer 13: an event's record is taken: with a number. -/
/- Layer 13: an event's record is taken: without a number. -/
/- Layer 13: an event's record is taken: its number is wrong. -/
/- Layer 13: a record is taken. -/
/- Layer 13: the reader of a trace, whole. -/
import Derived.Test.YtneefpblfiedbaaZTtI1
import Derived.Test.YtneefpblfiedbaaZTpV
namespace Go.Proofs.Ytneefpblfiedbaa
open Go.RowKit
set_option linter.unusedVariables false
set_option linter.unusedSimpArgs false
set_option maxRecDepth 100000 in
set_option maxHeartbeats 4000000 in
theorem tick_b2 (w0 w : World) (g : Nat) (a : Option Addr) (c : Nat) (b : List Int) (k : Nat) (tv cv ev : Value) (s : Int) (t : Tp.Tr) (h : TrR w0 g a c b k tv cv ev s t w) (hk : k < b.length) (kd : Int) (z1 k1 j : Nat) (x : Int) (h1 : Tp.tnum b 0 (k + 1) = .good z1 k1) (h2 : Tp.tnum b 0 k1 = .bad j x) :
    Calls Try.prog 65 #[.pointer (some ⟨g, 0, none⟩), .int .i64 kd] w fun e w' => e = tpPan x ∧ ∃ tv cv ev, TrR w0 g a c b j tv cv ev s t w' := by
  have hln := h.p.ln
  have a1 := h.p.c1
  have af := h.p.fz 1
  have H1 := hidT (h.setK (k' := k + 1) hk)
  have ek : ((k + 1 : Nat) : Int) = (k : Int) + 1 := by omega
  rw [ek] at H1
  obtain ⟨W1, hW1⟩ : ∃ W, W = w.setCell ⟨g, 1, none⟩ (.int .i64 ((k : Int) + 1)) := ⟨_, rfl⟩
  rw [← hW1] at H1
  clear ek
  have E1 : Hid (∀ W, TrR w0 g a c b (k + 1) tv cv ev s t W → Calls Try.prog 59 #[.pointer (some ⟨g, 0, none⟩), .int .u64 0, .int .u64 2147483647, .int .i64 110] W fun e w' => e = .returned (.int .i64 (z1 : Nat)) ∧ PlQ g 56 a c b [tv, cv, ev, .int .i64 s] W k1 w') := fun W q => (countT W g _ a c b _ _ q.p 0).1 _ _ h1
  have E2 : Hid (∀ W, TrR w0 g a c b k1 tv cv ev s t W → Calls Try.prog 59 #[.pointer (some ⟨g, 0, none⟩), .int .u64 0, .int .u64 2147483647, .int .i64 110] W fun e w' => e = tpPan x ∧ PlQ g 56 a c b [tv, cv, ev, .int .i64 s] W j w') := fun W q => (countT W g _ a c b _ _ q.p 0).2 _ _ h2
  clear h1 h2
  clear h
  go_enter Try.func65, Try.ntmps65
  go_upto_region 2 with fail
  rw [← hW1]
  clear hW1 a1 af
  go_region_with (first
    | (have qq := hF; go_at_call 59; refine Calls.mono (show Calls _ _ _ _ (fun e _ => e = .returned (.int .i64 0) ∧ True) from hF.out _) ?_; rintro e w5 ⟨rfl, -⟩)
    | (have qq := H2; go_at_call 59; refine shutT (E2.out _ (H2.out.later (by go_grown))) ?_ (.int .i64 0) ?_; (unfold tpPan; rintro e w9 ⟨rfl, q⟩; exact ⟨rfl, rfl, _, _, _, (H2.out.later (by go_grown)).go q⟩); intro hF; have hz8 : ∀ (W : World) (q : Addr), W.frozen? q = false := fun _ _ => hF.out _; have hz9 : ∀ (W : World) (q : Addr), W.cell? q = some (.int .i64 0) := fun _ _ => hF.out _)
    | (go_at_call 59; refine Calls.mono (E1.out _ (H1.out.later (by go_grown))) ?_; rintro e w1 ⟨rfl, q1⟩; have H2 := hidT ((H1.out.later (by go_grown)).go q1); clear q1))
  all_goals exact hF.out _
end Go.Proofs.Ytneefpblfiedbaa

namespace Go.Proofs.Ytneefpblfiedbaa
open Go.RowKit
set_option linter.unusedVariables false
set_option linter.unusedSimpArgs false
set_option maxRecDepth 100000 in
set_option maxHeartbeats 4000000 in
theorem tick_b3 (w0 w : World) (g : Nat) (a : Option Addr) (c : Nat) (b : List Int) (k : Nat) (tv cv ev : Value) (s : Int) (t : Tp.Tr) (h : TrR w0 g a c b k tv cv ev s t w) (hk : k < b.length) (kd : Int) (z1 k1 z2 k2 j : Nat) (x : Int) (h1 : Tp.tnum b 0 (k + 1) = .good z1 k1) (h2 : Tp.tnum b 0 k1 = .good z2 k2) (h3 : Tp.tnum b 1 k2 = .bad j x) :
    Calls Try.prog 65 #[.pointer (some ⟨g, 0, none⟩), .int .i64 kd] w fun e w' => e = tpPan x ∧ ∃ tv cv ev, TrR w0 g a c b j tv cv ev s t w' := by
  have hln := h.p.ln
  have a1 := h.p.c1
  have af := h.p.fz 1
  have H1 := hidT (h.setK (k' := k + 1) hk)
  have ek : ((k + 1 : Nat) : Int) = (k : Int) + 1 := by omega
  rw [ek] at H1
  obtain ⟨W1, hW1⟩ : ∃ W, W = w.setCell ⟨g, 1, none⟩ (.int .i64 ((k : Int) + 1)) := ⟨_, rfl⟩
  rw [← hW1] at H1
  clear ek
  have E1 : Hid (∀ W, TrR w0 g a c b (k + 1) tv cv ev s t W → Calls Try.prog 59 #[.pointer (some ⟨g, 0, none⟩), .int .u64 0, .int .u64 2147483647, .int .i64 110] W fun e w' => e = .returned (.int .i64 (z1 : Nat)) ∧ PlQ g 56 a c b [tv, cv, ev, .int .i64 s] W k1 w') := fun W q => (countT W g _ a c b _ _ q.p 0).1 _ _ h1
  have E2 : Hid (∀ W, TrR w0 g a c b k1 tv cv ev s t W → Calls Try.prog 59 #[.pointer (some ⟨g, 0, none⟩), .int .u64 0, .int .u64 2147483647, .int .i64 110] W fun e w' => e = .returned (.int .i64 (z2 : Nat)) ∧ PlQ g 56 a c b [tv, cv, ev, .int .i64 s] W k2 w') := fun W q => (countT W g _ a c b _ _ q.p 0).1 _ _ h2
  have E3 : Hid (∀ W, TrR w0 g a c b k2 tv cv ev s t W → Calls Try.prog 59 #[.pointer (some ⟨g, 0, none⟩), .int .u64 1, .int .u64 2147483647, .int .i64 110] W fun e w' => e = tpPan x ∧ PlQ g 56 a c b [tv, cv, ev, .int .i64 s] W j w') := fun W q => (countT W g _ a c b _ _ q.p 1).2 _ _ h3
  clear h1 h2 h3
  clear h
  go_enter Try.func65, Try.ntmps65
  go_upto_region 2 with fail
  rw [← hW1]
  clear hW1 a1 af
  go_region_with (first
    | (have qq := hF; go_at_call 59; refine Calls.mono (show Calls _ _ _ _ (fun e _ => e = .returned (.int .i64 0) ∧ True) from hF.out _) ?_; rintro e w5 ⟨rfl, -⟩)
    | (have qq := H3; go_at_call 59; refine shutT (E3.out _ (H3.out.later (by go_grown))) ?_ (.int .i64 0) ?_; (unfold tpPan; rintro e w9 ⟨rfl, q⟩; exact ⟨rfl, rfl, _, _, _, (H3.out.later (by go_grown)).go q⟩); intro hF; have hz8 : ∀ (W : World) (q : Addr), W.frozen? q = false := fun _ _ => hF.out _; have hz9 : ∀ (W : World) (q : Addr), W.cell? q = some (.int .i64 0) := fun _ _ => hF.out _)
    | (have qq := H2; go_at_call 59; refine Calls.mono (E2.out _ (H2.out.later (by go_grown))) ?_; rintro e w2 ⟨rfl, q2⟩; have H3 := hidT ((H2.out.later (by go_grown)).go q2); clear q2)
    | (go_at_call 59; refine Calls.mono (E1.out _ (H1.out.later (by go_grown))) ?_; rintro e w1 ⟨rfl, q1⟩; have H2 := hidT ((H1.out.later (by go_grown)).go q1); clear q1))
  all_goals exact hF.out _
end Go.Proofs.Ytneefpblfiedbaa

namespace Go.Proofs.Ytneefpblfiedbaa
open Go.RowKit
set_option linter.unusedVariables false
set_option linter.unusedSimpArgs false
/-- One more behind a row: what is put lies in the block that the world has made last. -/
theorem wp_app1 {P : Program} {V : World} {o : Oper} {a : Act} {K : Act → World → Prop} {Q : Exit → Act → World → Prop} (W7 : World) (s x : Operand) (t : TypeId)
    (ho : o.op = .call { callee := .builtin .append, args := #[s, x], argTypes := #[t, t] })
    (base : Nat) (e : TypeId) (i : TypeInfo) (z : Value) (bytes : Nat) (ht : P.underlying t = some (.slice e)) (hi : P.info? e = some i) (hz : i.zero = some z)
    (hsize : i.size = 1) (hby : i.bytes = bytes) (hzs : z.cells.size = 1)
    (v : Value) (n : Nat) (xs : List Value) (hs : a.eval s = v) (hown : W7.ownsRow base e 1 v n xs) (u : Value)
    (hV : V.os = W7.os ∧ V.tape = W7.tape ∧ V.output = W7.output ∧ V.heap = (W7.alloc (.cells #[u] e)).heap)
    (hx : a.eval x = .slice (some ⟨W7.heap.size, 0, none⟩) 1 1) (h1 : u.oneCell' = true)
    (h63 : n + 1 ≤ maxLen) (hbytes : (n + 1) * bytes ≤ 140737488355328) (hbase : base ≤ W7.heap.size)
    (h : ∀ v' w', w'.ownsRow base e 1 v' (n + 1) (xs ++ [u]) → Gw W7 v v' w' → K (a.put o.dst v') w') : o.wp P a V K Q := by
  obtain ⟨V1, V2, V3, V4⟩ := hV
  have hb : Below W7.heap.size W7 V := ⟨V1, V2, V3, by rw [V4]; simp, fun k hk => by rw [V4]; exact ((Below.refl W7.heap.size W7).alloc (Nat.le_refl _) _).block k hk⟩
  have hsz : V.heap.size = W7.heap.size + 1 := by rw [V4]; simp
  refine wp_append_tol s x t ho base e i z 1 bytes ht hi hz hsize hby hzs (by decide) v n xs hs (ownLtT hown hb) ⟨W7.heap.size, 0, none⟩ 1 1 [u] hx rfl (fun j y hj => ?_) (by intro y hy; simp at hy; subst hy; exact h1) h63 hbytes (by omega) (by decide) ?_
  · have := one1 W7 u e j y hj
    simp only [World.cell?] at this ⊢
    rw [V4]
    exact this
  · intro v8 w8 h8 g8 o8
    refine h v8 w8 h8 ⟨⟨g8.os.trans V1, g8.tape.trans V2, g8.output.trans V3, ?_, fun k hk hn => (g8.block k (by omega) hn).trans (hb.block k hk)⟩, o8.imp id fun ⟨g, h, k⟩ => ⟨g, h, by omega⟩⟩
    have := g8.size
    omega
set_option maxRecDepth 100000 in
set_option maxHeartbeats 4000000 in
theorem tick_ok (w0 w : World) (g : Nat) (a : Option Addr) (c : Nat) (b : List Int) (k : Nat) (tv cv ev : Value) (s : Int) (t : Tp.Tr) (h : TrR w0 g a c b k tv cv ev s t w) (hk : k < b.length) (kd : Int) (z1 k1 z2 k2 z3 k3 : Nat) (h1 : Tp.tnum b 0 (k + 1) = .good z1 k1) (h2 : Tp.tnum b 0 k1 = .good z2 k2) (h3 : Tp.tnum b 1 k2 = .good z3 k3) (hT : t.ticks.length ≤ 1000000) (hC : t.counts.length ≤ 1000000) (hE : t.events.length ≤ 1000000) :
    Calls Try.prog 65 #[.pointer (some ⟨g, 0, none⟩), .int .i64 kd] w fun e w' => e = .returned (.tuple #[]) ∧ ∃ tv cv ev, TrR w0 g a c b k3 tv cv ev s ⟨t.ticks ++ [⟨kd, z1, z2, z3⟩], t.counts ++ [(t.events.length : Int)], t.events⟩ w' := by
  have hln := h.p.ln
  have a1 := h.p.c1
  have af := h.p.fz 1
  have H1 := hidT (h.setK (k' := k + 1) hk)
  have ek : ((k + 1 : Nat) : Int) = (k : Int) + 1 := by omega
  rw [ek] at H1
  obtain ⟨W1, hW1⟩ : ∃ W, W = w.setCell ⟨g, 1, none⟩ (.int .i64 ((k : Int) + 1)) := ⟨_, rfl⟩
  rw [← hW1] at H1
  clear ek
  have E1 : Hid (∀ W, TrR w0 g a c b (k + 1) tv cv ev s t W → Calls Try.prog 59 #[.pointer (some ⟨g, 0, none⟩), .int .u64 0, .int .u64 2147483647, .int .i64 110] W fun e w' => e = .returned (.int .i64 (z1 : Nat)) ∧ PlQ g 56 a c b [tv, cv, ev, .int .i64 s] W k1 w') := fun W q => (countT W g _ a c b _ _ q.p 0).1 _ _ h1
  have E2 : Hid (∀ W, TrR w0 g a c b k1 tv cv ev s t W → Calls Try.prog 59 #[.pointer (some ⟨g, 0, none⟩), .int .u64 0, .int .u64 2147483647, .int .i64 110] W fun e w' => e = .returned (.int .i64 (z2 : Nat)) ∧ PlQ g 56 a c b [tv, cv, ev, .int .i64 s] W k2 w') := fun W q => (countT W g _ a c b _ _ q.p 0).1 _ _ h2
  have E3 : Hid (∀ W, TrR w0 g a c b k2 tv cv ev s t W → Calls Try.prog 59 #[.pointer (some ⟨g, 0, none⟩), .int .u64 1, .int .u64 2147483647, .int .i64 110] W fun e w' => e = .returned (.int .i64 (z3 : Nat)) ∧ PlQ g 56 a c b [tv, cv, ev, .int .i64 s] W k3 w') := fun W q => (countT W g _ a c b _ _ q.p 1).1 _ _ h3
  clear h1 h2 h3
  obtain ⟨i0, hi, hz0, hz1, hz2⟩ := info_of infoIt
  have hT1 := hidT (And.intro hT (And.intro hC hE))
  have hg1 := hidT H1.out.p.lt
  have htv : Hid (∀ j, tv.ownBlock = some j → j < W1.heap.size) := fun j hj => (World.ownsRow.lt H1.out.ot j hj).2
  have hcv : Hid (∀ j, cv.ownBlock = some j → j < W1.heap.size) := fun j hj => (World.ownsRow.lt H1.out.oc j hj).2
  have hev : Hid (∀ j, ev.ownBlock = some j → j < W1.heap.size) := fun j hj => (World.ownsRow.lt H1.out.oe j hj).2
  clear hT hC hE
  clear h
  go_enter Try.func65, Try.ntmps65
  go_upto_region 2 with fail
  rw [← hW1]
  clear hW1 a1 af
  go_cut [5] from 20 to 33 (fun sv wx => ∃ M5, sv = .pointer (some ⟨M5, 0, none⟩) ∧ TrR w0 g a c b k3 tv cv ev s t wx ∧ wx.heap[M5]? = some (.cells #[.int .i64 kd, .int .i64 (z1 : Nat), .int .i64 (z2 : Nat), .int .i64 (z3 : Nat)] 62 (0, 0)))
  case first =>
    go_region_with (first
    | (have qq := H3; go_at_call 59; refine Calls.mono (E3.out _ (H3.out.later (by go_grown))) ?_; rintro e w3 ⟨rfl, q3⟩; have H4 := hidT ((H3.out.later (by go_grown)).go q3); (first | (have bx3 := hidT (show BxF w3 w2.heap.size from bxA q3.2 H3.out.p.lt); have y := bx3.out.c; have y0 := y.1; have y1 := y.2.1; have y2 := y.2.2.1; have y3 := y.2.2.2; have f0 := bx3.out.f 0; have f1 := bx3.out.f 1; have f2 := bx3.out.f 2; have f3 := bx3.out.f 3; have lx := bx3.out.lt; clear y) | (have bx3 := hidT (show BxF w3 w1.heap.size from bxK q3.2 bx2.out H2.out.p.lt); have y := bx3.out.c; have y0 := y.1; have y1 := y.2.1; have y2 := y.2.2.1; have y3 := y.2.2.2; have f0 := bx3.out.f 0; have f1 := bx3.out.f 1; have f2 := bx3.out.f 2; have f3 := bx3.out.f 3; have lx := bx3.out.lt; clear y) | (have bx3 := hidT (show BxF w3 W1.heap.size from bxK q3.2 bx2.out hg1.out); have y := bx3.out.c; have y0 := y.1; have y1 := y.2.1; have y2 := y.2.2.1; have y3 := y.2.2.2; have f0 := bx3.out.f 0; have f1 := bx3.out.f 1; have f2 := bx3.out.f 2; have f3 := bx3.out.f 3; have lx := bx3.out.lt; clear y) | skip); clear q3)
    | (have qq := H2; go_at_call 59; refine Calls.mono (E2.out _ (H2.out.later (by go_grown))) ?_; rintro e w2 ⟨rfl, q2⟩; have H3 := hidT ((H2.out.later (by go_grown)).go q2); have Z2 := hidT (Nat.le_trans (show w1.heap.size ≤ _ from by go_size) q2.2.size); (first | (have bx2 := hidT (show BxF w2 w1.heap.size from bxA q2.2 H2.out.p.lt)) | (have bx2 := hidT (show BxF w2 W1.heap.size from bxK q2.2 bx1.out hg1.out)) | skip); clear q2)
    | (go_at_call 59; refine Calls.mono (E1.out _ (H1.out.later (by go_grown))) ?_; rintro e w1 ⟨rfl, q1⟩; have H2 := hidT ((H1.out.later (by go_grown)).go q1); have Z1 := hidT (Nat.le_trans (show W1.heap.size ≤ _ from by go_size) q1.2.size); (first | (have bx1 := hidT (show BxF w1 W1.heap.size from bxA q1.2 hg1.out)) | (have bx1 := hidT (show BxF w1 W1.heap.size from bxK q1.2 (show BxF _ W1.heap.size from heap_alloc_new W1 (.cells #[.int .i64 0, .int .i64 0, .int .i64 0, .int .i64 0] 62)) hg1.out)) | skip); clear q1))
    all_goals go_wp2_with fail
    all_goals go_meet
    · exact ⟨_, rfl, H4.out.later ((Below.refl _ _).alloc (Nat.le_refl _) _), heap_alloc_new w3 _⟩
    · exact ⟨_, rfl, H4.out.off (set4_gb w3 w2.heap.size _ _ _ _) (Nat.le_trans H2.out.bl.size Z2.out) (fun e => by have := htv.out _ e; have := Z1.out; have := Z2.out; omega) (fun e => by have := hcv.out _ e; have := Z1.out; have := Z2.out; omega) (fun e => by have := hev.out _ e; have := Z1.out; have := Z2.out; omega), bx3.out.fill _ _ _ _⟩
    · exact ⟨_, rfl, H4.out.off (set4_gb w3 w1.heap.size _ _ _ _) H2.out.bl.size (fun e => by have := htv.out _ e; have := Z1.out; omega) (fun e => by have := hcv.out _ e; have := Z1.out; omega) (fun e => by have := hev.out _ e; have := Z1.out; omega), bx3.out.fill _ _ _ _⟩
    · exact ⟨_, rfl, H4.out.off (set4_gb w3 W1.heap.size _ _ _ _) H1.out.bl.size (fun e => by have := htv.out _ e; omega) (fun e => by have := hcv.out _ e; omega) (fun e => by have := hev.out _ e; omega), bx3.out.fill _ _ _ _⟩
  case rest =>
    obtain ⟨M5, rfl, T5, B5⟩ := hcut
    clear E1 E2 E3 H1 htv hcv hev hg1
    obtain ⟨ta, tc, hv1⟩ := ownShT T5.ot
    obtain ⟨ca, cc, hv2⟩ := ownShT T5.oc
    obtain ⟨ea, ec, hv3⟩ := ownShT T5.oe
    subst hv1 hv2 hv3
    have H5 := hidT T5
    have m0 : wc.cell? ⟨M5, 0, none⟩ = some (.int .i64 kd) := by simp [World.cell?, B5]
    have m1 : wc.cell? ⟨M5, 1, none⟩ = some (.int .i64 (z1 : Nat)) := by simp [World.cell?, B5]
    have m2 : wc.cell? ⟨M5, 2, none⟩ = some (.int .i64 (z2 : Nat)) := by simp [World.cell?, B5]
    have m3 : wc.cell? ⟨M5, 3, none⟩ = some (.int .i64 (z3 : Nat)) := by simp [World.cell?, B5]
    obtain ⟨n0, n1, n2, n3⟩ := T5.cells
    have EPT := hidT (fun (W : World) (fst : Int) (q : Below wc.heap.size wc W) => putT_any W w0.heap.size g fst (.slice ta t.ticks.length tc) t.ticks ⟨kd, z1, z2, z3⟩ (T5.later q).ot (T5.later q).bl.size hT1.out.1)
    have HLb := hidT hT1.out
    obtain ⟨nt, hnt⟩ : ∃ n, n = t.ticks.length := ⟨_, rfl⟩
    obtain ⟨nc, hnc⟩ : ∃ n, n = t.counts.length := ⟨_, rfl⟩
    obtain ⟨ne, hne⟩ : ∃ n, n = t.events.length := ⟨_, rfl⟩
    have HNT := hidT hnt
    have HNC := hidT hnc
    have HNE := hidT hne
    rw [← hnt] at EPT H5 n0
    rw [← hnc] at H5 n1
    rw [← hne] at H5 n2
    clear T5 B5 hnt hnc hne hT1
    go_upto_region 3 with fail
    go_region_with (first
      | (go_at_call 73; refine Calls.mono (EPT.out _ _ (by go_grown)) ?_; rintro e w6 ⟨v6, rfl, o6, k6⟩; have F6 := (H5.out.later (by go_grown)).grT o6 k6 (congrArg (· + 1) HNT.out) rfl; have F6a := F6.1; have F6b := F6.2.1; have H6 := hidT F6.2.2; have F6s := ownShT o6; obtain ⟨va6, vc6, hv6⟩ := F6s; subst hv6; clear F6 o6 k6))
    all_goals
      obtain ⟨W7, hW7⟩ : ∃ W, W = w6.setCell ⟨g, 2, none⟩ (.slice va6 (nt + 1) vc6) := ⟨_, rfl⟩
      rw [← hW7] at H6
      obtain ⟨r0, r1, r2, r3⟩ := H6.out.cells
      have rf := H6.out.p.fz 3
      have hgl := H6.out.p.lt
      have hbs : w0.heap.size ≤ W7.heap.size := H6.out.bl.size
      have hcc : Hid (W7.ownsRow w0.heap.size 3 1 (.slice ca nc cc) nc (nmC t.counts)) := by have := H6.out.oc; rw [HNC.out]; rw [HNC.out] at this; exact this
      have H63 : Hid (nc + 1 ≤ maxLen ∧ (nc + 1) * 8 ≤ 140737488355328) := by have := HLb.out.2.1; have := HNC.out; unfold Hid maxLen; omega
      clear F6a F6b n0 n1 n2 n3 m0 m1 m2 m3 EPT H5
      go_upto_region 4 with fail
      rw [← hW7]
      clear hW7
      go_region_law (first
        | (rw [if_pos (by rfl)]; refine wp_app1 W7 _ _ 23 rfl w0.heap.size 3 i0 (.int .i64 0) 8 Try.underlying23 hi hz0 hz1 hz2 rfl _ _ _ rfl hcc.out (.int .i64 (ne : Int)) ⟨rfl, rfl, rfl, rfl⟩ rfl rfl H63.out.1 H63.out.2 hbs ?_; intro v8 w8 h8 g8; have F8 := H6.out.grC h8 g8 (congrArg (· + 1) HNC.out) (x := (ne : Int)) (by simp [nmC]); have q8 := F8.1; have p8 := F8.2.1; have H8 := hidT F8.2.2; obtain ⟨va8, vc8, hv8⟩ := ownShT h8; subst hv8; clear F8 h8 g8))
      all_goals go_wp2_with fail
      all_goals refine ⟨rfl, .tuple #[], by simp [results, Try.results65, go_sem], rfl, ?_⟩
      all_goals rw [← HNE.out]
      all_goals exact ⟨_, _, _, H8.out⟩
end Go.Proofs.Ytneefpblfiedbaa

namespace Go.Proofs.Ytneefpblfiedbaa
open Go.RowKit
set_option linter.unusedVariables false
set_option linter.unusedSimpArgs false
/-- An event's box. -/
theorem ebxA (W : World) (kd : Int) : (W.alloc (.cells #[.int .i64 kd, .int .i64 0] 69)).heap[W.heap.size]? = some (.cells #[.int .i64 kd, .int .i64 0] 69 (0, 0)) := heap_alloc_new W _
theorem ebxK {W w' : World} {g X : Nat} {o : Obj} (q : W.grownBy w' (some g)) (h : W.heap[X]? = some o) (hg : g < X) : w'.heap[X]? = some o :=
  (q.block X (Array.getElem?_eq_some_iff.1 h).1 (by simp; omega)).trans h
theorem set1_gb (w : World) (X i : Nat) (a : Value) : w.grownBy (w.setCell ⟨X, i, none⟩ a) (some X) :=
  ⟨rfl, rfl, rfl, by simp, fun k hk hn => heap_setCell_other _ _ k _ (by intro e; exact hn (by rw [e]))⟩
set_option maxRecDepth 100000 in
set_option maxHeartbeats 4000000 in
theorem event_ok (w0 w : World) (g : Nat) (a : Option Addr) (c : Nat) (b : List Int) (k : Nat) (tv cv ev : Value) (s : Int) (t : Tp.Tr) (h : TrR w0 g a c b k tv cv ev s t w) (hk : k < b.length) (kd : Int) (hn : Tp.hasN kd = true) (z u : Nat) (h1 : Tp.rdF 0 0 (b.drop (k + 1)) = .inl (z, u)) (hE : t.events.length ≤ 1000000) :
    Calls Try.prog 66 #[.pointer (some ⟨g, 0, none⟩), .int .i64 kd] w fun e w' => e = .returned (.tuple #[]) ∧ ∃ tv cv ev, TrR w0 g a c b (k + 1 + u) tv cv ev s ⟨t.ticks, t.counts, t.events ++ [⟨kd, Tp.zag z⟩]⟩ w' := by
  have hln := h.p.ln
  have a1 := h.p.c1
  have af := h.p.fz 1
  have H1 := hidT (h.setK (k' := k + 1) hk)
  have ek : ((k + 1 : Nat) : Int) = (k : Int) + 1 := by omega
  rw [ek] at H1
  obtain ⟨W1, hW1⟩ : ∃ W, W = w.setCell ⟨g, 1, none⟩ (.int .i64 ((k : Int) + 1)) := ⟨_, rfl⟩
  rw [← hW1] at H1
  clear ek
  have E2 := hidT (numbered_any kd)
  rw [hn] at E2
  have E1 : Hid (∀ W, TrR w0 g a c b (k + 1) tv cv ev s t W → Calls Try.prog 60 #[.pointer (some ⟨g, 0, none⟩)] W fun e w' => e = .returned (.int .i64 (Tp.zag z)) ∧ PlQ g 56 a c b [tv, cv, ev, .int .i64 s] W (k + 1 + u) w') := fun W q => by have := number_any W g _ a c b _ _ q.p; rw [h1] at this; exact this
  clear h1
  have hT1 := hidT hE
  clear hE
  obtain ⟨i0, hi, hz0, hz1, hz2⟩ := info_of infoIt
  clear h
  go_enter Try.func66, Try.ntmps66
  go_upto_region 2 with fail
  rw [← hW1]
  clear hW1 a1 af
  go_wp2_with fail
  refine (E2.out _).mono ?_
  rintro e w2 ⟨rfl, rfl⟩
  go_wp2_with fail
  refine (E1.out _ (H1.out.later (by go_grown))).mono ?_
  rintro e w3 ⟨rfl, q3⟩
  have H3 := hidT ((H1.out.later (by go_grown)).go q3)
  have hg1 := H1.out.p.lt
  have bx : Hid (w3.heap[W1.heap.size]? = some (.cells #[.int .i64 kd, .int .i64 0] 69 (0, 0))) := ebxK q3.2 (ebxA W1 kd) hg1
  have y0 : w3.cell? ⟨W1.heap.size, 0, none⟩ = some (.int .i64 kd) := by have := bx.out; simp [World.cell?, this]
  have y1 : w3.cell? ⟨W1.heap.size, 1, none⟩ = some (.int .i64 0) := by have := bx.out; simp [World.cell?, this]
  have f1 : w3.frozen? ⟨W1.heap.size, 1, none⟩ = false := by have := bx.out; simp [World.frozen?, this]
  obtain ⟨wc, hwc⟩ : ∃ W, W = w3.setCell ⟨W1.heap.size, 1, none⟩ (.int .i64 (Tp.zag z)) := ⟨_, rfl⟩
  have lt1 : Hid (∀ v : Value, (∀ j, v.ownBlock = some j → j < W1.heap.size) → v.ownBlock ≠ some W1.heap.size) := fun v h e => by have := h _ e; omega
  have H5 : Hid (TrR w0 g a c b (k + 1 + u) tv cv ev s t wc) := by
    rw [hwc]
    exact H3.out.off (set1_gb w3 W1.heap.size 1 _) H1.out.bl.size (lt1.out _ (fun j hj => (World.ownsRow.lt H1.out.ot j hj).2)) (lt1.out _ (fun j hj => (World.ownsRow.lt H1.out.oc j hj).2)) (lt1.out _ (fun j hj => (World.ownsRow.lt H1.out.oe j hj).2))
  have B5 : wc.heap[W1.heap.size]? = some (.cells #[.int .i64 kd, .int .i64 (Tp.zag z)] 69 (0, 0)) := by
    rw [hwc, heap_setCell_same _ _ 1 _ _ _ bx.out]
    simp
  have m0 : wc.cell? ⟨W1.heap.size, 0, none⟩ = some (.int .i64 kd) := by simp [World.cell?, B5]
  have m1 : wc.cell? ⟨W1.heap.size, 1, none⟩ = some (.int .i64 (Tp.zag z)) := by simp [World.cell?, B5]
  clear B5 bx lt1 q3 E1 E2
  have HW := hidT hwc
  clear hwc
  generalize W1.heap.size = M5 at *
  go_upto_region 5 with fail
  rw [← HW.out]
  clear y0 y1 f1
  obtain ⟨ea, ec, hv3⟩ := ownShT H5.out.oe
  subst hv3
  obtain ⟨n0, n1, n2, n3⟩ := H5.out.cells
  have hlt5 := H5.out.p.lt
  have EPT := hidT (fun (W : World) (fst : Int) (q : Below wc.heap.size wc W) => putE_any W w0.heap.size g fst (.slice ea t.events.length ec) t.events ⟨kd, Tp.zag z⟩ (H5.out.later q).oe (H5.out.later q).bl.size hT1.out)
  obtain ⟨ne, hne⟩ : ∃ n, n = t.events.length := ⟨_, rfl⟩
  have HNE := hidT hne
  rw [← hne] at EPT H5 n2
  clear hne hT1
  go_region_with (first
    | (go_at_call 74; refine Calls.mono (EPT.out _ _ (by go_grown)) ?_; rintro e w6 ⟨v6, rfl, o6, k6⟩; have F6 := (H5.out.later (by go_grown)).grE o6 k6 (congrArg (· + 1) HNE.out) rfl; have F6a := F6.1; have F6b := F6.2.1; have H6 := hidT F6.2.2; have F6s := ownShT o6; obtain ⟨va6, vc6, hv6⟩ := F6s; subst hv6; clear F6 o6 k6))
  all_goals go_wp2_with fail
  all_goals refine ⟨rfl, .tuple #[], by simp [results, Try.results66, go_sem], rfl, ?_⟩
  all_goals exact ⟨_, _, _, H6.out⟩
end Go.Proofs.Ytneefpblfiedbaa

namespace Go.Proofs.Ytneefpblfiedbaa
open Go.RowKit
set_option linter.unusedVariables false
set_option linter.unusedSimpArgs false
set_option maxRecDepth 100000 in
set_option maxHeartbeats 4000000 in
theorem event_no (w0 w : World) (g : Nat) (a : Option Addr) (c : Nat) (b : List Int) (k : Nat) (tv cv ev : Value) (s : Int) (t : Tp.Tr) (h : TrR w0 g a c b k tv cv ev s t w) (hk : k < b.length) (kd : Int) (hn : Tp.hasN kd = false) (hE : t.events.length ≤ 1000000) :
    Calls Try.prog 66 #[.pointer (some ⟨g, 0, none⟩), .int .i64 kd] w fun e w' => e = .returned (.tuple #[]) ∧ ∃ tv cv ev, TrR w0 g a c b (k + 1) tv cv ev s ⟨t.ticks, t.counts, t.events ++ [⟨kd, 0⟩]⟩ w' := by
  have hln := h.p.ln
  have a1 := h.p.c1
  have af := h.p.fz 1
  have H1 := hidT (h.setK (k' := k + 1) hk)
  have ek : ((k + 1 : Nat) : Int) = (k : Int) + 1 := by omega
  rw [ek] at H1
  obtain ⟨W1, hW1⟩ : ∃ W, W = w.setCell ⟨g, 1, none⟩ (.int .i64 ((k : Int) + 1)) := ⟨_, rfl⟩
  rw [← hW1] at H1
  clear ek
  have E2 := hidT (numbered_any kd)
  rw [hn] at E2
  have hT1 := hidT hE
  clear hE
  obtain ⟨i0, hi, hz0, hz1, hz2⟩ := info_of infoIt
  clear h
  go_enter Try.func66, Try.ntmps66
  go_upto_region 2 with fail
  rw [← hW1]
  clear hW1 a1 af
  go_wp2_with fail
  refine (E2.out _).mono ?_
  rintro e w2 ⟨rfl, rfl⟩
  have B5 := heap_alloc_new W1 (.cells #[.int .i64 kd, .int .i64 0] 69)
  have H5 := hidT (H1.out.later ((Below.refl _ _).alloc (Nat.le_refl _) (.cells #[.int .i64 kd, .int .i64 0] 69)))
  generalize W1.alloc (.cells #[.int .i64 kd, .int .i64 0] 69) = wc at *
  have m0 : wc.cell? ⟨W1.heap.size, 0, none⟩ = some (.int .i64 kd) := by simp [World.cell?, B5]
  have m1 : wc.cell? ⟨W1.heap.size, 1, none⟩ = some (.int .i64 0) := by simp [World.cell?, B5]
  clear B5 H1
  generalize W1.heap.size = M5 at *
  obtain ⟨ea, ec, hv3⟩ := ownShT H5.out.oe
  subst hv3
  obtain ⟨n0, n1, n2, n3⟩ := H5.out.cells
  have hlt5 := H5.out.p.lt
  have EPT := hidT (fun (W : World) (fst : Int) (q : Below wc.heap.size wc W) => putE_any W w0.heap.size g fst (.slice ea t.events.length ec) t.events ⟨kd, 0⟩ (H5.out.later q).oe (H5.out.later q).bl.size hT1.out)
  obtain ⟨ne, hne⟩ : ∃ n, n = t.events.length := ⟨_, rfl⟩
  have HNE := hidT hne
  rw [← hne] at EPT H5 n2
  clear hne hT1
  go_upto_region 5 with fail
  go_region_with (first
    | (go_at_call 74; refine Calls.mono (EPT.out _ _ (by go_grown)) ?_; rintro e w6 ⟨v6, rfl, o6, k6⟩; have F6 := (H5.out.later (by go_grown)).grE o6 k6 (congrArg (· + 1) HNE.out) rfl; have F6a := F6.1; have F6b := F6.2.1; have H6 := hidT F6.2.2; have F6s := ownShT o6; obtain ⟨va6, vc6, hv6⟩ := F6s; subst hv6; clear F6 o6 k6))
  all_goals go_wp2_with fail
  all_goals refine ⟨rfl, .tuple #[], by simp [results, Try.results66, go_sem], rfl, ?_⟩
  all_goals exact ⟨_, _, _, H6.out⟩
end Go.Proofs.Ytneefpblfiedbaa

namespace Go.Proofs.Ytneefpblfiedbaa
open Go.RowKit
set_option linter.unusedVariables false
set_option linter.unusedSimpArgs false
set_option maxRecDepth 100000 in
set_option maxHeartbeats 4000000 in
theorem event_bad (w0 w : World) (g : Nat) (a : Option Addr) (c : Nat) (b : List Int) (k : Nat) (tv cv ev : Value) (s : Int) (t : Tp.Tr) (h : TrR w0 g a c b k tv cv ev s t w) (hk : k < b.length) (kd : Int) (hn : Tp.hasN kd = true) (x : Int) (h1 : Tp.rdF 0 0 (b.drop (k + 1)) = .inr x) :
    Calls Try.prog 66 #[.pointer (some ⟨g, 0, none⟩), .int .i64 kd] w fun e w' => e = tpPan x ∧ ∃ tv cv ev, TrR w0 g a c b (k + 1) tv cv ev s t w' := by
  have hln := h.p.ln
  have a1 := h.p.c1
  have af := h.p.fz 1
  have H1 := hidT (h.setK (k' := k + 1) hk)
  have ek : ((k + 1 : Nat) : Int) = (k : Int) + 1 := by omega
  rw [ek] at H1
  obtain ⟨W1, hW1⟩ : ∃ W, W = w.setCell ⟨g, 1, none⟩ (.int .i64 ((k : Int) + 1)) := ⟨_, rfl⟩
  rw [← hW1] at H1
  clear ek
  have E2 := hidT (numbered_any kd)
  rw [hn] at E2
  have E1 : Hid (∀ W, TrR w0 g a c b (k + 1) tv cv ev s t W → Calls Try.prog 60 #[.pointer (some ⟨g, 0, none⟩)] W fun e w' => e = tpPan x ∧ PlQ g 56 a c b [tv, cv, ev, .int .i64 s] W (k + 1) w') := fun W q => by have := number_any W g _ a c b _ _ q.p; rw [h1] at this; exact this
  clear h1
  obtain ⟨i0, hi, hz0, hz1, hz2⟩ := info_of infoIt
  clear h
  go_enter Try.func66, Try.ntmps66
  go_upto_region 2 with fail
  rw [← hW1]
  clear hW1 a1 af
  go_wp2_with fail
  refine (E2.out _).mono ?_
  rintro e w2 ⟨rfl, rfl⟩
  go_wp2_with fail
  refine (E1.out _ (H1.out.later (by go_grown))).mono ?_
  rintro e w3 ⟨rfl, q3⟩
  have H3 := hidT ((H1.out.later (by go_grown)).go q3)
  unfold tpPan
  clear q3
  go_wp2_with fail
  exact ⟨rfl, rfl, _, _, _, H3.out⟩
end Go.Proofs.Ytneefpblfiedbaa

namespace Go.Proofs.Ytneefpblfiedbaa
open Go.RowKit
set_option linter.unusedVariables false
set_option linter.unusedSimpArgs false
/-- What a record leaves. -/
def stQ (ok : Value) (w0 : World) (g : Nat) (a : Option Addr) (c : Nat) (b : List Int) (s : Int) (t : Tp.Tr) (e : Ending) (w' : World) : Tp.Stp → Prop
  | .fin j => e = .returned (.bool false) ∧ ∃ tv cv ev, TrR w0 g a c b j tv cv ev s t w'
  | .more t' j => e = .returned ok ∧ ∃ tv cv ev, TrR w0 g a c b j tv cv ev s t' w'
  | .bad j x => e = tpPan x ∧ ∃ tv cv ev, TrR w0 g a c b j tv cv ev s t w'
theorem tick_any (w0 w : World) (g : Nat) (a : Option Addr) (c : Nat) (b : List Int) (k : Nat) (tv cv ev : Value) (s : Int) (t : Tp.Tr) (h : TrR w0 g a c b k tv cv ev s t w) (hk : k < b.length) (kd : Int) (hT : t.ticks.length ≤ 1000000) (hC : t.counts.length ≤ 1000000) (hE : t.events.length ≤ 1000000) :
    Calls Try.prog 65 #[.pointer (some ⟨g, 0, none⟩), .int .i64 kd] w fun e w' => stQ (.tuple #[]) w0 g a c b s t e w' (Tp.stepT b k t kd) := by
  unfold Tp.stepT
  cases h1 : Tp.tnum b 0 (k + 1) with
  | bad j x => exact tick_b1 w0 w g a c b k tv cv ev s t h hk kd j x h1
  | good z1 k1 =>
    dsimp only
    cases h2 : Tp.tnum b 0 k1 with
    | bad j x => exact tick_b2 w0 w g a c b k tv cv ev s t h hk kd z1 k1 j x h1 h2
    | good z2 k2 =>
      dsimp only
      cases h3 : Tp.tnum b 1 k2 with
      | bad j x => exact tick_b3 w0 w g a c b k tv cv ev s t h hk kd z1 k1 z2 k2 j x h1 h2 h3
      | good z3 k3 => exact tick_ok w0 w g a c b k tv cv ev s t h hk kd z1 k1 z2 k2 z3 k3 h1 h2 h3 hT hC hE
theorem event_any (w0 w : World) (g : Nat) (a : Option Addr) (c : Nat) (b : List Int) (k : Nat) (tv cv ev : Value) (s : Int) (t : Tp.Tr) (h : TrR w0 g a c b k tv cv ev s t w) (hk : k < b.length) (kd : Int) (hE : t.events.length ≤ 1000000) :
    Calls Try.prog 66 #[.pointer (some ⟨g, 0, none⟩), .int .i64 (kd - 16)] w fun e w' => stQ (.tuple #[]) w0 g a c b s t e w' (Tp.stepE b k t kd) := by
  unfold Tp.stepE
  by_cases hn : Tp.hasN (kd - 16) = true
  · rw [if_pos hn]
    cases h1 : Tp.rdF 0 0 (b.drop (k + 1)) with
    | inr x => exact event_bad w0 w g a c b k tv cv ev s t h hk (kd - 16) hn x h1
    | inl p =>
      obtain ⟨z, u⟩ := p
      exact event_ok w0 w g a c b k tv cv ev s t h hk (kd - 16) hn z u h1 hE
  · rw [if_neg hn]
    exact event_no w0 w g a c b k tv cv ev s t h hk (kd - 16) (by simpa using hn) hE
set_option maxRecDepth 100000 in
set_option maxHeartbeats 4000000 in
theorem rec_short (w0 w : World) (g : Nat) (a : Option Addr) (c : Nat) (b : List Int) (k : Nat) (tv cv ev : Value) (s : Int) (t : Tp.Tr) (h : TrR w0 g a c b k tv cv ev s t w) (hk : b.length ≤ k) :
    Calls Try.prog 52 #[.pointer (some ⟨g, 0, none⟩)] w fun e w' => e = tpPan 112 ∧ ∃ tv cv ev, TrR w0 g a c b k tv cv ev s t w' := by
  have hln := h.p.ln
  have a0 := h.p.c0
  have a1 := h.p.c1
  have af := h.p.fz 1
  have H := hidT h
  obtain ⟨n, hn⟩ : ∃ n, n = b.length := ⟨_, rfl⟩
  have HN := hidT hn
  rw [← hn] at hln a0 hk
  have d : decide ((k : Int) < (n : Int)) = false := decide_eq_false (by omega)
  have d' : decide (k < n) = false := decide_eq_false (by omega)
  clear h hn
  go_enter Try.func52, Try.ntmps52
  go_upto_region 1 with fail
  go_region_with (first
    | (go_at_call 64; refine shutT (must_no 112 _) ?_ (.tuple #[]) ?_; (unfold tpPan; rintro e w9 ⟨rfl, rfl⟩; exact ⟨rfl, rfl, _, _, _, H.out.later (by go_grown)⟩); intro hF))
  all_goals exact hF.out _
set_option maxRecDepth 100000 in
set_option maxHeartbeats 4000000 in
theorem rec_fin (w0 w : World) (g : Nat) (a : Option Addr) (c : Nat) (b : List Int) (k : Nat) (tv cv ev : Value) (s : Int) (t : Tp.Tr) (h : TrR w0 g a c b k tv cv ev s t w) (x : Int) (hx : b[k]? = some x) (h0 : x = 0) :
    Calls Try.prog 52 #[.pointer (some ⟨g, 0, none⟩)] w fun e w' => e = .returned (.bool false) ∧ ∃ tv cv ev, TrR w0 g a c b (k + 1) tv cv ev s t w' := by
  have hln := h.p.ln
  have a0 := h.p.c0
  have a1 := h.p.c1
  have af := h.p.fz 1
  have H := hidT h
  have hk : k < b.length := (List.getElem?_eq_some_iff.1 hx).1
  obtain ⟨ga, oa, hae, hga, hcs⟩ := h.p.bs (by omega)
  have hcx := hcs k x hx
  subst hae
  have hxr := h.p.yt x (List.mem_of_getElem? hx)
  obtain ⟨n, hn⟩ : ∃ n, n = b.length := ⟨_, rfl⟩
  have HN := hidT hn
  rw [← hn] at hln a0 hk
  have d : decide ((k : Int) < (n : Int)) = true := decide_eq_true (by omega)
  have d' : decide (k < n) = true := decide_eq_true (by omega)
  clear h hcs
  have q0 : (x == 0) = true := by simpa using h0
  clear hn
  go_enter Try.func52, Try.ntmps52
  go_upto_region 1 with fail
  go_quiet (first | (go_at_call 64; exact Calls.quiet_of_same (must_yes 112 _)))
  have H1 := hidT (H.out.later (drN (Below.refl _ _) nq))
  have k0 : (w.drewN nq).cell? ⟨g, 0, none⟩ = some (.slice (some ⟨ga, oa, none⟩) n c) := a0
  have k1 : (w.drewN nq).cell? ⟨g, 1, none⟩ = some (.int .i64 k) := a1
  have kf : (w.drewN nq).frozen? ⟨g, 1, none⟩ = false := af
  have kx : (w.drewN nq).cell? ⟨ga, oa + k, none⟩ = some (.int .u8 x) := hcx
  generalize w.drewN nq = W1 at H1 k0 k1 kf kx ⊢
  clear a0 a1 af hcx
  go_wp2_with fail
  go_quiet (fail)
  have H2 := hidT (H1.out.later (drN (Below.refl _ _) nq))
  have j1 : (W1.drewN nq).cell? ⟨g, 1, none⟩ = some (.int .i64 k) := k1
  have jf : (W1.drewN nq).frozen? ⟨g, 1, none⟩ = false := kf
  generalize W1.drewN nq = W2 at H2 j1 jf ⊢
  clear k0 k1 kf kx
  go_wp2_with fail
  go_ret
  have H3 := H2.out.setK (k' := k + 1) (by rw [← HN.out]; exact hk)
  have ek : ((k + 1 : Nat) : Int) = (k : Int) + 1 := by omega
  rw [ek] at H3
  exact ⟨rfl, _, _, _, H3⟩
set_option maxRecDepth 100000 in
set_option maxHeartbeats 4000000 in
theorem rec_tick (w0 w : World) (g : Nat) (a : Option Addr) (c : Nat) (b : List Int) (k : Nat) (tv cv ev : Value) (s : Int) (t : Tp.Tr) (h : TrR w0 g a c b k tv cv ev s t w) (hT : t.ticks.length ≤ 1000000) (hC : t.counts.length ≤ 1000000) (hE : t.events.length ≤ 1000000) (x : Int) (hx : b[k]? = some x) (h0 : x ≠ 0) (h1 : Tp.bet 1 x 3 = true) :
    Calls Try.prog 52 #[.pointer (some ⟨g, 0, none⟩)] w fun e w' => stQ (.bool true) w0 g a c b s t e w' (Tp.stepT b k t x) := by
  have hln := h.p.ln
  have a0 := h.p.c0
  have a1 := h.p.c1
  have af := h.p.fz 1
  have H := hidT h
  have hk : k < b.length := (List.getElem?_eq_some_iff.1 hx).1
  obtain ⟨ga, oa, hae, hga, hcs⟩ := h.p.bs (by omega)
  have hcx := hcs k x hx
  subst hae
  have hxr := h.p.yt x (List.mem_of_getElem? hx)
  have HT := hidT (fun W q => tick_any w0 W g (some ⟨ga, oa, none⟩) c b k tv cv ev s t q hk x hT hC hE)
  obtain ⟨n, hn⟩ : ∃ n, n = b.length := ⟨_, rfl⟩
  have HN := hidT hn
  rw [← hn] at hln a0 hk
  have d : decide ((k : Int) < (n : Int)) = true := decide_eq_true (by omega)
  have d' : decide (k < n) = true := decide_eq_true (by omega)
  clear h hcs
  have HB1 := hidT (between_any 1 x 3)
  rw [h1] at HB1
  have q0 : (x == 0) = false := by simpa using h0
  clear hn hT hC hE
  go_enter Try.func52, Try.ntmps52
  go_upto_region 1 with fail
  go_quiet (first | (go_at_call 64; exact Calls.quiet_of_same (must_yes 112 _)))
  have H1 := hidT (H.out.later (drN (Below.refl _ _) nq))
  have k0 : (w.drewN nq).cell? ⟨g, 0, none⟩ = some (.slice (some ⟨ga, oa, none⟩) n c) := a0
  have k1 : (w.drewN nq).cell? ⟨g, 1, none⟩ = some (.int .i64 k) := a1
  have kf : (w.drewN nq).frozen? ⟨g, 1, none⟩ = false := af
  have kx : (w.drewN nq).cell? ⟨ga, oa + k, none⟩ = some (.int .u8 x) := hcx
  generalize w.drewN nq = W1 at H1 k0 k1 kf kx ⊢
  clear a0 a1 af hcx
  go_wp2_with fail
  go_quiet (fail)
  have H2 := hidT (H1.out.later (drN (Below.refl _ _) nq))
  have j1 : (W1.drewN nq).cell? ⟨g, 1, none⟩ = some (.int .i64 k) := k1
  have jf : (W1.drewN nq).frozen? ⟨g, 1, none⟩ = false := kf
  generalize W1.drewN nq = W2 at H2 j1 jf ⊢
  clear k0 k1 kf kx
  go_wp2_with fail
  refine (HB1.out _).mono ?_
  rintro e w3 ⟨rfl, rfl⟩
  go_wp2_with fail
  refine (HT.out _ H2.out).mono ?_
  cases hS : Tp.stepT b k t x with
  | fin j => rintro e w4 ⟨rfl, q⟩; unfold Tp.stepT at hS; repeat' split at hS
             all_goals cases hS
  | bad j y =>
    rintro e w4 ⟨he, q⟩
    unfold tpPan at he
    subst he
    have Q := hidT q
    clear q
    go_wp2_with fail
    refine ⟨rfl, ?_⟩
    rw [hS]
    exact ⟨rfl, Q.out⟩
  | more t' j =>
    rintro e w4 ⟨rfl, q⟩
    have Q := hidT q
    clear q
    go_wp2_with fail
    go_ret
    rw [hS]
    exact ⟨rfl, Q.out⟩
set_option maxRecDepth 100000 in
set_option maxHeartbeats 4000000 in
theorem rec_event (w0 w : World) (g : Nat) (a : Option Addr) (c : Nat) (b : List Int) (k : Nat) (tv cv ev : Value) (s : Int) (t : Tp.Tr) (h : TrR w0 g a c b k tv cv ev s t w) (hT : t.ticks.length ≤ 1000000) (hC : t.counts.length ≤ 1000000) (hE : t.events.length ≤ 1000000) (x : Int) (hx : b[k]? = some x) (h0 : x ≠ 0) (h1 : Tp.bet 1 x 3 = false) (h2 : Tp.bet 1 (x - 16) 5 = true) :
    Calls Try.prog 52 #[.pointer (some ⟨g, 0, none⟩)] w fun e w' => stQ (.bool true) w0 g a c b s t e w' (Tp.stepE b k t x) := by
  have hln := h.p.ln
  have a0 := h.p.c0
  have a1 := h.p.c1
  have af := h.p.fz 1
  have H := hidT h
  have hk : k < b.length := (List.getElem?_eq_some_iff.1 hx).1
  obtain ⟨ga, oa, hae, hga, hcs⟩ := h.p.bs (by omega)
  have hcx := hcs k x hx
  subst hae
  have hxr := h.p.yt x (List.mem_of_getElem? hx)
  have HT := hidT (fun W q => event_any w0 W g (some ⟨ga, oa, none⟩) c b k tv cv ev s t q hk x hE)
  obtain ⟨n, hn⟩ : ∃ n, n = b.length := ⟨_, rfl⟩
  have HN := hidT hn
  rw [← hn] at hln a0 hk
  have d : decide ((k : Int) < (n : Int)) = true := decide_eq_true (by omega)
  have d' : decide (k < n) = true := decide_eq_true (by omega)
  clear h hcs
  have HB1 := hidT (between_any 1 x 3)
  rw [h1] at HB1
  have HB2 := hidT (between_any 1 (x - 16) 5)
  rw [h2] at HB2
  have q0 : (x == 0) = false := by simpa using h0
  clear hn hT hC hE
  go_enter Try.func52, Try.ntmps52
  go_upto_region 1 with fail
  go_quiet (first | (go_at_call 64; exact Calls.quiet_of_same (must_yes 112 _)))
  have H1 := hidT (H.out.later (drN (Below.refl _ _) nq))
  have k0 : (w.drewN nq).cell? ⟨g, 0, none⟩ = some (.slice (some ⟨ga, oa, none⟩) n c) := a0
  have k1 : (w.drewN nq).cell? ⟨g, 1, none⟩ = some (.int .i64 k) := a1
  have kf : (w.drewN nq).frozen? ⟨g, 1, none⟩ = false := af
  have kx : (w.drewN nq).cell? ⟨ga, oa + k, none⟩ = some (.int .u8 x) := hcx
  generalize w.drewN nq = W1 at H1 k0 k1 kf kx ⊢
  clear a0 a1 af hcx
  go_wp2_with fail
  go_quiet (fail)
  have H2 := hidT (H1.out.later (drN (Below.refl _ _) nq))
  have j1 : (W1.drewN nq).cell? ⟨g, 1, none⟩ = some (.int .i64 k) := k1
  have jf : (W1.drewN nq).frozen? ⟨g, 1, none⟩ = false := kf
  generalize W1.drewN nq = W2 at H2 j1 jf ⊢
  clear k0 k1 kf kx
  go_wp2_with fail
  refine (HB1.out _).mono ?_
  rintro e w3 ⟨rfl, rfl⟩
  go_wp2_with fail
  refine (HB2.out _).mono ?_
  rintro e w3 ⟨rfl, rfl⟩
  go_wp2_with fail
  refine (HT.out _ H2.out).mono ?_
  cases hS : Tp.stepE b k t x with
  | fin j => rintro e w4 ⟨rfl, q⟩; unfold Tp.stepE at hS; repeat' split at hS
             all_goals cases hS
  | bad j y =>
    rintro e w4 ⟨he, q⟩
    unfold tpPan at he
    subst he
    have Q := hidT q
    clear q
    go_wp2_with fail
    refine ⟨rfl, ?_⟩
    rw [hS]
    exact ⟨rfl, Q.out⟩
  | more t' j =>
    rintro e w4 ⟨rfl, q⟩
    have Q := hidT q
    clear q
    go_wp2_with fail
    go_ret
    rw [hS]
    exact ⟨rfl, Q.out⟩
set_option maxRecDepth 100000 in
set_option maxHeartbeats 4000000 in
theorem rec_wrong (w0 w : World) (g : Nat) (a : Option Addr) (c : Nat) (b : List Int) (k : Nat) (tv cv ev : Value) (s : Int) (t : Tp.Tr) (h : TrR w0 g a c b k tv cv ev s t w) (x : Int) (hx : b[k]? = some x) (h0 : x ≠ 0) (h1 : Tp.bet 1 x 3 = false) (h2 : Tp.bet 1 (x - 16) 5 = false) :
    Calls Try.prog 52 #[.pointer (some ⟨g, 0, none⟩)] w fun e w' => e = tpPan 110 ∧ ∃ tv cv ev, TrR w0 g a c b k tv cv ev s t w' := by
  have hln := h.p.ln
  have a0 := h.p.c0
  have a1 := h.p.c1
  have af := h.p.fz 1
  have H := hidT h
  have hk : k < b.length := (List.getElem?_eq_some_iff.1 hx).1
  obtain ⟨ga, oa, hae, hga, hcs⟩ := h.p.bs (by omega)
  have hcx := hcs k x hx
  subst hae
  have hxr := h.p.yt x (List.mem_of_getElem? hx)
  obtain ⟨n, hn⟩ : ∃ n, n = b.length := ⟨_, rfl⟩
  have HN := hidT hn
  rw [← hn] at hln a0 hk
  have d : decide ((k : Int) < (n : Int)) = true := decide_eq_true (by omega)
  have d' : decide (k < n) = true := decide_eq_true (by omega)
  clear h hcs
  have HB1 := hidT (between_any 1 x 3)
  rw [h1] at HB1
  have HB2 := hidT (between_any 1 (x - 16) 5)
  rw [h2] at HB2
  have q0 : (x == 0) = false := by simpa using h0
  unfold tpPan
  clear hn
  go_enter Try.func52, Try.ntmps52
  go_upto_region 1 with fail
  go_quiet (first | (go_at_call 64; exact Calls.quiet_of_same (must_yes 112 _)))
  have H1 := hidT (H.out.later (drN (Below.refl _ _) nq))
  have k0 : (w.drewN nq).cell? ⟨g, 0, none⟩ = some (.slice (some ⟨ga, oa, none⟩) n c) := a0
  have k1 : (w.drewN nq).cell? ⟨g, 1, none⟩ = some (.int .i64 k) := a1
  have kf : (w.drewN nq).frozen? ⟨g, 1, none⟩ = false := af
  have kx : (w.drewN nq).cell? ⟨ga, oa + k, none⟩ = some (.int .u8 x) := hcx
  generalize w.drewN nq = W1 at H1 k0 k1 kf kx ⊢
  clear a0 a1 af hcx
  go_wp2_with fail
  go_quiet (fail)
  have H2 := hidT (H1.out.later (drN (Below.refl _ _) nq))
  have j1 : (W1.drewN nq).cell? ⟨g, 1, none⟩ = some (.int .i64 k) := k1
  have jf : (W1.drewN nq).frozen? ⟨g, 1, none⟩ = false := kf
  generalize W1.drewN nq = W2 at H2 j1 jf ⊢
  clear k0 k1 kf kx
  go_wp2_with fail
  refine (HB1.out _).mono ?_
  rintro e w3 ⟨rfl, rfl⟩
  go_wp2_with fail
  refine (HB2.out _).mono ?_
  rintro e w3 ⟨rfl, rfl⟩
  go_wp2_with fail
  exact ⟨rfl, rfl, _, _, _, H2.out⟩
theorem record_any (w0 w : World) (g : Nat) (a : Option Addr) (c : Nat) (b : List Int) (k : Nat) (tv cv ev : Value) (s : Int) (t : Tp.Tr) (h : TrR w0 g a c b k tv cv ev s t w) (hT : t.ticks.length ≤ 1000000) (hC : t.counts.length ≤ 1000000) (hE : t.events.length ≤ 1000000) :
    Calls Try.prog 52 #[.pointer (some ⟨g, 0, none⟩)] w fun e w' => stQ (.bool true) w0 g a c b s t e w' (Tp.step b k t) := by
  unfold Tp.step
  cases hx : b[k]? with
  | none => exact rec_short w0 w g a c b k tv cv ev s t h (by simpa using hx)
  | some x =>
    dsimp only
    by_cases h0 : x = 0
    · rw [if_pos h0]
      exact rec_fin w0 w g a c b k tv cv ev s t h x hx h0
    · rw [if_neg h0]
      by_cases h1 : Tp.bet 1 x 3 = true
      · rw [if_pos h1]
        exact rec_tick w0 w g a c b k tv cv ev s t h hT hC hE x hx h0 h1
      · rw [if_neg h1]
        by_cases h2 : Tp.bet 1 (x - 16) 5 = true
        · rw [if_pos h2]
          exact rec_event w0 w g a c b k tv cv ev s t h hT hC hE x hx h0 (by simpa using h1) h2
        · rw [if_neg h2]
          exact rec_wrong w0 w g a c b k tv cv ev s t h x hx h0 (by simpa using h1) (by simpa using h2)
end Go.Proofs.Ytneefpblfiedbaa

namespace Go.Proofs.Ytneefpblfiedbaa
open Go.RowKit
set_option linter.unusedVariables false
set_option linter.unusedSimpArgs false
def trQ (w : World) (g : Nat) (a : Option Addr) (c : Nat) (b : List Int) (e : Ending) (w' : World) : Tp.TRes → Prop
  | .good t s _ => e = .returned (.tuple #[]) ∧ ∃ k tv cv ev, TrR w g a c b k tv cv ev s t w'
  | .bad t s i x => e = tpPan x ∧ ∃ tv cv ev, TrR w g a c b i tv cv ev s t w'
set_option maxRecDepth 100000 in
set_option maxHeartbeats 4000000 in
theorem trTape_head (w : World) (g : Nat) (a : Option Addr) (c : Nat) (b : List Int) (w0 : World) (h : TrR w0 g a c b 0 (.slice none 0 0) (.slice none 0 0) (.slice none 0 0) 0 Tp.tr0 w) (i : Nat) (x : Int) (hh : Tp.hd 0 (Tp.head 2) b = some (i, x)) :
    Calls Try.prog 30 #[.pointer (some ⟨g, 0, none⟩)] w fun e w' => e = tpPan x ∧ ∃ tv cv ev, TrR w0 g a c b i tv cv ev 0 Tp.tr0 w' := by
  have HD := hidT (head_any w g _ a c b _ h.p 2)
  rw [hh] at HD
  dsimp only [hdQ] at HD
  have H := hidT h
  clear h hh
  go_enter Try.func30, Try.ntmps30
  go_wp2_with fail
  refine HD.out.mono ?_
  unfold tpPan
  rintro e w1 ⟨rfl, q⟩
  have HQ := hidT (H.out.go q)
  clear q
  go_wp2_with fail
  exact ⟨rfl, rfl, _, _, _, HQ.out⟩
set_option maxRecDepth 100000 in
set_option maxHeartbeats 8000000 in
theorem trTape_recs (w : World) (g : Nat) (a : Option Addr) (c : Nat) (b : List Int) (w0 : World) (h : TrR w0 g a c b 0 (.slice none 0 0) (.slice none 0 0) (.slice none 0 0) 0 Tp.tr0 w) (hh : Tp.hd 0 (Tp.head 2) b = none) (hl : b.length ≤ 1000000) :
    Calls Try.prog 30 #[.pointer (some ⟨g, 0, none⟩)] w fun e w' => trQ w0 g a c b e w' (match Tp.rds b b.length 5 Tp.tr0 with
    | .bad t s k e => .bad t s k e
    | .good t s k => match Tp.ends b k with
      | some (i, e) => .bad t s i e
      | none => .good t s k) := by
  have HD := hidT (head_any w g _ a c b _ h.p 2)
  rw [hh] at HD
  dsimp only [hdQ] at HD
  have H := hidT h
  obtain ⟨post, hpost⟩ : ∃ p, p = (match Tp.rds b b.length 5 Tp.tr0 with
    | .bad t s k e => (.bad t s k e : Tp.TRes)
    | .good t s k => match Tp.ends b k with
      | some (i, e) => .bad t s i e
      | none => .good t s k) := ⟨_, rfl⟩
  have HP := hidT hpost
  rw [← hpost]
  have hyt := hidT h.p.yt
  clear h hh hpost
  go_enter Try.func30, Try.ntmps30
  go_wp2_with fail
  refine HD.out.mono ?_
  rintro e w1 ⟨rfl, q⟩
  have HQ := hidT (H.out.go q)
  clear q HD
  obtain ⟨p2, p3, p4, p5⟩ := HQ.out.cells
  have p1 := HQ.out.p.c1
  have pf := HQ.out.p.fz 5
  have HQ1 := hidT (HQ.out.setS ((5 : Nat) : Int))
  clear p2 p3 p4
  go_wp2_with fail
  go_loopg [] b.length (fun gk wr => ∃ (k : Nat) (t : Tp.Tr) (tv cv ev : Value), b.length + 1 ≤ k + gk ∧ Hid (TrR w0 g a c b k tv cv ev (k : Int) t wr ∧ Tp.rds b b.length 5 Tp.tr0 = Tp.rds b gk k t ∧ t.ticks.length ≤ k ∧ t.counts.length ≤ k ∧ t.events.length ≤ k))
  case atStart => exact ⟨5, Tp.tr0, _, _, _, by omega, HQ1.out, rfl, by simp [Tp.tr0], by simp [Tp.tr0], by simp [Tp.tr0]⟩
  case round =>
    obtain ⟨k, t, tv, cv, ev, hj, HI⟩ := hrel
    obtain ⟨h1, h2, h3, h4, h5⟩ := HI.out
    have hkl := h1.p.le
    obtain ⟨gk', rfl⟩ : ∃ m, gk = m + 1 := ⟨gk - 1, by omega⟩
    have HR := hidT (record_any w0 wr g a c b k tv cv ev k t h1 (by omega) (by omega) (by omega))
    have HS2 := hidT h2
    have HS3 := hidT (And.intro h3 (And.intro h4 h5))
    clear h1 h2 h3 h4 h5 HI
    cases hS : Tp.step b k t with
    | bad j x =>
      rw [hS] at HR
      have HP2 : Hid (post = .bad t k j x) := by unfold Hid; rw [HP.out, HS2.out]; simp only [Tp.rds, hS]
      clear hS
      go_wp2_with fail
      refine HR.out.mono ?_
      rintro e w3 ⟨he, q⟩
      unfold tpPan at he
      subst he
      have HQ3 := hidT q
      clear q
      go_wp2_with fail
      refine ⟨rfl, ?_⟩
      rw [HP2.out]
      exact ⟨rfl, HQ3.out⟩
    | fin j =>
      rw [hS] at HR
      have HP2 : Hid (post = match Tp.ends b j with | some (i, e) => .bad t k i e | none => .good t k j) := by unfold Hid; rw [HP.out, HS2.out]; simp only [Tp.rds, hS]
      clear hS
      go_wp2_with fail
      refine HR.out.mono ?_
      rintro e w3 ⟨rfl, tv3, cv3, ev3, q⟩
      have HQ3 := hidT q
      have HE := hidT (end_any w3 g _ a c b j _ q.p)
      clear q
      cases he : Tp.ends b j with
      | none =>
        rw [he] at HE HP2
        dsimp only [enQ] at HE HP2
        clear he
        go_wp2_with fail
        refine HE.out.mono ?_
        rintro e w4 ⟨rfl, q⟩
        have HQ4 := hidT (HQ3.out.go q)
        clear q
        go_wp2_with fail
        refine ⟨rfl, .tuple #[], by simp [results, Try.results30, go_sem], ?_⟩
        rw [HP2.out]
        exact ⟨rfl, _, _, _, _, HQ4.out⟩
      | some p =>
        obtain ⟨i, x⟩ := p
        rw [he] at HE HP2
        dsimp only [enQ] at HE HP2
        clear he
        go_wp2_with fail
        refine HE.out.mono ?_
        unfold tpPan
        rintro e w4 ⟨rfl, q⟩
        have HQ4 := hidT (HQ3.out.go q)
        clear q
        go_wp2_with fail
        refine ⟨rfl, ?_⟩
        rw [HP2.out]
        exact ⟨rfl, _, _, _, HQ4.out⟩
    | more t' j =>
      rw [hS] at HR
      have HM := hidT (Tp.step_more b hyt.out k t t' j hS)
      have HP2 : Hid (Tp.rds b (gk' + 1) k t = Tp.rds b gk' j t') := by unfold Hid; simp only [Tp.rds, hS]
      clear hS
      go_wp2_with fail
      refine HR.out.mono ?_
      rintro e w3 ⟨rfl, tv3, cv3, ev3, q⟩
      obtain ⟨p2, p3, p4, p5⟩ := q.cells
      have p1 := q.p.c1
      have pf := q.p.fz 5
      have HQ3 := hidT (q.setS (j : Int))
      clear q p2 p3 p4
      go_wp2_with fail
      go_roundg gk'
      case measure => omega
      case rel =>
        obtain ⟨m1, m2, m3⟩ := HM.out
        obtain ⟨s1, s2, s3⟩ := HS3.out
        refine ⟨j, t', tv3, cv3, ev3, by omega, HQ3.out, HS2.out.trans HP2.out, ?_⟩
        rcases m3 with ⟨a1, a2, a3⟩ | ⟨a1, a2, a3⟩
        · rw [a3]; omega
        · rw [a1, a2]; omega
theorem trTape_any (w : World) (g : Nat) (a : Option Addr) (c : Nat) (b : List Int) (h : TrR w g a c b 0 (.slice none 0 0) (.slice none 0 0) (.slice none 0 0) 0 Tp.tr0 w) (hl : b.length ≤ 1000000) :
    Calls Try.prog 30 #[.pointer (some ⟨g, 0, none⟩)] w fun e w' => trQ w g a c b e w' (Tp.rtB b) := by
  unfold Tp.rtB
  cases hh : Tp.hd 0 (Tp.head 2) b with
  | some p =>
    obtain ⟨i, x⟩ := p
    exact trTape_head w g a c b w h i x hh
  | none => exact trTape_recs w g a c b w h hh hl
end Go.Proofs.Ytneefpblfiedbaa
