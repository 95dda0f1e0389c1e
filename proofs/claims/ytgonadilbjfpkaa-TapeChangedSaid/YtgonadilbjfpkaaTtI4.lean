/- Layer 13: a tick's record: it is right. -/
import Derived.Test.YtgonadilbjfpkaaTtI
namespace Go.Proofs.Ytgonadilbjfpkaa
open Go.RowKit
set_option linter.unusedVariables false
set_option linter.unusedSimpArgs false
/-- One more behind a row: what is put lies in the block that the world has made last. -/
theorem wp_app1 {P : Program} {V : World} {o : Oper} {a : Act} {K : Act → World → Prop} {Q : Exit → Act → World → Prop} (W7 : World) (s x : Operand) (t : TypeId)
    (ho : o.op = .call { callee := .builtin .append, args := #[s, x], argTypes := #[t, t] })
    (base : Nat) (e : TypeId) (i : TypeInfo) (z : Value) (bytes : Nat) (ht : P.underlying t = some (.slice e)) (hi : P.info? e = some i) (hz : i.zero = some z)
    (hsize : i.size = 1) (hby : i.bytes = bytes) (hzs : z.cells.size = 1)
    (v : Value) (n : Nat) (xs : List Value) (hs : a.eval s = v) (hown : W7.ownsRow base e 1 v n xs) (u : Value)
    (hV : V.os = W7.os ∧ V.tape = W7.tape ∧ V.output = W7.output ∧ V.heap = (W7.alloc (.cells #[u] e)).heap)
    (hx : a.eval x = .slice (some ⟨W7.heap.size, 0, none⟩) 1 1) (h1 : u.oneCell' = true)
    (h63 : n + 1 ≤ maxLen) (hbytes : (n + 1) * bytes ≤ 140737488355328) (hbase : base ≤ W7.heap.size)
    (h : ∀ v' w', w'.ownsRow base e 1 v' (n + 1) (xs ++ [u]) → Gw W7 v v' w' → K (a.put o.dst v') w') : o.wp P a V K Q := by
  obtain ⟨V1, V2, V3, V4⟩ := hV
  have hb : Below W7.heap.size W7 V := ⟨V1, V2, V3, by rw [V4]; simp, fun k hk => by rw [V4]; exact ((Below.refl W7.heap.size W7).alloc (Nat.le_refl _) _).block k hk⟩
  have hsz : V.heap.size = W7.heap.size + 1 := by rw [V4]; simp
  refine wp_append_tol s x t ho base e i z 1 bytes ht hi hz hsize hby hzs (by decide) v n xs hs (ownLtT hown hb) ⟨W7.heap.size, 0, none⟩ 1 1 [u] hx rfl (fun j y hj => ?_) (by intro y hy; simp at hy; subst hy; exact h1) h63 hbytes (by omega) (by decide) ?_
  · have := one1 W7 u e j y hj
    simp only [World.cell?] at this ⊢
    rw [V4]
    exact this
  · intro v8 w8 h8 g8 o8
    refine h v8 w8 h8 ⟨⟨g8.os.trans V1, g8.tape.trans V2, g8.output.trans V3, ?_, fun k hk hn => (g8.block k (by omega) hn).trans (hb.block k hk)⟩, o8.imp id fun ⟨g, h, k⟩ => ⟨g, h, by omega⟩⟩
    have := g8.size
    omega
set_option maxRecDepth 100000 in
set_option maxHeartbeats 4000000 in
theorem tick_ok (w0 w : World) (g : Nat) (a : Option Addr) (c : Nat) (b : List Int) (k : Nat) (tv cv ev : Value) (s : Int) (t : Tp.Tr) (h : TrR w0 g a c b k tv cv ev s t w) (hk : k < b.length) (kd : Int) (z1 k1 z2 k2 z3 k3 : Nat) (h1 : Tp.tnum b 0 (k + 1) = .good z1 k1) (h2 : Tp.tnum b 0 k1 = .good z2 k2) (h3 : Tp.tnum b 1 k2 = .good z3 k3) (hT : t.ticks.length ≤ 1000000) (hC : t.counts.length ≤ 1000000) (hE : t.events.length ≤ 1000000) :
    Calls Try.prog 76 #[.pointer (some ⟨g, 0, none⟩), .int .i64 kd] w fun e w' => e = .returned (.tuple #[]) ∧ ∃ tv cv ev, TrR w0 g a c b k3 tv cv ev s ⟨t.ticks ++ [⟨kd, z1, z2, z3⟩], t.counts ++ [(t.events.length : Int)], t.events⟩ w' := by
  have hln := h.p.ln
  have a1 := h.p.c1
  have af := h.p.fz 1
  have H1 := hidT (h.setK (k' := k + 1) hk)
  have ek : ((k + 1 : Nat) : Int) = (k : Int) + 1 := by omega
  rw [ek] at H1
  obtain ⟨W1, hW1⟩ : ∃ W, W = w.setCell ⟨g, 1, none⟩ (.int .i64 ((k : Int) + 1)) := ⟨_, rfl⟩
  rw [← hW1] at H1
  clear ek
  have E1 : Hid (∀ W, TrR w0 g a c b (k + 1) tv cv ev s t W → Calls Try.prog 59 #[.pointer (some ⟨g, 0, none⟩), .int .u64 0, .int .u64 2147483647, .int .i64 110] W fun e w' => e = .returned (.int .i64 (z1 : Nat)) ∧ PlQ g 75 a c b [tv, cv, ev, .int .i64 s] W k1 w') := fun W q => (countT W g _ a c b _ _ q.p 0).1 _ _ h1
  have E2 : Hid (∀ W, TrR w0 g a c b k1 tv cv ev s t W → Calls Try.prog 59 #[.pointer (some ⟨g, 0, none⟩), .int .u64 0, .int .u64 2147483647, .int .i64 110] W fun e w' => e = .returned (.int .i64 (z2 : Nat)) ∧ PlQ g 75 a c b [tv, cv, ev, .int .i64 s] W k2 w') := fun W q => (countT W g _ a c b _ _ q.p 0).1 _ _ h2
  have E3 : Hid (∀ W, TrR w0 g a c b k2 tv cv ev s t W → Calls Try.prog 59 #[.pointer (some ⟨g, 0, none⟩), .int .u64 1, .int .u64 2147483647, .int .i64 110] W fun e w' => e = .returned (.int .i64 (z3 : Nat)) ∧ PlQ g 75 a c b [tv, cv, ev, .int .i64 s] W k3 w') := fun W q => (countT W g _ a c b _ _ q.p 1).1 _ _ h3
  clear h1 h2 h3
  obtain ⟨i0, hi, hz0, hz1, hz2⟩ := info_of infoIt
  have hT1 := hidT (And.intro hT (And.intro hC hE))
  have hg1 := hidT H1.out.p.lt
  have htv : Hid (∀ j, tv.ownBlock = some j → j < W1.heap.size) := fun j hj => (World.ownsRow.lt H1.out.ot j hj).2
  have hcv : Hid (∀ j, cv.ownBlock = some j → j < W1.heap.size) := fun j hj => (World.ownsRow.lt H1.out.oc j hj).2
  have hev : Hid (∀ j, ev.ownBlock = some j → j < W1.heap.size) := fun j hj => (World.ownsRow.lt H1.out.oe j hj).2
  clear hT hC hE
  clear h
  go_enter Try.func76, Try.ntmps76
  go_upto_region 2 with fail
  rw [← hW1]
  clear hW1 a1 af
  go_cut [5] from 20 to 33 (fun sv wx => ∃ M5, sv = .pointer (some ⟨M5, 0, none⟩) ∧ TrR w0 g a c b k3 tv cv ev s t wx ∧ wx.heap[M5]? = some (.cells #[.int .i64 kd, .int .i64 (z1 : Nat), .int .i64 (z2 : Nat), .int .i64 (z3 : Nat)] 80 (0, 0)))
  case first =>
    go_region_with (first
    | (have qq := H3; go_at_call 59; refine Calls.mono (E3.out _ (H3.out.later (by go_grown))) ?_; rintro e w3 ⟨rfl, q3⟩; have H4 := hidT ((H3.out.later (by go_grown)).go q3); (first | (have bx3 := hidT (show BxF w3 w2.heap.size from bxA q3.2 H3.out.p.lt); have y := bx3.out.c; have y0 := y.1; have y1 := y.2.1; have y2 := y.2.2.1; have y3 := y.2.2.2; have f0 := bx3.out.f 0; have f1 := bx3.out.f 1; have f2 := bx3.out.f 2; have f3 := bx3.out.f 3; have lx := bx3.out.lt; clear y) | (have bx3 := hidT (show BxF w3 w1.heap.size from bxK q3.2 bx2.out H2.out.p.lt); have y := bx3.out.c; have y0 := y.1; have y1 := y.2.1; have y2 := y.2.2.1; have y3 := y.2.2.2; have f0 := bx3.out.f 0; have f1 := bx3.out.f 1; have f2 := bx3.out.f 2; have f3 := bx3.out.f 3; have lx := bx3.out.lt; clear y) | (have bx3 := hidT (show BxF w3 W1.heap.size from bxK q3.2 bx2.out hg1.out); have y := bx3.out.c; have y0 := y.1; have y1 := y.2.1; have y2 := y.2.2.1; have y3 := y.2.2.2; have f0 := bx3.out.f 0; have f1 := bx3.out.f 1; have f2 := bx3.out.f 2; have f3 := bx3.out.f 3; have lx := bx3.out.lt; clear y) | skip); clear q3)
    | (have qq := H2; go_at_call 59; refine Calls.mono (E2.out _ (H2.out.later (by go_grown))) ?_; rintro e w2 ⟨rfl, q2⟩; have H3 := hidT ((H2.out.later (by go_grown)).go q2); have Z2 := hidT (Nat.le_trans (show w1.heap.size ≤ _ from by go_size) q2.2.size); (first | (have bx2 := hidT (show BxF w2 w1.heap.size from bxA q2.2 H2.out.p.lt)) | (have bx2 := hidT (show BxF w2 W1.heap.size from bxK q2.2 bx1.out hg1.out)) | skip); clear q2)
    | (go_at_call 59; refine Calls.mono (E1.out _ (H1.out.later (by go_grown))) ?_; rintro e w1 ⟨rfl, q1⟩; have H2 := hidT ((H1.out.later (by go_grown)).go q1); have Z1 := hidT (Nat.le_trans (show W1.heap.size ≤ _ from by go_size) q1.2.size); (first | (have bx1 := hidT (show BxF w1 W1.heap.size from bxA q1.2 hg1.out)) | (have bx1 := hidT (show BxF w1 W1.heap.size from bxK q1.2 (show BxF _ W1.heap.size from heap_alloc_new W1 (.cells #[.int .i64 0, .int .i64 0, .int .i64 0, .int .i64 0] 80)) hg1.out)) | skip); clear q1))
    all_goals go_wp2_with fail
    all_goals go_meet
    · exact ⟨_, rfl, H4.out.later ((Below.refl _ _).alloc (Nat.le_refl _) _), heap_alloc_new w3 _⟩
    · exact ⟨_, rfl, H4.out.off (set4_gb w3 w2.heap.size _ _ _ _) (Nat.le_trans H2.out.bl.size Z2.out) (fun e => by have := htv.out _ e; have := Z1.out; have := Z2.out; omega) (fun e => by have := hcv.out _ e; have := Z1.out; have := Z2.out; omega) (fun e => by have := hev.out _ e; have := Z1.out; have := Z2.out; omega), bx3.out.fill _ _ _ _⟩
    · exact ⟨_, rfl, H4.out.off (set4_gb w3 w1.heap.size _ _ _ _) H2.out.bl.size (fun e => by have := htv.out _ e; have := Z1.out; omega) (fun e => by have := hcv.out _ e; have := Z1.out; omega) (fun e => by have := hev.out _ e; have := Z1.out; omega), bx3.out.fill _ _ _ _⟩
    · exact ⟨_, rfl, H4.out.off (set4_gb w3 W1.heap.size _ _ _ _) H1.out.bl.size (fun e => by have := htv.out _ e; omega) (fun e => by have := hcv.out _ e; omega) (fun e => by have := hev.out _ e; omega), bx3.out.fill _ _ _ _⟩
  case rest =>
    obtain ⟨M5, rfl, T5, B5⟩ := hcut
    clear E1 E2 E3 H1 htv hcv hev hg1
    obtain ⟨ta, tc, hv1⟩ := ownShT T5.ot
    obtain ⟨ca, cc, hv2⟩ := ownShT T5.oc
    obtain ⟨ea, ec, hv3⟩ := ownShT T5.oe
    subst hv1 hv2 hv3
    have H5 := hidT T5
    have m0 : wc.cell? ⟨M5, 0, none⟩ = some (.int .i64 kd) := by simp [World.cell?, B5]
    have m1 : wc.cell? ⟨M5, 1, none⟩ = some (.int .i64 (z1 : Nat)) := by simp [World.cell?, B5]
    have m2 : wc.cell? ⟨M5, 2, none⟩ = some (.int .i64 (z2 : Nat)) := by simp [World.cell?, B5]
    have m3 : wc.cell? ⟨M5, 3, none⟩ = some (.int .i64 (z3 : Nat)) := by simp [World.cell?, B5]
    obtain ⟨n0, n1, n2, n3⟩ := T5.cells
    have EPT := hidT (fun (W : World) (fst : Int) (q : Below wc.heap.size wc W) => putT_any W w0.heap.size g fst (.slice ta t.ticks.length tc) t.ticks ⟨kd, z1, z2, z3⟩ (T5.later q).ot (T5.later q).bl.size hT1.out.1)
    have HLb := hidT hT1.out
    obtain ⟨nt, hnt⟩ : ∃ n, n = t.ticks.length := ⟨_, rfl⟩
    obtain ⟨nc, hnc⟩ : ∃ n, n = t.counts.length := ⟨_, rfl⟩
    obtain ⟨ne, hne⟩ : ∃ n, n = t.events.length := ⟨_, rfl⟩
    have HNT := hidT hnt
    have HNC := hidT hnc
    have HNE := hidT hne
    rw [← hnt] at EPT H5 n0
    rw [← hnc] at H5 n1
    rw [← hne] at H5 n2
    clear T5 B5 hnt hnc hne hT1
    go_upto_region 3 with fail
    go_region_with (first
      | (go_at_call 79; refine Calls.mono (EPT.out _ _ (by go_grown)) ?_; rintro e w6 ⟨v6, rfl, o6, k6⟩; have F6 := (H5.out.later (by go_grown)).grT o6 k6 (congrArg (· + 1) HNT.out) rfl; have F6a := F6.1; have F6b := F6.2.1; have H6 := hidT F6.2.2; have F6s := ownShT o6; obtain ⟨va6, vc6, hv6⟩ := F6s; subst hv6; clear F6 o6 k6))
    all_goals
      obtain ⟨W7, hW7⟩ : ∃ W, W = w6.setCell ⟨g, 2, none⟩ (.slice va6 (nt + 1) vc6) := ⟨_, rfl⟩
      rw [← hW7] at H6
      obtain ⟨r0, r1, r2, r3⟩ := H6.out.cells
      have rf := H6.out.p.fz 3
      have hgl := H6.out.p.lt
      have hbs : w0.heap.size ≤ W7.heap.size := H6.out.bl.size
      have hcc : Hid (W7.ownsRow w0.heap.size 3 1 (.slice ca nc cc) nc (nmC t.counts)) := by have := H6.out.oc; rw [HNC.out]; rw [HNC.out] at this; exact this
      have H63 : Hid (nc + 1 ≤ maxLen ∧ (nc + 1) * 8 ≤ 140737488355328) := by have := HLb.out.2.1; have := HNC.out; unfold Hid maxLen; omega
      clear F6a F6b n0 n1 n2 n3 m0 m1 m2 m3 EPT H5
      go_upto_region 4 with fail
      rw [← hW7]
      clear hW7
      go_region_law (first
        | (rw [if_pos (by rfl)]; refine wp_app1 W7 _ _ 40 rfl w0.heap.size 3 i0 (.int .i64 0) 8 Try.underlying40 hi hz0 hz1 hz2 rfl _ _ _ rfl hcc.out (.int .i64 (ne : Int)) ⟨rfl, rfl, rfl, rfl⟩ rfl rfl H63.out.1 H63.out.2 hbs ?_; intro v8 w8 h8 g8; have F8 := H6.out.grC h8 g8 (congrArg (· + 1) HNC.out) (x := (ne : Int)) (by simp [nmC]); have q8 := F8.1; have p8 := F8.2.1; have H8 := hidT F8.2.2; obtain ⟨va8, vc8, hv8⟩ := ownShT h8; subst hv8; clear F8 h8 g8))
      all_goals go_wp2_with fail
      all_goals refine ⟨rfl, .tuple #[], by simp [results, Try.results76, go_sem], rfl, ?_⟩
      all_goals rw [← HNE.out]
      all_goals exact ⟨_, _, _, H8.out⟩
end Go.Proofs.Ytgonadilbjfpkaa
