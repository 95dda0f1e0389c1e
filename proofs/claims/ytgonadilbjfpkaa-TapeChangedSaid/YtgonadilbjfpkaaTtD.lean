/- Layer 13: a trace's records, put; WriteTrace. -/
import Derived.Test.YtgonadilbjfpkaaTtC
namespace Go.Proofs.Ytgonadilbjfpkaa
open Go.RowKit
set_option linter.unusedVariables false
set_option linter.unusedSimpArgs false
theorem okC_at : ∀ (m told : Int) (cs : List Int) (j : Nat) (x : Int), Tp.okC m told cs = true → cs[j]? = some x → told ≤ x ∧ x ≤ m ∧ Tp.okC m x (cs.drop (j + 1)) = true
  | m, told, [], j, x, _, hx => by simp at hx
  | m, told, c :: cs, 0, x, h, hx => by
    simp at hx
    subst hx
    rw [Tp.okC] at h
    split at h
    · cases h
    · exact ⟨by omega, by omega, by simpa using h⟩
  | m, told, c :: cs, j + 1, x, h, hx => by
    rw [Tp.okC] at h
    split at h
    · cases h
    · have := okC_at m c cs j x h (by simpa using hx)
      exact ⟨by omega, this.2.1, by simpa using this.2.2⟩
structure RgT (t : Tp.Tr) : Prop where
  c : t.counts.length = t.ticks.length
  k : Tp.okC t.events.length 0 t.counts = true
  tt : ∀ x ∈ t.ticks, Tp.okT x = true
  e : ∀ x ∈ t.events, Tp.okE x = true
theorem right_rg {t : Tp.Tr} (h : Tp.rightT t = true) : RgT t := by
  simp only [Tp.rightT, Bool.and_eq_true, decide_eq_true_eq, List.all_eq_true] at h
  exact ⟨h.1, h.2.1, h.2.2.1, h.2.2.2⟩
theorem EvS.sub {B : Nat} {w : World} {g o : Nat} {l : List Tp.Ev} (h : EvS B w (some ⟨g, o, none⟩) l) (i n : Nat) (hn : i < l.length) : EvS B w (some ⟨g, o + i * 2, none⟩) ((l.drop i).take n) := fun h0 => by
  obtain ⟨g', o', e, hg, hc⟩ := h (by omega)
  cases e
  refine ⟨g, o + i * 2, rfl, hg, fun j x hx => ?_⟩
  rw [List.getElem?_take] at hx
  split at hx
  · rw [List.getElem?_drop] at hx
    have := hc _ x hx
    rw [show o + i * 2 + j * 2 = o + (i + j) * 2 by omega]
    exact this
  · cases hx
/-- While records are put: the row x of bytes L, the trace's box M. -/
structure PrR (w : World) (v : Value) (base M : Nat) (tv : List Value) (x : Value) (L : List Int) (wr : World) : Prop where
  o : OwB wr base x L
  g : Gw w v x wr
  h : wr.heap[M]? = some (.cells tv.toArray 43 (0, 0))
  n : some M ≠ x.ownBlock
theorem PrR.lt {w : World} {v : Value} {base M : Nat} {tv : List Value} {x : Value} {L : List Int} {wr : World} (h : PrR w v base M tv x L wr) : M < wr.heap.size := (Array.getElem?_eq_some_iff.1 h.h).1
theorem PrR.later {w : World} {v : Value} {base M : Nat} {tv : List Value} {x : Value} {L : List Int} {wr wq : World} (h : PrR w v base M tv x L wr) (b : Below wr.heap.size wr wq) : PrR w v base M tv x L wq :=
  ⟨ownLtT h.o b, h.g.later b, (b.block M h.lt).trans h.h, h.n⟩
theorem PrR.go {w : World} {v : Value} {base M : Nat} {tv : List Value} {x x' : Value} {L L' : List Int} {wr wq : World} (h : PrR w v base M tv x L wr) (o : OwB wq base x' L') (k : Gw wr x x' wq) : PrR w v base M tv x' L' wq := by
  obtain ⟨k1, k2, k3⟩ := k.keep h.lt h.n
  exact ⟨o, h.g.trans k, k1.trans h.h, k2⟩
set_option maxRecDepth 100000 in
set_option maxHeartbeats 4000000 in
theorem putRecs_any (w : World) (base : Nat) (v : Value) (l : List Int) (t : Tp.Tr) (ta ca ea : Option Addr) (tc cc ec : Nat) (ho : OwB w base v l) (hb : base ≤ w.heap.size) (h : TrS base w ta ca ea tc cc ec t) (hr : RgT t) (m1 : t.ticks.length ≤ 500) (m3 : t.events.length ≤ 500) (hl : l.length ≤ 1000) :
    Calls Try.prog 47 #[v, trV ta ca ea tc cc ec t] w (PvQ w v base (l ++ Tp.recs t.events t.ticks t.counts 0)) := by
  unfold trV
  have HT := hidT h
  have HR := hidT hr
  have HO := hidT ho
  have HB := hidT hb
  have hce := h.ce
  have HLt : Hid ((l ++ Tp.recs t.events t.ticks t.counts 0).length ≤ 4000000) := by
    have := Tp.recs_len t.events t.ticks t.counts 0
    have h2 : t.ticks.length * (31 + t.events.length * 11) ≤ 500 * (31 + 500 * 11) := Nat.mul_le_mul m1 (by omega)
    unfold Hid
    rw [List.length_append]
    omega
  have hct := hr.c
  obtain ⟨n1, h1⟩ : ∃ n, n = t.ticks.length := ⟨_, rfl⟩
  obtain ⟨n3, h3⟩ : ∃ n, n = t.events.length := ⟨_, rfl⟩
  have H1 := hidT h1
  have H3 := hidT h3
  rw [hct]
  have HC2 : Hid (t.counts.length = n1) := hct.trans h1.symm
  rw [← h1] at m1 ⊢
  rw [← h3] at m3 hce ⊢
  obtain ⟨W0, hW0⟩ : ∃ W, W = w.alloc (.cells #[.slice ta n1 tc, .slice ca n1 cc, .slice ea n3 ec] 43) := ⟨_, rfl⟩
  have K0 : Below w.heap.size w W0 := by rw [hW0]; exact (Below.refl _ _).alloc (Nat.le_refl _) _
  have hb0 : W0.heap[w.heap.size]? = some (.cells [.slice ta n1 tc, .slice ca n1 cc, .slice ea n3 ec].toArray 43 (0, 0)) := by rw [hW0]; exact heap_alloc_new w _
  obtain ⟨M, hM⟩ : ∃ M, M = w.heap.size := ⟨_, rfl⟩
  have P0 : Hid (PrR w v base M [.slice ta n1 tc, .slice ca n1 cc, .slice ea n3 ec] v l W0) := ⟨ownLtT ho K0, (Gw.refl w v).later K0, by rw [hM]; exact hb0, fun e => by
    have := (World.ownsRow.lt ho _ e.symm).2
    omega⟩
  have HCel : Hid (∀ W x L, PrR w v base M [.slice ta n1 tc, .slice ca n1 cc, .slice ea n3 ec] x L W → W.cell? ⟨M, 0, none⟩ = some (.slice ta n1 tc) ∧ W.cell? ⟨M, 1, none⟩ = some (.slice ca n1 cc) ∧ W.cell? ⟨M, 2, none⟩ = some (.slice ea n3 ec)) := fun W x L q => by
    have hw := q.h
    refine ⟨?_, ?_, ?_⟩ <;> simp [World.cell?, hw]
  obtain ⟨a0, a1, a2⟩ := HCel.out _ _ _ P0.out
  have HTW : Hid (∀ W x L, PrR w v base M [.slice ta n1 tc, .slice ca n1 cc, .slice ea n3 ec] x L W → TrS base W ta ca ea tc cc ec t ∧ base ≤ W.heap.size) := fun W x L q => ⟨HT.out.later (q.g.below HO.out HB.out) (Nat.le_refl _), Nat.le_trans HB.out q.g.1.size⟩
  have HMM := hidT hM
  clear h hr ho hb hct h1 h3 K0 hb0
  go_enter Try.func47, Try.ntmps47
  go_upto_region 1 with fail
  rw [← hW0, ← hM]
  clear hW0 hM
  go_wp2_with fail
  go_loopg [0, 5, 11] n1 (fun gk x td i wr => ∃ (j told : Nat) (L : List Int), j + gk = n1 ∧ i = .int .i64 j ∧ td = .int .i64 told ∧ told ≤ n3 ∧ Hid (PrR w v base M [.slice ta n1 tc, .slice ca n1 cc, .slice ea n3 ec] x L wr) ∧ Hid (l ++ Tp.recs t.events t.ticks t.counts 0 = L ++ Tp.recs t.events (t.ticks.drop j) (t.counts.drop j) told) ∧ Hid (Tp.okC n3 told (t.counts.drop j) = true))
  case atStart => exact ⟨0, 0, l, by omega, rfl, rfl, by omega, P0, hidT rfl, hidT (by rw [H3.out]; exact HR.out.k)⟩
  case round =>
    obtain ⟨j, told, L, hj, rfl, rfl, htd, PR, HE, HC⟩ := hrel
    obtain ⟨c0, c1, c2⟩ := HCel.out _ _ _ PR.out
    obtain ⟨hts, hbw⟩ := HTW.out _ _ _ PR.out
    have HTS := hidT hts
    have HBW := hidT hbw
    have HLL : Hid (L.length ≤ 4000000) := by
      have := HLt.out
      rw [HE.out, List.length_append] at this
      unfold Hid
      omega
    obtain ⟨xa, xc, hv⟩ := ownShT PR.out.o
    subst hv
    clear hts hbw a0 a1 a2
    rcases gk with _ | gk
    · obtain rfl : j = n1 := by omega
      have dk : decide ((j : Int) < (j : Int)) = false := decide_eq_false (by omega)
      have HE2 : Hid (l ++ Tp.recs t.events t.ticks t.counts 0 = L ++ Tp.evs (t.events.drop told)) := by
        unfold Hid
        rw [HE.out, List.drop_eq_nil_of_le (by rw [← H1.out]; exact Nat.le_refl _)]
        cases t.counts.drop j <;> rfl
      rcases Nat.lt_or_ge told n3 with hlt | hge
      · obtain ⟨g, o, he, hg, hcc⟩ := HT.out.ev (by rw [← H3.out]; omega)
        subst he
        have hz1 : ¬ ec = told := by omega
        have hz2 : (ec - told == 0) = false := by simp; omega
        have hti : (told : Int) ≤ (n3 : Int) := by omega
        have hle : (t.events.drop told).length = n3 - told := by rw [List.length_drop, ← H3.out]
        have EV := putEv_any wr base (.slice xa L.length xc) L (t.events.drop told) (some ⟨g, o + told * 2, none⟩) (ec - told) PR.out.o HBW.out (by
          have := (HTS.out.ev).sub (i := told) (n := n3) (by rw [← H3.out]; exact hlt)
          rwa [List.take_of_length_le (by rw [hle]; omega)] at this) (fun e he => ⟨HR.out.e e (List.mem_of_mem_drop he), (HT.out.re e (List.mem_of_mem_drop he)).2⟩) (by have := HLL.out; rw [hle]; omega)
        rw [hle] at EV
        have HEV := hidT EV
        clear EV hle hcc
        go_wp2_with fail
        refine HEV.out.mono ?_
        rintro e w3 ⟨v3, rfl, o3, k3⟩
        have O3 := hidT o3
        have K3 := hidT (PR.out.g.trans k3)
        clear o3 k3
        go_wp2_with fail
        go_ret
        refine ⟨v3, rfl, ?_, K3.out⟩
        rw [HE2.out]
        exact O3.out
      · obtain rfl : told = n3 := by omega
        have HE3 : Hid (l ++ Tp.recs t.events t.ticks t.counts 0 = L) := by
          unfold Hid
          rw [HE2.out, List.drop_eq_nil_of_le (by rw [← H3.out]; exact Nat.le_refl _)]
          simp [Tp.evs]
        have EV := hidT (fun a' c' => putEv_nil wr base (.slice xa L.length xc) L a' c' PR.out.o HBW.out (by have := HLL.out; omega))
        have hs0 : told - told = 0 := Nat.sub_self _
        by_cases hec : ec = told
        · subst hec
          go_wp2_with fail
          refine (EV.out _ _).mono ?_
          rintro e w3 ⟨v3, rfl, o3, k3⟩
          have O3 := hidT o3
          have K3 := hidT (PR.out.g.trans k3)
          clear o3 k3
          go_wp2_with fail
          go_ret
          refine ⟨v3, rfl, ?_, K3.out⟩
          rw [HE3.out]
          exact O3.out
        · have hz2 : (ec - told == 0) = false := by simp; omega
          go_wp2_with fail
          refine (EV.out _ _).mono ?_
          rintro e w3 ⟨v3, rfl, o3, k3⟩
          have O3 := hidT o3
          have K3 := hidT (PR.out.g.trans k3)
          clear o3 k3
          go_wp2_with fail
          go_ret
          refine ⟨v3, rfl, ?_, K3.out⟩
          rw [HE3.out]
          exact O3.out
    · have dk : decide ((j : Int) < (n1 : Int)) = true := decide_eq_true (by omega)
      have dkn : decide (j < n1) = true := decide_eq_true (by omega)
      have hji : (j : Int) < (n1 : Int) := by omega
      have hji0 : (0 : Int) ≤ (j : Int) := by omega
      have hjn : j < n1 := by omega
      obtain ⟨tk, htk⟩ : ∃ x, t.ticks[j]? = some x := ⟨_, List.getElem?_eq_getElem (by rw [← H1.out]; omega)⟩
      obtain ⟨cx, hcx⟩ : ∃ x, t.counts[j]? = some x := ⟨_, List.getElem?_eq_getElem (by rw [HC2.out]; omega)⟩
      have hd1 : t.ticks.drop j = tk :: t.ticks.drop (j + 1) := by
        obtain ⟨h1, h2⟩ := List.getElem?_eq_some_iff.1 htk
        rw [← h2, List.drop_eq_getElem_cons h1]
      have hd2 : t.counts.drop j = cx :: t.counts.drop (j + 1) := by
        obtain ⟨h1, h2⟩ := List.getElem?_eq_some_iff.1 hcx
        rw [← h2, List.drop_eq_getElem_cons h1]
      have hcb := HC.out
      rw [hd2, Tp.okC] at hcb
      have hnc : ¬ (cx < (told : Int) ∨ (n3 : Int) < cx) := fun h => by rw [if_pos h] at hcb; cases hcb
      rw [if_neg hnc] at hcb
      obtain ⟨C, rfl⟩ : ∃ C : Nat, cx = C := ⟨cx.toNat, by omega⟩
      have hC1 : told ≤ C := by omega
      have hC3 : C ≤ n3 := by omega
      have HCB := hidT hcb
      have HE2 : Hid (l ++ Tp.recs t.events t.ticks t.counts 0 = L ++ Tp.evs ((t.events.drop told).take (C - told)) ++ Tp.tkB tk ++ Tp.recs t.events (t.ticks.drop (j + 1)) (t.counts.drop (j + 1)) C) := by
        unfold Hid
        rw [HE.out, hd1, hd2]
        simp [Tp.recs]
      obtain ⟨gt, ot, het, hgt, hct⟩ := HTS.out.tk (by rw [← H1.out]; omega)
      obtain ⟨gc, oc, hec', hgc, hcc⟩ := HTS.out.ct (by rw [HC2.out]; omega)
      subst het hec'
      obtain ⟨k0, k1, k2, k3⟩ := hct j tk htk
      have kc := hcc j _ hcx
      have hokt := HR.out.tt tk (List.mem_of_getElem? htk)
      obtain ⟨W1, hW1⟩ : ∃ W, W = wr.alloc (.cells #[.int .i64 tk.kind, .int .i64 tk.proc, .int .i64 tk.mark, .int .i64 tk.depth] 80) := ⟨_, rfl⟩
      have KW1 : Below wr.heap.size wr W1 := by rw [hW1]; exact (Below.refl _ _).alloc (Nat.le_refl _) _
      have PR1 := hidT (PR.out.later KW1)
      obtain ⟨M7, hM7⟩ : ∃ M, M = wr.heap.size := ⟨_, rfl⟩
      have hb7 : W1.heap[M7]? = some (.cells #[.int .i64 tk.kind, .int .i64 tk.proc, .int .i64 tk.mark, .int .i64 tk.depth] 80 (0, 0)) := by rw [hW1, hM7]; exact heap_alloc_new wr _
      have hl7 : M7 < W1.heap.size := (Array.getElem?_eq_some_iff.1 hb7).1
      have hn7 : some M7 ≠ (Value.slice xa L.length xc).ownBlock := fun e => by have := (World.ownsRow.lt PR.out.o _ e.symm).2; omega
      have HK7 := hidT (And.intro hb7 (And.intro hl7 hn7))
      obtain ⟨d0, d1, d2⟩ := HCel.out _ _ _ PR1.out
      have hgcw : gc < wr.heap.size := Nat.lt_of_lt_of_le hgc HBW.out
      have dc : W1.cell? ⟨gc, oc + j, none⟩ = some (.int .i64 (C : Int)) := (KW1.cell (p := ⟨gc, oc + j, none⟩) hgcw).trans kc
      have hMl := PR1.out.lt
      have hgc1 : gc < W1.heap.size := Nat.lt_of_lt_of_le hgcw KW1.size
      have hbW1 : Hid (base ≤ W1.heap.size) := Nat.le_trans HBW.out KW1.size
      have hCi : (told : Int) ≤ (C : Int) := by omega
      have hCe : (C : Int) ≤ (ec : Int) := by omega
      have hsubE : Hid (((t.events.drop told).take (C - told)).length = C - told) := by
        unfold Hid
        rw [List.length_take, List.length_drop, ← H3.out]
        omega
      -- what putEvents leaves, wherever the slice lies
      have EV : Hid (∀ (W : World) (a' : Option Addr) (c' : Nat), Below W1.heap.size W1 W → (told < C → ∃ g o, ea = some ⟨g, o, none⟩ ∧ a' = some ⟨g, o + told * 2, none⟩) → Calls Try.prog 66 #[.slice xa L.length xc, .slice a' (C - told) c'] W (PvQ W (.slice xa L.length xc) base (L ++ Tp.evs ((t.events.drop told).take (C - told))))) := fun W a' c' q hq => by
        have PW := PR1.out.later q
        obtain ⟨hts, hbw⟩ := HTW.out _ _ _ PW
        rcases Nat.lt_or_ge told C with hlt | hge
        · obtain ⟨g, o, he, rfl⟩ := hq hlt
          subst he
          have := putEv_any W base (.slice xa L.length xc) L ((t.events.drop told).take (C - told)) (some ⟨g, o + told * 2, none⟩) c' PW.o hbw (hts.ev.sub (i := told) (n := C - told) (by rw [← H3.out]; omega)) (fun e he => ⟨HR.out.e e (List.mem_of_mem_drop (List.mem_of_mem_take he)), (HT.out.re e (List.mem_of_mem_drop (List.mem_of_mem_take he))).2⟩) (by have := HLL.out; rw [hsubE.out]; omega)
          rwa [hsubE.out] at this
        · have e0 : C - told = 0 := by omega
          rw [e0, List.take_zero]
          have := putEv_nil W base (.slice xa L.length xc) L a' c' PW.o hbw (by have := HLL.out; omega)
          simpa [Tp.evs] using this
      have FIN : Hid (∀ (W w3 : World) (v3 : Value) (L3 : List Int), Below W1.heap.size W1 W → OwB w3 base v3 L3 → Gw W (.slice xa L.length xc) v3 w3 → PrR w v base M [.slice (some ⟨gt, ot, none⟩) n1 tc, .slice (some ⟨gc, oc, none⟩) n1 cc, .slice ea n3 ec] v3 L3 w3 ∧ w3.heap[M7]? = some (.cells #[.int .i64 tk.kind, .int .i64 tk.proc, .int .i64 tk.mark, .int .i64 tk.depth] 80 (0, 0)) ∧ w3.cell? ⟨gc, oc + j, none⟩ = some (.int .i64 (C : Int))) := fun W w3 v3 L3 q o3 k3 => by
        have PW := PR1.out.later q
        have k7 := k3.keep (M := M7) (Nat.lt_of_lt_of_le hl7 q.size) hn7
        have kb := k3.below PW.o (Nat.le_trans hbW1.out q.size)
        exact ⟨PW.go o3 k3, k7.1.trans ((q.block M7 hl7).trans hb7), (kb.cell (p := ⟨gc, oc + j, none⟩) hgc).trans ((q.cell (p := ⟨gc, oc + j, none⟩) hgc1).trans dc)⟩
      have ETK : Hid (∀ (w3 : World) (v3 : Value) (L3 : List Int), PrR w v base M [.slice (some ⟨gt, ot, none⟩) n1 tc, .slice (some ⟨gc, oc, none⟩) n1 cc, .slice ea n3 ec] v3 L3 w3 → L3.length ≤ 90000000 → Calls Try.prog 67 #[v3, .agg #[.int .i64 tk.kind, .int .i64 tk.proc, .int .i64 tk.mark, .int .i64 tk.depth]] w3 (PvQ w3 v3 base (L3 ++ Tp.tkB tk))) := fun w3 v3 L3 q hl3 => putTk_any w3 base v3 L3 tk q.o (HTW.out _ _ _ q).2 hokt hl3
      have HL3 : Hid ((L ++ Tp.evs ((t.events.drop told).take (C - told))).length ≤ 90000000) := by
        have h1 := Tp.evs_len ((t.events.drop told).take (C - told))
        rw [hsubE.out] at h1
        have h2 := HLL.out
        unfold Hid
        rw [List.length_append]
        omega
      have KS : Hid (∀ W : World, Below W1.heap.size W1 W → W.cell? ⟨M, 1, none⟩ = some (.slice (some ⟨gc, oc, none⟩) n1 cc) ∧ W.cell? ⟨M, 2, none⟩ = some (.slice ea n3 ec) ∧ W.cell? ⟨gc, oc + j, none⟩ = some (.int .i64 (C : Int))) := fun W q => ⟨(q.cell (p := ⟨M, 1, none⟩) hMl).trans d1, (q.cell (p := ⟨M, 2, none⟩) hMl).trans d2, (q.cell (p := ⟨gc, oc + j, none⟩) hgc1).trans dc⟩
      obtain ⟨L3, hL3⟩ : ∃ L3, L3 = L ++ Tp.evs ((t.events.drop told).take (C - told)) := ⟨_, rfl⟩
      rw [← hL3] at EV HL3 HE2
      have HW1 := hidT hW1
      have HM7 := hidT hM7
      clear hct hcc htk hcx hd1 hd2 hcb hnc hb7 hn7 KW1 hL3 kc hokt
      rcases (by omega : told < C ∨ (C = told ∧ ec = told) ∨ (C = told ∧ ¬ ec = told)) with hlt | ⟨hlt, hec⟩ | ⟨hlt, hec⟩
      · obtain ⟨g, o, he, hg, hcc⟩ := HT.out.ev (by rw [← H3.out]; omega)
        subst he
        have hz1 : ¬ ec = told := by omega
        have hz2 : (ec - told == 0) = false := by simp; omega
        clear hcc
        go_upto_region 5 with fail
        rw [← hW1, ← hM7]
        clear hW1 hM7 k0 k1 k2 k3
        go_region_held3 (fun W => W.cell? ⟨M, 1, none⟩ = some (.slice (some ⟨gc, oc, none⟩) n1 cc) ∧ W.cell? ⟨M, 2, none⟩ = some (.slice (some ⟨g, o, none⟩) n3 ec) ∧ W.cell? ⟨gc, oc + j, none⟩ = some (.int .i64 (C : Int))) (first | (exact s9) | (exact KS.out _ (by go_grown))) (first
          | (go_at_call 66; refine (EV.out _ _ _ (by go_grown) (by first | (intro _; exact ⟨_, _, rfl, rfl⟩) | (intro h; exact absurd h (Nat.lt_irrefl _)))).mono ?_; rintro e w3 ⟨v3, rfl, o3, k3⟩; have F3 := FIN.out _ w3 v3 L3 (by go_grown) o3 k3; have PR3 := hidT F3.1; have hm3 := F3.2.1; have e3 := F3.2.2; have s9 := And.intro (HCel.out _ _ _ PR3.out).2.1 (And.intro (HCel.out _ _ _ PR3.out).2.2 e3); clear F3 o3 k3))
        all_goals
          have f0 : w3.cell? ⟨M7, 0, none⟩ = some (.int .i64 tk.kind) := by simp [World.cell?, hm3]
          have f1 : w3.cell? ⟨M7, 1, none⟩ = some (.int .i64 tk.proc) := by simp [World.cell?, hm3]
          have f2 : w3.cell? ⟨M7, 2, none⟩ = some (.int .i64 tk.mark) := by simp [World.cell?, hm3]
          have f3 : w3.cell? ⟨M7, 3, none⟩ = some (.int .i64 tk.depth) := by simp [World.cell?, hm3]
          obtain ⟨g0, g1, g2⟩ := HCel.out _ _ _ PR3.out
          clear hm3 s9 c0 c1 c2 d0 d1 d2 dc
          go_wp2_with fail
          refine (ETK.out w3 v3 L3 PR3.out HL3.out).mono ?_
          rintro e w4 ⟨v4, rfl, o4, k4⟩
          have PR4 := hidT (PR3.out.go o4 k4)
          clear o4 k4
          go_wp2_with fail
          go_roundg gk
          case measure => omega
          case rel => exact ⟨j + 1, C, L3 ++ Tp.tkB tk, by omega, by go_num, rfl, by omega, PR4, HE2, HCB⟩
      · subst hlt
        subst hec
        have hs0 : ec - ec = 0 := Nat.sub_self _
        rw [hs0] at EV
        go_upto_region 5 with fail
        rw [← hW1, ← hM7]
        clear hW1 hM7 k0 k1 k2 k3
        go_region_held3 (fun W => W.cell? ⟨M, 1, none⟩ = some (.slice (some ⟨gc, oc, none⟩) n1 cc) ∧ W.cell? ⟨M, 2, none⟩ = some (.slice ea n3 ec) ∧ W.cell? ⟨gc, oc + j, none⟩ = some (.int .i64 (ec : Int))) (first | (exact s9) | (exact KS.out _ (by go_grown))) (first
          | (go_at_call 66; refine (EV.out _ _ _ (by go_grown) (by first | (intro _; exact ⟨_, _, rfl, rfl⟩) | (intro h; exact absurd h (Nat.lt_irrefl _)))).mono ?_; rintro e w3 ⟨v3, rfl, o3, k3⟩; have F3 := FIN.out _ w3 v3 L3 (by go_grown) o3 k3; have PR3 := hidT F3.1; have hm3 := F3.2.1; have e3 := F3.2.2; have s9 := And.intro (HCel.out _ _ _ PR3.out).2.1 (And.intro (HCel.out _ _ _ PR3.out).2.2 e3); clear F3 o3 k3))
        all_goals
          have f0 : w3.cell? ⟨M7, 0, none⟩ = some (.int .i64 tk.kind) := by simp [World.cell?, hm3]
          have f1 : w3.cell? ⟨M7, 1, none⟩ = some (.int .i64 tk.proc) := by simp [World.cell?, hm3]
          have f2 : w3.cell? ⟨M7, 2, none⟩ = some (.int .i64 tk.mark) := by simp [World.cell?, hm3]
          have f3 : w3.cell? ⟨M7, 3, none⟩ = some (.int .i64 tk.depth) := by simp [World.cell?, hm3]
          obtain ⟨g0, g1, g2⟩ := HCel.out _ _ _ PR3.out
          clear hm3 s9 c0 c1 c2 d0 d1 d2 dc
          go_wp2_with fail
          refine (ETK.out w3 v3 L3 PR3.out HL3.out).mono ?_
          rintro e w4 ⟨v4, rfl, o4, k4⟩
          have PR4 := hidT (PR3.out.go o4 k4)
          clear o4 k4
          go_wp2_with fail
          go_roundg gk
          case measure => omega
          case rel => exact ⟨j + 1, ec, L3 ++ Tp.tkB tk, by omega, by go_num, rfl, by omega, PR4, HE2, HCB⟩
      · subst hlt
        have hz2 : (ec - C == 0) = false := by simp; omega
        have hs0 : C - C = 0 := Nat.sub_self _
        rw [hs0] at EV
        go_upto_region 5 with fail
        rw [← hW1, ← hM7]
        clear hW1 hM7 k0 k1 k2 k3
        go_region_held3 (fun W => W.cell? ⟨M, 1, none⟩ = some (.slice (some ⟨gc, oc, none⟩) n1 cc) ∧ W.cell? ⟨M, 2, none⟩ = some (.slice ea n3 ec) ∧ W.cell? ⟨gc, oc + j, none⟩ = some (.int .i64 (C : Int))) (first | (exact s9) | (exact KS.out _ (by go_grown))) (first
          | (go_at_call 66; refine (EV.out _ _ _ (by go_grown) (by first | (intro _; exact ⟨_, _, rfl, rfl⟩) | (intro h; exact absurd h (Nat.lt_irrefl _)))).mono ?_; rintro e w3 ⟨v3, rfl, o3, k3⟩; have F3 := FIN.out _ w3 v3 L3 (by go_grown) o3 k3; have PR3 := hidT F3.1; have hm3 := F3.2.1; have e3 := F3.2.2; have s9 := And.intro (HCel.out _ _ _ PR3.out).2.1 (And.intro (HCel.out _ _ _ PR3.out).2.2 e3); clear F3 o3 k3))
        all_goals
          have f0 : w3.cell? ⟨M7, 0, none⟩ = some (.int .i64 tk.kind) := by simp [World.cell?, hm3]
          have f1 : w3.cell? ⟨M7, 1, none⟩ = some (.int .i64 tk.proc) := by simp [World.cell?, hm3]
          have f2 : w3.cell? ⟨M7, 2, none⟩ = some (.int .i64 tk.mark) := by simp [World.cell?, hm3]
          have f3 : w3.cell? ⟨M7, 3, none⟩ = some (.int .i64 tk.depth) := by simp [World.cell?, hm3]
          obtain ⟨g0, g1, g2⟩ := HCel.out _ _ _ PR3.out
          clear hm3 s9 c0 c1 c2 d0 d1 d2 dc
          go_wp2_with fail
          refine (ETK.out w3 v3 L3 PR3.out HL3.out).mono ?_
          rintro e w4 ⟨v4, rfl, o4, k4⟩
          have PR4 := hidT (PR3.out.go o4 k4)
          clear o4 k4
          go_wp2_with fail
          go_roundg gk
          case measure => omega
          case rel => exact ⟨j + 1, C, L3 ++ Tp.tkB tk, by omega, by go_num, rfl, by omega, PR4, HE2, HCB⟩
end Go.Proofs.Ytgonadilbjfpkaa
