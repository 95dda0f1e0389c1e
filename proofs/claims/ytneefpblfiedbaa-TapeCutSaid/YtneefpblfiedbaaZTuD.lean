/- Layer 13: TapeChanged. -/
/- Layer 13: what TapeBack wants of each call, said together. -/
/- Layer 13: what TapeBack wants of each call, of traces. -/
/- Layer 13: TapeBack. -/
/- Layer 13: the document's event. -/
/- Layer 13: the document's Records. -/
/- Layer 13: the document's Right. -/
/- Layer 13: the document's Right, walked. -/
import Derived.Test.YtneefpblfiedbaaZTtW
import Derived.Test.YtneefpblfiedbaaZTtI1
namespace Go.Proofs.Ytneefpblfiedbaa
open Go.RowKit
set_option linter.unusedVariables false
set_option linter.unusedSimpArgs false
/-- What of a tape with one byte changed is read: nothing. -/
theorem rdIn_ch (a : List Int) (k : Nat) (x y : Int) (g c : Nat) (w : World) (ha : Tp.Byt (a ++ Tp.sl4 (Tp.sum a))) (hk : (a ++ Tp.sl4 (Tp.sum a))[k]? = some x) (hy : 0 ≤ y ∧ y ≤ 255) (hxy : x ≠ y) (hb : ByB w g ((a ++ Tp.sl4 (Tp.sum a)).set k y)) (hc : (a ++ Tp.sl4 (Tp.sum a)).length ≤ c) (hl : (a ++ Tp.sl4 (Tp.sum a)).length ≤ 1000000) :
    ∃ (i : Nat) (e : Int), e ≠ 0 ∧ Calls Try.prog 15 #[.slice (some ⟨g, 0, none⟩) (a ++ Tp.sl4 (Tp.sum a)).length c] w fun e' w' => e' = .returned (.tuple #[.slice none 0 0, .int .i64 (i : Int), .int .i64 e]) ∧ Below w.heap.size w w' := by
  have hx := ha x (List.mem_of_getElem? hk)
  obtain ⟨i, e, hr⟩ := Tp.ri_changed a k x y hk hx hy hxy
  have hyt : Tp.Byt ((a ++ Tp.sl4 (Tp.sum a)).set k y) := fun z hz => by
    rcases List.mem_or_eq_of_mem_set hz with h | h
    · exact ha z h
    · rw [h]; exact hy
  have r := readIn_any _ (some ⟨g, 0, none⟩) c w hyt hb.bys (Nat.le_refl _) (by rw [List.length_set]; exact hc) (by rw [List.length_set]; omega)
  rw [hr, List.length_set] at r
  exact ⟨i, e, Tp.riB_err _ _ _ hr, r⟩
theorem rdTr_ch (a : List Int) (k : Nat) (x y : Int) (g c : Nat) (w : World) (ha : Tp.Byt (a ++ Tp.sl4 (Tp.sum a))) (hk : (a ++ Tp.sl4 (Tp.sum a))[k]? = some x) (hy : 0 ≤ y ∧ y ≤ 255) (hxy : x ≠ y) (hb : ByB w g ((a ++ Tp.sl4 (Tp.sum a)).set k y)) (hc : (a ++ Tp.sl4 (Tp.sum a)).length ≤ c) (hl : (a ++ Tp.sl4 (Tp.sum a)).length ≤ 1000000) :
    ∃ (i : Nat) (e : Int), e ≠ 0 ∧ Calls Try.prog 11 #[.slice (some ⟨g, 0, none⟩) (a ++ Tp.sl4 (Tp.sum a)).length c] w fun e' w' => e' = .returned (.tuple #[.agg #[.slice none 0 0, .slice none 0 0, .slice none 0 0], .int .i64 (i : Int), .int .i64 e]) ∧ Below w.heap.size w w' := by
  have hx := ha x (List.mem_of_getElem? hk)
  obtain ⟨t, s, i, e, hr⟩ := Tp.rt_changed a k x y hk hx hy hxy
  have hyt : Tp.Byt ((a ++ Tp.sl4 (Tp.sum a)).set k y) := fun z hz => by
    rcases List.mem_or_eq_of_mem_set hz with h | h
    · exact ha z h
    · rw [h]; exact hy
  have r := readTr_any _ (some ⟨g, 0, none⟩) c w hyt hb.bys (Nat.le_refl _) (by rw [List.length_set]; exact hc) (by rw [List.length_set]; omega)
  rw [hr, List.length_set] at r
  exact ⟨i, e, Tp.rtB_err _ hyt _ _ _ _ hr, r⟩
theorem Tp.wi_len (l : List Int) (hl : l.length ≤ 1000) : 0 < (Tp.wi l).length ∧ (Tp.wi l).length ≤ 1000000 := by
  have h := bodyL l l.length
  rw [List.take_length] at h
  have e : (Tp.body l).length ≤ 15 + l.length * 10 := h
  have e4 : ∀ s, (Tp.sl4 s).length = 4 := fun s => rfl
  simp only [Tp.wi, List.length_append, e4]
  omega
theorem Tp.wt_pos (t : Tp.Tr) : 0 < (Tp.wt t).length := by
  have e4 : ∀ s, (Tp.sl4 s).length = 4 := fun s => rfl
  simp only [Tp.wt, List.length_append, e4]
  omega
end Go.Proofs.Ytneefpblfiedbaa

namespace Go.Proofs.Ytneefpblfiedbaa
open Go.RowKit
set_option linter.unusedVariables false
set_option linter.unusedSimpArgs false
theorem own_nmsT {w : World} {base : Nat} {ty : TypeId} {a : Option Addr} {n c : Nat} {l : List Int} (h : w.ownsRow base ty 1 (.slice a n c) l.length (nmC l)) : NmS w.heap.size w a l := fun h0 => by
  have hl := World.ownsRow.lt h
  have hc := @World.ownsRow.cells _ _ _ _ _ _ _ h
  rcases h.2 with ⟨e, hn⟩ | ⟨g, cap, cur, e, hb, hg, _⟩
  · omega
  · injection e with e1 e2 e3
    subst e1
    refine ⟨g, 0, rfl, (hl g rfl).2, fun j x hx => ?_⟩
    have := hc (g := g) rfl j (.int .i64 x) (by simp [nmC, hx])
    rwa [addT0, ← Nat.zero_add j] at this
theorem own_len {w : World} {base sz n m c : Nat} {ty : TypeId} {a : Option Addr} {xs : List Value} (h : w.ownsRow base ty sz (.slice a n c) m xs) : n = m := by
  rcases h.2 with ⟨e, hn⟩ | ⟨g, cap, cur, e, hb, hg, _⟩
  · injection e with e1 e2 e3; omega
  · injection e with e1 e2 e3
/-- A reading of an input: its error, and its numbers where there is none. -/
def RiQ (e0 : Int) (l : List Int) (W : World) (e : Ending) (w' : World) : Prop := ∃ ma mn mc im f0, e = .returned (.tuple #[.slice ma mn mc, .int .i64 im, .int .i64 f0]) ∧ Hid ((e0 = 0 → f0 = 0 ∧ mn = l.length ∧ NmS w'.heap.size w' ma l) ∧ Below W.heap.size W w')
theorem riq_of {w : World} {b : List Int} {e : Ending} {w' : World} (h : rdQ w e w' (Tp.riB b)) (e0 : Int) (l : List Int) (hl : e0 = 0 → ∃ j, Tp.riB b = .good l j) : RiQ e0 l w e w' := by
  have h2 := trOf h
  cases hr : Tp.riB b with
  | bad i x =>
    obtain ⟨a, c, e1, n1, b1⟩ := h2.1 i x hr
    exact ⟨a, _, c, i, x, e1, ⟨fun h0 => (by obtain ⟨j, hj⟩ := hl h0; rw [hr] at hj; cases hj), b1⟩⟩
  | good l' j =>
    obtain ⟨a, c, e1, n1, b1⟩ := h2.2 l' j hr
    refine ⟨a, _, c, 0, 0, e1, ⟨fun h0 => ?_, b1⟩⟩
    obtain ⟨j', hj⟩ := hl h0
    rw [hr] at hj
    injection hj with h3 h4
    subst h3
    exact ⟨rfl, rfl, n1⟩
/-- What is written of an input, and what is read of that. -/
theorem wi_back (w : World) (a : Option Addr) (l : List Int) (c : Nat) (hm : NmS w.heap.size w a l) (hr : ∀ x ∈ l, -9223372036854775808 ≤ x ∧ x ≤ 9223372036854775807) (hl : l.length ≤ 1100) :
    ∃ e0 : Int, ∀ W, Below w.heap.size w W → Calls Try.prog 14 #[.slice a l.length c] W fun e w' => ∃ xa xn xc, e = .returned (.tuple #[.slice xa xn xc, .int .i64 e0]) ∧ Hid (Calls Try.prog 15 #[.slice xa xn xc] w' (RiQ e0 l w') ∧ Below W.heap.size W w') := by
  by_cases h : 1000 < l.length
  · refine ⟨2, fun W q => (writeIn_long l.length a c W h (by omega)).mono ?_⟩
    rintro e w' ⟨rfl, rfl⟩
    refine ⟨none, 0, 0, rfl, ⟨?_, Below.refl _ _⟩⟩
    have r := readIn_any [] none 0 w' (fun c hc => by cases hc) (B := w'.heap.size) (fun h => absurd h (by decide)) (Nat.le_refl _) (Nat.le_refl _) (by decide)
    exact r.mono fun e w1 h1 => riq_of h1 2 l (fun h => absurd h (by decide))
  · refine ⟨0, fun W q => (writeIn_any l a c W (hm.later q (Nat.le_refl _)) q.size (by omega) hr).mono ?_⟩
    rintro e w' ⟨v, rfl, o, k⟩
    have hlen := (Tp.wi_len l (by omega))
    obtain ⟨g, cap, rfl, hb, hcap, B⟩ := o.open' hlen.1
    refine ⟨_, _, _, rfl, ⟨?_, k⟩⟩
    have r := readIn_any (Tp.wi l) (some ⟨g, 0, none⟩) cap w' (Tp.Byt.app (bodyB l (by omega) hr) (Tp.sl4_byt _)) B.bys (Nat.le_refl _) hcap (by omega)
    exact r.mono fun e w1 h1 => riq_of h1 0 l (fun _ => ⟨0, Tp.ri_wi l (by omega) hr⟩)
end Go.Proofs.Ytneefpblfiedbaa

namespace Go.Proofs.Ytneefpblfiedbaa
open Go.RowKit
set_option linter.unusedVariables false
set_option linter.unusedSimpArgs false
/-- What is sure of a trace wherever it lies. -/
structure TrB (t : Tp.Tr) : Prop where
  l1 : t.ticks.length ≤ 1000000000000000
  l2 : t.counts.length ≤ 1000000000000000
  l3 : t.events.length ≤ 1000000000000000
  rt : ∀ x ∈ t.ticks, I64 x.kind ∧ I64 x.proc ∧ I64 x.mark ∧ I64 x.depth
  rc : ∀ x ∈ t.counts, I64 x
  re : ∀ x ∈ t.events, I64 x.kind ∧ I64 x.n
theorem TrS.tb {B : Nat} {w : World} {ta ca ea : Option Addr} {tc cc ec : Nat} {t : Tp.Tr} (h : TrS B w ta ca ea tc cc ec t) : TrB t := ⟨h.l1, h.l2, h.l3, h.rt, h.rc, h.re⟩
theorem okC_bd (m : Int) : ∀ (cs : List Int) (told : Int), 0 ≤ told → Tp.okC m told cs = true → ∀ x ∈ cs, 0 ≤ x ∧ x ≤ m
  | [], told, h0, h, x, hx => by cases hx
  | c :: cs, told, h0, h, x, hx => by
    rw [Tp.okC] at h
    split at h
    · cases h
    · rename_i hc
      rcases List.mem_cons.1 hx with rfl | hx
      · omega
      · exact okC_bd m cs c (by omega) h x hx
theorem sof_tb {t : Tp.Tr} (h : Tp.Sof t) (h1 : t.ticks.length ≤ 3000) (h3 : t.events.length ≤ 3000) : TrB t := by
  have hc := h.c
  refine ⟨by omega, by omega, by omega, fun x hx => ?_, fun x hx => ?_, fun x hx => ?_⟩
  · have := h.tt x hx
    unfold Tp.okT Tp.bet at this
    simp only [Bool.and_eq_true, decide_eq_true_eq] at this
    unfold I64
    omega
  · have := okC_bd _ _ _ (Int.le_refl 0) h.o x hx
    unfold I64
    omega
  · have h2 := h.n x hx
    have := h.e x hx
    unfold Tp.okE Tp.bet at this
    simp only [Bool.and_eq_true, decide_eq_true_eq] at this
    unfold I64
    omega
/-- A reading of a trace: its error, and the trace where there is none. -/
def RtQ (g0 : Int) (t : Tp.Tr) (W : World) (e : Ending) (w' : World) : Prop := ∃ ta n1 tc ca n2 cc ea n3 ec ih h0, e = .returned (.tuple #[.agg #[.slice ta n1 tc, .slice ca n2 cc, .slice ea n3 ec], .int .i64 ih, .int .i64 h0]) ∧ Hid ((g0 = 0 → h0 = 0 ∧ n1 = t.ticks.length ∧ n2 = t.counts.length ∧ n3 = t.events.length ∧ TrS w'.heap.size w' ta ca ea tc cc ec t) ∧ Below W.heap.size W w')
theorem trs_of {w' : World} {t : Tp.Tr} {tv cv ev : Value} {b1 : Nat} (hb : TrB t) (o1 : w'.ownsRow b1 62 4 tv t.ticks.length (tkC t.ticks)) (o2 : w'.ownsRow b1 3 1 cv t.counts.length (nmC t.counts)) (o3 : w'.ownsRow b1 69 2 ev t.events.length (evC t.events)) :
    ∃ ta tc ca cc ea ec, tv = .slice ta t.ticks.length tc ∧ cv = .slice ca t.counts.length cc ∧ ev = .slice ea t.events.length ec ∧ TrS w'.heap.size w' ta ca ea tc cc ec t := by
  obtain ⟨ta, tc, rfl⟩ := ownShT o1
  obtain ⟨ca, cc, rfl⟩ := ownShT o2
  obtain ⟨ea, ec, rfl⟩ := ownShT o3
  have h3 := own_evs o3
  exact ⟨ta, tc, ca, cc, ea, ec, rfl, rfl, rfl, own_tks o1, own_nmsT o2, h3.1, h3.2, hb.l1, hb.l2, hb.l3, hb.rt, hb.rc, hb.re⟩
theorem rtq_of {w : World} {b : List Int} {e : Ending} {w' : World} (h : rtQ w e w' (Tp.rtB b)) (g0 : Int) (t : Tp.Tr) (ht : g0 = 0 → (∃ s j, Tp.rtB b = .good t s j) ∧ TrB t) : RtQ g0 t w e w' := by
  cases hr : Tp.rtB b with
  | bad t' s i x =>
    rw [hr] at h
    obtain ⟨e1, b1⟩ := h
    exact ⟨none, 0, 0, none, 0, 0, none, 0, 0, i, x, e1, ⟨fun h0 => (by obtain ⟨⟨s, j, hj⟩, -⟩ := ht h0; rw [hr] at hj; cases hj), b1⟩⟩
  | good t' s j =>
    rw [hr] at h
    obtain ⟨tv, cv, ev, e1, o1, o2, o3, b1⟩ := h
    obtain ⟨ta, tc, rfl⟩ := ownShT o1
    obtain ⟨ca, cc, rfl⟩ := ownShT o2
    obtain ⟨ea, ec, rfl⟩ := ownShT o3
    refine ⟨ta, _, tc, ca, _, cc, ea, _, ec, 0, 0, e1, ⟨fun h0 => ?_, b1⟩⟩
    obtain ⟨⟨s', j', hj⟩, hb⟩ := ht h0
    rw [hr] at hj
    injection hj with h3 h4 h5
    subst h3
    have h3 := own_evs o3
    exact ⟨rfl, rfl, rfl, rfl, own_tks o1, own_nmsT o2, h3.1, h3.2, hb.l1, hb.l2, hb.l3, hb.rt, hb.rc, hb.re⟩
theorem wt_back (w : World) (ta ca ea : Option Addr) (tc cc ec : Nat) (t : Tp.Tr) (ht : TrS w.heap.size w ta ca ea tc cc ec t) (m1 : t.ticks.length ≤ 500) (m2 : t.counts.length ≤ 500) (m3 : t.events.length ≤ 500) :
    ∃ g0 : Int, (g0 = 0 → t.counts.length = t.ticks.length) ∧ ∀ W, Below w.heap.size w W → Calls Try.prog 9 #[trV ta ca ea tc cc ec t] W fun e w' => ∃ xa xn xc, e = .returned (.tuple #[.slice xa xn xc, .int .i64 g0]) ∧ Hid (Calls Try.prog 11 #[.slice xa xn xc] w' (RtQ g0 t w') ∧ Below W.heap.size W w') := by
  have hw := fun W (q : Below w.heap.size w W) => writeTr_any t ta ca ea tc cc ec W ((ht.later q (Nat.le_refl _)).mono q.size) (by omega) (by omega) (by omega)
  by_cases hR : Tp.rightT t = true
  · refine ⟨0, fun _ => (right_rg hR).c, fun W q => (hw W q).mono ?_⟩
    simp only [wtQ, if_pos hR]
    rintro e w' ⟨v, rfl, o, k⟩
    obtain ⟨g, cap, rfl, hb, hcap, B⟩ := o.open' (Tp.wt_pos t)
    refine ⟨_, _, _, rfl, ⟨?_, k⟩⟩
    have r := readTr_any (Tp.wt t) (some ⟨g, 0, none⟩) cap w' (Tp.Byt.app (bodyT_byt t (right_rg hR) (fun x hx => (ht.re x hx).2)) (Tp.sl4_byt _)) B.bys (Nat.le_refl _) hcap (Nat.le_trans (Tp.wt_len2 t hR m1 m3) (by decide))
    exact r.mono fun e w1 h1 => rtq_of h1 0 t (fun _ => ⟨Tp.rt_wt t hR (fun x hx => (ht.re x hx).2), ht.tb⟩)
  · refine ⟨32, fun h => absurd h (by decide), fun W q => (hw W q).mono ?_⟩
    simp only [wtQ, if_neg hR]
    rintro e w' ⟨rfl, k⟩
    refine ⟨none, 0, 0, rfl, ⟨?_, k⟩⟩
    have r := readTr_any [] none 0 w' (fun c hc => by cases hc) (B := w'.heap.size) (fun h => absurd h (by decide)) (Nat.le_refl _) (Nat.le_refl _) (by decide)
    exact r.mono fun e w1 h1 => rtq_of h1 32 t (fun h => absurd h (by decide))
theorem ri_backC (w : World) (a : Option Addr) (b : List Int) (c : Nat) (hm : ByS w.heap.size w a b) (hy : Tp.Byt b) (hc : b.length ≤ c) (hl : b.length ≤ 3000 ∨ 4194304 < b.length) (hl2 : b.length ≤ 1000000000000000) :
    ∃ i0 : Int, (i0 = 0 → 0 < b.length) ∧ ∀ W, Below w.heap.size w W → Calls Try.prog 15 #[.slice a b.length c] W fun e w' => ∃ na nn nc ip, e = .returned (.tuple #[.slice na nn nc, .int .i64 ip, .int .i64 i0]) ∧ Hid ((i0 = 0 → Calls Try.prog 14 #[.slice na nn nc] w' (TwQ b 0 w')) ∧ Below W.heap.size W w') := by
  rcases hl with hl | hl
  · have p1 := fun W (q : Below w.heap.size w W) => readIn_any b a c W hy (hm.later q (Nat.le_refl _)) q.size hc (by omega)
    cases hr : Tp.riB b with
    | bad i x =>
      refine ⟨x, fun h => absurd h (Tp.riB_err _ _ _ hr), fun W q => (p1 W q).mono fun e w' h => ?_⟩
      obtain ⟨na, nc, e1, -, b1⟩ := (trOf h).1 i x hr
      exact ⟨na, _, nc, _, e1, ⟨fun h0 => absurd h0 (Tp.riB_err _ _ _ hr), b1⟩⟩
    | good l j =>
      obtain ⟨h1, h2, h3⟩ := Tp.ri_back b hy l j hr
      have hpos : 0 < b.length := by rw [← h1]; exact wi_pos l
      refine ⟨0, fun _ => hpos, fun W q => (p1 W q).mono fun e w' h => ?_⟩
      obtain ⟨na, nc, e1, n1, b1⟩ := (trOf h).2 l j hr
      refine ⟨na, _, nc, _, e1, ⟨fun _ => ?_, b1⟩⟩
      have r := writeIn_any l na nc w' n1 (Nat.le_refl _) h2 h3
      rw [h1] at r
      exact r.mono fun e w2 h => twOf h hpos
  · refine ⟨2, fun h => absurd h (by decide), fun W q => (readIn_long b.length a c W hl (by omega)).mono ?_⟩
    rintro e w' ⟨rfl, rfl⟩
    exact ⟨none, 0, 0, 0, rfl, ⟨fun h => absurd h (by decide), Below.refl _ _⟩⟩
theorem rt_backC (w : World) (a : Option Addr) (b : List Int) (c : Nat) (hm : ByS w.heap.size w a b) (hy : Tp.Byt b) (hc : b.length ≤ c) (hl : b.length ≤ 3000 ∨ 4194304 < b.length) (hl2 : b.length ≤ 1000000000000000) :
    ∃ i0 : Int, (i0 = 0 → 0 < b.length) ∧ ∀ W, Below w.heap.size w W → Calls Try.prog 11 #[.slice a b.length c] W fun e w' => ∃ ta n1 tc ca n2 cc ea n3 ec ih, e = .returned (.tuple #[.agg #[.slice ta n1 tc, .slice ca n2 cc, .slice ea n3 ec], .int .i64 ih, .int .i64 i0]) ∧ Hid ((i0 = 0 → ∀ w2, Below w'.heap.size w' w2 → Calls Try.prog 9 #[.agg #[.slice ta n1 tc, .slice ca n2 cc, .slice ea n3 ec]] w2 (TwQ b 0 w2)) ∧ Below W.heap.size W w') := by
  rcases hl with hl | hl
  · have p1 := fun W (q : Below w.heap.size w W) => readTr_any b a c W hy (hm.later q (Nat.le_refl _)) q.size hc (by omega)
    cases hr : Tp.rtB b with
    | bad t s i x =>
      rw [hr] at p1
      refine ⟨x, fun h => absurd h (Tp.rtB_err _ hy _ _ _ _ hr), fun W q => (p1 W q).mono fun e w' h => ?_⟩
      obtain ⟨e1, b1⟩ := h
      exact ⟨none, 0, 0, none, 0, 0, none, 0, 0, _, e1, ⟨fun h0 => absurd h0 (Tp.rtB_err _ hy _ _ _ _ hr), b1⟩⟩
    | good t s j =>
      rw [hr] at p1
      obtain ⟨h1, h2, h3⟩ := Tp.rt_back b hy t s j hr
      have hpos : 0 < b.length := by rw [← h1]; exact Tp.wt_pos t
      have hg := Tp.recs_ge t.events t.ticks t.counts 0 h2.c h2.o
      have hbl : (Tp.recs t.events t.ticks t.counts 0).length ≤ b.length := by
        rw [← h1]
        simp only [Tp.wt, Tp.bodyT, List.length_append]
        omega
      have hb := sof_tb h2 (by omega) (by omega)
      refine ⟨0, fun _ => hpos, fun W q => (p1 W q).mono fun e w' h => ?_⟩
      obtain ⟨tv, cv, ev, e1, o1, o2, o3, b1⟩ := h
      obtain ⟨ta, tc, ca, cc, ea, ec, rfl, rfl, rfl, ts⟩ := trs_of hb o1 o2 o3
      refine ⟨ta, _, tc, ca, _, cc, ea, _, ec, _, e1, ⟨fun _ w2 q2 => ?_, b1⟩⟩
      have r := writeTr_any t ta ca ea tc cc ec w2 ((ts.later q2 (Nat.le_refl _)).mono q2.size) (by omega) (by have := h2.c; omega) (by omega)
      refine r.mono fun e w3 h => ?_
      simp only [wtQ, if_pos h3] at h
      rw [h1] at h
      exact twOf h hpos
  · refine ⟨2, fun h => absurd h (by decide), fun W q => (readTr_long b.length a c W hl (by omega)).mono ?_⟩
    rintro e w' ⟨rfl, k⟩
    exact ⟨none, 0, 0, none, 0, 0, none, 0, 0, 0, rfl, ⟨fun h => absurd h (by decide), k⟩⟩
theorem cv_arg (w : World) (a : Option Addr) (b : List Int) (c : Nat) (hm : ByS w.heap.size w a b) (h0 : 0 < b.length) : ∀ W, Below w.heap.size w W → (convert 27 9 (.slice a b.length c)).run Try.prog W = .ok (.string (strOfNums b)) W := fun W q => by
  obtain ⟨g, o, rfl, hg, hc⟩ := hm h0
  exact cv_at W g o c b fun j x hj => (q.cell (p := ⟨g, o + j, none⟩) hg).trans (hc j x hj)
end Go.Proofs.Ytneefpblfiedbaa

namespace Go.Proofs.Ytneefpblfiedbaa
open Go.RowKit
set_option linter.unusedVariables false
set_option linter.unusedSimpArgs false
theorem box3T (W : World) (x y z : Value) (T : TypeId) {M : Nat} (h : W.heap[M]? = some (.cells #[x, y, z] T (0, 0))) : W.cell? ⟨M, 0, none⟩ = some x ∧ W.cell? ⟨M, 1, none⟩ = some y ∧ W.cell? ⟨M, 2, none⟩ = some z := by
  refine ⟨?_, ?_, ?_⟩ <;> simp [World.cell?, h]
theorem belTo {w W0 W : World} (h0 : Below w.heap.size w W0) (h : Below W0.heap.size W0 W) : Below w.heap.size w W := h0.trans (h.mono h0.size)
set_option maxRecDepth 100000 in
set_option maxHeartbeats 4000000 in
theorem back_walk (w : World) (a0 : Option Addr) (l : List Int) (c0 : Nat) (hm0 : NmS w.heap.size w a0 l) (hr : ∀ x ∈ l, -9223372036854775808 ≤ x ∧ x ≤ 9223372036854775807) (_hc0 : l.length ≤ c0) (hl0 : l.length ≤ 1000000000000000) (ta ca ea : Option Addr) (tc cc ec : Nat) (t : Tp.Tr) (ht : TrS w.heap.size w ta ca ea tc cc ec t) (a : Option Addr) (b : List Int) (c : Nat) (hm : ByS w.heap.size w a b) (hy : Tp.Byt b) (hc : b.length ≤ c) (hl : b.length ≤ 1000000000000000) :
    Calls Try.prog 4 #[.slice a0 l.length c0, trV ta ca ea tc cc ec t, .slice a b.length c] w fun e w' => e = .returned (.bool true) ∧ Below w.heap.size w w' := by
  have EM := hidT (many_any ta ca ea tc cc ec t.ticks.length t.counts.length t.events.length)
  have EL := hidT (fun W => long_any W a b.length c (by omega))
  unfold trV
  obtain ⟨M, hM⟩ : ∃ M, M = w.heap.size := ⟨_, rfl⟩
  obtain ⟨W0, hW0⟩ : ∃ W, W = w.alloc (.cells #[.slice ta t.ticks.length tc, .slice ca t.counts.length cc, .slice ea t.events.length ec] 26) := ⟨_, rfl⟩
  have K0 : Hid (Below w.heap.size w W0) := by rw [hW0]; exact (Below.refl _ _).alloc (Nat.le_refl _) _
  have HC : Hid (∀ W, Below W0.heap.size W0 W → W.cell? ⟨M, 0, none⟩ = some (.slice ta t.ticks.length tc) ∧ W.cell? ⟨M, 1, none⟩ = some (.slice ca t.counts.length cc) ∧ W.cell? ⟨M, 2, none⟩ = some (.slice ea t.events.length ec)) := fun W q => by
    refine box3T W _ _ _ 26 ?_
    rw [q.block M (by rw [hW0, hM]; simp), hW0, hM]
    exact heap_alloc_new w _
  have HM := hidT hM
  have HW0 := hidT hW0
  have R0 : Hid (Below W0.heap.size W0 W0) := Below.refl _ _
  have KNW : Hid (∀ W, Below W0.heap.size W0 W → Calls Try.prog 8 #[] W fun e w' => e = .returned (.bool true) ∧ Below w.heap.size w w') := fun W q => (known13 W).mono fun e w' h => ⟨h.1, belTo (belTo K0.out q) h.2⟩
  by_cases hb : 3000 < b.length ∧ b.length ≤ 4194304
  · rw [decide_eq_true hb] at EL
    clear hb ht hm0 hr _hc0 hl0 hm hy hc hl hW0 hM
    generalize t.ticks.length = n1 at *
    generalize t.counts.length = n2 at *
    generalize t.events.length = n3 at *
    generalize l.length = n0 at *
    generalize b.length = nb at *
    go_enter Try.func4, Try.ntmps4
    go_upto_region 1 with fail
    rw [← HW0.out, ← HM.out]
    go_wp2_with fail
    refine (EL.out _).mono ?_
    rintro e w3 ⟨rfl, rfl⟩
    go_wp2_with fail
    refine (KNW.out _ R0.out).mono ?_
    rintro e w4 ⟨rfl, k4⟩
    have K4 := hidT k4
    clear k4
    go_wp2_with fail
    go_ret
    exact ⟨rfl, K4.out⟩
  rw [decide_eq_false hb] at EL
  by_cases hmany : 500 < t.ticks.length ∨ 500 < t.counts.length ∨ 500 < t.events.length
  · rw [decide_eq_true hmany] at EM
    clear hmany hb ht hm0 hr _hc0 hl0 hm hy hc hl hW0 hM
    generalize t.ticks.length = n1 at *
    generalize t.counts.length = n2 at *
    generalize t.events.length = n3 at *
    generalize l.length = n0 at *
    generalize b.length = nb at *
    go_enter Try.func4, Try.ntmps4
    go_upto_region 1 with fail
    rw [← HW0.out, ← HM.out]
    go_wp2_with fail
    refine (EL.out _).mono ?_
    rintro e w3 ⟨rfl, rfl⟩
    obtain ⟨t0, t1, t2⟩ := HC.out _ R0.out
    go_wp2_with fail
    refine (EM.out _).mono ?_
    rintro e w4 ⟨rfl, k4⟩
    have K4 := hidT k4
    clear k4
    go_wp2_with fail
    refine (KNW.out _ K4.out).mono ?_
    rintro e w5 ⟨rfl, k5⟩
    have K5 := hidT k5
    clear k5
    go_wp2_with fail
    go_ret
    exact ⟨rfl, K5.out⟩
  rw [decide_eq_false hmany] at EM
  by_cases h11 : 1100 < l.length
  · have d : decide ((1100 : Int) < (l.length : Int)) = true := decide_eq_true (by omega)
    clear h11 hmany hb ht hm0 hr _hc0 hl0 hm hy hc hl hW0 hM
    generalize t.ticks.length = n1 at *
    generalize t.counts.length = n2 at *
    generalize t.events.length = n3 at *
    generalize l.length = n0 at *
    generalize b.length = nb at *
    go_enter Try.func4, Try.ntmps4
    go_upto_region 1 with fail
    rw [← HW0.out, ← HM.out]
    go_wp2_with fail
    refine (EL.out _).mono ?_
    rintro e w3 ⟨rfl, rfl⟩
    obtain ⟨t0, t1, t2⟩ := HC.out _ R0.out
    go_wp2_with fail
    refine (EM.out _).mono ?_
    rintro e w4 ⟨rfl, k4⟩
    have K4 := hidT k4
    clear k4
    go_wp2_with fail
    refine (KNW.out _ K4.out).mono ?_
    rintro e w5 ⟨rfl, k5⟩
    have K5 := hidT k5
    clear k5
    go_wp2_with fail
    go_ret
    exact ⟨rfl, K5.out⟩
  have d : decide ((1100 : Int) < (l.length : Int)) = false := decide_eq_false (by omega)
  obtain ⟨e0, EW0⟩ := wi_back w a0 l c0 hm0 hr (by omega)
  obtain ⟨g0, hg0, EG0⟩ := wt_back w ta ca ea tc cc ec t ht (by omega) (by omega) (by omega)
  obtain ⟨i0, hi0, EI0⟩ := ri_backC w a b c hm hy hc (by omega) hl
  obtain ⟨r0, hr0, ER0⟩ := rt_backC w a b c hm hy hc (by omega) hl
  have EW := hidT (fun W (q : Below W0.heap.size W0 W) => EW0 W (belTo K0.out q))
  have EG := hidT (fun W (q : Below W0.heap.size W0 W) => EG0 W (belTo K0.out q))
  have EI := hidT (fun W (q : Below W0.heap.size W0 W) => EI0 W (belTo K0.out q))
  have ER := hidT (fun W (q : Below W0.heap.size W0 W) => ER0 W (belTo K0.out q))
  have NY : Hid (∀ W ma mc, Below W0.heap.size W0 W → NmS W.heap.size W ma l → Calls Try.prog 16 #[.slice a0 l.length c0, .slice ma l.length mc] W fun e w' => e = .returned (.bool true) ∧ Below W.heap.size W w') := fun W ma mc q h => nums_yes W a0 ma c0 mc l ((hm0.later (belTo K0.out q) (Nat.le_refl _)).mono (belTo K0.out q).size) h (by omega)
  have SY : Hid (g0 = 0 → ∀ W tb cb eb td cd ed, Below W0.heap.size W0 W → TrS W.heap.size W tb cb eb td cd ed t → Calls Try.prog 13 #[trV ta ca ea tc cc ec t, trV tb cb eb td cd ed t] W fun e w' => e = .returned (.bool true) ∧ Below W.heap.size W w') := fun h0 W tb cb eb td cd ed q h => sameTr_yes W ta ca ea tb cb eb tc cc ec td cd ed t ((ht.later (belTo K0.out q) (Nat.le_refl _)).mono (belTo K0.out q).size) h (hg0 h0) (by omega) (by omega)
  have CB : Hid (0 < b.length → ∀ W, Below W0.heap.size W0 W → (convert 27 9 (.slice a b.length c)).run Try.prog W = .ok (.string (strOfNums b)) W) := fun h W q => cv_arg w a b c hm h W (belTo K0.out q)
  have HI0 := hidT hi0
  have HR0 := hidT hr0
  unfold trV at EG SY
  have SEQ := str_eq b
  have SEQL := str_eqL b
  clear h11 hmany hb ht hm0 hr _hc0 hl0 hm hy hc hl hW0 hM EW0 EG0 EI0 ER0 hg0 hi0 hr0
  obtain ⟨n1, hn1⟩ : ∃ n, n = t.ticks.length := ⟨_, rfl⟩
  obtain ⟨n2, hn2⟩ : ∃ n, n = t.counts.length := ⟨_, rfl⟩
  obtain ⟨n3, hn3⟩ : ∃ n, n = t.events.length := ⟨_, rfl⟩
  obtain ⟨n0, hn0⟩ : ∃ n, n = l.length := ⟨_, rfl⟩
  have HN : Hid (n1 = t.ticks.length ∧ n2 = t.counts.length ∧ n3 = t.events.length ∧ n0 = l.length) := ⟨hn1, hn2, hn3, hn0⟩
  rw [← hn1, ← hn2, ← hn3] at HC EM EG SY HW0
  rw [← hn1, ← hn2, ← hn3, ← hn0]
  rw [← hn0] at EW NY d
  clear hn0 hn1 hn2 hn3
  generalize b.length = nb at *
  go_enter Try.func4, Try.ntmps4
  go_upto_region 1 with fail
  rw [← HW0.out, ← HM.out]
  go_wp2_with fail
  refine (EL.out _).mono ?_
  rintro e w3 ⟨rfl, hw3⟩
  rw [hw3]
  clear hw3
  obtain ⟨t0, t1, t2⟩ := HC.out _ R0.out
  go_wp2_with fail
  refine (EM.out _).mono ?_
  rintro e w4 ⟨rfl, k4⟩
  have K4 := hidT k4
  clear k4 EL EM t0 t1 t2
  go_wp2_with fail
  refine (EW.out w4 K4.out).mono ?_
  rintro e w5 ⟨xa, xn, xc, rfl, X5⟩
  have K5 : Hid (Below W0.heap.size W0 w5) := belTo K4.out X5.out.2
  have C5 := hidT X5.out.1
  clear X5 EW
  go_wp2_with fail
  refine C5.out.mono ?_
  rintro e w6 ⟨ma, mn, mc, im, f0, rfl, X6⟩
  have K6 : Hid (Below W0.heap.size W0 w6) := belTo K5.out X6.out.2
  clear C5
  go_upto_region 5 with fail
  go_cut [60] from 49 to 60 (fun s wx => s = .bool false ∧ Hid (Below W0.heap.size W0 wx))
  case first =>
    by_cases h0 : e0 = 0
    · obtain ⟨e1, e2, hms⟩ := X6.out.1 h0
      rw [← HN.out.2.2.2] at e2
      subst e1 e2
      subst h0
      have NN := hidT (NY.out w6 ma mc K6.out hms)
      clear hms X6
      go_wp2_with fail
      refine NN.out.mono ?_
      rintro e w7 ⟨rfl, k7⟩
      have K7 : Hid (Below W0.heap.size W0 w7) := belTo K6.out k7
      clear k7 NN
      go_wp2_with fail
      go_meet
      exact ⟨rfl, K7.out⟩
    · have q0 : (e0 == 0) = false := by simpa using h0
      clear h0 X6
      go_wp2_with fail
      go_meet
      exact ⟨rfl, K6.out⟩
  case rest =>
    obtain ⟨rfl, K7⟩ := hcut
    obtain ⟨W7, hW7⟩ : ∃ W7, W7 = wc := ⟨_, rfl⟩
    subst hW7
    obtain ⟨t0, t1, t2⟩ := HC.out _ K7.out
    have G7 := hidT (EG.out W7 K7.out)
    clear EG X6 NY
    go_wp2_with fail
    refine G7.out.mono ?_
    rintro e w8 ⟨ya, yn, yc, rfl, X8⟩
    have K8 : Hid (Below W0.heap.size W0 w8) := belTo K7.out X8.out.2
    have C8 := hidT X8.out.1
    clear X8 G7 t0 t1 t2
    go_wp2_with fail
    refine C8.out.mono ?_
    rintro e w9 ⟨tb, m1, td, cb, m2, cd, eb, m3, ed, ih, h0, rfl, X9⟩
    have K9 : Hid (Below W0.heap.size W0 w9) := belTo K8.out X9.out.2
    clear C8
    obtain ⟨M2, hM2⟩ : ∃ M2, M2 = w9.heap.size := ⟨_, rfl⟩
    obtain ⟨W10, hW10⟩ : ∃ W, W = w9.alloc (.cells #[.slice tb m1 td, .slice cb m2 cd, .slice eb m3 ed] 26) := ⟨_, rfl⟩
    have b10 : Below w9.heap.size w9 W10 := by rw [hW10]; exact (Below.refl _ _).alloc (Nat.le_refl _) _
    have K10 : Hid (Below W0.heap.size W0 W10) := belTo K9.out b10
    have B10 := hidT b10
    obtain ⟨s0, s1, s2⟩ := box3T W10 (.slice tb m1 td) (.slice cb m2 cd) (.slice eb m3 ed) 26 (M := M2) (by rw [hW10, hM2]; exact heap_alloc_new w9 _)
    have HM2 := hidT hM2
    have HW10 := hidT hW10
    clear hM2 hW10 b10
    go_upto_region 9 with fail
    rw [← HW10.out, ← HM2.out]
    obtain ⟨t0, t1, t2⟩ := HC.out _ K10.out
    go_cut [83] from 72 to 83 (fun s wx => s = .bool false ∧ Hid (Below W0.heap.size W0 wx))
    case first =>
      by_cases hg : g0 = 0
      · obtain ⟨e1, e2, e3, e4, hts⟩ := X9.out.1 hg
        rw [← HN.out.1] at e2
        rw [← HN.out.2.1] at e3
        rw [← HN.out.2.2.1] at e4
        subst e1 e2 e3 e4
        have NN := hidT (SY.out hg W10 tb cb eb td cd ed K10.out ((hts.later B10.out (Nat.le_refl _)).mono B10.out.size))
        have q0 : (g0 == 0) = true := by rw [hg]; exact beq_self_eq_true _
        clear hts X9 hg
        go_wp2_with fail
        refine NN.out.mono ?_
        rintro e w11 ⟨rfl, k11⟩
        have K11 : Hid (Below W0.heap.size W0 w11) := belTo K10.out k11
        clear k11 NN
        go_wp2_with fail
        go_meet
        exact ⟨rfl, K11.out⟩
      · have q0 : (g0 == 0) = false := by simpa using hg
        clear hg X9
        go_wp2_with fail
        go_meet
        exact ⟨rfl, K10.out⟩
    case rest =>
      obtain ⟨rfl, K11⟩ := hcut
      obtain ⟨W11, hW11⟩ : ∃ W, W = wc := ⟨_, rfl⟩
      subst hW11
      clear t0 t1 t2 s0 s1 s2 X9 SY HW10 HM2 B10
      go_wp2_with fail
      refine (EI.out W11 K11.out).mono ?_
      rintro e w12 ⟨na, nn, nc, ip, rfl, X12⟩
      have K12 : Hid (Below W0.heap.size W0 w12) := belTo K11.out X12.out.2
      by_cases hi : i0 = 0
      · have q0 : (i0 == 0) = true := by rw [hi]; exact beq_self_eq_true _
        have C12 := hidT (X12.out.1 hi)
        have CB2 := hidT (CB.out (HI0.out hi))
        clear X12 CB hi
        go_wp2_with fail
        refine C12.out.mono ?_
        rintro e w13 ⟨za, zn, zc, rfl, cz, k13⟩
        have K13 : Hid (Below W0.heap.size W0 w13) := belTo K12.out k13
        have z1 := cz w13 (Below.refl _ _)
        have z2 := CB2.out w13 K13.out
        clear k13 cz C12
        go_wp2_with fail
        refine (KNW.out _ K13.out).mono ?_
        rintro e w14 ⟨rfl, k14⟩
        have K14 := hidT k14
        clear k14
        go_wp2_with fail
        go_ret
        exact ⟨rfl, K14.out⟩
      · have q0 : (i0 == 0) = false := by simpa using hi
        clear X12 hi
        go_wp2_with fail
        refine (ER.out w12 K12.out).mono ?_
        rintro e w13 ⟨tb2, m12, td2, cb2, m22, cd2, eb2, m32, ed2, ih2, rfl, X13⟩
        have K13 : Hid (Below W0.heap.size W0 w13) := belTo K12.out X13.out.2
        obtain ⟨M3, hM3⟩ : ∃ M2, M2 = w13.heap.size := ⟨_, rfl⟩
        obtain ⟨W14, hW14⟩ : ∃ W, W = w13.alloc (.cells #[.slice tb2 m12 td2, .slice cb2 m22 cd2, .slice eb2 m32 ed2] 26) := ⟨_, rfl⟩
        have b14 : Below w13.heap.size w13 W14 := by rw [hW14]; exact (Below.refl _ _).alloc (Nat.le_refl _) _
        have K14 : Hid (Below W0.heap.size W0 W14) := belTo K13.out b14
        have B14 := hidT b14
        obtain ⟨s0, s1, s2⟩ := box3T W14 (.slice tb2 m12 td2) (.slice cb2 m22 cd2) (.slice eb2 m32 ed2) 26 (M := M3) (by rw [hW14, hM3]; exact heap_alloc_new w13 _)
        have HM3 := hidT hM3
        have HW14 := hidT hW14
        clear hM3 hW14 b14
        go_upto_region 16 with fail
        rw [← HW14.out, ← HM3.out]
        by_cases hr : r0 = 0
        · have q1 : (r0 == 0) = true := by rw [hr]; exact beq_self_eq_true _
          have C14 := hidT (X13.out.1 hr W14 B14.out)
          have CB2 := hidT (CB.out (HR0.out hr))
          clear X13 CB hr
          go_wp2_with fail
          refine C14.out.mono ?_
          rintro e w15 ⟨za, zn, zc, rfl, cz, k15⟩
          have K15 : Hid (Below W0.heap.size W0 w15) := belTo K14.out k15
          have z1 := cz w15 (Below.refl _ _)
          have z2 := CB2.out w15 K15.out
          clear k15 cz C14 s0 s1 s2
          go_wp2_with fail
          refine (KNW.out _ K15.out).mono ?_
          rintro e w16 ⟨rfl, k16⟩
          have K16 := hidT k16
          clear k16
          go_wp2_with fail
          go_ret
          exact ⟨rfl, K16.out⟩
        · have q1 : (r0 == 0) = false := by simpa using hr
          clear X13 hr s0 s1 s2
          go_wp2_with fail
          refine (KNW.out _ K14.out).mono ?_
          rintro e w16 ⟨rfl, k16⟩
          have K16 := hidT k16
          clear k16
          go_wp2_with fail
          go_ret
          exact ⟨rfl, K16.out⟩
end Go.Proofs.Ytneefpblfiedbaa

namespace Go.Proofs.Ytneefpblfiedbaa
open Go.RowKit
set_option linter.unusedVariables false
set_option linter.unusedSimpArgs false
theorem rhas_any (k : Int) (hk : 1 ≤ k ∧ k ≤ 5) (w : World) : Calls Try.prog 48 #[.int .i64 k] w fun e w' => e = .returned (.bool (Tp.hasN k)) ∧ w' = w := by
  have h5 : k = 1 ∨ k = 2 ∨ k = 3 ∨ k = 4 ∨ k = 5 := by omega
  rcases h5 with rfl | rfl | rfl | rfl | rfl
  all_goals
    go_enter Try.func48, Try.ntmps48
    go_wp2_with fail
    go_ret
    exact ⟨rfl, rfl⟩
theorem okE_kind {e : Tp.Ev} (h : Tp.okE e = true) : 1 ≤ e.kind ∧ e.kind ≤ 5 := by
  unfold Tp.okE Tp.bet at h
  simp only [Bool.and_eq_true, decide_eq_true_eq] at h
  exact h.1
set_option maxRecDepth 100000 in
set_option maxHeartbeats 2000000 in
theorem revent_any (e : Tp.Ev) (he : Tp.okE e = true) (hn : I64 e.n) (w : World) : Calls Try.prog 37 #[.agg #[.int .i64 e.kind, .int .i64 e.n]] w (PuQ w w.heap.size (Tp.evB e)) := by
  obtain ⟨i0, hi, hz0, hz1, hz2⟩ := infoB'
  have hk := okE_kind he
  obtain ⟨q, hq⟩ : ∃ q, q = Tp.hasN e.kind := ⟨_, rfl⟩
  have HH := hidT (fun W => rhas_any e.kind hk W)
  rw [← hq] at HH
  have HE1 : Hid (q = true → Tp.evB e = [16 + e.kind] ++ Tp.dg (Tp.zg e.n)) := fun h => by unfold Tp.evB; rw [← hq, h]; rfl
  have HE0 : Hid (q = false → Tp.evB e = [16 + e.kind]) := fun h => by unfold Tp.evB; rw [← hq, h]; rfl
  have NU := hidT (fun W => rNum_any W e.n hn.1 hn.2)
  obtain ⟨L, hL⟩ : ∃ L, L = Tp.evB e := ⟨_, rfl⟩
  rw [← hL] at HE1 HE0 ⊢
  obtain ⟨M, hM⟩ : ∃ M, M = w.heap.size := ⟨_, rfl⟩
  obtain ⟨W0, hW0⟩ : ∃ W, W = w.alloc (.cells #[.int .i64 e.kind, .int .i64 e.n] 69) := ⟨_, rfl⟩
  obtain ⟨K, hK⟩ : ∃ K : Int, K = 16 + e.kind := ⟨_, rfl⟩
  have w1 : wrap64 (16 + e.kind) = K := by rw [hK]; unfold wrap64; omega
  have HK : Hid (K = 16 + e.kind ∧ 0 ≤ K ∧ K ≤ 255) := ⟨hK, by omega, by omega⟩
  have K0 : Hid (Below w.heap.size w W0) := by rw [hW0]; exact (Below.refl _ _).alloc (Nat.le_refl _) _
  have CB : Hid (∀ W, Below W0.heap.size W0 W → W.cell? ⟨M, 0, none⟩ = some (.int .i64 e.kind) ∧ W.cell? ⟨M, 1, none⟩ = some (.int .i64 e.n)) := fun W hW => by
    have h : W.heap[M]? = some (.cells #[.int .i64 e.kind, .int .i64 e.n] 69 (0, 0)) := by
      rw [hW.block M (by rw [hW0, hM]; simp), hW0, hM]
      exact heap_alloc_new w _
    constructor <;> simp [World.cell?, h]
  obtain ⟨W1, hW1⟩ : ∃ W, W = W0.alloc (.cells #[.int .u8 K] 5) := ⟨_, rfl⟩
  have O1 : Hid (OwB W1 w.heap.size (.slice (some ⟨W0.heap.size, 0, none⟩) 1 1) [K] ∧ Below W0.heap.size W0 W1) := by
    rw [hW1]
    exact ⟨OwB.made W0 w.heap.size [K] K0.out.size (by simp), (Below.refl _ _).alloc (Nat.le_refl _) _⟩
  have R0 : Hid (Below W0.heap.size W0 W0) := Below.refl _ _
  have HM := hidT hM
  have HW0 := hidT hW0
  have HW1 := hidT hW1
  obtain ⟨c0, c1⟩ := CB.out W0 R0.out
  clear hM hW0 hW1 hL hK he hn hk hq
  generalize e.kind = k at *
  generalize e.n = n at *
  go_enter Try.func37, Try.ntmps37
  go_upto_region 1 with fail
  rw [← HW0.out, ← HM.out]
  go_upto_region 2 with fail
  rw [show K % 256 = K by have := HK.out; omega, ← HW1.out]
  obtain ⟨g1, hg1⟩ : ∃ g, g = W0.heap.size := ⟨_, rfl⟩
  rw [← hg1] at O1 ⊢
  have HG1 := hidT hg1
  have B1 : Hid (Below w.heap.size w W1) := belTo K0.out (by have := O1.out.2; rw [HG1.out] at this; exact this)
  clear c0 c1 hg1
  obtain ⟨c0, c1⟩ := CB.out W1 (by have := O1.out.2; rw [HG1.out] at this; exact this)
  have CB2 := hidT (CB.out)
  clear w1
  cases q with
  | false =>
    have FIN : Hid (OwB W1 w.heap.size (.slice (some ⟨g1, 0, none⟩) 1 1) L ∧ Below w.heap.size w W1) := ⟨by rw [HE0.out rfl, ← HK.out.1]; exact O1.out.1, B1.out⟩
    go_wp2_with fail
    refine (HH.out W1).mono ?_
    rintro e w2 ⟨rfl, rfl⟩
    go_wp2_with fail
    go_ret
    exact ⟨_, rfl, FIN.out⟩
  | true =>
    go_wp2_with fail
    refine (HH.out W1).mono ?_
    rintro e w2 ⟨rfl, rfl⟩
    go_wp2_with fail
    refine (NU.out _).mono ?_
    rintro e w3 ⟨v3, rfl, O3, K3⟩
    obtain ⟨g2, c2, hv2, hg2, hg2', hc2⟩ := OwB.at' O3 (dg_pos _)
    subst hv2
    have HC2 := hidT hc2
    have HO2 := hidT (ownLtT O1.out.1 K3)
    have HK3 : Hid (Below w.heap.size w w3) := B1.out.trans (K3.mono B1.out.size)
    have H63 : Hid (1 + (Tp.dg (Tp.zg n)).length ≤ maxLen ∧ (1 + (Tp.dg (Tp.zg n)).length + (1 + (Tp.dg (Tp.zg n)).length) / 4 + 192) * 1 ≤ 281474976710656) := OwB.len63 (by have := Tp.dg_len (Tp.zg n); omega)
    clear O3 K3 hc2
    go_wp2_with (at_builtin; refine wpList_append_own_wide _ rfl _ _ 27 rfl w.heap.size 5 i0 (.int .u8 0) 1 1 Try.underlying27 hi hz0 hz1 hz2 rfl (by decide) _ _ _ rfl HO2.out ⟨g2, 0, none⟩ (Tp.dg (Tp.zg n)).length c2 (byC (Tp.dg (Tp.zg n))) rfl (by rw [byC_len, Nat.mul_one]) HC2.out (byC_one _) H63.out.1 H63.out.2 HK3.out.size ?_)
    intro v8 w8 h8 g8 o8
    have HX : Hid (OwB w8 w.heap.size v8 L) := by
      rw [HE1.out (by trivial), ← HK.out.1]
      exact OwB.of h8 rfl
    have K8 := hidT (HK3.out.trans (OwB.below' HO2.out HK3.out.size g8))
    clear h8 g8 o8
    go_wp2_with fail
    go_ret
    exact ⟨v8, rfl, HX.out, K8.out⟩
end Go.Proofs.Ytneefpblfiedbaa

namespace Go.Proofs.Ytneefpblfiedbaa
open Go.RowKit
set_option linter.unusedVariables false
set_option linter.unusedSimpArgs false
set_option maxRecDepth 100000
theorem drop_getT {α : Type} {l : List α} {i : Nat} {x : α} (h : l[i]? = some x) : l.drop i = x :: l.drop (i + 1) := by
  obtain ⟨h1, h2⟩ := List.getElem?_eq_some_iff.1 h
  rw [List.drop_eq_getElem_cons h1, h2]
theorem recs_at {ev : List Tp.Ev} {ts : List Tp.Tk} {cs : List Int} {j told n : Nat} {tk : Tp.Tk} {cx : Int} (htk : ts[j]? = some tk) (hcx : cs[j]? = some cx) (hc : Tp.okC n told (cs.drop j) = true) :
    ∃ C : Nat, cx = C ∧ told ≤ C ∧ C ≤ n ∧ Tp.okC n C (cs.drop (j + 1)) = true ∧ Tp.recs ev (ts.drop j) (cs.drop j) told = Tp.evs ((ev.drop told).take (C - told)) ++ (Tp.tkB tk ++ Tp.recs ev (ts.drop (j + 1)) (cs.drop (j + 1)) C) := by
  rw [drop_getT hcx, Tp.okC] at hc
  split at hc
  · cases hc
  · rename_i hn
    obtain ⟨C, rfl⟩ : ∃ C : Nat, cx = C := ⟨cx.toNat, by omega⟩
    refine ⟨C, rfl, by omega, by omega, hc, ?_⟩
    rw [drop_getT htk, drop_getT hcx]
    simp [Tp.recs]
theorem evs_snoc {ev : List Tp.Ev} {told d : Nat} {e : Tp.Ev} (h : told ≤ d) (he : ev[d]? = some e) : Tp.evs ((ev.drop told).take (d + 1 - told)) = Tp.evs ((ev.drop told).take (d - told)) ++ Tp.evB e := by
  have h1 : (ev.drop told)[d - told]? = some e := by rw [List.getElem?_drop, show told + (d - told) = d from by omega]; exact he
  rw [show d + 1 - told = (d - told) + 1 from by omega, List.take_add_one, h1]
  simp [Tp.evs]
theorem evs_self (ev : List Tp.Ev) (told : Nat) : Tp.evs ((ev.drop told).take (told - told)) = [] := by simp [Tp.evs]
theorem evs_bd (ev : List Tp.Ev) (told d : Nat) (h : d ≤ 3000) : (Tp.evs ((ev.drop told).take (d - told))).length ≤ 33000 := by
  have h1 := Tp.evs_len ((ev.drop told).take (d - told))
  have h2 : ((ev.drop told).take (d - told)).length ≤ d - told := by rw [List.length_take]; omega
  omega
theorem evB_pos (e : Tp.Ev) : 0 < (Tp.evB e).length := by unfold Tp.evB; simp
theorem wrT (k : Nat) (h : k ≤ 100000) : wrap64 ((k : Int) + 1) = ((k + 1 : Nat) : Int) := by unfold wrap64; omega
theorem box4T {W : World} {x y z u : Value} {T : TypeId} {M : Nat} (h : W.heap[M]? = some (.cells #[x, y, z, u] T (0, 0))) : W.cell? ⟨M, 0, none⟩ = some x ∧ W.cell? ⟨M, 1, none⟩ = some y ∧ W.cell? ⟨M, 2, none⟩ = some z ∧ W.cell? ⟨M, 3, none⟩ = some u := by
  refine ⟨?_, ?_, ?_, ?_⟩ <;> simp [World.cell?, h]
set_option maxHeartbeats 8000000 in
theorem rRecords_any (t : Tp.Tr) (ta ca ea : Option Addr) (tc cc ec : Nat) (w : World) {B : Nat} (h : TrS B w ta ca ea tc cc ec t) (hB : B ≤ w.heap.size) (hr : RgT t) (m1 : t.ticks.length ≤ 3000) (m3 : t.events.length ≤ 3000) :
    Calls Try.prog 20 #[trV ta ca ea tc cc ec t] w (PuQ w w.heap.size (Tp.recs t.events t.ticks t.counts 0)) := by
  obtain ⟨i0, hi, hz0, hz1, hz2⟩ := infoB'
  unfold trV
  have hcl := hr.c
  rw [hcl]
  obtain ⟨n1, hn1⟩ : ∃ n, n = t.ticks.length := ⟨_, rfl⟩
  obtain ⟨n3, hn3⟩ : ∃ n, n = t.events.length := ⟨_, rfl⟩
  have HN : Hid (n1 = t.ticks.length ∧ n3 = t.events.length ∧ t.counts.length = n1 ∧ n1 ≤ 3000 ∧ n3 ≤ 3000) := ⟨hn1, hn3, by rw [hcl, hn1], by omega, by omega⟩
  rw [← hn1, ← hn3]
  obtain ⟨M, hM⟩ : ∃ M, M = w.heap.size := ⟨_, rfl⟩
  obtain ⟨W0, hW0⟩ : ∃ W, W = w.alloc (.cells #[.slice ta n1 tc, .slice ca n1 cc, .slice ea n3 ec] 26) := ⟨_, rfl⟩
  have K0 : Hid (Below w.heap.size w W0) := by rw [hW0]; exact (Below.refl _ _).alloc (Nat.le_refl _) _
  obtain ⟨S, hS⟩ : ∃ S, S = W0.heap.size := ⟨_, rfl⟩
  have HC : Hid (∀ W, Below S W0 W → W.cell? ⟨M, 0, none⟩ = some (.slice ta n1 tc) ∧ W.cell? ⟨M, 1, none⟩ = some (.slice ca n1 cc) ∧ W.cell? ⟨M, 2, none⟩ = some (.slice ea n3 ec)) := fun W q => by
    rw [hS] at q
    refine box3T W _ _ _ 26 ?_
    rw [q.block M (by rw [hW0, hM]; simp), hW0, hM]
    exact heap_alloc_new w _
  have UP : Hid (∀ W, Below S W0 W → Below w.heap.size w W) := fun W q => by rw [hS] at q; exact belTo K0.out q
  have HT : Hid (∀ W, Below S W0 W → TrS S W ta ca ea tc cc ec t) := fun W q => (h.later (UP.out W q) hB).mono (by rw [hS]; exact Nat.le_trans hB K0.out.size)
  have HRG := hidT hr
  obtain ⟨T, hT⟩ : ∃ T, T = Tp.recs t.events t.ticks t.counts 0 := ⟨_, rfl⟩
  have TL : Hid (T.length ≤ 4000000) := by
    have := Tp.recs_len2 t.events t.ticks t.counts 0 hr.k
    unfold Hid
    rw [hT]
    omega
  have ST0 : Hid ((OwB W0 S (.slice none 0 0) [] ∧ Below S W0 W0) ∧ [] ++ Tp.recs t.events (t.ticks.drop 0) (t.counts.drop 0) ((0 : Nat) : Nat) = T ∧ Tp.okC n3 ((0 : Nat) : Int) (t.counts.drop 0) = true) := ⟨⟨World.ownsRow_nil _ _ _ _, Below.refl _ _⟩, hT.symm, by rw [hn3]; exact hr.k⟩
  have SW : Hid (w.heap.size ≤ S) := by rw [hS]; exact K0.out.size
  rw [← hT]
  have HM := hidT hM
  have HW0 := hidT hW0
  have HS := hidT hS
  obtain ⟨a0, a1, a2⟩ := HC.out W0 (Below.refl _ _)
  clear h hB hr m1 m3 hcl hn1 hn3 hM hW0 hS hT
  go_enter Try.func20, Try.ntmps20
  go_upto_region 1 with fail
  rw [← HW0.out, ← HM.out]
  clear a0 a1 a2
  go_wp2_with fail
  go_loopg [3, 4, 5] n1 (fun gk y3 y4 y5 wr => ∃ (j told : Nat) (L : List Int), j + gk = n1 ∧ y5 = .int .i64 j ∧ y4 = .int .i64 told ∧ told ≤ n3 ∧ Hid ((OwB wr S y3 L ∧ Below S W0 wr) ∧ L ++ Tp.recs t.events (t.ticks.drop j) (t.counts.drop j) told = T ∧ Tp.okC n3 (told : Int) (t.counts.drop j) = true))
  case atStart => exact ⟨0, 0, [], Nat.zero_add _, rfl, rfl, Nat.zero_le _, ST0.out⟩
  case round =>
    obtain ⟨j, told, L, hj, rfl, rfl, htd, RR⟩ := hrel
    have LB : Hid (L.length ≤ 4000000) := by
      have h := TL.out
      rw [← RR.out.2.1, List.length_append] at h
      unfold Hid
      omega
    obtain ⟨a0, a1, a2⟩ := HC.out wr RR.out.1.2
    rcases gk with _ | gO
    · obtain rfl : j = n1 := by omega
      have dk : decide ((j : Int) < (j : Int)) = false := decide_eq_false (Int.lt_irrefl _)
      have EQT : Hid (L ++ Tp.evs (t.events.drop told) = T) := by
        have h := RR.out.2.1
        rw [List.drop_eq_nil_of_le (show t.ticks.length ≤ j by rw [← HN.out.1]; exact Nat.le_refl _)] at h
        rw [← h]
        unfold Hid
        cases t.counts.drop j <;> rfl
      obtain ⟨g0, hg0⟩ : ∃ g, told + g = n3 := ⟨n3 - told, by omega⟩
      have STA : Hid (told ≤ told ∧ OwB wr S u3 (L ++ Tp.evs ((t.events.drop told).take (told - told))) ∧ Below S W0 wr) := by
        rw [evs_self, List.append_nil]
        exact ⟨Nat.le_refl _, RR.out.1⟩
      clear RR ST0
      go_wp2_with fail
      go_loopg [3, 4] g0 (fun g y3 y4 wz => ∃ d : Nat, d + g = n3 ∧ y4 = .int .i64 d ∧ Hid (told ≤ d ∧ OwB wz S y3 (L ++ Tp.evs ((t.events.drop told).take (d - told))) ∧ Below S W0 wz))
      case atStart => exact ⟨told, hg0, rfl, STA.out⟩
      case round =>
        obtain ⟨d, hd, rfl, QR⟩ := hrel
        clear a0 a1 a2
        obtain ⟨a0, a1, a2⟩ := HC.out wr QR.out.2.2
        rcases gk with _ | gI
        · obtain rfl : d = n3 := hd
          have dd : decide ((d : Int) < (d : Int)) = false := decide_eq_false (Int.lt_irrefl _)
          have FIN : Hid (OwB wr w.heap.size u3 T ∧ Below w.heap.size w wr) := by
            have h := QR.out.2.1
            rw [List.take_of_length_le (by rw [List.length_drop, ← HN.out.2.1]; exact Nat.le_refl _), EQT.out] at h
            exact ⟨World.ownsRow.mono h SW.out, UP.out wr QR.out.2.2⟩
          clear QR STA
          go_wp2_with fail
          go_ret
          exact ⟨_, rfl, FIN.out⟩
        · have hdl : d < n3 := by omega
          have hdn : d < n3 := hdl
          have dd : decide ((d : Int) < (n3 : Int)) = true := decide_eq_true (Int.ofNat_lt.2 hdl)
          have dd2 : decide (d < n3) = true := decide_eq_true hdl
          have di0 : (0 : Int) ≤ (d : Int) := Int.natCast_nonneg _
          have di1 : (d : Int) < (n3 : Int) := Int.ofNat_lt.2 hdn
          obtain ⟨e, he⟩ : ∃ e, t.events[d]? = some e := ⟨_, List.getElem?_eq_getElem (by rw [← HN.out.2.1]; exact hdn)⟩
          have tr := HT.out wr QR.out.2.2
          obtain ⟨ge, oe, rfl, -, ce⟩ := tr.ev (by rw [← HN.out.2.1]; exact Nat.lt_of_le_of_lt (Nat.zero_le _) hdn)
          obtain ⟨x0, x1⟩ := ce d e he
          have hem := List.mem_of_getElem? he
          have EV := hidT (revent_any e (HRG.out.e e hem) (tr.re e hem).2 wr)
          have SN := hidT (evs_snoc QR.out.1 he)
          have WD := hidT (wrT d (by have := HN.out; omega))
          obtain ⟨LL, hLL⟩ : ∃ LL, LL = L ++ Tp.evs ((t.events.drop told).take (d - told)) := ⟨_, rfl⟩
          have LLB : Hid (LL.length ≤ 5000000) := by
            have h1 := LB.out
            have h2 := evs_bd t.events told d (by have := HN.out; omega)
            unfold Hid
            rw [hLL, List.length_append]
            omega
          have OWL : Hid (OwB wr S u3 LL ∧ Below S W0 wr) := by rw [hLL]; exact QR.out.2
          have SN2 : Hid (L ++ Tp.evs ((t.events.drop told).take (d + 1 - told)) = LL ++ Tp.evB e) := by unfold Hid; rw [SN.out, hLL, List.append_assoc]
          have SWR : Hid (S ≤ wr.heap.size) := by have := QR.out.2.2; rw [HS.out] at this ⊢; exact this.size
          have TLE : Hid (told ≤ d + 1) := Nat.le_succ_of_le QR.out.1
          obtain ⟨EB, hEB⟩ : ∃ EB, EB = Tp.evB e := ⟨_, rfl⟩
          have EBL : Hid (0 < EB.length ∧ EB.length ≤ 11) := by rw [hEB]; exact ⟨evB_pos e, Tp.evB_len e⟩
          rw [← hEB] at EV SN2
          generalize e.kind = ek at *
          generalize e.n = en at *
          clear he hem ce tr QR STA SN hLL hEB
          go_wp2_with fail
          refine EV.out.mono ?_
          rintro e9 w3 ⟨v3, rfl, O3, K3⟩
          obtain ⟨g3, c3, hv3, hg3, hg3', hc3⟩ := OwB.at' O3 EBL.out.1
          subst hv3
          have HC3 := hidT hc3
          have HO3 := hidT (ownLtT OWL.out.1 K3)
          have HK3 : Hid (Below S W0 w3 ∧ S ≤ w3.heap.size) := ⟨OWL.out.2.trans (K3.mono SWR.out), Nat.le_trans SWR.out K3.size⟩
          have H63 : Hid (LL.length + EB.length ≤ maxLen ∧ (LL.length + EB.length + (LL.length + EB.length) / 4 + 192) * 1 ≤ 281474976710656) := OwB.len63 (by have := LLB.out; have := EBL.out; omega)
          clear O3 K3 hc3 x0 x1 EV
          go_wp2_with (at_builtin; refine wpList_append_own_wide _ rfl _ _ 27 rfl S 5 i0 (.int .u8 0) 1 1 Try.underlying27 hi hz0 hz1 hz2 rfl (by decide) _ _ _ rfl HO3.out ⟨g3, 0, none⟩ EB.length c3 (byC EB) rfl (by rw [byC_len, Nat.mul_one]) HC3.out (byC_one _) H63.out.1 H63.out.2 HK3.out.2 ?_)
          intro v8 w8 h8 g8 o8
          have NX : Hid (told ≤ d + 1 ∧ OwB w8 S v8 (L ++ Tp.evs ((t.events.drop told).take (d + 1 - told))) ∧ Below S W0 w8) := by
            refine ⟨TLE.out, ?_, HK3.out.1.trans (OwB.below' HO3.out HK3.out.2 g8)⟩
            rw [SN2.out]
            exact OwB.of h8 rfl
          clear h8 g8 o8 HO3 HC3
          go_wp2_with fail
          go_roundg gI
          case measure => omega
          case rel => exact ⟨d + 1, by omega, congrArg _ WD.out, NX.out⟩
    · have hjn : j < n1 := by omega
      have dk : decide ((j : Int) < (n1 : Int)) = true := decide_eq_true (Int.ofNat_lt.2 hjn)
      have dk2 : decide (j < n1) = true := decide_eq_true hjn
      have ji0 : (0 : Int) ≤ (j : Int) := Int.natCast_nonneg _
      have ji1 : (j : Int) < (n1 : Int) := Int.ofNat_lt.2 hjn
      obtain ⟨tk, htk⟩ : ∃ x, t.ticks[j]? = some x := ⟨_, List.getElem?_eq_getElem (by rw [← HN.out.1]; exact hjn)⟩
      obtain ⟨cx, hcx⟩ : ∃ x, t.counts[j]? = some x := ⟨_, List.getElem?_eq_getElem (by rw [HN.out.2.2.1]; exact hjn)⟩
      obtain ⟨C, rfl, htC, hCn, hokn, hrec⟩ := recs_at (ev := t.events) htk hcx RR.out.2.2
      have HEQ : Hid ((L ++ Tp.evs ((t.events.drop told).take (C - told))) ++ (Tp.tkB tk ++ Tp.recs t.events (t.ticks.drop (j + 1)) (t.counts.drop (j + 1)) C) = T) := by
        have h := RR.out.2.1
        rw [hrec] at h
        rw [← h]
        exact hidT (by rw [List.append_assoc])
      have HOK := hidT hokn
      have HTK := hidT htk
      have HCX := hidT hcx
      have WJ := hidT (wrT j (by have := HN.out; omega))
      obtain ⟨g0, hg0⟩ : ∃ g, told + g = C := ⟨C - told, by omega⟩
      have STA : Hid (told ≤ told ∧ OwB wr S u3 (L ++ Tp.evs ((t.events.drop told).take (told - told))) ∧ Below S W0 wr) := by
        rw [evs_self, List.append_nil]
        exact ⟨Nat.le_refl _, RR.out.1⟩
      clear RR ST0 hrec hokn htk hcx
      go_wp2_with fail
      go_loopg [3, 4] g0 (fun g y3 y4 wz => ∃ d : Nat, d + g = C ∧ y4 = .int .i64 d ∧ Hid (told ≤ d ∧ OwB wz S y3 (L ++ Tp.evs ((t.events.drop told).take (d - told))) ∧ Below S W0 wz))
      case atStart => exact ⟨told, hg0, rfl, STA.out⟩
      case round =>
        obtain ⟨d, hd, rfl, QR⟩ := hrel
        clear a0 a1 a2
        obtain ⟨a0, a1, a2⟩ := HC.out wr QR.out.2.2
        obtain ⟨gc, oc, rfl, -, cc0⟩ := (HT.out wr QR.out.2.2).ct (by rw [HN.out.2.2.1]; exact Nat.lt_of_le_of_lt (Nat.zero_le _) hjn)
        have dc := cc0 j _ HCX.out
        clear cc0
        rcases gk with _ | gI
        · obtain rfl : d = C := hd
          have dd : decide ((d : Int) < (d : Int)) = false := decide_eq_false (Int.lt_irrefl _)
          obtain ⟨gt, ot, rfl, -, ct⟩ := (HT.out wr QR.out.2.2).tk (by rw [← HN.out.1]; exact Nat.lt_of_le_of_lt (Nat.zero_le _) hjn)
          obtain ⟨k0, k1, k2, k3⟩ := ct j tk HTK.out
          obtain ⟨kb, pb, mb, db⟩ := okT_bd (HRG.out.tt tk (List.mem_of_getElem? HTK.out))
          obtain ⟨PN, hPN⟩ : ∃ n : Nat, tk.proc = n := ⟨tk.proc.toNat, by omega⟩
          obtain ⟨MN, hMN⟩ : ∃ n : Nat, tk.mark = n := ⟨tk.mark.toNat, by omega⟩
          obtain ⟨DN, hDN⟩ : ∃ n : Nat, tk.depth = n := ⟨tk.depth.toNat, by omega⟩
          obtain ⟨KD, hKD⟩ : ∃ x, x = tk.kind := ⟨_, rfl⟩
          have TKB : Hid (Tp.tkB tk = [KD] ++ (Tp.dg PN ++ (Tp.dg MN ++ Tp.dg DN))) := by unfold Hid Tp.tkB; rw [hPN, hMN, hDN, ← hKD]; rfl
          rw [hPN] at k1
          rw [hMN] at k2
          rw [hDN] at k3
          rw [← hKD] at k0 kb
          have kk : KD % 256 = KD := by omega
          have kp : (PN : Int) % 18446744073709551616 = (PN : Int) := by omega
          have km : (MN : Int) % 18446744073709551616 = (MN : Int) := by omega
          have kd : (DN : Int) % 18446744073709551616 = (DN : Int) := by omega
          have CP := hidT (fun W => rCount_any W PN (by omega))
          have CM := hidT (fun W => rCount_any W MN (by omega))
          have CD := hidT (fun W => rCount_any W DN (by omega))
          obtain ⟨LL, hLL⟩ : ∃ LL, LL = L ++ Tp.evs ((t.events.drop told).take (d - told)) := ⟨_, rfl⟩
          have LLB : Hid (LL.length ≤ 5000000) := by
            have h1 := LB.out
            have h2 := evs_bd t.events told d (by have := HN.out; omega)
            unfold Hid
            rw [hLL, List.length_append]
            omega
          have OWL : Hid (OwB wr S u3 LL ∧ Below S W0 wr) := by rw [hLL]; exact QR.out.2
          have HEQ2 : Hid (LL ++ (([KD] ++ (Tp.dg PN ++ (Tp.dg MN ++ Tp.dg DN))) ++ Tp.recs t.events (t.ticks.drop (j + 1)) (t.counts.drop (j + 1)) d) = T) := by have h := HEQ.out; rw [TKB.out, ← hLL] at h; exact h
          have SWR : Hid (S ≤ wr.heap.size) := by have := QR.out.2.2; rw [HS.out] at this ⊢; exact this.size
          obtain ⟨W1, hW1⟩ : ∃ W, W = wr.alloc (.cells #[.int .i64 KD, .int .i64 (PN : Int), .int .i64 (MN : Int), .int .i64 (DN : Int)] 62) := ⟨_, rfl⟩
          obtain ⟨gq, hgq⟩ : ∃ g, g = wr.heap.size := ⟨_, rfl⟩
          have b1 : Below wr.heap.size wr W1 := by rw [hW1]; exact (Below.refl _ _).alloc (Nat.le_refl _) _
          have O1 : Hid (OwB W1 S u3 LL ∧ Below S W0 W1 ∧ S ≤ W1.heap.size) := ⟨ownLtT OWL.out.1 b1, OWL.out.2.trans (b1.mono SWR.out), Nat.le_trans SWR.out b1.size⟩
          have Q1 : Hid (W1.heap[gq]? = some (.cells #[.int .i64 KD, .int .i64 (PN : Int), .int .i64 (MN : Int), .int .i64 (DN : Int)] 62 (0, 0)) ∧ gq < W1.heap.size ∧ some gq ≠ u3.ownBlock) := ⟨by rw [hW1, hgq]; exact heap_alloc_new wr _, by rw [hW1, hgq]; simp, fun e => by have := (World.ownsRow.lt (show wr.ownsRow S _ 1 u3 _ _ from OWL.out.1) _ e.symm).2; omega⟩
          have HW1 := hidT hW1
          have HGQ := hidT hgq
          have H63a : Hid (LL.length + 1 ≤ maxLen ∧ (LL.length + 1) * 1 ≤ 140737488355328) := by have := LLB.out; unfold Hid maxLen; omega
          clear ct kb pb mb db hPN hMN hDN hKD hLL hW1 hgq b1 QR STA HEQ TKB
          go_upto_region 10 with fail
          rw [← HW1.out, ← HGQ.out]
          obtain ⟨q0, q1, q2, q3⟩ := box4T Q1.out.1
          clear k0 k1 k2 k3 dc a0 a1 a2
          go_wp2_with (at_builtin; refine wpList_append_tol rfl _ _ 27 rfl S 5 i0 (.int .u8 0) 1 1 Try.underlying27 hi hz0 hz1 hz2 rfl (by decide) _ _ _ rfl (ownLtT O1.out.1 ((Below.refl _ _).alloc (Nat.le_refl _) _)) ⟨W1.heap.size, 0, none⟩ 1 1 [.int .u8 KD] rfl rfl (one1 _ _ _) (by intro x hx; simp at hx; subst hx; rfl) H63a.out.1 H63a.out.2 (Nat.le_trans O1.out.2.2 ((Below.refl W1.heap.size W1).alloc (Nat.le_refl _) _).size) (by decide) ?_)
          intro v8 w8 h8 g8 o8
          have GG : Gw W1 u3 v8 w8 := Gw.step g8 (by simpa using o8)
          have OX : Hid (OwB w8 S v8 (LL ++ [KD]) ∧ Below S W0 w8 ∧ S ≤ w8.heap.size) := ⟨OwB.of (m := [KD]) h8 rfl, O1.out.2.1.trans (GG.below O1.out.1 O1.out.2.2), Nat.le_trans O1.out.2.2 GG.1.size⟩
          have QX : Hid (w8.heap[gq]? = some (.cells #[.int .i64 KD, .int .i64 (PN : Int), .int .i64 (MN : Int), .int .i64 (DN : Int)] 62 (0, 0)) ∧ gq < w8.heap.size ∧ some gq ≠ v8.ownBlock) := by
            obtain ⟨h1, h2, h3⟩ := GG.keep Q1.out.2.1 Q1.out.2.2
            exact ⟨h1.trans Q1.out.1, h3, h2⟩
          obtain ⟨LA, hLA⟩ : ∃ LA, LA = LL ++ [KD] := ⟨_, rfl⟩
          have LAB : Hid (LA.length ≤ 5000001) := by have := LLB.out; unfold Hid; rw [hLA, List.length_append]; simp; omega
          have EQA : Hid (LA ++ (Tp.dg PN ++ (Tp.dg MN ++ (Tp.dg DN ++ Tp.recs t.events (t.ticks.drop (j + 1)) (t.counts.drop (j + 1)) d))) = T) := by
            rw [← HEQ2.out, hLA]
            exact hidT (by simp only [List.append_assoc])
          rw [← hLA] at OX
          clear h8 g8 o8 GG q0 q1 q2 q3 hLA O1 Q1 OWL HEQ2 kk
          obtain ⟨q0, q1, q2, q3⟩ := box4T QX.out.1
          go_wp2_with fail
          refine (CP.out _).mono ?_
          rintro e9 w3a ⟨v3a, rfl, O3, K3⟩
          obtain ⟨g3a, c3a, hv3, hg3, hg3', hc3⟩ := OwB.at' O3 (dg_pos _)
          subst hv3
          have HC3a := hidT hc3
          have HO3 := hidT (ownLtT OX.out.1 K3)
          have HK3 : Hid (Below S W0 w3a ∧ S ≤ w3a.heap.size) := ⟨OX.out.2.1.trans (K3.mono OX.out.2.2), Nat.le_trans OX.out.2.2 K3.size⟩
          have HQ3 : Hid (w3a.heap[gq]? = some (.cells #[.int .i64 KD, .int .i64 (PN : Int), .int .i64 (MN : Int), .int .i64 (DN : Int)] 62 (0, 0)) ∧ gq < w3a.heap.size) := ⟨(K3.block gq QX.out.2.1).trans QX.out.1, Nat.lt_of_lt_of_le QX.out.2.1 K3.size⟩
          have H63 : Hid (LA.length + (Tp.dg PN).length ≤ maxLen ∧ (LA.length + (Tp.dg PN).length) * 1 ≤ 140737488355328) := by have := LAB.out; have := Tp.dg_len PN; unfold Hid maxLen; omega
          clear O3 K3 hc3 q0 q1 q2 q3
          go_wp2_with (at_builtin; refine wpList_append_tol rfl _ _ 27 rfl S 5 i0 (.int .u8 0) 1 1 Try.underlying27 hi hz0 hz1 hz2 rfl (by decide) _ _ _ rfl HO3.out ⟨g3a, 0, none⟩ (Tp.dg PN).length c3a (byC (Tp.dg PN)) rfl (by rw [byC_len, Nat.mul_one]) HC3a.out (byC_one _) H63.out.1 H63.out.2 HK3.out.2 (dg_pos _) ?_)
          intro va vaw h8 g8 o8
          have GG : Gw w3a v8 va vaw := ⟨g8, o8⟩
          have Ova : Hid (OwB vaw S va (LA ++ Tp.dg PN) ∧ Below S W0 vaw ∧ S ≤ vaw.heap.size) := ⟨OwB.of h8 rfl, HK3.out.1.trans (GG.below HO3.out HK3.out.2), Nat.le_trans HK3.out.2 GG.1.size⟩
          have Qva : Hid (vaw.heap[gq]? = some (.cells #[.int .i64 KD, .int .i64 (PN : Int), .int .i64 (MN : Int), .int .i64 (DN : Int)] 62 (0, 0)) ∧ gq < vaw.heap.size ∧ some gq ≠ va.ownBlock) := by
            obtain ⟨h1, h2, h3⟩ := GG.keep HQ3.out.2 QX.out.2.2
            exact ⟨h1.trans HQ3.out.1, h3, h2⟩
          obtain ⟨Lva, hL⟩ : ∃ LZ, LZ = LA ++ Tp.dg PN := ⟨_, rfl⟩
          have Bva : Hid (Lva.length ≤ 5000011) := by have := LAB.out; have := Tp.dg_len PN; unfold Hid; rw [hL, List.length_append]; omega
          have Eva : Hid (Lva ++ (Tp.dg MN ++ (Tp.dg DN ++ Tp.recs t.events (t.ticks.drop (j + 1)) (t.counts.drop (j + 1)) d)) = T) := by
            rw [← EQA.out, hL]
            exact hidT (by simp only [List.append_assoc])
          rw [← hL] at Ova
          clear h8 g8 o8 GG hL HO3 HC3a OX QX EQA HK3 HQ3 H63
          obtain ⟨q0, q1, q2, q3⟩ := box4T Qva.out.1
          go_wp2_with fail
          refine (CM.out _).mono ?_
          rintro e9 w3b ⟨v3b, rfl, O3, K3⟩
          obtain ⟨g3b, c3b, hv3, hg3, hg3', hc3⟩ := OwB.at' O3 (dg_pos _)
          subst hv3
          have HC3b := hidT hc3
          have HO3 := hidT (ownLtT Ova.out.1 K3)
          have HK3 : Hid (Below S W0 w3b ∧ S ≤ w3b.heap.size) := ⟨Ova.out.2.1.trans (K3.mono Ova.out.2.2), Nat.le_trans Ova.out.2.2 K3.size⟩
          have HQ3 : Hid (w3b.heap[gq]? = some (.cells #[.int .i64 KD, .int .i64 (PN : Int), .int .i64 (MN : Int), .int .i64 (DN : Int)] 62 (0, 0)) ∧ gq < w3b.heap.size) := ⟨(K3.block gq Qva.out.2.1).trans Qva.out.1, Nat.lt_of_lt_of_le Qva.out.2.1 K3.size⟩
          have H63 : Hid (Lva.length + (Tp.dg MN).length ≤ maxLen ∧ (Lva.length + (Tp.dg MN).length) * 1 ≤ 140737488355328) := by have := Bva.out; have := Tp.dg_len MN; unfold Hid maxLen; omega
          clear O3 K3 hc3 q0 q1 q2 q3
          go_wp2_with (at_builtin; refine wpList_append_tol rfl _ _ 27 rfl S 5 i0 (.int .u8 0) 1 1 Try.underlying27 hi hz0 hz1 hz2 rfl (by decide) _ _ _ rfl HO3.out ⟨g3b, 0, none⟩ (Tp.dg MN).length c3b (byC (Tp.dg MN)) rfl (by rw [byC_len, Nat.mul_one]) HC3b.out (byC_one _) H63.out.1 H63.out.2 HK3.out.2 (dg_pos _) ?_)
          intro vb vbw h8 g8 o8
          have GG : Gw w3b va vb vbw := ⟨g8, o8⟩
          have Ovb : Hid (OwB vbw S vb (Lva ++ Tp.dg MN) ∧ Below S W0 vbw ∧ S ≤ vbw.heap.size) := ⟨OwB.of h8 rfl, HK3.out.1.trans (GG.below HO3.out HK3.out.2), Nat.le_trans HK3.out.2 GG.1.size⟩
          have Qvb : Hid (vbw.heap[gq]? = some (.cells #[.int .i64 KD, .int .i64 (PN : Int), .int .i64 (MN : Int), .int .i64 (DN : Int)] 62 (0, 0)) ∧ gq < vbw.heap.size ∧ some gq ≠ vb.ownBlock) := by
            obtain ⟨h1, h2, h3⟩ := GG.keep HQ3.out.2 Qva.out.2.2
            exact ⟨h1.trans HQ3.out.1, h3, h2⟩
          obtain ⟨Lvb, hL⟩ : ∃ LZ, LZ = Lva ++ Tp.dg MN := ⟨_, rfl⟩
          have Bvb : Hid (Lvb.length ≤ 5000021) := by have := Bva.out; have := Tp.dg_len MN; unfold Hid; rw [hL, List.length_append]; omega
          have Evb : Hid (Lvb ++ (Tp.dg DN ++ Tp.recs t.events (t.ticks.drop (j + 1)) (t.counts.drop (j + 1)) d) = T) := by
            rw [← Eva.out, hL]
            exact hidT (by simp only [List.append_assoc])
          rw [← hL] at Ovb
          clear h8 g8 o8 GG hL HO3 HC3b Ova Qva Eva HK3 HQ3 H63
          obtain ⟨q0, q1, q2, q3⟩ := box4T Qvb.out.1
          go_wp2_with fail
          refine (CD.out _).mono ?_
          rintro e9 w3c ⟨v3c, rfl, O3, K3⟩
          obtain ⟨g3c, c3c, hv3, hg3, hg3', hc3⟩ := OwB.at' O3 (dg_pos _)
          subst hv3
          have HC3c := hidT hc3
          have HO3 := hidT (ownLtT Ovb.out.1 K3)
          have HK3 : Hid (Below S W0 w3c ∧ S ≤ w3c.heap.size) := ⟨Ovb.out.2.1.trans (K3.mono Ovb.out.2.2), Nat.le_trans Ovb.out.2.2 K3.size⟩
          have HQ3 : Hid (w3c.heap[gq]? = some (.cells #[.int .i64 KD, .int .i64 (PN : Int), .int .i64 (MN : Int), .int .i64 (DN : Int)] 62 (0, 0)) ∧ gq < w3c.heap.size) := ⟨(K3.block gq Qvb.out.2.1).trans Qvb.out.1, Nat.lt_of_lt_of_le Qvb.out.2.1 K3.size⟩
          have H63 : Hid (Lvb.length + (Tp.dg DN).length ≤ maxLen ∧ (Lvb.length + (Tp.dg DN).length) * 1 ≤ 140737488355328) := by have := Bvb.out; have := Tp.dg_len DN; unfold Hid maxLen; omega
          clear O3 K3 hc3 q0 q1 q2 q3
          go_wp2_with (at_builtin; refine wpList_append_tol rfl _ _ 27 rfl S 5 i0 (.int .u8 0) 1 1 Try.underlying27 hi hz0 hz1 hz2 rfl (by decide) _ _ _ rfl HO3.out ⟨g3c, 0, none⟩ (Tp.dg DN).length c3c (byC (Tp.dg DN)) rfl (by rw [byC_len, Nat.mul_one]) HC3c.out (byC_one _) H63.out.1 H63.out.2 HK3.out.2 (dg_pos _) ?_)
          intro vc vcw h8 g8 o8
          have GG : Gw w3c vb vc vcw := ⟨g8, o8⟩
          have Ovc : Hid (OwB vcw S vc (Lvb ++ Tp.dg DN) ∧ Below S W0 vcw ∧ S ≤ vcw.heap.size) := ⟨OwB.of h8 rfl, HK3.out.1.trans (GG.below HO3.out HK3.out.2), Nat.le_trans HK3.out.2 GG.1.size⟩
          have Qvc : Hid (vcw.heap[gq]? = some (.cells #[.int .i64 KD, .int .i64 (PN : Int), .int .i64 (MN : Int), .int .i64 (DN : Int)] 62 (0, 0)) ∧ gq < vcw.heap.size ∧ some gq ≠ vc.ownBlock) := by
            obtain ⟨h1, h2, h3⟩ := GG.keep HQ3.out.2 Qvb.out.2.2
            exact ⟨h1.trans HQ3.out.1, h3, h2⟩
          obtain ⟨Lvc, hL⟩ : ∃ LZ, LZ = Lvb ++ Tp.dg DN := ⟨_, rfl⟩
          have Bvc : Hid (Lvc.length ≤ 5000031) := by have := Bvb.out; have := Tp.dg_len DN; unfold Hid; rw [hL, List.length_append]; omega
          have Evc : Hid (Lvc ++ (Tp.recs t.events (t.ticks.drop (j + 1)) (t.counts.drop (j + 1)) d) = T) := by
            rw [← Evb.out, hL]
            exact hidT (by simp only [List.append_assoc])
          rw [← hL] at Ovc
          clear h8 g8 o8 GG hL HO3 HC3c Ovb Qvb Evb HK3 HQ3 H63
          go_wp2_with fail
          go_roundg gO
          case measure => omega
          case rel => exact ⟨j + 1, d, Lvc, by omega, congrArg _ WJ.out, rfl, hCn, ⟨⟨Ovc.out.1, Ovc.out.2.1⟩, Evc.out, HOK.out⟩⟩
        · have hdl : d < C := by omega
          have hdn : d < n3 := Nat.lt_of_lt_of_le hdl hCn
          have dd : decide ((d : Int) < (C : Int)) = true := decide_eq_true (Int.ofNat_lt.2 hdl)
          have dd2 : decide (d < C) = true := decide_eq_true hdl
          have di0 : (0 : Int) ≤ (d : Int) := Int.natCast_nonneg _
          have di1 : (d : Int) < (n3 : Int) := Int.ofNat_lt.2 hdn
          obtain ⟨e, he⟩ : ∃ e, t.events[d]? = some e := ⟨_, List.getElem?_eq_getElem (by rw [← HN.out.2.1]; exact hdn)⟩
          have tr := HT.out wr QR.out.2.2
          obtain ⟨ge, oe, rfl, -, ce⟩ := tr.ev (by rw [← HN.out.2.1]; exact Nat.lt_of_le_of_lt (Nat.zero_le _) hdn)
          obtain ⟨x0, x1⟩ := ce d e he
          have hem := List.mem_of_getElem? he
          have EV := hidT (revent_any e (HRG.out.e e hem) (tr.re e hem).2 wr)
          have SN := hidT (evs_snoc QR.out.1 he)
          have WD := hidT (wrT d (by have := HN.out; omega))
          obtain ⟨LL, hLL⟩ : ∃ LL, LL = L ++ Tp.evs ((t.events.drop told).take (d - told)) := ⟨_, rfl⟩
          have LLB : Hid (LL.length ≤ 5000000) := by
            have h1 := LB.out
            have h2 := evs_bd t.events told d (by have := HN.out; omega)
            unfold Hid
            rw [hLL, List.length_append]
            omega
          have OWL : Hid (OwB wr S u3 LL ∧ Below S W0 wr) := by rw [hLL]; exact QR.out.2
          have SN2 : Hid (L ++ Tp.evs ((t.events.drop told).take (d + 1 - told)) = LL ++ Tp.evB e) := by unfold Hid; rw [SN.out, hLL, List.append_assoc]
          have SWR : Hid (S ≤ wr.heap.size) := by have := QR.out.2.2; rw [HS.out] at this ⊢; exact this.size
          have TLE : Hid (told ≤ d + 1) := Nat.le_succ_of_le QR.out.1
          obtain ⟨EB, hEB⟩ : ∃ EB, EB = Tp.evB e := ⟨_, rfl⟩
          have EBL : Hid (0 < EB.length ∧ EB.length ≤ 11) := by rw [hEB]; exact ⟨evB_pos e, Tp.evB_len e⟩
          rw [← hEB] at EV SN2
          generalize e.kind = ek at *
          generalize e.n = en at *
          clear he hem ce tr QR STA SN hLL hEB
          go_wp2_with fail
          refine EV.out.mono ?_
          rintro e9 w3 ⟨v3, rfl, O3, K3⟩
          obtain ⟨g3, c3, hv3, hg3, hg3', hc3⟩ := OwB.at' O3 EBL.out.1
          subst hv3
          have HC3 := hidT hc3
          have HO3 := hidT (ownLtT OWL.out.1 K3)
          have HK3 : Hid (Below S W0 w3 ∧ S ≤ w3.heap.size) := ⟨OWL.out.2.trans (K3.mono SWR.out), Nat.le_trans SWR.out K3.size⟩
          have H63 : Hid (LL.length + EB.length ≤ maxLen ∧ (LL.length + EB.length + (LL.length + EB.length) / 4 + 192) * 1 ≤ 281474976710656) := OwB.len63 (by have := LLB.out; have := EBL.out; omega)
          clear O3 K3 hc3 x0 x1 EV
          go_wp2_with (at_builtin; refine wpList_append_own_wide _ rfl _ _ 27 rfl S 5 i0 (.int .u8 0) 1 1 Try.underlying27 hi hz0 hz1 hz2 rfl (by decide) _ _ _ rfl HO3.out ⟨g3, 0, none⟩ EB.length c3 (byC EB) rfl (by rw [byC_len, Nat.mul_one]) HC3.out (byC_one _) H63.out.1 H63.out.2 HK3.out.2 ?_)
          intro v8 w8 h8 g8 o8
          have NX : Hid (told ≤ d + 1 ∧ OwB w8 S v8 (L ++ Tp.evs ((t.events.drop told).take (d + 1 - told))) ∧ Below S W0 w8) := by
            refine ⟨TLE.out, ?_, HK3.out.1.trans (OwB.below' HO3.out HK3.out.2 g8)⟩
            rw [SN2.out]
            exact OwB.of h8 rfl
          clear h8 g8 o8 HO3 HC3
          go_wp2_with fail
          go_roundg gI
          case measure => omega
          case rel => exact ⟨d + 1, by omega, congrArg _ WD.out, NX.out⟩
end Go.Proofs.Ytneefpblfiedbaa

namespace Go.Proofs.Ytneefpblfiedbaa
open Go.RowKit
set_option linter.unusedVariables false
set_option linter.unusedSimpArgs false
set_option maxRecDepth 100000
theorem rfits13_any (n least : Int) (w : World) : Calls Try.prog 47 #[.int .i64 n, .int .i64 least] w fun e w' => e = .returned (.bool (Tp.bet least n 2147483647)) ∧ w' = w := by
  have hb : Tp.bet least n 2147483647 = (decide (least ≤ n) && decide (n ≤ 2147483647)) := by
    unfold Tp.bet
    by_cases h1 : least ≤ n <;> by_cases h2 : n ≤ 2147483647 <;> simp [h1, h2]
  rw [hb]
  obtain ⟨q1, h1⟩ : ∃ q, decide (least ≤ n) = q := ⟨_, rfl⟩
  obtain ⟨q2, h2⟩ : ∃ q, decide (n ≤ 2147483647) = q := ⟨_, rfl⟩
  rw [h1, h2]
  clear hb
  cases q1
  · go_enter Try.func47, Try.ntmps47
    go_wp2_with fail
    go_ret
    exact ⟨rfl, rfl⟩
  cases q2
  · go_enter Try.func47, Try.ntmps47
    go_wp2_with fail
    go_ret
    exact ⟨rfl, rfl⟩
  · go_enter Try.func47, Try.ntmps47
    go_wp2_with fail
    go_ret
    exact ⟨rfl, rfl⟩
/-- What is left to be looked at. -/
def Rgt (t : Tp.Tr) (i : Nat) (told : Int) : Bool := Tp.okC t.events.length told (t.counts.drop i) && ((t.ticks.drop i).all Tp.okT && t.events.all Tp.okE)
theorem rgt_step {t : Tp.Tr} {i : Nat} {told c : Int} {x : Tp.Tk} (hx : t.ticks[i]? = some x) (hc : t.counts[i]? = some c) : Rgt t i told = ((Tp.okT x && (!decide (c < told) && !decide ((t.events.length : Int) < c))) && Rgt t (i + 1) c) := by
  unfold Rgt
  rw [drop_getT hx, drop_getT hc, List.all_cons, Tp.okC]
  by_cases h1 : c < told
  · simp [h1]
  · by_cases h2 : (t.events.length : Int) < c
    · simp [h1, h2]
    · simp only [h1, h2, or_self, if_false, decide_false, Bool.not_false, Bool.and_true]
      cases Tp.okT x <;> cases Tp.okC (↑t.events.length) c (t.counts.drop (i + 1)) <;> simp
theorem okT_bools (x : Tp.Tk) : Tp.okT x = ((!decide (x.kind < 1) && !decide (3 < x.kind)) && (Tp.bet 0 x.proc 2147483647 && (Tp.bet 0 x.mark 2147483647 && Tp.bet 1 x.depth 2147483647))) := by
  unfold Tp.okT
  congr 1
  unfold Tp.bet
  by_cases h1 : x.kind < 1
  · have : ¬ 1 ≤ x.kind := by omega
    simp [h1, this]
  · by_cases h2 : 3 < x.kind
    · have : ¬ x.kind ≤ 3 := by omega
      simp [h2, this]
    · have a : 1 ≤ x.kind := by omega
      have b : x.kind ≤ 3 := by omega
      simp [h1, h2, a, b]
theorem okE_bools (e : Tp.Ev) : Tp.okE e = ((!decide (e.kind < 1) && !decide (5 < e.kind)) && (Tp.hasN e.kind || (e.n == 0))) := by
  unfold Tp.okE
  congr 1
  unfold Tp.bet
  by_cases h1 : e.kind < 1
  · have : ¬ 1 ≤ e.kind := by omega
    simp [h1, this]
  · by_cases h2 : 5 < e.kind
    · have : ¬ e.kind ≤ 5 := by omega
      simp [h2, this]
    · have a : 1 ≤ e.kind := by omega
      have b : e.kind ≤ 5 := by omega
      simp [h1, h2, a, b]
end Go.Proofs.Ytneefpblfiedbaa

namespace Go.Proofs.Ytneefpblfiedbaa
open Go.RowKit
set_option linter.unusedVariables false
set_option linter.unusedSimpArgs false
set_option maxRecDepth 100000
def SMt (w w' : World) : Prop := w'.os = w.os ∧ w'.tape = w.tape ∧ w'.output = w.output ∧ w'.heap = w.heap
theorem SMt.below {w w' : World} (h : SMt w w') (B : Nat) : Below B w w' := ⟨h.1, h.2.1, h.2.2.1, by rw [h.2.2.2]; exact Nat.le_refl _, fun i _ => by rw [h.2.2.2]⟩
set_option maxHeartbeats 8000000 in
theorem rRight_any (t : Tp.Tr) (ta ca ea : Option Addr) (tc cc ec : Nat) (w : World) {B : Nat} (h : TrS B w ta ca ea tc cc ec t) (hB : B ≤ w.heap.size) (m1 : t.ticks.length ≤ 3000) (m2 : t.counts.length ≤ 3000) (m3 : t.events.length ≤ 3000) :
    Calls Try.prog 27 #[trV ta ca ea tc cc ec t] w fun e w' => e = .returned (.bool (Tp.rightT t)) ∧ Below w.heap.size w w' := by
  unfold trV
  obtain ⟨n1, hn1⟩ : ∃ n, n = t.ticks.length := ⟨_, rfl⟩
  obtain ⟨n2, hn2⟩ : ∃ n, n = t.counts.length := ⟨_, rfl⟩
  obtain ⟨n3, hn3⟩ : ∃ n, n = t.events.length := ⟨_, rfl⟩
  have HN : Hid (n1 = t.ticks.length ∧ n2 = t.counts.length ∧ n3 = t.events.length ∧ n1 ≤ 3000 ∧ n2 ≤ 3000 ∧ n3 ≤ 3000) := ⟨hn1, hn2, hn3, by omega, by omega, by omega⟩
  rw [← hn1, ← hn2, ← hn3]
  obtain ⟨M, hM⟩ : ∃ M, M = w.heap.size := ⟨_, rfl⟩
  obtain ⟨W0, hW0⟩ : ∃ W, W = w.alloc (.cells #[.slice ta n1 tc, .slice ca n2 cc, .slice ea n3 ec] 26) := ⟨_, rfl⟩
  have K0 : Hid (Below w.heap.size w W0) := by rw [hW0]; exact (Below.refl _ _).alloc (Nat.le_refl _) _
  obtain ⟨S, hS⟩ : ∃ S, S = W0.heap.size := ⟨_, rfl⟩
  have HC : Hid (∀ W, Below S W0 W → W.cell? ⟨M, 0, none⟩ = some (.slice ta n1 tc) ∧ W.cell? ⟨M, 1, none⟩ = some (.slice ca n2 cc) ∧ W.cell? ⟨M, 2, none⟩ = some (.slice ea n3 ec)) := fun W q => by
    rw [hS] at q
    refine box3T W _ _ _ 26 ?_
    rw [q.block M (by rw [hW0, hM]; simp), hW0, hM]
    exact heap_alloc_new w _
  have UP : Hid (∀ W, Below S W0 W → Below w.heap.size w W) := fun W q => by rw [hS] at q; exact belTo K0.out q
  have HT : Hid (∀ W, Below S W0 W → TrS S W ta ca ea tc cc ec t) := fun W q => (h.later (UP.out W q) hB).mono (by rw [hS]; exact Nat.le_trans hB K0.out.size)
  have R0 : Hid (Below S W0 W0) := Below.refl _ _
  obtain ⟨RT, hRT⟩ : ∃ R, R = Tp.rightT t := ⟨_, rfl⟩
  have HR0 : Hid (¬ n1 = n2 → RT = false) := fun hne => by
    rw [hRT]
    unfold Tp.rightT
    rw [decide_eq_false (fun e => hne (by rw [hn1, hn2, e]))]
    rfl
  have HR1 : Hid (n1 = n2 → RT = Rgt t 0 ((0 : Nat) : Int)) := fun he => by
    rw [hRT]
    unfold Tp.rightT Rgt
    rw [decide_eq_true (show t.counts.length = t.ticks.length by rw [← hn1, ← hn2, he])]
    rfl
  rw [← hRT]
  have HM := hidT hM
  have HW0 := hidT hW0
  have HS := hidT hS
  obtain ⟨a0, a1, a2⟩ := HC.out W0 R0.out
  have f1 : decide ((1048576 : Int) < (n1 : Int)) = false := decide_eq_false (by omega)
  have f3 : decide ((1048576 : Int) < (n3 : Int)) = false := decide_eq_false (by omega)
  clear h hB m1 m2 m3 hn1 hn2 hn3 hM hW0 hS hRT
  by_cases hne : n1 = n2
  case neg =>
    have q : ((n1 : Int) != (n2 : Int)) = true := by simp; omega
    have FIN := hidT (HR0.out hne)
    have UPF := hidT (UP.out W0 R0.out)
    clear hne
    go_enter Try.func27, Try.ntmps27
    go_upto_region 1 with fail
    rw [← HW0.out, ← HM.out]
    go_wp2_with fail
    go_ret
    exact ⟨by rw [FIN.out]; rfl, UPF.out⟩
  case pos =>
    subst hne
    have q : ((n1 : Int) != (n1 : Int)) = false := by simp
    have HR := hidT (HR1.out rfl)
    clear HR0 HR1
    go_enter Try.func27, Try.ntmps27
    go_upto_region 1 with fail
    rw [← HW0.out, ← HM.out]
    go_upto_region 3 with fail
    clear a0 a1 a2
    go_wp2_with fail
    go_loopg [3] n1 (fun gk y3 wr => ∃ (i : Nat) (told : Nat), i + gk = n1 ∧ y3 = .int .i64 i ∧ Hid (Below S W0 wr ∧ RT = Rgt t i (told : Int) ∧ told ≤ n3 ∧ ((i = 0 ∧ told = 0) ∨ (0 < i ∧ t.counts[i - 1]? = some (told : Int)))))
    case atStart => exact ⟨0, 0, Nat.zero_add _, rfl, R0.out, HR.out, Nat.zero_le _, .inl ⟨rfl, rfl⟩⟩
    case round =>
      obtain ⟨i, told, hi, rfl, RR⟩ := hrel
      obtain ⟨a0, a1, a2⟩ := HC.out wr RR.out.1
      rcases gk with _ | gO
      · obtain rfl : i = n1 := by omega
        have dk : decide ((i : Int) < (i : Int)) = false := decide_eq_false (Int.lt_irrefl _)
        have HE : Hid (RT = (t.events.drop 0).all Tp.okE) := by
          unfold Hid
          rw [RR.out.2.1]
          unfold Rgt
          rw [List.drop_eq_nil_of_le (show t.ticks.length ≤ i by rw [← HN.out.1]; exact Nat.le_refl _), List.drop_eq_nil_of_le (show t.counts.length ≤ i by rw [← HN.out.2.1]; exact Nat.le_refl _)]
          simp [Tp.okC]
        have BR := hidT RR.out.1
        clear RR
        go_wp2_with fail
        go_loopg [6] n3 (fun gk y6 wz => ∃ d : Nat, d + gk = n3 ∧ y6 = .int .i64 d ∧ Hid (Below S W0 wz ∧ RT = (t.events.drop d).all Tp.okE))
        case atStart => exact ⟨0, Nat.zero_add _, rfl, BR.out, HE.out⟩
        case round =>
          obtain ⟨d, hd, rfl, QR⟩ := hrel
          clear a0 a1 a2
          obtain ⟨a0, a1, a2⟩ := HC.out wr QR.out.1
          rcases gk with _ | gI
          · obtain rfl : d = n3 := by omega
            have dd : decide ((d : Int) < (d : Int)) = false := decide_eq_false (Int.lt_irrefl _)
            have FIN : Hid (RT = true ∧ Below w.heap.size w wr) := by
              have h := QR.out.2
              rw [List.drop_eq_nil_of_le (show t.events.length ≤ d by rw [← HN.out.2.2.1]; exact Nat.le_refl _)] at h
              exact ⟨h, UP.out wr QR.out.1⟩
            clear QR
            go_wp2_with fail
            go_ret
            exact ⟨by rw [FIN.out.1]; rfl, FIN.out.2⟩
          · have hdl : d < n3 := by omega
            have dd : decide ((d : Int) < (n3 : Int)) = true := decide_eq_true (Int.ofNat_lt.2 hdl)
            have dd2 : decide (d < n3) = true := decide_eq_true hdl
            have di0 : (0 : Int) ≤ (d : Int) := Int.natCast_nonneg _
            have di1 : (d : Int) < (n3 : Int) := Int.ofNat_lt.2 hdl
            obtain ⟨e, he⟩ : ∃ e, t.events[d]? = some e := ⟨_, List.getElem?_eq_getElem (by rw [← HN.out.2.2.1]; exact hdl)⟩
            obtain ⟨ge, oe, rfl, -, ce⟩ := (HT.out wr QR.out.1).ev (by rw [← HN.out.2.2.1]; exact Nat.lt_of_le_of_lt (Nat.zero_le _) hdl)
            obtain ⟨x0, x1⟩ := ce d e he
            have STEP : Hid (RT = (((!decide (e.kind < 1) && !decide (5 < e.kind)) && (Tp.hasN e.kind || (e.n == 0))) && (t.events.drop (d + 1)).all Tp.okE)) := by
              have h := QR.out.2
              rw [drop_getT he, List.all_cons, okE_bools] at h
              exact h
            have WD := hidT (wrT d (by have := HN.out; omega))
            have SWR : Hid (S ≤ wr.heap.size) := by have := QR.out.1; rw [HS.out] at this ⊢; exact this.size
            obtain ⟨W1, hW1⟩ : ∃ W, W = wr.alloc (.cells #[.int .i64 e.kind, .int .i64 e.n] 69) := ⟨_, rfl⟩
            obtain ⟨gq, hgq⟩ : ∃ g, g = wr.heap.size := ⟨_, rfl⟩
            have b1 : Below wr.heap.size wr W1 := by rw [hW1]; exact (Below.refl _ _).alloc (Nat.le_refl _) _
            have B1 : Hid (Below S W0 W1) := QR.out.1.trans (b1.mono SWR.out)
            have hb : W1.heap[gq]? = some (.cells #[.int .i64 e.kind, .int .i64 e.n] 69 (0, 0)) := by rw [hW1, hgq]; exact heap_alloc_new wr _
            have q0 : W1.cell? ⟨gq, 0, none⟩ = some (.int .i64 e.kind) := by simp [World.cell?, hb]
            have q1 : W1.cell? ⟨gq, 1, none⟩ = some (.int .i64 e.n) := by simp [World.cell?, hb]
            have UPF := hidT (UP.out W1 B1.out)
            have HH := hidT (fun (hk : 1 ≤ e.kind ∧ e.kind ≤ 5) W => rhas_any e.kind hk W)
            obtain ⟨hv, hhv⟩ : ∃ q, q = Tp.hasN e.kind := ⟨_, rfl⟩
            rw [← hhv] at HH STEP
            have HW1 := hidT hW1
            have HGQ := hidT hgq
            generalize e.kind = k at *
            generalize e.n = n at *
            clear he ce QR hW1 hgq b1 hb hhv
            by_cases c1 : k < 1
            · have d1 : decide (k < 1) = true := decide_eq_true c1
              have FIN : Hid (RT = false) := by rw [STEP.out, d1]; exact hidT rfl
              go_upto_region 16 with fail
              rw [← HW1.out, ← HGQ.out]
              clear x0 x1
              go_wp2_with fail
              go_ret
              exact ⟨by rw [FIN.out]; rfl, UPF.out⟩
            have d1 : decide (k < 1) = false := decide_eq_false c1
            by_cases c2 : 5 < k
            · have d2 : decide (5 < k) = true := decide_eq_true c2
              have FIN : Hid (RT = false) := by rw [STEP.out, d2, d1]; exact hidT rfl
              go_upto_region 16 with fail
              rw [← HW1.out, ← HGQ.out]
              clear x0 x1
              go_wp2_with fail
              go_ret
              exact ⟨by rw [FIN.out]; rfl, UPF.out⟩
            have d2 : decide (5 < k) = false := decide_eq_false c2
            have HH1 := hidT (HH.out ⟨by omega, by omega⟩)
            have ST2 : Hid (RT = ((hv || (n == 0)) && (t.events.drop (d + 1)).all Tp.okE)) := by have h := STEP.out; rw [d1, d2] at h; exact h
            clear c1 c2 HH STEP
            cases hv with
            | true =>
              have NX : Hid (Below S W0 W1 ∧ RT = (t.events.drop (d + 1)).all Tp.okE) := ⟨B1.out, ST2.out⟩
              clear ST2
              go_upto_region 16 with fail
              rw [← HW1.out, ← HGQ.out]
              clear x0 x1
              go_wp2_with fail
              refine (HH1.out W1).mono ?_
              rintro e9 w3 ⟨rfl, hw3⟩
              rw [hw3]
              clear hw3
              go_wp2_with fail
              go_roundg gI
              case measure => omega
              case rel => exact ⟨d + 1, by omega, congrArg _ WD.out, NX.out⟩
            | false =>
              by_cases c3 : n = 0
              · have d3 : (n != 0) = false := by simp [c3]
                have NX : Hid (Below S W0 W1 ∧ RT = (t.events.drop (d + 1)).all Tp.okE) := ⟨B1.out, by have h := ST2.out; rw [c3] at h; exact h⟩
                clear ST2 c3
                go_upto_region 16 with fail
                rw [← HW1.out, ← HGQ.out]
                clear x0 x1
                go_wp2_with fail
                refine (HH1.out W1).mono ?_
                rintro e9 w3 ⟨rfl, hw3⟩
                rw [hw3]
                clear hw3
                go_wp2_with fail
                go_roundg gI
                case measure => omega
                case rel => exact ⟨d + 1, by omega, congrArg _ WD.out, NX.out⟩
              · have d3 : (n != 0) = true := by simp [c3]
                have FIN : Hid (RT = false) := by
                  have h := ST2.out
                  rw [show (n == 0) = false by simp [c3]] at h
                  exact h
                clear ST2 c3
                go_upto_region 16 with fail
                rw [← HW1.out, ← HGQ.out]
                clear x0 x1
                go_wp2_with fail
                refine (HH1.out W1).mono ?_
                rintro e9 w3 ⟨rfl, hw3⟩
                rw [hw3]
                clear hw3
                go_wp2_with fail
                go_ret
                exact ⟨by rw [FIN.out]; rfl, UPF.out⟩
      · have hil : i < n1 := by omega
        have dk : decide ((i : Int) < (n1 : Int)) = true := decide_eq_true (Int.ofNat_lt.2 hil)
        have dk2 : decide (i < n1) = true := decide_eq_true hil
        have ii0 : (0 : Int) ≤ (i : Int) := Int.natCast_nonneg _
        have ii1 : (i : Int) < (n1 : Int) := Int.ofNat_lt.2 hil
        obtain ⟨x, hx⟩ : ∃ x, t.ticks[i]? = some x := ⟨_, List.getElem?_eq_getElem (by rw [← HN.out.1]; exact hil)⟩
        obtain ⟨c, hc⟩ : ∃ x, t.counts[i]? = some x := ⟨_, List.getElem?_eq_getElem (by rw [← HN.out.2.1]; exact hil)⟩
        obtain ⟨gt, ot, rfl, -, ct⟩ := (HT.out wr RR.out.1).tk (by rw [← HN.out.1]; exact Nat.lt_of_le_of_lt (Nat.zero_le _) hil)
        obtain ⟨gc, oc, rfl, hgc, cc0⟩ := (HT.out wr RR.out.1).ct (by rw [← HN.out.2.1]; exact Nat.lt_of_le_of_lt (Nat.zero_le _) hil)
        obtain ⟨k0, k1, k2, k3⟩ := ct i x hx
        have STEP : Hid (RT = ((((!decide (x.kind < 1) && !decide (3 < x.kind)) && (Tp.bet 0 x.proc 2147483647 && (Tp.bet 0 x.mark 2147483647 && Tp.bet 1 x.depth 2147483647))) && (!decide (c < (told : Int)) && !decide ((n3 : Int) < c))) && Rgt t (i + 1) c)) := by
          have h := RR.out.2.1
          rw [rgt_step hx hc, okT_bools, ← HN.out.2.2.1] at h
          exact h
        have c0 := cc0 i c hc
        obtain ⟨P, hP⟩ : ∃ P, P = i - 1 := ⟨_, rfl⟩
        have PREV : Hid ((i = 0 ∧ told = 0) ∨ (0 < i ∧ wrap64 ((i : Int) - 1) = (P : Int) ∧ P < n1 ∧ wr.cell? ⟨gc, oc + P, none⟩ = some (.int .i64 (told : Int)))) := by
          rcases RR.out.2.2.2 with h | ⟨h1, h2⟩
          · exact .inl h
          · refine .inr ⟨h1, by rw [hP]; have := HN.out; unfold wrap64; omega, by omega, ?_⟩
            rw [hP]
            exact cc0 (i - 1) _ h2
        have WI := hidT (wrT i (by have := HN.out; omega))
        have SWR : Hid (S ≤ wr.heap.size) := by have := RR.out.1; rw [HS.out] at this ⊢; exact this.size
        obtain ⟨W1, hW1⟩ : ∃ W, W = wr.alloc (.cells #[.int .i64 x.kind, .int .i64 x.proc, .int .i64 x.mark, .int .i64 x.depth] 62) := ⟨_, rfl⟩
        obtain ⟨gq, hgq⟩ : ∃ g, g = wr.heap.size := ⟨_, rfl⟩
        have b1' : Below wr.heap.size wr W1 := by rw [hW1]; exact (Below.refl _ _).alloc (Nat.le_refl _) _
        have B1 : Hid (Below S W0 W1) := RR.out.1.trans (b1'.mono SWR.out)
        have hb : W1.heap[gq]? = some (.cells #[.int .i64 x.kind, .int .i64 x.proc, .int .i64 x.mark, .int .i64 x.depth] 62 (0, 0)) := by rw [hW1, hgq]; exact heap_alloc_new wr _
        obtain ⟨q0, q1, q2, q3⟩ := box4T hb
        have hgw : gc < wr.heap.size := Nat.lt_of_lt_of_le hgc SWR.out
        have c1 := (b1'.cell (p := ⟨gc, oc + i, none⟩) hgw).trans c0
        have CP := hidT (fun o => b1'.cell (p := ⟨gc, o, none⟩) hgw)
        have UPF := hidT (UP.out W1 B1.out)
        have BND : Hid (told ≤ n3) := RR.out.2.2.1
        have HCI := hidT hc
        obtain ⟨f1', hf1⟩ : ∃ q, q = Tp.bet 0 x.proc 2147483647 := ⟨_, rfl⟩
        obtain ⟨f2', hf2⟩ : ∃ q, q = Tp.bet 0 x.mark 2147483647 := ⟨_, rfl⟩
        obtain ⟨f3', hf3⟩ : ∃ q, q = Tp.bet 1 x.depth 2147483647 := ⟨_, rfl⟩
        have F1 := hidT (fun W => rfits13_any x.proc 0 W)
        have F2 := hidT (fun W => rfits13_any x.mark 0 W)
        have F3 := hidT (fun W => rfits13_any x.depth 1 W)
        rw [← hf1] at F1 STEP
        rw [← hf2] at F2 STEP
        rw [← hf3] at F3 STEP
        obtain ⟨b1, e1⟩ : ∃ q, decide (x.kind < 1) = q := ⟨_, rfl⟩
        obtain ⟨b2, e2⟩ : ∃ q, decide (3 < x.kind) = q := ⟨_, rfl⟩
        obtain ⟨b6, e6⟩ : ∃ q, decide (c < (told : Int)) = q := ⟨_, rfl⟩
        obtain ⟨b7, e7⟩ : ∃ q, decide ((n3 : Int) < c) = q := ⟨_, rfl⟩
        rw [e1, e2, e6, e7] at STEP
        have HW1 := hidT hW1
        have HGQ := hidT hgq
        have E67 : Hid (decide (c < (told : Int)) = b6 ∧ decide ((n3 : Int) < c) = b7) := ⟨e6, e7⟩
        generalize x.kind = xk at *
        generalize x.proc = xp at *
        generalize x.mark = xm at *
        generalize x.depth = xd at *
        clear hx hc ct cc0 RR hW1 hgq b1' hb c0 hgw hf1 hf2 hf3 hP hgc
        go_upto_region 7 with fail
        rw [← HW1.out, ← HGQ.out]
        clear k0 k1 k2 k3 a0 a1 a2
        obtain ⟨a0, a1, a2⟩ := HC.out W1 B1.out
        go_upto_if 40 with fail
        go_cut [5] from 41 to 46 (fun s5 wx => s5 = .int .i64 (told : Int) ∧ wx = W1)
        case first =>
          rcases PREV.out with ⟨z1, z2⟩ | ⟨z1, z2, z3, z4⟩
          · subst z1 z2
            go_wp2_with fail
            go_meet
            exact ⟨rfl, rfl⟩
          · have z5 : (0 : Int) < (i : Int) := by omega
            have z6 : decide ((0 : Int) < (i : Int)) = true := decide_eq_true z5
            have z7 : decide (0 < i) = true := decide_eq_true z1
            have z8 : (P : Int) < (n1 : Int) := by omega
            have z9 : (0 : Int) ≤ (P : Int) := Int.natCast_nonneg _
            have z10 := (CP.out (oc + P)).trans z4
            go_wp2_with fail
            go_meet
            exact ⟨rfl, rfl⟩
        case rest =>
          obtain ⟨rfl, hw⟩ := hcut
          rw [hw]
          clear hw
          obtain ⟨OB, hOB⟩ : ∃ q, q = (((!b1 && !b2) && (f1' && (f2' && f3'))) && (!b6 && !b7)) := ⟨_, rfl⟩
          have HOB := hidT hOB
          rw [← hOB] at STEP
          obtain ⟨TI, hTI⟩ : ∃ TI : Int, TI = told := ⟨_, rfl⟩
          rw [← hTI] at e6
          have HTI := hidT hTI
          rw [← hTI]
          clear hOB hTI
          go_upto_region 10 with fail
          go_cut [92] from 47 to 92 (fun s wx => s = .bool (!OB) ∧ Hid (SMt W1 wx))
          case first =>
            cases b1
            case true =>
              have hOB : OB = false := HOB.out.trans rfl
              subst hOB
              go_quiet (first | (go_at_call 47; with_reducible exact Calls.quiet_of_same (F1.out _)) | (go_at_call 47; with_reducible exact Calls.quiet_of_same (F2.out _)) | (go_at_call 47; with_reducible exact Calls.quiet_of_same (F3.out _)))
              have S3 : Hid (SMt W1 (W1.drewN nq)) := ⟨by rfl, by rfl, by rfl, by rfl⟩
              go_wp2_with fail
              go_meet
              exact ⟨rfl, S3.out⟩
            cases b2
            case true =>
              have hOB : OB = false := HOB.out.trans rfl
              subst hOB
              go_quiet (first | (go_at_call 47; with_reducible exact Calls.quiet_of_same (F1.out _)) | (go_at_call 47; with_reducible exact Calls.quiet_of_same (F2.out _)) | (go_at_call 47; with_reducible exact Calls.quiet_of_same (F3.out _)))
              have S3 : Hid (SMt W1 (W1.drewN nq)) := ⟨by rfl, by rfl, by rfl, by rfl⟩
              go_wp2_with fail
              go_meet
              exact ⟨rfl, S3.out⟩
            cases f1'
            case false =>
              have hOB : OB = false := HOB.out.trans rfl
              subst hOB
              go_quiet (first | (go_at_call 47; with_reducible exact Calls.quiet_of_same (F1.out _)) | (go_at_call 47; with_reducible exact Calls.quiet_of_same (F2.out _)) | (go_at_call 47; with_reducible exact Calls.quiet_of_same (F3.out _)))
              have S3 : Hid (SMt W1 (W1.drewN nq)) := ⟨by rfl, by rfl, by rfl, by rfl⟩
              go_wp2_with fail
              go_meet
              exact ⟨rfl, S3.out⟩
            cases f2'
            case false =>
              have hOB : OB = false := HOB.out.trans rfl
              subst hOB
              go_quiet (first | (go_at_call 47; with_reducible exact Calls.quiet_of_same (F1.out _)) | (go_at_call 47; with_reducible exact Calls.quiet_of_same (F2.out _)) | (go_at_call 47; with_reducible exact Calls.quiet_of_same (F3.out _)))
              have S3 : Hid (SMt W1 (W1.drewN nq)) := ⟨by rfl, by rfl, by rfl, by rfl⟩
              go_wp2_with fail
              go_meet
              exact ⟨rfl, S3.out⟩
            cases f3'
            case false =>
              have hOB : OB = false := HOB.out.trans rfl
              subst hOB
              go_quiet (first | (go_at_call 47; with_reducible exact Calls.quiet_of_same (F1.out _)) | (go_at_call 47; with_reducible exact Calls.quiet_of_same (F2.out _)) | (go_at_call 47; with_reducible exact Calls.quiet_of_same (F3.out _)))
              have S3 : Hid (SMt W1 (W1.drewN nq)) := ⟨by rfl, by rfl, by rfl, by rfl⟩
              go_wp2_with fail
              go_meet
              exact ⟨rfl, S3.out⟩
            cases b6
            case true =>
              have hOB : OB = false := HOB.out.trans rfl
              subst hOB
              go_quiet (first | (go_at_call 47; with_reducible exact Calls.quiet_of_same (F1.out _)) | (go_at_call 47; with_reducible exact Calls.quiet_of_same (F2.out _)) | (go_at_call 47; with_reducible exact Calls.quiet_of_same (F3.out _)))
              have S3 : Hid (SMt W1 (W1.drewN nq)) := ⟨by rfl, by rfl, by rfl, by rfl⟩
              go_wp2_with fail
              go_meet
              exact ⟨rfl, S3.out⟩
            cases b7
            case true =>
              have hOB : OB = false := HOB.out.trans rfl
              subst hOB
              go_quiet (first | (go_at_call 47; with_reducible exact Calls.quiet_of_same (F1.out _)) | (go_at_call 47; with_reducible exact Calls.quiet_of_same (F2.out _)) | (go_at_call 47; with_reducible exact Calls.quiet_of_same (F3.out _)))
              have S3 : Hid (SMt W1 (W1.drewN nq)) := ⟨by rfl, by rfl, by rfl, by rfl⟩
              go_wp2_with fail
              go_meet
              exact ⟨rfl, S3.out⟩
            case false =>
              have hOB : OB = true := HOB.out.trans rfl
              subst hOB
              go_quiet (first | (go_at_call 47; with_reducible exact Calls.quiet_of_same (F1.out _)) | (go_at_call 47; with_reducible exact Calls.quiet_of_same (F2.out _)) | (go_at_call 47; with_reducible exact Calls.quiet_of_same (F3.out _)))
              have S3 : Hid (SMt W1 (W1.drewN nq)) := ⟨by rfl, by rfl, by rfl, by rfl⟩
              go_wp2_with fail
              go_meet
              exact ⟨rfl, S3.out⟩
          case rest =>
            obtain ⟨rfl, SS⟩ := hcut
            obtain ⟨W3, hW3⟩ : ∃ W, W = wc := ⟨_, rfl⟩
            subst hW3
            have B3 : Hid (Below S W0 W3) := B1.out.trans (SS.out.below _)
            clear a0 a1 a2 q0 q1 q2 q3 c1 F1 F2 F3 e1 e2 e6 e7
            cases OB with
            | false =>
              have FIN : Hid (RT = false ∧ Below w.heap.size w W3) := ⟨STEP.out, UP.out W3 B3.out⟩
              clear STEP HOB
              go_wp2_with fail
              go_ret
              exact ⟨by rw [FIN.out.1]; rfl, FIN.out.2⟩
            | true =>
              have hb67 : b6 = false ∧ b7 = false := by
                have h := HOB.out
                cases b6 <;> cases b7 <;> simp at h ⊢
              obtain ⟨C, hC⟩ : ∃ C : Nat, c = C := ⟨c.toNat, by have h1 := of_decide_eq_false (E67.out.1.trans hb67.1); omega⟩
              have NX : Hid (Below S W0 W3 ∧ RT = Rgt t (i + 1) (C : Int) ∧ C ≤ n3 ∧ ((i + 1 = 0 ∧ C = 0) ∨ (0 < i + 1 ∧ t.counts[i + 1 - 1]? = some (C : Int)))) := by
                have h2 := of_decide_eq_false (E67.out.2.trans hb67.2)
                refine ⟨B3.out, by rw [← hC]; exact STEP.out, by omega, .inr ⟨Nat.succ_pos i, by rw [← hC]; exact HCI.out⟩⟩
              clear STEP HOB hb67 hC
              go_wp2_with fail
              go_roundg gO
              case measure => omega
              case rel => exact ⟨i + 1, C, by omega, congrArg _ WI.out, NX.out⟩
end Go.Proofs.Ytneefpblfiedbaa
