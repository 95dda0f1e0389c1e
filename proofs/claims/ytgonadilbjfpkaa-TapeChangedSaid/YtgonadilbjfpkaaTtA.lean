/- Layer 13: traces in memory; which are right. -/
import Derived.Test.YtgonadilbjfpkaaTtPl
import Derived.Test.YtgonadilbjfpkaaTqA
namespace Go.Proofs.Ytgonadilbjfpkaa
open Go.RowKit
set_option linter.unusedVariables false
set_option linter.unusedSimpArgs false
def TkAt (w : World) (g o : Nat) (t : Tp.Tk) : Prop := w.cell? ⟨g, o, none⟩ = some (.int .i64 t.kind) ∧ w.cell? ⟨g, o + 1, none⟩ = some (.int .i64 t.proc) ∧ w.cell? ⟨g, o + 2, none⟩ = some (.int .i64 t.mark) ∧ w.cell? ⟨g, o + 3, none⟩ = some (.int .i64 t.depth)
def EvAt (w : World) (g o : Nat) (e : Tp.Ev) : Prop := w.cell? ⟨g, o, none⟩ = some (.int .i64 e.kind) ∧ w.cell? ⟨g, o + 1, none⟩ = some (.int .i64 e.n)
def TkS (B : Nat) (w : World) (a : Option Addr) (l : List Tp.Tk) : Prop := 0 < l.length → ∃ g o, a = some ⟨g, o, none⟩ ∧ g < B ∧ ∀ j t, l[j]? = some t → TkAt w g (o + j * 4) t
def EvS (B : Nat) (w : World) (a : Option Addr) (l : List Tp.Ev) : Prop := 0 < l.length → ∃ g o, a = some ⟨g, o, none⟩ ∧ g < B ∧ ∀ j e, l[j]? = some e → EvAt w g (o + j * 2) e
theorem TkS.later {B B' : Nat} {w w' : World} {a : Option Addr} {l : List Tp.Tk} (h : TkS B w a l) (b : Below B' w w') (hb : B ≤ B') : TkS B w' a l := fun h0 => by
  obtain ⟨g, o, e, hg, hc⟩ := h h0
  have c := fun p => b.cell (p := ⟨g, p, none⟩) (Nat.lt_of_lt_of_le hg hb)
  exact ⟨g, o, e, hg, fun j t ht => ⟨(c _).trans (hc j t ht).1, (c _).trans (hc j t ht).2.1, (c _).trans (hc j t ht).2.2.1, (c _).trans (hc j t ht).2.2.2⟩⟩
theorem EvS.later {B B' : Nat} {w w' : World} {a : Option Addr} {l : List Tp.Ev} (h : EvS B w a l) (b : Below B' w w') (hb : B ≤ B') : EvS B w' a l := fun h0 => by
  obtain ⟨g, o, e, hg, hc⟩ := h h0
  have c := fun p => b.cell (p := ⟨g, p, none⟩) (Nat.lt_of_lt_of_le hg hb)
  exact ⟨g, o, e, hg, fun j t ht => ⟨(c _).trans (hc j t ht).1, (c _).trans (hc j t ht).2⟩⟩
def I64 (n : Int) : Prop := -9223372036854775808 ≤ n ∧ n ≤ 9223372036854775807
/-- A trace as a value. -/
def trV (ta ca ea : Option Addr) (tc cc ec : Nat) (t : Tp.Tr) : Value := .agg #[.slice ta t.ticks.length tc, .slice ca t.counts.length cc, .slice ea t.events.length ec]
structure TrS (B : Nat) (w : World) (ta ca ea : Option Addr) (tc cc ec : Nat) (t : Tp.Tr) : Prop where
  tk : TkS B w ta t.ticks
  ct : NmS B w ca t.counts
  ev : EvS B w ea t.events
  ce : t.events.length ≤ ec
  l1 : t.ticks.length ≤ 1000000000000000
  l2 : t.counts.length ≤ 1000000000000000
  l3 : t.events.length ≤ 1000000000000000
  rt : ∀ x ∈ t.ticks, I64 x.kind ∧ I64 x.proc ∧ I64 x.mark ∧ I64 x.depth
  rc : ∀ x ∈ t.counts, I64 x
  re : ∀ x ∈ t.events, I64 x.kind ∧ I64 x.n
theorem TrS.later {B B' : Nat} {w w' : World} {ta ca ea : Option Addr} {tc cc ec : Nat} {t : Tp.Tr} (h : TrS B w ta ca ea tc cc ec t) (b : Below B' w w') (hb : B ≤ B') : TrS B w' ta ca ea tc cc ec t :=
  ⟨h.tk.later b hb, h.ct.later b hb, h.ev.later b hb, h.ce, h.l1, h.l2, h.l3, h.rt, h.rc, h.re⟩
theorem between_any (lo x hi : Int) (w : World) : Calls Try.prog 74 #[.int .i64 lo, .int .i64 x, .int .i64 hi] w fun e w' => e = .returned (.bool (Tp.bet lo x hi)) ∧ w' = w := by
  by_cases h1 : lo ≤ x
  · by_cases h2 : x ≤ hi
    · rw [show Tp.bet lo x hi = true from decide_eq_true ⟨h1, h2⟩]
      have d1 : decide (lo ≤ x) = true := decide_eq_true h1
      have d2 : decide (x ≤ hi) = true := decide_eq_true h2
      go_enter Try.func74, Try.ntmps74
      go_wp2_with fail
      go_ret
      exact ⟨rfl, rfl⟩
    · rw [show Tp.bet lo x hi = false from decide_eq_false (fun h => h2 h.2)]
      have d1 : decide (lo ≤ x) = true := decide_eq_true h1
      have d2 : decide (x ≤ hi) = false := decide_eq_false h2
      go_enter Try.func74, Try.ntmps74
      go_wp2_with fail
      go_ret
      exact ⟨rfl, rfl⟩
  · rw [show Tp.bet lo x hi = false from decide_eq_false (fun h => h1 h.1)]
    have d1 : decide (lo ≤ x) = false := decide_eq_false h1
    go_enter Try.func74, Try.ntmps74
    go_wp2_with fail
    go_ret
    exact ⟨rfl, rfl⟩
theorem numbered_any (x : Int) (w : World) : Calls Try.prog 75 #[.int .i64 x] w fun e w' => e = .returned (.bool (Tp.hasN x)) ∧ w' = w := by
  by_cases h1 : x = 3
  · subst h1
    rw [show Tp.hasN 3 = false from by decide]
    go_enter Try.func75, Try.ntmps75
    go_wp2_with fail
    go_ret
    exact ⟨rfl, rfl⟩
  · have q1 : (x == 3) = false := by simpa using h1
    by_cases h2 : x = 5
    · subst h2
      rw [show Tp.hasN 5 = false from by decide]
      clear h1 q1
      go_enter Try.func75, Try.ntmps75
      go_wp2_with fail
      go_ret
      exact ⟨rfl, rfl⟩
    · have q2 : (x == 5) = false := by simpa using h2
      rw [show Tp.hasN x = true from decide_eq_true ⟨h1, h2⟩]
      have b1 : (x != 3) = true := by simpa using h1
      have b2 : (x != 5) = true := by simpa using h2
      go_enter Try.func75, Try.ntmps75
      go_wp2_with fail
      go_ret
      exact ⟨rfl, rfl⟩
def tkV (t : Tp.Tk) : Value := .agg #[.int .i64 t.kind, .int .i64 t.proc, .int .i64 t.mark, .int .i64 t.depth]
def evV (e : Tp.Ev) : Value := .agg #[.int .i64 e.kind, .int .i64 e.n]
set_option maxHeartbeats 1000000 in
theorem rightTick_any (t : Tp.Tk) (w : World) : Calls Try.prog 63 #[tkV t] w fun e w' => e = .returned (.bool (Tp.okT t)) ∧ Below w.heap.size w w' := by
  obtain ⟨k, p, m, d⟩ := t
  show Calls _ _ #[.agg #[.int .i64 k, .int .i64 p, .int .i64 m, .int .i64 d]] w _
  have HP : Hid (Tp.okT ⟨k, p, m, d⟩ = (Tp.bet 1 k 3 && (Tp.bet 0 p 2147483647 && (Tp.bet 0 m 2147483647 && Tp.bet 1 d 2147483647)))) := rfl
  rw [HP.out]
  have E1 := hidT (between_any 1 k 3)
  have E2 := hidT (between_any 0 p 2147483647)
  have E3 := hidT (between_any 0 m 2147483647)
  have E4 := hidT (between_any 1 d 2147483647)
  generalize Tp.bet 1 k 3 = b1 at *
  generalize Tp.bet 0 p 2147483647 = b2 at *
  generalize Tp.bet 0 m 2147483647 = b3 at *
  generalize Tp.bet 1 d 2147483647 = b4 at *
  cases b1 with
  | false =>
    go_enter Try.func63, Try.ntmps63
    go_wp2_with fail
    refine (E1.out _).mono ?_
    rintro e w1 ⟨rfl, rfl⟩
    go_wp2_with fail
    go_ret
    exact ⟨rfl, (Below.refl _ _).alloc (Nat.le_refl _) _⟩
  | true =>
    cases b2 with
    | false =>
      go_enter Try.func63, Try.ntmps63
      go_wp2_with fail
      refine (E1.out _).mono ?_
      rintro e w1 ⟨rfl, rfl⟩
      go_wp2_with fail
      refine (E2.out _).mono ?_
      rintro e w1 ⟨rfl, rfl⟩
      go_wp2_with fail
      go_ret
      exact ⟨rfl, (Below.refl _ _).alloc (Nat.le_refl _) _⟩
    | true =>
      cases b3 with
      | false =>
        go_enter Try.func63, Try.ntmps63
        go_wp2_with fail
        refine (E1.out _).mono ?_
        rintro e w1 ⟨rfl, rfl⟩
        go_wp2_with fail
        refine (E2.out _).mono ?_
        rintro e w1 ⟨rfl, rfl⟩
        go_wp2_with fail
        refine (E3.out _).mono ?_
        rintro e w1 ⟨rfl, rfl⟩
        go_wp2_with fail
        go_ret
        exact ⟨rfl, (Below.refl _ _).alloc (Nat.le_refl _) _⟩
      | true =>
        go_enter Try.func63, Try.ntmps63
        go_wp2_with fail
        refine (E1.out _).mono ?_
        rintro e w1 ⟨rfl, rfl⟩
        go_wp2_with fail
        refine (E2.out _).mono ?_
        rintro e w1 ⟨rfl, rfl⟩
        go_wp2_with fail
        refine (E3.out _).mono ?_
        rintro e w1 ⟨rfl, rfl⟩
        go_wp2_with fail
        refine (E4.out _).mono ?_
        rintro e w1 ⟨rfl, rfl⟩
        go_wp2_with fail
        go_ret
        exact ⟨rfl, (Below.refl _ _).alloc (Nat.le_refl _) _⟩
set_option maxHeartbeats 1000000 in
theorem rightEvent_any (x : Tp.Ev) (w : World) : Calls Try.prog 65 #[evV x] w fun e w' => e = .returned (.bool (Tp.okE x)) ∧ Below w.heap.size w w' := by
  obtain ⟨k, n⟩ := x
  show Calls _ _ #[.agg #[.int .i64 k, .int .i64 n]] w _
  have HP : Hid (Tp.okE ⟨k, n⟩ = (Tp.bet 1 k 5 && (Tp.hasN k || n == 0))) := rfl
  rw [HP.out]
  have E1 := hidT (between_any 1 k 5)
  have E2 := hidT (numbered_any k)
  generalize Tp.bet 1 k 5 = b1 at *
  generalize Tp.hasN k = b2 at *
  obtain ⟨b3, h3⟩ : ∃ b, (n == 0) = b := ⟨_, rfl⟩
  rw [h3]
  cases b1 with
  | false =>
    go_enter Try.func65, Try.ntmps65
    go_wp2_with fail
    refine (E1.out _).mono ?_
    rintro e w1 ⟨rfl, rfl⟩
    go_wp2_with fail
    go_ret
    exact ⟨rfl, (Below.refl _ _).alloc (Nat.le_refl _) _⟩
  | true =>
    cases b2 with
    | true =>
      go_enter Try.func65, Try.ntmps65
      go_wp2_with fail
      refine (E1.out _).mono ?_
      rintro e w1 ⟨rfl, rfl⟩
      go_wp2_with fail
      refine (E2.out _).mono ?_
      rintro e w1 ⟨rfl, rfl⟩
      go_wp2_with fail
      go_ret
      exact ⟨rfl, (Below.refl _ _).alloc (Nat.le_refl _) _⟩
    | false =>
      cases b3
      all_goals
        go_enter Try.func65, Try.ntmps65
        go_wp2_with fail
        refine (E1.out _).mono ?_
        rintro e w1 ⟨rfl, rfl⟩
        go_wp2_with fail
        refine (E2.out _).mono ?_
        rintro e w1 ⟨rfl, rfl⟩
        go_wp2_with fail
        go_ret
        exact ⟨rfl, (Below.refl _ _).alloc (Nat.le_refl _) _⟩
set_option maxHeartbeats 2000000 in
theorem allT_any (l : List Tp.Tk) (a : Option Addr) (c : Nat) (w : World) {B : Nat} (hm : TkS B w a l) (hB : B ≤ w.heap.size) (hl : l.length ≤ 1000000000000000) :
    Calls Try.prog 62 #[.slice a l.length c, .func (.func 63) #[] #[]] w fun e w' => e = .returned (.bool (l.all Tp.okT)) ∧ Below w.heap.size w w' := by
  have HM := hidT hm
  obtain ⟨n, hn⟩ : ∃ n, n = l.length := ⟨_, rfl⟩
  have HN := hidT hn
  rw [← hn] at hl ⊢
  obtain ⟨post, hpost⟩ : ∃ p, p = l.all Tp.okT := ⟨_, rfl⟩
  have HP := hidT hpost
  rw [← hpost]
  clear hm hn hpost
  go_enter Try.func62, Try.ntmps62
  go_wp2_with fail
  go_loopg [9] n (fun gk i wr => ∃ j : Nat, j + gk = n ∧ i = .int .i64 j ∧ Hid (Below w.heap.size w wr) ∧ Hid (l.all Tp.okT = (l.drop j).all Tp.okT))
  case atStart => exact ⟨0, by omega, rfl, Below.refl _ _, hidT rfl⟩
  case round =>
    obtain ⟨j, hj, rfl, KW, HR⟩ := hrel
    rcases gk with _ | gk
    · obtain rfl : j = n := by omega
      have dk : decide ((j : Int) < (j : Int)) = false := decide_eq_false (by omega)
      go_wp2_with fail
      go_ret
      refine ⟨?_, KW.out⟩
      rw [HP.out, HR.out, List.drop_eq_nil_of_le (by rw [← HN.out]; exact Nat.le_refl _)]
      rfl
    · have dk : decide ((j : Int) < (n : Int)) = true := decide_eq_true (by omega)
      have dkn : decide (j < n) = true := decide_eq_true (by omega)
      obtain ⟨t, ht⟩ : ∃ t, l[j]? = some t := ⟨_, List.getElem?_eq_getElem (by rw [← HN.out]; omega)⟩
      obtain ⟨g, o, rfl, hg, hc⟩ := (HM.out.later KW.out hB) (by rw [← HN.out]; omega)
      obtain ⟨c0, c1, c2, c3⟩ := hc j t ht
      have hd : l.drop j = t :: l.drop (j + 1) := by
        obtain ⟨h1, h2⟩ := List.getElem?_eq_some_iff.1 ht
        rw [← h2, List.drop_eq_getElem_cons h1]
      have HR2 : Hid (l.all Tp.okT = (Tp.okT t && (l.drop (j + 1)).all Tp.okT)) := by unfold Hid; rw [HR.out, hd]; rfl
      have KA := hidT (KW.out.trans ((Below.refl _ wr).alloc KW.out.size (.cells #[.int .i64 t.kind, .int .i64 t.proc, .int .i64 t.mark, .int .i64 t.depth] 80)))
      have ER := hidT (rightTick_any t)
      clear hc hd ht
      unfold tkV at ER
      cases hok : Tp.okT t with
      | false =>
        rw [hok] at ER HR2
        clear hok
        go_wp2_with fail
        refine (ER.out _).mono ?_
        rintro e w3 ⟨rfl, k3⟩
        have K3 := hidT (KA.out.trans (k3.mono KA.out.size))
        clear k3
        go_wp2_with fail
        go_ret
        refine ⟨?_, K3.out⟩
        rw [HP.out, HR2.out]
        rfl
      | true =>
        rw [hok] at ER HR2
        clear hok
        go_wp2_with fail
        refine (ER.out _).mono ?_
        rintro e w3 ⟨rfl, k3⟩
        have K3 := hidT (KA.out.trans (k3.mono KA.out.size))
        clear k3
        go_wp2_with fail
        go_roundg gk
        case measure => omega
        case rel => exact ⟨j + 1, by omega, by go_num, K3, HR2.out.trans (by simp)⟩
set_option maxHeartbeats 2000000 in
theorem allE_any (l : List Tp.Ev) (a : Option Addr) (c : Nat) (w : World) {B : Nat} (hm : EvS B w a l) (hB : B ≤ w.heap.size) (hl : l.length ≤ 1000000000000000) :
    Calls Try.prog 64 #[.slice a l.length c, .func (.func 65) #[] #[]] w fun e w' => e = .returned (.bool (l.all Tp.okE)) ∧ Below w.heap.size w w' := by
  have HM := hidT hm
  obtain ⟨n, hn⟩ : ∃ n, n = l.length := ⟨_, rfl⟩
  have HN := hidT hn
  rw [← hn] at hl ⊢
  obtain ⟨post, hpost⟩ : ∃ p, p = l.all Tp.okE := ⟨_, rfl⟩
  have HP := hidT hpost
  rw [← hpost]
  clear hm hn hpost
  go_enter Try.func64, Try.ntmps64
  go_wp2_with fail
  go_loopg [9] n (fun gk i wr => ∃ j : Nat, j + gk = n ∧ i = .int .i64 j ∧ Hid (Below w.heap.size w wr) ∧ Hid (l.all Tp.okE = (l.drop j).all Tp.okE))
  case atStart => exact ⟨0, by omega, rfl, Below.refl _ _, hidT rfl⟩
  case round =>
    obtain ⟨j, hj, rfl, KW, HR⟩ := hrel
    rcases gk with _ | gk
    · obtain rfl : j = n := by omega
      have dk : decide ((j : Int) < (j : Int)) = false := decide_eq_false (by omega)
      go_wp2_with fail
      go_ret
      refine ⟨?_, KW.out⟩
      rw [HP.out, HR.out, List.drop_eq_nil_of_le (by rw [← HN.out]; exact Nat.le_refl _)]
      rfl
    · have dk : decide ((j : Int) < (n : Int)) = true := decide_eq_true (by omega)
      have dkn : decide (j < n) = true := decide_eq_true (by omega)
      obtain ⟨t, ht⟩ : ∃ t, l[j]? = some t := ⟨_, List.getElem?_eq_getElem (by rw [← HN.out]; omega)⟩
      obtain ⟨g, o, rfl, hg, hc⟩ := (HM.out.later KW.out hB) (by rw [← HN.out]; omega)
      obtain ⟨c0, c1⟩ := hc j t ht
      have hd : l.drop j = t :: l.drop (j + 1) := by
        obtain ⟨h1, h2⟩ := List.getElem?_eq_some_iff.1 ht
        rw [← h2, List.drop_eq_getElem_cons h1]
      have HR2 : Hid (l.all Tp.okE = (Tp.okE t && (l.drop (j + 1)).all Tp.okE)) := by unfold Hid; rw [HR.out, hd]; rfl
      have KA := hidT (KW.out.trans ((Below.refl _ wr).alloc KW.out.size (.cells #[.int .i64 t.kind, .int .i64 t.n] 96)))
      have ER := hidT (rightEvent_any t)
      clear hc hd ht
      unfold evV at ER
      cases hok : Tp.okE t with
      | false =>
        rw [hok] at ER HR2
        clear hok
        go_wp2_with fail
        refine (ER.out _).mono ?_
        rintro e w3 ⟨rfl, k3⟩
        have K3 := hidT (KA.out.trans (k3.mono KA.out.size))
        clear k3
        go_wp2_with fail
        go_ret
        refine ⟨?_, K3.out⟩
        rw [HP.out, HR2.out]
        rfl
      | true =>
        rw [hok] at ER HR2
        clear hok
        go_wp2_with fail
        refine (ER.out _).mono ?_
        rintro e w3 ⟨rfl, k3⟩
        have K3 := hidT (KA.out.trans (k3.mono KA.out.size))
        clear k3
        go_wp2_with fail
        go_roundg gk
        case measure => omega
        case rel => exact ⟨j + 1, by omega, by go_num, K3, HR2.out.trans (by simp)⟩
end Go.Proofs.Ytgonadilbjfpkaa
