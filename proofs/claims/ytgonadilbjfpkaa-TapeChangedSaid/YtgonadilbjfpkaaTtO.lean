/- Layer 13: many, Among, bytes of a row changed. -/
import Derived.Test.YtgonadilbjfpkaaTtN
import Derived.Test.YtgonadilbjfpkaaTtE
namespace Go.Proofs.Ytgonadilbjfpkaa
open Go.RowKit
set_option linter.unusedVariables false
set_option linter.unusedSimpArgs false
set_option maxRecDepth 100000 in
set_option maxHeartbeats 1000000 in
theorem amongT (a n : Int) (hn : 0 < n) (hn2 : n ≤ 1000000) : ∃ r : Nat, (r : Int) < n ∧ ∀ w, Calls Try.prog 28 #[.int .i64 a, .int .i64 n] w fun e w' => e = .returned (.int .i64 (r : Int)) ∧ w' = w := by
  have hb1 := Int.tmod_lt_of_pos a hn
  have hb2 := Int.lt_tmod_of_pos a hn
  generalize hq : a.tmod n = q at hb1 hb2
  by_cases h0 : 0 ≤ q
  · refine ⟨q.toNat, by omega, fun w => ?_⟩
    go_enter Try.func28, Try.ntmps28
    go_wp2
    go_ret
    exact ⟨by rw [Int.toNat_of_nonneg h0]; rfl, rfl⟩
  · obtain ⟨r, hr⟩ : ∃ r : Nat, q + n = (r : Int) := ⟨(q + n).toNat, by omega⟩
    refine ⟨r, by omega, fun w => ?_⟩
    have HR : Hid (q + n = (r : Int)) := hr
    clear hr
    go_enter Try.func28, Try.ntmps28
    go_wp2
    go_ret
    exact ⟨by rw [← HR.out]; rfl, rfl⟩
set_option maxHeartbeats 1000000 in
theorem many_any (ta ca ea : Option Addr) (tc cc ec : Nat) (n1 n2 n3 : Nat) (w : World) : Calls Try.prog 22 #[.agg #[.slice ta n1 tc, .slice ca n2 cc, .slice ea n3 ec]] w fun e w' => e = .returned (.bool (decide (500 < n1 ∨ 500 < n2 ∨ 500 < n3))) ∧ Below w.heap.size w w' := by
  by_cases h1 : 500 < n1
  · rw [decide_eq_true (p := 500 < n1 ∨ 500 < n2 ∨ 500 < n3) (by omega)]
    have d1 : decide ((500 : Int) < (n1 : Int)) = true := decide_eq_true (by omega)
    go_enter Try.func22, Try.ntmps22
    go_wp2_with fail
    go_ret
    exact ⟨rfl, (Below.refl _ _).alloc (Nat.le_refl _) _⟩
  · have d1 : decide ((500 : Int) < (n1 : Int)) = false := decide_eq_false (by omega)
    by_cases h2 : 500 < n2
    · rw [decide_eq_true (p := 500 < n1 ∨ 500 < n2 ∨ 500 < n3) (by omega)]
      have d2 : decide ((500 : Int) < (n2 : Int)) = true := decide_eq_true (by omega)
      go_enter Try.func22, Try.ntmps22
      go_wp2_with fail
      go_ret
      exact ⟨rfl, (Below.refl _ _).alloc (Nat.le_refl _) _⟩
    · have d2 : decide ((500 : Int) < (n2 : Int)) = false := decide_eq_false (by omega)
      by_cases h3 : 500 < n3
      · rw [decide_eq_true (p := 500 < n1 ∨ 500 < n2 ∨ 500 < n3) (by omega)]
        have d3 : decide ((500 : Int) < (n3 : Int)) = true := decide_eq_true (by omega)
        go_enter Try.func22, Try.ntmps22
        go_wp2_with fail
        go_ret
        exact ⟨rfl, (Below.refl _ _).alloc (Nat.le_refl _) _⟩
      · rw [decide_eq_false (p := 500 < n1 ∨ 500 < n2 ∨ 500 < n3) (by omega)]
        have d3 : decide ((500 : Int) < (n3 : Int)) = false := decide_eq_false (by omega)
        go_enter Try.func22, Try.ntmps22
        go_wp2_with fail
        go_ret
        exact ⟨rfl, (Below.refl _ _).alloc (Nat.le_refl _) _⟩
/-- Bytes in a block of their own, which may be written. -/
def ByB (w : World) (g : Nat) (l : List Int) : Prop := ∃ (cs : Array Value) (e : TypeId), w.heap[g]? = some (.cells cs e (0, 0)) ∧ ∀ (j : Nat) (x : Int), l[j]? = some x → cs[j]? = some (Value.int .u8 x)
theorem ByB.c {w : World} {g : Nat} {l : List Int} (h : ByB w g l) (j : Nat) (x : Int) (hj : l[j]? = some x) : w.cell? ⟨g, j, none⟩ = some (.int .u8 x) := by
  obtain ⟨cs, e, hg, hc⟩ := h
  simp [World.cell?, hg, hc j x hj]
theorem ByB.f {w : World} {g : Nat} {l : List Int} (h : ByB w g l) (i : Nat) : w.frozen? ⟨g, i, none⟩ = false := by
  obtain ⟨cs, e, hg, hc⟩ := h
  simp [World.frozen?, hg]
theorem ByB.lt {w : World} {g : Nat} {l : List Int} (h : ByB w g l) : g < w.heap.size := by
  obtain ⟨cs, e, hg, hc⟩ := h
  exact (Array.getElem?_eq_some_iff.1 hg).1
theorem OwB.open' {w : World} {base : Nat} {v : Value} {l : List Int} (h : OwB w base v l) (h0 : 0 < l.length) : ∃ g cap, v = .slice (some ⟨g, 0, none⟩) l.length cap ∧ base ≤ g ∧ l.length ≤ cap ∧ ByB w g l := by
  obtain ⟨g, cap, e, hb, hl, hc, ce⟩ := h.cell' h0
  refine ⟨g, cap, e, hb, hc, ?_⟩
  rcases h.2 with ⟨e1, h1⟩ | ⟨g', cap', cur, e1, hbg, hg, _⟩
  · omega
  · rw [e] at e1
    cases e1
    refine ⟨_, _, hg, fun j x hj => ?_⟩
    have := ce j x hj
    simpa [World.cell?, hg] using this
theorem ByB.kept {w w' : World} {g : Nat} {l : List Int} (h : ByB w g l) (e : w'.heap[g]? = w.heap[g]?) : ByB w' g l := by
  obtain ⟨cs, t, hg, hc⟩ := h
  exact ⟨cs, t, e.trans hg, hc⟩
theorem ByB.bys {w : World} {g : Nat} {l : List Int} (h : ByB w g l) : ByS w.heap.size w (some ⟨g, 0, none⟩) l := fun _ => ⟨g, 0, rfl, h.lt, fun j x hj => by rw [Nat.zero_add]; exact h.c j x hj⟩
theorem ByB.set {w : World} {g : Nat} {l : List Int} (h : ByB w g l) (k : Nat) (y : Int) (hk : k < l.length) : ByB (w.setCell ⟨g, k, none⟩ (.int .u8 y)) g (l.set k y) := by
  obtain ⟨cs, e, hg, hc⟩ := h
  have hs := heap_setCell_same w g k _ _ (.int .u8 y) hg
  refine ⟨_, _, hs, fun j x hj => ?_⟩
  have hx := hc k l[k] (List.getElem?_eq_getElem hk)
  have hks : k < cs.size := (Array.getElem?_eq_some_iff.1 hx).1
  by_cases hjk : j = k
  · subst hjk
    rw [List.getElem?_set_self hk] at hj
    cases hj
    simp [Array.getElem?_setIfInBounds, hks]
  · rw [List.getElem?_set_ne (by omega)] at hj
    have := hc j x hj
    rw [Array.getElem?_setIfInBounds, if_neg (by omega)]
    exact this
/-- A byte and another: neither is the one that comes of them. -/
theorem xor_u8 (x b : Int) (hx : 0 ≤ x ∧ x ≤ 255) (hb : 0 ≤ b ∧ b ≤ 255) (h0 : b ≠ 0) : 0 ≤ bits .xor .u8 x b ∧ bits .xor .u8 x b ≤ 255 ∧ x ≠ bits .xor .u8 x b := by
  obtain ⟨m, rfl⟩ : ∃ m : Nat, x = m := ⟨x.toNat, by omega⟩
  obtain ⟨n, rfl⟩ : ∃ n : Nat, b = n := ⟨b.toNat, by omega⟩
  have hm : m < 256 := by omega
  have hn : n < 256 := by omega
  have e : bits .xor .u8 (m : Int) (n : Int) = ((m ^^^ n : Nat) : Int) := by
    have hx : m ^^^ n < 2 ^ 8 := Nat.xor_lt_two_pow hm hn
    have h1 : (BitVec.ofInt 8 (m : Int)).toNat = m := by
      rw [BitVec.ofInt_natCast, BitVec.toNat_ofNat]; exact Nat.mod_eq_of_lt hm
    have h2 : (BitVec.ofInt 8 (n : Int)).toNat = n := by
      rw [BitVec.ofInt_natCast, BitVec.toNat_ofNat]; exact Nat.mod_eq_of_lt hn
    have wr : ∀ n : Int, IntKind.u8.wrap n = n % 256 := fun n => by simp [IntKind.wrap, IntKind.bits, IntKind.signed]
    show IntKind.u8.wrap ((BitVec.ofInt 8 (m : Int) ^^^ BitVec.ofInt 8 (n : Int)).toNat : Int) = _
    rw [BitVec.toNat_xor, h1, h2, wr]
    omega
  have hl : m ^^^ n < 256 := Nat.xor_lt_two_pow (n := 8) hm hn
  rw [e]
  refine ⟨by omega, by omega, fun h => ?_⟩
  have h1 : m = m ^^^ n := by omega
  have h2 : m ^^^ m = m ^^^ (m ^^^ n) := congrArg (m ^^^ ·) h1
  rw [Nat.xor_self, ← Nat.xor_assoc, Nat.xor_self, Nat.zero_xor] at h2
  omega
/-- How long a trace's tape is. -/
theorem Tp.recs_len2 (ev : List Tp.Ev) : ∀ (ts : List Tp.Tk) (cs : List Int) (told : Nat), Tp.okC ev.length told cs = true → (Tp.recs ev ts cs told).length ≤ ts.length * 31 + (ev.length - told) * 11
  | [], cs, told, h => by
    have h1 := Tp.evs_len (ev.drop told)
    rw [List.length_drop] at h1
    cases cs <;> (simp only [Tp.recs]; omega)
  | t :: ts, [], told, h => by
    have h1 := Tp.evs_len (ev.drop told)
    rw [List.length_drop] at h1
    simp only [Tp.recs]; omega
  | t :: ts, c :: cs, told, h => by
    rw [Tp.okC] at h
    split at h
    · cases h
    · rename_i hc
      have hcc : ((c.toNat : Nat) : Int) = c := by omega
      rw [← hcc] at h
      have ih := Tp.recs_len2 ev ts cs c.toNat h
      have h1 := Tp.evs_len ((ev.drop told).take (c.toNat - told))
      have h2 : ((ev.drop told).take (c.toNat - told)).length ≤ c.toNat - told := by rw [List.length_take]; omega
      have h3 := Tp.tkB_len t
      simp only [Tp.recs, List.length_append, List.length_cons]
      omega
theorem Tp.wt_len2 (t : Tp.Tr) (h : Tp.rightT t = true) (m1 : t.ticks.length ≤ 500) (m3 : t.events.length ≤ 500) : (Tp.wt t).length ≤ 22000 := by
  unfold Tp.rightT at h
  simp only [Bool.and_eq_true] at h
  have := Tp.recs_len2 t.events t.ticks t.counts 0 h.2.1
  simp only [Tp.wt, Tp.bodyT, List.length_append, Tp.sl4, Tp.head, List.length_cons, List.length_nil]
  omega
end Go.Proofs.Ytgonadilbjfpkaa
