/- Layer 13: heads, sums and inputs' tapes, written by the program. -/
/- Layer 13: the document's numbers, sums and inputs' tapes, written. -/
/- Layer 13, plain: a count read from behind, as the document does. -/
/- Layer 13: the document's count: what stands at a place, read from behind. -/
/- Layer 13: the document's ReadNum, heads, sums and inputs' tapes. -/
/- Layer 13: where a tape is read, in its box; numbers and counts taken. -/
/- Layer 13: a count taken. -/
/- Layer 13: arrays of bytes held against each other. -/
import Derived.Test.YtneefpblfiedbaaZTpF
import Derived.ChangeKeysEq
namespace Go.Proofs.Ytneefpblfiedbaa
open Go.RowKit
set_option linter.unusedVariables false
theorem headOf_any (k : Int) (w : World) : Calls Try.prog 43 #[.int .u8 k] w fun e w' => e = .returned (.agg #[.int .u8 80, .int .u8 76, .int .u8 88, .int .u8 49, .int .u8 k]) ∧ Hid (Below w.heap.size w w') := by
  go_enter Try.func43, Try.ntmps43
  go_wp2_with fail
  refine ⟨rfl, _, by simp [results, Try.results43, go_sem], rfl, hidT ((Below.refl _ _).alloc (Nat.le_refl _) _)⟩
theorem five5 (w : World) (c0 c1 c2 c3 c4 : Value) (t : TypeId) : ∀ (j : Nat) u, [c0, c1, c2, c3, c4][j]? = some u → (w.alloc (.cells #[c0, c1, c2, c3, c4] t)).cell? ((⟨w.heap.size, 0, none⟩ : Addr).add j) = some u := by
  intro j u hj
  match j, hj with
  | 0, hj => simp at hj; subst hj; simp [Addr.add]
  | 1, hj => simp at hj; subst hj; simp [Addr.add]
  | 2, hj => simp at hj; subst hj; simp [Addr.add]
  | 3, hj => simp at hj; subst hj; simp [Addr.add]
  | 4, hj => simp at hj; subst hj; simp [Addr.add]
  | n + 5, hj => simp at hj
theorem four4 (w : World) (c0 c1 c2 c3 : Value) (t : TypeId) : ∀ (j : Nat) u, [c0, c1, c2, c3][j]? = some u → (w.alloc (.cells #[c0, c1, c2, c3] t)).cell? ((⟨w.heap.size, 0, none⟩ : Addr).add j) = some u := by
  intro j u hj
  match j, hj with
  | 0, hj => simp at hj; subst hj; simp [Addr.add]
  | 1, hj => simp at hj; subst hj; simp [Addr.add]
  | 2, hj => simp at hj; subst hj; simp [Addr.add]
  | 3, hj => simp at hj; subst hj; simp [Addr.add]
  | n + 4, hj => simp at hj
set_option maxRecDepth 100000 in
set_option maxHeartbeats 1000000 in
theorem putHead_any (k : Int) (w : World) : Calls Try.prog 24 #[.int .u8 k] w (PuQ w w.heap.size (Tp.head k)) := by
  obtain ⟨i0, hi, hz0, hz1, hz2⟩ := infoB'
  have H63 : Hid (0 + 5 ≤ maxLen ∧ (0 + 5 + (0 + 5) / 4 + 192) * 1 ≤ 281474976710656) := OwB.len63 (by decide)
  go_enter Try.func24, Try.ntmps24
  go_wp2_with fail
  refine (headOf_any k w).mono ?_
  rintro e w1 ⟨rfl, K1⟩
  have hb1 : w.heap.size ≤ w1.heap.size := K1.out.size
  go_wp2_with (at_builtin; refine wpList_append_own_wide _ rfl _ _ 27 rfl w.heap.size 5 i0 (.int .u8 0) 1 1 Try.underlying27 hi hz0 hz1 hz2 rfl (by decide) _ _ _ rfl (World.ownsRow_nil _ _ _ _) ⟨w1.heap.size, 0, none⟩ 5 5 (byC (Tp.head k)) rfl rfl (five5 _ _ _ _ _ _ _) (byC_one _) H63.out.1 H63.out.2 (by simp; omega) ?_)
  intro v8 w8 h8 g8 o8
  have HX : Hid (OwB w8 w.heap.size v8 (Tp.head k)) := h8
  have K8 : Hid (Below w.heap.size w w8) := K1.out.trans (((Below.refl _ w1).alloc hb1 _).trans ⟨g8.os, g8.tape, g8.output, g8.size, fun k hk => g8.block k (by simp; omega) (fun e => by cases e)⟩)
  clear h8 g8 o8
  go_wp2_with fail
  go_ret
  exact ⟨v8, rfl, HX.out, K8.out⟩
set_option maxHeartbeats 1000000 in
theorem sumOf_any (b : List Int) (a : Option Addr) (c : Nat) (w : World) (hb : Tp.Byt b) {B : Nat} (hm : ByS B w a b) (hl : b.length ≤ 4611686018427387904) (hB : B ≤ w.heap.size) :
    Calls Try.prog 46 #[.slice a b.length c] w fun e w' => e = .returned (.agg #[.int .u8 (Tp.sum b / 16777216), .int .u8 (Tp.sum b / 65536 % 256), .int .u8 (Tp.sum b / 256 % 256), .int .u8 (Tp.sum b % 256)]) ∧ Hid (Below w.heap.size w w') := by
  have HS := hidT (fun (w' : World) (h : Below B w w') => sumP_any b a c w' hb (hm.later h (Nat.le_refl _)) hl)
  obtain ⟨hs0, hs1⟩ := Tp.sum_bd b
  obtain ⟨n, hn⟩ : ∃ n, n = b.length := ⟨_, rfl⟩
  rw [← hn] at hl HS ⊢
  clear hn hm hb
  generalize Tp.sum b = S at *
  go_enter Try.func46, Try.ntmps46
  go_wp2_with fail
  refine (HS.out _ ((Below.refl B w).alloc hB _)).mono ?_
  rintro e w' ⟨rfl, rfl⟩
  go_wp2_with fail
  refine ⟨rfl, _, by simp [results, Try.results46, go_sem], rfl, hidT ((Below.refl _ _).alloc (Nat.le_refl _) _)⟩
set_option maxRecDepth 100000 in
set_option maxHeartbeats 1000000 in
theorem putSum_any (w : World) (base : Nat) (v : Value) (l : List Int) (hl : l.length ≤ 100000000) (hy : Tp.Byt l) (ho : OwB w base v l) (hb : base ≤ w.heap.size) :
    Calls Try.prog 26 #[v] w (PuQ w base (l ++ Tp.sl4 (Tp.sum l))) := by
  obtain ⟨i0, hi, hz0, hz1, hz2⟩ := infoB'
  obtain ⟨va, vc, hv⟩ := ownShT ho
  subst hv
  have H63 : Hid (l.length + 4 ≤ maxLen ∧ (l.length + 4 + (l.length + 4) / 4 + 192) * 1 ≤ 281474976710656) := OwB.len63 (by omega)
  have HS := hidT (sumOf_any l va vc w hy ho.bys (by omega) (Nat.le_refl _))
  have HO := hidT ho
  clear ho hy
  obtain ⟨S, hS⟩ : ∃ S, S = Tp.sum l := ⟨_, rfl⟩
  rw [← hS] at HS ⊢
  clear hS
  go_enter Try.func26, Try.ntmps26
  go_wp2_with fail
  refine HS.out.mono ?_
  rintro e w1 ⟨rfl, K1⟩
  have hb1 : w.heap.size ≤ w1.heap.size := K1.out.size
  have HO1 := hidT (ownLtT HO.out K1.out)
  go_wp2_with (at_builtin; refine wpList_append_own_wide _ rfl _ _ 27 rfl base 5 i0 (.int .u8 0) 1 1 Try.underlying27 hi hz0 hz1 hz2 rfl (by decide) _ _ _ rfl (ownLtT HO1.out ((Below.refl _ _).alloc (Nat.le_refl _) _)) ⟨w1.heap.size, 0, none⟩ 4 4 (byC (Tp.sl4 S)) rfl rfl (four4 _ _ _ _ _ _) (byC_one _) H63.out.1 H63.out.2 (by simp; omega) ?_)
  intro v8 w8 h8 g8 o8
  have HX : Hid (OwB w8 base v8 (l ++ Tp.sl4 S)) := OwB.of h8 rfl
  have K8 : Hid (Below base w w8) := (K1.out.mono hb).trans (OwB.below HO1.out (by omega) g8)
  clear h8 g8 o8
  go_wp2_with fail
  go_ret
  exact ⟨v8, rfl, HX.out, K8.out⟩
theorem writeIn_long (n : Nat) (a : Option Addr) (c : Nat) (w : World) (h : 1000 < n) (hl : n ≤ 4611686018427387904) :
    Calls Try.prog 14 #[.slice a n c] w fun e w' => e = .returned (.tuple #[.slice none 0 0, .int .i64 2]) ∧ w' = w := by
  have d : decide ((1000 : Int) < (n : Int)) = true := decide_eq_true (by omega)
  go_enter Try.func14, Try.ntmps14
  go_wp2_with fail
  go_ret2
  exact ⟨rfl, rfl⟩
/-- What a writer leaves. -/
def WrQ (w : World) (l : List Int) (e : Ending) (w' : World) : Prop := ∃ v', e = .returned (.tuple #[v', .int .i64 0]) ∧ OwB w' w.heap.size v' l ∧ Below w.heap.size w w'
theorem bodyL (l : List Int) (j : Nat) : (Tp.head 1 ++ Tp.dg l.length ++ (l.take j).flatMap (fun n => Tp.dg (Tp.zg n))).length ≤ 15 + j * 10 := by
  have h : ∀ l : List Int, (l.flatMap (fun n => Tp.dg (Tp.zg n))).length ≤ l.length * 10 := by
    intro l
    induction l with
    | nil => simp
    | cons c l ih =>
      have := Tp.dg_len (Tp.zg c)
      simp only [List.flatMap_cons, List.length_append, List.length_cons]
      omega
  have h1 := h (l.take j)
  have h2 := Tp.dg_len l.length
  have h3 : (l.take j).length ≤ j := by simp; omega
  have h4 : (Tp.head 1).length = 5 := rfl
  simp only [List.length_append]
  omega
theorem bodyB (l : List Int) (hl : l.length ≤ 1000) (hr : ∀ x ∈ l, -9223372036854775808 ≤ x ∧ x ≤ 9223372036854775807) : Tp.Byt (Tp.body l) := by
  unfold Tp.body
  refine (Tp.Byt.app (Tp.Byt.app ?_ (Tp.dg_byt _ (by omega))) ?_)
  · intro c hc; simp [Tp.head] at hc; omega
  · intro c hc
    obtain ⟨x, hx, hc⟩ := List.mem_flatMap.1 hc
    exact Tp.dg_byt _ (Tp.zg_lt _ (hr x hx).1 (hr x hx).2) c hc
set_option maxHeartbeats 2000000 in
theorem writeIn_any (l : List Int) (a : Option Addr) (c : Nat) (w : World) {B : Nat} (hm : NmS B w a l) (hB : B ≤ w.heap.size) (hl : l.length ≤ 1000) (hr : ∀ x ∈ l, -9223372036854775808 ≤ x ∧ x ≤ 9223372036854775807) :
    Calls Try.prog 14 #[.slice a l.length c] w (WrQ w (Tp.wi l)) := by
  have HM : Hid (NmS B w a l) := hm
  have HR := hidT hr
  have HY := hidT (bodyB l hl hr)
  obtain ⟨n, hn⟩ : ∃ n, n = l.length := ⟨_, rfl⟩
  have HN : Hid (n = l.length) := hn
  rw [← hn] at hl ⊢
  have d : decide ((1000 : Int) < (n : Int)) = false := decide_eq_false (by omega)
  clear hm hr hn
  go_enter Try.func14, Try.ntmps14
  go_wp2_with fail
  refine (putHead_any 1 w).mono ?_
  rintro e w1 ⟨v1, rfl, O1, K1⟩
  have HO1 := hidT O1
  have HK1 := hidT K1
  clear O1 K1
  go_wp2_with fail
  refine (putCt w1 w.heap.size v1 _ n (by omega) HO1.out HK1.out.size (by simp [Tp.head])).mono ?_
  rintro e w2 ⟨v2, rfl, O2, K2⟩
  have HO2 := hidT O2
  have HK2 := hidT (HK1.out.trans K2)
  clear O2 K2
  go_wp2_with fail
  go_loopg [4, 17] n (fun gk v i wr => ∃ (j : Nat), j + gk = n ∧ i = .int .i64 j ∧ Hid (OwB wr w.heap.size v (Tp.head 1 ++ Tp.dg l.length ++ (l.take j).flatMap (fun n => Tp.dg (Tp.zg n)))) ∧ Hid (Below w.heap.size w wr))
  case atStart => exact ⟨0, by omega, rfl, by have h := HO2.out; rw [HN.out] at h; simpa using hidT h, HK2⟩
  case round =>
    obtain ⟨j, hj, rfl, HO, HK⟩ := hrel
    have HW : Hid (w.heap.size ≤ wr.heap.size) := HK.out.size
    have HLn := hidT (bodyL l j)
    rcases gk with _ | gk
    · obtain rfl : j = n := by omega
      have dk : decide ((j : Int) < (j : Int)) = false := decide_eq_false (by omega)
      have HO' : Hid (OwB wr w.heap.size u4 (Tp.body l)) := by
        have h := HO.out
        rw [List.take_of_length_le (by rw [HN.out]; omega)] at h
        exact h
      have HLn' : Hid ((Tp.body l).length ≤ 100000000) := by
        have h := HLn.out
        rw [List.take_of_length_le (by rw [HN.out]; omega)] at h
        unfold Hid
        exact Nat.le_trans h (by omega)
      clear HO HLn
      go_wp2_with fail
      refine (putSum_any wr w.heap.size u4 (Tp.body l) HLn'.out HY.out HO'.out HW.out).mono ?_
      rintro e w3 ⟨v3, rfl, O3, K3⟩
      have HO3 := hidT O3
      have HK3 := hidT (HK.out.trans K3)
      clear O3 K3
      go_wp2_with fail
      go_ret2
      exact ⟨v3, rfl, HO3.out, HK3.out⟩
    · have hlt : j < n := by omega
      have dk : decide ((j : Int) < (n : Int)) = true := decide_eq_true (by omega)
      have dkn : decide (j < n) = true := decide_eq_true hlt
      obtain ⟨x, hx⟩ : ∃ x, l[j]? = some x := ⟨_, List.getElem?_eq_getElem (by rw [← HN.out]; exact hlt)⟩
      obtain ⟨g, o, rfl, hg, hc⟩ := (HM.out.later HK.out hB) (by rw [← HN.out]; omega)
      have a0 := hc j x hx
      obtain ⟨hx0, hx1⟩ := HR.out x (List.mem_of_getElem? hx)
      have HT : Hid (l.take (j + 1) = l.take j ++ [x]) := by
        unfold Hid
        rw [List.take_add_one, hx]
        rfl
      clear hx hc
      go_wp2_with fail
      refine (putNm wr w.heap.size u4 _ x hx0 hx1 HO.out HW.out (Nat.le_trans HLn.out (by omega))).mono ?_
      rintro e w3 ⟨v3, rfl, O3, K3⟩
      have HO3 := hidT O3
      have HK3 := hidT (HK.out.trans K3)
      clear O3 K3
      go_wp2_with fail
      go_roundg gk
      case measure => omega
      case rel =>
        refine ⟨j + 1, by omega, by go_num, ?_, HK3⟩
        rw [HT.out, List.flatMap_append]
        have h := HO3.out
        rw [List.append_assoc] at h
        simpa using hidT h
end Go.Proofs.Ytneefpblfiedbaa

namespace Go.Proofs.Ytneefpblfiedbaa
open Go.RowKit
set_option linter.unusedVariables false
theorem rZag_any (z : Nat) (hz : z < 18446744073709551616) (w : World) : Calls Try.prog 69 #[.int .u64 z] w fun e w' => e = .returned (.int .i64 (Tp.zag z)) ∧ w' = w := by
  by_cases h2 : (z : Int) % 2 = 0
  · have q : ((z : Int) % 2 == 0) = true := by simpa using h2
    have H2 : Hid ((z : Int) % 2 = 0) := h2
    clear h2
    go_enter Try.func69, Try.ntmps69
    go_wp2_with fail
    go_ret
    have h2 := H2.out
    refine ⟨retI ?_, rfl⟩
    unfold Tp.zag
    split <;> omega
  · have q : ((z : Int) % 2 == 0) = false := by simpa using h2
    have H2 : Hid (¬ (z : Int) % 2 = 0) := h2
    clear h2
    go_enter Try.func69, Try.ntmps69
    go_wp2_with fail
    go_ret
    have h2 := H2.out
    refine ⟨retI ?_, rfl⟩
    unfold Tp.zag
    split <;> omega
theorem rZig_any (n : Int) (w : World) (h0 : -9223372036854775808 ≤ n) (h1 : n ≤ 9223372036854775807) : Calls Try.prog 72 #[.int .i64 n] w fun e w' => e = .returned (.int .u64 (Tp.zg n)) ∧ w' = w := by
  by_cases h2 : 0 ≤ n
  · have q : decide (0 ≤ n) = true := decide_eq_true h2
    go_enter Try.func72, Try.ntmps72
    go_wp2_with fail
    go_ret
    refine ⟨retI ?_, rfl⟩
    try simp only [IntKind.wrap_u64]
    unfold Tp.zg
    split <;> omega
  · have q : decide (0 ≤ n) = false := decide_eq_false h2
    go_enter Try.func72, Try.ntmps72
    go_wp2_with fail
    go_ret
    refine ⟨retI ?_, rfl⟩
    try simp only [IntKind.wrap_u64]
    unfold Tp.zg
    split <;> omega
set_option maxHeartbeats 2000000 in
theorem rCount_any (w : World) (z : Nat) (hz : z < 18446744073709551616) :
    Calls Try.prog 38 #[.int .u64 z] w (PuQ w w.heap.size (Tp.dg z)) := by
  obtain ⟨i0, hi, hz0, hz1, hz2⟩ := infoB'
  obtain ⟨base, hbase⟩ : ∃ b, b = w.heap.size := ⟨_, rfl⟩
  have HB : Hid (base = w.heap.size) := hbase
  rw [← hbase]
  clear hbase
  go_enter Try.func38, Try.ntmps38
  go_wp2_with fail
  go_loopg [0, 3] 10 (fun gk y x wr => ∃ (u : Value) (l' : List Int) (q : Nat), x = u ∧ y = .int .u64 q ∧ q < 18446744073709551616 ∧ Hid (OwB wr base u l' ∧ Below base w wr ∧ Tp.dg z = l' ++ Tp.dgF gk.pred q ∧ l'.length + gk = 10 ∧ q < 128 ^ gk ∧ 0 < gk))
  case atStart => exact ⟨_, [], z, rfl, rfl, hz, World.ownsRow_nil _ _ _ _, Below.refl _ _, rfl, rfl, Nat.lt_of_lt_of_le hz (by decide), by decide⟩
  case round =>
    obtain ⟨u, l', q, rfl, rfl, hq, HR⟩ := hrel
    have HBR : Hid (base ≤ wr.heap.size) := Nat.le_trans (Nat.le_of_eq HB.out) HR.out.2.1.size
    obtain ⟨ua, cap, hv⟩ := ownShT HR.out.1
    subst hv
    have H63 : Hid (l'.length + 1 ≤ maxLen ∧ ((l'.length + 1) + (l'.length + 1) / 4 + 192) * 1 ≤ 281474976710656) := by
      have := HR.out.2.2.2.1
      exact OwB.len63 (by omega)
    by_cases h128 : 128 ≤ q
    · have d1 : ((q : Int) / 128 == 0) = false := by simp; omega
      have d2 : (q / 128 == 0) = false := by simp; omega
      have d3 : ¬ q / 128 = 0 := by omega
      go_wp2_with (at_builtin; refine wpList_append_own_wide _ rfl _ _ 27 rfl base 5 i0 (.int .u8 0) 1 1 Try.underlying27 hi hz0 hz1 hz2 rfl (by decide) _ _ _ rfl (ownLtT HR.out.1 ((Below.refl _ _).alloc (Nat.le_refl _) _)) ⟨wr.heap.size, 0, none⟩ 1 1 [_] rfl rfl (one1 _ _ _) (by intro x hx; simp at hx; subst hx; rfl) H63.out.1 H63.out.2 (by simp; exact Nat.le_trans HBR.out (Nat.le_succ _)) ?_)
      intro v8 w8 h8 g8 o8
      have K8 := hidT (HR.out.1.below HBR.out g8)
      have HX : Hid (OwB w8 base v8 (l' ++ [((q % 128 + 128 : Nat) : Int)])) := OwB.of (m := [((q % 128 + 128 : Nat) : Int)]) h8 rfl
      clear h8 g8 o8
      go_wp2_with fail
      obtain ⟨o1, k1, e1, n1, q1, p1⟩ := HR.out
      have h2 : 2 ≤ gk := by
        rcases (by omega : gk = 1 ∨ 2 ≤ gk) with rfl | h
        · simp at q1; omega
        · exact h
      obtain ⟨m, rfl⟩ : ∃ m, gk = m + 2 := ⟨gk - 2, by omega⟩
      go_roundg (m + 1)
      case measure => omega
      case rel =>
        refine ⟨v8, l' ++ [((q % 128 + 128 : Nat) : Int)], q / 128, rfl, rfl, by omega, HX.out, k1.trans K8.out, ?_, by simp; omega, ?_, by omega⟩
        · rw [e1, List.append_assoc]
          show l' ++ Tp.dgF (m + 1) q = _
          rw [Tp.dgF, if_neg (by omega)]
          rfl
        · rw [Nat.div_lt_iff_lt_mul (by decide)]
          rwa [← Nat.pow_succ]
    · have d1 : ((q : Int) / 128 == 0) = true := by simp; omega
      have d2 : (q / 128 == 0) = true := by simp; omega
      have d3 : q / 128 = 0 := by omega
      have d4 : (q : Int) % 128 = q := by omega
      go_wp2_with (at_builtin; refine wpList_append_own_wide _ rfl _ _ 27 rfl base 5 i0 (.int .u8 0) 1 1 Try.underlying27 hi hz0 hz1 hz2 rfl (by decide) _ _ _ rfl (ownLtT HR.out.1 ((Below.refl _ _).alloc (Nat.le_refl _) _)) ⟨wr.heap.size, 0, none⟩ 1 1 [_] rfl rfl (one1 _ _ _) (by intro x hx; simp at hx; subst hx; rfl) H63.out.1 H63.out.2 (by simp; exact Nat.le_trans HBR.out (Nat.le_succ _)) ?_)
      intro v8 w8 h8 g8 o8
      have K8 := hidT (HR.out.1.below HBR.out g8)
      have HX : Hid (OwB w8 base v8 (l' ++ [(q : Int)])) := OwB.of (m := [(q : Int)]) h8 rfl
      clear h8 g8 o8
      go_wp2_with fail
      go_ret
      obtain ⟨o1, k1, e1, n1, q1, p1⟩ := HR.out
      refine ⟨v8, rfl, ?_, k1.trans K8.out⟩
      have e2 : Tp.dgF gk.pred q = [(q : Int)] := by
        cases gk.pred with
        | zero => rfl
        | succ m => rw [Tp.dgF, if_pos (by omega)]
      rw [e1, e2]
      exact HX.out
theorem rNum_any (w : World) (n : Int) (h0 : -9223372036854775808 ≤ n) (h1 : n ≤ 9223372036854775807) :
    Calls Try.prog 61 #[.int .i64 n] w (PuQ w w.heap.size (Tp.dg (Tp.zg n))) := by
  have HP := hidT (rCount_any w (Tp.zg n) (Tp.zg_lt n h0 h1))
  go_enter Try.func61, Try.ntmps61
  go_wp2_with fail
  refine (rZig_any n _ h0 h1).mono ?_
  rintro e w' ⟨rfl, rfl⟩
  go_wp2_with fail
  refine HP.out.mono ?_
  rintro e w' ⟨v', rfl, O, K⟩
  have HO := hidT O
  have HK := hidT K
  clear O K
  go_wp2_with fail
  go_ret
  exact ⟨v', rfl, HO.out, HK.out⟩
set_option maxHeartbeats 2000000 in
theorem rSum_any (b : List Int) (a : Option Addr) (c : Nat) (w : World) (hb : Tp.Byt b) {B : Nat} (hm : ByS B w a b) (hl : b.length ≤ 4611686018427387904) :
    Calls Try.prog 49 #[.slice a b.length c] w fun e w' => e = .returned (.int .u32 (Tp.sum b)) ∧ w' = w := by
  have HB : Hid (Tp.Byt b) := hb
  have HM : Hid (ByS B w a b) := hm
  obtain ⟨n, hn⟩ : ∃ n, n = b.length := ⟨_, rfl⟩
  have HN : Hid (n = b.length) := hn
  rw [← hn] at hl ⊢
  obtain ⟨S, hS⟩ : ∃ S, S = Tp.sum b := ⟨_, rfl⟩
  have HS : Hid (S = Tp.sum b) := hS
  rw [← hS]
  clear hb hm hn hS
  go_enter Try.func49, Try.ntmps49
  go_wp2_with fail
  go_loopg [3, 4, 5] n (fun gk x y i wr => ∃ (j : Nat) (p q : Int), j + gk = n ∧ i = .int .i64 j ∧ x = .int .i64 p ∧ y = .int .i64 q ∧ 0 ≤ p ∧ p < 65521 ∧ 0 ≤ q ∧ q < 65521 ∧ wr = w ∧ Hid (Tp.sm (b.take j) = (p, q)))
  case atStart => exact ⟨0, 1, 0, by omega, rfl, rfl, rfl, by omega, by omega, by omega, by omega, rfl, hidT rfl⟩
  case round =>
    obtain ⟨j, p, q, hj, rfl, rfl, rfl, hp0, hp1, hq0, hq1, rfl, HR⟩ := hrel
    rcases gk with _ | gk
    · obtain rfl : j = n := by omega
      have dk : decide ((j : Int) < (j : Int)) = false := decide_eq_false (by omega)
      go_wp2_with fail
      go_ret
      refine ⟨retI ?_, rfl⟩
      rw [HS.out]
      have hr := HR.out
      rw [List.take_of_length_le (by rw [HN.out]; omega)] at hr
      unfold Tp.sum
      rw [hr]
    · have hlt : j < n := by omega
      have dk : decide ((j : Int) < (n : Int)) = true := decide_eq_true (by omega)
      have dkn : decide (j < n) = true := decide_eq_true hlt
      obtain ⟨x, hx⟩ : ∃ x, b[j]? = some x := ⟨_, List.getElem?_eq_getElem (by rw [← HN.out]; exact hlt)⟩
      obtain ⟨g, o, rfl, hg, hc⟩ := HM.out (by rw [← HN.out]; omega)
      have a0 := hc j x hx
      obtain ⟨hx0, hx1⟩ := HB.out x (List.mem_of_getElem? hx)
      have HT : Hid (b.take (j + 1) = b.take j ++ [x]) := by
        unfold Hid
        rw [List.take_add_one, hx]
        rfl
      clear hx hc
      obtain ⟨p', hp'⟩ : ∃ p', p' = (p + x) % 65521 := ⟨_, rfl⟩
      have HP' := hidT hp'
      have hpb : 0 ≤ p' ∧ p' < 65521 := by omega
      by_cases hs1 : 65521 ≤ p + x
      · have s1 : decide (65521 ≤ p + x) = true := decide_eq_true hs1
        have t1 : p + x - 65521 = p' := by omega
        clear hp'
        by_cases hs2 : 65521 ≤ q + p'
        · have s2 : decide (65521 ≤ q + p') = true := decide_eq_true hs2
          go_wp2_with fail
          go_roundg gk
          case measure => omega
          case rel =>
            refine ⟨j + 1, p', (q + p') % 65521, by omega, by go_num, rfl, ?_, by omega, by omega, by omega, by omega, rfl, ?_⟩
            · exact congrArg _ (by omega)
            · unfold Hid
              rw [HT.out, Tp.sm_app, HR.out, HP'.out]
              rfl
        · have s2 : decide (65521 ≤ q + p') = false := decide_eq_false hs2
          go_wp2_with fail
          go_roundg gk
          case measure => omega
          case rel =>
            refine ⟨j + 1, p', (q + p') % 65521, by omega, by go_num, rfl, ?_, by omega, by omega, by omega, by omega, rfl, ?_⟩
            · exact congrArg _ (by omega)
            · unfold Hid
              rw [HT.out, Tp.sm_app, HR.out, HP'.out]
              rfl
      · have s1 : decide (65521 ≤ p + x) = false := decide_eq_false hs1
        have t1 : p + x = p' := by omega
        clear hp'
        by_cases hs2 : 65521 ≤ q + p'
        · have s2 : decide (65521 ≤ q + p') = true := decide_eq_true hs2
          go_wp2_with fail
          go_roundg gk
          case measure => omega
          case rel =>
            refine ⟨j + 1, p', (q + p') % 65521, by omega, by go_num, ?_, ?_, by omega, by omega, by omega, by omega, rfl, ?_⟩
            · exact congrArg _ (by omega)
            · exact congrArg _ (by omega)
            · unfold Hid
              rw [HT.out, Tp.sm_app, HR.out, HP'.out]
              rfl
        · have s2 : decide (65521 ≤ q + p') = false := decide_eq_false hs2
          go_wp2_with fail
          go_roundg gk
          case measure => omega
          case rel =>
            refine ⟨j + 1, p', (q + p') % 65521, by omega, by go_num, ?_, ?_, by omega, by omega, by omega, by omega, rfl, ?_⟩
            · exact congrArg _ (by omega)
            · exact congrArg _ (by omega)
            · unfold Hid
              rw [HT.out, Tp.sm_app, HR.out, HP'.out]
              rfl
end Go.Proofs.Ytneefpblfiedbaa

namespace Go.Proofs.Ytneefpblfiedbaa.Tp
open Go.RowKit
set_option linter.unusedVariables false
/-- How many bytes go on, at most so many. -/
def cn : Nat → List Int → Nat
  | 0, _ => 0
  | f + 1, [] => 0
  | f + 1, c :: l => if 128 ≤ c then cn f l + 1 else 0
def vl : List Int → Nat
  | [] => 0
  | c :: l => c.toNat % 128 + 128 * vl l
theorem cn_le (f : Nat) (l : List Int) : cn f l ≤ f := by
  induction f generalizing l with
  | zero => cases l <;> simp [cn]
  | succ f ih =>
    cases l with
    | nil => simp [cn]
    | cons c l => unfold cn; split; have := ih l; omega; omega
theorem cn_len (f : Nat) (l : List Int) : cn f l ≤ l.length := by
  induction f generalizing l with
  | zero => cases l <;> simp [cn]
  | succ f ih =>
    cases l with
    | nil => simp [cn]
    | cons c l => unfold cn; split <;> simp; exact ih l
theorem rdF_cn (l : List Int) (i a : Nat) (hi : i ≤ 9) (hb : Byt l) :
    (i + cn (10 - i) l = 10 → rdF i a l = .inr 110) ∧
    (i + cn (10 - i) l ≤ 9 → (l[cn (10 - i) l]? = none → rdF i a l = .inr 112) ∧
      ∀ x, l[cn (10 - i) l]? = some x → ((i + cn (10 - i) l = 9 ∧ 1 < x) ∨ (0 < i + cn (10 - i) l ∧ x = 0) → rdF i a l = .inr 110) ∧
        (¬ ((i + cn (10 - i) l = 9 ∧ 1 < x) ∨ (0 < i + cn (10 - i) l ∧ x = 0)) → rdF i a l = .inl (a + vl (l.take (cn (10 - i) l + 1)) * 128 ^ i, i + cn (10 - i) l + 1))) := by
  induction l generalizing i a with
  | nil =>
    have e : cn (10 - i) [] = 0 := by cases 10 - i <;> rfl
    rw [e]
    exact ⟨fun h => by omega, fun _ => ⟨fun _ => rfl, fun x hx => by simp at hx⟩⟩
  | cons c l ih =>
    have hc := hb c (by simp)
    have hb' : Byt l := fun x hx => hb x (by simp [hx])
    obtain ⟨f, hf⟩ : ∃ f, 10 - i = f + 1 := ⟨9 - i, by omega⟩
    have hf' : f = 10 - (i + 1) := by omega
    rw [hf]
    by_cases h128 : 128 ≤ c
    · have e : cn (f + 1) (c :: l) = cn f l + 1 := by simp [cn, h128]
      rw [e]
      by_cases h9 : i = 9
      · subst h9
        have f0 : f = 0 := by omega
        subst f0
        have e0 : cn 0 l = 0 := by cases l <;> rfl
        rw [e0]
        refine ⟨fun _ => ?_, fun h => by omega⟩
        rw [rdF, if_pos (by omega)]
      · have hr : rdF i a (c :: l) = rdF (i + 1) (a + (c.toNat - 128) * 128 ^ i) l := by
          rw [rdF, if_neg (by omega), if_neg (by omega)]
        rw [hr]
        obtain ⟨i1, i2⟩ := ih (i + 1) (a + (c.toNat - 128) * 128 ^ i) (by omega) hb'
        rw [← hf'] at i1 i2
        have en : i + (cn f l + 1) = i + 1 + cn f l := by omega
        rw [en]
        refine ⟨i1, fun h => ?_⟩
        obtain ⟨j1, j2⟩ := i2 h
        refine ⟨fun hx => j1 (by simpa using hx), fun x hx => ?_⟩
        obtain ⟨k1, k2⟩ := j2 x (by simpa using hx)
        refine ⟨k1, fun hn => ?_⟩
        rw [k2 hn]
        congr 1
        rw [List.take_succ_cons, vl]
        have ec : c.toNat % 128 = c.toNat - 128 := by omega
        rw [ec, Nat.add_mul, Nat.pow_succ, Nat.mul_comm (128 ^ i) 128, ← Nat.mul_assoc, Nat.mul_comm (vl _) 128, Nat.add_assoc]
    · have e : cn (f + 1) (c :: l) = 0 := by simp [cn, h128]
      rw [e]
      refine ⟨fun h => by omega, fun _ => ⟨fun hx => by simp at hx, fun x hx => ?_⟩⟩
      simp at hx
      subst hx
      refine ⟨fun h => by rw [rdF, if_pos (by omega)], fun h => ?_⟩
      rw [rdF, if_neg (by omega), if_pos (by omega)]
      have ec : c.toNat % 128 = c.toNat := by omega
      simp [vl, ec]
theorem vl_drop (l : List Int) (j : Nat) : vl (l.drop j) ≤ vl l := by
  induction l generalizing j with
  | nil => simp
  | cons c l ih =>
    cases j with
    | zero => simp
    | succ j => rw [List.drop_succ_cons]; have := ih j; simp only [vl]; omega
end Go.Proofs.Ytneefpblfiedbaa.Tp

namespace Go.Proofs.Ytneefpblfiedbaa
open Go.RowKit
set_option linter.unusedVariables false
namespace Tp
theorem cn_in (f : Nat) (l : List Int) (n : Nat) (h : n < cn f l) : ∃ x, l[n]? = some x ∧ 128 ≤ x := by
  induction f generalizing l n with
  | zero => cases l <;> simp [cn] at h
  | succ f ih =>
    cases l with
    | nil => simp [cn] at h
    | cons c l =>
      unfold cn at h
      split at h
      · rename_i hc
        cases n with
        | zero => exact ⟨c, by simp, hc⟩
        | succ n => obtain ⟨x, h1, h2⟩ := ih l n (by omega); exact ⟨x, by simpa using h1, h2⟩
      · omega
theorem cn_at (f : Nat) (l : List Int) (x : Int) (h : cn f l < f) (hx : l[cn f l]? = some x) : x < 128 := by
  induction f generalizing l with
  | zero => omega
  | succ f ih =>
    cases l with
    | nil => simp [cn] at hx
    | cons c l =>
      by_cases hc : 128 ≤ c
      · have e : cn (f + 1) (c :: l) = cn f l + 1 := by simp [cn, hc]
        rw [e] at h hx
        exact ih l (by omega) (by simpa using hx)
      · have e : cn (f + 1) (c :: l) = 0 := by simp [cn, hc]
        rw [e] at hx
        simp at hx
        omega
end Tp
def rcV (k : Nat) : (Nat × Nat) ⊕ Int → Value
  | .inl (z, u) => .tuple #[.int .u64 z, .int .i64 ((k + u : Nat) : Int), .int .i64 0]
  | .inr x => .tuple #[.int .u64 0, .int .i64 k, .int .i64 x]
set_option maxHeartbeats 8000000 in
theorem rcount_any (b : List Int) (k : Nat) (a : Option Addr) (c : Nat) (w : World) (hb : Tp.Byt b) {B : Nat} (hm : ByS B w a b) (hc : b.length ≤ c) (hl : b.length ≤ 4611686018427387904) (hk : k ≤ b.length) :
    Calls Try.prog 68 #[.slice a b.length c, .int .i64 k] w fun e w' => e = .returned (rcV k (Tp.rdF 0 0 (b.drop k))) ∧ w' = w := by
  have HB : Hid (Tp.Byt b) := hb
  have HM : Hid (ByS B w a b) := hm
  obtain ⟨n0, hn⟩ : ∃ n, n = b.length := ⟨_, rfl⟩
  have HN : Hid (n0 = b.length) := hn
  rw [← hn] at hl hc hk ⊢
  have hR := Tp.rdF_cn (b.drop k) 0 0 (by decide) (hb.drop k)
  obtain ⟨N, hN⟩ : ∃ N, N = Tp.cn 10 (b.drop k) := ⟨_, rfl⟩
  have hN10 : N ≤ 10 := by rw [hN]; exact Tp.cn_le _ _
  have hNl : k + N ≤ n0 := by
    have := Tp.cn_len 10 (b.drop k)
    rw [List.length_drop] at this
    omega
  have hin : ∀ n, n < N → ∃ x, b[k + n]? = some x ∧ 128 ≤ x := fun n h => by
    obtain ⟨x, h1, h2⟩ := Tp.cn_in 10 (b.drop k) n (by omega)
    exact ⟨x, by simpa using h1, h2⟩
  have hat : ∀ x, N < 10 → b[k + N]? = some x → x < 128 := fun x h h1 => Tp.cn_at 10 (b.drop k) x (by omega) (by rw [← hN]; simpa using h1)
  simp only [Nat.zero_add, Nat.sub_zero, Nat.pow_zero, Nat.mul_one, ← hN, List.getElem?_drop] at hR
  have HR := hidT hR
  have HIN := hidT hin
  have HAT := hidT hat
  obtain ⟨post, hpost⟩ : ∃ p, p = rcV k (Tp.rdF 0 0 (b.drop k)) := ⟨_, rfl⟩
  have HP := hidT hpost
  rw [← hpost]
  clear hb hm hn hR hN hin hat hpost
  go_enter Try.func68, Try.ntmps68
  go_wp2_with fail
  go_loopg [7] N (fun gk i wr => ∃ j : Nat, j + gk = N ∧ i = .int .i64 j ∧ wr = w)
  case atStart => exact ⟨0, by omega, rfl, rfl⟩
  case round =>
    obtain ⟨j, hj, rfl, rfl⟩ := hrel
    rcases gk with _ | gk
    · obtain rfl : j = N := by omega
      rcases (by omega : (j = 10 ∧ n0 ≤ k + j) ∨ (j = 9 ∧ n0 ≤ k + j) ∨ (j < 9 ∧ n0 ≤ k + j) ∨ k + j < n0) with H | H | H | H
      · obtain ⟨rfl, h1⟩ := H
        have d1 : decide ((k : Int) + 10 < (n0 : Int)) = false := decide_eq_false (by omega)
        have d2 : decide (k + 10 < n0) = false := decide_eq_false (by omega)
        have d3 : ¬ k + 10 < n0 := by omega
        go_wp2_with fail
        go_ret3
        refine ⟨?_, rfl⟩
        rw [HP.out, HR.out.1 (by simp)]
        rfl
      · obtain ⟨rfl, h1⟩ := H
        have hr := hidT ((HR.out.2 (by decide)).1 (List.getElem?_eq_none (by rw [← HN.out]; exact h1)))
        have d1 : decide ((k : Int) + 9 < (n0 : Int)) = false := decide_eq_false (by omega)
        have d2 : decide (k + 9 < n0) = false := decide_eq_false (by omega)
        have d3 : ¬ k + 9 < n0 := by omega
        have d4 : decide ((n0 : Int) ≤ (k : Int) + 9) = true := decide_eq_true (by omega)
        have d5 : n0 ≤ k + 9 := h1
        go_wp2_with fail
        go_ret3
        refine ⟨?_, rfl⟩
        rw [HP.out, hr.out]
        rfl
      · obtain ⟨h0, h1⟩ := H
        have hr := hidT ((HR.out.2 (by omega)).1 (List.getElem?_eq_none (by rw [← HN.out]; exact h1)))
        have q10 : ((j : Int) == 10) = false := by simp; omega
        have q9 : ((j : Int) == 9) = false := by simp; omega
        have q10n : (j == 10) = false := by simp; omega
        have q9n : (j == 9) = false := by simp; omega
        have q10m : ¬ j = 10 := by omega
        have q9m : ¬ j = 9 := by omega
        have d1 : decide ((k : Int) + j < (n0 : Int)) = false := decide_eq_false (by omega)
        have d2 : decide (k + j < n0) = false := decide_eq_false (by omega)
        have d3 : ¬ k + j < n0 := by omega
        have d4 : decide ((n0 : Int) ≤ (k : Int) + j) = true := decide_eq_true (by omega)
        have d5 : n0 ≤ k + j := h1
        go_wp2_with fail
        go_ret3
        refine ⟨?_, rfl⟩
        rw [HP.out, hr.out]
        rfl
      · have dj1 : decide ((k : Int) + j < (n0 : Int)) = true := decide_eq_true (by omega)
        have dj2 : decide (k + j < n0) = true := decide_eq_true H
        have dj4 : decide ((n0 : Int) ≤ (k : Int) + j) = false := decide_eq_false (by omega)
        have dj5 : ¬ n0 ≤ k + j := by omega
        obtain ⟨x, hx⟩ : ∃ x, b[k + j]? = some x := ⟨_, List.getElem?_eq_getElem (by rw [← HN.out]; exact H)⟩
        obtain ⟨g, o, rfl, hg, hcell⟩ := HM.out (by rw [← HN.out]; omega)
        have a0 := hcell _ x hx
        obtain ⟨hx0, hx1⟩ := HB.out x (List.mem_of_getElem? hx)
        have HC := hidT hcell
        have HX := hidT hx
        clear hcell hx
        rcases (by omega : (j = 10 ∧ x < 128) ∨ (j = 10 ∧ 128 ≤ x) ∨ (j ≤ 9)) with HJ | HJ | HJ
        · obtain ⟨rfl, h1⟩ := HJ
          have e1 : decide (128 ≤ x) = false := decide_eq_false (by omega)
          go_wp2_with fail
          go_ret3
          refine ⟨?_, rfl⟩
          rw [HP.out, HR.out.1 (by simp)]
          rfl
        · obtain ⟨rfl, h1⟩ := HJ
          have e1 : decide (128 ≤ x) = true := decide_eq_true (by omega)
          go_wp2_with fail
          go_ret3
          refine ⟨?_, rfl⟩
          rw [HP.out, HR.out.1 (by simp)]
          rfl
        · have hx128 : x < 128 := HAT.out x (by omega) HX.out
          have e1 : decide (128 ≤ x) = false := decide_eq_false (by omega)
          obtain ⟨hrE, hrG⟩ := (HR.out.2 HJ).2 x HX.out
          have HRE := hidT hrE
          have HRG := hidT hrG
          clear hrE hrG
          rcases (by omega : (j = 9 ∧ 1 < x) ∨ (j = 9 ∧ x = 0) ∨ (j = 9 ∧ x = 1) ∨ (j < 9 ∧ 0 < j ∧ x = 0) ∨ (j < 9 ∧ 0 < j ∧ x ≠ 0) ∨ j = 0) with HK | HK | HK | HK | HK | HK
          · obtain ⟨rfl, h1⟩ := HK
            have t1 : decide (1 < x) = true := decide_eq_true h1
            go_wp2_with fail
            go_ret3
            refine ⟨?_, rfl⟩
            rw [HP.out, HRE.out (.inl ⟨by simp, h1⟩)]
            rfl
          · obtain ⟨rfl, h1⟩ := HK
            have H1 := hidT h1
            have t1 : decide (1 < x) = false := decide_eq_false (by omega)
            have t2 : (x == 0) = true := by simp [h1]
            clear h1
            go_wp2_with fail
            go_ret3
            refine ⟨?_, rfl⟩
            rw [HP.out, HRE.out (.inr ⟨by simp, H1.out⟩)]
            rfl
          · obtain ⟨rfl, rfl⟩ := HK
            have hr := hidT (HRG.out (by decide))
            have HZ : Hid (Tp.vl ((b.drop k).take (9 + 1)) < 18446744073709551616) := (Tp.rd_back _ _ _ (HB.out.drop k) hr.out).2.2.2
            clear HRE HRG
            go_wp2_with fail
            go_loopg [8, 9] (9 + 1) (fun gk2 z i wr2 => ∃ (m y : Nat), m = gk2 ∧ m ≤ 9 + 1 ∧ i = .int .i64 ((m : Int) - 1) ∧ z = .int .u64 y ∧ wr2 = wr ∧ Hid (y = Tp.vl (((b.drop k).take (9 + 1)).drop m)))
            case atStart => exact ⟨9 + 1, 0, rfl, by omega, by go_num, rfl, rfl, hidT (by rw [List.drop_eq_nil_of_le (by simp; omega)]; rfl)⟩
            case round =>
              rename_i gk2 wr2
              obtain ⟨m, y, hm, hmj, rfl, rfl, rfl, HY⟩ := hrel
              rcases m with _ | m
              · have f0 : decide ((0 : Int) ≤ ((0 : Nat) : Int) - 1) = false := by decide
                have f1 : decide ((0 : Int) ≤ -1) = false := by decide
                go_wp2_with fail
                go_ret3
                refine ⟨?_, rfl⟩
                rw [HP.out, hr.out]
                have hy := HY.out
                rw [List.drop_zero] at hy
                rw [← hy]
                show _ = Ending.returned (.tuple #[.int .u64 y, .int .i64 ((k + (9 + 1) : Nat) : Int), .int .i64 0])
                first
                  | rfl
                  | (have e2 : ((k : Int) + 9 + 1) = ((k + (9 + 1) : Nat) : Int) := by omega
                     rw [← e2]
                     try rfl)
              · have hm1 : (((m + 1 : Nat) : Int) - 1) = (m : Int) := by omega
                obtain ⟨v, hv⟩ : ∃ v, b[k + m]? = some v := ⟨_, List.getElem?_eq_getElem (by rw [← HN.out]; omega)⟩
                have c0 := HC.out _ v hv
                obtain ⟨hv0, hv1⟩ := HB.out v (List.mem_of_getElem? hv)
                have hst : Tp.vl (((b.drop k).take (9 + 1)).drop m) = v.toNat % 128 + 128 * y := by
                  rw [HY.out]
                  have hge : ((b.drop k).take (9 + 1))[m]? = some v := by rw [List.getElem?_take, if_pos (by omega), List.getElem?_drop]; exact hv
                  rw [List.getElem?_eq_some_iff] at hge
                  obtain ⟨g1, g2⟩ := hge
                  rw [List.drop_eq_getElem_cons g1, g2]
                  rfl
                have hzb := Nat.lt_of_le_of_lt (Tp.vl_drop ((b.drop k).take (9 + 1)) m) HZ.out
                rw [hst] at hzb
                have HST := hidT hst
                clear hst hv
                have m0 : decide ((0 : Int) ≤ (m : Int)) = true := decide_eq_true (by omega)
                have m1 : decide (k + m < n0) = true := decide_eq_true (by omega)
                have m2 : decide ((k : Int) + m < (n0 : Int)) = true := decide_eq_true (by omega)
                have m3 : k + m < n0 := by omega
                rw [hm1]
                clear hm1
                go_wp2_with fail
                go_roundg m
                case measure => omega
                case rel =>
                  refine ⟨m, v.toNat % 128 + 128 * y, rfl, by omega, by go_num, ?_, rfl, hidT HST.out.symm⟩
                  exact congrArg _ (by omega)
          · obtain ⟨h0, h2, h1⟩ := HK
            have H1 := hidT h1
            have q10 : ((j : Int) == 10) = false := by simp; omega
            have q9 : ((j : Int) == 9) = false := by simp; omega
            have q10n : (j == 10) = false := by simp; omega
            have q9n : (j == 9) = false := by simp; omega
            have q10m : ¬ j = 10 := by omega
            have q9m : ¬ j = 9 := by omega
            have p0 : decide (0 < (j : Int)) = true := decide_eq_true (by omega)
            have p1 : decide (0 < j) = true := decide_eq_true (by omega)
            have p2 : 0 < j := by omega
            have t2 : (x == 0) = true := by simp [h1]
            clear h1
            go_wp2_with fail
            go_ret3
            refine ⟨?_, rfl⟩
            rw [HP.out, HRE.out (.inr ⟨h2, H1.out⟩)]
            rfl
          · obtain ⟨h0, h2, h1⟩ := HK
            have q10 : ((j : Int) == 10) = false := by simp; omega
            have q9 : ((j : Int) == 9) = false := by simp; omega
            have q10n : (j == 10) = false := by simp; omega
            have q9n : (j == 9) = false := by simp; omega
            have q10m : ¬ j = 10 := by omega
            have q9m : ¬ j = 9 := by omega
            have p0 : decide (0 < (j : Int)) = true := decide_eq_true (by omega)
            have p1 : decide (0 < j) = true := decide_eq_true (by omega)
            have p2 : 0 < j := by omega
            have t2 : (x == 0) = false := by simpa using h1
            have hr := hidT (HRG.out (by omega))
            have HZ : Hid (Tp.vl ((b.drop k).take (j + 1)) < 18446744073709551616) := (Tp.rd_back _ _ _ (HB.out.drop k) hr.out).2.2.2
            clear HRE HRG
            go_wp2_with fail
            go_loopg [8, 9] (j + 1) (fun gk2 z i wr2 => ∃ (m y : Nat), m = gk2 ∧ m ≤ j + 1 ∧ i = .int .i64 ((m : Int) - 1) ∧ z = .int .u64 y ∧ wr2 = wr ∧ Hid (y = Tp.vl (((b.drop k).take (j + 1)).drop m)))
            case atStart => exact ⟨j + 1, 0, rfl, by omega, by go_num, rfl, rfl, hidT (by rw [List.drop_eq_nil_of_le (by simp; omega)]; rfl)⟩
            case round =>
              rename_i gk2 wr2
              obtain ⟨m, y, hm, hmj, rfl, rfl, rfl, HY⟩ := hrel
              rcases m with _ | m
              · have f0 : decide ((0 : Int) ≤ ((0 : Nat) : Int) - 1) = false := by decide
                have f1 : decide ((0 : Int) ≤ -1) = false := by decide
                go_wp2_with fail
                go_ret3
                refine ⟨?_, rfl⟩
                rw [HP.out, hr.out]
                have hy := HY.out
                rw [List.drop_zero] at hy
                rw [← hy]
                show _ = Ending.returned (.tuple #[.int .u64 y, .int .i64 ((k + (j + 1) : Nat) : Int), .int .i64 0])
                first
                  | rfl
                  | (have e2 : ((k : Int) + j + 1) = ((k + (j + 1) : Nat) : Int) := by omega
                     rw [← e2]
                     try rfl)
              · have hm1 : (((m + 1 : Nat) : Int) - 1) = (m : Int) := by omega
                obtain ⟨v, hv⟩ : ∃ v, b[k + m]? = some v := ⟨_, List.getElem?_eq_getElem (by rw [← HN.out]; omega)⟩
                have c0 := HC.out _ v hv
                obtain ⟨hv0, hv1⟩ := HB.out v (List.mem_of_getElem? hv)
                have hst : Tp.vl (((b.drop k).take (j + 1)).drop m) = v.toNat % 128 + 128 * y := by
                  rw [HY.out]
                  have hge : ((b.drop k).take (j + 1))[m]? = some v := by rw [List.getElem?_take, if_pos (by omega), List.getElem?_drop]; exact hv
                  rw [List.getElem?_eq_some_iff] at hge
                  obtain ⟨g1, g2⟩ := hge
                  rw [List.drop_eq_getElem_cons g1, g2]
                  rfl
                have hzb := Nat.lt_of_le_of_lt (Tp.vl_drop ((b.drop k).take (j + 1)) m) HZ.out
                rw [hst] at hzb
                have HST := hidT hst
                clear hst hv
                have m0 : decide ((0 : Int) ≤ (m : Int)) = true := decide_eq_true (by omega)
                have m1 : decide (k + m < n0) = true := decide_eq_true (by omega)
                have m2 : decide ((k : Int) + m < (n0 : Int)) = true := decide_eq_true (by omega)
                have m3 : k + m < n0 := by omega
                rw [hm1]
                clear hm1
                go_wp2_with fail
                go_roundg m
                case measure => omega
                case rel =>
                  refine ⟨m, v.toNat % 128 + 128 * y, rfl, by omega, by go_num, ?_, rfl, hidT HST.out.symm⟩
                  exact congrArg _ (by omega)
          · obtain rfl : j = 0 := HK
            simp only [Nat.add_zero] at a0 H
            have z1 : decide ((k : Int) < (n0 : Int)) = true := decide_eq_true (by omega)
            have z2 : decide (k < n0) = true := decide_eq_true (by omega)
            have z3 : decide ((n0 : Int) ≤ (k : Int)) = false := decide_eq_false (by omega)
            have z4 : decide (n0 ≤ k) = false := decide_eq_false (by omega)
            have z5 : ¬ n0 ≤ k := by omega
            have hr := hidT (HRG.out (by omega))
            have HZ : Hid (Tp.vl ((b.drop k).take (0 + 1)) < 18446744073709551616) := (Tp.rd_back _ _ _ (HB.out.drop k) hr.out).2.2.2
            clear HRE HRG
            go_wp2_with fail
            go_loopg [8, 9] (0 + 1) (fun gk2 z i wr2 => ∃ (m y : Nat), m = gk2 ∧ m ≤ 0 + 1 ∧ i = .int .i64 ((m : Int) - 1) ∧ z = .int .u64 y ∧ wr2 = wr ∧ Hid (y = Tp.vl (((b.drop k).take (0 + 1)).drop m)))
            case atStart => exact ⟨0 + 1, 0, rfl, by omega, by go_num, rfl, rfl, hidT (by rw [List.drop_eq_nil_of_le (by simp; omega)]; rfl)⟩
            case round =>
              rename_i gk2 wr2
              obtain ⟨m, y, hm, hmj, rfl, rfl, rfl, HY⟩ := hrel
              rcases m with _ | m
              · have f0 : decide ((0 : Int) ≤ ((0 : Nat) : Int) - 1) = false := by decide
                have f1 : decide ((0 : Int) ≤ -1) = false := by decide
                go_wp2_with fail
                go_ret3
                refine ⟨?_, rfl⟩
                rw [HP.out, hr.out]
                have hy := HY.out
                rw [List.drop_zero] at hy
                rw [← hy]
                show _ = Ending.returned (.tuple #[.int .u64 y, .int .i64 ((k + (0 + 1) : Nat) : Int), .int .i64 0])
                first
                  | rfl
                  | (have e2 : ((k : Int) + 0 + 1) = ((k + (0 + 1) : Nat) : Int) := by omega
                     rw [← e2]
                     try rfl)
              · have hm1 : (((m + 1 : Nat) : Int) - 1) = (m : Int) := by omega
                obtain ⟨v, hv⟩ : ∃ v, b[k + m]? = some v := ⟨_, List.getElem?_eq_getElem (by rw [← HN.out]; omega)⟩
                have c0 := HC.out _ v hv
                obtain ⟨hv0, hv1⟩ := HB.out v (List.mem_of_getElem? hv)
                have hst : Tp.vl (((b.drop k).take (0 + 1)).drop m) = v.toNat % 128 + 128 * y := by
                  rw [HY.out]
                  have hge : ((b.drop k).take (0 + 1))[m]? = some v := by rw [List.getElem?_take, if_pos (by omega), List.getElem?_drop]; exact hv
                  rw [List.getElem?_eq_some_iff] at hge
                  obtain ⟨g1, g2⟩ := hge
                  rw [List.drop_eq_getElem_cons g1, g2]
                  rfl
                have hzb := Nat.lt_of_le_of_lt (Tp.vl_drop ((b.drop k).take (0 + 1)) m) HZ.out
                rw [hst] at hzb
                have HST := hidT hst
                clear hst hv
                have m0 : decide ((0 : Int) ≤ (m : Int)) = true := decide_eq_true (by omega)
                have m1 : decide (k + m < n0) = true := decide_eq_true (by omega)
                have m2 : decide ((k : Int) + m < (n0 : Int)) = true := decide_eq_true (by omega)
                have m3 : k + m < n0 := by omega
                rw [hm1]
                clear hm1
                go_wp2_with fail
                go_roundg m
                case measure => omega
                case rel =>
                  refine ⟨m, v.toNat % 128 + 128 * y, rfl, by omega, by go_num, ?_, rfl, hidT HST.out.symm⟩
                  exact congrArg _ (by omega)
    · have hlt : j < N := by omega
      obtain ⟨x, hx, hx128⟩ := HIN.out j hlt
      obtain ⟨g, o, rfl, hg, hcell⟩ := HM.out (by rw [← HN.out]; omega)
      have a0 := hcell _ x hx
      have e1 : decide (128 ≤ x) = true := decide_eq_true hx128
      have dj0 : k + j < n0 := by omega
      have dj1 : decide ((k : Int) + j < (n0 : Int)) = true := decide_eq_true (by omega)
      have dj2 : decide (k + j < n0) = true := decide_eq_true (by omega)
      have e2 : decide ((j : Int) < 10) = true := decide_eq_true (by omega)
      have e3 : decide (j < 10) = true := decide_eq_true (by omega)
      have e4 : j < 10 := by omega
      clear hcell hx
      go_wp2_with fail
      go_roundg gk
      case measure => omega
      case rel => exact ⟨j + 1, by omega, by go_num, rfl⟩
end Go.Proofs.Ytneefpblfiedbaa

namespace Go.Proofs.Ytneefpblfiedbaa
open Go.RowKit
set_option linter.unusedVariables false
/-- A row of its own out of a new block. -/
theorem OwB.made (w : World) (base : Nat) (l : List Int) (hb : base ≤ w.heap.size) (hl : l.length ≤ 1000) : OwB (w.alloc (.cells (byC l).toArray 5)) base (.slice (some ⟨w.heap.size, 0, none⟩) l.length l.length) l := by
  refine ⟨by rw [byC_len]; omega, .inr ⟨w.heap.size, l.length, (byC l).toArray, rfl, hb, heap_alloc_new w _, Nat.le_refl _, by unfold maxLen; omega, by simp [byC_len], ?_⟩⟩
  rw [List.take_of_length_le (by simp [byC_len])]
theorem rHead_any (k : Int) (w : World) : Calls Try.prog 19 #[.int .u8 k] w (PuQ w w.heap.size (Tp.head k)) := by
  go_enter Try.func19, Try.ntmps19
  go_wp2_with fail
  go_ret
  exact ⟨_, rfl, OwB.made w w.heap.size (Tp.head k) (Nat.le_refl _) (by simp [Tp.head]), (Below.refl _ _).alloc (Nat.le_refl _) _⟩
set_option maxHeartbeats 1000000 in
theorem rSeal_any (b : List Int) (a : Option Addr) (c : Nat) (w : World) (hb : Tp.Byt b) {B : Nat} (hm : ByS B w a b) (hl : b.length ≤ 4611686018427387904) :
    Calls Try.prog 28 #[.slice a b.length c] w (PuQ w w.heap.size (Tp.sl4 (Tp.sum b))) := by
  have HS := hidT (rSum_any b a c w hb hm hl)
  obtain ⟨hs0, hs1⟩ := Tp.sum_bd b
  obtain ⟨n, hn⟩ : ∃ n, n = b.length := ⟨_, rfl⟩
  rw [← hn] at hl HS ⊢
  clear hn hm hb
  generalize Tp.sum b = S at *
  go_enter Try.func28, Try.ntmps28
  go_wp2_with fail
  refine HS.out.mono ?_
  rintro e w' ⟨rfl, rfl⟩
  go_wp2_with fail
  go_ret
  exact ⟨_, rfl, OwB.made w' w'.heap.size (Tp.sl4 S) (Nat.le_refl _) (by simp [Tp.sl4]), (Below.refl _ _).alloc (Nat.le_refl _) _⟩
theorem OwB.at' {w : World} {base : Nat} {v : Value} {l : List Int} (h : OwB w base v l) (h0 : 0 < l.length) : ∃ g cap, v = .slice (some ⟨g, 0, none⟩) l.length cap ∧ base ≤ g ∧ g < w.heap.size ∧ ∀ j u, (byC l)[j]? = some u → w.cell? ((⟨g, 0, none⟩ : Addr).add j) = some u := by
  have hc := @World.ownsRow.cells _ _ _ _ _ _ _ h
  have hl := @World.ownsRow.lt _ _ _ _ _ _ _ h
  rcases h.2 with ⟨_, h1⟩ | ⟨g, cap, cur, e, hbg, _⟩
  · omega
  · subst e
    exact ⟨g, cap, rfl, hbg, (hl g rfl).2, fun j u hu => hc (g := g) rfl j u hu⟩
theorem dg_pos (z : Nat) : 0 < (Tp.dg z).length := Tp.dgF_pos 9 z
end Go.Proofs.Ytneefpblfiedbaa

namespace Go.Proofs.Ytneefpblfiedbaa
open Go.RowKit
set_option linter.unusedVariables false
theorem drN {B : Nat} {a w : World} (h : Below B a w) (n : Nat) : Below B a (w.drewN n) := h.trans ⟨rfl, rfl, rfl, Nat.le_refl _, fun _ _ => rfl⟩
theorem drG {a w : World} {o : Option Nat} (h : a.grownBy w o) (n : Nat) : a.grownBy (w.drewN n) o := ⟨h.os, h.tape, h.output, h.size, h.block⟩
theorem gbR (w : World) (o : Option Nat) : w.grownBy w o := ⟨rfl, rfl, rfl, Nat.le_refl _, fun _ _ _ => rfl⟩
theorem gbT {a b c : World} {o : Option Nat} (h : a.grownBy b o) (k : b.grownBy c o) : a.grownBy c o :=
  ⟨k.os.trans h.os, k.tape.trans h.tape, k.output.trans h.output, Nat.le_trans h.size k.size, fun i hi hn => (k.block i (Nat.lt_of_lt_of_le hi h.size) hn).trans (h.block i hi hn)⟩
theorem gbB {a b : World} {g : Nat} (h : a.grownBy b (some g)) (hg : g ≤ a.heap.size) : Below g a b := ⟨h.os, h.tape, h.output, h.size, fun i hi => h.block i (by omega) (by simp; omega)⟩
theorem gbOf {a b : World} {o : Option Nat} (h : Below a.heap.size a b) : a.grownBy b o := ⟨h.os, h.tape, h.output, h.size, fun i hi _ => h.block i hi⟩
/-- A reader's box, g: the bytes, the place, and what else lies in it. -/
structure PlB (w : World) (g : Nat) (T : TypeId) (a : Option Addr) (c : Nat) (b : List Int) (k : Nat) (r : List Value) : Prop where
  hb : w.heap[g]? = some (.cells (.slice a b.length c :: .int .i64 k :: r).toArray T (0, 0))
  bs : ByS g w a b
  yt : Tp.Byt b
  cap : b.length ≤ c
  le : k ≤ b.length
  ln : b.length ≤ 4611686018427387904
section
variable {w w' : World} {g : Nat} {T : TypeId} {a : Option Addr} {c : Nat} {b : List Int} {k k' : Nat} {r : List Value}
theorem PlB.lt (h : PlB w g T a c b k r) : g < w.heap.size := (Array.getElem?_eq_some_iff.1 h.hb).1
theorem PlB.c0 (h : PlB w g T a c b k r) : w.cell? ⟨g, 0, none⟩ = some (.slice a b.length c) := by simp [World.cell?, h.hb]
theorem PlB.c1 (h : PlB w g T a c b k r) : w.cell? ⟨g, 1, none⟩ = some (.int .i64 k) := by simp [World.cell?, h.hb]
theorem PlB.fz (h : PlB w g T a c b k r) (o : Nat) : w.frozen? ⟨g, o, none⟩ = false := by simp [World.frozen?, h.hb]
theorem PlB.later (h : PlB w g T a c b k r) (q : Below (g + 1) w w') : PlB w' g T a c b k r :=
  ⟨(q.block g (Nat.lt_succ_self g)).trans h.hb, h.bs.later q (Nat.le_succ g), h.yt, h.cap, h.le, h.ln⟩
theorem PlB.set (h : PlB w g T a c b k r) (hk : k' ≤ b.length) : PlB (w.setCell ⟨g, 1, none⟩ (.int .i64 k')) g T a c b k' r ∧ w.grownBy (w.setCell ⟨g, 1, none⟩ (.int .i64 k')) (some g) := by
  have hg : w.grownBy (w.setCell ⟨g, 1, none⟩ (.int .i64 k')) (some g) := ⟨rfl, rfl, rfl, by simp, fun i _ hn => heap_setCell_other _ _ i _ (by intro e; exact hn (by rw [e]))⟩
  refine ⟨⟨?_, h.bs.later (gbB hg (Nat.le_of_lt h.lt)) (Nat.le_refl _), h.yt, h.cap, hk, h.ln⟩, hg⟩
  rw [heap_setCell_same _ _ _ _ _ _ h.hb]
  simp
end
/-- What is left of a reader: the place is another, and nothing else but its box has changed. -/
def PlQ (g : Nat) (T : TypeId) (a : Option Addr) (c : Nat) (b : List Int) (r : List Value) (w : World) (k : Nat) (w' : World) : Prop := PlB w' g T a c b k r ∧ w.grownBy w' (some g)
def tpPan (er : Int) : Ending := .panicked [{ v := .iface 31 (.int .i64 er), recovered := false }]
theorem must_yes (er : Int) (w : World) : Calls Try.prog 64 #[.bool true, .int .i64 er] w fun e w' => e = .returned (.tuple #[]) ∧ w' = w := by
  go_enter Try.func64, Try.ntmps64
  go_wp2_with fail
  exact ⟨rfl, .tuple #[], by simp [results, Try.results64, go_sem], rfl, rfl⟩
theorem must_no (er : Int) (w : World) : Calls Try.prog 64 #[.bool false, .int .i64 er] w fun e w' => e = tpPan er ∧ w' = w := by
  unfold tpPan
  go_enter Try.func64, Try.ntmps64
  go_wp2_with fail
  exact ⟨rfl, rfl, rfl⟩
def nmQ (g : Nat) (T : TypeId) (a : Option Addr) (c : Nat) (b : List Int) (r : List Value) (w : World) (k : Nat) (w' : World) (e : Ending) : (Nat × Nat) ⊕ Int → Prop
  | .inl (z, u) => e = .returned (.int .i64 (Tp.zag z)) ∧ PlQ g T a c b r w (k + u) w'
  | .inr x => e = tpPan x ∧ PlQ g T a c b r w k w'
set_option maxHeartbeats 2000000 in
theorem number_any (w : World) (g : Nat) (T : TypeId) (a : Option Addr) (c : Nat) (b : List Int) (k : Nat) (r : List Value) (h : PlB w g T a c b k r) :
    Calls Try.prog 60 #[.pointer (some ⟨g, 0, none⟩)] w fun e w' => nmQ g T a c b r w k w' e (Tp.rdF 0 0 (b.drop k)) := by
  have HD := hidT (fun (W : World) (q : Below g w W) => readNum_in b k a c W h.yt (h.bs.later q (Nat.le_refl _)) h.cap h.ln h.le)
  have H := hidT h
  have a0 := h.c0
  have a1 := h.c1
  have hkl := h.le
  have hln := h.ln
  have hbk := hidT (h.yt.drop k)
  obtain ⟨n, hn⟩ : ∃ n, n = b.length := ⟨_, rfl⟩
  have HN := hidT hn
  rw [← hn] at HD a0 hkl hln
  cases hr : Tp.rdF 0 0 (b.drop k) with
  | inr x =>
    rw [hr] at HD
    dsimp only [rnV] at HD
    have hx := Tp.rdF_err _ _ _ _ hr
    have qx : (x == 0) = false := by simp; omega
    clear hr hn hx h
    go_enter Try.func60, Try.ntmps60
    go_upto_region 1 with fail
    go_quiet (first | (go_at_call 71; exact Calls.quiet_of_same (HD.out _ (drN (Below.refl _ _) _))))
    have H1 := hidT (H.out.later (drN (Below.refl _ _) nq))
    have G1 := hidT (drG (gbR w (some g)) nq)
    generalize w.drewN nq = W1 at H1 G1 ⊢

    clear a0 a1
    go_wp2_with fail
    refine (must_no x _).mono ?_
    unfold tpPan
    rintro e w' ⟨rfl, rfl⟩
    go_wp2_with fail
    exact ⟨rfl, rfl, H1.out, G1.out⟩
  | inl p =>
    obtain ⟨z, u⟩ := p
    rw [hr] at HD
    dsimp only [rnV] at HD
    obtain ⟨hu0, hu1, _, hz⟩ := Tp.rd_back _ _ _ hbk.out hr
    have hu2 : k + u ≤ n := by rw [List.length_drop] at hu1; omega
    clear hr hn h hu1
    go_enter Try.func60, Try.ntmps60
    go_upto_region 1 with fail
    go_quiet (first | (go_at_call 71; exact Calls.quiet_of_same (HD.out _ (drN (Below.refl _ _) _))))
    have H1 := hidT (H.out.later (drN (Below.refl _ _) nq))
    have G1 := hidT (drG (gbR w (some g)) nq)
    generalize w.drewN nq = W1 at H1 G1 ⊢
    have b0 := H1.out.c0
    have b1 := H1.out.c1
    have bf := H1.out.fz 1
    rw [← HN.out] at b0

    clear a0 a1
    go_wp2_with fail
    refine (must_yes 0 _).mono ?_
    rintro e w' ⟨rfl, rfl⟩
    go_wp2_with fail
    go_ret
    obtain ⟨s1, s2⟩ := H1.out.set (k' := k + u) (by rw [← HN.out]; exact hu2)
    exact ⟨rfl, s1, gbT G1.out s2⟩
end Go.Proofs.Ytneefpblfiedbaa

namespace Go.Proofs.Ytneefpblfiedbaa
open Go.RowKit
set_option linter.unusedVariables false
def ctQ (g : Nat) (T : TypeId) (a : Option Addr) (c : Nat) (b : List Int) (r : List Value) (w : World) (k : Nat) (lo hi : Nat) (er : Int) (w' : World) (e : Ending) : (Nat × Nat) ⊕ Int → Prop
  | .inl (z, u) => if lo ≤ z ∧ z ≤ hi then e = .returned (.int .i64 z) ∧ PlQ g T a c b r w (k + u) w' else e = tpPan er ∧ PlQ g T a c b r w k w'
  | .inr x => e = tpPan x ∧ PlQ g T a c b r w k w'
set_option maxHeartbeats 2000000 in
theorem count_any (w : World) (g : Nat) (T : TypeId) (a : Option Addr) (c : Nat) (b : List Int) (k : Nat) (r : List Value) (h : PlB w g T a c b k r) (lo hi : Nat) (er : Int) (hhi : hi ≤ 2147483647) :
    Calls Try.prog 59 #[.pointer (some ⟨g, 0, none⟩), .int .u64 lo, .int .u64 hi, .int .i64 er] w fun e w' => ctQ g T a c b r w k lo hi er w' e (Tp.rdF 0 0 (b.drop k)) := by
  have HD := hidT (fun (W : World) (q : Below g w W) => digits_any b k a c W h.yt (h.bs.later q (Nat.le_refl _)) h.cap h.ln h.le)
  have H := hidT h
  have a0 := h.c0
  have a1 := h.c1
  have hkl := h.le
  have hln := h.ln
  have hbk := hidT (h.yt.drop k)
  obtain ⟨n, hn⟩ : ∃ n, n = b.length := ⟨_, rfl⟩
  have HN := hidT hn
  rw [← hn] at HD a0 hkl hln
  cases hr : Tp.rdF 0 0 (b.drop k) with
  | inr x =>
    rw [hr] at HD
    dsimp only [dgV] at HD
    have hx := Tp.rdF_err _ _ _ _ hr
    have qx : (x == 0) = false := by simp; omega
    clear hr hn hx h
    go_enter Try.func59, Try.ntmps59
    go_upto_region 1 with fail
    go_quiet (first | (go_at_call 70; exact Calls.quiet_of_same (HD.out _ (drN (Below.refl _ _) _))))
    have H1 := hidT (H.out.later (drN (Below.refl _ _) nq))
    have G1 := hidT (drG (gbR w (some g)) nq)
    generalize w.drewN nq = W1 at H1 G1 ⊢
    clear a0 a1
    go_wp2_with fail
    refine (must_no x _).mono ?_
    unfold tpPan
    rintro e w' ⟨rfl, rfl⟩
    go_wp2_with fail
    exact ⟨rfl, rfl, H1.out, G1.out⟩
  | inl p =>
    obtain ⟨z, u⟩ := p
    rw [hr] at HD
    dsimp only [dgV] at HD
    obtain ⟨hu0, hu1, _, hz⟩ := Tp.rd_back _ _ _ hbk.out hr
    have hu2 : k + u ≤ n := by rw [List.length_drop] at hu1; omega
    clear hr hn h hu1
    by_cases hin : lo ≤ z ∧ z ≤ hi
    · have hpost : ∀ w' e, ctQ g T a c b r w k lo hi er w' e (.inl (z, u)) = (e = .returned (.int .i64 z) ∧ PlQ g T a c b r w (k + u) w') := fun w' e => by simp only [ctQ, if_pos hin]
      simp only [hpost]
      clear hpost
      obtain ⟨h1, h2⟩ := hin
      have d1 : decide ((lo : Int) ≤ (z : Int)) = true := decide_eq_true (by omega)
      have d2 : decide ((z : Int) ≤ (hi : Int)) = true := decide_eq_true (by omega)
      have d3 : decide (lo ≤ z) = true := decide_eq_true h1
      have d4 : decide (z ≤ hi) = true := decide_eq_true h2
      go_enter Try.func59, Try.ntmps59
      go_upto_region 1 with fail
      go_quiet (first | (go_at_call 70; exact Calls.quiet_of_same (HD.out _ (drN (Below.refl _ _) _))))
      have H1 := hidT (H.out.later (drN (Below.refl _ _) nq))
      have G1 := hidT (drG (gbR w (some g)) nq)
      generalize w.drewN nq = W1 at H1 G1 ⊢
      have b0 := H1.out.c0
      have b1 := H1.out.c1
      have bf := H1.out.fz 1
      rw [← HN.out] at b0
      clear a0 a1
      go_wp2_with fail
      refine (must_yes 0 _).mono ?_
      rintro e w' ⟨rfl, rfl⟩
      go_wp2_with fail
      refine (must_yes er _).mono ?_
      rintro e w' ⟨rfl, rfl⟩
      go_wp2_with fail
      go_ret
      obtain ⟨s1, s2⟩ := H1.out.set (k' := k + u) (by rw [← HN.out]; exact hu2)
      exact ⟨rfl, s1, gbT G1.out s2⟩
    · have hpost : ∀ w' e, ctQ g T a c b r w k lo hi er w' e (.inl (z, u)) = (e = tpPan er ∧ PlQ g T a c b r w k w') := fun w' e => by simp only [ctQ, if_neg hin]
      simp only [hpost]
      clear hpost
      rcases (by omega : ¬ lo ≤ z ∨ (lo ≤ z ∧ ¬ z ≤ hi)) with h1 | ⟨h1, h2⟩
      · have d1 : decide ((lo : Int) ≤ (z : Int)) = false := decide_eq_false (by omega)
        have d3 : decide (lo ≤ z) = false := decide_eq_false h1
        clear hin
        go_enter Try.func59, Try.ntmps59
        go_upto_region 1 with fail
        go_quiet (first | (go_at_call 70; exact Calls.quiet_of_same (HD.out _ (drN (Below.refl _ _) _))))
        have H1 := hidT (H.out.later (drN (Below.refl _ _) nq))
        have G1 := hidT (drG (gbR w (some g)) nq)
        generalize w.drewN nq = W1 at H1 G1 ⊢
        clear a0 a1
        go_wp2_with fail
        refine (must_yes 0 _).mono ?_
        rintro e w' ⟨rfl, rfl⟩
        go_wp2_with fail
        refine (must_no er _).mono ?_
        unfold tpPan
        rintro e w' ⟨rfl, rfl⟩
        go_wp2_with fail
        exact ⟨rfl, rfl, H1.out, G1.out⟩
      · have d1 : decide ((lo : Int) ≤ (z : Int)) = true := decide_eq_true (by omega)
        have d3 : decide (lo ≤ z) = true := decide_eq_true h1
        have d2 : decide ((z : Int) ≤ (hi : Int)) = false := decide_eq_false (by omega)
        have d4 : decide (z ≤ hi) = false := decide_eq_false h2
        clear hin
        go_enter Try.func59, Try.ntmps59
        go_upto_region 1 with fail
        go_quiet (first | (go_at_call 70; exact Calls.quiet_of_same (HD.out _ (drN (Below.refl _ _) _))))
        have H1 := hidT (H.out.later (drN (Below.refl _ _) nq))
        have G1 := hidT (drG (gbR w (some g)) nq)
        generalize w.drewN nq = W1 at H1 G1 ⊢
        clear a0 a1
        go_wp2_with fail
        refine (must_yes 0 _).mono ?_
        rintro e w' ⟨rfl, rfl⟩
        go_wp2_with fail
        refine (must_no er _).mono ?_
        unfold tpPan
        rintro e w' ⟨rfl, rfl⟩
        go_wp2_with fail
        exact ⟨rfl, rfl, H1.out, G1.out⟩
end Go.Proofs.Ytneefpblfiedbaa

namespace Go.Proofs.Ytneefpblfiedbaa
open Go.RowKit
set_option linter.unusedVariables false
theorem plU : Try.prog.plainKey 5 = true := by kernel_rfl
theorem ceU : Try.prog.cellsOf 5 = 1 := by kernel_rfl
theorem eqIt (w : World) (d : Nat) (l m : List Int) (hl : l.length = m.length) : ∀ (n s : Nat), s + n = l.length → (Op.eqItems (d + 1) 5 1 (byC l).toArray (byC m).toArray (List.range' s n)).run Try.prog w = .ok (decide (l.drop s = m.drop s)) w
  | 0, s, h => by
    rw [List.drop_eq_nil_of_le (by omega), List.drop_eq_nil_of_le (by omega)]
    simp [Op.eqItems]
  | n + 1, s, h => by
    obtain ⟨x, hx⟩ : ∃ x, l[s]? = some x := ⟨_, List.getElem?_eq_getElem (by omega)⟩
    obtain ⟨y, hy⟩ : ∃ y, m[s]? = some y := ⟨_, List.getElem?_eq_getElem (by omega)⟩
    have ih := eqIt w d l m hl n (s + 1) (by omega)
    have p1 : (part 5 (byC l).toArray (s * 1)).run Try.prog w = .ok (.int .u8 x) w := run_part_plain w plU (by rw [Nat.mul_one]; simpa using byC_get hx)
    have p2 : (part 5 (byC m).toArray (s * 1)).run Try.prog w = .ok (.int .u8 y) w := run_part_plain w plU (by rw [Nat.mul_one]; simpa using byC_get hy)
    have p3 := run_equalIn_int (P := Try.prog) w d 5 .u8 .u8 x y Try.underlying5
    have dl : l.drop s = x :: l.drop (s + 1) := by
      obtain ⟨h1, h2⟩ := List.getElem?_eq_some_iff.1 hx
      rw [← h2, List.drop_eq_getElem_cons h1]
    have dm : m.drop s = y :: m.drop (s + 1) := by
      obtain ⟨h1, h2⟩ := List.getElem?_eq_some_iff.1 hy
      rw [← h2, List.drop_eq_getElem_cons h1]
    rw [List.range'_succ]
    simp only [Op.eqItems, Sem.run_bind, p1, p2, p3, Result.andThen_ok]
    by_cases hxy : x = y
    · subst hxy
      simp only [BEq.rfl, Bool.not_true, Bool.false_eq_true, if_false]
      rw [ih, dl, dm]
      simp
    · have q : (x == y) = false := by simpa using hxy
      simp only [q, Bool.not_false, if_true, Sem.run_pure]
      rw [dl, dm]
      simp [hxy]
theorem eqAr (w : World) (l m : List Int) (t : TypeId) (n : Nat) (hu : Try.prog.underlying t = some (.array n 5)) (hl : l.length = n) (hm : m.length = n) : (Op.equalIn 10000 t (.agg (byC l).toArray) (.agg (byC m).toArray)).run Try.prog w = .ok (decide (l = m)) w := by
  obtain ⟨i0, hi, _, _, _⟩ := infoB'
  rw [show (10000 : Nat) = 9999 + 1 from rfl, run_equalIn_array w 9999 _ _ hu hi, ceU, List.range_eq_range', show (9999 : Nat) = 9998 + 1 from rfl, eqIt w 9998 l m (by omega) n 0 (by omega)]
  rfl
theorem shutT {P : Program} {n : FuncId} {args : Array Value} {w : World} {R C : Ending → World → Prop} (hc : Calls P n args w C) (hp : ∀ e w', C e w' → R e w') (v : Value) (_hf : Hid (∀ q : Prop, q) → R (.returned v) w) : Calls P n args w R := hc.mono hp
end Go.Proofs.Ytneefpblfiedbaa
