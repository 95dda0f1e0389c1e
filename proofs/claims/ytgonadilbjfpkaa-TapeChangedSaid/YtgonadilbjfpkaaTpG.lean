/- Layer 13: heads, sums and inputs' tapes, written by the program. -/
import Derived.Test.YtgonadilbjfpkaaTpF
namespace Go.Proofs.Ytgonadilbjfpkaa
open Go.RowKit
set_option linter.unusedVariables false
theorem headOf_any (k : Int) (w : World) : Calls Try.prog 55 #[.int .u8 k] w fun e w' => e = .returned (.agg #[.int .u8 80, .int .u8 76, .int .u8 88, .int .u8 49, .int .u8 k]) ∧ Hid (Below w.heap.size w w') := by
  go_enter Try.func55, Try.ntmps55
  go_wp2_with fail
  refine ⟨rfl, _, by simp [results, Try.results55, go_sem], rfl, hidT ((Below.refl _ _).alloc (Nat.le_refl _) _)⟩
theorem five5 (w : World) (c0 c1 c2 c3 c4 : Value) (t : TypeId) : ∀ (j : Nat) u, [c0, c1, c2, c3, c4][j]? = some u → (w.alloc (.cells #[c0, c1, c2, c3, c4] t)).cell? ((⟨w.heap.size, 0, none⟩ : Addr).add j) = some u := by
  intro j u hj
  match j, hj with
  | 0, hj => simp at hj; subst hj; simp [Addr.add]
  | 1, hj => simp at hj; subst hj; simp [Addr.add]
  | 2, hj => simp at hj; subst hj; simp [Addr.add]
  | 3, hj => simp at hj; subst hj; simp [Addr.add]
  | 4, hj => simp at hj; subst hj; simp [Addr.add]
  | n + 5, hj => simp at hj
theorem four4 (w : World) (c0 c1 c2 c3 : Value) (t : TypeId) : ∀ (j : Nat) u, [c0, c1, c2, c3][j]? = some u → (w.alloc (.cells #[c0, c1, c2, c3] t)).cell? ((⟨w.heap.size, 0, none⟩ : Addr).add j) = some u := by
  intro j u hj
  match j, hj with
  | 0, hj => simp at hj; subst hj; simp [Addr.add]
  | 1, hj => simp at hj; subst hj; simp [Addr.add]
  | 2, hj => simp at hj; subst hj; simp [Addr.add]
  | 3, hj => simp at hj; subst hj; simp [Addr.add]
  | n + 4, hj => simp at hj
set_option maxRecDepth 100000 in
set_option maxHeartbeats 1000000 in
theorem putHead_any (k : Int) (w : World) : Calls Try.prog 36 #[.int .u8 k] w (PuQ w w.heap.size (Tp.head k)) := by
  obtain ⟨i0, hi, hz0, hz1, hz2⟩ := infoB'
  have H63 : Hid (0 + 5 ≤ maxLen ∧ (0 + 5 + (0 + 5) / 4 + 192) * 1 ≤ 281474976710656) := OwB.len63 (by decide)
  go_enter Try.func36, Try.ntmps36
  go_wp2_with fail
  refine (headOf_any k w).mono ?_
  rintro e w1 ⟨rfl, K1⟩
  have hb1 : w.heap.size ≤ w1.heap.size := K1.out.size
  go_wp2_with (at_builtin; refine wpList_append_own_wide _ rfl _ _ 22 rfl w.heap.size 5 i0 (.int .u8 0) 1 1 Try.underlying22 hi hz0 hz1 hz2 rfl (by decide) _ _ _ rfl (World.ownsRow_nil _ _ _ _) ⟨w1.heap.size, 0, none⟩ 5 5 (byC (Tp.head k)) rfl rfl (five5 _ _ _ _ _ _ _) (byC_one _) H63.out.1 H63.out.2 (by simp; omega) ?_)
  intro v8 w8 h8 g8 o8
  have HX : Hid (OwB w8 w.heap.size v8 (Tp.head k)) := h8
  have K8 : Hid (Below w.heap.size w w8) := K1.out.trans (((Below.refl _ w1).alloc hb1 _).trans ⟨g8.os, g8.tape, g8.output, g8.size, fun k hk => g8.block k (by simp; omega) (fun e => by cases e)⟩)
  clear h8 g8 o8
  go_wp2_with fail
  go_ret
  exact ⟨v8, rfl, HX.out, K8.out⟩
set_option maxHeartbeats 1000000 in
theorem sumOf_any (b : List Int) (a : Option Addr) (c : Nat) (w : World) (hb : Tp.Byt b) {B : Nat} (hm : ByS B w a b) (hl : b.length ≤ 4611686018427387904) (hB : B ≤ w.heap.size) :
    Calls Try.prog 56 #[.slice a b.length c] w fun e w' => e = .returned (.agg #[.int .u8 (Tp.sum b / 16777216), .int .u8 (Tp.sum b / 65536 % 256), .int .u8 (Tp.sum b / 256 % 256), .int .u8 (Tp.sum b % 256)]) ∧ Hid (Below w.heap.size w w') := by
  have HS := hidT (fun (w' : World) (h : Below B w w') => sumP_any b a c w' hb (hm.later h (Nat.le_refl _)) hl)
  obtain ⟨hs0, hs1⟩ := Tp.sum_bd b
  obtain ⟨n, hn⟩ : ∃ n, n = b.length := ⟨_, rfl⟩
  rw [← hn] at hl HS ⊢
  clear hn hm hb
  generalize Tp.sum b = S at *
  go_enter Try.func56, Try.ntmps56
  go_wp2_with fail
  refine (HS.out _ ((Below.refl B w).alloc hB _)).mono ?_
  rintro e w' ⟨rfl, rfl⟩
  go_wp2_with fail
  refine ⟨rfl, _, by simp [results, Try.results56, go_sem], rfl, hidT ((Below.refl _ _).alloc (Nat.le_refl _) _)⟩
set_option maxRecDepth 100000 in
set_option maxHeartbeats 1000000 in
theorem putSum_any (w : World) (base : Nat) (v : Value) (l : List Int) (hl : l.length ≤ 100000000) (hy : Tp.Byt l) (ho : OwB w base v l) (hb : base ≤ w.heap.size) :
    Calls Try.prog 38 #[v] w (PuQ w base (l ++ Tp.sl4 (Tp.sum l))) := by
  obtain ⟨i0, hi, hz0, hz1, hz2⟩ := infoB'
  obtain ⟨va, vc, hv⟩ := ownShT ho
  subst hv
  have H63 : Hid (l.length + 4 ≤ maxLen ∧ (l.length + 4 + (l.length + 4) / 4 + 192) * 1 ≤ 281474976710656) := OwB.len63 (by omega)
  have HS := hidT (sumOf_any l va vc w hy ho.bys (by omega) (Nat.le_refl _))
  have HO := hidT ho
  clear ho hy
  obtain ⟨S, hS⟩ : ∃ S, S = Tp.sum l := ⟨_, rfl⟩
  rw [← hS] at HS ⊢
  clear hS
  go_enter Try.func38, Try.ntmps38
  go_wp2_with fail
  refine HS.out.mono ?_
  rintro e w1 ⟨rfl, K1⟩
  have hb1 : w.heap.size ≤ w1.heap.size := K1.out.size
  have HO1 := hidT (ownLtT HO.out K1.out)
  go_wp2_with (at_builtin; refine wpList_append_own_wide _ rfl _ _ 22 rfl base 5 i0 (.int .u8 0) 1 1 Try.underlying22 hi hz0 hz1 hz2 rfl (by decide) _ _ _ rfl (ownLtT HO1.out ((Below.refl _ _).alloc (Nat.le_refl _) _)) ⟨w1.heap.size, 0, none⟩ 4 4 (byC (Tp.sl4 S)) rfl rfl (four4 _ _ _ _ _ _) (byC_one _) H63.out.1 H63.out.2 (by simp; omega) ?_)
  intro v8 w8 h8 g8 o8
  have HX : Hid (OwB w8 base v8 (l ++ Tp.sl4 S)) := OwB.of h8 rfl
  have K8 : Hid (Below base w w8) := (K1.out.mono hb).trans (OwB.below HO1.out (by omega) g8)
  clear h8 g8 o8
  go_wp2_with fail
  go_ret
  exact ⟨v8, rfl, HX.out, K8.out⟩
theorem writeIn_long (n : Nat) (a : Option Addr) (c : Nat) (w : World) (h : 1000 < n) (hl : n ≤ 4611686018427387904) :
    Calls Try.prog 17 #[.slice a n c] w fun e w' => e = .returned (.tuple #[.slice none 0 0, .int .i64 2]) ∧ w' = w := by
  have d : decide ((1000 : Int) < (n : Int)) = true := decide_eq_true (by omega)
  go_enter Try.func17, Try.ntmps17
  go_wp2_with fail
  go_ret2
  exact ⟨rfl, rfl⟩
/-- What a writer leaves. -/
def WrQ (w : World) (l : List Int) (e : Ending) (w' : World) : Prop := ∃ v', e = .returned (.tuple #[v', .int .i64 0]) ∧ OwB w' w.heap.size v' l ∧ Below w.heap.size w w'
theorem bodyL (l : List Int) (j : Nat) : (Tp.head 1 ++ Tp.dg l.length ++ (l.take j).flatMap (fun n => Tp.dg (Tp.zg n))).length ≤ 15 + j * 10 := by
  have h : ∀ l : List Int, (l.flatMap (fun n => Tp.dg (Tp.zg n))).length ≤ l.length * 10 := by
    intro l
    induction l with
    | nil => simp
    | cons c l ih =>
      have := Tp.dg_len (Tp.zg c)
      simp only [List.flatMap_cons, List.length_append, List.length_cons]
      omega
  have h1 := h (l.take j)
  have h2 := Tp.dg_len l.length
  have h3 : (l.take j).length ≤ j := by simp; omega
  have h4 : (Tp.head 1).length = 5 := rfl
  simp only [List.length_append]
  omega
theorem bodyB (l : List Int) (hl : l.length ≤ 1000) (hr : ∀ x ∈ l, -9223372036854775808 ≤ x ∧ x ≤ 9223372036854775807) : Tp.Byt (Tp.body l) := by
  unfold Tp.body
  refine (Tp.Byt.app (Tp.Byt.app ?_ (Tp.dg_byt _ (by omega))) ?_)
  · intro c hc; simp [Tp.head] at hc; omega
  · intro c hc
    obtain ⟨x, hx, hc⟩ := List.mem_flatMap.1 hc
    exact Tp.dg_byt _ (Tp.zg_lt _ (hr x hx).1 (hr x hx).2) c hc
set_option maxHeartbeats 2000000 in
theorem writeIn_any (l : List Int) (a : Option Addr) (c : Nat) (w : World) {B : Nat} (hm : NmS B w a l) (hB : B ≤ w.heap.size) (hl : l.length ≤ 1000) (hr : ∀ x ∈ l, -9223372036854775808 ≤ x ∧ x ≤ 9223372036854775807) :
    Calls Try.prog 17 #[.slice a l.length c] w (WrQ w (Tp.wi l)) := by
  have HM : Hid (NmS B w a l) := hm
  have HR := hidT hr
  have HY := hidT (bodyB l hl hr)
  obtain ⟨n, hn⟩ : ∃ n, n = l.length := ⟨_, rfl⟩
  have HN : Hid (n = l.length) := hn
  rw [← hn] at hl ⊢
  have d : decide ((1000 : Int) < (n : Int)) = false := decide_eq_false (by omega)
  clear hm hr hn
  go_enter Try.func17, Try.ntmps17
  go_wp2_with fail
  refine (putHead_any 1 w).mono ?_
  rintro e w1 ⟨v1, rfl, O1, K1⟩
  have HO1 := hidT O1
  have HK1 := hidT K1
  clear O1 K1
  go_wp2_with fail
  refine (putCt w1 w.heap.size v1 _ n (by omega) HO1.out HK1.out.size (by simp [Tp.head])).mono ?_
  rintro e w2 ⟨v2, rfl, O2, K2⟩
  have HO2 := hidT O2
  have HK2 := hidT (HK1.out.trans K2)
  clear O2 K2
  go_wp2_with fail
  go_loopg [4, 17] n (fun gk v i wr => ∃ (j : Nat), j + gk = n ∧ i = .int .i64 j ∧ Hid (OwB wr w.heap.size v (Tp.head 1 ++ Tp.dg l.length ++ (l.take j).flatMap (fun n => Tp.dg (Tp.zg n)))) ∧ Hid (Below w.heap.size w wr))
  case atStart => exact ⟨0, by omega, rfl, by have h := HO2.out; rw [HN.out] at h; simpa using hidT h, HK2⟩
  case round =>
    obtain ⟨j, hj, rfl, HO, HK⟩ := hrel
    have HW : Hid (w.heap.size ≤ wr.heap.size) := HK.out.size
    have HLn := hidT (bodyL l j)
    rcases gk with _ | gk
    · obtain rfl : j = n := by omega
      have dk : decide ((j : Int) < (j : Int)) = false := decide_eq_false (by omega)
      have HO' : Hid (OwB wr w.heap.size u4 (Tp.body l)) := by
        have h := HO.out
        rw [List.take_of_length_le (by rw [HN.out]; omega)] at h
        exact h
      have HLn' : Hid ((Tp.body l).length ≤ 100000000) := by
        have h := HLn.out
        rw [List.take_of_length_le (by rw [HN.out]; omega)] at h
        unfold Hid
        exact Nat.le_trans h (by omega)
      clear HO HLn
      go_wp2_with fail
      refine (putSum_any wr w.heap.size u4 (Tp.body l) HLn'.out HY.out HO'.out HW.out).mono ?_
      rintro e w3 ⟨v3, rfl, O3, K3⟩
      have HO3 := hidT O3
      have HK3 := hidT (HK.out.trans K3)
      clear O3 K3
      go_wp2_with fail
      go_ret2
      exact ⟨v3, rfl, HO3.out, HK3.out⟩
    · have hlt : j < n := by omega
      have dk : decide ((j : Int) < (n : Int)) = true := decide_eq_true (by omega)
      have dkn : decide (j < n) = true := decide_eq_true hlt
      obtain ⟨x, hx⟩ : ∃ x, l[j]? = some x := ⟨_, List.getElem?_eq_getElem (by rw [← HN.out]; exact hlt)⟩
      obtain ⟨g, o, rfl, hg, hc⟩ := (HM.out.later HK.out hB) (by rw [← HN.out]; omega)
      have a0 := hc j x hx
      obtain ⟨hx0, hx1⟩ := HR.out x (List.mem_of_getElem? hx)
      have HT : Hid (l.take (j + 1) = l.take j ++ [x]) := by
        unfold Hid
        rw [List.take_add_one, hx]
        rfl
      clear hx hc
      go_wp2_with fail
      refine (putNm wr w.heap.size u4 _ x hx0 hx1 HO.out HW.out (Nat.le_trans HLn.out (by omega))).mono ?_
      rintro e w3 ⟨v3, rfl, O3, K3⟩
      have HO3 := hidT O3
      have HK3 := hidT (HK.out.trans K3)
      clear O3 K3
      go_wp2_with fail
      go_roundg gk
      case measure => omega
      case rel =>
        refine ⟨j + 1, by omega, by go_num, ?_, HK3⟩
        rw [HT.out, List.flatMap_append]
        have h := HO3.out
        rw [List.append_assoc] at h
        simpa using hidT h
end Go.Proofs.Ytgonadilbjfpkaa
