/- Layer 13: the document's ReadNum, heads, sums and inputs' tapes. -/
import Derived.Test.YtgonadilbjfpkaaTpI
namespace Go.Proofs.Ytgonadilbjfpkaa
open Go.RowKit
set_option linter.unusedVariables false
theorem rReadNum_in (b : List Int) (k : Nat) (a : Option Addr) (c : Nat) (w : World) (hb : Tp.Byt b) {B : Nat} (hm : ByS B w a b) (hc : b.length ≤ c) (hl : b.length ≤ 4611686018427387904) (hk : k ≤ b.length) :
    Calls Try.prog 11 #[.slice a b.length c, .int .i64 k] w fun e w' => e = .returned (rnV k (Tp.rdF 0 0 (b.drop k))) ∧ w' = w := by
  have HD := hidT (rcount_any b k a c w hb hm hc hl hk)
  have hbk := hb.drop k
  obtain ⟨n, hn⟩ : ∃ n, n = b.length := ⟨_, rfl⟩
  rw [← hn] at hk hl HD ⊢
  cases hr : Tp.rdF 0 0 (b.drop k) with
  | inr x =>
    rw [hr] at HD
    have hx := Tp.rdF_err _ _ _ _ hr
    have qx : (x == 0) = false := by simp; omega
    clear hr hn hm hc hb hbk hx
    go_enter Try.func11, Try.ntmps11
    go_wp2_with fail
    refine HD.out.mono ?_
    rintro e w' ⟨rfl, rfl⟩
    unfold rcV
    go_wp2_with fail
    go_ret3
    exact ⟨rfl, rfl⟩
  | inl p =>
    obtain ⟨z, u⟩ := p
    rw [hr] at HD
    have hz := (Tp.rd_back _ _ _ hbk hr).2.2.2
    clear hr hn hm hc hb hbk
    go_enter Try.func11, Try.ntmps11
    go_wp2_with fail
    refine HD.out.mono ?_
    rintro e w' ⟨rfl, rfl⟩
    unfold rcV
    go_wp2_with fail
    refine (rZag_any z hz _).mono ?_
    rintro e w' ⟨rfl, rfl⟩
    go_wp2_with fail
    go_ret3
    exact ⟨rfl, rfl⟩
theorem rReadNum_out (n : Nat) (k : Int) (a : Option Addr) (c : Nat) (w : World) (hl : n ≤ 4611686018427387904) (hk : k < 0 ∨ (n : Int) < k) :
    Calls Try.prog 11 #[.slice a n c, .int .i64 k] w fun e w' => e = .returned (.tuple #[.int .i64 0, .int .i64 0, .int .i64 1]) ∧ w' = w := by
  by_cases h0 : k < 0
  · have d0 : decide (k < 0) = true := decide_eq_true h0
    clear hk
    go_enter Try.func11, Try.ntmps11
    go_wp2_with fail
    go_ret3
    exact ⟨rfl, rfl⟩
  · have d0 : decide (k < 0) = false := decide_eq_false h0
    have h1 : (n : Int) < k := by omega
    have d1 : decide ((n : Int) < k) = true := decide_eq_true h1
    clear hk
    go_enter Try.func11, Try.ntmps11
    go_wp2_with fail
    go_ret3
    exact ⟨rfl, rfl⟩
/-- A row of its own out of a new block. -/
theorem OwB.made (w : World) (base : Nat) (l : List Int) (hb : base ≤ w.heap.size) (hl : l.length ≤ 1000) : OwB (w.alloc (.cells (byC l).toArray 5)) base (.slice (some ⟨w.heap.size, 0, none⟩) l.length l.length) l := by
  refine ⟨by rw [byC_len]; omega, .inr ⟨w.heap.size, l.length, (byC l).toArray, rfl, hb, heap_alloc_new w _, Nat.le_refl _, by unfold maxLen; omega, by simp [byC_len], ?_⟩⟩
  rw [List.take_of_length_le (by simp [byC_len])]
theorem rHead_any (k : Int) (w : World) : Calls Try.prog 39 #[.int .u8 k] w (PuQ w w.heap.size (Tp.head k)) := by
  go_enter Try.func39, Try.ntmps39
  go_wp2_with fail
  go_ret
  exact ⟨_, rfl, OwB.made w w.heap.size (Tp.head k) (Nat.le_refl _) (by simp [Tp.head]), (Below.refl _ _).alloc (Nat.le_refl _) _⟩
set_option maxHeartbeats 1000000 in
theorem rSeal_any (b : List Int) (a : Option Addr) (c : Nat) (w : World) (hb : Tp.Byt b) {B : Nat} (hm : ByS B w a b) (hl : b.length ≤ 4611686018427387904) :
    Calls Try.prog 40 #[.slice a b.length c] w (PuQ w w.heap.size (Tp.sl4 (Tp.sum b))) := by
  have HS := hidT (rSum_any b a c w hb hm hl)
  obtain ⟨hs0, hs1⟩ := Tp.sum_bd b
  obtain ⟨n, hn⟩ : ∃ n, n = b.length := ⟨_, rfl⟩
  rw [← hn] at hl HS ⊢
  clear hn hm hb
  generalize Tp.sum b = S at *
  go_enter Try.func40, Try.ntmps40
  go_wp2_with fail
  refine HS.out.mono ?_
  rintro e w' ⟨rfl, rfl⟩
  go_wp2_with fail
  go_ret
  exact ⟨_, rfl, OwB.made w' w'.heap.size (Tp.sl4 S) (Nat.le_refl _) (by simp [Tp.sl4]), (Below.refl _ _).alloc (Nat.le_refl _) _⟩
theorem OwB.at' {w : World} {base : Nat} {v : Value} {l : List Int} (h : OwB w base v l) (h0 : 0 < l.length) : ∃ g cap, v = .slice (some ⟨g, 0, none⟩) l.length cap ∧ base ≤ g ∧ g < w.heap.size ∧ ∀ j u, (byC l)[j]? = some u → w.cell? ((⟨g, 0, none⟩ : Addr).add j) = some u := by
  have hc := @World.ownsRow.cells _ _ _ _ _ _ _ h
  have hl := @World.ownsRow.lt _ _ _ _ _ _ _ h
  rcases h.2 with ⟨_, h1⟩ | ⟨g, cap, cur, e, hbg, _⟩
  · omega
  · subst e
    exact ⟨g, cap, rfl, hbg, (hl g rfl).2, fun j u hu => hc (g := g) rfl j u hu⟩
theorem dg_pos (z : Nat) : 0 < (Tp.dg z).length := Tp.dgF_pos 9 z
set_option maxHeartbeats 4000000 in
theorem rWriteIn_any (l : List Int) (a : Option Addr) (c : Nat) (w : World) {B : Nat} (hm : NmS B w a l) (hB : B ≤ w.heap.size) (hl : l.length ≤ 1000) (hr : ∀ x ∈ l, -9223372036854775808 ≤ x ∧ x ≤ 9223372036854775807) :
    Calls Try.prog 18 #[.slice a l.length c] w (WrQ w (Tp.wi l)) := by
  obtain ⟨i0, hi, hz0, hz1, hz2⟩ := infoB'
  have HM : Hid (NmS B w a l) := hm
  have HR := hidT hr
  have HY := hidT (bodyB l hl hr)
  obtain ⟨n, hn⟩ : ∃ n, n = l.length := ⟨_, rfl⟩
  have HN : Hid (n = l.length) := hn
  rw [← hn] at hl ⊢
  have d : decide ((1000 : Int) < (n : Int)) = false := decide_eq_false (by omega)
  clear hm hr hn
  go_enter Try.func18, Try.ntmps18
  go_wp2_with fail
  refine (rHead_any 1 w).mono ?_
  rintro e w1 ⟨v1, rfl, O1, K1⟩
  obtain ⟨va1, vc1, hv1⟩ := ownShT O1
  subst hv1
  have HO1 := hidT O1
  have HK1 := hidT K1
  clear O1 K1
  go_wp2_with fail
  refine (rCount_any w1 n (by omega)).mono ?_
  rintro e w2 ⟨v2, rfl, O2, K2⟩
  obtain ⟨g2, c2, hv2, hg2, hg2', hc2⟩ := OwB.at' O2 (dg_pos n)
  subst hv2
  have HC2 := hidT hc2
  have HK2 := hidT (HK1.out.trans (K2.mono HK1.out.size))
  have HO2 := hidT (ownLtT HO1.out K2)
  have HW2 : Hid (w.heap.size ≤ w2.heap.size) := HK2.out.size
  have H63 : Hid ((Tp.head 1).length + (Tp.dg n).length ≤ maxLen ∧ ((Tp.head 1).length + (Tp.dg n).length + ((Tp.head 1).length + (Tp.dg n).length) / 4 + 192) * 1 ≤ 281474976710656) := OwB.len63 (by have := Tp.dg_len n; simp [Tp.head]; omega)
  clear O2 K2 hc2
  go_wp2_with (at_builtin; refine wpList_append_own_wide _ rfl _ _ 22 rfl w.heap.size 5 i0 (.int .u8 0) 1 1 Try.underlying22 hi hz0 hz1 hz2 rfl (by decide) _ _ _ rfl HO2.out ⟨g2, 0, none⟩ (Tp.dg n).length c2 (byC (Tp.dg n)) rfl (by rw [byC_len, Nat.mul_one]) HC2.out (byC_one _) H63.out.1 H63.out.2 HW2.out ?_)
  intro v8 w8 h8 g8 o8
  have K8 := hidT (HK2.out.trans (OwB.below' HO2.out HW2.out g8))
  have HX : Hid (OwB w8 w.heap.size v8 (Tp.head 1 ++ Tp.dg n)) := OwB.of h8 rfl
  clear h8 g8 o8
  go_wp2_with fail
  go_loopg [4, 5] n (fun gk v i wr => ∃ (j : Nat), j + gk = n ∧ i = .int .i64 j ∧ Hid (OwB wr w.heap.size v (Tp.head 1 ++ Tp.dg l.length ++ (l.take j).flatMap (fun n => Tp.dg (Tp.zg n)))) ∧ Hid (Below w.heap.size w wr))
  case atStart => exact ⟨0, by omega, rfl, by have h := HX.out; rw [HN.out] at h; simpa using hidT h, K8⟩
  case round =>
    obtain ⟨j, hj, rfl, HO, HK⟩ := hrel
    have HW : Hid (w.heap.size ≤ wr.heap.size) := HK.out.size
    have HLn := hidT (bodyL l j)
    obtain ⟨va, vc, hv⟩ := ownShT HO.out
    subst hv
    rcases gk with _ | gk
    · obtain rfl : j = n := by omega
      have dk : decide ((j : Int) < (j : Int)) = false := decide_eq_false (by omega)
      have HO' : Hid (OwB wr w.heap.size (.slice va (Tp.body l).length vc) (Tp.body l)) := by
        have h := HO.out
        rw [List.take_of_length_le (by rw [HN.out]; omega)] at h
        exact h
      have HLn' : Hid ((Tp.body l).length ≤ 100000000) := by
        have h := HLn.out
        rw [List.take_of_length_le (by rw [HN.out]; omega)] at h
        unfold Hid
        exact Nat.le_trans h (by omega)
      have HE : Hid (Tp.head 1 ++ Tp.dg l.length ++ (l.take j).flatMap (fun n => Tp.dg (Tp.zg n)) = Tp.body l) := by
        unfold Hid
        rw [List.take_of_length_le (by rw [HN.out]; omega)]
        rfl
      rw [HE.out]
      clear HO HLn HE
      go_wp2_with fail
      refine (rSeal_any (Tp.body l) va vc wr HY.out HO'.out.bys (by have := HLn'.out; omega)).mono ?_
      rintro e w3 ⟨v3, rfl, O3, K3⟩
      obtain ⟨g3, c3, hv3, hg3, hg3', hc3⟩ := OwB.at' O3 (by simp [Tp.sl4])
      subst hv3
      have HC3 := hidT hc3
      have HK3 := hidT (HK.out.trans (K3.mono HW.out))
      have HO3 := hidT (ownLtT HO'.out K3)
      have HW3 : Hid (w.heap.size ≤ w3.heap.size) := HK3.out.size
      have H64 : Hid ((Tp.body l).length + 4 ≤ maxLen ∧ ((Tp.body l).length + 4 + ((Tp.body l).length + 4) / 4 + 192) * 1 ≤ 281474976710656) := OwB.len63 (by have := HLn'.out; omega)
      clear O3 K3 hc3
      go_wp2_with (at_builtin; refine wpList_append_own_wide _ rfl _ _ 22 rfl w.heap.size 5 i0 (.int .u8 0) 1 1 Try.underlying22 hi hz0 hz1 hz2 rfl (by decide) _ _ _ rfl HO3.out ⟨g3, 0, none⟩ 4 c3 (byC (Tp.sl4 (Tp.sum (Tp.body l)))) rfl rfl HC3.out (byC_one _) H64.out.1 H64.out.2 HW3.out ?_)
      intro v9 w9 h9 g9 o9
      have K9 := hidT (HK3.out.trans (OwB.below' HO3.out HW3.out g9))
      have HX9 : Hid (OwB w9 w.heap.size v9 (Tp.wi l)) := OwB.of h9 rfl
      clear h9 g9 o9
      go_wp2_with fail
      go_ret2
      exact ⟨v9, rfl, HX9.out, K9.out⟩
    · have hlt : j < n := by omega
      have dk : decide ((j : Int) < (n : Int)) = true := decide_eq_true (by omega)
      have dkn : decide (j < n) = true := decide_eq_true hlt
      obtain ⟨x, hx⟩ : ∃ x, l[j]? = some x := ⟨_, List.getElem?_eq_getElem (by rw [← HN.out]; exact hlt)⟩
      obtain ⟨g, o, rfl, hg, hc⟩ := (HM.out.later HK.out hB) (by rw [← HN.out]; omega)
      have a0 := hc j x hx
      obtain ⟨hx0, hx1⟩ := HR.out x (List.mem_of_getElem? hx)
      have HT : Hid (l.take (j + 1) = l.take j ++ [x]) := by
        unfold Hid
        rw [List.take_add_one, hx]
        rfl
      obtain ⟨L, hL⟩ : ∃ L, L = Tp.head 1 ++ Tp.dg l.length ++ (l.take j).flatMap (fun n => Tp.dg (Tp.zg n)) := ⟨_, rfl⟩
      have HL := hidT hL
      rw [← hL] at HO HLn ⊢
      clear hx hc hL
      go_wp2_with fail
      refine (rNum_any wr x hx0 hx1).mono ?_
      rintro e w3 ⟨v3, rfl, O3, K3⟩
      obtain ⟨g3, c3, hv3, hg3, hg3', hc3⟩ := OwB.at' O3 (dg_pos _)
      subst hv3
      have HC3 := hidT hc3
      have HK3 := hidT (HK.out.trans (K3.mono HW.out))
      have HO3 := hidT (ownLtT HO.out K3)
      have HW3 : Hid (w.heap.size ≤ w3.heap.size) := HK3.out.size
      have H64 : Hid (L.length + (Tp.dg (Tp.zg x)).length ≤ maxLen ∧ (L.length + (Tp.dg (Tp.zg x)).length + (L.length + (Tp.dg (Tp.zg x)).length) / 4 + 192) * 1 ≤ 281474976710656) := OwB.len63 (by have := HLn.out; have := Tp.dg_len (Tp.zg x); omega)
      clear O3 K3 hc3
      go_wp2_with (at_builtin; refine wpList_append_own_wide _ rfl _ _ 22 rfl w.heap.size 5 i0 (.int .u8 0) 1 1 Try.underlying22 hi hz0 hz1 hz2 rfl (by decide) _ _ _ rfl HO3.out ⟨g3, 0, none⟩ (Tp.dg (Tp.zg x)).length c3 (byC (Tp.dg (Tp.zg x))) rfl (by rw [byC_len, Nat.mul_one]) HC3.out (byC_one _) H64.out.1 H64.out.2 HW3.out ?_)
      intro v9 w9 h9 g9 o9
      have K9 := hidT (HK3.out.trans (OwB.below' HO3.out HW3.out g9))
      have HX9 : Hid (OwB w9 w.heap.size v9 (L ++ Tp.dg (Tp.zg x))) := OwB.of h9 rfl
      clear h9 g9 o9
      go_wp2_with fail
      go_roundg gk
      case measure => omega
      case rel =>
        refine ⟨j + 1, by omega, by go_num, ?_, K9⟩
        rw [HT.out, List.flatMap_append]
        have h := HX9.out
        rw [HL.out, List.append_assoc] at h
        simpa using hidT h
theorem rWriteIn_long (n : Nat) (a : Option Addr) (c : Nat) (w : World) (h : 1000 < n) (hl : n ≤ 4611686018427387904) :
    Calls Try.prog 18 #[.slice a n c] w fun e w' => e = .returned (.tuple #[.slice none 0 0, .int .i64 2]) ∧ w' = w := by
  have d : decide ((1000 : Int) < (n : Int)) = true := decide_eq_true (by omega)
  go_enter Try.func18, Try.ntmps18
  go_wp2_with fail
  go_ret2
  exact ⟨rfl, rfl⟩
end Go.Proofs.Ytgonadilbjfpkaa
