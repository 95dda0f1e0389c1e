/- Layer 15: the document's Text. -/
import Derived.Test.YtpfkoglmfbaadaaDoorAlZ
namespace Go.Proofs.YtpfkoglmfbaadaaDoor
open Go.RowKit
set_option linter.unusedVariables false
set_option linter.unusedSimpArgs false
set_option maxRecDepth 100000
theorem catA (l : List UInt8) (s : ByteArray) (t : List UInt8) (h : s = ⟨t.toArray⟩) : ((⟨l.toArray⟩ : ByteArray) ++ s).data.toList = l ++ t := by subst h; simp
theorem szA {l : List UInt8} {s : ByteArray} (hl : l.length ≤ 20) (hs : s.size ≤ 200) : (⟨l.toArray⟩ : ByteArray).size + s.size ≤ 9223372036854775807 := by rw [sizeA]; omega
theorem cells6 (w : World) (a b c d e f : Value) (t : TypeId) : (w.alloc (.cells #[a, b, c, d, e, f] t)).cell? ⟨w.heap.size, 1, none⟩ = some b ∧ (w.alloc (.cells #[a, b, c, d, e, f] t)).cell? ⟨w.heap.size, 2, none⟩ = some c ∧ (w.alloc (.cells #[a, b, c, d, e, f] t)).cell? ⟨w.heap.size, 3, none⟩ = some d ∧ (w.alloc (.cells #[a, b, c, d, e, f] t)).cell? ⟨w.heap.size, 4, none⟩ = some e ∧ (w.alloc (.cells #[a, b, c, d, e, f] t)).cell? ⟨w.heap.size, 5, none⟩ = some f := ⟨by simp, by simp, by simp, by simp, by simp⟩
set_option maxHeartbeats 8000000 in
theorem rtex_any (w : World) (x : Al.Ev) (h1 : Al.R64 x.1) (h2 : Al.R64 x.2) : Calls Tryd.prog 13 #[.agg #[.int .i64 x.1, .int .i64 x.2]] w (TxQ w x) := by
  obtain ⟨Q, hQ⟩ : ∃ Q, Q = TxQ w x := ⟨_, rfl⟩
  have HQ : Hid (∀ (t : ByteArray) w', t.data.toList = Al.tx x → Below w.heap.size w w' → Q (.returned (.string t)) w') := fun t w' h b => by rw [hQ]; exact ⟨by rw [← h], b⟩
  rw [← hQ]
  clear hQ
  have HX : Hid (Al.tx x = if x.1 = 1 then Al.wPrint ++ 32 :: Lib.itoa x.2 else if x.1 = 2 then Al.wRead ++ 32 :: Lib.itoa x.2 else if x.1 = 3 then Al.wEnd else if x.1 = 4 then Al.wTrap ++ 32 :: Lib.itoa x.2 else if x.1 = 5 then Al.wFuel
    else Al.wEvent ++ 32 :: (Lib.itoa x.1 ++ 32 :: Lib.itoa x.2)) := rfl
  obtain ⟨T, hT⟩ : ∃ T, T = Al.tx x := ⟨_, rfl⟩
  rw [← hT] at HX HQ
  clear hT
  generalize x.1 = k at *
  generalize x.2 = n at *
  obtain ⟨W0, hW0⟩ : ∃ W0, W0 = w.alloc (.cells #[.int .i64 k, .int .i64 n] 24) := ⟨_, rfl⟩
  obtain ⟨p, hp⟩ : ∃ p, p = w.heap.size := ⟨_, rfl⟩
  have B0 : Hid (Below w.heap.size w W0 ∧ p = w.heap.size ∧ W0.heap.size = p + 1) := ⟨by rw [hW0]; exact (Below.refl _ _).alloc (Nat.le_refl _) _, hp, by rw [hW0, hp]; simp⟩
  have C0 : W0.cell? ⟨p, 0, none⟩ = some (.int .i64 k) ∧ W0.cell? ⟨p, 1, none⟩ = some (.int .i64 n) := by rw [hW0, hp]; exact box2A _ _ _ _
  obtain ⟨c0, c1⟩ := C0
  obtain ⟨sn, hsn⟩ : ∃ sn : ByteArray, sn = ⟨(Lib.itoa n).toArray⟩ := ⟨_, rfl⟩
  obtain ⟨sk, hsk⟩ : ∃ sk : ByteArray, sk = ⟨(Lib.itoa k).toArray⟩ := ⟨_, rfl⟩
  have RN := hidA (rtext_any n W0 h2.1 h2.2)
  have RK : Hid (∀ wz, Calls Tryd.prog 35 #[.int .i64 k] wz fun e w' => e = .returned (.string ⟨(Lib.itoa k).toArray⟩) ∧ Below wz.heap.size wz w') := fun wz => rtext_any k wz h1.1 h1.2
  rw [← hsn] at RN
  rw [← hsk] at RK
  have n1 : sn.size ≤ 200 := by rw [hsn, sizeA]; exact itA n h2
  have n2 : sk.size ≤ 200 := by rw [hsk, sizeA]; exact itA k h1
  have z1 : (⟨#[112, 114, 105, 110, 116, 32]⟩ : ByteArray).size + sn.size ≤ 9223372036854775807 := szA (l := [112, 114, 105, 110, 116, 32]) (by decide) n1
  have z2 : (⟨#[114, 101, 97, 100, 32]⟩ : ByteArray).size + sn.size ≤ 9223372036854775807 := szA (l := [114, 101, 97, 100, 32]) (by decide) n1
  have z3 : (⟨#[116, 114, 97, 112, 32]⟩ : ByteArray).size + sn.size ≤ 9223372036854775807 := szA (l := [116, 114, 97, 112, 32]) (by decide) n1
  have Z4 : Hid ((⟨#[101, 118, 101, 110, 116, 32]⟩ : ByteArray).size + sk.size ≤ 9223372036854775807 ∧ ((⟨#[101, 118, 101, 110, 116, 32]⟩ : ByteArray) ++ sk).size + (⟨#[32]⟩ : ByteArray).size ≤ 9223372036854775807 ∧ ((⟨#[101, 118, 101, 110, 116, 32]⟩ : ByteArray) ++ sk ++ (⟨#[32]⟩ : ByteArray)).size + sn.size ≤ 9223372036854775807) := by
    have e1 : (⟨#[101, 118, 101, 110, 116, 32]⟩ : ByteArray).size = 6 := rfl
    have e2 : (⟨#[32]⟩ : ByteArray).size = 1 := rfl
    refine ⟨?_, ?_, ?_⟩ <;> simp only [ByteArray.size_append, e1, e2] <;> omega
  have K1 : Hid (((⟨#[112, 114, 105, 110, 116, 32]⟩ : ByteArray) ++ sn).data.toList = Al.wPrint ++ 32 :: Lib.itoa n) := catA [112, 114, 105, 110, 116, 32] sn _ hsn
  have K2 : Hid (((⟨#[114, 101, 97, 100, 32]⟩ : ByteArray) ++ sn).data.toList = Al.wRead ++ 32 :: Lib.itoa n) := catA [114, 101, 97, 100, 32] sn _ hsn
  have K4 : Hid (((⟨#[116, 114, 97, 112, 32]⟩ : ByteArray) ++ sn).data.toList = Al.wTrap ++ 32 :: Lib.itoa n) := catA [116, 114, 97, 112, 32] sn _ hsn
  have K6 : Hid (((⟨#[101, 118, 101, 110, 116, 32]⟩ : ByteArray) ++ sk ++ (⟨#[32]⟩ : ByteArray) ++ sn).data.toList = Al.wEvent ++ 32 :: (Lib.itoa k ++ 32 :: Lib.itoa n)) := by
    rw [hsn, hsk]
    unfold Hid
    simp [Al.wEvent]
  have HT := HX.out
  clear h1 h2 hsn hsk n1 n2 HX
  go_enter Tryd.func13, Tryd.ntmps13
  go_upto_region 1 with fail
  rw [← hW0, ← hp]
  clear hW0 hp
  have hpW : p < W0.heap.size := by have := B0.out.2.2; omega
  go_wp2_with fail
  refine RN.out.mono ?_
  rintro e w1 ⟨rfl, b1⟩
  have d0 := (b1.cell (p := ⟨p, 0, none⟩) hpW).trans c0
  have d1 := (b1.cell (p := ⟨p, 1, none⟩) hpW).trans c1
  obtain ⟨q, hq⟩ : ∃ q, q = w1.heap.size := ⟨_, rfl⟩
  obtain ⟨W2, hW2⟩ : ∃ W2, W2 = w1.alloc (.cells #[.string ⟨#[]⟩, .string ((⟨#[112, 114, 105, 110, 116, 32]⟩ : ByteArray) ++ sn), .string ((⟨#[114, 101, 97, 100, 32]⟩ : ByteArray) ++ sn), .string ⟨#[101, 110, 100]⟩, .string ((⟨#[116, 114, 97, 112, 32]⟩ : ByteArray) ++ sn), .string ⟨#[102, 117, 101, 108]⟩] 9) := ⟨_, rfl⟩
  have C2 := cells6 w1 (.string ⟨#[]⟩) (.string ((⟨#[112, 114, 105, 110, 116, 32]⟩ : ByteArray) ++ sn)) (.string ((⟨#[114, 101, 97, 100, 32]⟩ : ByteArray) ++ sn)) (.string ⟨#[101, 110, 100]⟩) (.string ((⟨#[116, 114, 97, 112, 32]⟩ : ByteArray) ++ sn)) (.string ⟨#[102, 117, 101, 108]⟩) 9
  rw [← hW2, ← hq] at C2
  obtain ⟨f1, f2, f3, f4, f5⟩ := C2
  have b2 : Below w1.heap.size w1 W2 := by rw [hW2]; exact (Below.refl _ _).alloc (Nat.le_refl _) _
  have g0 := (b2.cell (p := ⟨p, 0, none⟩) (Nat.lt_of_lt_of_le hpW b1.size)).trans d0
  have g1 := (b2.cell (p := ⟨p, 1, none⟩) (Nat.lt_of_lt_of_le hpW b1.size)).trans d1
  have BW2 : Hid (Below w.heap.size w W2) := B0.out.1.trans ((b1.trans (b2.mono b1.size)).mono B0.out.1.size)
  clear b1 b2 c0 c1 hpW RN
  go_upto_region 3 with fail
  rw [← hW2, ← hq]
  clear hW2 hq d0 d1 z1 z2 z3
  by_cases k1 : k = 1
  · rw [if_pos k1] at HT
    have F := hidA (HQ.out _ W2 (K1.out.trans HT.symm) BW2.out)
    subst k1
    clear HT
    go_wp2_with fail
    exact F.out
  · rw [if_neg k1] at HT
    by_cases k2 : k = 2
    · rw [if_pos k2] at HT
      have F := hidA (HQ.out _ W2 (K2.out.trans HT.symm) BW2.out)
      subst k2
      clear HT
      go_wp2_with fail
      exact F.out
    · rw [if_neg k2] at HT
      by_cases k3 : k = 3
      · rw [if_pos k3] at HT
        have F := hidA (HQ.out ⟨#[101, 110, 100]⟩ W2 ((rfl : (⟨#[101, 110, 100]⟩ : ByteArray).data.toList = Al.wEnd).trans HT.symm) BW2.out)
        subst k3
        clear HT
        go_wp2_with fail
        exact F.out
      · rw [if_neg k3] at HT
        by_cases k4 : k = 4
        · rw [if_pos k4] at HT
          have F := hidA (HQ.out _ W2 (K4.out.trans HT.symm) BW2.out)
          subst k4
          clear HT
          go_wp2_with fail
          exact F.out
        · rw [if_neg k4] at HT
          by_cases k5 : k = 5
          · rw [if_pos k5] at HT
            have F := hidA (HQ.out ⟨#[102, 117, 101, 108]⟩ W2 ((rfl : (⟨#[102, 117, 101, 108]⟩ : ByteArray).data.toList = Al.wFuel).trans HT.symm) BW2.out)
            subst k5
            clear HT
            go_wp2_with fail
            exact F.out
          · rw [if_neg k5] at HT
            have e1 : (decide (k < 1) = true ∧ decide (5 < k) = false) ∨ (decide (k < 1) = false ∧ decide (5 < k) = true) := by
              rcases Int.lt_or_le k 1 with c | c
              · exact .inl ⟨decide_eq_true c, decide_eq_false (by omega)⟩
              · exact .inr ⟨decide_eq_false (by omega), decide_eq_true (by omega)⟩
            have F := hidA (fun w' (b : Below w.heap.size w w') => HQ.out _ w' (K6.out.trans HT.symm) b)
            obtain ⟨z4, z5, z6⟩ := Z4.out
            clear HT k1 k2 k3 k4 k5 f1 f2 f3 f4 f5
            rcases e1 with ⟨e1, e2⟩ | ⟨e1, e2⟩
            all_goals
              go_wp2_with fail
              refine (RK.out W2).mono ?_
              rintro e w3 ⟨rfl, b3⟩
              have FF := hidA (F.out w3 (BW2.out.trans (b3.mono BW2.out.size)))
              clear b3
              go_wp2_with fail
              exact FF.out
end Go.Proofs.YtpfkoglmfbaadaaDoor
