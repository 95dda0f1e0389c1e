/- Layer 13: head. -/
import Derived.Test.YtgonadilbjfpkaaTpR
namespace Go.Proofs.Ytgonadilbjfpkaa
open Go.RowKit
set_option linter.unusedVariables false
set_option linter.unusedSimpArgs false
theorem neqAr (w : World) (x0 x1 x2 x3 x4 y0 y1 y2 y3 y4 : Int) : (Op.equalIn 10000 83 (.agg #[.int .u8 x0, .int .u8 x1, .int .u8 x2, .int .u8 x3, .int .u8 x4]) (.agg #[.int .u8 y0, .int .u8 y1, .int .u8 y2, .int .u8 y3, .int .u8 y4])).run Try.prog w = .ok (decide ([x0, x1, x2, x3, x4] = [y0, y1, y2, y3, y4])) w :=
  eqAr w [x0, x1, x2, x3, x4] [y0, y1, y2, y3, y4] 83 5 Try.underlying83 rfl rfl
def hdQ (g : Nat) (T : TypeId) (a : Option Addr) (c : Nat) (b : List Int) (r : List Value) (w : World) (w' : World) (e : Ending) : Option (Nat × Int) → Prop
  | none => e = .returned (.tuple #[]) ∧ PlQ g T a c b r w 5 w'
  | some (i, x) => e = tpPan x ∧ PlQ g T a c b r w i w'
theorem Tp.fnd_lt (ws b : List Int) (i : Nat) (ht : (Tp.fnd ws b).take i = ws.take i) (hn : ¬ Tp.fnd ws b = ws) : i < b.length := by
  rcases Nat.lt_or_ge i b.length with h | h
  · exact h
  · exfalso
    rcases Nat.lt_or_ge ws.length b.length with h2 | h2
    · exact hn (Tp.take_all ht (Tp.fnd_len ws b) (by omega))
    · have e1 : (Tp.fnd ws b).take b.length = ws.take b.length := by
        have := congrArg (List.take b.length) ht
        rwa [List.take_take, List.take_take, Nat.min_eq_left h] at this
      have e2 : Tp.fnd ws b = b ++ ws.drop b.length := by
        unfold Tp.fnd
        rw [List.take_of_length_le h2, show Nat.min b.length ws.length = b.length from Nat.min_eq_left h2]
      rw [e2, List.take_left] at e1
      apply hn
      rw [e2]
      conv => lhs; lhs; rw [e1]
      exact List.take_append_drop _ _
set_option maxRecDepth 100000 in
set_option maxHeartbeats 4000000 in
theorem head_short (w : World) (g : Nat) (T : TypeId) (a : Option Addr) (c : Nat) (b : List Int) (r : List Value) (h : PlB w g T a c b 0 r) (kd : Int) (f0 f1 f2 f3 f4 : Int) (hf : Tp.fnd (Tp.head kd) b = [f0, f1, f2, f3, f4]) (he : [f0, f1, f2, f3, f4] = [80, 76, 88, 49, kd]) (hl : b.length < 5) :
    Calls Try.prog 58 #[.pointer (some ⟨g, 0, none⟩), .int .u8 kd] w fun e w' => e = tpPan 112 ∧ PlQ g T a c b r w b.length w' := by
  have H := hidT h
  have hgw := h.lt
  have hln := h.ln
  have HF := hidT hf
  obtain ⟨n, hn⟩ : ∃ n, n = b.length := ⟨_, rfl⟩
  have HN := hidT hn
  have hEq := (fun W => neqAr W f0 f1 f2 f3 f4 80 76 88 49 kd)
  simp only [decide_eq_true he] at hEq
  have HE := hidT he
  rw [← hn] at hln
  clear h hf he
  go_enter Try.func58, Try.ntmps58
  go_wp2_with fail
  refine (headOf_any kd w).mono ?_
  rintro e w1 ⟨rfl, K1⟩
  obtain ⟨W2, hW2⟩ : ∃ W, W = (w1.alloc (.cells #[.int .u8 80, .int .u8 76, .int .u8 88, .int .u8 49, .int .u8 kd] 83)).alloc (.cells #[.int .u8 80, .int .u8 76, .int .u8 88, .int .u8 49, .int .u8 kd] 83) := ⟨_, rfl⟩
  obtain ⟨a0, W3, hcp, hr3⟩ := hd_copy w g T a c b r H.out w1 K1.out (Tp.head kd) rfl W2 hW2
  rw [HF.out] at hr3
  obtain ⟨L, hL⟩ : ∃ L, Nat.min b.length 5 = L := ⟨_, rfl⟩
  have HL := hidT hL
  rw [hL] at hcp
  rw [← HN.out] at hcp a0
  have HR := hidT hr3
  clear hr3 hL hn
  obtain ⟨M, hM⟩ : ∃ M, M = w1.heap.size := ⟨_, rfl⟩
  rw [← hM] at hcp HR
  go_upto_region 2 with fail
  rw [← hW2, ← hM]
  clear hW2 hM
  go_region
  have b1 := HR.out.p.c1
  have bf := HR.out.p.fz 1
  have p0 := HR.out.c4 (j := 0) (x := 80) rfl
  have p1 := HR.out.c4 (j := 1) (x := 76) rfl
  have p2 := HR.out.c4 (j := 2) (x := 88) rfl
  have p3 := HR.out.c4 (j := 3) (x := 49) rfl
  have p4 := HR.out.c4 (j := 4) (x := kd) rfl
  have r0 := HR.out.c5 (j := 0) (x := f0) rfl
  have r1 := HR.out.c5 (j := 1) (x := f1) rfl
  have r2 := HR.out.c5 (j := 2) (x := f2) rfl
  have r3 := HR.out.c5 (j := 3) (x := f3) rfl
  have r4 := HR.out.c5 (j := 4) (x := f4) rfl
  clear hcp a0
  have hLn : L = n := by rw [← HL.out, HN.out]; exact Nat.min_eq_left (by omega)
  have hl' : n < 5 := by rw [HN.out]; exact hl
  rw [hLn]
  clear hLn hl
  have q5 : ((n : Int) == 5) = false := by simp; omega
  have FIN := hidT (HR.out.set (k' := n) (by rw [HN.out]; exact Nat.le_refl _) hgw)
  go_wp2_with fail
  refine (must_no 112 _).mono ?_
  unfold tpPan
  rintro e w' ⟨rfl, rfl⟩
  go_wp2_with fail
  refine ⟨rfl, rfl, ?_⟩
  rw [← HN.out]
  exact ⟨FIN.out.p, FIN.out.gb⟩
set_option maxRecDepth 100000 in
set_option maxHeartbeats 4000000 in
theorem head_whole (w : World) (g : Nat) (T : TypeId) (a : Option Addr) (c : Nat) (b : List Int) (r : List Value) (h : PlB w g T a c b 0 r) (kd : Int) (f0 f1 f2 f3 f4 : Int) (hf : Tp.fnd (Tp.head kd) b = [f0, f1, f2, f3, f4]) (he : [f0, f1, f2, f3, f4] = [80, 76, 88, 49, kd]) (hl : 5 ≤ b.length) :
    Calls Try.prog 58 #[.pointer (some ⟨g, 0, none⟩), .int .u8 kd] w fun e w' => e = .returned (.tuple #[]) ∧ PlQ g T a c b r w 5 w' := by
  have H := hidT h
  have hgw := h.lt
  have hln := h.ln
  have HF := hidT hf
  obtain ⟨n, hn⟩ : ∃ n, n = b.length := ⟨_, rfl⟩
  have HN := hidT hn
  have hEq := (fun W => neqAr W f0 f1 f2 f3 f4 80 76 88 49 kd)
  simp only [decide_eq_true he] at hEq
  have HE := hidT he
  rw [← hn] at hln
  clear h hf he
  go_enter Try.func58, Try.ntmps58
  go_wp2_with fail
  refine (headOf_any kd w).mono ?_
  rintro e w1 ⟨rfl, K1⟩
  obtain ⟨W2, hW2⟩ : ∃ W, W = (w1.alloc (.cells #[.int .u8 80, .int .u8 76, .int .u8 88, .int .u8 49, .int .u8 kd] 83)).alloc (.cells #[.int .u8 80, .int .u8 76, .int .u8 88, .int .u8 49, .int .u8 kd] 83) := ⟨_, rfl⟩
  obtain ⟨a0, W3, hcp, hr3⟩ := hd_copy w g T a c b r H.out w1 K1.out (Tp.head kd) rfl W2 hW2
  rw [HF.out] at hr3
  obtain ⟨L, hL⟩ : ∃ L, Nat.min b.length 5 = L := ⟨_, rfl⟩
  have HL := hidT hL
  rw [hL] at hcp
  rw [← HN.out] at hcp a0
  have HR := hidT hr3
  clear hr3 hL hn
  obtain ⟨M, hM⟩ : ∃ M, M = w1.heap.size := ⟨_, rfl⟩
  rw [← hM] at hcp HR
  go_upto_region 2 with fail
  rw [← hW2, ← hM]
  clear hW2 hM
  go_region
  have b1 := HR.out.p.c1
  have bf := HR.out.p.fz 1
  have p0 := HR.out.c4 (j := 0) (x := 80) rfl
  have p1 := HR.out.c4 (j := 1) (x := 76) rfl
  have p2 := HR.out.c4 (j := 2) (x := 88) rfl
  have p3 := HR.out.c4 (j := 3) (x := 49) rfl
  have p4 := HR.out.c4 (j := 4) (x := kd) rfl
  have r0 := HR.out.c5 (j := 0) (x := f0) rfl
  have r1 := HR.out.c5 (j := 1) (x := f1) rfl
  have r2 := HR.out.c5 (j := 2) (x := f2) rfl
  have r3 := HR.out.c5 (j := 3) (x := f3) rfl
  have r4 := HR.out.c5 (j := 4) (x := f4) rfl
  clear hcp a0
  have hL5 : L = 5 := by rw [← HL.out]; exact Nat.min_eq_right hl
  subst hL5
  have FIN := hidT (HR.out.set (k' := 5) (by omega) hgw)
  clear hl
  go_wp2_with fail
  refine (must_yes 112 _).mono ?_
  rintro e w' ⟨rfl, rfl⟩
  go_wp2_with fail
  exact ⟨rfl, .tuple #[], by simp [results, Try.results58, go_sem], rfl, FIN.out.p, FIN.out.gb⟩
set_option maxRecDepth 100000 in
set_option maxHeartbeats 4000000 in
theorem head_other (w : World) (g : Nat) (T : TypeId) (a : Option Addr) (c : Nat) (b : List Int) (r : List Value) (h : PlB w g T a c b 0 r) (kd : Int) (f0 f1 f2 f3 f4 : Int) (hf : Tp.fnd (Tp.head kd) b = [f0, f1, f2, f3, f4]) (he : ¬ [f0, f1, f2, f3, f4] = [80, 76, 88, 49, kd]) (j : Nat) (hj : Tp.hd 0 (Tp.head kd) b = some (j, 110))  :
    Calls Try.prog 58 #[.pointer (some ⟨g, 0, none⟩), .int .u8 kd] w fun e w' => e = tpPan 110 ∧ PlQ g T a c b r w j w' := by
  have H := hidT h
  have hgw := h.lt
  have hln := h.ln
  have HF := hidT hf
  obtain ⟨n, hn⟩ : ∃ n, n = b.length := ⟨_, rfl⟩
  have HN := hidT hn
  have hEq := (fun W => neqAr W f0 f1 f2 f3 f4 80 76 88 49 kd)
  simp only [decide_eq_false he] at hEq
  have HE := hidT he
  rw [← hn] at hln
  clear h hf he
  go_enter Try.func58, Try.ntmps58
  go_wp2_with fail
  refine (headOf_any kd w).mono ?_
  rintro e w1 ⟨rfl, K1⟩
  obtain ⟨W2, hW2⟩ : ∃ W, W = (w1.alloc (.cells #[.int .u8 80, .int .u8 76, .int .u8 88, .int .u8 49, .int .u8 kd] 83)).alloc (.cells #[.int .u8 80, .int .u8 76, .int .u8 88, .int .u8 49, .int .u8 kd] 83) := ⟨_, rfl⟩
  obtain ⟨a0, W3, hcp, hr3⟩ := hd_copy w g T a c b r H.out w1 K1.out (Tp.head kd) rfl W2 hW2
  rw [HF.out] at hr3
  obtain ⟨L, hL⟩ : ∃ L, Nat.min b.length 5 = L := ⟨_, rfl⟩
  have HL := hidT hL
  rw [hL] at hcp
  rw [← HN.out] at hcp a0
  have HR := hidT hr3
  clear hr3 hL hn
  obtain ⟨M, hM⟩ : ∃ M, M = w1.heap.size := ⟨_, rfl⟩
  rw [← hM] at hcp HR
  go_upto_region 2 with fail
  rw [← hW2, ← hM]
  clear hW2 hM
  go_region
  have b1 := HR.out.p.c1
  have bf := HR.out.p.fz 1
  have p0 := HR.out.c4 (j := 0) (x := 80) rfl
  have p1 := HR.out.c4 (j := 1) (x := 76) rfl
  have p2 := HR.out.c4 (j := 2) (x := 88) rfl
  have p3 := HR.out.c4 (j := 3) (x := 49) rfl
  have p4 := HR.out.c4 (j := 4) (x := kd) rfl
  have r0 := HR.out.c5 (j := 0) (x := f0) rfl
  have r1 := HR.out.c5 (j := 1) (x := f1) rfl
  have r2 := HR.out.c5 (j := 2) (x := f2) rfl
  have r3 := HR.out.c5 (j := 3) (x := f3) rfl
  have r4 := HR.out.c5 (j := 4) (x := f4) rfl
  clear hcp a0
  have HJ := hidT hj
  clear hj
  go_wp2_with fail
  go_loopg [] 5 (fun gk wr => ∃ i : Nat, i + gk = 5 ∧ Hid (HdR w g T a c b r M (Tp.head kd) [f0, f1, f2, f3, f4] i wr) ∧ Hid ([f0, f1, f2, f3, f4].take i = (Tp.head kd).take i))
  case atStart => exact ⟨0, rfl, HR, hidT rfl⟩
  case round =>
    obtain ⟨i, hi, HI, HT⟩ := hrel
    rcases gk with _ | gk
    · exact (HE.out (Tp.take_all HT.out rfl (by simp [Tp.head]; omega))).elim
    · obtain ⟨x, hx⟩ : ∃ x, (Tp.head kd)[i]? = some x := ⟨_, List.getElem?_eq_getElem (by simp [Tp.head]; omega)⟩
      obtain ⟨y, hy⟩ : ∃ y, [f0, f1, f2, f3, f4][i]? = some y := ⟨_, List.getElem?_eq_getElem (by simp; omega)⟩
      have c1 := HI.out.p.c1
      have cf := HI.out.p.fz 1
      have cx := HI.out.c4 hx
      have cy := HI.out.c5 hy
      have hi5 : i < 5 := by omega
      have di5 : decide (i < 5) = true := decide_eq_true hi5
      have HX := hidT hx
      have HY := hidT hy
      clear hx hy p0 p1 p2 p3 p4 r0 r1 r2 r3 r4 b1 bf
      by_cases hxy : y = x
      · have q : (y == x) = true := by simpa using hxy
        have HXY := hidT hxy
        clear hxy
        have hib : i + 1 ≤ b.length := Tp.fnd_lt (Tp.head kd) b i (by rw [HF.out]; exact HT.out) (by rw [HF.out]; exact HE.out)
        go_upto_region 4 with fail
        go_quiet (fail)
        have HD := hidT (HI.out.dr nq)
        generalize wr.drewN nq = W5 at HD ⊢
        have d1 := HD.out.p.c1
        have df := HD.out.p.fz 1
        have FIN := hidT (HD.out.set (k' := i + 1) hib hgw)
        have ei : ((i + 1 : Nat) : Int) = (i : Int) + 1 := by omega
        rw [ei] at FIN
        clear c1 cf cx cy ei
        go_wp2_with fail
        go_roundg gk
        case measure => omega
        case rel =>
          refine ⟨i + 1, by omega, FIN, ?_⟩
          unfold Hid
          rw [List.take_add_one, List.take_add_one, HT.out, HX.out, HY.out, HXY.out]
      · have q : (y == x) = false := by simpa using hxy
        have hji := Tp.hd_other (Tp.head kd) b i x y (by rw [HF.out]; exact HT.out) HX.out (by rw [HF.out]; exact HY.out) (fun e => hxy e.symm)
        rw [HJ.out] at hji
        have hji2 : j = i := by cases hji; rfl
        have HJI := hidT hji2
        clear hji hji2 hxy
        go_upto_region 4 with fail
        go_quiet (fail)
        have HD := hidT (HI.out.dr nq)
        generalize wr.drewN nq = W5 at HD ⊢
        clear c1 cf cx cy
        go_wp2_with fail
        refine ⟨rfl, rfl, ?_⟩
        rw [HJI.out]
        exact ⟨HD.out.p, HD.out.gb⟩
theorem head_any (w : World) (g : Nat) (T : TypeId) (a : Option Addr) (c : Nat) (b : List Int) (r : List Value) (h : PlB w g T a c b 0 r) (kd : Int) :
    Calls Try.prog 58 #[.pointer (some ⟨g, 0, none⟩), .int .u8 kd] w fun e w' => hdQ g T a c b r w w' e (Tp.hd 0 (Tp.head kd) b) := by
  obtain ⟨f0, f1, f2, f3, f4, hf⟩ := five_of (Tp.fnd (Tp.head kd) b) (Tp.fnd_len _ _)
  by_cases he : [f0, f1, f2, f3, f4] = [80, 76, 88, 49, kd]
  · have hq := Tp.hd_same (Tp.head kd) b (by rw [hf]; exact he)
    rw [hq]
    by_cases hl : b.length < 5
    · rw [if_pos (show b.length < (Tp.head kd).length from hl)]
      exact head_short w g T a c b r h kd f0 f1 f2 f3 f4 hf he hl
    · rw [if_neg (show ¬ b.length < (Tp.head kd).length from hl)]
      exact head_whole w g T a c b r h kd f0 f1 f2 f3 f4 hf he (by omega)
  · obtain ⟨j, hj⟩ : ∃ j, Tp.hd 0 (Tp.head kd) b = some (j, 110) := by
      have key : ∀ m i, i + m = 5 → (Tp.fnd (Tp.head kd) b).take i = (Tp.head kd).take i → ∃ j, Tp.hd 0 (Tp.head kd) b = some (j, 110) := by
        intro m
        induction m with
        | zero => intro i hi ht; exact (he (by rw [← hf]; exact Tp.take_all ht (Tp.fnd_len _ _) (by simp [Tp.head]; omega))).elim
        | succ m ih =>
          intro i hi ht
          obtain ⟨x, hx⟩ : ∃ x, (Tp.head kd)[i]? = some x := ⟨_, List.getElem?_eq_getElem (by simp [Tp.head]; omega)⟩
          obtain ⟨y, hy⟩ : ∃ y, (Tp.fnd (Tp.head kd) b)[i]? = some y := ⟨_, List.getElem?_eq_getElem (by rw [Tp.fnd_len]; simp [Tp.head]; omega)⟩
          by_cases hxy : y = x
          · refine ih (i + 1) (by omega) ?_
            rw [List.take_add_one, List.take_add_one, ht, hx, hy, hxy]
          · exact ⟨i, Tp.hd_other _ _ i x y ht hx hy (fun e => hxy e.symm)⟩
      exact key 5 0 rfl rfl
    rw [hj]
    exact head_other w g T a c b r h kd f0 f1 f2 f3 f4 hf he j hj
end Go.Proofs.Ytgonadilbjfpkaa
