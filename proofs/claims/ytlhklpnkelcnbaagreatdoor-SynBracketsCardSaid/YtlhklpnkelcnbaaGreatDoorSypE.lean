/- Layer 3: Expr of any text. -/
import Derived.Test.YtlhklpnkelcnbaaGreatDoorSypB
import Derived.Test.YtlhklpnkelcnbaaGreatDoorSypC
import Derived.Test.YtlhklpnkelcnbaaGreatDoorSypD
namespace Go.Proofs.YtlhklpnkelcnbaaGreatDoor
open Go.RowKit

set_option maxRecDepth 100000 in
set_option maxHeartbeats 1000000 in
theorem Expr_scan (s : ByteArray) (a : Nat) (er : Int) (w : World) (hk : Kw w) (hs : s.size ≤ 16384) (h : Lx.scan s.data.toList = ([], a, er)) (he : ¬ er = 0) :
    Calls Tryz.prog 7 #[.string s] w (EXbad w a er) := by
  have HS : Hid (∀ W, Below w.heap.size w W → Calls Tryz.prog 16 #[.string s] W fun e w' => ScanIs s.data.toList W e w') := fun W hW => scan_short s W hs (hk.later hW)
  have H : Hid (Lx.scan s.data.toList = ([], a, er)) := h
  have be : (er == 0) = false := beq_eq_false_iff_ne.2 he
  clear hs h he hk
  go_enter Tryz.func7, Tryz.ntmps7
  go_wp2_with fail
  refine (HS.out _ (box_below w _)).mono ?_
  rintro e w1 ⟨v, rfl, ho, b1⟩
  rw [H.out] at ho ⊢
  obtain ⟨ao, cap, rfl⟩ := ho.shape
  have B1 := (Bx.new w 25 (.int .i64 0) (.string ⟨#[]⟩) (.int .i64 0) (.slice none 0 0)).later b1 (by simp)
  have BW : Hid _ := (box_below w zE).trans (b1.mono (by simp))
  obtain ⟨c0, c1, c2, c3, f0, f1, f2, f3, zt⟩ := B1
  clear ho b1
  simp only
  go_wp2_with fail
  refine bodyPost_ret (v := .tuple #[.agg #[.int .i64 0, .string ⟨#[]⟩, .int .i64 0, .slice none 0 0], .int .i64 (a : Int), .int .i64 er]) (by simp [results, Tryz.results7, go_sem, c0, c1, c2, c3]) rfl ?_
  exact ⟨rfl, (((BW.out.setCell (by simp) _).setCell (by simp) _).setCell (by simp) _).setCell (by simp) _⟩
set_option maxRecDepth 100000 in
set_option maxHeartbeats 1000000 in
theorem Expr_behind (s : ByteArray) (R : List (Lx.Tk × Nat)) (f : Nat) (y : Sx.Ex) (k' : Nat) (w : World) (hk : Kw w) (hs : s.size ≤ 16384) (h : Lx.scan s.data.toList = (R, 0, 0)) (hn : R ≠ []) (hr : Sx.bd (R.map tkI) f 1 1 0 = some (.ok y k')) (hk' : k' < R.length) (he : ¬ ((R.map tkI).getD k' tok0).1.kind = 0) :
    Calls Tryz.prog 7 #[.string s] w (EXbad w ((R.map tkI).getD k' tok0).2 30) := by
  have HS : Hid (∀ W, Below w.heap.size w W → Calls Tryz.prog 16 #[.string s] W fun e w' => ScanIs s.data.toList W e w') := fun W hW => scan_short s W hs (hk.later hW)
  have HR : Hid (Sx.bd (R.map tkI) f 1 1 0 = some (.ok y k')) := hr
  have H : Hid (Lx.scan s.data.toList = (R, 0, 0)) := h
  have HN : Hid (R ≠ []) := hn
  have hki : (k' : Int) < (R.length : Int) := by omega
  have hk0 : (0 : Int) ≤ (k' : Int) := by omega
  generalize hK : ((R.map tkI).getD k' tok0).1.kind = K at he
  generalize hP : ((R.map tkI).getD k' tok0).2 = P
  have be : (K == 0) = false := beq_eq_false_iff_ne.2 he
  have HE : Hid (((R.map tkI).getD k' tok0).1.kind = K ∧ ((R.map tkI).getD k' tok0).2 = P) := ⟨hK, hP⟩
  clear hs hr h hn he hk hK hP
  go_enter Tryz.func7, Tryz.ntmps7
  go_wp2_with fail
  refine (HS.out _ (box_below w _)).mono ?_
  rintro e w1 ⟨v, rfl, ho, b1⟩
  rw [H.out] at ho ⊢
  obtain ⟨g, cap, rfl, hc, hg, T⟩ := ho.ta HN.out
  have hgd := scan_good H.out HN.out
  have E1 : Hid _ := readExpr_ok g 0 cap (R.map tkI) hgd f 0 y k' w1 T hgd.pos HR.out
  have hlen : (R.map tkI).length = R.length := by simp
  rw [hlen] at E1
  have B1 := (Bx.new w 25 (.int .i64 0) (.string ⟨#[]⟩) (.int .i64 0) (.slice none 0 0)).later b1 (by simp)
  have BW : Hid _ := (box_below w zE).trans (b1.mono (by simp))
  have BB : Hid _ := B1
  have TT : Hid ((w1.cell? ⟨g, 0 + k' * 4, none⟩ = some (.int .i64 K) ∧ w1.cell? ⟨g, 0 + k' * 4 + 3, none⟩ = some (.int .i64 P)) ∧ g < w1.heap.size) := by
    have e := T.c0 k' (by rw [hlen]; exact hk')
    have e' := T.c3 k' (by rw [hlen]; exact hk')
    rw [HE.out.1] at e
    rw [HE.out.2] at e'
    exact ⟨⟨e, e'⟩, T.lt⟩
  have gne : ¬ g = w.heap.size := by have : w.heap.size + 1 ≤ g := (by simpa using hg); omega
  have gne' : ¬ w.heap.size = g := fun e => gne e.symm
  clear ho hg T hgd hlen b1 B1
  simp only
  go_wp2_with fail
  refine Calls.mono E1.out ?_
  rintro e w2 ⟨kk, nn, mm, sa, sn, sc, ll, rfl, rfl, X, b2⟩
  have B2 := BB.out.later b2 BB.out.lt
  have t2 : w2.cell? ⟨g, k' * 4, none⟩ = some (.int .i64 K) := by have e := (b2.cell (p := ⟨g, 0 + k' * 4, none⟩) TT.out.2).trans TT.out.1.1; rw [Nat.zero_add] at e; exact e
  have t3 : w2.cell? ⟨g, k' * 4 + 3, none⟩ = some (.int .i64 P) := by have e := (b2.cell (p := ⟨g, 0 + k' * 4 + 3, none⟩) TT.out.2).trans TT.out.1.2; rw [Nat.zero_add] at e; exact e
  have zg : g < w2.heap.size := Nat.lt_of_lt_of_le TT.out.2 b2.size
  have BW2 : Hid _ := BW.out.trans (b2.mono BW.out.size)
  obtain ⟨c0, c1, c2, c3, f0, f1, f2, f3, zt⟩ := B2
  clear b2 X
  go_wp2_with fail
  go_region
  all_goals
    go_wp2_with fail
    refine bodyPost_ret (v := .tuple #[.agg #[.int .i64 0, .string ⟨#[]⟩, .int .i64 0, .slice none 0 0], .int .i64 P, .int .i64 30]) (by simp [results, Tryz.results7, go_sem, c0, c1, c2, c3, zt]) rfl ?_
    refine ⟨rfl, ?_⟩
    exact (((((BW2.out.setCell (by simp) _).setCell (by simp) _).setCell (by simp) _).setCell (by simp) _).alloc (by simp; omega) _).drew
/-- What Expr makes of a text. -/
inductive ExT (l : List UInt8) : Option Sx.Ex → Int → Prop
  | scan (a : Nat) (er : Int) (h : Lx.scan l = ([], a, er)) (he : ¬ er = 0) : ExT l none er
  | bad (R : List (Lx.Tk × Nat)) (f : Nat) (a er : Int) (h : Lx.scan l = (R, 0, 0)) (hn : R ≠ []) (hr : Sx.bd (R.map tkI) f 1 1 0 = some (.bad a er)) (he : er = 30 ∨ er = 31) : ExT l none er
  | behind (R : List (Lx.Tk × Nat)) (f : Nat) (y : Sx.Ex) (k : Nat) (h : Lx.scan l = (R, 0, 0)) (hn : R ≠ []) (hr : Sx.bd (R.map tkI) f 1 1 0 = some (.ok y k)) (hk : k < R.length) (he : ¬ ((R.map tkI).getD k tok0).1.kind = 0) : ExT l none 30
  | ok (R : List (Lx.Tk × Nat)) (f : Nat) (y : Sx.Ex) (k : Nat) (h : Lx.scan l = (R, 0, 0)) (hn : R ≠ []) (hr : Sx.bd (R.map tkI) f 1 1 0 = some (.ok y k)) (hk : k < R.length) (he : ((R.map tkI).getD k tok0).1.kind = 0) : ExT l (some y) 0
/-- What Expr answers: an expression, or an error. -/
def EXis (w : World) : Option Sx.Ex → Int → Ending → World → Prop
  | some y, _, e, w' => EXok w y e w'
  | none, er, e, w' => ∃ a, EXbad w a er e w'
theorem Expr_any (s : ByteArray) (r : Option Sx.Ex) (er : Int) (w : World) (hk : Kw w) (hs : s.size ≤ 16384) (h : ExT s.data.toList r er) : Calls Tryz.prog 7 #[.string s] w (EXis w r er) := by
  cases h with
  | scan a er h he => exact (Expr_scan s a _ w hk hs h he).mono fun _ _ h => ⟨_, h⟩
  | bad R f a er h hn hr he => exact (Expr_bad s R f a _ w hk hs h hn hr (by omega)).mono fun _ _ h => ⟨_, h⟩
  | behind R f y k h hn hr hk' he => exact (Expr_behind s R f y k w hk hs h hn hr hk' he).mono fun _ _ h => ⟨_, h⟩
  | ok R f y k h hn hr hk' he => exact Expr_ok s R f y k w hk hs h hn hr hk' he
/-- What the errors of reading are. -/
theorem Sx.errs (ts : List Tok) : ∀ f, (∀ d k a er, Sx.un ts f d k = some (.bad a er) → er = 30 ∨ er = 31) ∧ (∀ q d k a er, Sx.bd ts f q d k = some (.bad a er) → er = 30 ∨ er = 31) ∧ (∀ q d y k a er, Sx.lp ts f q d y k = some (.bad a er) → er = 30 ∨ er = 31)
  | 0 => ⟨fun d k x k' h => (by rw [Sx.un] at h; cases h), fun q d k x k' h => (by rw [Sx.bd] at h; cases h), fun q d y k x k' h => (by rw [Sx.lp] at h; cases h)⟩
  | f + 1 => by
    obtain ⟨hu, hb, hl⟩ := Sx.errs ts f
    have sh : ∀ (s : List UInt8) (g : Sx.Ex → Sx.Ex) (A : Option Sx.Rs) (a er : Int), (∀ a er, A = some (.bad a er) → er = 30 ∨ er = 31) → Sx.shut ts s g A = some (.bad a er) → er = 30 ∨ er = 31 := by
      intro s g A a er hA h
      match A, h, hA with
      | some (.ok y k), h, _ =>
        rw [Sx.shut_ok] at h
        by_cases c : Sx.tx ts k = s
        · rw [if_pos c] at h; cases h
        · rw [if_neg c] at h; cases h; exact .inl rfl
      | some (.bad a' e'), h, hA => cases h; exact hA _ _ rfl
      | none, h, _ => cases h
    refine ⟨fun d k a er h => ?_, fun q d k a er h => ?_, fun q d y k a er h => ?_⟩
    · rw [Sx.un] at h
      by_cases c1 : Sx.begE (ts.getD k tok0) = false
      · rw [if_pos c1] at h; cases h; exact .inl rfl
      rw [if_neg c1] at h
      by_cases c2 : 60 < d
      · rw [if_pos c2] at h; cases h; exact .inr rfl
      rw [if_neg c2] at h
      by_cases c3 : (ts.getD k tok0).1.kind = 2
      · rw [if_pos c3] at h; cases h
      rw [if_neg c3] at h
      by_cases c4 : (ts.getD k tok0).1.kind = 1
      · rw [if_pos c4] at h
        by_cases c5 : Sx.tx ts (k + 1) = [91]
        · rw [if_pos c5] at h
          exact sh _ _ _ _ _ (fun a er e => hb _ _ _ _ _ e) h
        · rw [if_neg c5] at h; cases h
      rw [if_neg c4] at h
      by_cases c6 : Sx.tx ts k = [116, 114, 117, 101]
      · rw [if_pos c6] at h; cases h
      rw [if_neg c6] at h
      by_cases c7 : Sx.tx ts k = [102, 97, 108, 115, 101]
      · rw [if_pos c7] at h; cases h
      rw [if_neg c7] at h
      by_cases c8 : Sx.tx ts k = [40]
      · rw [if_pos c8] at h
        exact sh _ _ _ _ _ (fun a er e => hb _ _ _ _ _ e) h
      rw [if_neg c8] at h
      cases hw : Sx.un ts f (d + 1) (k + 1) with
      | none => rw [hw] at h; cases h
      | some w =>
        rw [hw] at h
        cases w with
        | ok y j => cases h
        | bad a e => cases h; exact hu _ _ _ _ hw
    · rw [Sx.bd] at h
      by_cases c1 : 5 < q
      · rw [if_pos c1] at h; exact hu _ _ _ _ h
      rw [if_neg c1] at h
      cases hw : Sx.bd ts f (q + 1) d k with
      | none => rw [hw] at h; cases h
      | some w =>
        rw [hw] at h
        cases w with
        | ok y j => exact hl _ _ _ _ _ _ h
        | bad a e => cases h; exact hb _ _ _ _ _ hw
    · rw [Sx.lp] at h
      by_cases c1 : Sx.bindsB (Sx.tx ts k) = q
      · rw [if_pos c1] at h
        cases hw : Sx.bd ts f (q + 1) d (k + 1) with
        | none => rw [hw] at h; cases h
        | some w =>
          rw [hw] at h
          cases w with
          | ok z j =>
            simp only at h
            by_cases c2 : q = 3
            · rw [if_pos c2] at h; cases h
            · rw [if_neg c2] at h; exact hl _ _ _ _ _ _ h
          | bad a e => cases h; exact hb _ _ _ _ _ hw
      · rw [if_neg c1] at h; cases h
/-- The tokens, without places. -/
theorem map_fst (R : List (Lx.Tk × Nat)) (j : Nat) : ((R.map tkI).getD j tok0).1 = (R.map (·.1)).getD j Lx.tEnd := by
  simp only [List.getD_eq_getElem?_getD, List.getElem?_map]
  cases R[j]? <;> rfl
theorem ends_of {R : List (Lx.Tk × Nat)} {S0 : List Lx.Tk} (h : R.map (·.1) = S0 ++ [Lx.tEnd]) : Sx.Ends (R.map tkI) S0.length := by
  intro j hj
  rw [map_fst, h, List.getD_eq_getElem?_getD]
  by_cases c : j = S0.length
  · rw [c, List.getElem?_concat_length]; rfl
  · rw [List.getElem?_eq_none (by simp; omega)]; rfl
theorem scan_dich {l : List UInt8} (hl : l.length ≤ 3000) : (∃ R, Lx.scan l = (R, 0, 0) ∧ R ≠ []) ∨ ∃ a, Lx.scan l = ([], a, 20) := by
  rcases Lx.scan_first hl with ⟨h1, h2⟩ | ⟨a, h, _⟩
  · have e : Lx.scan l = ((Lx.scan l).1, 0, 0) := Prod.ext rfl (Prod.ext h2 h1)
    exact .inl ⟨_, e, (Lx.scan_toks e).1.ne⟩
  · exact .inr ⟨a, h⟩
theorem ExT.any {l : List UInt8} (hl : l.length ≤ 3000) : ∃ r er, ExT l r er := by
  rcases scan_dich hl with ⟨R, h, hn⟩ | ⟨a, h⟩
  · obtain ⟨S0, hS0, hall⟩ := (Lx.scan_toks h).1.last (by omega)
    have hE := ends_of hS0
    obtain ⟨f, r, hr⟩ := Sx.bd_tot hE 1 0
    cases r with
    | bad a er => exact ⟨_, _, .bad R f a er h hn hr ((Sx.errs _ f).2.1 _ _ _ _ _ hr)⟩
    | ok y k =>
      have hin := (Sx.ok_in hE f).2.1 _ _ _ _ _ hr
      have hlen : R.length = S0.length + 1 := by have := congrArg List.length hS0; simpa using this
      by_cases c : ((R.map tkI).getD k tok0).1.kind = 0
      · exact ⟨_, _, .ok R f y k h hn hr (by omega) c⟩
      · exact ⟨_, _, .behind R f y k h hn hr (by omega) c⟩
  · exact ⟨_, _, .scan a 20 h (by decide)⟩
theorem nest_of {R R2 : List (Lx.Tk × Nat)} {S0 : List Lx.Tk} {n : Nat} (h : R.map (·.1) = S0 ++ [Lx.tEnd]) (h2 : R2.map (·.1) = List.replicate n Lx.tOpn ++ (S0 ++ (List.replicate n Lx.tShu ++ [Lx.tEnd]))) : Sx.Nest (R.map tkI) (R2.map tkI) S0.length n := by
  refine ⟨ends_of h, fun j hj => ?_, fun j hj => ?_, fun j hj => ?_, ?_⟩
  · rw [map_fst, h2, List.getD_eq_getElem?_getD, List.getElem?_append_left (by simpa using hj), List.getElem?_replicate, if_pos hj]; rfl
  · rw [map_fst, map_fst, h, h2, List.getD_eq_getElem?_getD, List.getD_eq_getElem?_getD, List.getElem?_append_right (by simp), List.getElem?_append_left (by simpa using hj), List.getElem?_append_left hj]
    simp
  · rw [map_fst, h2, List.getD_eq_getElem?_getD, List.getElem?_append_right (by first | (simp; done) | (simp; omega)), List.getElem?_append_right (by first | (simp; done) | (simp; omega)), List.getElem?_append_left (by first | (simp; done) | (simp; omega)), List.getElem?_replicate, if_pos (by first | (simp; done) | (simp; omega))]; rfl
  · rw [map_fst, h2, List.getD_eq_getElem?_getD, List.getElem?_append_right (by first | (simp; done) | (simp; omega)), List.getElem?_append_right (by first | (simp; done) | (simp; omega)), List.getElem?_append_right (by first | (simp; done) | (simp; omega))]
    have : S0.length + n + n - (List.replicate n Lx.tOpn).length - S0.length - (List.replicate n Lx.tShu).length = 0 := by simp
    rw [this]; rfl
/-- What is left of an expression with brackets around it. -/
theorem brackets {l : List UInt8} (hl : l.length ≤ 2000) {n : Nat} (hn : n ≤ 9) : ∃ r er r2 er2, ExT l r er ∧ ExT (Lx.opnL n ++ l ++ Lx.shuL n) r2 er2 ∧
    ((∃ y, r = some y ∧ er = 0 ∧ Sx.Small y ∧ ((r2 = some y ∧ er2 = 0) ∨ (r2 = none ∧ er2 = 31))) ∨ (r = none ∧ ¬ er = 0 ∧ (er = 30 ∨ ¬ er2 = 0))) := by
  have hl2 : (Lx.opnL n ++ l ++ Lx.shuL n).length ≤ 3000 := by rw [Lx.len_mid]; omega
  obtain ⟨r, er, h⟩ := ExT.any (l := l) (by omega)
  cases h with
  | scan a er h he =>
    obtain ⟨r2, er2, h2⟩ := ExT.any hl2
    rcases scan_dich (l := l) (by omega) with ⟨R, h', _⟩ | ⟨a', h'⟩
    · rw [h] at h'; cases h'; exact absurd rfl he
    · have hne := Lx.scan_nest_err h' n hl (by omega)
      refine ⟨none, er, r2, er2, .scan a er h he, h2, .inr ⟨rfl, he, .inr fun e => ?_⟩⟩
      subst e
      cases h2 with
      | scan _ _ _ he => exact he rfl
      | bad _ _ _ _ _ _ _ he => omega
      | ok R _ _ _ hs => rw [hs] at hne; exact hne rfl
  | bad R f a er h hn' hr he =>
    rcases he with rfl | rfl
    · obtain ⟨r2, er2, h2⟩ := ExT.any hl2
      exact ⟨none, 30, r2, er2, .bad R f a 30 h hn' hr (.inl rfl), h2, .inr ⟨rfl, by decide, .inl rfl⟩⟩
    · obtain ⟨R2, S0, hs2, hS0, hall, hm⟩ := Lx.scan_nest h n hl (by omega)
      have hne : R2 ≠ [] := fun e => by rw [e] at hm; simp at hm
      obtain ⟨F, b, hb⟩ := (nest_of hS0 hm).deep (by omega) hr n (Nat.le_refl _)
      rw [Nat.sub_self] at hb
      exact ⟨none, 31, none, 31, .bad R f a 31 h hn' hr (.inr rfl), .bad R2 F b 31 hs2 hne hb (.inr rfl), .inr ⟨rfl, by decide, .inr (by decide)⟩⟩
  | behind R f y k h hn' hr hk he =>
    obtain ⟨r2, er2, h2⟩ := ExT.any hl2
    exact ⟨none, 30, r2, er2, .behind R f y k h hn' hr hk he, h2, .inr ⟨rfl, by decide, .inl rfl⟩⟩
  | ok R f y k h hn' hr hk he =>
    obtain ⟨R2, S0, hs2, hS0, hall, hm⟩ := Lx.scan_nest h n hl (by omega)
    have hne : R2 ≠ [] := fun e => by rw [e] at hm; simp at hm
    have hE := ends_of hS0
    have hin := (Sx.ok_in hE f).2.1 _ _ _ _ _ hr
    have hkl : k = S0.length := by
      by_cases c : k < S0.length
      · exfalso
        rw [map_fst, hS0, List.getD_eq_getElem?_getD, List.getElem?_append_left c, List.getElem?_eq_getElem c] at he
        exact hall _ (List.getElem_mem c) he
      · omega
    subst hkl
    have N := nest_of hS0 hm
    have hlen2 : R2.length = n + (S0.length + (n + 1)) := by have := congrArg List.length hm; simpa using this
    obtain ⟨F, hF⟩ := N.ok (by omega) hr n (Nat.le_refl _)
    rw [Nat.sub_self] at hF
    have sm := (Sx.small _ f).2.1 _ _ _ _ _ hr
    rcases hF with e | ⟨b, e⟩
    · exact ⟨some y, 0, some y, 0, .ok R f y _ h hn' hr hk he, .ok R2 F y _ hs2 hne e (by omega) (by rw [N.stop]), .inl ⟨y, rfl, rfl, sm, .inl ⟨rfl, rfl⟩⟩⟩
    · exact ⟨some y, 0, none, 31, .ok R f y _ h hn' hr hk he, .bad R2 F b 31 hs2 hne e (.inr rfl), .inl ⟨y, rfl, rfl, sm, .inr ⟨rfl, rfl⟩⟩⟩
end Go.Proofs.YtlhklpnkelcnbaaGreatDoor
