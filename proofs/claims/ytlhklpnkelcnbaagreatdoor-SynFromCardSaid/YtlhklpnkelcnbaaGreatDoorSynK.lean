/- Layer 3: Expr. -/
import Derived.Test.YtlhklpnkelcnbaaGreatDoorSynJ
import Derived.Test.YtlhklpnkelcnbaaGreatDoorLexK
namespace Go.Proofs.YtlhklpnkelcnbaaGreatDoor
open Go.RowKit

theorem scanF_good (l : List UInt8) : ∀ (f at' : Nat) (ts R : List (Lx.Tk × Nat)) (a : Nat), ts.length ≤ 4000 → Lx.scanF l f at' ts = (R, a, 0) → R ≠ [] → ∃ ts' x, R = ts' ++ [x] ∧ x.1 = ⟨0, [], 0⟩ ∧ ts'.length ≤ 4000
  | 0, _, _, _, _, _, h, hn => by rw [Lx.scanF] at h; cases h; exact absurd rfl hn
  | f + 1, at', ts, R, a, hl, h, hn => by
    rw [Lx.scanF] at h
    split at h
    · cases h
    · rename_i t n hf
      split at h
      · cases h
      · split at h
        · rename_i hk
          rcases Lx.first_len hf with ⟨_, ht, _⟩ | ⟨ht, _⟩
          · have e := congrArg Prod.fst h
            exact ⟨ts, (t, Lx.skip l at'), e.symm, ht, hl⟩
          · exact absurd hk ht
        · exact scanF_good l f _ _ R a (by rw [List.length_append]; simp; omega) h hn
theorem scan_good {l : List UInt8} {R : List (Lx.Tk × Nat)} {a : Nat} (h : Lx.scan l = (R, a, 0)) (hn : R ≠ []) : Good (R.map tkI) := by
  unfold Lx.scan at h
  split at h
  · cases h
  · obtain ⟨ts', x, rfl, hx, hl⟩ := scanF_good l _ _ [] R a (by simp) h hn
    refine ⟨by simp, by simp; omega, ?_⟩
    simp [tkI, hx]
/-- What Expr answers where an expression was read. -/
def EXok (w : World) (y : Sx.Ex) (e : Ending) (w' : World) : Prop :=
  ∃ kk nn mm sa sn sc ll, y = .mk kk nn mm ll ∧ e = .returned (.tuple #[.agg #[.int .i64 kk, .string ⟨(nn : List UInt8).toArray⟩, .int .i64 mm, .slice sa sn sc], .int .i64 0, .int .i64 0]) ∧
    ExS (fun g => w.heap.size ≤ g) w' (.slice sa sn sc) ll ∧ Below w.heap.size w w'
def EXbad (w : World) (a er : Int) (e : Ending) (w' : World) : Prop :=
  e = .returned (.tuple #[.agg #[.int .i64 0, .string ⟨#[]⟩, .int .i64 0, .slice none 0 0], .int .i64 a, .int .i64 er]) ∧ Below w.heap.size w w'
set_option maxRecDepth 100000 in
set_option maxHeartbeats 1000000 in
theorem Expr_bad (s : ByteArray) (R : List (Lx.Tk × Nat)) (f : Nat) (a er : Int) (w : World) (hk : Kw w) (hs : s.size ≤ 16384) (h : Lx.scan s.data.toList = (R, 0, 0)) (hn : R ≠ []) (hr : Sx.bd (R.map tkI) f 1 1 0 = some (.bad a er)) (he : ¬ er = 0) :
    Calls Tryz.prog 7 #[.string s] w (EXbad w a er) := by
  have HS : Hid (∀ W, Below w.heap.size w W → Calls Tryz.prog 16 #[.string s] W fun e w' => ScanIs s.data.toList W e w') := fun W hW => scan_short s W hs (hk.later hW)
  have HR : Hid (Sx.bd (R.map tkI) f 1 1 0 = some (.bad a er)) := hr
  have H : Hid (Lx.scan s.data.toList = (R, 0, 0)) := h
  have HN : Hid (R ≠ []) := hn
  have be : (er == 0) = false := beq_eq_false_iff_ne.2 he
  clear hs hr h hn he hk
  go_enter Tryz.func7, Tryz.ntmps7
  go_wp2_with fail
  refine (HS.out _ (box_below w _)).mono ?_
  rintro e w1 ⟨v, rfl, ho, b1⟩
  rw [H.out] at ho ⊢
  obtain ⟨g, cap, rfl, hc, hg, T⟩ := ho.ta HN.out
  have hgd := scan_good H.out HN.out
  have E1 : Hid _ := readExpr_bad g 0 cap (R.map tkI) hgd f 0 a er w1 T hgd.pos HR.out
  have hlen : (R.map tkI).length = R.length := by simp
  rw [hlen] at E1
  have B1 := (Bx.new w 25 (.int .i64 0) (.string ⟨#[]⟩) (.int .i64 0) (.slice none 0 0)).later b1 (by simp)
  have BW : Hid _ := (box_below w zE).trans (b1.mono (by simp))
  have BB : Hid _ := B1
  clear ho hc hg T hgd hlen b1 B1
  simp only
  go_wp2_with fail
  refine Calls.mono E1.out ?_
  rintro e w2 ⟨rfl, b2⟩
  have B2 := BB.out.later b2 BB.out.lt
  have BW2 : Hid _ := BW.out.trans (b2.mono BW.out.size)
  obtain ⟨c0, c1, c2, c3, f0, f1, f2, f3, zt⟩ := B2
  clear b2
  go_wp2_with fail
  refine bodyPost_ret (v := .tuple #[.agg #[.int .i64 0, .string ⟨#[]⟩, .int .i64 0, .slice none 0 0], .int .i64 a, .int .i64 er]) (by simp [results, Tryz.results7, go_sem, c0, c1, c2, c3, zt]) rfl ?_
  exact ⟨rfl, ((((BW2.out.setCell (by simp) _).setCell (by simp) _).setCell (by simp) _).setCell (by simp) _).alloc (by simp; omega) _⟩
set_option maxRecDepth 100000 in
set_option maxHeartbeats 1000000 in
theorem Expr_ok (s : ByteArray) (R : List (Lx.Tk × Nat)) (f : Nat) (y : Sx.Ex) (k' : Nat) (w : World) (hk : Kw w) (hs : s.size ≤ 16384) (h : Lx.scan s.data.toList = (R, 0, 0)) (hn : R ≠ []) (hr : Sx.bd (R.map tkI) f 1 1 0 = some (.ok y k')) (hk' : k' < R.length) (he : ((R.map tkI).getD k' tok0).1.kind = 0) :
    Calls Tryz.prog 7 #[.string s] w (EXok w y) := by
  have HS : Hid (∀ W, Below w.heap.size w W → Calls Tryz.prog 16 #[.string s] W fun e w' => ScanIs s.data.toList W e w') := fun W hW => scan_short s W hs (hk.later hW)
  have HR : Hid (Sx.bd (R.map tkI) f 1 1 0 = some (.ok y k')) := hr
  have H : Hid (Lx.scan s.data.toList = (R, 0, 0)) := h
  have HN : Hid (R ≠ []) := hn
  have HE : Hid (((R.map tkI).getD k' tok0).1.kind = 0) := he
  clear hs hr h hn he hk
  go_enter Tryz.func7, Tryz.ntmps7
  go_wp2_with fail
  refine (HS.out _ (box_below w _)).mono ?_
  rintro e w1 ⟨v, rfl, ho, b1⟩
  rw [H.out] at ho ⊢
  obtain ⟨g, cap, rfl, hc, hg, T⟩ := ho.ta HN.out
  have hgd := scan_good H.out HN.out
  have E1 : Hid _ := readExpr_ok g 0 cap (R.map tkI) hgd f 0 y k' w1 T hgd.pos HR.out
  have hlen : (R.map tkI).length = R.length := by simp
  rw [hlen] at E1
  have B1 := (Bx.new w 25 (.int .i64 0) (.string ⟨#[]⟩) (.int .i64 0) (.slice none 0 0)).later b1 (by simp)
  have BW : Hid _ := (box_below w zE).trans (b1.mono (by simp))
  have BB : Hid _ := B1
  have TT : Hid (w1.cell? ⟨g, 0 + k' * 4, none⟩ = some (.int .i64 0) ∧ g < w1.heap.size) := by
    have e := T.c0 k' (by rw [hlen]; exact hk')
    rw [HE.out] at e
    exact ⟨e, T.lt⟩
  clear ho hc hg T hgd hlen b1 B1
  simp only
  go_wp2_with fail
  refine Calls.mono E1.out ?_
  rintro e w2 ⟨kk, nn, mm, sa, sn, sc, ll, rfl, rfl, X, b2⟩
  have B2 := BB.out.later b2 BB.out.lt
  have t2 : w2.cell? ⟨g, k' * 4, none⟩ = some (.int .i64 0) := by have e := (b2.cell (p := ⟨g, 0 + k' * 4, none⟩) TT.out.2).trans TT.out.1; rw [Nat.zero_add] at e; exact e
  have zg : g < w2.heap.size := Nat.lt_of_lt_of_le TT.out.2 b2.size
  have BW2 : Hid _ := BW.out.trans (b2.mono BW.out.size)
  have XB : Hid (ExS (fun g => w.heap.size < g) w2 (.slice sa sn sc) ll) := X.mono fun g _ hg => Nat.lt_of_lt_of_le BB.out.lt hg
  obtain ⟨c0, c1, c2, c3, f0, f1, f2, f3, zt⟩ := B2
  clear b2 X
  go_wp2_with fail
  refine bodyPost_ret (v := .tuple #[.agg #[.int .i64 kk, .string ⟨nn.toArray⟩, .int .i64 mm, .slice sa sn sc], .int .i64 0, .int .i64 0]) (by simp [results, Tryz.results7, go_sem, c0, c1, c2, c3, zt]) rfl ?_
  refine ⟨kk, nn, mm, sa, sn, sc, ll, rfl, rfl, ?_, ((((BW2.out.setCell (by simp) _).setCell (by simp) _).setCell (by simp) _).setCell (by simp) _).alloc (by simp; omega) _⟩
  exact ((XB.out.fill (Nat.lt_irrefl _) _ _ _ _).later (box_below _ _) (Nat.le_refl _)).mono fun g _ hg => Nat.le_of_lt hg
end Go.Proofs.YtlhklpnkelcnbaaGreatDoor
