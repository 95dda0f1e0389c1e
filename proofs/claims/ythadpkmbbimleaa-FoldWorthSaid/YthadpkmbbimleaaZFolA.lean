/- Layer 3: the document's ReadExpr. -/
/- Layer 3: the document's Expr of a text that is an expression. -/
/- Layer 5: what expressions are worth, which may trap, what folding makes of them: plain functions, as the program reckons. -/
/- Layer 5: which expressions are built as they must be; signs; numbers of two (the program's). -/
import Derived.Test.YthadpkmbbimleaaZSypL
import Derived.Test.YthadpkmbbimleaaZSypO
import Derived.Test.YthadpkmbbimleaaZSypQ
import Derived.Test.YthadpkmbbimleaaZGrC
import Derived.Test.YthadpkmbbimleaaZGrG
import Derived.Test.YthadpkmbbimleaaZSynH
import Derived.Test.YthadpkmbbimleaaZLexK
import Derived.Test.YthadpkmbbimleaaZSypG
namespace Go.Proofs.Ythadpkmbbimleaa
open Go.RowKit

/-- One, whole. -/
theorem rone_any (p b o cap : Nat) (ts : List Tok) (gd : Good ts) (rt : RT ts) (f : Nat) (hu : UCr p b o cap ts f) (he : ECr p b o cap ts f) : UCr p b o cap ts (f + 1) := by
  intro d k r w hd h hr
  by_cases t45 : (ts.getD k tok0).1.text = [45]
  · exact rone_minus w p b o cap ts k d f r h gd rt hd hu t45 hr
  by_cases t33 : (ts.getD k tok0).1.text = [33]
  · exact rone_not w p b o cap ts k d f r h gd rt hd hu t45 t33 hr
  by_cases t40 : (ts.getD k tok0).1.text = [40]
  · exact rone_brackets w p b o cap ts k d f r h gd rt hd he t45 t33 t40 hr
  by_cases ttr : (ts.getD k tok0).1.text = [116, 114, 117, 101]
  · exact rone_true w p b o cap ts k d f r h gd rt hd t45 t33 t40 ttr hr
  by_cases tfa : (ts.getD k tok0).1.text = [102, 97, 108, 115, 101]
  · exact rone_false w p b o cap ts k d f r h gd rt hd t45 t33 t40 ttr tfa hr
  by_cases k2 : (ts.getD k tok0).1.kind = 2
  · exact rone_int w p b o cap ts k d f r h gd rt hd t45 t33 t40 ttr tfa k2 hr
  by_cases k1 : (ts.getD k tok0).1.kind = 1
  · exact rone_var w p b o cap ts k d f r h gd rt hd he t45 t33 t40 ttr tfa k1 hr
  · refine rone_none w p b o cap ts k d f r h gd rt hd ?_ hr
    unfold Sx.begE Sx.isUn
    rw [decide_eq_false k2, decide_eq_false k1, decide_eq_false ttr, decide_eq_false tfa, decide_eq_false t40, decide_eq_false t45, decide_eq_false t33]
    rfl
end Go.Proofs.Ythadpkmbbimleaa
namespace Go.Proofs.Ythadpkmbbimleaa
open Go.RowKit

/-- The document's reading, for every fuel of the plain function. -/
theorem rread_any (p b o cap : Nat) (ts : List Tok) (gd : Good ts) (rt : RT ts) : ∀ f, UCr p b o cap ts f ∧ TCr p b o cap ts f := by
  intro f
  induction f using Nat.strongRecOn with
  | _ f ih =>
    cases f with
    | zero => exact ⟨fun _ _ _ _ _ _ hr => (by rw [Sx.un] at hr; cases hr), fun _ _ _ _ _ _ _ _ _ hr => (by rw [Sx.bd] at hr; cases hr)⟩
    | succ f =>
      have ihF := ih f (Nat.lt_succ_self _)
      exact ⟨rone_any p b o cap ts gd rt f ihF.1 (rexpr_any p b o cap ts rt f ihF.2), rtight_all p b o cap ts gd rt f (fun g hg => (ih g (by omega)).1) (fun g hg => (ih g (by omega)).2)⟩
theorem rtk_no {t : Lx.Tk} (h : rtk t = true) (h0 : ¬ t.text = []) (hn : Lx.isName t.text = false) : t.kind = 3 ∨ t.kind = 4 := by
  have he : t.text.isEmpty = false := by cases ht : t.text with | nil => exact absurd ht h0 | cons a l => rfl
  unfold rtk at h
  by_cases c0 : t.kind = 0
  · rw [if_pos c0, he] at h; cases h
  rw [if_neg c0] at h
  by_cases c1 : t.kind = 1
  · rw [if_pos c1, hn] at h; cases h
  rw [if_neg c1] at h
  by_cases c3 : t.kind = 3
  · exact .inl c3
  rw [if_neg c3] at h
  by_cases c2 : t.kind = 2
  · rw [if_pos c2, he] at h; cases h
  rw [if_neg c2] at h
  by_cases c4 : t.kind = 4
  · exact .inr c4
  · rw [if_neg c4] at h; cases h
theorem rtk_key {t : Lx.Tk} (h : rtk t = true) (h3 : t.kind = 3) : Lx.isKey t.text = true := by
  unfold rtk at h
  rw [if_neg (by omega), if_neg (by omega), if_pos h3] at h
  exact (Bool.and_eq_true_iff.1 h).1
theorem binds_no {s : List UInt8} (h : ¬ Sx.bindsB s = 0) : ¬ s = [] ∧ Lx.isName s = false ∧ Lx.isKey s = false := by
  unfold Sx.bindsB at h
  repeat (split at h; · rename_i e; subst e; exact ⟨by decide, by decide, by decide⟩)
  exact absurd rfl h
theorem right_cut {ts : List Tok} (h : rightL ts = true) : ∃ m, ts.length = m + 1 ∧ (∀ j, j < m → midTk (ts.getD j tok0) = true) ∧ (ts.getD m tok0).1 = ⟨0, [], 0⟩ := by
  unfold rightL at h
  split at h
  · cases h
  · rename_i h0
    refine ⟨ts.length - 1, by omega, ?_, ?_⟩
    · intro j hj
      rw [Bool.and_eq_true] at h
      exact List.all_eq_true.1 h.1 j (List.mem_range.2 hj)
    · simp only [Bool.and_eq_true, decide_eq_true_eq] at h
      obtain ⟨_, hk, hr⟩ := h
      generalize (ts.getD (ts.length - 1) tok0).1 = t at hk hr
      obtain ⟨k, l, n⟩ := t
      have hk : k = 0 := hk
      subst hk
      unfold rtk at hr
      rw [if_pos rfl] at hr
      simp only [Bool.and_eq_true, decide_eq_true_eq, List.isEmpty_iff] at hr
      obtain ⟨rfl, rfl⟩ := hr
      rfl
theorem good_of {ts : List Tok} (h : rightL ts = true) (hl : ts.length ≤ 1000000) : Good ts := by
  obtain ⟨m, hm, _, he⟩ := right_cut h
  exact ⟨by omega, hl, by rw [show ts.length - 1 = m by omega]; exact he⟩
theorem rtk_of {ts : List Tok} (h : rightL ts = true) (hl : ts.length ≤ 1000000) (k : Nat) (hk : ¬ Sx.tx ts k = []) : rtk (ts.getD k tok0).1 = true := by
  obtain ⟨m, hm, hmid, he⟩ := right_cut h
  have hk' := (good_of h hl).ends.txt hk
  have := hmid k (by omega)
  unfold midTk at this
  exact (Bool.and_eq_true_iff.1 this).2
theorem rt_of {ts : List Tok} (h : rightL ts = true) (hl : ts.length ≤ 1000000) : RT ts := by
  refine ⟨fun k hk => ?_, fun k hk => ?_⟩
  · have hne : ¬ Sx.tx ts k = [] := by
      intro e
      rw [e] at hk
      simp at hk
    refine rtk_no (rtk_of h hl k hne) hne ?_
    show Lx.isName (Sx.tx ts k) = false
    rcases hk with e | e | e | e | e | e | e | e <;> rw [e] <;> decide
  · obtain ⟨h1, h2, h3⟩ := binds_no hk
    have hr := rtk_of h hl k h1
    rcases rtk_no hr h1 h2 with h4 | h4
    · have := rtk_key hr h4
      have e : Lx.isKey (ts.getD k tok0).1.text = false := h3
      rw [e] at this
      cases this
    · exact h4
/-- What ReadExpr answers. -/
def RXof (w : World) : Sx.Rs → Ending → World → Prop
  | .ok y k', e, w' => RXok w y k' e w'
  | .bad a er, e, w' => RXbad w a er e w'
/-- The document's reader, new. -/
theorem Ri.new {w : World} {b o cap : Nat} {ts : List Tok} {k : Nat} (ta : Ta w b o ts) (hk : k < ts.length) (hl : ts.length ≤ 1000000) (t : TypeId) : Ri (w.alloc (.cells #[.slice (some ⟨b, o, none⟩) ts.length cap, .int .i64 (k : Int), .int .i64 0, .int .i64 0] t)) w.heap.size b o cap ts k 0 0 :=
  ⟨by simp [go_sem], by simp [go_sem], by simp [go_sem], by simp [go_sem], World.frozen?_alloc_at _ _ _ _ rfl, World.frozen?_alloc_at _ _ _ _ rfl, World.frozen?_alloc_at _ _ _ _ rfl, ta.later (box_below _ _), Nat.ne_of_lt ta.lt, by simp, hk, hl⟩
end Go.Proofs.Ythadpkmbbimleaa
namespace Go.Proofs.Ythadpkmbbimleaa
open Go.RowKit

/-- What both answer. -/
def RX (w : World) (x : Sx.Ex) (n i er : Int) (e : Ending) (w' : World) : Prop :=
  ∃ kk nn mm sa sn sc ll, x = .mk kk nn mm ll ∧ e = .returned (.tuple #[.agg #[.int .i64 kk, .string ⟨(nn : List UInt8).toArray⟩, .int .i64 mm, .slice sa sn sc], .int .i64 n, .int .i64 i, .int .i64 er]) ∧ ExS (fun g => w.heap.size ≤ g) w' (.slice sa sn sc) ll ∧ Below w.heap.size w w'
def zEx : Sx.Ex := .mk 0 [] 0 []
def RXp (w : World) : Sx.Rs → Ending → World → Prop
  | .ok y k', e, w' => RX w y k' 0 0 e w'
  | .bad a er, e, w' => RX w zEx 0 a er e w'
theorem RXok.rx {w : World} {y : Sx.Ex} {k : Nat} {e : Ending} {w' : World} (h : RXok w y k e w') : RX w y k 0 0 e w' := h
theorem RXbad.rx {w : World} {a er : Int} {e : Ending} {w' : World} (h : RXbad w a er e w') : RX w zEx 0 a er e w' := ⟨0, [], 0, none, 0, 0, [], rfl, h.1, .nil _ _, h.2⟩
theorem zEx_small : Sx.Small zEx := Sx.Small.none _ _ _
end Go.Proofs.Ythadpkmbbimleaa

namespace Go.Proofs.Ythadpkmbbimleaa
open Go.RowKit

/-- What the document's Expr answers of a text that is an expression. -/
def RTx (w : World) (x : Sx.Ex) (e : Ending) (w' : World) : Prop :=
  ∃ kk nn mm sa sn sc ll, x = .mk kk nn mm ll ∧ e = .returned (.tuple #[.agg #[.int .i64 kk, .string ⟨(nn : List UInt8).toArray⟩, .int .i64 mm, .slice sa sn sc], .int .i64 0, .int .i64 0]) ∧ ExS (fun g => w.heap.size ≤ g) w' (.slice sa sn sc) ll ∧ Below w.heap.size w w'
set_option maxRecDepth 100000 in
set_option maxHeartbeats 1000000 in
theorem rtext_good (s : ByteArray) (T : List (Lx.Tk × Nat)) (ts : List Tok) (f k' : Nat) (y : Sx.Ex) (w : World) (hs : s.size ≤ 16384) (hT : T.length < 4000) (hR : Rs s.data.toList (Lx.blank false s.data.toList) T) (ets : ts = (T ++ [((⟨0, [], 0⟩ : Lx.Tk), s.size)]).map tkI) (hrl : rightL ts = true) (hrd : Sx.bd ts f 1 1 0 = some (.ok y k')) (hk0 : (ts.getD k' tok0).1.kind = 0) :
    Calls Try.prog 36 #[.string s] w (RTx w y) := by
  have hlen : ts.length = T.length + 1 := by rw [ets]; simp
  have hl6 : ts.length ≤ 1000000 := by omega
  have gd := good_of hrl hl6
  have rt := rt_of hrl hl6
  have HE : Hid (∀ p b o cap, ECr p b o cap ts f) := fun p b o cap => rexpr_any p b o cap ts rt f (rread_any p b o cap ts gd rt f).2
  have HS : Hid (∀ W, Calls Try.prog 58 #[.string s] W (RScan (T ++ [(⟨0, [], 0⟩, s.size)]) W)) := fun W => rscan_good s T W hs hT hR
  have HD : Hid _ := hrd
  have HK : Hid _ := hk0
  have HT : Hid _ := ets
  have HL : Hid (ts.length ≤ 1000000 ∧ 0 < ts.length ∧ (T ++ [((⟨0, [], 0⟩ : Lx.Tk), s.size)]).length = ts.length ∧ T ++ [((⟨0, [], 0⟩ : Lx.Tk), s.size)] ≠ []) := ⟨hl6, by omega, by rw [hlen]; simp, by simp⟩
  clear hs hT hR ets hrl hrd hk0 hlen hl6 gd rt
  go_enter Try.func36, Try.ntmps36
  go_wp2_with fail
  refine Calls.mono (HS.out _) ?_
  rintro e w1 ⟨v, rfl, ho, b1⟩
  obtain ⟨g0, cap, rfl, hc, hg, TA⟩ := ho.ta HL.out.2.2.2
  rw [← HT.out] at TA
  rw [HL.out.2.2.1]
  have R1 := (Bx.new w 24 (.int .i64 0) (.string ⟨#[]⟩) (.int .i64 0) (.slice none 0 0)).later b1 (by simp)
  have bw := (box_below w zE).trans (b1.mono (by simp))
  have RR : Hid _ := R1
  have BW : Hid _ := bw
  have RI : Hid (∀ t : TypeId, Ri (w1.alloc (.cells #[.slice (some ⟨g0, 0, none⟩) ts.length cap, .int .i64 0, .int .i64 0, .int .i64 0] t)) w1.heap.size g0 0 cap ts 0 0 0) := fun t : TypeId => Ri.new (cap := cap) (k := 0) TA HL.out.2.1 HL.out.1 t
  clear b1 R1 bw ho hc hg TA
  go_wp2_with fail
  refine Calls.mono (HE.out w1.heap.size g0 0 cap 1 0 _ _ (by omega) (RI.out _) HD.out) ?_
  have bp : Hid (Below w.heap.size w (w1.alloc (.cells #[.slice (some ⟨g0, 0, none⟩) ts.length cap, .int .i64 0, .int .i64 0, .int .i64 0] 74))) := BW.out.trans ((box_below w1 _).mono BW.out.size)
  have R2 : Hid _ := RR.out.later (box_below w1 (.cells #[.slice (some ⟨g0, 0, none⟩) ts.length cap, .int .i64 0, .int .i64 0, .int .i64 0] 74)) RR.out.lt
  have zp : w.heap.size < w1.heap.size := RR.out.lt
  have pn : w.heap.size ≠ w1.heap.size := Nat.ne_of_lt zp
  have pn' : ¬ w1.heap.size = w.heap.size := Nat.ne_of_gt zp
  have z1 : w1.heap.size < (w1.alloc (.cells #[.slice (some ⟨g0, 0, none⟩) ts.length cap, .int .i64 0, .int .i64 0, .int .i64 0] 74)).heap.size := by simp
  generalize w1.alloc (.cells #[.slice (some ⟨g0, 0, none⟩) ts.length cap, .int .i64 0, .int .i64 0, .int .i64 0] 74) = W at *
  clear RI HE HS RR BW HD
  rintro e w2 ⟨kk, nn, mm, sa, sn, sc, ll, rfl, rfl, X, RI, kp⟩
  have B2 : Hid (Below w.heap.size w w2) := bp.out.trans (kp.below' (Nat.le_trans (Nat.le_of_lt zp) (Nat.le_of_lt z1)) (fun g hg => by rw [hg]; exact Nat.le_of_lt zp))
  have RJ : Hid _ := RI
  have r2 := RI.ce
  have hpl := RI.lt
  have R3 : Hid _ := R2.out.kp kp pn
  have XX : Hid (ExS (fun g => w.heap.size < g ∧ g < w2.heap.size) w2 (.slice sa sn sc) ll) := X.mono fun g hgl hg => ⟨Nat.lt_of_lt_of_le (Nat.lt_trans zp z1) hg, hgl⟩
  obtain ⟨d0, d1, d2, d3, e0, e1, e2, e3, zr⟩ := R3.out
  have nz : ¬ w2.heap.size = w.heap.size := Nat.ne_of_gt zr
  have nz' : ¬ w.heap.size = w2.heap.size := Nat.ne_of_lt zr
  have RK : Hid (Ri (w2.alloc (.cells #[.int .i64 kk, .string ⟨nn.toArray⟩, .int .i64 mm, .slice sa sn sc] 24)) w1.heap.size g0 0 cap ts k' 0 0) := RI.later (box_below _ _)
  clear RI kp X
  go_wp2_with fail
  refine Calls.mono (rkind_ok _ w1.heap.size g0 0 cap ts k' 0 0 RK.out) ?_
  rintro e w4 ⟨rfl, b4⟩
  rw [HK.out]
  have YX : Hid (Bx w4 w2.heap.size (.int .i64 kk) (.string ⟨nn.toArray⟩) (.int .i64 mm) (.slice sa sn sc)) := (Bx.new w2 24 _ _ _ _).later b4 (by simp)
  have RX4 : Hid (Bx w4 w.heap.size (.int .i64 0) (.string ⟨#[]⟩) (.int .i64 0) (.slice none 0 0)) := (R3.out.later (box_below w2 _) R3.out.lt).later b4 (by simp; omega)
  have B4 : Hid (Below w.heap.size w w4) := (B2.out.trans ((box_below w2 _).mono B2.out.size)).trans (b4.mono (by simp; exact Nat.le_succ_of_le B2.out.size))
  have X4 : Hid (ExS (fun g => w.heap.size < g ∧ g < w2.heap.size) w4 (.slice sa sn sc) ll) := (XX.out.later (box_below w2 (.cells #[.int .i64 kk, .string ⟨nn.toArray⟩, .int .i64 mm, .slice sa sn sc] 24)) (Nat.le_refl _)).later b4 (Nat.le_refl _)
  have RI4 := RK.out.later b4
  have s2 := RI4.ce
  have spl := RI4.lt
  clear b4 RI4 d0 d1 d2 d3 e0 e1 e2 e3 zr r2 hpl
  obtain ⟨d0, d1, d2, d3, e0, e1, e2, e3, zr⟩ := RX4.out
  obtain ⟨y0, y1, y2, y3, yf0, yf1, yf2, yf3, zy⟩ := YX.out
  go_wp2_with fail
  refine bodyPost_ret (v := .tuple #[.agg #[.int .i64 kk, .string ⟨nn.toArray⟩, .int .i64 mm, .slice sa sn sc], .int .i64 0, .int .i64 0]) (by simp [results, Try.results36, go_sem, d0, d1, d2, d3]) rfl ?_
  refine ⟨kk, nn, mm, sa, sn, sc, ll, rfl, rfl, ?_, (((B4.out.setCell (by simp) _).setCell (by simp) _).setCell (by simp) _).setCell (by simp) _⟩
  exact (X4.out.fill (g := w.heap.size) (fun h => Nat.lt_irrefl _ h.1) _ _ _ _).mono fun g _ h => Nat.le_of_lt h.1
end Go.Proofs.Ythadpkmbbimleaa

namespace Go.Proofs.Ythadpkmbbimleaa.Fo
open Go.RowKit Sx

/-- An induction over expressions. -/
theorem ind {P : Ex → Prop} (h : ∀ k n m l, (∀ x, x ∈ l → P x) → P (.mk k n m l)) (x : Ex) : P x :=
  Ex.rec (motive_1 := P) (motive_2 := fun l => ∀ x, x ∈ l → P x) (fun k n m l ih => h k n m l ih) (fun _ hx => by cases hx) (fun a l ha hl x hx => by
    rcases List.mem_cons.1 hx with rfl | hx
    · exact ha
    · exact hl x hx) x
def isRe (s : List UInt8) : Bool := decide (s = [43]) || decide (s = [45]) || decide (s = [42]) || decide (s = [47]) || decide (s = [37])
def isTe (s : List UInt8) : Bool := decide (s = [61, 61]) || decide (s = [33, 61]) || decide (s = [60]) || decide (s = [60, 61]) || decide (s = [38, 38]) || decide (s = [124, 124])
def built (k : Int) (n : List UInt8) (c : Nat) : Bool :=
  if k = 1 then decide (c = 0) else if k = 2 then decide (c = 0) else if k = 3 then decide (c = 0)
  else if k = 4 then decide (c = 1)
  else if k = 5 then decide (c = 1) && isUn n
  else if k = 6 then decide (c = 2) && (isRe n || isTe n)
  else false
def bI (b : Bool) : Int := if b then 1 else 0
/-- Two numbers with a sign between. -/
def re (a : Int) (s : List UInt8) (b : Int) : Int × Int :=
  if s = [43] then (wrap64 (a + b), 0) else if s = [45] then (wrap64 (a - b), 0) else if s = [42] then (wrap64 (a * b), 0)
  else if s = [47] then (if b = 0 then (0, 1) else (Pl.quot a b, 0))
  else if s = [37] then (if b = 0 then (0, 1) else (Pl.rest a b, 0))
  else if s = [60] then (bI (decide (a < b)), 0) else if s = [60, 61] then (bI (decide (a ≤ b)), 0)
  else if s = [61, 61] then (bI (decide (a = b)), 0) else if s = [33, 61] then (bI (decide (¬ a = b)), 0)
  else (bI (decide (¬ b = 0)), 0)
/-- What an expression is worth, and its trap; T: names' numbers and lists. -/
def wo (T : List UInt8 → Int × List Int) : Ex → Int × Int
  | .mk k n m l =>
    if built k n l.length = false then (0, 0)
    else if k = 1 then (m, 0)
    else if k = 2 then (bI (decide (m = 1)), 0)
    else if k = 3 then ((T n).1, 0)
    else match l with
      | [] => (0, 0)
      | [a] => if ¬ (wo T a).2 = 0 then (0, (wo T a).2)
        else if k = 4 then (if 0 ≤ (wo T a).1 ∧ (wo T a).1 < ((T n).2.length : Int) then ((T n).2.getD (wo T a).1.toNat 0, 0) else (0, 2))
        else if n = [33] then (bI (decide ((wo T a).1 = 0)), 0) else (wrap64 (-(wo T a).1), 0)
      | a :: b :: _ => if ¬ (wo T a).2 = 0 then (0, (wo T a).2)
        else if (n = [38, 38] ∧ (wo T a).1 = 0) ∨ (n = [124, 124] ∧ ¬ (wo T a).1 = 0) then (bI (decide (¬ (wo T a).1 = 0)), 0)
        else if ¬ (wo T b).2 = 0 then (0, (wo T b).2) else re (wo T a).1 n (wo T b).1
theorem wo_no {T : List UInt8 → Int × List Int} {k : Int} {n : List UInt8} {m : Int} {l : List Ex} (h : built k n l.length = false) : wo T (.mk k n m l) = (0, 0) := by
  match l, h with
  | [], h => rw [wo, if_pos h]
  | [a], h => rw [wo, if_pos h]
  | a :: b :: r, h => rw [wo, if_pos h]
theorem wo_int {T : List UInt8 → Int × List Int} {n : List UInt8} {m : Int} {l : List Ex} (h : ¬ built 1 n l.length = false) : wo T (.mk 1 n m l) = (m, 0) := by
  match l, h with
  | [], h => rw [wo, if_neg h, if_pos rfl]
  | [a], h => rw [wo, if_neg h, if_pos rfl]
  | a :: b :: r, h => rw [wo, if_neg h, if_pos rfl]
theorem wo_bool {T : List UInt8 → Int × List Int} {n : List UInt8} {m : Int} {l : List Ex} (h : ¬ built 2 n l.length = false) : wo T (.mk 2 n m l) = (bI (decide (m = 1)), 0) := by
  match l, h with
  | [], h => rw [wo, if_neg h, if_neg (by decide), if_pos rfl]
  | [a], h => rw [wo, if_neg h, if_neg (by decide), if_pos rfl]
  | a :: b :: r, h => rw [wo, if_neg h, if_neg (by decide), if_pos rfl]
theorem wo_var {T : List UInt8 → Int × List Int} {n : List UInt8} {m : Int} {l : List Ex} (h : ¬ built 3 n l.length = false) : wo T (.mk 3 n m l) = ((T n).1, 0) := by
  match l, h with
  | [], h => rw [wo, if_neg h, if_neg (by decide), if_neg (by decide), if_pos rfl]
  | [a], h => rw [wo, if_neg h, if_neg (by decide), if_neg (by decide), if_pos rfl]
  | a :: b :: r, h => rw [wo, if_neg h, if_neg (by decide), if_neg (by decide), if_pos rfl]
theorem len_two {α : Type} {l : List α} (h : l.length = 2) : ∃ a b, l = [a, b] := by
  match l, h with
  | [a, b], _ => exact ⟨a, b, rfl⟩
end Go.Proofs.Ythadpkmbbimleaa.Fo

namespace Go.Proofs.Ythadpkmbbimleaa
open Go.RowKit

set_option maxRecDepth 100000 in
set_option maxHeartbeats 1000000 in
theorem reckons_any (s : List UInt8) (w : World) : Calls Try.prog 53 #[.string ⟨s.toArray⟩] w fun e w' => e = .returned (.bool (Fo.isRe s)) ∧ w' = w := by
  by_cases h0 : s = [43]
  · subst h0
    go_enter Try.func53, Try.ntmps53
    go_wp2_with fail
    go_ret
    exact ⟨rfl, rfl⟩
  by_cases h1 : s = [45]
  · subst h1
    go_enter Try.func53, Try.ntmps53
    go_wp2_with fail
    go_ret
    exact ⟨rfl, rfl⟩
  by_cases h2 : s = [42]
  · subst h2
    go_enter Try.func53, Try.ntmps53
    go_wp2_with fail
    go_ret
    exact ⟨rfl, rfl⟩
  by_cases h3 : s = [47]
  · subst h3
    go_enter Try.func53, Try.ntmps53
    go_wp2_with fail
    go_ret
    exact ⟨rfl, rfl⟩
  by_cases h4 : s = [37]
  · subst h4
    go_enter Try.func53, Try.ntmps53
    go_wp2_with fail
    go_ret
    exact ⟨rfl, rfl⟩
  have e0 := text_f h0
  have e1 := text_f h1
  have e2 := text_f h2
  have e3 := text_f h3
  have e4 := text_f h4
  have H : Hid (Fo.isRe s = false) := by unfold Hid Fo.isRe; rw [decide_eq_false h0, decide_eq_false h1, decide_eq_false h2, decide_eq_false h3, decide_eq_false h4]; rfl
  clear h0 h1 h2 h3 h4
  go_enter Try.func53, Try.ntmps53
  go_wp2_with fail
  go_ret
  exact ⟨ret_bool H.out.symm, rfl⟩
set_option maxRecDepth 100000 in
set_option maxHeartbeats 1000000 in
theorem tells_any (s : List UInt8) (w : World) : Calls Try.prog 54 #[.string ⟨s.toArray⟩] w fun e w' => e = .returned (.bool (Fo.isTe s)) ∧ w' = w := by
  by_cases h0 : s = [61, 61]
  · subst h0
    go_enter Try.func54, Try.ntmps54
    go_wp2_with fail
    go_ret
    exact ⟨rfl, rfl⟩
  by_cases h1 : s = [33, 61]
  · subst h1
    go_enter Try.func54, Try.ntmps54
    go_wp2_with fail
    go_ret
    exact ⟨rfl, rfl⟩
  by_cases h2 : s = [60]
  · subst h2
    go_enter Try.func54, Try.ntmps54
    go_wp2_with fail
    go_ret
    exact ⟨rfl, rfl⟩
  by_cases h3 : s = [60, 61]
  · subst h3
    go_enter Try.func54, Try.ntmps54
    go_wp2_with fail
    go_ret
    exact ⟨rfl, rfl⟩
  by_cases h4 : s = [38, 38]
  · subst h4
    go_enter Try.func54, Try.ntmps54
    go_wp2_with fail
    go_ret
    exact ⟨rfl, rfl⟩
  by_cases h5 : s = [124, 124]
  · subst h5
    go_enter Try.func54, Try.ntmps54
    go_wp2_with fail
    go_ret
    exact ⟨rfl, rfl⟩
  have e0 := text_f h0
  have e1 := text_f h1
  have e2 := text_f h2
  have e3 := text_f h3
  have e4 := text_f h4
  have e5 := text_f h5
  have H : Hid (Fo.isTe s = false) := by unfold Hid Fo.isTe; rw [decide_eq_false h0, decide_eq_false h1, decide_eq_false h2, decide_eq_false h3, decide_eq_false h4, decide_eq_false h5]; rfl
  clear h0 h1 h2 h3 h4 h5
  go_enter Try.func54, Try.ntmps54
  go_wp2_with fail
  go_ret
  exact ⟨ret_bool H.out.symm, rfl⟩
set_option maxRecDepth 100000 in
theorem fnum_any (b : Bool) (w : World) : Calls Try.prog 42 #[.bool b] w fun e w' => e = .returned (.int .i64 (Fo.bI b)) ∧ w' = w := by
  cases b
  all_goals
    go_enter Try.func42, Try.ntmps42
    go_wp2_with fail
    go_ret
    exact ⟨rfl, rfl⟩
set_option maxRecDepth 100000 in
set_option maxHeartbeats 2000000 in
theorem built_any (k : Int) (n : List UInt8) (m : Int) (sa : Option Addr) (sn sc : Nat) (w : World) : Calls Try.prog 29 #[.agg #[.int .i64 k, .string ⟨n.toArray⟩, .int .i64 m, .slice sa sn sc]] w fun e w' => e = .returned (.bool (Fo.built k n sn)) ∧ Below w.heap.size w w' := by
  by_cases h1 : k = 1
  · subst h1
    have H : Hid (Fo.built 1 n sn = ((sn : Int) == 0)) := by
      unfold Hid Fo.built
      rw [beq_int]
      first | (simp; done) | (simp; omega)
    go_enter Try.func29, Try.ntmps29
    go_wp2_with fail
    go_ret
    exact ⟨ret_bool H.out.symm, by go_grown⟩
  by_cases h2 : k = 2
  · subst h2
    have H : Hid (Fo.built 2 n sn = ((sn : Int) == 0)) := by
      unfold Hid Fo.built
      rw [beq_int]
      first | (simp; done) | (simp; omega)
    go_enter Try.func29, Try.ntmps29
    go_wp2_with fail
    go_ret
    exact ⟨ret_bool H.out.symm, by go_grown⟩
  by_cases h3 : k = 3
  · subst h3
    have H : Hid (Fo.built 3 n sn = ((sn : Int) == 0)) := by
      unfold Hid Fo.built
      rw [beq_int]
      first | (simp; done) | (simp; omega)
    go_enter Try.func29, Try.ntmps29
    go_wp2_with fail
    go_ret
    exact ⟨ret_bool H.out.symm, by go_grown⟩
  by_cases h4 : k = 4
  · subst h4
    have H : Hid (Fo.built 4 n sn = ((sn : Int) == 1)) := by
      unfold Hid Fo.built
      rw [beq_int]
      first | (simp; done) | (simp; omega)
    go_enter Try.func29, Try.ntmps29
    go_wp2_with fail
    go_ret
    exact ⟨ret_bool H.out.symm, by go_grown⟩
  have e1 : (k == 1) = false := beq_eq_false_iff_ne.2 h1
  have e2 : (k == 2) = false := beq_eq_false_iff_ne.2 h2
  have e3 : (k == 3) = false := beq_eq_false_iff_ne.2 h3
  have e4 : (k == 4) = false := beq_eq_false_iff_ne.2 h4
  by_cases h5 : k = 5
  · subst h5
    clear h1 h2 h3 h4 e1 e2 e3 e4
    by_cases hc : sn = 1
    · subst hc
      have H : Hid (Fo.built 5 n 1 = Sx.isUn n) := rfl
      by_cases t1 : n = [45]
      · subst t1
        go_enter Try.func29, Try.ntmps29
        go_wp2_with fail
        go_ret
        exact ⟨rfl, by go_grown⟩
      · have u1 := text_f t1
        have H2 : Hid (Sx.isUn n = (n == [33])) := by unfold Hid Sx.isUn; rw [decide_eq_false t1, beq_dec]; rfl
        clear t1
        go_enter Try.func29, Try.ntmps29
        go_wp2_with fail
        go_ret
        exact ⟨ret_bool (by rw [H.out, H2.out]), by go_grown⟩
    · have ec : ((sn : Int) == 1) = false := by rw [beq_eq_false_iff_ne]; omega
      have H : Hid (Fo.built 5 n sn = false) := by unfold Hid Fo.built; rw [decide_eq_false hc]; rfl
      clear hc
      go_enter Try.func29, Try.ntmps29
      go_wp2_with fail
      go_ret
      exact ⟨ret_bool H.out.symm, by go_grown⟩
  have e5 : (k == 5) = false := beq_eq_false_iff_ne.2 h5
  by_cases h6 : k = 6
  · subst h6
    clear h1 h2 h3 h4 h5 e1 e2 e3 e4 e5
    by_cases hc : sn = 2
    · subst hc
      have H : Hid (Fo.built 6 n 2 = (Fo.isRe n || Fo.isTe n)) := rfl
      go_enter Try.func29, Try.ntmps29
      go_wp2_with fail
      refine Calls.mono (reckons_any n _) ?_
      rintro e w1 ⟨rfl, hw⟩
      rw [hw]
      clear hw w1
      cases hr : Fo.isRe n with
      | true =>
        go_wp2_with fail
        go_ret
        exact ⟨ret_bool (by rw [H.out, hr]; rfl), by go_grown⟩
      | false =>
        go_wp2_with fail
        refine Calls.mono (tells_any n _) ?_
        rintro e w1 ⟨rfl, hw⟩
        rw [hw]
        clear hw w1
        go_wp2_with fail
        go_ret
        exact ⟨ret_bool (by rw [H.out, hr]; rfl), by go_grown⟩
    · have ec : ((sn : Int) == 2) = false := by rw [beq_eq_false_iff_ne]; omega
      have H : Hid (Fo.built 6 n sn = false) := by unfold Hid Fo.built; rw [decide_eq_false hc]; rfl
      clear hc
      go_enter Try.func29, Try.ntmps29
      go_wp2_with fail
      go_ret
      exact ⟨ret_bool H.out.symm, by go_grown⟩
  have e6 : (k == 6) = false := beq_eq_false_iff_ne.2 h6
  have H : Hid (Fo.built k n sn = false) := by unfold Hid Fo.built; rw [if_neg h1, if_neg h2, if_neg h3, if_neg h4, if_neg h5, if_neg h6]
  clear h1 h2 h3 h4 h5 h6
  go_enter Try.func29, Try.ntmps29
  go_wp2_with fail
  go_ret
  exact ⟨ret_bool H.out.symm, by go_grown⟩
end Go.Proofs.Ythadpkmbbimleaa
