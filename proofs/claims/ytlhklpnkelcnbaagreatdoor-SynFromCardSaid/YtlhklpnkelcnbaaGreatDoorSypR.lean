/- Layer 3: the document's ReadExpr. -/
import Derived.Test.YtlhklpnkelcnbaaGreatDoorSypL
import Derived.Test.YtlhklpnkelcnbaaGreatDoorSypO
import Derived.Test.YtlhklpnkelcnbaaGreatDoorSypQ
import Derived.Test.YtlhklpnkelcnbaaGreatDoorSynJ
import Derived.Test.YtlhklpnkelcnbaaGreatDoorSypD
import Derived.Test.YtlhklpnkelcnbaaGreatDoorGrC
import Derived.Test.YtlhklpnkelcnbaaGreatDoorGrG
namespace Go.Proofs.YtlhklpnkelcnbaaGreatDoor
open Go.RowKit

/-- One, whole. -/
theorem rone_any (p b o cap : Nat) (ts : List Tok) (gd : Good ts) (rt : RT ts) (f : Nat) (hu : UCr p b o cap ts f) (he : ECr p b o cap ts f) : UCr p b o cap ts (f + 1) := by
  intro d k r w hd h hr
  by_cases t45 : (ts.getD k tok0).1.text = [45]
  · exact rone_minus w p b o cap ts k d f r h gd rt hd hu t45 hr
  by_cases t33 : (ts.getD k tok0).1.text = [33]
  · exact rone_not w p b o cap ts k d f r h gd rt hd hu t45 t33 hr
  by_cases t40 : (ts.getD k tok0).1.text = [40]
  · exact rone_brackets w p b o cap ts k d f r h gd rt hd he t45 t33 t40 hr
  by_cases ttr : (ts.getD k tok0).1.text = [116, 114, 117, 101]
  · exact rone_true w p b o cap ts k d f r h gd rt hd t45 t33 t40 ttr hr
  by_cases tfa : (ts.getD k tok0).1.text = [102, 97, 108, 115, 101]
  · exact rone_false w p b o cap ts k d f r h gd rt hd t45 t33 t40 ttr tfa hr
  by_cases k2 : (ts.getD k tok0).1.kind = 2
  · exact rone_int w p b o cap ts k d f r h gd rt hd t45 t33 t40 ttr tfa k2 hr
  by_cases k1 : (ts.getD k tok0).1.kind = 1
  · exact rone_var w p b o cap ts k d f r h gd rt hd he t45 t33 t40 ttr tfa k1 hr
  · refine rone_none w p b o cap ts k d f r h gd rt hd ?_ hr
    unfold Sx.begE Sx.isUn
    rw [decide_eq_false k2, decide_eq_false k1, decide_eq_false ttr, decide_eq_false tfa, decide_eq_false t40, decide_eq_false t45, decide_eq_false t33]
    rfl
end Go.Proofs.YtlhklpnkelcnbaaGreatDoor
namespace Go.Proofs.YtlhklpnkelcnbaaGreatDoor
open Go.RowKit

/-- The document's reading, for every fuel of the plain function. -/
theorem rread_any (p b o cap : Nat) (ts : List Tok) (gd : Good ts) (rt : RT ts) : ∀ f, UCr p b o cap ts f ∧ TCr p b o cap ts f := by
  intro f
  induction f using Nat.strongRecOn with
  | _ f ih =>
    cases f with
    | zero => exact ⟨fun _ _ _ _ _ _ hr => (by rw [Sx.un] at hr; cases hr), fun _ _ _ _ _ _ _ _ _ hr => (by rw [Sx.bd] at hr; cases hr)⟩
    | succ f =>
      have ihF := ih f (Nat.lt_succ_self _)
      exact ⟨rone_any p b o cap ts gd rt f ihF.1 (rexpr_any p b o cap ts rt f ihF.2), rtight_all p b o cap ts gd rt f (fun g hg => (ih g (by omega)).1) (fun g hg => (ih g (by omega)).2)⟩
theorem rtk_no {t : Lx.Tk} (h : rtk t = true) (h0 : ¬ t.text = []) (hn : Lx.isName t.text = false) : t.kind = 3 ∨ t.kind = 4 := by
  have he : t.text.isEmpty = false := by cases ht : t.text with | nil => exact absurd ht h0 | cons a l => rfl
  unfold rtk at h
  by_cases c0 : t.kind = 0
  · rw [if_pos c0, he] at h; cases h
  rw [if_neg c0] at h
  by_cases c1 : t.kind = 1
  · rw [if_pos c1, hn] at h; cases h
  rw [if_neg c1] at h
  by_cases c3 : t.kind = 3
  · exact .inl c3
  rw [if_neg c3] at h
  by_cases c2 : t.kind = 2
  · rw [if_pos c2, he] at h; cases h
  rw [if_neg c2] at h
  by_cases c4 : t.kind = 4
  · exact .inr c4
  · rw [if_neg c4] at h; cases h
theorem rtk_key {t : Lx.Tk} (h : rtk t = true) (h3 : t.kind = 3) : Lx.isKey t.text = true := by
  unfold rtk at h
  rw [if_neg (by omega), if_neg (by omega), if_pos h3] at h
  exact (Bool.and_eq_true_iff.1 h).1
theorem binds_no {s : List UInt8} (h : ¬ Sx.bindsB s = 0) : ¬ s = [] ∧ Lx.isName s = false ∧ Lx.isKey s = false := by
  unfold Sx.bindsB at h
  repeat (split at h; · rename_i e; subst e; exact ⟨by decide, by decide, by decide⟩)
  exact absurd rfl h
theorem right_cut {ts : List Tok} (h : rightL ts = true) : ∃ m, ts.length = m + 1 ∧ (∀ j, j < m → midTk (ts.getD j tok0) = true) ∧ (ts.getD m tok0).1 = ⟨0, [], 0⟩ := by
  unfold rightL at h
  split at h
  · cases h
  · rename_i h0
    refine ⟨ts.length - 1, by omega, ?_, ?_⟩
    · intro j hj
      rw [Bool.and_eq_true] at h
      exact List.all_eq_true.1 h.1 j (List.mem_range.2 hj)
    · simp only [Bool.and_eq_true, decide_eq_true_eq] at h
      obtain ⟨_, hk, hr⟩ := h
      generalize (ts.getD (ts.length - 1) tok0).1 = t at hk hr
      obtain ⟨k, l, n⟩ := t
      have hk : k = 0 := hk
      subst hk
      unfold rtk at hr
      rw [if_pos rfl] at hr
      simp only [Bool.and_eq_true, decide_eq_true_eq, List.isEmpty_iff] at hr
      obtain ⟨rfl, rfl⟩ := hr
      rfl
theorem good_of {ts : List Tok} (h : rightL ts = true) (hl : ts.length ≤ 1000000) : Good ts := by
  obtain ⟨m, hm, _, he⟩ := right_cut h
  exact ⟨by omega, hl, by rw [show ts.length - 1 = m by omega]; exact he⟩
theorem rtk_of {ts : List Tok} (h : rightL ts = true) (hl : ts.length ≤ 1000000) (k : Nat) (hk : ¬ Sx.tx ts k = []) : rtk (ts.getD k tok0).1 = true := by
  obtain ⟨m, hm, hmid, he⟩ := right_cut h
  have hk' := (good_of h hl).ends.txt hk
  have := hmid k (by omega)
  unfold midTk at this
  exact (Bool.and_eq_true_iff.1 this).2
theorem rt_of {ts : List Tok} (h : rightL ts = true) (hl : ts.length ≤ 1000000) : RT ts := by
  refine ⟨fun k hk => ?_, fun k hk => ?_⟩
  · have hne : ¬ Sx.tx ts k = [] := by
      intro e
      rw [e] at hk
      simp at hk
    refine rtk_no (rtk_of h hl k hne) hne ?_
    show Lx.isName (Sx.tx ts k) = false
    rcases hk with e | e | e | e | e | e | e | e <;> rw [e] <;> decide
  · obtain ⟨h1, h2, h3⟩ := binds_no hk
    have hr := rtk_of h hl k h1
    rcases rtk_no hr h1 h2 with h4 | h4
    · have := rtk_key hr h4
      have e : Lx.isKey (ts.getD k tok0).1.text = false := h3
      rw [e] at this
      cases this
    · exact h4
/-- What ReadExpr answers. -/
def RXof (w : World) : Sx.Rs → Ending → World → Prop
  | .ok y k', e, w' => RXok w y k' e w'
  | .bad a er, e, w' => RXbad w a er e w'
/-- The document's reader, new. -/
theorem Ri.new {w : World} {b o cap : Nat} {ts : List Tok} {k : Nat} (ta : Ta w b o ts) (hk : k < ts.length) (hl : ts.length ≤ 1000000) (t : TypeId) : Ri (w.alloc (.cells #[.slice (some ⟨b, o, none⟩) ts.length cap, .int .i64 (k : Int), .int .i64 0, .int .i64 0] t)) w.heap.size b o cap ts k 0 0 :=
  ⟨by simp [go_sem], by simp [go_sem], by simp [go_sem], by simp [go_sem], World.frozen?_alloc_at _ _ _ _ rfl, World.frozen?_alloc_at _ _ _ _ rfl, World.frozen?_alloc_at _ _ _ _ rfl, ta.later (box_below _ _), Nat.ne_of_lt ta.lt, by simp, hk, hl⟩
set_option maxRecDepth 100000 in
set_option maxHeartbeats 1000000 in
theorem rReadExpr_any (b o cap : Nat) (ts : List Tok) (gd : Good ts) (rt : RT ts) (f k : Nat) (r : Sx.Rs) (w : World) (ta : Ta w b o ts) (hk : k < ts.length) (hr : Sx.bd ts f 1 1 k = some r)
    (er : ∀ W, Below w.heap.size w W → Calls Tryz.prog 23 #[.slice (some ⟨b, o, none⟩) ts.length cap] W fun e w' => e = .returned (.bool true) ∧ Below W.heap.size W w') :
    Calls Tryz.prog 13 #[.slice (some ⟨b, o, none⟩) ts.length cap, .int .i64 (k : Int)] w (RXof w r) := by
  have ER : Hid _ := er
  have TA : Hid _ := ta
  have hki : (k : Int) < (ts.length : Int) := by omega
  have hki' : ¬ ((ts.length : Int) ≤ (k : Int)) := by omega
  have hk0 : ¬ ((k : Int) < 0) := by omega
  have HE : Hid (∀ p, ECr p b o cap ts f) := fun p => rexpr_any p b o cap ts rt f (rread_any p b o cap ts gd rt f).2
  have HR : Hid _ := hr
  have HL : Hid (ts.length ≤ 1000000) := gd.len
  have HER : Hid (∀ a er, r = .bad a er → ¬ er = 0) := fun a er e => by
    rw [e] at hr
    have := (Sx.errs ts f).2.1 _ _ _ _ _ hr
    omega
  clear er ta gd rt hr
  go_enter Tryz.func13, Tryz.ntmps13
  go_wp2_with fail
  refine Calls.mono (ER.out _ (box_below w _)) ?_
  rintro e w1 ⟨rfl, b1⟩
  have R1 := (Bx.new w 25 (.int .i64 0) (.string ⟨#[]⟩) (.int .i64 0) (.slice none 0 0)).later b1 (by simp)
  have bw := (box_below w zE).trans (b1.mono (by simp))
  have RR : Hid _ := R1
  have BW : Hid _ := bw
  have RI : Hid _ := fun t : TypeId => Ri.new (cap := cap) (k := k) (TA.out.later bw) hk HL.out t
  clear b1 R1 bw
  go_wp2_with fail
  refine Calls.mono (HE.out w1.heap.size 1 k r _ (by omega) (RI.out _) HR.out) ?_
  have bp : Hid (Below w.heap.size w (w1.alloc (.cells #[.slice (some ⟨b, o, none⟩) ts.length cap, .int .i64 (k : Int), .int .i64 0, .int .i64 0] 60))) := BW.out.trans ((box_below w1 _).mono BW.out.size)
  have R2 : Hid _ := RR.out.later (box_below w1 (.cells #[.slice (some ⟨b, o, none⟩) ts.length cap, .int .i64 (k : Int), .int .i64 0, .int .i64 0] 60)) RR.out.lt
  have zp : w.heap.size < w1.heap.size := RR.out.lt
  have pn : w.heap.size ≠ w1.heap.size := Nat.ne_of_lt zp
  have pn' : ¬ w1.heap.size = w.heap.size := Nat.ne_of_gt zp
  have z1 : w1.heap.size < (w1.alloc (.cells #[.slice (some ⟨b, o, none⟩) ts.length cap, .int .i64 (k : Int), .int .i64 0, .int .i64 0] 60)).heap.size := by simp
  generalize w1.alloc (.cells #[.slice (some ⟨b, o, none⟩) ts.length cap, .int .i64 (k : Int), .int .i64 0, .int .i64 0] 60) = W at *
  clear RI HE HR ER TA RR BW
  intro e w2 hpost
  cases r with
  | bad a er =>
    obtain ⟨kk, nn, mm, sa, sn, sc, k', rfl, RI, kp⟩ := hpost
    have her := HER.out a er rfl
    have be : (er == 0) = false := beq_eq_false_iff_ne.2 her
    have B2 : Hid (Below w.heap.size w w2) := bp.out.trans (kp.below' (Nat.le_trans (Nat.le_of_lt zp) (Nat.le_of_lt z1)) (fun g hg => by rw [hg]; exact Nat.le_of_lt zp))
    have r2 := RI.ce
    have r3 := RI.ca
    have hpl := RI.lt
    have z2 : w1.heap.size < w2.heap.size := RI.lt
    obtain ⟨d0, d1, d2, d3, e0, e1, e2, e3, zr⟩ := R2.out.kp kp pn
    clear RI kp her
    go_wp2_with fail
    go_region
    all_goals
      go_wp2_with fail
      refine bodyPost_ret (v := .tuple #[.agg #[.int .i64 0, .string ⟨#[]⟩, .int .i64 0, .slice none 0 0], .int .i64 0, .int .i64 a, .int .i64 er]) (by simp [results, Tryz.results13, go_sem, d0, d1, d2, d3, zr]) rfl ?_
      refine ⟨rfl, ?_⟩
      exact (((((B2.out.setCell (by simp) _).setCell (by simp) _).setCell (by simp) _).setCell (by simp) _).alloc (by simp; omega) _).drew
  | ok y k' =>
    obtain ⟨kk, nn, mm, sa, sn, sc, ll, rfl, rfl, X, RI, kp⟩ := hpost
    have B2 : Hid (Below w.heap.size w w2) := bp.out.trans (kp.below' (Nat.le_trans (Nat.le_of_lt zp) (Nat.le_of_lt z1)) (fun g hg => by rw [hg]; exact Nat.le_of_lt zp))
    have r1 := RI.nx
    have r2 := RI.ce
    have hpl := RI.lt
    obtain ⟨d0, d1, d2, d3, e0, e1, e2, e3, zr⟩ := R2.out.kp kp pn
    have XX : Hid (ExS (fun g => w.heap.size < g) w2 (.slice sa sn sc) ll) := X.mono fun g _ hg => Nat.lt_of_lt_of_le (Nat.lt_trans zp z1) hg
    have nz : ¬ w2.heap.size = w.heap.size := Nat.ne_of_gt zr
    have nz' : ¬ w.heap.size = w2.heap.size := Nat.ne_of_lt zr
    clear RI kp X
    go_wp2_with fail
    go_region
    all_goals
      go_wp2_with fail
      refine bodyPost_ret (v := .tuple #[.agg #[.int .i64 kk, .string ⟨nn.toArray⟩, .int .i64 mm, .slice sa sn sc], .int .i64 (k' : Int), .int .i64 0, .int .i64 0]) (by simp [results, Tryz.results13, go_sem, d0, d1, d2, d3, zr]) rfl ?_
      refine ⟨kk, nn, mm, sa, sn, sc, ll, rfl, rfl, ?_, (((((B2.out.setCell (by simp) _).setCell (by simp) _).setCell (by simp) _).setCell (by simp) _).alloc (by simp; omega) _).drew⟩
      exact (((XX.out.fill (Nat.lt_irrefl _) _ _ _ _).later (box_below _ _) (Nat.le_refl _)).drew).mono fun g _ hg => Nat.le_of_lt hg
end Go.Proofs.YtlhklpnkelcnbaaGreatDoor
namespace Go.Proofs.YtlhklpnkelcnbaaGreatDoor
open Go.RowKit

/-- What both answer. -/
def RX (w : World) (x : Sx.Ex) (n i er : Int) (e : Ending) (w' : World) : Prop :=
  ∃ kk nn mm sa sn sc ll, x = .mk kk nn mm ll ∧ e = .returned (.tuple #[.agg #[.int .i64 kk, .string ⟨(nn : List UInt8).toArray⟩, .int .i64 mm, .slice sa sn sc], .int .i64 n, .int .i64 i, .int .i64 er]) ∧ ExS (fun g => w.heap.size ≤ g) w' (.slice sa sn sc) ll ∧ Below w.heap.size w w'
def zEx : Sx.Ex := .mk 0 [] 0 []
def RXp (w : World) : Sx.Rs → Ending → World → Prop
  | .ok y k', e, w' => RX w y k' 0 0 e w'
  | .bad a er, e, w' => RX w zEx 0 a er e w'
theorem RXok.rx {w : World} {y : Sx.Ex} {k : Nat} {e : Ending} {w' : World} (h : RXok w y k e w') : RX w y k 0 0 e w' := h
theorem RXbad.rx {w : World} {a er : Int} {e : Ending} {w' : World} (h : RXbad w a er e w') : RX w zEx 0 a er e w' := ⟨0, [], 0, none, 0, 0, [], rfl, h.1, .nil _ _, h.2⟩
set_option maxRecDepth 100000 in
set_option maxHeartbeats 1000000 in
theorem pRE_no (sa : Option Addr) (n cap : Nat) (fr : Int) (rb : Bool) (w : World) (er : ∀ W, Below w.heap.size w W → Calls Tryz.prog 22 #[.slice sa n cap] W fun e w' => e = .returned (.bool rb) ∧ Below W.heap.size W w') (h : rb = false ∨ fr < 0 ∨ (n : Int) ≤ fr) :
    Calls Tryz.prog 12 #[.slice sa n cap, .int .i64 fr] w (RX w zEx 0 0 32) := by
  have ER : Hid _ := er
  clear er
  cases rb
  · clear h
    go_enter Tryz.func12, Tryz.ntmps12
    go_wp2_with fail
    refine Calls.mono (ER.out _ (box_below w _)) ?_
    rintro e w1 ⟨rfl, b1⟩
    have R1 := (Bx.new w 25 (.int .i64 0) (.string ⟨#[]⟩) (.int .i64 0) (.slice none 0 0)).later b1 (by simp)
    have BW : Hid _ := (box_below w zE).trans (b1.mono (by simp))
    obtain ⟨d0, d1, d2, d3, e0, e1, e2, e3, zr⟩ := R1
    clear b1
    go_wp2_with fail
    refine bodyPost_ret (v := .tuple #[.agg #[.int .i64 0, .string ⟨#[]⟩, .int .i64 0, .slice none 0 0], .int .i64 0, .int .i64 0, .int .i64 32]) (by simp [results, Tryz.results12, go_sem, d0, d1, d2, d3]) rfl ?_
    exact ⟨0, [], 0, none, 0, 0, [], rfl, rfl, .nil _ _, (((BW.out.setCell (by simp) _).setCell (by simp) _).setCell (by simp) _).setCell (by simp) _⟩
  · have h' : fr < 0 ∨ (n : Int) ≤ fr := by
      rcases h with h | h
      · cases h
      · exact h
    clear h
    by_cases c : fr < 0
    · clear h'
      go_enter Tryz.func12, Tryz.ntmps12
      go_wp2_with fail
      refine Calls.mono (ER.out _ (box_below w _)) ?_
      rintro e w1 ⟨rfl, b1⟩
      have R1 := (Bx.new w 25 (.int .i64 0) (.string ⟨#[]⟩) (.int .i64 0) (.slice none 0 0)).later b1 (by simp)
      have BW : Hid _ := (box_below w zE).trans (b1.mono (by simp))
      obtain ⟨d0, d1, d2, d3, e0, e1, e2, e3, zr⟩ := R1
      clear b1
      go_wp2_with fail
      refine bodyPost_ret (v := .tuple #[.agg #[.int .i64 0, .string ⟨#[]⟩, .int .i64 0, .slice none 0 0], .int .i64 0, .int .i64 0, .int .i64 32]) (by simp [results, Tryz.results12, go_sem, d0, d1, d2, d3]) rfl ?_
      exact ⟨0, [], 0, none, 0, 0, [], rfl, rfl, .nil _ _, (((BW.out.setCell (by simp) _).setCell (by simp) _).setCell (by simp) _).setCell (by simp) _⟩
    · have h2 : (n : Int) ≤ fr := by omega
      clear h'
      go_enter Tryz.func12, Tryz.ntmps12
      go_wp2_with fail
      refine Calls.mono (ER.out _ (box_below w _)) ?_
      rintro e w1 ⟨rfl, b1⟩
      have R1 := (Bx.new w 25 (.int .i64 0) (.string ⟨#[]⟩) (.int .i64 0) (.slice none 0 0)).later b1 (by simp)
      have BW : Hid _ := (box_below w zE).trans (b1.mono (by simp))
      obtain ⟨d0, d1, d2, d3, e0, e1, e2, e3, zr⟩ := R1
      clear b1
      go_wp2_with fail
      refine bodyPost_ret (v := .tuple #[.agg #[.int .i64 0, .string ⟨#[]⟩, .int .i64 0, .slice none 0 0], .int .i64 0, .int .i64 0, .int .i64 32]) (by simp [results, Tryz.results12, go_sem, d0, d1, d2, d3]) rfl ?_
      exact ⟨0, [], 0, none, 0, 0, [], rfl, rfl, .nil _ _, (((BW.out.setCell (by simp) _).setCell (by simp) _).setCell (by simp) _).setCell (by simp) _⟩
set_option maxRecDepth 100000 in
set_option maxHeartbeats 1000000 in
theorem rRE_no (sa : Option Addr) (n cap : Nat) (fr : Int) (rb : Bool) (w : World) (er : ∀ W, Below w.heap.size w W → Calls Tryz.prog 23 #[.slice sa n cap] W fun e w' => e = .returned (.bool rb) ∧ Below W.heap.size W w') (h : rb = false ∨ fr < 0 ∨ (n : Int) ≤ fr) :
    Calls Tryz.prog 13 #[.slice sa n cap, .int .i64 fr] w (RX w zEx 0 0 32) := by
  have ER : Hid _ := er
  clear er
  cases rb
  · clear h
    go_enter Tryz.func13, Tryz.ntmps13
    go_wp2_with fail
    refine Calls.mono (ER.out _ (box_below w _)) ?_
    rintro e w1 ⟨rfl, b1⟩
    have R1 := (Bx.new w 25 (.int .i64 0) (.string ⟨#[]⟩) (.int .i64 0) (.slice none 0 0)).later b1 (by simp)
    have BW : Hid _ := (box_below w zE).trans (b1.mono (by simp))
    obtain ⟨d0, d1, d2, d3, e0, e1, e2, e3, zr⟩ := R1
    clear b1
    go_wp2_with fail
    refine bodyPost_ret (v := .tuple #[.agg #[.int .i64 0, .string ⟨#[]⟩, .int .i64 0, .slice none 0 0], .int .i64 0, .int .i64 0, .int .i64 32]) (by simp [results, Tryz.results13, go_sem, d0, d1, d2, d3]) rfl ?_
    exact ⟨0, [], 0, none, 0, 0, [], rfl, rfl, .nil _ _, (((BW.out.setCell (by simp) _).setCell (by simp) _).setCell (by simp) _).setCell (by simp) _⟩
  · have h' : fr < 0 ∨ (n : Int) ≤ fr := by
      rcases h with h | h
      · cases h
      · exact h
    clear h
    by_cases c : fr < 0
    · clear h'
      go_enter Tryz.func13, Tryz.ntmps13
      go_wp2_with fail
      refine Calls.mono (ER.out _ (box_below w _)) ?_
      rintro e w1 ⟨rfl, b1⟩
      have R1 := (Bx.new w 25 (.int .i64 0) (.string ⟨#[]⟩) (.int .i64 0) (.slice none 0 0)).later b1 (by simp)
      have BW : Hid _ := (box_below w zE).trans (b1.mono (by simp))
      obtain ⟨d0, d1, d2, d3, e0, e1, e2, e3, zr⟩ := R1
      clear b1
      go_wp2_with fail
      refine bodyPost_ret (v := .tuple #[.agg #[.int .i64 0, .string ⟨#[]⟩, .int .i64 0, .slice none 0 0], .int .i64 0, .int .i64 0, .int .i64 32]) (by simp [results, Tryz.results13, go_sem, d0, d1, d2, d3]) rfl ?_
      exact ⟨0, [], 0, none, 0, 0, [], rfl, rfl, .nil _ _, (((BW.out.setCell (by simp) _).setCell (by simp) _).setCell (by simp) _).setCell (by simp) _⟩
    · have h2 : (n : Int) ≤ fr := by omega
      clear h'
      go_enter Tryz.func13, Tryz.ntmps13
      go_wp2_with fail
      refine Calls.mono (ER.out _ (box_below w _)) ?_
      rintro e w1 ⟨rfl, b1⟩
      have R1 := (Bx.new w 25 (.int .i64 0) (.string ⟨#[]⟩) (.int .i64 0) (.slice none 0 0)).later b1 (by simp)
      have BW : Hid _ := (box_below w zE).trans (b1.mono (by simp))
      obtain ⟨d0, d1, d2, d3, e0, e1, e2, e3, zr⟩ := R1
      clear b1
      go_wp2_with fail
      refine bodyPost_ret (v := .tuple #[.agg #[.int .i64 0, .string ⟨#[]⟩, .int .i64 0, .slice none 0 0], .int .i64 0, .int .i64 0, .int .i64 32]) (by simp [results, Tryz.results13, go_sem, d0, d1, d2, d3]) rfl ?_
      exact ⟨0, [], 0, none, 0, 0, [], rfl, rfl, .nil _ _, (((BW.out.setCell (by simp) _).setCell (by simp) _).setCell (by simp) _).setCell (by simp) _⟩
set_option maxRecDepth 100000 in
set_option maxHeartbeats 1000000 in
theorem pRE_yes (b o cap : Nat) (ts : List Tok) (gd : Good ts) (f k : Nat) (r : Sx.Rs) (w : World) (ta : Ta w b o ts) (hk : k < ts.length) (hr : Sx.bd ts f 1 1 k = some r)
    (er : ∀ W, Below w.heap.size w W → Calls Tryz.prog 22 #[.slice (some ⟨b, o, none⟩) ts.length cap] W fun e w' => e = .returned (.bool true) ∧ Below W.heap.size W w') :
    Calls Tryz.prog 12 #[.slice (some ⟨b, o, none⟩) ts.length cap, .int .i64 (k : Int)] w (RXp w r) := by
  have ER : Hid _ := er
  have hki' : ¬ ((ts.length : Int) ≤ (k : Int)) := by omega
  have hk0 : ¬ ((k : Int) < 0) := by omega
  obtain ⟨x, n, i, e0, hx⟩ : ∃ x n i e0, RXp w r = RX w x n i e0 ∧ ∀ W, Below w.heap.size w W → Calls Tryz.prog 17 #[.slice (some ⟨b, o, none⟩) ts.length cap, .int .i64 (k : Int)] W (RX W x n i e0) := by
    cases r with
    | ok y k' => exact ⟨y, k', 0, 0, rfl, fun W hW => (readExpr_ok b o cap ts gd f k y k' W (ta.later hW) hk hr).mono fun _ _ h => h.rx⟩
    | bad a e => exact ⟨zEx, 0, a, e, rfl, fun W hW => (readExpr_bad b o cap ts gd f k a e W (ta.later hW) hk hr).mono fun _ _ h => h.rx⟩
  rw [hx.1]
  have E1 : Hid _ := hx.2
  clear er ta gd hr hx hk
  go_enter Tryz.func12, Tryz.ntmps12
  go_wp2_with fail
  refine Calls.mono (ER.out _ (box_below w _)) ?_
  rintro e w1 ⟨rfl, b1⟩
  have R1 := (Bx.new w 25 (.int .i64 0) (.string ⟨#[]⟩) (.int .i64 0) (.slice none 0 0)).later b1 (by simp)
  have BW : Hid _ := (box_below w zE).trans (b1.mono (by simp))
  have RR : Hid _ := R1
  clear b1 R1
  go_wp2_with fail
  refine Calls.mono (E1.out _ BW.out) ?_
  rintro e w2 ⟨kk, nn, mm, sa, sn, sc, ll, rfl, rfl, X, b2⟩
  have XX : Hid (ExS (fun g => w.heap.size < g) w2 (.slice sa sn sc) ll) := X.mono fun g _ hg => Nat.lt_of_lt_of_le RR.out.lt hg
  have BW2 : Hid _ := BW.out.trans (b2.mono BW.out.size)
  obtain ⟨d0, d1, d2, d3, h0, h1, h2, h3, zr⟩ := RR.out.later b2 RR.out.lt
  clear X b2
  go_wp2_with fail
  refine bodyPost_ret (v := .tuple #[.agg #[.int .i64 kk, .string ⟨nn.toArray⟩, .int .i64 mm, .slice sa sn sc], .int .i64 n, .int .i64 i, .int .i64 e0]) (by simp [results, Tryz.results12, go_sem, d0, d1, d2, d3]) rfl ?_
  refine ⟨kk, nn, mm, sa, sn, sc, ll, rfl, rfl, ?_, (((BW2.out.setCell (by simp) _).setCell (by simp) _).setCell (by simp) _).setCell (by simp) _⟩
  exact (XX.out.fill (Nat.lt_irrefl _) _ _ _ _).mono fun g _ hg => Nat.le_of_lt hg
theorem zEx_small : Sx.Small zEx := Sx.Small.none _ _ _
/-- Both read the same. -/
theorem both (v : Value) (ts : List Tok) (fr : Int) (w : World) (hk : Kw w) (A : ArgT w v ts) (h6 : totK ts ts.length ≤ 6000) : ∃ x n i er, Sx.Small x ∧ (∀ W, Below w.heap.size w W → Calls Tryz.prog 12 #[v, .int .i64 fr] W (RX W x n i er)) ∧ (∀ W, Below w.heap.size w W → Calls Tryz.prog 13 #[v, .int .i64 fr] W (RX W x n i er)) := by
  have hl := a_len h6
  have e1 : ∀ W, Below w.heap.size w W → ∀ V, Below W.heap.size W V → Calls Tryz.prog 22 #[v] V fun e w' => e = .returned (.bool (rightL ts)) ∧ Below V.heap.size V w' := fun W hW V hV => a_right A hk (hW.trans (hV.mono hW.size)) h6
  have e2 : ∀ W, Below w.heap.size w W → ∀ V, Below W.heap.size W V → Calls Tryz.prog 23 #[v] V fun e w' => e = .returned (.bool (rightL ts)) ∧ Below V.heap.size V w' := fun W hW V hV => a_rright A (hW.trans (hV.mono hW.size)) h6
  have no : (rightL ts = false ∨ fr < 0 ∨ (ts.length : Int) ≤ fr) → ∃ x n i er, Sx.Small x ∧ (∀ W, Below w.heap.size w W → Calls Tryz.prog 12 #[v, .int .i64 fr] W (RX W x n i er)) ∧ (∀ W, Below w.heap.size w W → Calls Tryz.prog 13 #[v, .int .i64 fr] W (RX W x n i er)) := by
    intro h
    obtain ⟨sa, cap, rfl⟩ : ∃ sa cap, v = .slice sa ts.length cap := by
      rcases A.sl with ⟨rfl, a, cap, rfl⟩ | ⟨_, b, o, cap, rfl, _, _⟩
      · exact ⟨a, cap, rfl⟩
      · exact ⟨_, cap, rfl⟩
    exact ⟨zEx, 0, 0, 32, zEx_small, fun W hW => pRE_no sa ts.length cap fr _ W (e1 W hW) h, fun W hW => rRE_no sa ts.length cap fr _ W (e2 W hW) h⟩
  by_cases hr : rightL ts = true
  · by_cases hf : fr < 0 ∨ (ts.length : Int) ≤ fr
    · exact no (.inr hf)
    · rcases A.sl with ⟨rfl, _⟩ | ⟨h1, b, o, cap, rfl, h3, ta⟩
      · exact absurd hr (by decide)
      · obtain ⟨k, rfl⟩ : ∃ k : Nat, fr = (k : Int) := ⟨fr.toNat, by omega⟩
        have hk1 : k < ts.length := by omega
        have gd := good_of hr (by omega)
        have rt := rt_of hr (by omega)
        obtain ⟨f, r, hb⟩ := Sx.bd_tot gd.ends 1 k
        have q1 : ∀ W, Below w.heap.size w W → _ := fun W hW => pRE_yes b o cap ts gd f k r W (ta.later hW) hk1 hb (fun V hV => by have := e1 W hW V hV; rw [hr] at this; exact this)
        have q2 : ∀ W, Below w.heap.size w W → _ := fun W hW => rReadExpr_any b o cap ts gd rt f k r W (ta.later hW) hk1 hb (fun V hV => by have := e2 W hW V hV; rw [hr] at this; exact this)
        cases r with
        | ok y k' => exact ⟨y, k', 0, 0, (Sx.small ts f).2.1 _ _ _ _ _ hb, q1, fun W hW => (q2 W hW).mono fun _ _ h => RXok.rx h⟩
        | bad a e => exact ⟨zEx, 0, a, e, zEx_small, q1, fun W hW => (q2 W hW).mono fun _ _ h => RXbad.rx h⟩
  · exact no (.inl (by cases h : rightL ts with | true => exact absurd h hr | false => rfl))
theorem a_size {w w' : World} {v : Value} {ts : List Tok} (A : ArgT w v ts) (b : Below w.heap.size w w') : Calls Tryz.prog 11 #[v, .int .i64 6000] w' fun e w'' => ∃ n : Nat, e = .returned (.int .i64 (n : Int)) ∧ Hid (n ≤ 6000 → totK ts ts.length ≤ 6000) ∧ w'' = w' := by
  have A' := A.later b
  rcases A'.sl with ⟨rfl, a, cap, rfl⟩ | ⟨h1, b0, o, cap, rfl, h3, h4⟩
  · refine (rsize_none a cap w').mono ?_
    rintro e w'' ⟨rfl, rfl⟩
    exact ⟨0, rfl, fun _ => Nat.zero_le _, rfl⟩
  · refine (rsize_any b0 o cap ts w' h4 A'.zt).mono ?_
    rintro e w'' ⟨n, rfl, hn, rfl⟩
    exact ⟨n, rfl, fun h => by rw [hn h]; exact h, rfl⟩
set_option maxRecDepth 100000 in
set_option maxHeartbeats 2000000 in
theorem from_walk (v : Value) (ts : List Tok) (fr : Int) (w : World) (ht : Kw w ∧ Tab w) (ha : ArgT w v ts) : Calls Tryz.prog 5 #[v, .int .i64 fr] w fun e w' => e = .returned (.bool true) ∧ Below w.heap.size w w' := by
  have HT : Hid (Kw w ∧ Tab w) := ht
  have HA : Hid (ArgT w v ts) := ha
  have S1 : Hid _ := a_size ha (Below.refl w.heap.size w)
  clear ht ha
  go_enter Tryz.func5, Tryz.ntmps5
  go_wp2_with fail
  refine Calls.mono S1.out ?_
  rintro e w1 ⟨z, rfl, hz, hw⟩
  rw [hw]
  clear hw w1 S1
  by_cases c : z ≤ 6000
  · have ci : ¬ ((6000 : Int) < (z : Int)) := by omega
    obtain ⟨x, n, i, er, sm, q1, q2⟩ := both v ts fr w HT.out.1 HA.out (hz.out c)
    have Q1 : Hid _ := q1 w (Below.refl _ _)
    have Q2 : Hid _ := q2
    have SM : Hid _ := sm
    clear q1 q2 hz c sm
    have en : (n == n) = true := beq_self_eq_true _
    have ei : (i == i) = true := beq_self_eq_true _
    have ee : (er == er) = true := beq_self_eq_true _
    go_wp2_with fail
    refine Calls.mono Q1.out ?_
    rintro e w1 ⟨kk, nn, mm, sa, sn, sc, ll, hx, rfl, X1, b1⟩
    have B1 : Hid (Below w.heap.size w (w1.alloc (.cells #[.int .i64 kk, .string ⟨nn.toArray⟩, .int .i64 mm, .slice sa sn sc] 25))) := b1.trans ((box_below w1 _).mono b1.size)
    have T1 : Hid _ := Bx.new w1 25 (.int .i64 kk) (.string ⟨nn.toArray⟩) (.int .i64 mm) (.slice sa sn sc)
    have Y1 : Hid _ := X1.later (box_below w1 (.cells #[.int .i64 kk, .string ⟨nn.toArray⟩, .int .i64 mm, .slice sa sn sc] 25)) (Nat.le_refl _)
    have HX : Hid _ := hx
    clear b1 X1 hx Q1
    go_wp2_with fail
    refine Calls.mono (Q2.out _ B1.out) ?_
    generalize hg1 : w1.heap.size = g1 at *
    generalize w1.alloc (.cells #[.int .i64 kk, .string ⟨nn.toArray⟩, .int .i64 mm, .slice sa sn sc] 25) = W at *
    clear hg1
    rintro e w2 ⟨kk2, nn2, mm2, sa2, sn2, sc2, ll2, hx2, rfl, X2, b2⟩
    obtain ⟨rfl, rfl, rfl, rfl⟩ : kk2 = kk ∧ nn2 = nn ∧ mm2 = mm ∧ ll2 = ll := by
      have e := HX.out.symm.trans hx2
      injection e with q1 q2 q3 q4
      exact ⟨q1.symm, q2.symm, q3.symm, q4.symm⟩
    have bq := b2.trans ((box_below w2 (.cells #[.int .i64 kk2, .string ⟨nn2.toArray⟩, .int .i64 mm2, .slice sa2 sn2 sc2] 25)).mono b2.size)
    have B2 : Hid _ := B1.out.trans (bq.mono B1.out.size)
    have E3 : Hid _ := sameExpr_true SM.out _ _ kk2 nn2 mm2 ll2 sa sa2 sn sc sn2 sc2 (w2.alloc (.cells #[.int .i64 kk2, .string ⟨nn2.toArray⟩, .int .i64 mm2, .slice sa2 sn2 sc2] 25)) hx2 (Y1.out.later bq (Nat.le_refl _)) (X2.later (box_below _ _) (Nat.le_refl _))
    obtain ⟨c0, c1, c2, c3, f0, f1, f2, f3, zt⟩ := T1.out.later bq T1.out.lt
    clear b2 X2 bq hx2 Q2
    go_wp2_with fail
    refine Calls.mono E3.out ?_
    rintro e w3 ⟨rfl, b3⟩
    have B3 : Hid (Below w.heap.size w w3) := B2.out.trans (b3.mono B2.out.size)
    clear b3
    go_wp2_with fail
    refine Calls.mono (known3 _ (HT.out.1.later B3.out) (HT.out.2.later B3.out (Nat.le_refl _))) ?_
    rintro e w4 ⟨rfl, b4⟩
    have B4 : Hid (Below w.heap.size w w4) := B3.out.trans (b4.mono B3.out.size)
    clear b4
    go_wp2_with fail
    go_ret
    exact ⟨rfl, B4.out⟩
  · have ci : (6000 : Int) < (z : Int) := by omega
    clear hz c
    go_wp2_with fail
    refine Calls.mono (known3 _ HT.out.1 HT.out.2) ?_
    rintro e w1 ⟨rfl, b1⟩
    go_wp2_with fail
    go_ret
    exact ⟨rfl, b1⟩
end Go.Proofs.YtlhklpnkelcnbaaGreatDoor
