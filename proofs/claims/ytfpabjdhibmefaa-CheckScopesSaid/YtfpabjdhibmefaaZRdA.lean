/- Layer 3: the document's ReadExpr. -/
/- The document's reader of programs, where it reads on: brackets, types. -/
import Derived.Test.YtfpabjdhibmefaaZSypL
import Derived.Test.YtfpabjdhibmefaaZSypO
import Derived.Test.YtfpabjdhibmefaaZSypQ
import Derived.Test.YtfpabjdhibmefaaZSynP
import Derived.Test.YtfpabjdhibmefaaZGrC
import Derived.Test.YtfpabjdhibmefaaZGrG
import Derived.Test.YtfpabjdhibmefaaZSynH
namespace Go.Proofs.Ytfpabjdhibmefaa
open Go.RowKit

/-- One, whole. -/
theorem rone_any (p b o cap : Nat) (ts : List Tok) (gd : Good ts) (rt : RT ts) (f : Nat) (hu : UCr p b o cap ts f) (he : ECr p b o cap ts f) : UCr p b o cap ts (f + 1) := by
  intro d k r w hd h hr
  by_cases t45 : (ts.getD k tok0).1.text = [45]
  · exact rone_minus w p b o cap ts k d f r h gd rt hd hu t45 hr
  by_cases t33 : (ts.getD k tok0).1.text = [33]
  · exact rone_not w p b o cap ts k d f r h gd rt hd hu t45 t33 hr
  by_cases t40 : (ts.getD k tok0).1.text = [40]
  · exact rone_brackets w p b o cap ts k d f r h gd rt hd he t45 t33 t40 hr
  by_cases ttr : (ts.getD k tok0).1.text = [116, 114, 117, 101]
  · exact rone_true w p b o cap ts k d f r h gd rt hd t45 t33 t40 ttr hr
  by_cases tfa : (ts.getD k tok0).1.text = [102, 97, 108, 115, 101]
  · exact rone_false w p b o cap ts k d f r h gd rt hd t45 t33 t40 ttr tfa hr
  by_cases k2 : (ts.getD k tok0).1.kind = 2
  · exact rone_int w p b o cap ts k d f r h gd rt hd t45 t33 t40 ttr tfa k2 hr
  by_cases k1 : (ts.getD k tok0).1.kind = 1
  · exact rone_var w p b o cap ts k d f r h gd rt hd he t45 t33 t40 ttr tfa k1 hr
  · refine rone_none w p b o cap ts k d f r h gd rt hd ?_ hr
    unfold Sx.begE Sx.isUn
    rw [decide_eq_false k2, decide_eq_false k1, decide_eq_false ttr, decide_eq_false tfa, decide_eq_false t40, decide_eq_false t45, decide_eq_false t33]
    rfl
end Go.Proofs.Ytfpabjdhibmefaa
namespace Go.Proofs.Ytfpabjdhibmefaa
open Go.RowKit

/-- The document's reading, for every fuel of the plain function. -/
theorem rread_any (p b o cap : Nat) (ts : List Tok) (gd : Good ts) (rt : RT ts) : ∀ f, UCr p b o cap ts f ∧ TCr p b o cap ts f := by
  intro f
  induction f using Nat.strongRecOn with
  | _ f ih =>
    cases f with
    | zero => exact ⟨fun _ _ _ _ _ _ hr => (by rw [Sx.un] at hr; cases hr), fun _ _ _ _ _ _ _ _ _ hr => (by rw [Sx.bd] at hr; cases hr)⟩
    | succ f =>
      have ihF := ih f (Nat.lt_succ_self _)
      exact ⟨rone_any p b o cap ts gd rt f ihF.1 (rexpr_any p b o cap ts rt f ihF.2), rtight_all p b o cap ts gd rt f (fun g hg => (ih g (by omega)).1) (fun g hg => (ih g (by omega)).2)⟩
theorem rtk_no {t : Lx.Tk} (h : rtk t = true) (h0 : ¬ t.text = []) (hn : Lx.isName t.text = false) : t.kind = 3 ∨ t.kind = 4 := by
  have he : t.text.isEmpty = false := by cases ht : t.text with | nil => exact absurd ht h0 | cons a l => rfl
  unfold rtk at h
  by_cases c0 : t.kind = 0
  · rw [if_pos c0, he] at h; cases h
  rw [if_neg c0] at h
  by_cases c1 : t.kind = 1
  · rw [if_pos c1, hn] at h; cases h
  rw [if_neg c1] at h
  by_cases c3 : t.kind = 3
  · exact .inl c3
  rw [if_neg c3] at h
  by_cases c2 : t.kind = 2
  · rw [if_pos c2, he] at h; cases h
  rw [if_neg c2] at h
  by_cases c4 : t.kind = 4
  · exact .inr c4
  · rw [if_neg c4] at h; cases h
theorem rtk_key {t : Lx.Tk} (h : rtk t = true) (h3 : t.kind = 3) : Lx.isKey t.text = true := by
  unfold rtk at h
  rw [if_neg (by omega), if_neg (by omega), if_pos h3] at h
  exact (Bool.and_eq_true_iff.1 h).1
theorem binds_no {s : List UInt8} (h : ¬ Sx.bindsB s = 0) : ¬ s = [] ∧ Lx.isName s = false ∧ Lx.isKey s = false := by
  unfold Sx.bindsB at h
  repeat (split at h; · rename_i e; subst e; exact ⟨by decide, by decide, by decide⟩)
  exact absurd rfl h
theorem right_cut {ts : List Tok} (h : rightL ts = true) : ∃ m, ts.length = m + 1 ∧ (∀ j, j < m → midTk (ts.getD j tok0) = true) ∧ (ts.getD m tok0).1 = ⟨0, [], 0⟩ := by
  unfold rightL at h
  split at h
  · cases h
  · rename_i h0
    refine ⟨ts.length - 1, by omega, ?_, ?_⟩
    · intro j hj
      rw [Bool.and_eq_true] at h
      exact List.all_eq_true.1 h.1 j (List.mem_range.2 hj)
    · simp only [Bool.and_eq_true, decide_eq_true_eq] at h
      obtain ⟨_, hk, hr⟩ := h
      generalize (ts.getD (ts.length - 1) tok0).1 = t at hk hr
      obtain ⟨k, l, n⟩ := t
      have hk : k = 0 := hk
      subst hk
      unfold rtk at hr
      rw [if_pos rfl] at hr
      simp only [Bool.and_eq_true, decide_eq_true_eq, List.isEmpty_iff] at hr
      obtain ⟨rfl, rfl⟩ := hr
      rfl
theorem good_of {ts : List Tok} (h : rightL ts = true) (hl : ts.length ≤ 1000000) : Good ts := by
  obtain ⟨m, hm, _, he⟩ := right_cut h
  exact ⟨by omega, hl, by rw [show ts.length - 1 = m by omega]; exact he⟩
theorem rtk_of {ts : List Tok} (h : rightL ts = true) (hl : ts.length ≤ 1000000) (k : Nat) (hk : ¬ Sx.tx ts k = []) : rtk (ts.getD k tok0).1 = true := by
  obtain ⟨m, hm, hmid, he⟩ := right_cut h
  have hk' := (good_of h hl).ends.txt hk
  have := hmid k (by omega)
  unfold midTk at this
  exact (Bool.and_eq_true_iff.1 this).2
theorem rt_of {ts : List Tok} (h : rightL ts = true) (hl : ts.length ≤ 1000000) : RT ts := by
  refine ⟨fun k hk => ?_, fun k hk => ?_⟩
  · have hne : ¬ Sx.tx ts k = [] := by
      intro e
      rw [e] at hk
      simp at hk
    refine rtk_no (rtk_of h hl k hne) hne ?_
    show Lx.isName (Sx.tx ts k) = false
    rcases hk with e | e | e | e | e | e | e | e <;> rw [e] <;> decide
  · obtain ⟨h1, h2, h3⟩ := binds_no hk
    have hr := rtk_of h hl k h1
    rcases rtk_no hr h1 h2 with h4 | h4
    · have := rtk_key hr h4
      have e : Lx.isKey (ts.getD k tok0).1.text = false := h3
      rw [e] at this
      cases this
    · exact h4
/-- What ReadExpr answers. -/
def RXof (w : World) : Sx.Rs → Ending → World → Prop
  | .ok y k', e, w' => RXok w y k' e w'
  | .bad a er, e, w' => RXbad w a er e w'
/-- The document's reader, new. -/
theorem Ri.new {w : World} {b o cap : Nat} {ts : List Tok} {k : Nat} (ta : Ta w b o ts) (hk : k < ts.length) (hl : ts.length ≤ 1000000) (t : TypeId) : Ri (w.alloc (.cells #[.slice (some ⟨b, o, none⟩) ts.length cap, .int .i64 (k : Int), .int .i64 0, .int .i64 0] t)) w.heap.size b o cap ts k 0 0 :=
  ⟨by simp [go_sem], by simp [go_sem], by simp [go_sem], by simp [go_sem], World.frozen?_alloc_at _ _ _ _ rfl, World.frozen?_alloc_at _ _ _ _ rfl, World.frozen?_alloc_at _ _ _ _ rfl, ta.later (box_below _ _), Nat.ne_of_lt ta.lt, by simp, hk, hl⟩
end Go.Proofs.Ytfpabjdhibmefaa
namespace Go.Proofs.Ytfpabjdhibmefaa
open Go.RowKit

/-- What both answer. -/
def RX (w : World) (x : Sx.Ex) (n i er : Int) (e : Ending) (w' : World) : Prop :=
  ∃ kk nn mm sa sn sc ll, x = .mk kk nn mm ll ∧ e = .returned (.tuple #[.agg #[.int .i64 kk, .string ⟨(nn : List UInt8).toArray⟩, .int .i64 mm, .slice sa sn sc], .int .i64 n, .int .i64 i, .int .i64 er]) ∧ ExS (fun g => w.heap.size ≤ g) w' (.slice sa sn sc) ll ∧ Below w.heap.size w w'
def zEx : Sx.Ex := .mk 0 [] 0 []
def RXp (w : World) : Sx.Rs → Ending → World → Prop
  | .ok y k', e, w' => RX w y k' 0 0 e w'
  | .bad a er, e, w' => RX w zEx 0 a er e w'
theorem RXok.rx {w : World} {y : Sx.Ex} {k : Nat} {e : Ending} {w' : World} (h : RXok w y k e w') : RX w y k 0 0 e w' := h
theorem RXbad.rx {w : World} {a er : Int} {e : Ending} {w' : World} (h : RXbad w a er e w') : RX w zEx 0 a er e w' := ⟨0, [], 0, none, 0, 0, [], rfl, h.1, .nil _ _, h.2⟩
theorem zEx_small : Sx.Small zEx := Sx.Small.none _ _ _
end Go.Proofs.Ytfpabjdhibmefaa

namespace Go.Proofs.Ytfpabjdhibmefaa
open Go.RowKit

/-- Token k is the key word or sign s, and there is one behind it. -/
structure TkA (ts : List Tok) (k : Nat) (s : List UInt8) : Prop where
  tx : (ts.getD k tok0).1.text = s
  kd : (ts.getD k tok0).1.kind = 3 ∨ (ts.getD k tok0).1.kind = 4
  lt : k + 1 < ts.length
/-- Token k is the name n, and there is one behind it. -/
structure NmA (ts : List Tok) (k : Nat) (n : List UInt8) : Prop where
  tx : (ts.getD k tok0).1.text = n
  kd : (ts.getD k tok0).1.kind = 1
  key : Lx.isKey n = false
  lt : k + 1 < ts.length
/-- A list of expressions was read. -/
def PostL (p b o cap : Nat) (ts : List Tok) (w : World) (l : List Sx.Ex) (k' : Nat) (e : Ending) (w' : World) : Prop :=
  ∃ sa sc, e = .returned (.slice sa l.length sc) ∧ ExS (fun g => w.heap.size ≤ g) w' (.slice sa l.length sc) l ∧ Ri w' p b o cap ts k' 0 0 ∧ Kp p w w'
set_option maxRecDepth 100000 in
set_option maxHeartbeats 2000000 in
theorem rbr_ok (p b o cap : Nat) (ts : List Tok) (f d k k' : Nat) (x : Sx.Ex) (he : ECr p b o cap ts f) (hd : d ≤ 61) (w : World) (h : Ri w p b o cap ts k 0 0) (t0 : TkA ts k [40]) (hx : Sx.bd ts f 1 d (k + 1) = some (.ok x k')) (t1 : TkA ts k' [41]) :
    Calls Try.prog 92 #[.pointer (some ⟨p, 0, none⟩), .int .i64 (d : Int)] w (PostL p b o cap ts w [x] (k' + 1)) := by
  have E0 : Hid _ := rwant_yes w p b o cap ts k 0 [40] h t0.tx t0.kd t0.lt
  have EX : Hid (∀ W, Ri W p b o cap ts (k + 1) 0 0 → _) := fun W hW => he d (k + 1) _ W hd hW hx
  have EW : Hid (∀ W, Ri W p b o cap ts k' 0 0 → _) := fun W hW => rwant_yes W p b o cap ts k' 0 [41] hW t1.tx t1.kd t1.lt
  have hp : Hid (p < w.heap.size) := h.lt
  clear h t0 hx t1 he hd
  go_enter Try.func92, Try.ntmps92
  go_wp2_with fail
  refine Calls.mono E0.out ?_
  rintro e w1 ⟨rfl, r1, k1⟩
  have K1 : Hid _ := k1
  have EX1 : Hid _ := EX.out w1 r1
  clear r1 k1 E0
  go_wp2_with fail
  refine Calls.mono EX1.out ?_
  rintro e w2 ⟨kk, nn, mm, sa, sn, sc, ll, rfl, rfl, hs, r2, k2⟩
  have K2 : Hid _ := K1.out.trans k2
  have z12 : w1.heap.size ≤ w2.heap.size := k2.size
  have z01 : w.heap.size ≤ w1.heap.size := K1.out.size
  have ln := hs.len
  subst ln
  have bw := box_below w2 (.cells #[.int .i64 kk, .string ⟨nn.toArray⟩, .int .i64 mm, .slice sa ll.length sc] 64)
  have EW1 : Hid _ := EW.out _ (r2.later bw)
  have HS : Hid _ := hs
  have BX : Hid _ := Bx.new w2 64 (.int .i64 kk) (.string ⟨nn.toArray⟩) (.int .i64 mm) (.slice sa ll.length sc)
  have BW : Hid _ := bw
  clear hs r2 k2 bw EX1
  go_wp2_with fail
  refine Calls.mono EW1.out ?_
  rintro e w3 ⟨rfl, r3, k3⟩
  have pn : w2.heap.size ≠ p := by have := hp.out; omega
  have X3 := BX.out.kp k3 pn
  have K3 : Hid (Kp p w w3) := (K2.out.trans (Keep.of_below BW.out (Nat.le_refl _))).trans k3
  have S3 : Hid (ExS (fun g => w.heap.size ≤ g) w3 (.slice sa ll.length sc) ll) := (((HS.out.later BW.out (Nat.le_refl _)).kp k3 (fun e => by have := hp.out; omega)).mono fun g _ hg => Nat.le_trans z01 hg)
  have R3 : Hid _ := r3
  have z3 : w2.heap.size < w3.heap.size := X3.lt
  obtain ⟨d0, d1, d2, d3, e0, e1, e2, e3, zt⟩ := X3
  clear r3 k3 EW1
  go_wp2_with fail
  go_ret
  refine ⟨_, _, rfl, S3.out.one (by omega) kk nn mm 64, R3.out.later (box_below _ _), K3.out.alloc _⟩
set_option maxRecDepth 100000 in
set_option maxHeartbeats 1000000 in
theorem rtyp_int (p b o cap : Nat) (ts : List Tok) (k : Nat) (w : World) (h : Ri w p b o cap ts k 0 0) (t0 : TkA ts k [105, 110, 116]) :
    Calls Try.prog 70 #[.pointer (some ⟨p, 0, none⟩)] w fun e w' => e = .returned (.int .i64 1) ∧ Ri w' p b o cap ts (k + 1) 0 0 ∧ Kp p w w' := by
  have E0 : Hid _ := rgot_yes w p b o cap ts k 0 [105, 110, 116] h t0.tx t0.kd t0.lt
  clear h t0
  go_enter Try.func70, Try.ntmps70
  go_wp2_with fail
  refine Calls.mono E0.out ?_
  rintro e w1 ⟨rfl, r1, k1⟩
  have R1 : Hid _ := r1
  have K1 : Hid _ := k1
  clear r1 k1
  go_wp2_with fail
  go_ret
  exact ⟨rfl, R1.out, K1.out⟩
set_option maxRecDepth 100000 in
set_option maxHeartbeats 1000000 in
theorem rtyp_bool (p b o cap : Nat) (ts : List Tok) (k : Nat) (w : World) (h : Ri w p b o cap ts k 0 0) (t0 : TkA ts k [98, 111, 111, 108]) :
    Calls Try.prog 70 #[.pointer (some ⟨p, 0, none⟩)] w fun e w' => e = .returned (.int .i64 2) ∧ Ri w' p b o cap ts (k + 1) 0 0 ∧ Kp p w w' := by
  have E0 : Hid _ := rgot_no w p b o cap ts k 0 0 [105, 110, 116] h (.inr (by rw [t0.tx]; decide))
  have E1 : Hid (∀ W, Ri W p b o cap ts k 0 0 → _) := fun W hW => rgot_yes W p b o cap ts k 0 [98, 111, 111, 108] hW t0.tx t0.kd t0.lt
  have H : Hid _ := h
  clear h t0
  go_enter Try.func70, Try.ntmps70
  go_wp2_with fail
  refine Calls.mono E0.out ?_
  rintro e w1 ⟨rfl, b1⟩
  have B1 : Hid _ := b1
  have E2 : Hid _ := E1.out w1 (H.out.later b1)
  clear b1
  go_wp2_with fail
  refine Calls.mono E2.out ?_
  rintro e w2 ⟨rfl, r2, k2⟩
  have R2 : Hid _ := r2
  have K2 : Hid _ := (Keep.of_below B1.out (Nat.le_refl _) : Kp p w w1).trans k2
  clear r2 k2
  go_wp2_with fail
  go_ret
  exact ⟨rfl, R2.out, K2.out⟩
set_option maxRecDepth 100000 in
set_option maxHeartbeats 1000000 in
theorem rtyp_none (p b o cap : Nat) (ts : List Tok) (k : Nat) (w : World) (h : Ri w p b o cap ts k 0 0) (t0 : ¬ (ts.getD k tok0).1.text = [105, 110, 116]) (t1 : ¬ (ts.getD k tok0).1.text = [98, 111, 111, 108]) :
    Calls Try.prog 70 #[.pointer (some ⟨p, 0, none⟩)] w fun e w' => e = .returned (.int .i64 0) ∧ Below w.heap.size w w' := by
  have E0 : Hid _ := rgot_no w p b o cap ts k 0 0 [105, 110, 116] h (.inr t0)
  have E1 : Hid (∀ W, Ri W p b o cap ts k 0 0 → _) := fun W hW => rgot_no W p b o cap ts k 0 0 [98, 111, 111, 108] hW (.inr t1)
  have H : Hid _ := h
  clear h t0 t1
  go_enter Try.func70, Try.ntmps70
  go_wp2_with fail
  refine Calls.mono E0.out ?_
  rintro e w1 ⟨rfl, b1⟩
  have B1 : Hid _ := b1
  have E2 : Hid _ := E1.out w1 (H.out.later b1)
  clear b1
  go_wp2_with fail
  refine Calls.mono E2.out ?_
  rintro e w2 ⟨rfl, b2⟩
  have B2 : Hid _ := B1.out.trans (b2.mono B1.out.size)
  clear b2
  go_wp2_with fail
  go_ret
  exact ⟨rfl, B2.out⟩
end Go.Proofs.Ytfpabjdhibmefaa
