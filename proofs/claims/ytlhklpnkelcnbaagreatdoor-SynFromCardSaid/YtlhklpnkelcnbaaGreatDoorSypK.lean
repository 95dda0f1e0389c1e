/- Layer 3: the document's reader of expressions: what is asked of it; where an error was noted; operands of one token. -/
import Derived.Test.YtlhklpnkelcnbaaGreatDoorSypG
import Derived.Test.YtlhklpnkelcnbaaGreatDoorSypA
import Derived.Test.YtlhklpnkelcnbaaGreatDoorSynE
namespace Go.Proofs.YtlhklpnkelcnbaaGreatDoor
open Go.RowKit

/-- What the document's reading has come to. -/
def PostR (p b o cap : Nat) (ts : List Tok) (w : World) : Sx.Rs → Ending → World → Prop
  | .ok x k', e, w' => ∃ kk nn mm sa sn sc ll, x = .mk kk nn mm ll ∧ e = .returned (.agg #[.int .i64 kk, .string ⟨(nn : List UInt8).toArray⟩, .int .i64 mm, .slice sa sn sc]) ∧ ExS (fun g => w.heap.size ≤ g) w' (.slice sa sn sc) ll ∧ Ri w' p b o cap ts k' 0 0 ∧ Kp p w w'
  | .bad a er, e, w' => ∃ kk nn mm sa sn sc k', e = .returned (.agg #[.int .i64 kk, .string ⟨(nn : List UInt8).toArray⟩, .int .i64 mm, .slice sa sn sc]) ∧ Ri w' p b o cap ts k' er a ∧ Kp p w w'
theorem Kp.fill {p : Nat} {w w' : World} (h : Kp p w w') {g : Nat} (hg : w.heap.size ≤ g) (b0 b1 b2 b3 : Value) : Kp p w (Go.Proofs.YtlhklpnkelcnbaaGreatDoor.fill w' g b0 b1 b2 b3) := (((h.set (a := ⟨g, 0, none⟩) (.inl hg) _).set (a := ⟨g, 1, none⟩) (.inl hg) _).set (a := ⟨g, 2, none⟩) (.inl hg) _).set (a := ⟨g, 3, none⟩) (.inl hg) _
theorem PostR.of_fill {w wc : World} {p b o cap : Nat} {ts : List Tok} {k' : Nat} {kk m : Int} {n : List UInt8} {sa : Option Addr} {sn sc : Nat} {l : List Sx.Ex} (M : Kp p w wc) (RD : Ri wc p b o cap ts k' 0 0) (hp : p < w.heap.size) (hb : b < w.heap.size) (hs : ExS (fun g => w.heap.size < g) wc (.slice sa sn sc) l) :
    PostR p b o cap ts w (.ok (.mk kk n m l) k') (.returned (.agg #[.int .i64 kk, .string ⟨n.toArray⟩, .int .i64 m, .slice sa sn sc])) (fill wc w.heap.size (.int .i64 kk) (.string ⟨n.toArray⟩) (.int .i64 m) (.slice sa sn sc)) :=
  ⟨_, _, _, _, _, _, _, rfl, rfl, (hs.fill (Nat.lt_irrefl _) _ _ _ _).mono (fun _ _ h => Nat.le_of_lt h), RD.fill (by omega) (by omega) _ _ _ _, M.fill (Nat.le_refl _) _ _ _ _⟩
theorem PostR.of_fillA {w wc : World} {p b o cap : Nat} {ts : List Tok} {k' : Nat} {kk m : Int} {n : List UInt8} {sa : Option Addr} {sn sc : Nat} {l : List Sx.Ex} {blk : Obj} (M : Kp p w wc) (RD : Ri wc p b o cap ts k' 0 0) (hp : p < w.heap.size) (hb : b < w.heap.size)
    (hs : ExS (fun g => w.heap.size < g) ((fill wc w.heap.size (.int .i64 kk) (.string ⟨n.toArray⟩) (.int .i64 m) (.slice sa sn sc)).alloc blk) (.slice sa sn sc) l) :
    PostR p b o cap ts w (.ok (.mk kk n m l) k') (.returned (.agg #[.int .i64 kk, .string ⟨n.toArray⟩, .int .i64 m, .slice sa sn sc])) ((fill wc w.heap.size (.int .i64 kk) (.string ⟨n.toArray⟩) (.int .i64 m) (.slice sa sn sc)).alloc blk) :=
  ⟨_, _, _, _, _, _, _, rfl, rfl, hs.mono (fun _ _ h => Nat.le_of_lt h), (RD.fill (by omega) (by omega) _ _ _ _).later (box_below _ _), (M.fill (Nat.le_refl _) _ _ _ _).alloc _⟩
theorem PostR.bad_fill {w wc : World} {p b o cap : Nat} {ts : List Tok} {k' : Nat} {kk m er a : Int} {n : List UInt8} {sa : Option Addr} {sn sc : Nat} (M : Kp p w wc) (RD : Ri wc p b o cap ts k' er a) (hp : p < w.heap.size) (hb : b < w.heap.size) :
    PostR p b o cap ts w (.bad a er) (.returned (.agg #[.int .i64 kk, .string ⟨n.toArray⟩, .int .i64 m, .slice sa sn sc])) (fill wc w.heap.size (.int .i64 kk) (.string ⟨n.toArray⟩) (.int .i64 m) (.slice sa sn sc)) :=
  ⟨_, _, _, _, _, _, _, rfl, RD.fill (by omega) (by omega) _ _ _ _, M.fill (Nat.le_refl _) _ _ _ _⟩
theorem PostR.bad_fillA {w wc : World} {p b o cap : Nat} {ts : List Tok} {k' : Nat} {kk m er a : Int} {n : List UInt8} {sa : Option Addr} {sn sc : Nat} {blk : Obj} (M : Kp p w wc) (RD : Ri wc p b o cap ts k' er a) (hp : p < w.heap.size) (hb : b < w.heap.size) :
    PostR p b o cap ts w (.bad a er) (.returned (.agg #[.int .i64 kk, .string ⟨n.toArray⟩, .int .i64 m, .slice sa sn sc])) ((fill wc w.heap.size (.int .i64 kk) (.string ⟨n.toArray⟩) (.int .i64 m) (.slice sa sn sc)).alloc blk) :=
  ⟨_, _, _, _, _, _, _, rfl, (RD.fill (by omega) (by omega) _ _ _ _).later (box_below _ _), (M.fill (Nat.le_refl _) _ _ _ _).alloc _⟩
/-- What is asked of one, tight, expr. -/
def UCr (p b o cap : Nat) (ts : List Tok) (f : Nat) : Prop := ∀ (d k : Nat) (r : Sx.Rs) (w : World), d ≤ 60 → Ri w p b o cap ts k 0 0 → Sx.un ts f d k = some r →
  Calls Tryz.prog 68 #[.pointer (some ⟨p, 0, none⟩), .int .i64 (d : Int)] w (PostR p b o cap ts w r)
def TCr (p b o cap : Nat) (ts : List Tok) (f : Nat) : Prop := ∀ (n d k : Nat) (r : Sx.Rs) (w : World), 1 ≤ n → n ≤ 6 → d ≤ 60 → Ri w p b o cap ts k 0 0 → Sx.bd ts f n d k = some r →
  Calls Tryz.prog 47 #[.pointer (some ⟨p, 0, none⟩), .int .i64 (n : Int), .int .i64 (d : Int)] w (PostR p b o cap ts w r)
def ECr (p b o cap : Nat) (ts : List Tok) (f : Nat) : Prop := ∀ (d k : Nat) (r : Sx.Rs) (w : World), d ≤ 61 → Ri w p b o cap ts k 0 0 → Sx.bd ts f 1 d k = some r →
  Calls Tryz.prog 24 #[.pointer (some ⟨p, 0, none⟩), .int .i64 (d : Int)] w (PostR p b o cap ts w r)
set_option maxRecDepth 100000 in
set_option maxHeartbeats 1000000 in
theorem rone_err (w : World) (p b o cap : Nat) (ts : List Tok) (k : Nat) (er a d : Int) (h : Ri w p b o cap ts k er a) (he : ¬ er = 0) :
    Calls Tryz.prog 68 #[.pointer (some ⟨p, 0, none⟩), .int .i64 d] w fun e w' => e = .returned (.agg #[.int .i64 0, .string ⟨#[]⟩, .int .i64 0, .slice none 0 0]) ∧ Below w.heap.size w w' := by
  have r2 := h.ce
  have hp := h.lt
  have be : (er == 0) = false := beq_eq_false_iff_ne.2 he
  clear h he
  go_enter Tryz.func68, Tryz.ntmps68
  go_wp2_with fail
  refine bodyPost_ret (v := .agg #[.int .i64 0, .string ⟨#[]⟩, .int .i64 0, .slice none 0 0]) (by simp [results, Tryz.results68, go_sem]) rfl ⟨rfl, ?_⟩
  go_grown
set_option maxRecDepth 100000 in
set_option maxHeartbeats 1000000 in
theorem rtight_err (w : World) (p b o cap : Nat) (ts : List Tok) (k : Nat) (er a n d : Int) (h : Ri w p b o cap ts k er a) (he : ¬ er = 0) :
    Calls Tryz.prog 47 #[.pointer (some ⟨p, 0, none⟩), .int .i64 n, .int .i64 d] w fun e w' => e = .returned (.agg #[.int .i64 0, .string ⟨#[]⟩, .int .i64 0, .slice none 0 0]) ∧ Below w.heap.size w w' := by
  have H : Hid _ := h
  have E1 : Hid (∀ W, Below w.heap.size w W → _) := fun W hW => rone_err W p b o cap ts k er a d (h.later hW) he
  have be : (er == 0) = false := beq_eq_false_iff_ne.2 he
  clear h he
  go_enter Tryz.func47, Tryz.ntmps47
  go_wp2_with fail
  refine Calls.mono (E1.out _ (box_below w _)) ?_
  rintro e w1 ⟨rfl, b1⟩
  have B1 := (Bx.new w 25 (.int .i64 0) (.string ⟨#[]⟩) (.int .i64 0) (.slice none 0 0)).later b1 (by simp)
  have bw := (box_below w zE).trans (b1.mono (by simp))
  have H1 := (H.out.later bw)
  have r0 := H1.row
  have r1 := H1.nx
  have r2 := H1.ce
  have hp := H1.lt
  have hb := H1.ta.lt
  have c0 := H1.ta.c0 k H1.hk
  have hki : (k : Int) < (ts.length : Int) := by have := H1.hk; omega
  have hk0 : (0 : Int) ≤ (k : Int) := by omega
  have z1 : w1.heap.size < (w1.alloc zE).heap.size := by simp
  have KEY : Hid (∀ n : Nat, Bx ((w1.alloc zE).drewN n) w.heap.size (.int .i64 0) (.string ⟨#[]⟩) (.int .i64 0) (.slice none 0 0) ∧ Bx ((w1.alloc zE).drewN n) w1.heap.size (.int .i64 0) (.string ⟨#[]⟩) (.int .i64 0) (.slice none 0 0) ∧ Below w.heap.size w ((w1.alloc zE).drewN n)) := fun n =>
    ⟨(B1.later (box_below w1 zE) B1.lt).later (below_drewN (Below.refl (w1.alloc zE).heap.size _) n) (Nat.lt_trans B1.lt z1), (Bx.new w1 25 _ _ _ _).later (below_drewN (Below.refl (w1.alloc zE).heap.size _) n) z1, below_drewN (bw.trans ((box_below w1 zE).mono bw.size)) n⟩
  have nw : ¬ w1.heap.size = w.heap.size := Nat.ne_of_gt B1.lt
  have nw' : ¬ w.heap.size = w1.heap.size := Nat.ne_of_lt B1.lt
  clear b1 H1 bw B1
  go_wp2_with fail
  refine wp_loop_rounds 1 ?_
  rw [rounds_succ]
  go_wp2_with fail
  go_quiet (fail)
  obtain ⟨⟨d0, d1, d2, d3, e0, e1, e2, e3, zr⟩, ⟨g0, g1, g2, g3, h0, h1, h2, h3, zx⟩, q3⟩ := KEY.out nq
  generalize (w1.alloc zE).drewN nq = W at *
  go_wp2_with fail
  refine bodyPost_ret (v := .agg #[.int .i64 0, .string ⟨#[]⟩, .int .i64 0, .slice none 0 0]) (by simp [results, Tryz.results47, go_sem, d0, d1, d2, d3]) rfl ⟨rfl, ?_⟩
  exact (((q3.setCell (by simp) _).setCell (by simp) _).setCell (by simp) _).setCell (by simp) _
/-- The token at hand lies in a box of its own; the box for the answer is empty. -/
def OneRel (w : World) (p b o cap : Nat) (ts : List Tok) (k : Nat) (x : Tok) (s : Value) (wc : World) : Prop :=
  s = .pointer (some ⟨w.heap.size + 1, 0, none⟩) ∧ Bx wc (w.heap.size + 1) (.int .i64 x.1.kind) (.string ⟨x.1.text.toArray⟩) (.int .i64 x.1.num) (.int .i64 x.2) ∧ Bx wc w.heap.size (.int .i64 0) (.string ⟨#[]⟩) (.int .i64 0) (.slice none 0 0) ∧ Ri wc p b o cap ts k 0 0 ∧ Below w.heap.size w wc
theorem OneRel.of {w : World} {p b o cap : Nat} {ts : List Tok} {k : Nat} {x : Tok} (h : Ri w p b o cap ts k 0 0) (t : TypeId) : OneRel w p b o cap ts k x (.pointer (some ⟨w.heap.size + 1, 0, none⟩)) ((w.alloc zE).alloc (.cells #[.int .i64 x.1.kind, .string ⟨x.1.text.toArray⟩, .int .i64 x.1.num, .int .i64 x.2] t)).drew := by
  have b0 : Below w.heap.size w ((w.alloc zE).alloc (.cells #[.int .i64 x.1.kind, .string ⟨x.1.text.toArray⟩, .int .i64 x.1.num, .int .i64 x.2] t)).drew := by go_grown
  have b1 : Below (w.heap.size + 1) (w.alloc zE) ((w.alloc zE).alloc (.cells #[.int .i64 x.1.kind, .string ⟨x.1.text.toArray⟩, .int .i64 x.1.num, .int .i64 x.2] t)).drew := by go_grown
  have e : (w.alloc zE).heap.size = w.heap.size + 1 := by simp
  have B := Bx.new (w.alloc zE) t (.int .i64 x.1.kind) (.string ⟨x.1.text.toArray⟩) (.int .i64 x.1.num) (.int .i64 x.2)
  rw [e] at B
  exact ⟨rfl, B.later (Below.refl _ _).drew B.lt, (Bx.new w 25 _ _ _ _).later b1 (by omega), h.later b0, b0⟩
theorem Sx.un_form {ts : List Tok} {f d k : Nat} {r : Sx.Rs} (hb : Sx.begE (ts.getD k tok0) = false) (h : Sx.un ts f d k = some r) : r = .bad (ts.getD k tok0).2 30 := by
  cases f with
  | zero => rw [Sx.un] at h; cases h
  | succ f => rw [Sx.un, if_pos hb] at h; exact (Option.some.inj h).symm
theorem Sx.un_deep {ts : List Tok} {f d k : Nat} {r : Sx.Rs} (hb : Sx.begE (ts.getD k tok0) = true) (hd : 60 < d) (h : Sx.un ts f d k = some r) : r = .bad (ts.getD k tok0).2 31 := by
  cases f with
  | zero => rw [Sx.un] at h; cases h
  | succ f => rw [Sx.un, if_neg (by rw [hb]; decide), if_pos hd] at h; exact (Option.some.inj h).symm
end Go.Proofs.YtlhklpnkelcnbaaGreatDoor
namespace Go.Proofs.YtlhklpnkelcnbaaGreatDoor
open Go.RowKit

theorem Good.ends {ts : List Tok} (h : Good ts) : Sx.Ends ts (ts.length - 1) := by
  intro j hj
  by_cases c : j = ts.length - 1
  · rw [c]; exact h.last
  · have : ts.getD j tok0 = tok0 := by rw [List.getD_eq_getElem?_getD, List.getElem?_eq_none (by omega)]; rfl
    rw [this]; rfl
theorem Sx.bd_un {ts : List Tok} {f d k : Nat} {r : Sx.Rs} (h : Sx.bd ts f 1 d k = some r) : ∃ g r0, Sx.un ts g d k = some r0 ∧ (∀ a e, r0 = .bad a e → r = .bad a e) := by
  obtain ⟨g, r0, _, hu, hor⟩ := Sx.bd_chain 5 f 1 r (by omega) (by omega) h
  refine ⟨g, r0, hu, fun a e h0 => ?_⟩
  rcases hor with ⟨x, k', e1, _⟩ | ⟨a', e', e1, h5⟩
  · rw [e1] at h0; cases h0
  · rw [e1] at h0; cases h0; exact h5
/-- What came of tight is ready to be laid into its box. -/
def EReady (w : World) (p b o cap : Nat) (ts : List Tok) (r : Sx.Rs) (kk : Int) (nn : List UInt8) (mm : Int) (sa : Option Addr) (sn sc : Nat) (w5 : World) : Prop :=
  PostR p b o cap ts w r (.returned (.agg #[.int .i64 kk, .string ⟨nn.toArray⟩, .int .i64 mm, .slice sa sn sc])) (fill w5 w.heap.size (.int .i64 kk) (.string ⟨nn.toArray⟩) (.int .i64 mm) (.slice sa sn sc))
theorem EReady.of {w w4 : World} {p b o cap : Nat} {ts : List Tok} {k d f : Nat} {r : Sx.Rs} (hT : TCr p b o cap ts f) (hp : p < w.heap.size) (hb : b < w.heap.size) (hz : w.heap.size < w4.heap.size) (M : Kp p w w4) (hr : Sx.bd ts f 1 d k = some r)
    (hor : (Sx.begE (ts.getD k tok0) = false ∧ Ri w4 p b o cap ts k 30 (ts.getD k tok0).2) ∨ (Sx.begE (ts.getD k tok0) = true ∧ 60 < d ∧ Ri w4 p b o cap ts k 31 (ts.getD k tok0).2) ∨ (Sx.begE (ts.getD k tok0) = true ∧ d ≤ 60 ∧ Ri w4 p b o cap ts k 0 0)) :
    Calls Tryz.prog 47 #[.pointer (some ⟨p, 0, none⟩), .int .i64 1, .int .i64 (d : Int)] w4 fun e w5 => ∃ kk nn mm sa sn sc, e = .returned (.agg #[.int .i64 kk, .string ⟨(nn : List UInt8).toArray⟩, .int .i64 mm, .slice sa sn sc]) ∧ Kp p w4 w5 ∧ EReady w p b o cap ts r kk nn mm sa sn sc w5 := by
  rcases hor with ⟨h1, RI⟩ | ⟨h1, h2, RI⟩ | ⟨h1, h2, RI⟩
  · obtain ⟨g, r0, hu, hbad⟩ := Sx.bd_un hr
    have e2 := hbad _ _ (Sx.un_form h1 hu)
    subst e2
    refine (rtight_err w4 p b o cap ts k 30 _ _ _ RI (by decide)).mono ?_
    rintro e w5 ⟨rfl, b5⟩
    exact ⟨0, [], 0, none, 0, 0, rfl, .of_below b5 (Nat.le_refl _), PostR.bad_fill (M.trans (.of_below b5 (Nat.le_refl _))) (RI.later b5) hp hb⟩
  · obtain ⟨g, r0, hu, hbad⟩ := Sx.bd_un hr
    have e2 := hbad _ _ (Sx.un_deep h1 h2 hu)
    subst e2
    refine (rtight_err w4 p b o cap ts k 31 _ _ _ RI (by decide)).mono ?_
    rintro e w5 ⟨rfl, b5⟩
    exact ⟨0, [], 0, none, 0, 0, rfl, .of_below b5 (Nat.le_refl _), PostR.bad_fill (M.trans (.of_below b5 (Nat.le_refl _))) (RI.later b5) hp hb⟩
  · refine Calls.mono (hT 1 d k r w4 (by omega) (by omega) h2 RI hr) ?_
    cases r with
    | bad a er =>
      rintro e w5 ⟨kk, nn, mm, sa, sn, sc, k', rfl, RI5, k5⟩
      exact ⟨kk, nn, mm, sa, sn, sc, rfl, k5, PostR.bad_fill (M.trans k5) RI5 hp hb⟩
    | ok y k' =>
      rintro e w5 ⟨kk, nn, mm, sa, sn, sc, ll, rfl, rfl, X, RI5, k5⟩
      exact ⟨kk, nn, mm, sa, sn, sc, rfl, k5, PostR.of_fill (M.trans k5) RI5 hp hb (X.mono fun g _ hg => Nat.lt_of_lt_of_le hz hg)⟩
set_option maxRecDepth 100000 in
set_option maxHeartbeats 1000000 in
theorem rexpr_any (p b o cap : Nat) (ts : List Tok) (rt : RT ts) (f : Nat) (hT : TCr p b o cap ts f) : ECr p b o cap ts f := by
  intro d k r w hd h hr
  have H : Hid _ := h
  have hp : Hid (p < w.heap.size) := h.lt
  have hb : Hid (b < w.heap.size) := h.ta.lt
  have pz' : ¬ w.heap.size = p := Nat.ne_of_gt h.lt
  have E1 : Hid (∀ W, Below w.heap.size w W → _) := fun W hW => ropens_any W p b o cap ts k 0 rt (h.later hW)
  have HT : Hid (TCr p b o cap ts f) := hT
  have HR : Hid _ := hr
  have HD : Hid (d ≤ 61) := hd
  clear h rt hT hr hd
  go_enter Tryz.func24, Tryz.ntmps24
  go_wp2_with fail
  refine Calls.mono (E1.out _ (box_below w _)) ?_
  rintro e w1 ⟨rfl, b1⟩
  have R1 := (Bx.new w 25 (.int .i64 0) (.string ⟨#[]⟩) (.int .i64 0) (.slice none 0 0)).later b1 (by simp)
  have bw := (box_below w zE).trans (b1.mono (by simp))
  have E2 : Hid _ := rpart_any w1 p b o cap ts k (Sx.begE (ts.getD k tok0)) d (by have := HD.out; omega) (H.out.later bw)
  have RR : Hid _ := R1
  have BW : Hid _ := bw
  clear b1 R1 bw
  go_wp2_with fail
  refine Calls.mono E2.out ?_
  rintro e w2 ⟨rfl, k2, hor⟩
  have R2 := RR.out.kp k2 pz'
  have E3 : Hid _ := EReady.of HT.out hp.out hb.out R2.lt ((Keep.of_below BW.out (Nat.le_refl _)).trans k2) HR.out hor
  have RR2 : Hid _ := R2
  clear hor k2 R2
  go_wp2_with fail
  refine Calls.mono E3.out ?_
  rintro e w5 ⟨kk, nn, mm, sa, sn, sc, rfl, m5, ur⟩
  have UR : Hid _ := ur
  obtain ⟨d0, d1, d2, d3, e0, e1, e2, e3, zr⟩ := RR2.out.kp m5 pz'
  clear ur m5
  go_wp2_with fail
  refine bodyPost_ret (v := .agg #[.int .i64 kk, .string ⟨nn.toArray⟩, .int .i64 mm, .slice sa sn sc]) (by simp [results, Tryz.results24, go_sem, d0, d1, d2, d3]) rfl ?_
  exact UR.out
end Go.Proofs.YtlhklpnkelcnbaaGreatDoor
