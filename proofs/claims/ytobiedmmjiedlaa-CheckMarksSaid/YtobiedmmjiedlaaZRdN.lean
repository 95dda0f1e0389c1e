/- The document's reader of programs, where it reads on: a procedure without parameters. -/
/- The document's reader of programs, where it reads on: a program of one procedure. -/
/- Layer 2: the document's Blank. -/
/- Layer 2: the document's Scan of a text that it reads to its end. -/
/- Layer 3: the document's Expr of a text that is an expression. -/
/- The document's Parse of a text that is a program of one procedure. -/
/- Which tokens are a program of one procedure: a plain function, and that the document's reader reads what it tells. -/
/- Which tokens are a program of one procedure: statements, lists, the procedure, and the document's Parse by reckoning. -/
/- Layer 4: the two fixed texts of known, read by the document's Parse. -/
import Derived.Test.YtobiedmmjiedlaaZRdH
import Derived.Test.YtobiedmmjiedlaaZGrG
import Derived.Test.YtobiedmmjiedlaaZLexK
import Derived.Test.YtobiedmmjiedlaaZRdA
namespace Go.Proofs.Ytobiedmmjiedlaa
open Go.RowKit

/-- A procedure was read. -/
def PostP (p b o cap : Nat) (ts : List Tok) (w : World) (x : Sy.Pc) (k' : Nat) (e : Ending) (w' : World) : Prop :=
  ∃ pa pc ba bc, e = .returned (.agg #[.string ⟨x.name.toArray⟩, .slice pa x.params.length pc, .int .i64 x.type, .slice ba x.body.length bc]) ∧ PaS (fun g => w.heap.size ≤ g) w' (.slice pa x.params.length pc) x.params ∧ SmS (fun g => w.heap.size ≤ g) w' (.slice ba x.body.length bc) x.body ∧ Ri w' p b o cap ts k' 0 0 ∧ Kp p w w'
abbrev zPc : Obj := .cells #[.string ⟨#[]⟩, .slice none 0 0, .int .i64 0, .slice none 0 0] 25
theorem Bx.set2 {w : World} {g : Nat} {a0 a1 a2 a3 : Value} (h : Bx w g a0 a1 a2 a3) (v : Value) : Bx (w.setCell ⟨g, 2, none⟩ v) g a0 a1 v a3 := by
  constructor
  all_goals simp [h.c0, h.c1, h.c2, h.c3, h.f0, h.f1, h.f2, h.f3, h.lt, go_sem]
theorem Bx.set3 {w : World} {g : Nat} {a0 a1 a2 a3 : Value} (h : Bx w g a0 a1 a2 a3) (v : Value) : Bx (w.setCell ⟨g, 3, none⟩ v) g a0 a1 a2 v := by
  constructor
  all_goals simp [h.c0, h.c1, h.c2, h.c3, h.f0, h.f1, h.f2, h.f3, h.lt, go_sem]
set_option maxRecDepth 100000 in
set_option maxHeartbeats 4000000 in
theorem rproc_none (p b o cap : Nat) (ts : List Tok) (k kt k' : Nat) (n : List UInt8) (ty : Int) (l : List Sy.St) (hl : l.length ≤ 100000) (w : World) (h : Ri w p b o cap ts k 0 0) (t0 : TkA ts k [112, 114, 111, 99]) (t1 : NmA ts (k + 1) n) (t2 : TkA ts (k + 1 + 1) [40]) (t3 : TkA ts (k + 1 + 1 + 1) [41])
    (hty : ∀ W, Ri W p b o cap ts (k + 1 + 1 + 1 + 1) 0 0 → Calls Try.prog 58 #[.pointer (some ⟨p, 0, none⟩)] W fun e w' => e = .returned (.int .i64 ty) ∧ Ri w' p b o cap ts kt 0 0 ∧ Kp p W w') (t4 : TkA ts kt [123]) (hgl : GL p b o cap ts 1 (kt + 1) l k') :
    Calls Try.prog 36 #[.pointer (some ⟨p, 0, none⟩)] w (PostP p b o cap ts w ⟨n, [], ty, l⟩ k') := by
  have hp : Hid (p < w.heap.size) := h.lt
  have hb : Hid (b < w.heap.size) := h.ta.lt
  have H0 : Hid (Ri (w.alloc zPc) p b o cap ts k 0 0) := h.later (box_below _ _)
  have R0 : Hid _ := Bx.new w 25 (.string ⟨#[]⟩) (.slice none 0 0) (.int .i64 0) (.slice none 0 0)
  have E0 : Hid (∀ W, Ri W p b o cap ts k 0 0 → _) := fun W hW => rwant_yes W p b o cap ts k 0 [112, 114, 111, 99] hW t0.tx t0.kd t0.lt
  have EW : Hid (∀ W, Ri W p b o cap ts (k + 1) 0 0 → Calls Try.prog 56 #[.pointer (some ⟨p, 0, none⟩)] W fun e w' => e = .returned (.string ⟨n.toArray⟩) ∧ Ri w' p b o cap ts (k + 1 + 1) 0 0 ∧ Kp p W w') := fun W hW => by
    have e := rword_yes W p b o cap ts (k + 1) 0 hW t1.kd t1.lt
    rw [t1.tx] at e
    exact e
  have E2 : Hid (∀ W, Ri W p b o cap ts (k + 1 + 1) 0 0 → _) := fun W hW => rwant_yes W p b o cap ts (k + 1 + 1) 0 [40] hW t2.tx t2.kd t2.lt
  have E3 : Hid (∀ W, Ri W p b o cap ts (k + 1 + 1 + 1) 0 0 → _) := fun W hW => rgot_yes W p b o cap ts (k + 1 + 1 + 1) 0 [41] hW t3.tx t3.kd t3.lt
  have ET : Hid _ := hty
  have EB : Hid (∀ W, Ri W p b o cap ts kt 0 0 → Calls Try.prog 60 #[.pointer (some ⟨p, 0, none⟩), .int .i64 1] W (PostSL p b o cap ts W l k')) := fun W hW => rblock_ok p b o cap ts 1 kt k' l hl W hW t4 hgl
  clear h t0 t1 t2 t3 hty t4 hgl hl
  go_enter Try.func36, Try.ntmps36
  go_wp2_with fail
  refine Calls.mono (E0.out _ H0.out) ?_
  rintro e v1 ⟨rfl, r1, k1⟩
  have H1 : Hid _ := r1
  have K1 : Hid (Kp p (w.alloc zPc) v1) := k1
  clear r1 k1
  go_wp2_with fail
  refine Calls.mono (EW.out _ H1.out) ?_
  rintro e v2 ⟨rfl, r2, k2⟩
  have K2 : Hid (Kp p (w.alloc zPc) v2) := K1.out.trans k2
  have z2 : w.heap.size < v2.heap.size := Nat.lt_of_lt_of_le (by simp) K2.out.size
  have nz : ¬ v2.heap.size = w.heap.size := by omega
  have nz' : ¬ w.heap.size = v2.heap.size := by omega
  have np : v2.heap.size ≠ p := by have := hp.out; omega
  have nb : v2.heap.size ≠ b := by have := hb.out; omega
  obtain ⟨V, hV⟩ : ∃ V, V = v2.alloc (.cells #[.string ⟨n.toArray⟩, .slice none 0 0, .int .i64 0, .slice none 0 0] 25) := ⟨_, rfl⟩
  have bV : Below v2.heap.size v2 V := by rw [hV]; exact box_below _ _
  have XV : Hid (Bx V v2.heap.size (.string ⟨n.toArray⟩) (.slice none 0 0) (.int .i64 0) (.slice none 0 0)) := by rw [hV]; exact Bx.new v2 _ _ _ _ _
  have RV : Hid _ := r2.later bV
  have KV : Hid (Kp p (w.alloc zPc) V) := K2.out.trans (Keep.of_below bV (Nat.le_refl _))
  have zV : v2.heap.size < V.heap.size := XV.out.lt
  clear r2 k2 bV
  go_wp2_with fail
  rw [← hV]
  clear hV
  refine Calls.mono (E2.out _ RV.out) ?_
  rintro e v3 ⟨rfl, r3, k3⟩
  have H3 : Hid _ := r3
  have K3 : Hid (Kp p (w.alloc zPc) v3) := KV.out.trans k3
  have X3 : Hid _ := XV.out.kp k3 np
  have c2 := r3.ce
  clear r3 k3
  go_wp2_with fail
  refine wp_loop_rounds 1 ?_
  rw [rounds_succ]
  go_wp2_with fail
  refine Calls.mono (E3.out _ H3.out) ?_
  rintro e v4 ⟨rfl, r4, k4⟩
  have H4 : Hid _ := r4
  have K4 : Hid (Kp p (w.alloc zPc) v4) := K3.out.trans k4
  have X4 : Hid _ := X3.out.kp k4 np
  clear r4 k4 c2
  go_wp2_with fail
  refine Calls.mono (ET.out _ H4.out) ?_
  rintro e v5 ⟨rfl, r5, k5⟩
  have K5 : Hid (Kp p (w.alloc zPc) v5) := K4.out.trans k5
  have X5 := X4.out.kp k5 np
  have z5 : v2.heap.size < v5.heap.size := X5.lt
  have Y5 : Hid _ := X5.set2 (.int .i64 ty)
  have R5 : Hid _ := r5.set (q := ⟨v2.heap.size, 2, none⟩) np nb (.int .i64 ty)
  have KS : Hid (Kp p (w.alloc zPc) (v5.setCell ⟨v2.heap.size, 2, none⟩ (.int .i64 ty))) := K5.out.set (.inl (by simp; omega)) _
  have zs5 : (v5.setCell ⟨v2.heap.size, 2, none⟩ (.int .i64 ty)).heap.size = v5.heap.size := by simp
  obtain ⟨q0, q1, q2, q3, f0, f1, f2, f3, zq⟩ := X5
  clear r5 k5
  go_wp2_with fail
  generalize v5.setCell ⟨v2.heap.size, 2, none⟩ (.int .i64 ty) = U5 at *
  clear q0 q1 q2 q3 f0 f1 f2 f3 zq
  refine Calls.mono (EB.out _ R5.out) ?_
  rintro e v6 ⟨ba, bc, rfl, xb, r6, k6⟩
  have K6 : Hid (Kp p (w.alloc zPc) v6) := KS.out.trans k6
  have X6 := Y5.out.kp k6 np
  have z6 : v2.heap.size < v6.heap.size := X6.lt
  have Y6 : Hid _ := X6.set3 (.slice ba l.length bc)
  have R6 : Hid _ := r6.set (q := ⟨v2.heap.size, 3, none⟩) np nb (.slice ba l.length bc)
  have KS6 : Hid (Kp p (w.alloc zPc) (v6.setCell ⟨v2.heap.size, 3, none⟩ (.slice ba l.length bc))) := K6.out.set (.inl (by simp; omega)) _
  have XB6 : Hid (SmS (fun g => v2.heap.size < g) (v6.setCell ⟨v2.heap.size, 3, none⟩ (.slice ba l.length bc)) (.slice ba l.length bc) l) := (xb.mono (A' := fun g => v2.heap.size < g) fun g _ hA => Nat.lt_of_lt_of_le (by omega) hA).set (a := ⟨v2.heap.size, 3, none⟩) (Nat.lt_irrefl _) _
  obtain ⟨q0, q1, q2, q3, f0, f1, f2, f3, zq⟩ := X6
  clear xb r6 k6
  go_upto_region 16 with fail
  generalize v6.setCell ⟨v2.heap.size, 3, none⟩ (.slice ba l.length bc) = U6 at *
  clear q0 q1 q2 q3 f0 f1 f2 f3 zq
  obtain ⟨q0, q1, q2, q3, -, -, -, -, zq⟩ := Y6.out
  have Y7 := R0.out.kp KS6.out (by have := hp.out; omega)
  have PB : Hid (PostP p b o cap ts w ⟨n, [], ty, l⟩ k' (.returned (.agg #[.string ⟨n.toArray⟩, .slice none 0 0, .int .i64 ty, .slice ba l.length bc])) (fill U6 w.heap.size (.string ⟨n.toArray⟩) (.slice none 0 0) (.int .i64 ty) (.slice ba l.length bc))) := by
    have hp' := hp.out
    have hb' := hb.out
    refine ⟨none, 0, ba, bc, rfl, ⟨none, 0, rfl, fun h => absurd h (by simp)⟩, ?_, R6.out.fill (by omega) (by omega) _ _ _ _, Kp.fill ((Keep.of_below (box_below w zPc) (Nat.le_refl _) : Kp p w (w.alloc zPc)).trans KS6.out) (Nat.le_refl _) _ _ _ _⟩
    exact ((((XB6.out.set (a := ⟨w.heap.size, 0, none⟩) (fun h : v2.heap.size < w.heap.size => by omega) _).set (a := ⟨w.heap.size, 1, none⟩) (fun h : v2.heap.size < w.heap.size => by omega) _).set (a := ⟨w.heap.size, 2, none⟩) (fun h : v2.heap.size < w.heap.size => by omega) _).set (a := ⟨w.heap.size, 3, none⟩) (fun h : v2.heap.size < w.heap.size => by omega) _).mono fun g _ hg => by omega
  obtain ⟨c0, c1, c2, c3, f0, f1, f2, f3, zt⟩ := Y7
  go_wp2_with fail
  refine bodyPost_ret (v := .agg #[.string ⟨n.toArray⟩, .slice none 0 0, .int .i64 ty, .slice ba l.length bc]) (by simp [results, Try.results36, go_sem, c0, c1, c2, c3]) rfl ?_
  exact PB.out
end Go.Proofs.Ytobiedmmjiedlaa

namespace Go.Proofs.Ytobiedmmjiedlaa
open Go.RowKit

/-- A box of one cell. -/
structure Bo1 (w : World) (g : Nat) (a : Value) : Prop where
  c0 : w.cell? ⟨g, 0, none⟩ = some a
  f0 : w.frozen? ⟨g, 0, none⟩ = false
  lt : g < w.heap.size
theorem Bo1.new (w : World) (t : TypeId) (a : Value) : Bo1 (w.alloc (.cells #[a] t)) w.heap.size a := ⟨by simp [go_sem], World.frozen?_alloc_at _ _ _ _ rfl, by simp⟩
theorem Bo1.later {w w' : World} {g n : Nat} {a : Value} (h : Bo1 w g a) (b : Below n w w') (hn : g < n) : Bo1 w' g a := ⟨(b.cell (p := ⟨g, 0, none⟩) hn).trans h.c0, (b.frozen (p := ⟨g, 0, none⟩) hn).trans h.f0, Nat.lt_of_lt_of_le h.lt b.size⟩
theorem Bo1.kp {w w' : World} {p g : Nat} {a : Value} (h : Bo1 w g a) (m : Kp p w w') (hp : g ≠ p) : Bo1 w' g a := ⟨(m.cell (q := ⟨g, 0, none⟩) h.lt hp).trans h.c0, (m.frozen (q := ⟨g, 0, none⟩) h.lt hp).trans h.f0, Nat.lt_of_lt_of_le h.lt m.size⟩
theorem Bo1.put {w : World} {g : Nat} {a : Value} (h : Bo1 w g a) (v : Value) : Bo1 (w.setCell ⟨g, 0, none⟩ v) g v := by
  constructor
  all_goals simp [h.c0, h.f0, h.lt, go_sem]
theorem Bo1.set {w : World} {g : Nat} {a : Value} (h : Bo1 w g a) {q : Addr} (hq : q.block ≠ g) (v : Value) : Bo1 (w.setCell q v) g a :=
  ⟨(World.cell?_setCell_other _ _ _ _ (fun e => hq (by rw [e]))).trans h.c0, by rw [World.frozen?_setCell]; exact h.f0, by simpa using h.lt⟩
theorem row_one {w : World} {base : Nat} {t : TypeId} {v a0 a1 a2 a3 : Value} (h : w.ownsRow base t 4 v 1 [a0, a1, a2, a3]) : ∃ g c, v = .slice (some ⟨g, 0, none⟩) 1 c ∧ base ≤ g ∧ g < w.heap.size ∧ w.cell? ⟨g, 0, none⟩ = some a0 ∧ w.cell? ⟨g, 1, none⟩ = some a1 ∧ w.cell? ⟨g, 2, none⟩ = some a2 ∧ w.cell? ⟨g, 3, none⟩ = some a3 := by
  have hc := @World.ownsRow.cells _ _ _ _ _ _ _ h
  have hlt := World.ownsRow.lt h
  rcases h.2 with ⟨rfl, h0⟩ | ⟨g, cap, cur, rfl, hb, _, hnc, _⟩
  · exact absurd h0 (by decide)
  · have key : ∀ (i : Nat) (u : Value), [a0, a1, a2, a3][i]? = some u → w.cell? ⟨g, i, none⟩ = some u := by
      intro i u hu
      have := @hc g rfl i u hu
      have e : (⟨g, 0, none⟩ : Addr).add i = ⟨g, i, none⟩ := by unfold Addr.add; split <;> simp_all
      rw [e] at this
      exact this
    exact ⟨g, cap, rfl, (hlt g rfl).1, (hlt g rfl).2, key 0 _ rfl, key 1 _ rfl, key 2 _ rfl, key 3 _ rfl⟩
/-- A program was read. -/
def PostG (w : World) (l : List Sy.Pc) (e : Ending) (w' : World) : Prop :=
  ∃ sa sc, e = .returned (.tuple #[.agg #[.slice sa l.length sc], .int .i64 0, .int .i64 0]) ∧ PcS (fun g => w.heap.size ≤ g) w' (.slice sa l.length sc) l ∧ Below w.heap.size w w'
set_option maxRecDepth 100000 in
set_option maxHeartbeats 4000000 in
theorem rRead_one (b o cap : Nat) (ts : List Tok) (x : Sy.Pc) (k' : Nat) (w : World) (ta : Ta w b o ts) (h0 : 0 < ts.length) (hl : ts.length ≤ 1000000)
    (hR : ∀ W, Below w.heap.size w W → Calls Try.prog 34 #[.slice (some ⟨b, o, none⟩) ts.length cap] W fun e w' => e = .returned (.bool true) ∧ Below W.heap.size W w')
    (hk0 : ¬ (ts.getD 0 tok0).1.kind = 0) (hkz : (ts.getD k' tok0).1.kind = 0)
    (hpr : ∀ p W, Ri W p b o cap ts 0 0 0 → Calls Try.prog 36 #[.pointer (some ⟨p, 0, none⟩)] W (PostP p b o cap ts W x k')) :
    Calls Try.prog 23 #[.slice (some ⟨b, o, none⟩) ts.length cap] w (PostG w [x]) := by
  have TA : Hid _ := ta
  have ER : Hid _ := hR
  have EP : Hid _ := hpr
  have EK0 : Hid (∀ p W, Ri W p b o cap ts 0 0 0 → Calls Try.prog 35 #[.pointer (some ⟨p, 0, none⟩), .int .i64 0] W fun e w' => e = .returned (.bool false) ∧ Below W.heap.size W w') := fun p W hW => by
    have e := rkind_ok W p b o cap ts 0 0 0 hW
    rw [beq_eq_false_iff_ne.2 hk0] at e
    exact e
  have EKz : Hid (∀ p W, Ri W p b o cap ts k' 0 0 → Calls Try.prog 35 #[.pointer (some ⟨p, 0, none⟩), .int .i64 0] W fun e w' => e = .returned (.bool true) ∧ Below W.heap.size W w') := fun p W hW => by
    have e := rkind_ok W p b o cap ts k' 0 0 hW
    rw [hkz] at e
    exact e
  have H0 : Hid _ := h0
  have HL : Hid _ := hl
  have hb : Hid (b < w.heap.size) := ta.lt
  obtain ⟨i0, hi, hz0, hz1, hz2⟩ := info_parts infoPc
  clear ta hR hpr hk0 hkz h0 hl
  go_enter Try.func23, Try.ntmps23
  go_wp2_with fail
  refine Calls.mono (ER.out _ (box_below _ _)) ?_
  rintro e v1 ⟨rfl, b1⟩
  have B1 : Hid (Below w.heap.size w v1) := (box_below w _).trans (b1.mono (by simp))
  have D1 : Hid (Bo1 v1 w.heap.size (.slice none 0 0)) := (Bo1.new w 29 (.slice none 0 0)).later b1 (by simp)
  have z1 : w.heap.size < v1.heap.size := D1.out.lt
  obtain ⟨V, hV⟩ : ∃ V, V = (v1.alloc (.cells #[.slice (some ⟨b, o, none⟩) ts.length cap, .int .i64 0, .int .i64 0, .int .i64 0] 94)).alloc (.cells #[.slice none 0 0] 29) := ⟨_, rfl⟩
  have bV : Below v1.heap.size v1 V := by rw [hV]; go_grown
  have RV : Hid (Ri V v1.heap.size b o cap ts 0 0 0) := by rw [hV]; exact (Ri.new (cap := cap) (k := 0) (TA.out.later B1.out) H0.out HL.out _).later (box_below _ _)
  have GV : Hid (Bo1 V (v1.heap.size + 1) (.slice none 0 0)) := by
    rw [hV]
    have e := Bo1.new (v1.alloc (.cells #[.slice (some ⟨b, o, none⟩) ts.length cap, .int .i64 0, .int .i64 0, .int .i64 0] 94)) 29 (.slice none 0 0)
    rw [World.size_alloc] at e
    exact e
  have DV : Hid _ := D1.out.later bV z1
  have BV : Hid (Below w.heap.size w V) := B1.out.trans (bV.mono (Nat.le_of_lt z1))
  have zV : v1.heap.size + 1 < V.heap.size := GV.out.lt
  have ce := RV.out.ce
  clear b1 bV
  go_wp2_with fail
  rw [← hV]
  clear hV
  refine wp_loop_rounds 2 ?_
  rw [rounds_succ]
  go_wp2_with fail
  refine Calls.mono (EK0.out _ _ RV.out) ?_
  rintro e u1 ⟨rfl, b1⟩
  have RU : Hid _ := RV.out.later b1
  have GU : Hid _ := GV.out.later b1 GV.out.lt
  have DU : Hid _ := DV.out.later b1 DV.out.lt
  have BU : Hid (Below w.heap.size w u1) := BV.out.trans (b1.mono BV.out.size)
  have zu1 : v1.heap.size + 1 < u1.heap.size := GU.out.lt
  clear b1 ce
  go_wp2_with fail
  refine Calls.mono (EP.out _ _ RU.out) ?_
  rintro e u2 ⟨pa, pc, ba, bc, rfl, xp, xb, r2, k2⟩
  have np1 : v1.heap.size + 1 ≠ v1.heap.size := by omega
  have np2 : w.heap.size ≠ v1.heap.size := by omega
  have G2 := GU.out.kp k2 np1
  have D2 := DU.out.kp k2 np2
  have zu2 : u1.heap.size ≤ u2.heap.size := k2.size
  obtain ⟨U, hU⟩ : ∃ U, U = u2.alloc (.cells #[.string ⟨x.name.toArray⟩, .slice pa x.params.length pc, .int .i64 x.type, .slice ba x.body.length bc] 25) := ⟨_, rfl⟩
  have bU : Below u2.heap.size u2 U := by rw [hU]; exact box_below _ _
  have XU : Hid (Bx U u2.heap.size (.string ⟨x.name.toArray⟩) (.slice pa x.params.length pc) (.int .i64 x.type) (.slice ba x.body.length bc)) := by rw [hU]; exact Bx.new u2 _ _ _ _ _
  have GU2 : Hid _ := G2.later bU G2.lt
  have DU2 : Hid _ := D2.later bU D2.lt
  have zU : u2.heap.size < U.heap.size := XU.out.lt
  have KU : Hid (Kp v1.heap.size u1 U) := k2.trans (Keep.of_below bU (Nat.le_refl _))
  have RU2 : Hid _ := r2.later bU
  have XP : Hid (PaS (fun g => u1.heap.size ≤ g) U (.slice pa x.params.length pc) x.params) := xp.later bU (Nat.le_refl _)
  have XB : Hid (SmS (fun g => u1.heap.size ≤ g) U (.slice ba x.body.length bc) x.body) := xb.later bU (Nat.le_refl _)
  clear xp xb r2 k2 bU G2 D2
  obtain ⟨q0, q1, q2, q3, -, -, -, -, zq⟩ := XU.out
  have g0 := GU2.out.c0
  have gf := GU2.out.f0
  go_upto_region 7 with fail
  rw [← hU]
  clear hU
  go_wp2_with (at_builtin; refine wpList_append_told rfl _ _ 27 rfl U.heap.size 25 i0 (.agg #[.string ⟨#[]⟩, .slice none 0 0, .int .i64 0, .slice none 0 0]) 4 72 Try.underlying27 hi hz0 hz1 hz2 rfl (by decide) (.slice none 0 0) 0 [] rfl (World.ownsRow_nil _ _ _ _) ⟨U.heap.size, 0, none⟩ 1 1 [.string ⟨x.name.toArray⟩, .slice pa x.params.length pc, .int .i64 x.type, .slice ba x.body.length bc] rfl rfl (four_cells _ _ _ _ _ _) (by intro x hx; simp at hx; rcases hx with rfl | rfl | rfl | rfl <;> rfl) (by decide) (by decide) (by simp) (by decide) ?_)
  intro v' w4 h4 g4 _
  have B4 : Below U.heap.size U w4 := (box_below U _).trans ((Below.of_grown g4).mono (by simp))
  obtain ⟨gb, cb, rfl, hgb, hgl, e0, e1, e2, e3⟩ := row_one h4
  have z4 : u1.heap.size ≤ gb := by omega
  have nu : (fun g => u1.heap.size ≤ g) = (fun g => u1.heap.size ≤ g) := rfl
  have PC4 : PcS (fun g => u1.heap.size ≤ g) w4 (.slice (some ⟨gb, 0, none⟩) 1 cb) [x] := ⟨_, _, rfl, fun _ => ⟨gb, 0, rfl, z4, hgl, fun j hj => by
    have hj0 : j = 0 := by simpa using hj
    subst hj0
    exact ⟨x, pa, pc, ba, bc, rfl, ⟨e0, e1, e2, e3, XP.out.later B4 (Nat.le_refl _), XB.out.later B4 (Nat.le_refl _)⟩⟩⟩⟩
  have G4 := GU2.out.later B4 GU2.out.lt
  have D4 := DU2.out.later B4 DU2.out.lt
  have R4 := RU2.out.later B4
  have K4 : Hid (Kp v1.heap.size u1 w4) := KU.out.trans (Keep.of_below B4 (Nat.le_refl _))
  have hb' := hb.out
  have PC5 : Hid (PcS (fun g => u1.heap.size ≤ g) (w4.setCell ⟨v1.heap.size + 1, 0, none⟩ (.slice (some ⟨gb, 0, none⟩) 1 cb)) (.slice (some ⟨gb, 0, none⟩) 1 cb) [x]) := PC4.keep (fun _ _ h => h) (fun q hA _ => World.cell?_setCell_other _ _ _ _ (fun e => by have h : u1.heap.size ≤ q.block := hA; rw [← e] at h; have h' : u1.heap.size ≤ v1.heap.size + 1 := h; omega)) (by simp)
  have G5 : Hid _ := G4.put (.slice (some ⟨gb, 0, none⟩) 1 cb)
  have D5 : Hid _ := D4.set (q := ⟨v1.heap.size + 1, 0, none⟩) (by show v1.heap.size + 1 ≠ w.heap.size; omega) (.slice (some ⟨gb, 0, none⟩) 1 cb)
  have R5 : Hid _ := R4.set (q := ⟨v1.heap.size + 1, 0, none⟩) (by show v1.heap.size + 1 ≠ v1.heap.size; omega) (by show v1.heap.size + 1 ≠ b; omega) (.slice (some ⟨gb, 0, none⟩) 1 cb)
  have B5 : Hid (Below w.heap.size w (w4.setCell ⟨v1.heap.size + 1, 0, none⟩ (.slice (some ⟨gb, 0, none⟩) 1 cb))) := by
    have k5 : Keep (fun g => v1.heap.size ≤ g) u1 (w4.setCell ⟨v1.heap.size + 1, 0, none⟩ (.slice (some ⟨gb, 0, none⟩) 1 cb)) := (K4.out.mono fun g _ e => Nat.le_of_eq e.symm).set (.inr (Nat.le_succ _)) _
    exact BU.out.trans ⟨k5.os, k5.tape, k5.output, k5.size, fun i hi => k5.block i (by omega) (by show ¬ v1.heap.size ≤ i; omega)⟩
  have w4c := G4.c0
  have w4f := G4.f0
  have w4l := G4.lt
  clear h4 g4 B4 PC4 G4 D4 R4 e0 e1 e2 e3 nu q0 q1 q2 q3 zq g0 gf
  go_wp2_with fail
  generalize w4.setCell ⟨v1.heap.size + 1, 0, none⟩ (.slice (some ⟨gb, 0, none⟩) 1 cb) = W5 at *
  clear w4c w4f w4l
  have ce5 := R5.out.ce
  rw [rounds_succ]
  go_wp2_with fail
  refine Calls.mono (EKz.out _ _ R5.out) ?_
  rintro e u6 ⟨rfl, b6⟩
  have R6 := R5.out.later b6
  have G6 := G5.out.later b6 G5.out.lt
  have D6 := D5.out.later b6 D5.out.lt
  have B6 : Hid (Below w.heap.size w u6) := B5.out.trans (b6.mono B5.out.size)
  have PC6 : Hid (PcS (fun g => u1.heap.size ≤ g) u6 (.slice (some ⟨gb, 0, none⟩) 1 cb) [x]) := PcS.later PC5.out b6 (Nat.le_refl _)
  have ce6 := R6.ce
  have g60 := G6.c0
  have d60 := D6.c0
  have d6f := D6.f0
  have d6l := D6.lt
  clear b6 R6 G6 D6 ce5
  go_wp2_with fail
  refine bodyPost_ret (v := .tuple #[.agg #[.slice (some ⟨gb, 0, none⟩) 1 cb], .int .i64 0, .int .i64 0]) (by simp [results, Try.results23, go_sem, d60]) rfl ?_
  have b7 : Below w.heap.size w (u6.setCell ⟨w.heap.size, 0, none⟩ (.slice (some ⟨gb, 0, none⟩) 1 cb)) :=
    ⟨B6.out.os, B6.out.tape, B6.out.output, by simpa using B6.out.size, fun i hi => (heap_setCell_other u6 _ i _ (fun e => by subst e; exact Nat.lt_irrefl _ hi)).trans (B6.out.block i hi)⟩
  refine ⟨_, _, rfl, ?_, b7⟩
  exact PcS.keep (fun g _ h => by have h' : u1.heap.size ≤ g := h; show w.heap.size ≤ g; omega) (fun q hA _ => World.cell?_setCell_other _ _ _ _ (fun e => by have h : u1.heap.size ≤ q.block := hA; rw [← e] at h; have h' : u1.heap.size ≤ w.heap.size := h; omega)) (by simp) PC6.out
end Go.Proofs.Ytobiedmmjiedlaa

namespace Go.Proofs.Ytobiedmmjiedlaa
open Go.RowKit

set_option maxRecDepth 100000 in
set_option maxHeartbeats 400000 in
theorem rblank_any (s : ByteArray) (w : World) (hs : s.size ≤ maxLen) : Calls Try.prog 32 #[.string s] w fun e w' => e = .returned (.int .i64 (Lx.blank false s.data.toList : Int)) ∧ w' = w := by
  unfold maxLen at hs
  go_enter Try.func32, Try.ntmps32
  go_wp2
  go_loop [3, 4] (fun x i => ∃ (k : Nat) (r : Bool), k ≤ s.size ∧ i = .int .i64 k ∧ x = .bool r ∧ Hid (Lx.blank false s.data.toList = k + Lx.blank r (s.data.toList.drop k))) (fun _ i => s.size - (intOf i).toNat)
  case atStart => exact ⟨0, false, by omega, rfl, rfl, (Nat.zero_add _).symm⟩
  case round =>
    obtain ⟨k, r, hk, rfl, rfl, R⟩ := hrel
    by_cases hlt : k < s.size
    · have S : Hid _ := blank_step r s k hlt
      by_cases h10 : s[k].toNat = 10
      · have e : Hid (s[k] = 10) := u8_eq h10 (by decide)
        have hb : ((s[k].toNat : Int) == 10) = true := by rw [h10]; rfl
        have R' : Hid (Lx.blank false s.data.toList = (k + 1) + Lx.blank false (s.data.toList.drop (k + 1))) := by
          have h1 := R.out
          rw [S.out, if_pos e.out] at h1
          unfold Hid; omega
        clear h10
        go_wp2
        exact ⟨⟨k + 1, false, by omega, by go_num, rfl, R'⟩, by simp [intOf]; omega⟩
      · have e : Hid (¬ s[k] = 10) := u8_ne h10 (by decide)
        have hb : ((s[k].toNat : Int) == 10) = false := beq_eq_false_iff_ne.2 (by omega)
        clear h10
        by_cases h35 : s[k].toNat = 35
        · have e2 : Hid (s[k] = 35) := u8_eq h35 (by decide)
          have hb2 : ((s[k].toNat : Int) == 35) = true := by rw [h35]; rfl
          have R' : Hid (Lx.blank false s.data.toList = (k + 1) + Lx.blank true (s.data.toList.drop (k + 1))) := by
            have h1 := R.out
            rw [S.out, if_neg e.out, if_pos e2.out] at h1
            unfold Hid; omega
          clear h35
          go_wp2
          exact ⟨⟨k + 1, true, by omega, by go_num, rfl, R'⟩, by simp [intOf]; omega⟩
        · have e2 : Hid (¬ s[k] = 35) := u8_ne h35 (by decide)
          have hb2 : ((s[k].toNat : Int) == 35) = false := beq_eq_false_iff_ne.2 (by omega)
          clear h35
          by_cases h32 : s[k].toNat = 32
          · have e3 : Hid (s[k] = 32) := u8_eq h32 (by decide)
            have hb3 : ((s[k].toNat : Int) != 32) = false := by rw [h32]; rfl
            have R' : Hid (Lx.blank false s.data.toList = (k + 1) + Lx.blank r (s.data.toList.drop (k + 1))) := by
              have h1 := R.out
              rw [S.out, if_neg e.out, if_neg e2.out, if_neg (by intro h; exact h.1 e3.out)] at h1
              unfold Hid; omega
            clear h32
            cases r with
            | true =>
              go_wp2
              exact ⟨⟨k + 1, true, by omega, by go_num, rfl, R'⟩, by simp [intOf]; omega⟩
            | false =>
              go_wp2
              exact ⟨⟨k + 1, false, by omega, by go_num, rfl, R'⟩, by simp [intOf]; omega⟩
          · have e3 : Hid (¬ s[k] = 32) := u8_ne h32 (by decide)
            have hb3 : ((s[k].toNat : Int) != 32) = true := by rw [bne_iff_ne]; omega
            clear h32
            cases r with
            | true =>
              have R' : Hid (Lx.blank false s.data.toList = (k + 1) + Lx.blank true (s.data.toList.drop (k + 1))) := by
                have h1 := R.out
                rw [S.out, if_neg e.out, if_neg e2.out, if_neg (by simp)] at h1
                unfold Hid; omega
              go_wp2
              exact ⟨⟨k + 1, true, by omega, by go_num, rfl, R'⟩, by simp [intOf]; omega⟩
            | false =>
              have R' : Hid (Lx.blank false s.data.toList = k) := by
                have h1 := R.out
                rw [S.out, if_neg e.out, if_neg e2.out, if_pos ⟨e3.out, rfl⟩] at h1
                exact h1
              go_wp2
              go_ret
              exact ⟨ret_i64 (by rw [R'.out]), rfl⟩
    · obtain rfl : k = s.size := by omega
      have R' : Hid (Lx.blank false s.data.toList = s.size) := by
        have h1 := R.out
        rw [List.drop_eq_nil_of_le (by simp)] at h1
        exact h1
      go_wp2
      go_ret
      exact ⟨ret_i64 (by rw [R'.out]), rfl⟩
end Go.Proofs.Ytobiedmmjiedlaa

namespace Go.Proofs.Ytobiedmmjiedlaa
open Go.RowKit

/-- The tokens of a text from a place on, behind blanks, as the document's First reads them. -/
inductive Rs (l : List UInt8) : Nat → List (Lx.Tk × Nat) → Prop
  | fin : Rs l l.length []
  | step (a n : Nat) (t : Lx.Tk) (R : List (Lx.Tk × Nat)) (ha : a < l.length) (hf : rfirst (l.drop a) = (t, n)) (hn : 0 < n) (hle : a + n ≤ l.length) (h : Rs l (a + n + Lx.blank false (l.drop (a + n))) R) : Rs l a ((t, a) :: R)
theorem Rs.le {l : List UInt8} {a : Nat} {R : List (Lx.Tk × Nat)} (h : Rs l a R) : a ≤ l.length := by
  cases h with
  | fin => exact Nat.le_refl _
  | step _ _ _ _ ha => exact Nat.le_of_lt ha
theorem Rs.inv {l : List UInt8} {a : Nat} {R : List (Lx.Tk × Nat)} (h : Rs l a R) (ha : a < l.length) : ∃ n t R', R = (t, a) :: R' ∧ rfirst (l.drop a) = (t, n) ∧ 0 < n ∧ a + n ≤ l.length ∧ Rs l (a + n + Lx.blank false (l.drop (a + n))) R' := by
  cases h with
  | fin => exact absurd ha (Nat.lt_irrefl _)
  | step _ n t R' _ hf hn hle h => exact ⟨n, t, R', rfl, hf, hn, hle, h⟩
theorem Rs.done {l : List UInt8} {a : Nat} {R : List (Lx.Tk × Nat)} (h : Rs l a R) (ha : ¬ a < l.length) : R = [] ∧ a = l.length := by
  cases h with
  | fin => exact ⟨rfl, rfl⟩
  | step _ _ _ _ h => exact absurd h ha
theorem tok_snoc1 {w w1 w2 : World} {B : Nat} {v v' : Value} {ts : List (Lx.Tk × Nat)} {x : Lx.Tk × Nat} {o : Obj} (O1 : OwnT w1 B v ts) (hb : Below B w w1) (hB : B ≤ w1.heap.size)
    (h' : w2.ownsRow B 88 4 v' (ts.length + 1) (ts.flatMap cellsT ++ cellsT x)) (hg : (w1.alloc o).grownBy w2 v.ownBlock) :
    OwnT w2 B v' (ts ++ [x]) ∧ Below B w w2 := by
  have hl := World.ownsRow.lt O1
  refine ⟨?_, (hb.alloc hB _).grown hg (by simp; omega) (fun g hg => (hl g hg).1)⟩
  unfold OwnT
  rw [List.length_append, List.flatMap_append]
  simpa using h'
def RScan (T : List (Lx.Tk × Nat)) (w : World) (e : Ending) (w' : World) : Prop := ∃ v, e = .returned (.tuple #[v, .int .i64 0, .int .i64 0]) ∧ OwnT w' w.heap.size v T ∧ Below w.heap.size w w'
set_option maxRecDepth 100000 in
set_option maxHeartbeats 2000000 in
theorem rscan_good (s : ByteArray) (T : List (Lx.Tk × Nat)) (w : World) (hs : s.size ≤ 16384) (hT : T.length < 4000) (hR : Rs s.data.toList (Lx.blank false s.data.toList) T) : Calls Try.prog 22 #[.string s] w (RScan (T ++ [(⟨0, [], 0⟩, s.size)]) w) := by
  have hb : ¬ (16384 : Int) < (s.size : Int) := by omega
  have hm : s.size ≤ maxLen := by unfold maxLen; omega
  obtain ⟨i0, hi, hz0, hz1', hz2⟩ := info_parts infoTok
  have HR : Hid _ := hR
  have HT : Hid (T.length < 4000) := hT
  have HZ : Hid (s.data.toList.length = s.size) := size_len' s
  clear hR hT
  go_enter Try.func22, Try.ntmps22
  go_wp2_with fail
  refine (rblank_any s _ hm).mono ?_
  rintro e w' ⟨rfl, rfl⟩
  generalize Lx.blank false s.data.toList = A0 at HR ⊢
  go_wp2_with fail
  go_loopw [5, 6] (fun v i wr => ∃ (at' cap : Nat) (ao : Option Addr) (ts R : List (Lx.Tk × Nat)), at' ≤ s.size ∧ ts.length + R.length < 4000 ∧ i = .int .i64 at' ∧ v = .slice ao ts.length cap ∧ OwnT wr w'.heap.size (.slice ao ts.length cap) ts ∧ Below w'.heap.size w' wr ∧ Hid (Rs s.data.toList at' R) ∧ Hid (ts ++ R = T)) (fun _ i _ => s.size - (intOf i).toNat)
  case atStart => exact ⟨A0, 0, none, [], T, by have := HR.out.le; rw [HZ.out] at this; exact this, by simpa using HT.out, rfl, rfl, OwnT.nil _ _, Below.refl _ _, HR, rfl⟩
  case round =>
    obtain ⟨at', cap, ao, ts, R, hat, hts, rfl, rfl, hown, hnx, RS, TT⟩ := hrel
    by_cases hlt : at' < s.size
    · obtain ⟨n, t, R', rfl, hf, hn, hle, hr⟩ := RS.out.inv (by rw [HZ.out]; exact hlt)
      rw [HZ.out] at hle
      have hf2 : rfirst (s.extract at' s.size).data.toList = (t, n) := by rw [ext_end]; exact hf
      have HF : Hid _ := hf2
      have hz1 : (s.extract at' s.size).size ≤ 1000000 := by rw [ByteArray.size_extract]; omega
      have hz3 : (s.extract (at' + n) s.size).size ≤ maxLen := by rw [ByteArray.size_extract]; unfold maxLen; omega
      obtain ⟨bl, hbl2⟩ : ∃ bl, bl = Lx.blank false (s.extract (at' + n) s.size).data.toList := ⟨_, rfl⟩
      have HBL : Hid _ := hbl2
      have hbl : at' + n + bl ≤ s.size := by
        have := hr.le
        rw [HZ.out, ← ext_end, ← hbl2] at this
        exact this
      have HR' : Hid (Rs s.data.toList (at' + n + bl) R') := by
        unfold Hid
        rw [hbl2, ext_end]
        exact hr
      have hts' : ts.length + 1 + R'.length < 4000 := by simp at hts; omega
      have hnb : ((n : Int) == 0) = false := beq_eq_false_iff_ne.2 (by omega)
      have h4 : ¬ (4000 : Int) ≤ (ts.length : Int) := by omega
      have TT' : Hid ((ts ++ [(t, at')]) ++ R' = T) := by unfold Hid; rw [List.append_assoc]; exact TT.out
      clear hf hf2 hbl2 hr hts TT RS
      go_wp2_with fail
      refine (rfirst_any (s.extract at' s.size) _ hz1).mono ?_
      rintro e w1 ⟨rfl, b1⟩
      rw [HF.out]
      unfold rfV tokV
      have hb1 := hnx.trans (b1.mono hnx.size)
      have hzz := Nat.le_trans hnx.size b1.size
      have O1 := hown.later b1
      clear b1 hnx hown
      go_wp2_with (at_builtin; refine wpList_append_own _ rfl _ _ 71 rfl w'.heap.size 88 i0 (.agg #[.int .i64 0, .string ⟨#[]⟩, .int .i64 0, .int .i64 0]) 4 40 Try.underlying71 hi hz0 hz1' hz2 rfl (by decide) _ _ _ rfl (World.ownsRow.alloc (World.ownsRow.alloc O1 _) _) ⟨w1.heap.size + 1, 0, none⟩ 1 1 (cellsT (t, at')) rfl rfl ?c1 (four_one _) ?c3 ?c4 ?c5 ?_)
      case c1 => have := four_cells (w1.alloc (.cells (cellsT (t, at')).toArray 88)) (.int .i64 t.kind) (.string ⟨t.text.toArray⟩) (.int .i64 t.num) (.int .i64 ((at' : Nat) : Int)) 88; rw [World.size_alloc] at this; exact this
      case c3 => unfold maxLen; omega
      case c4 => omega
      case c5 => simp; omega
      intro v' w2 hown' hgrow _
      obtain ⟨O2, hb2, hc2⟩ := tok_snoc O1 hb1 hzz hown' hgrow
      clear hown' hgrow O1
      obtain ⟨ao2, cap2, hv2⟩ := O2.shape
      have hlen : (ts ++ [(t, at')]).length = ts.length + 1 := by simp
      go_wp2_with fail
      refine (rblank_any (s.extract (at' + n) s.size) _ hz3).mono ?_
      rintro e w3 ⟨rfl, rfl⟩
      rw [← HBL.out]
      go_wp2_with fail
      go_roundw
      case rel => exact ⟨at' + n + bl, cap2, ao2, ts ++ [(t, at')], R', by omega, by rw [hlen]; omega, by go_num, by rw [hlen], by rw [← hv2]; exact O2, hb2, HR', TT'⟩
      case measure => simp [intOf]; omega
    · obtain ⟨rfl, hae⟩ := RS.out.done (by rw [HZ.out]; exact hlt)
      rw [HZ.out] at hae
      subst hae
      have h4 : ¬ (4000 : Int) ≤ (ts.length : Int) := by simp at hts; omega
      have hts' : ts.length < 4000 := by simpa using hts
      have TT' : Hid (ts = T) := by unfold Hid; have := TT.out; simpa using this
      clear TT RS hts
      have hzz := hnx.size
      go_wp2_with (at_builtin; refine wpList_append_own _ rfl _ _ 71 rfl w'.heap.size 88 i0 (.agg #[.int .i64 0, .string ⟨#[]⟩, .int .i64 0, .int .i64 0]) 4 40 Try.underlying71 hi hz0 hz1' hz2 rfl (by decide) _ _ _ rfl (World.ownsRow.alloc hown _) ⟨wr.heap.size, 0, none⟩ 1 1 (cellsT (⟨0, [], 0⟩, s.size)) rfl rfl ?c1 (four_one _) ?c3 ?c4 ?c5 ?_)
      case c1 => exact fun _ _ h => h
      case c3 => unfold maxLen; omega
      case c4 => omega
      case c5 => first | omega | exact hzz | (simp; omega)
      intro v' w2 hown' hgrow _
      obtain ⟨O2, hb2⟩ := tok_snoc1 hown hnx hzz hown' hgrow
      clear hown' hgrow hown
      go_wp2_with fail
      go_ret3
      refine ⟨_, rfl, ?_, hb2⟩
      rw [← TT'.out]; exact O2
end Go.Proofs.Ytobiedmmjiedlaa

namespace Go.Proofs.Ytobiedmmjiedlaa
open Go.RowKit

/-- What the document's Expr answers of a text that is an expression. -/
def RTx (w : World) (x : Sx.Ex) (e : Ending) (w' : World) : Prop :=
  ∃ kk nn mm sa sn sc ll, x = .mk kk nn mm ll ∧ e = .returned (.tuple #[.agg #[.int .i64 kk, .string ⟨(nn : List UInt8).toArray⟩, .int .i64 mm, .slice sa sn sc], .int .i64 0, .int .i64 0]) ∧ ExS (fun g => w.heap.size ≤ g) w' (.slice sa sn sc) ll ∧ Below w.heap.size w w'
end Go.Proofs.Ytobiedmmjiedlaa

namespace Go.Proofs.Ytobiedmmjiedlaa
open Go.RowKit

set_option maxRecDepth 100000 in
set_option maxHeartbeats 2000000 in
theorem rParse_one (s : ByteArray) (T : List (Lx.Tk × Nat)) (ts : List Tok) (x : Sy.Pc) (k' : Nat) (w : World) (hs : s.size ≤ 16384) (hT : T.length < 4000) (hR : Rs s.data.toList (Lx.blank false s.data.toList) T) (ets : ts = (T ++ [((⟨0, [], 0⟩ : Lx.Tk), s.size)]).map tkI) (hrl : rightL ts = true)
    (hz : ∀ j, j < ts.length → (ts.getD j tok0).1.text.length ≤ 1000000) (hn : ∀ j, j < ts.length → -9223372036854775808 ≤ (ts.getD j tok0).1.num ∧ (ts.getD j tok0).1.num ≤ 9223372036854775807) (hk0 : ¬ (ts.getD 0 tok0).1.kind = 0) (hkz : (ts.getD k' tok0).1.kind = 0)
    (hpr : ∀ p b o cap W, Ri W p b o cap ts 0 0 0 → Calls Try.prog 36 #[.pointer (some ⟨p, 0, none⟩)] W (PostP p b o cap ts W x k')) :
    Calls Try.prog 12 #[.string s] w (PostG w [x]) := by
  have hlen : ts.length = T.length + 1 := by rw [ets]; simp
  have HS : Hid (∀ W, Calls Try.prog 22 #[.string s] W (RScan (T ++ [(⟨0, [], 0⟩, s.size)]) W)) := fun W => rscan_good s T W hs hT hR
  have ER : Hid (∀ b o cap W, Ta W b o ts → Calls Try.prog 23 #[.slice (some ⟨b, o, none⟩) ts.length cap] W (PostG W [x])) := fun b o cap W ta =>
    rRead_one b o cap ts x k' W ta (by omega) (by omega) (fun W' hW' => by
      have e := rright_some b o cap ts W' (ta.later hW') (by omega) (by omega) hz hn
      rw [hrl] at e
      exact e) hk0 hkz (fun p W' => hpr p b o cap W')
  have HT : Hid _ := ets
  have HL : Hid ((T ++ [((⟨0, [], 0⟩ : Lx.Tk), s.size)]).length = ts.length ∧ T ++ [((⟨0, [], 0⟩ : Lx.Tk), s.size)] ≠ []) := ⟨by rw [hlen]; simp, by simp⟩
  clear hs hT hR ets hrl hz hn hk0 hkz hpr hlen
  go_enter Try.func12, Try.ntmps12
  go_wp2_with fail
  refine Calls.mono (HS.out _) ?_
  rintro e v1 ⟨v, rfl, ho, b1⟩
  obtain ⟨g0, cap, rfl, hc, hg, TA⟩ := ho.ta HL.out.2
  rw [← HT.out] at TA
  rw [HL.out.1]
  have D1 : Hid (Bo1 v1 w.heap.size (.slice none 0 0)) := (Bo1.new w 29 (.slice none 0 0)).later b1 (by simp)
  have B1 : Hid (Below w.heap.size w v1) := (box_below w _).trans (b1.mono (by simp))
  have E1 : Hid _ := ER.out g0 0 cap v1 TA
  have z1 : w.heap.size < v1.heap.size := D1.out.lt
  clear ho hc hg TA b1 ER HS HT HL
  go_wp2_with fail
  refine Calls.mono E1.out ?_
  rintro e v2 ⟨sa, sc, rfl, X, b2⟩
  have D2 := D1.out.later b2 D1.out.lt
  have X2 : Hid (PcS (fun g => v1.heap.size ≤ g) v2 (.slice sa 1 sc) [x]) := X
  have B2 : Hid (Below w.heap.size w v2) := B1.out.trans (b2.mono B1.out.size)
  have d60 := D2.c0
  have d6f := D2.f0
  have d6l := D2.lt
  clear X b2 D2
  go_wp2_with fail
  refine bodyPost_ret (v := .tuple #[.agg #[.slice sa 1 sc], .int .i64 0, .int .i64 0]) (by simp [results, Try.results12, go_sem, d60]) rfl ?_
  have b7 : Below w.heap.size w (v2.setCell ⟨w.heap.size, 0, none⟩ (.slice sa 1 sc)) :=
    ⟨B2.out.os, B2.out.tape, B2.out.output, by simpa using B2.out.size, fun i hi => (heap_setCell_other v2 _ i _ (fun e => by subst e; exact Nat.lt_irrefl _ hi)).trans (B2.out.block i hi)⟩
  refine ⟨_, _, rfl, ?_, b7⟩
  exact PcS.keep (fun g _ h => by have h' : v1.heap.size ≤ g := h; show w.heap.size ≤ g; omega) (fun q hA _ => World.cell?_setCell_other _ _ _ _ (fun e => by have h : v1.heap.size ≤ q.block := hA; rw [← e] at h; have h' : v1.heap.size ≤ w.heap.size := h; omega)) (by simp) X2.out
end Go.Proofs.Ytobiedmmjiedlaa

namespace Go.Proofs.Ytobiedmmjiedlaa
open Go.RowKit

namespace Sy
def tkB (ts : List Tok) (k : Nat) (s : List UInt8) : Bool := decide ((ts.getD k tok0).1.text = s) && ((decide ((ts.getD k tok0).1.kind = 3) || decide ((ts.getD k tok0).1.kind = 4)) && decide (k + 1 < ts.length))
def nmB (ts : List Tok) (k : Nat) : Bool := decide ((ts.getD k tok0).1.kind = 1) && ((!Lx.isKey (ts.getD k tok0).1.text) && decide (k + 1 < ts.length))
def noB (ts : List Tok) (k : Nat) (s : List UInt8) : Bool := !decide ((ts.getD k tok0).1.text = s)
def rdE (ts : List Tok) (d k : Nat) : Option (Sx.Ex × Nat) := match Sx.bd ts 60 1 d k with
  | some (.ok x k') => some (x, k')
  | _ => none
def begB (ts : List Tok) (k : Nat) : Bool := begS ts k 7 && stW.all fun s => !decide (Sx.tx ts k = s) || (decide ((ts.getD k tok0).1.kind = 3) || decide ((ts.getD k tok0).1.kind = 4))
/-- A short statement. -/
def rdSh (ts : List Tok) (d k : Nat) : Option (St × Nat) :=
  if tkB ts k [118, 97, 114] then
    (if tkB ts (k + 1) [98, 111, 111, 108] then (if nmB ts (k + 1 + 1) then some (.mk 1 (ts.getD (k + 1 + 1) tok0).1.text [] (-1) [] [] [], k + 1 + 1 + 1) else none)
     else if noB ts (k + 1) [98, 111, 111, 108] && (nmB ts (k + 1) && noB ts (k + 1 + 1) [91]) then some (.mk 1 (ts.getD (k + 1) tok0).1.text [] 0 [] [] [], k + 1 + 1) else none)
  else if tkB ts k [114, 101, 116, 117, 114, 110] then
    (if tkB ts (k + 1) [59] then some (.mk 7 [] [] 0 [] [] [], k + 1)
     else if noB ts (k + 1) [59] then (rdE ts d (k + 1)).map fun y => (.mk 7 [] [] 0 [y.1] [] [], y.2) else none)
  else if tkB ts k [112, 114, 105, 110, 116] then (rdE ts d (k + 1)).map fun y => (.mk 8 [] [] 0 [y.1] [] [], y.2)
  else if tkB ts k [97, 115, 115, 101, 114, 116] then (rdE ts d (k + 1)).map fun y => (.mk 10 [] [] 0 [y.1] [] [], y.2)
  else if tkB ts k [114, 101, 97, 100] then (if nmB ts (k + 1) then some (.mk 9 (ts.getD (k + 1) tok0).1.text [] 0 [] [] [], k + 1 + 1) else none)
  else if nmB ts k && (tkB ts (k + 1) [61] && !decide ((ts.getD (k + 1 + 1) tok0).1.kind = 1)) then (rdE ts d (k + 1 + 1)).map fun y => (.mk 2 (ts.getD k tok0).1.text [] 0 [y.1] [] [], y.2)
  else none
theorem tkB_ok {ts : List Tok} {k : Nat} {s : List UInt8} (h : tkB ts k s = true) : TkA ts k s := by
  unfold tkB at h
  rw [Bool.and_eq_true, Bool.and_eq_true, Bool.or_eq_true] at h
  exact ⟨of_decide_eq_true h.1, h.2.1.imp of_decide_eq_true of_decide_eq_true, of_decide_eq_true h.2.2⟩
theorem nmB_ok {ts : List Tok} {k : Nat} (h : nmB ts k = true) : NmA ts k (ts.getD k tok0).1.text := by
  unfold nmB at h
  rw [Bool.and_eq_true, Bool.and_eq_true] at h
  exact ⟨rfl, of_decide_eq_true h.1, by simpa using h.2.1, of_decide_eq_true h.2.2⟩
theorem noB_ok {ts : List Tok} {k : Nat} {s : List UInt8} (h : noB ts k s = true) : ¬ (ts.getD k tok0).1.text = s := by
  unfold noB at h
  simpa using h
theorem rdE_ok {ts : List Tok} {d k : Nat} {y : Sx.Ex × Nat} (h : rdE ts d k = some y) : Sx.bd ts 60 1 d k = some (.ok y.1 y.2) := by
  unfold rdE at h
  split at h
  · rename_i x k' e
    cases h
    exact e
  · cases h
theorem begB_ok {ts : List Tok} {k : Nat} (h : begB ts k = true) : Begs ts k := by
  unfold begB at h
  rw [Bool.and_eq_true, List.all_eq_true] at h
  refine ⟨h.1, fun s hs e => ?_⟩
  have := h.2 s hs
  rw [Bool.or_eq_true, Bool.or_eq_true] at this
  rcases this with q | q
  · rw [decide_eq_true e] at q; cases q
  · exact q.imp of_decide_eq_true of_decide_eq_true
end Sy
theorem rdSh_ok {p b o cap : Nat} {ts : List Tok} (he : ECr p b o cap ts 60) {d k : Nat} (hd : d ≤ 61) {y : Sy.St × Nat} (h : Sy.rdSh ts d k = some y) (w : World) (ri : Ri w p b o cap ts k 0 0) :
    Calls Try.prog 84 #[.pointer (some ⟨p, 0, none⟩), .int .i64 (d : Int)] w (PostS p b o cap ts w y.1 y.2) := by
  unfold Sy.rdSh at h
  split at h
  · rename_i t0
    split at h
    · rename_i t1
      split at h
      · rename_i t2
        cases h
        exact rshort_varb p b o cap ts d k _ w ri (Sy.tkB_ok t0) (Sy.tkB_ok t1) (Sy.nmB_ok t2)
      · cases h
    · split at h
      · rename_i t2
        rw [Bool.and_eq_true, Bool.and_eq_true] at t2
        cases h
        exact rshort_var p b o cap ts d k _ w ri (Sy.tkB_ok t0) (Sy.noB_ok t2.1) (Sy.nmB_ok t2.2.1) (Sy.noB_ok t2.2.2)
      · cases h
  · split at h
    · rename_i t0
      split at h
      · rename_i t1
        cases h
        exact rshort_ret0 p b o cap ts d k w ri (Sy.tkB_ok t0) (Sy.tkB_ok t1)
      · split at h
        · rename_i t1
          obtain ⟨z, hz, rfl⟩ := Option.map_eq_some_iff.1 h
          exact rshort_return p b o cap ts 60 d k z.2 z.1 he hd w ri (Sy.tkB_ok t0) (Sy.rdE_ok hz) (Sy.noB_ok t1)
        · cases h
    · split at h
      · rename_i t0
        obtain ⟨z, hz, rfl⟩ := Option.map_eq_some_iff.1 h
        exact rshort_print p b o cap ts 60 d k z.2 z.1 he hd w ri (Sy.tkB_ok t0) (Sy.rdE_ok hz)
      · split at h
        · rename_i t0
          obtain ⟨z, hz, rfl⟩ := Option.map_eq_some_iff.1 h
          exact rshort_assert p b o cap ts 60 d k z.2 z.1 he hd w ri (Sy.tkB_ok t0) (Sy.rdE_ok hz)
        · split at h
          · rename_i t0
            split at h
            · rename_i t1
              cases h
              exact rshort_read p b o cap ts d k _ w ri (Sy.tkB_ok t0) (Sy.nmB_ok t1)
            · cases h
          · split at h
            · rename_i t0
              rw [Bool.and_eq_true, Bool.and_eq_true] at t0
              obtain ⟨z, hz, rfl⟩ := Option.map_eq_some_iff.1 h
              exact rshort_set p b o cap ts d k 60 z.2 z.1 _ w ri he hd (Sy.nmB_ok t0.1) (Sy.tkB_ok t0.2.1) (by simpa using t0.2.2) (Sy.rdE_ok hz)
            · cases h
end Go.Proofs.Ytobiedmmjiedlaa

namespace Go.Proofs.Ytobiedmmjiedlaa
open Go.RowKit

namespace Sy
/-- A statement, given how lists behind a bracket are read. -/
def rdStW (ts : List Tok) (L : Nat → Nat → Option (List St × Nat)) (d k : Nat) : Option (St × Nat) :=
  if decide (d ≤ 60) && begB ts k then
    (if tkB ts k [105, 102] then
      (if tkB ts (k + 1) [40] then (rdE ts (d + 1) (k + 1 + 1)).bind fun x => if tkB ts x.2 [41] && tkB ts (x.2 + 1) [123] then (L (d + 1) (x.2 + 1 + 1)).bind fun bl =>
          (if tkB ts bl.2 [101, 108, 115, 101] then (if tkB ts (bl.2 + 1) [123] then (L (d + 1) (bl.2 + 1 + 1)).map fun el => (.mk 4 [] [] 0 [x.1] bl.1 el.1, el.2) else none)
           else if noB ts bl.2 [101, 108, 115, 101] then some (.mk 4 [] [] 0 [x.1] bl.1 [], bl.2) else none) else none
       else none)
     else if tkB ts k [119, 104, 105, 108, 101] then
      (if tkB ts (k + 1) [40] then (rdE ts (d + 1) (k + 1 + 1)).bind fun x => if tkB ts x.2 [41] && tkB ts (x.2 + 1) [123] then (L (d + 1) (x.2 + 1 + 1)).map fun bl => (.mk 5 [] [] 0 [x.1] bl.1 [], bl.2) else none
       else none)
     else if noB ts k [105, 102] && noB ts k [119, 104, 105, 108, 101] then (rdSh ts (d + 1) k).bind fun s => if tkB ts s.2 [59] then some (s.1, s.2 + 1) else none
     else none)
  else none
/-- Statements and the bracket behind them. -/
def rdL (ts : List Tok) : Nat → Nat → Nat → Option (List St × Nat)
  | 0, _, _ => none
  | f + 1, d, k =>
    if tkB ts k [125] then some ([], k + 1)
    else if noB ts k [125] then (rdStW ts (rdL ts f) d k).bind fun s => (rdL ts f d s.2).map fun l => (s.1 :: l.1, l.2)
    else none
def rdTy (ts : List Tok) (k : Nat) : Option (Int × Nat) :=
  if tkB ts k [105, 110, 116] then some (1, k + 1)
  else if tkB ts k [98, 111, 111, 108] then some (2, k + 1)
  else if noB ts k [105, 110, 116] && noB ts k [98, 111, 111, 108] then some (0, k) else none
/-- A procedure without parameters. -/
def rdP (ts : List Tok) (f k : Nat) : Option (Pc × Nat) :=
  if tkB ts k [112, 114, 111, 99] && (nmB ts (k + 1) && (tkB ts (k + 1 + 1) [40] && tkB ts (k + 1 + 1 + 1) [41])) then
    (rdTy ts (k + 1 + 1 + 1 + 1)).bind fun t => if tkB ts t.2 [123] then (rdL ts f 1 (t.2 + 1)).map fun l => (⟨(ts.getD (k + 1) tok0).1.text, [], t.1, l.1⟩, l.2) else none
  else none
end Sy
theorem rdStW_ok {p b o cap : Nat} {ts : List Tok} (he : ECr p b o cap ts 60) {L : Nat → Nat → Option (List Sy.St × Nat)} (hL : ∀ d k y, L d k = some y → GL p b o cap ts d k y.1 y.2 ∧ y.1.length ≤ 100000) {d k : Nat} {y : Sy.St × Nat} (h : Sy.rdStW ts L d k = some y) : StR p b o cap ts d k y.1 y.2 := by
  intro W ri
  unfold Sy.rdStW at h
  split at h
  · rename_i c
    rw [Bool.and_eq_true] at c
    have hd : d ≤ 60 := of_decide_eq_true c.1
    have hbg := Sy.begB_ok c.2
    split at h
    · rename_i t0
      split at h
      · rename_i t1
        obtain ⟨x, hx, h⟩ := Option.bind_eq_some_iff.1 h
        split at h
        · rename_i t2
          rw [Bool.and_eq_true] at t2
          obtain ⟨bl, hbl, h⟩ := Option.bind_eq_some_iff.1 h
          split at h
          · rename_i t4
            split at h
            · rename_i t5
              obtain ⟨el, hel, rfl⟩ := Option.map_eq_some_iff.1 h
              exact rstmt_else p b o cap ts d k W ri hd hbg 60 x.2 bl.2 x.1 bl.1 (hL _ _ _ hbl).2 he (Sy.tkB_ok t0) (Sy.tkB_ok t1) (Sy.rdE_ok hx) (Sy.tkB_ok t2.1) (Sy.tkB_ok t2.2) (hL _ _ _ hbl).1 el.2 el.1 (hL _ _ _ hel).2 (Sy.tkB_ok t4) (Sy.tkB_ok t5) (hL _ _ _ hel).1
            · cases h
          · split at h
            · rename_i t4
              cases h
              exact rstmt_if p b o cap ts d k W ri hd hbg 60 x.2 bl.2 x.1 bl.1 (hL _ _ _ hbl).2 he (Sy.tkB_ok t0) (Sy.tkB_ok t1) (Sy.rdE_ok hx) (Sy.tkB_ok t2.1) (Sy.tkB_ok t2.2) (hL _ _ _ hbl).1 (Sy.noB_ok t4)
            · cases h
        · cases h
      · cases h
    · split at h
      · rename_i t0
        split at h
        · rename_i t1
          obtain ⟨x, hx, h⟩ := Option.bind_eq_some_iff.1 h
          split at h
          · rename_i t2
            rw [Bool.and_eq_true] at t2
            obtain ⟨bl, hbl, rfl⟩ := Option.map_eq_some_iff.1 h
            exact rstmt_while p b o cap ts d k W ri hd hbg 60 x.2 bl.2 x.1 bl.1 (hL _ _ _ hbl).2 he (Sy.tkB_ok t0) (Sy.tkB_ok t1) (Sy.rdE_ok hx) (Sy.tkB_ok t2.1) (Sy.tkB_ok t2.2) (hL _ _ _ hbl).1
          · cases h
        · cases h
      · split at h
        · rename_i t0
          rw [Bool.and_eq_true] at t0
          obtain ⟨s, hs, h⟩ := Option.bind_eq_some_iff.1 h
          split at h
          · rename_i t1
            cases h
            refine rstmt_short p b o cap ts d k W ri hd hbg s.1 s.2 (Sy.noB_ok t0.1) (Sy.noB_ok t0.2) (fun W' hW' => ?_) (Sy.tkB_ok t1)
            have e := rdSh_ok he (d := d + 1) (by omega) hs W' hW'
            have ed : ((d + 1 : Nat) : Int) = (d : Int) + 1 := by omega
            rw [ed] at e
            exact e
          · cases h
        · cases h
  · cases h
theorem rdL_ok {p b o cap : Nat} {ts : List Tok} (he : ECr p b o cap ts 60) : ∀ f d k y, f ≤ 100000 → Sy.rdL ts f d k = some y → GL p b o cap ts d k y.1 y.2 ∧ y.1.length ≤ f
  | 0, _, _, _, _, h => by cases h
  | f + 1, d, k, y, hf, h => by
    rw [Sy.rdL] at h
    split at h
    · rename_i t
      cases h
      exact ⟨.nil k (Sy.tkB_ok t), Nat.zero_le _⟩
    · split at h
      · rename_i t
        obtain ⟨s, hs, h⟩ := Option.bind_eq_some_iff.1 h
        obtain ⟨l, hl, rfl⟩ := Option.map_eq_some_iff.1 h
        have a := rdL_ok he f d s.2 l (by omega) hl
        refine ⟨.cons k s.1 s.2 l.1 l.2 (Sy.noB_ok t) (rdStW_ok he (fun d' k' y' h' => ?_) hs) a.1, by have := a.2; simp; omega⟩
        have a' := rdL_ok he f d' k' y' (by omega) h'
        exact ⟨a'.1, by have := a'.2; omega⟩
      · cases h
theorem rdTy_ok {p b o cap : Nat} {ts : List Tok} {k : Nat} {y : Int × Nat} (h : Sy.rdTy ts k = some y) (W : World) (ri : Ri W p b o cap ts k 0 0) :
    Calls Try.prog 58 #[.pointer (some ⟨p, 0, none⟩)] W fun e w' => e = .returned (.int .i64 y.1) ∧ Ri w' p b o cap ts y.2 0 0 ∧ Kp p W w' := by
  unfold Sy.rdTy at h
  split at h
  · rename_i t
    cases h
    exact rtyp_int p b o cap ts k W ri (Sy.tkB_ok t)
  · split at h
    · rename_i t
      cases h
      exact rtyp_bool p b o cap ts k W ri (Sy.tkB_ok t)
    · split at h
      · rename_i t
        rw [Bool.and_eq_true] at t
        cases h
        refine Calls.mono (rtyp_none p b o cap ts k W ri (Sy.noB_ok t.1) (Sy.noB_ok t.2)) ?_
        rintro e w1 ⟨rfl, b1⟩
        exact ⟨rfl, ri.later b1, Keep.of_below b1 (Nat.le_refl _)⟩
      · cases h
theorem rdP_ok {p b o cap : Nat} {ts : List Tok} (he : ECr p b o cap ts 60) {f k : Nat} (hf : f ≤ 100000) {y : Sy.Pc × Nat} (h : Sy.rdP ts f k = some y) (W : World) (ri : Ri W p b o cap ts k 0 0) :
    Calls Try.prog 36 #[.pointer (some ⟨p, 0, none⟩)] W (PostP p b o cap ts W y.1 y.2) := by
  unfold Sy.rdP at h
  split at h
  · rename_i c
    rw [Bool.and_eq_true, Bool.and_eq_true, Bool.and_eq_true] at c
    obtain ⟨t, ht, h⟩ := Option.bind_eq_some_iff.1 h
    split at h
    · rename_i t4
      obtain ⟨l, hl, rfl⟩ := Option.map_eq_some_iff.1 h
      have a := rdL_ok he f 1 _ l hf hl
      exact rproc_none p b o cap ts k t.2 l.2 _ t.1 l.1 (by have := a.2; omega) W ri (Sy.tkB_ok c.1) (Sy.nmB_ok c.2.1) (Sy.tkB_ok c.2.2.1) (Sy.tkB_ok c.2.2.2) (fun W' hW' => rdTy_ok ht W' hW') (Sy.tkB_ok t4) a.1
    · cases h
  · cases h
/-- Each token's number and text are not too great. -/
def fitB (ts : List Tok) : Bool := ts.all fun t => decide (t.1.text.length ≤ 1000000) && (decide (-9223372036854775808 ≤ t.1.num) && decide (t.1.num ≤ 9223372036854775807))
theorem fitB_ok {ts : List Tok} (h : fitB ts = true) (j : Nat) (hj : j < ts.length) : (ts.getD j tok0).1.text.length ≤ 1000000 ∧ -9223372036854775808 ≤ (ts.getD j tok0).1.num ∧ (ts.getD j tok0).1.num ≤ 9223372036854775807 := by
  unfold fitB at h
  rw [List.all_eq_true] at h
  have e : ts.getD j tok0 = ts[j] := by simp [List.getD, hj]
  rw [e]
  have := h ts[j] (List.getElem_mem hj)
  rw [Bool.and_eq_true, Bool.and_eq_true] at this
  exact ⟨of_decide_eq_true this.1, of_decide_eq_true this.2.1, of_decide_eq_true this.2.2⟩
/-- The tokens of a text from a place on (as FolX has it for expressions). -/
def rsG (l : List UInt8) : Nat → Nat → Option (List (Lx.Tk × Nat))
  | 0, _ => none
  | f + 1, a =>
    if l.length ≤ a then (if a = l.length then some [] else none)
    else if 0 < (rfirst (l.drop a)).2 ∧ a + (rfirst (l.drop a)).2 ≤ l.length then (rsG l f (a + (rfirst (l.drop a)).2 + Lx.blank false (l.drop (a + (rfirst (l.drop a)).2)))).map fun R => ((rfirst (l.drop a)).1, a) :: R
    else none
theorem rsG_ok (l : List UInt8) : ∀ (f a : Nat) (R : List (Lx.Tk × Nat)), rsG l f a = some R → Rs l a R
  | 0, _, _, h => by cases h
  | f + 1, a, R, h => by
    rw [rsG] at h
    split at h
    · split at h
      · rename_i e
        cases h
        rw [e]
        exact .fin
      · cases h
    · rename_i hlt
      split at h
      · rename_i hn
        obtain ⟨R', h', rfl⟩ := Option.map_eq_some_iff.1 h
        exact .step a (rfirst (l.drop a)).2 (rfirst (l.drop a)).1 R' (by omega) rfl hn.1 hn.2 (rsG_ok l f _ R' h')
      · cases h
/-- The document's Parse of a text of one procedure, by reckoning. -/
theorem rParse_by (l : List UInt8) (T : List (Lx.Tk × Nat)) (x : Sy.Pc) (k' : Nat) (w : World) (h1 : l.length ≤ 16384) (h2 : T.length < 4000) (h3 : rsG l 400 (Lx.blank false l) = some T) (h4 : rightL ((T ++ [((⟨0, [], 0⟩ : Lx.Tk), l.length)]).map tkI) = true) (h5 : fitB ((T ++ [((⟨0, [], 0⟩ : Lx.Tk), l.length)]).map tkI) = true) (h6 : Sy.rdP ((T ++ [((⟨0, [], 0⟩ : Lx.Tk), l.length)]).map tkI) 100 0 = some (x, k')) (h7 : ¬ (((T ++ [((⟨0, [], 0⟩ : Lx.Tk), l.length)]).map tkI).getD 0 tok0).1.kind = 0) (h8 : (((T ++ [((⟨0, [], 0⟩ : Lx.Tk), l.length)]).map tkI).getD k' tok0).1.kind = 0) :
    Calls Try.prog 12 #[.string ⟨l.toArray⟩] w (PostG w [x]) := by
  have hz : (⟨l.toArray⟩ : ByteArray).size = l.length := size_text l
  have hd : (⟨l.toArray⟩ : ByteArray).data.toList = l := text_list l
  have hlen : ((T ++ [((⟨0, [], 0⟩ : Lx.Tk), l.length)]).map tkI).length ≤ 1000000 := by simp; omega
  have gd := good_of h4 hlen
  have rt := rt_of h4 hlen
  refine rParse_one ⟨l.toArray⟩ T ((T ++ [((⟨0, [], 0⟩ : Lx.Tk), l.length)]).map tkI) x k' w (by rw [hz]; exact h1) h2 (by rw [hd]; exact rsG_ok l 400 _ T h3) (by rw [hz]) h4 (fun j hj => (fitB_ok h5 j hj).1) (fun j hj => (fitB_ok h5 j hj).2) h7 h8 ?_
  intro p b o cap W hW
  exact rdP_ok (rexpr_any p b o cap _ rt 60 (rread_any p b o cap _ gd rt 60).2) (by omega) h6 W hW
end Go.Proofs.Ytobiedmmjiedlaa

namespace Go.Proofs.Ytobiedmmjiedlaa
open Go.RowKit

def kI1 : Sx.Ex := .mk 1 [] 1 []
def kTr : Sx.Ex := .mk 2 [] 1 []
def kVx : Sy.St := .mk 1 [120] [] 0 [] [] []
def kP1 : Sy.Pc := ⟨[109, 97, 105, 110], [], 0, [.mk 4 [] [] 0 [kTr] [kVx, .mk 2 [120] [] 0 [kI1] [] []] [], .mk 8 [] [] 0 [kI1] [] []]⟩
def kP2 : Sy.Pc := ⟨[109, 97, 105, 110], [], 0, [kVx, .mk 2 [120] [] 0 [kTr] [] []]⟩
def kL1 : List (Lx.Tk × Nat) := [(⟨3, [112, 114, 111, 99], 0⟩, 0), (⟨1, [109, 97, 105, 110], 0⟩, 5), (⟨4, [40], 0⟩, 10), (⟨4, [41], 0⟩, 12), (⟨4, [123], 0⟩, 14), (⟨3, [105, 102], 0⟩, 16), (⟨4, [40], 0⟩, 19), (⟨3, [116, 114, 117, 101], 0⟩, 21), (⟨4, [41], 0⟩, 26), (⟨4, [123], 0⟩, 28), (⟨3, [118, 97, 114], 0⟩, 30), (⟨1, [120], 0⟩, 34), (⟨4, [59], 0⟩, 36), (⟨1, [120], 0⟩, 38), (⟨4, [61], 0⟩, 40), (⟨2, [], 1⟩, 42), (⟨4, [59], 0⟩, 44), (⟨4, [125], 0⟩, 46), (⟨3, [112, 114, 105, 110, 116], 0⟩, 48), (⟨2, [], 1⟩, 54), (⟨4, [59], 0⟩, 56), (⟨4, [125], 0⟩, 58)]
def kL2 : List (Lx.Tk × Nat) := [(⟨3, [112, 114, 111, 99], 0⟩, 0), (⟨1, [109, 97, 105, 110], 0⟩, 5), (⟨4, [40], 0⟩, 10), (⟨4, [41], 0⟩, 12), (⟨4, [123], 0⟩, 14), (⟨3, [118, 97, 114], 0⟩, 16), (⟨1, [120], 0⟩, 20), (⟨4, [59], 0⟩, 22), (⟨1, [120], 0⟩, 24), (⟨4, [61], 0⟩, 26), (⟨3, [116, 114, 117, 101], 0⟩, 28), (⟨4, [59], 0⟩, 33), (⟨4, [125], 0⟩, 35)]
theorem kprog1 (w : World) : Calls Try.prog 12 #[.string ⟨#[112, 114, 111, 99, 32, 109, 97, 105, 110, 32, 40, 32, 41, 32, 123, 32, 105, 102, 32, 40, 32, 116, 114, 117, 101, 32, 41, 32, 123, 32, 118, 97, 114, 32, 120, 32, 59, 32, 120, 32, 61, 32, 49, 32, 59, 32, 125, 32, 112, 114, 105, 110, 116, 32, 49, 32, 59, 32, 125]⟩] w (PostG w [kP1]) :=
  rParse_by [112, 114, 111, 99, 32, 109, 97, 105, 110, 32, 40, 32, 41, 32, 123, 32, 105, 102, 32, 40, 32, 116, 114, 117, 101, 32, 41, 32, 123, 32, 118, 97, 114, 32, 120, 32, 59, 32, 120, 32, 61, 32, 49, 32, 59, 32, 125, 32, 112, 114, 105, 110, 116, 32, 49, 32, 59, 32, 125] kL1 kP1 22 w (by decide) (by decide) (by kernel_rfl) (by kernel_rfl) (by kernel_rfl) (by kernel_rfl) (by decide) (by kernel_rfl)
theorem kprog2 (w : World) : Calls Try.prog 12 #[.string ⟨#[112, 114, 111, 99, 32, 109, 97, 105, 110, 32, 40, 32, 41, 32, 123, 32, 118, 97, 114, 32, 120, 32, 59, 32, 120, 32, 61, 32, 116, 114, 117, 101, 32, 59, 32, 125]⟩] w (PostG w [kP2]) :=
  rParse_by [112, 114, 111, 99, 32, 109, 97, 105, 110, 32, 40, 32, 41, 32, 123, 32, 118, 97, 114, 32, 120, 32, 59, 32, 120, 32, 61, 32, 116, 114, 117, 101, 32, 59, 32, 125] kL2 kP2 13 w (by decide) (by decide) (by kernel_rfl) (by kernel_rfl) (by kernel_rfl) (by kernel_rfl) (by decide) (by kernel_rfl)
end Go.Proofs.Ytobiedmmjiedlaa
