/- Layer 4: the checker of a program (the program's prog). -/
/- Layer 4: Check of a program. -/
/- Layer 4: the fixed calls (known). -/
import Derived.Test.YtfpabjdhibmefaaZCkZl
import Derived.Test.YtfpabjdhibmefaaZFolK
namespace Go.Proofs.Ytfpabjdhibmefaa
open Go.RowKit

/-- What comes of procedures: what is wrong, and the procedure and the mark that were come to. -/
def ckPgs (ps : List Sy.Pc) : List Sy.Pc → Nat → Nat × Int → Option Int × Nat × Int
  | [], _, s => (none, s.1, s.2)
  | x :: r, j, _ => match ckPr ps x with
    | (some er, m) => (some er, j, m)
    | (none, m) => ckPgs ps r (j + 1) (j, m)
/-- What comes of a program. -/
def ckPg (ps : List Sy.Pc) : Option Int × Nat × Int := match ckWh ps with | some er => (some er, 0, 0) | none => ckPgs ps ps 0 (0, 0)
theorem ckPgs_at (ps : List Sy.Pc) {l : List Sy.Pc} {j : Nat} {x : Sy.Pc} (h : l[j]? = some x) (s : Nat × Int) : ckPgs ps (l.drop j) j s = match ckPr ps x with | (some er, m) => (some er, j, m) | (none, m) => ckPgs ps (l.drop (j + 1)) (j + 1) (j, m) := by
  obtain ⟨hj, e⟩ := List.getElem?_eq_some_iff.1 h
  rw [List.drop_eq_getElem_cons hj, e, ckPgs]
/-- A procedure is not too great. -/
def PcB (x : Sy.Pc) : Prop := x.params.length + Sy.cts x.body ≤ 1000000 ∧ ∀ s, s ∈ x.body → Sy.Bd s
def CgR (A : Nat → Prop) (w : World) (p : Nat) (qa : Option Addr) (qc : Nat) (ps : List Sy.Pc) (r : Option Int × Nat × Int) (e : Ending) (w' : World) : Prop :=
  e = ckEndU r.1 ∧ ∃ va vc vs iv im, Cks A w' p va vc vs r.2.2 qa qc ps r.2.1 iv im ∧ PS p w (.slice none 0 0) (.slice none 0 0) w' iv im ∧ (r.1 = none → ∃ vvs, Inf w' p iv im ps ps.length ps.length vvs)
/-- The first j procedures are checked. -/
def CgL (A : Nat → Prop) (w : World) (p : Nat) (qa : Option Addr) (qc : Nat) (ps : List Sy.Pc) (j : Nat) (wr : World) : Prop :=
  ∃ va vc vs m at_ iv im vvs, Cks A wr p va vc vs m qa qc ps at_ iv im ∧ Inf wr p iv im ps j j vvs ∧ PS p w (.slice none 0 0) (.slice none 0 0) wr iv im ∧ ckPgs ps (ps.drop j) j (at_, m) = ckPgs ps ps 0 (0, 0)
set_option maxRecDepth 100000 in
set_option maxHeartbeats 4000000 in
theorem ckProg_any (A : Nat → Prop) (p : Nat) (qa : Option Addr) (qc : Nat) (ps : List Sy.Pc) (w : World) (hC : Cks A w p none 0 [] 0 qa qc ps 0 (.slice none 0 0) (.slice none 0 0)) (hA : ∀ g, A g → g < p) (hb : ∀ x, x ∈ ps → PcB x) (r : Option Int × Nat × Int) (hr : r = ckPg ps) :
    Calls Try.prog 28 #[.pointer (some ⟨p, 0, none⟩)] w (CgR A w p qa qc ps r) := by
  have HC : Hid (Cks A w p none 0 [] 0 qa qc ps 0 (.slice none 0 0) (.slice none 0 0)) := hC
  have HA : Hid (∀ g, A g → g < p) := hA
  have HB : Hid (∀ x, x ∈ ps → PcB x) := hb
  have HR : Hid (r = ckPg ps) := hr
  have HL : Hid (ps.length ≤ 1000000) := hC.ln
  have EW : Hid _ := ckWhole_any A p none 0 [] 0 qa qc ps 0 w hC.ckr
  clear hC hA hb hr
  go_enter Try.func28, Try.ntmps28
  go_wp2_with fail
  refine Calls.mono EW.out ?_
  rintro e1 w1 ⟨rfl, b1⟩
  have C1 : Hid (Cks A w1 p none 0 [] 0 qa qc ps 0 (.slice none 0 0) (.slice none 0 0)) := HC.out.later b1
  have P1 : Hid (PS p w (.slice none 0 0) (.slice none 0 0) w1 (.slice none 0 0) (.slice none 0 0)) := PS.of_below _ _ b1
  clear b1 EW HC
  cases hw : ckWh ps with
  | some er =>
    have hr : r = (some er, 0, 0) := by rw [HR.out]; unfold ckPg; rw [hw]
    subst hr
    clear HR hw
    show _
    unfold ckEndU ckPan
    go_wp2_with fail
    exact ⟨rfl, rfl, none, 0, [], _, _, C1.out, P1.out, fun h => by cases h⟩
  | none =>
    have HR2 : Hid (r = ckPgs ps ps 0 (0, 0)) := by have := HR.out; unfold ckPg at this; rw [hw] at this; exact this
    have c2 := C1.out.cell.2.2.1
    clear HR hw
    show _
    unfold ckEndU
    go_wp2_with fail
    go_loopw [11] (fun i wr => ∃ (j : Nat), j ≤ ps.length ∧ i = .int .i64 j ∧ Hid (CgL A w p qa qc ps j wr)) (fun i _ => ps.length - (intOf i).toNat)
    case atStart => exact ⟨0, by omega, rfl, (⟨none, 0, [], 0, 0, _, _, [], C1.out, ⟨World.ownsRow_nil _ _ _ _, fun q x hq _ => absurd hq (Nat.not_lt_zero q), by simpa [mkV] using World.ownsRow_nil _ _ _ _, fun g e => by cases e⟩, P1.out, by simp⟩ : CgL A w p qa qc ps 0 w1)⟩
    case round =>
      obtain ⟨j, hj, rfl, D⟩ := hrel
      obtain ⟨va, vc, vs, m, at_, iv, im, vvs, C, I, P, N⟩ := D.out
      have hL := HL.out
      by_cases hlt : j < ps.length
      · obtain ⟨g, o, x, pa, pc, ba, bc, hqa, ha, hg, el, a4⟩ := C.pr.part j hlt
        subst hqa
        have PB := HB.out x (List.mem_of_getElem? el)
        have NA := ckPgs_at ps el (at_, m)
        have HPA : Hid (PaS A wr (.slice pa x.params.length pc) x.params ∧ SmS A wr (.slice ba x.body.length bc) x.body) := ⟨a4.hp, a4.hb⟩
        obtain ⟨y0, y1, y2, y3, -, -⟩ := a4
        have p3 := C.cell.2.2.2.1
        have fp3 := C.frozen 3
        have hpr := C.lt
        have hpz : ¬ p = wr.heap.size := by omega
        have hgp : ¬ g = p := by have := HA.out g ha; omega
        have hji : (j : Int) < (ps.length : Int) := by omega
        have hj0 : (0 : Int) ≤ (j : Int) := by omega
        obtain ⟨bx, hbx⟩ : ∃ bx, bx = wr.heap.size := ⟨_, rfl⟩
        obtain ⟨W4, hW4⟩ : ∃ W4, W4 = (wr.setCell ⟨p, 3, none⟩ (.int .i64 (j : Int))).alloc (pcB x pa pc ba bc) := ⟨_, rfl⟩
        have k0 : Keep (fun g => g = p) wr (wr.setCell ⟨p, 3, none⟩ (.int .i64 (j : Int))) := Keep.set (D := fun g => g = p) (Keep.refl (fun g => g = p) wr) (a := ⟨p, 3, none⟩) (.inr rfl) _
        have b4 := box_below (wr.setCell ⟨p, 3, none⟩ (.int .i64 (j : Int))) (pcB x pa pc ba bc)
        have k4 : Keep (fun g => g = p) wr W4 := by rw [hW4]; exact k0.trans (Keep.of_below b4 (Nat.le_refl _))
        have C4 : Hid (Cks A W4 p va vc vs m (some ⟨g, o, none⟩) qc ps j iv im) := by rw [hW4]; exact (C.keep HA.out k0 (heap_setCell_same _ _ _ _ _ _ C.hb)).later b4
        have I4 : Hid (Inf W4 p iv im ps j j vvs) := I.kp k4
        have P4 : Hid (PS p w (.slice none 0 0) (.slice none 0 0) W4 iv im) := P.trans (PS.of_keep iv im k4)
        have t0 : W4.cell? ⟨bx, 0, none⟩ = some (.string ⟨x.name.toArray⟩) := by rw [hW4, hbx]; simp [go_sem]
        have t1 : W4.cell? ⟨bx, 1, none⟩ = some (.slice pa x.params.length pc) := by rw [hW4, hbx]; simp [go_sem]
        have t2 : W4.cell? ⟨bx, 2, none⟩ = some (.int .i64 x.type) := by rw [hW4, hbx]; simp [go_sem]
        have t3 : W4.cell? ⟨bx, 3, none⟩ = some (.slice ba x.body.length bc) := by rw [hW4, hbx]; simp [go_sem]
        have EP : Hid (Calls Try.prog 39 #[.pointer (some ⟨p, 0, none⟩), .agg #[.string ⟨x.name.toArray⟩, .slice pa x.params.length pc, .int .i64 x.type, .slice ba x.body.length bc]] W4 (CpR A W4 p (some ⟨g, o, none⟩) qc ps j iv im (ckPr ps x))) := ckProc_any A p (some ⟨g, o, none⟩) qc ps j x pa pc ba bc vvs va vc vs m iv im W4 C4.out HA.out I4.out el (HPA.out.1.keep (fun _ _ a => a) (fun q ha hq => k4.cell hq (by have := HA.out _ ha; omega)) k4.size) (HPA.out.2.kpp HA.out k4) PB.1 PB.2 _ rfl
        have HN : Hid ((match ckPr ps x with | (some er, m) => (some er, j, m) | (none, m) => ckPgs ps (ps.drop (j + 1)) (j + 1) (j, m)) = ckPgs ps ps 0 (0, 0)) := by rw [← N, NA]; rfl
        clear PB NA N C I P D k0 b4 k4 el
        go_upto_region 5 with fail
        rw [← hW4, ← hbx]
        clear hW4 hbx y0 y1 y2 y3 p3 fp3
        go_wp2_with fail
        refine Calls.mono EP.out ?_
        rintro e5 w5 ⟨rfl, va5, vc5, vs5, iv5, im5, C5, P5, I5⟩
        match h5 : ckPr ps x with
        | (some er, m5) =>
          rw [h5] at C5
          have C6 : Hid (Cks A w5 p va5 vc5 vs5 m5 (some ⟨g, o, none⟩) qc ps j iv5 im5) := C5
          have P6 : Hid (PS p w (.slice none 0 0) (.slice none 0 0) w5 iv5 im5) := P4.out.trans P5
          have hr : r = (some er, j, m5) := by rw [HR2.out, ← HN.out, h5]
          subst hr
          clear HN h5 HR2 C5 P5 I5 EP
          show _
          unfold ckEndU ckPan
          go_wp2_with fail
          exact ⟨rfl, rfl, va5, vc5, vs5, iv5, im5, C6.out, P6.out, fun h => by cases h⟩
        | (none, m5) =>
          rw [h5] at C5 I5
          obtain ⟨vvs5, I5'⟩ := I5 rfl
          have G : Hid (CgL A w p (some ⟨g, o, none⟩) qc ps (j + 1) w5) := ⟨va5, vc5, vs5, m5, j, iv5, im5, vvs5, C5, I5', P4.out.trans P5, by rw [← HN.out, h5]⟩
          clear HN h5 C5 P5 I5 I5' EP
          show _
          unfold ckEndU
          go_wp2_with fail
          go_roundw
          case rel => exact ⟨j + 1, by omega, by go_num, G⟩
          case measure => simp [intOf]; omega
      · obtain rfl : j = ps.length := by omega
        have hr : r = (none, at_, m) := by rw [HR2.out, ← N, List.drop_length, ckPgs]
        subst hr
        have CC : Hid _ := C
        have PP : Hid _ := P
        have II : Hid _ := I
        clear C P I N D HR2
        go_wp2_with fail
        go_end0
        exact ⟨rfl, va, vc, vs, iv, im, CC.out, PP.out, fun _ => ⟨vvs, II.out⟩⟩
/-- attempt of a method that is bound. -/
def ckBad (er : Option Int) : Int := match er with | none => 0 | some e => e
set_option maxRecDepth 100000 in
set_option maxHeartbeats 1000000 in
theorem ckAttemptM_ok (F : FuncId) (v : Value) (w : World) (D : Nat → Prop) (hD : ∀ g, D g → g < w.heap.size) (C : World → Prop) (hF : ∀ w, (callFunc F #[v]).run Try.prog w = .ok (.enter F #[v]) w)
    (hc : Calls Try.prog F #[v] (ck1box w) fun e w' => e = .returned (.tuple #[]) ∧ Keep D (ck1box w) w' ∧ C w') :
    Calls Try.prog 27 #[.func (.func F) #[v] #[]] w fun e w' => e = .returned (.int .i64 0) ∧ ∃ w1, Keep D (ck1box w) w1 ∧ C w1 ∧ w' = w1.setCell ⟨w.heap.size, 0, none⟩ (.int .i64 0) := by
  have hmf : ∀ (fn : Fn) (first cap : Array Value) (w : World), (Instr.makeFunc fn first cap).run Try.prog w = .ok (.func fn first cap) w := fun _ _ _ _ => rfl
  go_enter_defers Try.func27, Try.ntmps27
  have HC : Hid _ := hc
  have HD : Hid (∀ g, D g → g < w.heap.size) := hD
  clear hc hD
  go_wp2_with fail
  refine Calls.mono HC.out ?_
  rintro e w1 ⟨rfl, k1, c1⟩
  have a0 : w1.cell? ⟨w.heap.size, 0, none⟩ = some (.int .i64 0) := (k1.cell (by simp [ck1box]) (fun e => absurd (HD.out _ e) (by simp))).trans (by simp [ck1box, go_sem])
  have f0 : w1.frozen? ⟨w.heap.size, 0, none⟩ = false := (k1.frozen (by simp [ck1box]) (fun e => absurd (HD.out _ e) (by simp))).trans (by simp [ck1box, go_sem])
  have K1 : Hid _ := k1
  have C1 : Hid _ := c1
  clear k1 c1
  go_wp2_with fail
  refine leaves_cons (f := 37) (args := #[.pointer (some ⟨w.heap.size, 0, none⟩)]) (by simp) (by simp [go_sem]) ?_
  refine CallsD.mono (ck_idle _ _) ?_
  rintro e u' w'' ⟨rfl, rfl, rfl⟩
  simp [Leaves, settle, results, Try.results27, go_sem, a0]
  exact ⟨w1, K1.out, C1.out, rfl⟩
set_option maxRecDepth 100000 in
set_option maxHeartbeats 1000000 in
theorem ckAttemptM_bad (er : Int) (F : FuncId) (v : Value) (w : World) (D : Nat → Prop) (hD : ∀ g, D g → g < w.heap.size) (C : World → Prop) (hF : ∀ w, (callFunc F #[v]).run Try.prog w = .ok (.enter F #[v]) w)
    (hc : Calls Try.prog F #[v] (ck1box w) fun e w' => e = ckPan er ∧ Keep D (ck1box w) w' ∧ C w') :
    Calls Try.prog 27 #[.func (.func F) #[v] #[]] w fun e w' => e = .returned (.int .i64 er) ∧ ∃ w1, Keep D (ck1box w) w1 ∧ C w1 ∧ Keep (fun g => g = w.heap.size) w1 w' := by
  have hmf : ∀ (fn : Fn) (first cap : Array Value) (w : World), (Instr.makeFunc fn first cap).run Try.prog w = .ok (.func fn first cap) w := fun _ _ _ _ => rfl
  go_enter_defers Try.func27, Try.ntmps27
  have HC : Hid _ := hc
  have HD : Hid (∀ g, D g → g < w.heap.size) := hD
  clear hc hD
  go_wp2_with fail
  refine Calls.mono HC.out ?_
  rintro e w1 ⟨rfl, k1, c1⟩
  have a0 : w1.cell? ⟨w.heap.size, 0, none⟩ = some (.int .i64 0) := (k1.cell (by simp [ck1box]) (fun e => absurd (HD.out _ e) (by simp))).trans (by simp [ck1box, go_sem])
  have f0 : w1.frozen? ⟨w.heap.size, 0, none⟩ = false := (k1.frozen (by simp [ck1box]) (fun e => absurd (HD.out _ e) (by simp))).trans (by simp [ck1box, go_sem])
  have K1 : Hid _ := k1
  have C1 : Hid _ := c1
  clear k1 c1
  unfold ckPan
  go_wp2_with fail
  refine leaves_cons (f := 37) (args := #[.pointer (some ⟨w.heap.size, 0, none⟩)]) (by simp) (by simp [go_sem]) ?_
  refine CallsD.mono (ck_thrown w.heap.size er _ w1 a0 f0) ?_
  rintro e u' w'' ⟨rfl, rfl, q0, kk⟩
  simp [Leaves, settle, results, Try.results27, go_sem, q0]
  exact ⟨w1, K1.out, C1.out, kk⟩
end Go.Proofs.Ytfpabjdhibmefaa

namespace Go.Proofs.Ytfpabjdhibmefaa
open Go.RowKit

theorem PcS.mono {A A' : Nat → Prop} {w : World} {v : Value} {l : List Sy.Pc} (h : PcS A w v l) (hA : ∀ g, g < w.heap.size → A g → A' g) : PcS A' w v l := h.keep hA (fun _ _ _ => rfl) (Nat.le_refl _)
theorem alloc_last (w : World) (o : Obj) : (w.alloc o).heap[w.heap.size]? = some o := by
  show (w.heap.push o)[w.heap.size]? = some o
  rw [Array.getElem?_push_size]
theorem ck1box_heap (W : World) : (ck1box W).heap[W.heap.size]? = some (.cells #[.int .i64 0] 45 (0, 0)) := alloc_last W _
/-- A cell that is set to what it holds: nothing is turned. -/
theorem set_same (w : World) (g : Nat) (v : Value) (t : TypeId) (h : w.heap[g]? = some (.cells #[v] t (0, 0))) : Below w.heap.size w (w.setCell ⟨g, 0, none⟩ v) :=
  ⟨rfl, rfl, rfl, by simp, fun k _ => by
    by_cases c : k = g
    · subst c
      rw [heap_setCell_same w k 0 #[v] t v h, h]
      simp
    · exact heap_setCell_other w _ k _ (by simpa using c)⟩
/-- What Check answers. -/
def CkA (w : World) (ps : List Sy.Pc) (r : Option Int × Nat × Int) (e : Ending) (w' : World) : Prop :=
  (∃ er, r.1 = some er ∧ e = .returned (.tuple #[.agg #[.slice none 0 0, .slice none 0 0], .agg #[.int .i64 (r.2.1 : Int), .int .i64 r.2.2], .int .i64 er]) ∧ Below w.heap.size w w') ∨
  (r.1 = none ∧ ∃ p iv im vvs, w.heap.size ≤ p ∧ e = .returned (.tuple #[.agg #[iv, im], .agg #[.int .i64 0, .int .i64 0], .int .i64 0]) ∧ Inf w' p iv im ps ps.length ps.length vvs ∧ Below w.heap.size w w')
/-- What was found out is kept where all behind the checker is. -/
theorem Inf.high {w w' : World} {p : Nat} {iv im : Value} {ps : List Sy.Pc} {jv jm : Nat} {vvs : List Value} (h : Inf w p iv im ps jv jm vvs) (hk : ∀ g, p < g → g < w.heap.size → w'.heap[g]? = w.heap[g]?) (hz : w.heap.size ≤ w'.heap.size) : Inf w' p iv im ps jv jm vvs := by
  have ro : ∀ {e : TypeId} {v : Value} {n : Nat} {xs : List Value}, w.ownsRow (p + 1) e 1 v n xs → w'.ownsRow (p + 1) e 1 v n xs := by
    intro e v n xs h
    have hl := World.ownsRow.lt h
    rcases h.2 with ⟨rfl, h0⟩ | ⟨g, cap, cur, rfl, hb, hh, hr⟩
    · exact ⟨h.1, .inl ⟨rfl, h0⟩⟩
    · refine ⟨h.1, .inr ⟨g, cap, cur, rfl, hb, ?_, hr⟩⟩
      rw [hk g (by omega) (hl g rfl).2]
      exact hh
  refine ⟨ro h.rv, fun q x hq hx => ?_, ro h.rm, h.ne⟩
  obtain ⟨va, vc, e, hv⟩ := h.vv q x hq hx
  refine ⟨va, vc, e, ⟨hv.1.1, fun h0 => ?_⟩, hv.2⟩
  obtain ⟨g, o, e, hg, hc⟩ := hv.1.2 h0
  have kk := hk g (hv.2 h0 g o e).1 hg
  exact ⟨g, o, e, Nat.lt_of_lt_of_le hg hz, fun j hj => ⟨(World.cell?_of_block (w := w) (a := ⟨g, _, none⟩) kk).trans (hc j hj).c0, (World.cell?_of_block (w := w) (a := ⟨g, _, none⟩) kk).trans (hc j hj).c1, (World.cell?_of_block (w := w) (a := ⟨g, _, none⟩) kk).trans (hc j hj).c2, (World.cell?_of_block (w := w) (a := ⟨g, _, none⟩) kk).trans (hc j hj).c3, (World.cell?_of_block (w := w) (a := ⟨g, _, none⟩) kk).trans (hc j hj).c4⟩⟩
structure CkB2 (W : World) (b1 b2 : Nat) : Prop where
  a0 : W.cell? ⟨b1, 0, none⟩ = some (.slice none 0 0)
  a1 : W.cell? ⟨b1, 1, none⟩ = some (.slice none 0 0)
  c0 : W.cell? ⟨b2, 0, none⟩ = some (.int .i64 0)
  c1 : W.cell? ⟨b2, 1, none⟩ = some (.int .i64 0)
  f0 : W.frozen? ⟨b1, 0, none⟩ = false
  f1 : W.frozen? ⟨b1, 1, none⟩ = false
  g0 : W.frozen? ⟨b2, 0, none⟩ = false
  g1 : W.frozen? ⟨b2, 1, none⟩ = false
theorem CkB2.kept {W W' : World} {b1 b2 : Nat} (h : CkB2 W b1 b2) (e1 : W'.heap[b1]? = W.heap[b1]?) (e2 : W'.heap[b2]? = W.heap[b2]?) : CkB2 W' b1 b2 :=
  ⟨(World.cell?_of_block (w := W) (a := ⟨b1, 0, none⟩) e1).trans h.a0, (World.cell?_of_block (w := W) (a := ⟨b1, 1, none⟩) e1).trans h.a1, (World.cell?_of_block (w := W) (a := ⟨b2, 0, none⟩) e2).trans h.c0, (World.cell?_of_block (w := W) (a := ⟨b2, 1, none⟩) e2).trans h.c1, (World.frozen?_of_block (w := W) (a := ⟨b1, 0, none⟩) e1).trans h.f0, (World.frozen?_of_block (w := W) (a := ⟨b1, 1, none⟩) e1).trans h.f1, (World.frozen?_of_block (w := W) (a := ⟨b2, 0, none⟩) e2).trans h.g0, (World.frozen?_of_block (w := W) (a := ⟨b2, 1, none⟩) e2).trans h.g1⟩
set_option maxRecDepth 100000 in
set_option maxHeartbeats 4000000 in
/-- Check of a program. -/
theorem ckCheck_any (A : Nat → Prop) (qa : Option Addr) (qc : Nat) (ps : List Sy.Pc) (w : World) (hp : PcS A w (.slice qa ps.length qc) ps) (hl : ps.length ≤ 1000000) (hb : ∀ x, x ∈ ps → PcB x) (r : Option Int × Nat × Int) (hr : r = ckPg ps) (h0 : ¬ r.1 = some 0) :
    Calls Try.prog 13 #[.agg #[.slice qa ps.length qc]] w (CkA w ps r) := by
  have HP : Hid (PcS (fun g => g < w.heap.size) w (.slice qa ps.length qc) ps) := hp.mono fun g hg _ => hg
  have HB : Hid (∀ x, x ∈ ps → PcB x) := hb
  have HR : Hid (r = ckPg ps) := hr
  have H0 : Hid (¬ r.1 = some 0) := h0
  have HL : Hid (ps.length ≤ 1000000) := hl
  have hmf : ∀ (fn : Fn) (first cap : Array Value) (w : World), (Instr.makeFunc fn first cap).run Try.prog w = .ok (.func fn first cap) w := fun _ _ _ _ => rfl
  clear hp hb hr h0 hl
  go_enter Try.func13, Try.ntmps13
  go_upto_region 2 with fail
  obtain ⟨W, hW⟩ : ∃ W, W = (((w.alloc (.cells #[.slice qa ps.length qc] 29)).alloc (.cells #[.slice none 0 0, .slice none 0 0] 42)).alloc (.cells #[.int .i64 0, .int .i64 0] 44)).alloc (.cells #[.slice none 0 0, .int .i64 0, .slice qa ps.length qc, .int .i64 0, .slice none 0 0, .slice none 0 0] 78) := ⟨_, rfl⟩
  rw [← hW]
  obtain ⟨b1, hb1⟩ : ∃ b1, b1 = w.heap.size + 1 := ⟨_, rfl⟩
  obtain ⟨b2, hb2⟩ : ∃ b2, b2 = w.heap.size + 1 + 1 := ⟨_, rfl⟩
  obtain ⟨p, hp⟩ : ∃ p, p = w.heap.size + 1 + 1 + 1 := ⟨_, rfl⟩
  have zW : W.heap.size = p + 1 := by rw [hW, hp]; simp
  have bW : Below w.heap.size w W := by rw [hW]; exact ((((Below.refl w.heap.size w).alloc (Nat.le_refl _) _).alloc (by simp) _).alloc (by simp; omega) _).alloc (by simp; omega) _
  have hWp : W.heap[p]? = some (.cells #[.slice none ([] : List CkVa).length 0, .int .i64 0, .slice qa ps.length qc, .int .i64 ((0 : Nat) : Int), .slice none 0 0, .slice none 0 0] 78 (0, 0)) := by
    rw [hW, hp]
    have := alloc_last (((w.alloc (.cells #[.slice qa ps.length qc] 29)).alloc (.cells #[.slice none 0 0, .slice none 0 0] 42)).alloc (.cells #[.int .i64 0, .int .i64 0] 44)) (.cells #[.slice none 0 0, .int .i64 0, .slice qa ps.length qc, .int .i64 0, .slice none 0 0, .slice none 0 0] 78)
    simpa using this
  have BB : CkB2 W b1 b2 := by
    rw [hW, hb1, hb2]
    constructor <;> simp [go_sem]
  have bC : Below W.heap.size W (ck1box W) := box_below W _
  have bCw : Below w.heap.size w (ck1box W) := bW.trans (bC.mono bW.size)
  have C0 : Cks (fun g => g < w.heap.size) (ck1box W) p none 0 [] 0 qa qc ps 0 (.slice none 0 0) (.slice none 0 0) :=
    ⟨(bC.block p (by omega)).trans hWp, ⟨by simp, fun h => by simp at h⟩, fun g o e => (by cases e), HP.out.later bCw (Nat.le_refl _), HL.out⟩
  have EP := ckProg_any (fun g => g < w.heap.size) p qa qc ps (ck1box W) C0 (fun g hg => by omega) HB.out r HR.out
  have PK : ∀ {iv im : Value} {w' : World}, PS p (ck1box W) (.slice none 0 0) (.slice none 0 0) w' iv im → Keep (fun g => g = p) (ck1box W) w' := fun h => ⟨h.os, h.tape, h.output, h.size, fun g hg hn => (h.far g hg hn (fun e => by cases e) (fun e => by cases e)).1⟩
  rw [← hp, ← hb2, ← hb1]
  have NE : Hid (¬ b1 = p ∧ ¬ b2 = p ∧ ¬ b1 = b2 ∧ ¬ b1 = W.heap.size ∧ ¬ b2 = W.heap.size ∧ ¬ p = W.heap.size ∧ w.heap.size ≤ b1 ∧ w.heap.size ≤ b2 ∧ w.heap.size ≤ p ∧ b1 < W.heap.size ∧ b2 < W.heap.size ∧ p < W.heap.size) := ⟨by omega, by omega, by omega, by omega, by omega, by omega, by omega, by omega, by omega, by omega, by omega, by omega⟩
  have HB1 : Hid (b1 < p ∧ b2 < p) := ⟨by omega, by omega⟩
  have n12 : ¬ b1 = b2 := NE.out.2.2.1
  have n21 : ¬ b2 = b1 := fun e => n12 e.symm
  have n1p : ¬ b1 = p := NE.out.1
  have n2p : ¬ b2 = p := NE.out.2.1
  have BH : Hid (CkB2 W b1 b2) := BB
  have BCW : Hid (Below w.heap.size w (ck1box W)) := bCw
  have BCx : Hid (Below W.heap.size W (ck1box W)) := bC
  clear hW hb1 hb2 hp zW bW hWp BB bC bCw C0
  match h1 : r with
  | (some er, at_, m) =>
    have her : ¬ er = 0 := fun e => H0.out (by rw [e])
    have E1 : Hid _ := ckAttemptM_bad er 28 (.pointer (some ⟨p, 0, none⟩)) W (fun g => g = p) (fun g e => by rw [e]; exact NE.out.2.2.2.2.2.2.2.2.2.2.2) (fun w' => ∃ va vc vs iv im, Cks (fun g => g < w.heap.size) w' p va vc vs m qa qc ps at_ iv im) (fun _ => rfl) (Calls.mono EP (by
      rintro e w' ⟨rfl, va, vc, vs, iv, im, c, s, -⟩
      exact ⟨rfl, PK s, va, vc, vs, iv, im, c⟩))
    clear EP HR H0 h1
    go_wp2_with fail
    refine Calls.mono E1.out ?_
    rintro e2 w2 ⟨rfl, w1, k1, ⟨va, vc, vs, iv, im, c1⟩, k2⟩
    have eb1 : w2.heap[b1]? = W.heap[b1]? := (k2.block b1 (Nat.lt_of_lt_of_le (Nat.lt_of_lt_of_le NE.out.2.2.2.2.2.2.2.2.2.1 BCx.out.size) k1.size) NE.out.2.2.2.1).trans ((k1.block b1 (Nat.lt_of_lt_of_le NE.out.2.2.2.2.2.2.2.2.2.1 BCx.out.size) NE.out.1).trans (BCx.out.block b1 NE.out.2.2.2.2.2.2.2.2.2.1))
    have eb2 : w2.heap[b2]? = W.heap[b2]? := (k2.block b2 (Nat.lt_of_lt_of_le (Nat.lt_of_lt_of_le NE.out.2.2.2.2.2.2.2.2.2.2.1 BCx.out.size) k1.size) NE.out.2.2.2.2.1).trans ((k1.block b2 (Nat.lt_of_lt_of_le NE.out.2.2.2.2.2.2.2.2.2.2.1 BCx.out.size) NE.out.2.1).trans (BCx.out.block b2 NE.out.2.2.2.2.2.2.2.2.2.2.1))
    have B2 := BH.out.kept eb1 eb2
    have p1 := (k2.cell (q := ⟨p, 1, none⟩) c1.lt NE.out.2.2.2.2.2.1).trans c1.cell.2.1
    have p3 := (k2.cell (q := ⟨p, 3, none⟩) c1.lt NE.out.2.2.2.2.2.1).trans c1.cell.2.2.2.1
    have BF : Hid (Below w.heap.size w w2) := BCW.out.trans ⟨k2.os.trans k1.os, k2.tape.trans k1.tape, k2.output.trans k1.output, Nat.le_trans k1.size k2.size, fun g hg => (k2.block g (Nat.lt_of_lt_of_le (Nat.lt_of_lt_of_le hg BCW.out.size) k1.size) (fun e => by have := NE.out; omega)).trans (k1.block g (Nat.lt_of_lt_of_le hg BCW.out.size) (fun e => by have := NE.out; omega))⟩
    obtain ⟨a0, a1, d0, d1, f0, f1, g0, g1⟩ := B2
    have hne : (er != 0) = true := bne_iff_ne.2 her
    have hne2 : (er == 0) = false := beq_eq_false_iff_ne.2 her
    clear k1 k2 c1 eb1 eb2 E1 her
    go_wp2_with fail
    go_region
    go_wp2_with fail
    refine bodyPost_ret (v := .tuple #[.agg #[.slice none 0 0, .slice none 0 0], .agg #[.int .i64 (at_ : Int), .int .i64 m], .int .i64 er]) (by simp [results, Try.results13, go_sem, a0, a1, d0, d1]) rfl ?_
    exact .inl ⟨er, rfl, rfl, ((((BF.out.setCell (p := ⟨b1, 0, none⟩) NE.out.2.2.2.2.2.2.1 _).setCell (p := ⟨b1, 1, none⟩) NE.out.2.2.2.2.2.2.1 _).setCell (p := ⟨b2, 0, none⟩) NE.out.2.2.2.2.2.2.2.1 _).setCell (p := ⟨b2, 1, none⟩) NE.out.2.2.2.2.2.2.2.1 _).drew⟩
  | (none, at_, m) =>
    have E1 : Hid _ := ckAttemptM_ok 28 (.pointer (some ⟨p, 0, none⟩)) W (fun g => g = p) (fun g e => by rw [e]; exact NE.out.2.2.2.2.2.2.2.2.2.2.2) (fun w' => ∃ va vc vs iv im vvs, Cks (fun g => g < w.heap.size) w' p va vc vs m qa qc ps at_ iv im ∧ Inf w' p iv im ps ps.length ps.length vvs) (fun _ => rfl) (Calls.mono EP (by
      rintro e w' ⟨rfl, va, vc, vs, iv, im, c, s, i⟩
      obtain ⟨vvs, i⟩ := i rfl
      exact ⟨rfl, PK s, va, vc, vs, iv, im, vvs, c, i⟩))
    clear EP HR H0 h1
    go_wp2_with fail
    refine Calls.mono E1.out ?_
    rintro e2 w2 ⟨rfl, w1, k1, ⟨va, vc, vs, iv, im, vvs, c1, i1⟩, hw2⟩
    have b12 : Below w1.heap.size w1 w2 := by
      rw [hw2]
      exact set_same w1 W.heap.size _ 45 ((k1.block W.heap.size (by simp [ck1box]) (fun e => NE.out.2.2.2.2.2.1 e.symm)).trans (ck1box_heap W))
    have eb1 : w2.heap[b1]? = W.heap[b1]? := (b12.block b1 (Nat.lt_of_lt_of_le (Nat.lt_of_lt_of_le NE.out.2.2.2.2.2.2.2.2.2.1 BCx.out.size) k1.size)).trans ((k1.block b1 (Nat.lt_of_lt_of_le NE.out.2.2.2.2.2.2.2.2.2.1 BCx.out.size) NE.out.1).trans (BCx.out.block b1 NE.out.2.2.2.2.2.2.2.2.2.1))
    have eb2 : w2.heap[b2]? = W.heap[b2]? := (b12.block b2 (Nat.lt_of_lt_of_le (Nat.lt_of_lt_of_le NE.out.2.2.2.2.2.2.2.2.2.2.1 BCx.out.size) k1.size)).trans ((k1.block b2 (Nat.lt_of_lt_of_le NE.out.2.2.2.2.2.2.2.2.2.2.1 BCx.out.size) NE.out.2.1).trans (BCx.out.block b2 NE.out.2.2.2.2.2.2.2.2.2.2.1))
    have B2 := BH.out.kept eb1 eb2
    have c2 := c1.later b12
    have i2 : Inf w2 p iv im ps ps.length ps.length vvs := i1.high (fun g _ hg => b12.block g hg) b12.size
    have p4 := c2.cell.2.2.2.2.1
    have p5 := c2.cell.2.2.2.2.2
    obtain ⟨va1, vc1, hiv⟩ := own_shape i2.rv
    obtain ⟨va2, vc2, him⟩ := own_shape i2.rm
    subst hiv him
    have I2 : Hid _ := i2
    have BF : Hid (Below w.heap.size w w2) := BCW.out.trans ⟨b12.os.trans k1.os, b12.tape.trans k1.tape, b12.output.trans k1.output, Nat.le_trans k1.size b12.size, fun g hg => (b12.block g (Nat.lt_of_lt_of_le (Nat.lt_of_lt_of_le hg BCW.out.size) k1.size)).trans (k1.block g (Nat.lt_of_lt_of_le hg BCW.out.size) (fun e => by have := NE.out; omega))⟩
    obtain ⟨a0, a1, d0, d1, f0, f1, g0, g1⟩ := B2
    have LT : Hid (b1 < p ∧ b2 < p) := HB1
    clear k1 c1 i1 hw2 b12 eb1 eb2 c2 i2 E1
    go_wp2_with fail
    refine bodyPost_ret (v := .tuple #[.agg #[.slice va1 ps.length vc1, .slice va2 ps.length vc2], .agg #[.int .i64 0, .int .i64 0], .int .i64 0]) (by simp [results, Try.results13, go_sem, a0, a1, d0, d1]) rfl ?_
    have bs := (((BF.out.setCell (p := ⟨b1, 0, none⟩) NE.out.2.2.2.2.2.2.1 (.slice va1 ps.length vc1)).setCell (p := ⟨b1, 1, none⟩) NE.out.2.2.2.2.2.2.1 (.slice va2 ps.length vc2)).setCell (p := ⟨b2, 0, none⟩) NE.out.2.2.2.2.2.2.2.1 (.int .i64 0)).setCell (p := ⟨b2, 1, none⟩) NE.out.2.2.2.2.2.2.2.1 (.int .i64 0)
    refine .inr ⟨rfl, p, _, _, vvs, NE.out.2.2.2.2.2.2.2.2.1, rfl, I2.out.high (fun g hg _ => ?_) (by simp), bs⟩
    have l1 := LT.out.1
    have l2 := LT.out.2
    rw [heap_setCell_other _ _ g _ (by simp only; omega), heap_setCell_other _ _ g _ (by simp only; omega), heap_setCell_other _ _ g _ (by simp only; omega), heap_setCell_other _ _ g _ (by simp only; omega)]
end Go.Proofs.Ytfpabjdhibmefaa

namespace Go.Proofs.Ytfpabjdhibmefaa
open Go.RowKit

theorem kPg1 : ckPg [kP1] = (none, 0, 5) := by kernel_rfl
theorem kPg2 : ckPg [kP2] = (some 41, 0, 2) := by kernel_rfl
theorem kVs1 : ckVs kP1 = [⟨[120], 1, 0, 3, 3⟩] := by kernel_rfl
theorem kEqV (w : World) : (binOp .eql 55 (.agg #[.string ⟨#[120]⟩, .int .i64 1, .int .i64 0, .int .i64 3, .int .i64 3]) (.agg #[.string ⟨#[120]⟩, .int .i64 1, .int .i64 0, .int .i64 3, .int .i64 3])).run Try.prog w = .ok (.bool true) w := by kernel_rfl
theorem kEqP (w : World) : (binOp .eql 44 (.agg #[.int .i64 0, .int .i64 2]) (.agg #[.int .i64 0, .int .i64 2])).run Try.prog w = .ok (.bool true) w := by kernel_rfl
theorem kTyp : ckTy [] 0 (.mk 6 [60] 0 [.mk 1 [] 0 [], .mk 1 [] 1 []]) = .ok 2 := by kernel_rfl
theorem kBndI : Fo.Bnd kI1 := .mk _ _ _ _ (by decide) (fun x hx => by cases hx)
theorem kBndT : Fo.Bnd kTr := .mk _ _ _ _ (by decide) (fun x hx => by cases hx)
theorem kBdVx : Sy.Bd kVx := .mk _ _ _ _ _ _ _ (by decide) (by decide) (by decide) (fun x hx => by cases hx) (by decide) (by decide) (fun x hx => by cases hx) (fun x hx => by cases hx)
theorem kBdE (k : Int) (n : List UInt8) (hn : n.length ≤ 20000) (x : Sx.Ex) (hx : Fo.Bnd x) : Sy.Bd (.mk k n [] 0 [x] [] []) := .mk _ _ _ _ _ _ _ hn (by decide) (by simp) (fun y hy => by rw [List.mem_singleton.1 hy]; exact hx) (by decide) (by decide) (fun x hx => by cases hx) (fun x hx => by cases hx)
theorem kPcB1 : ∀ x, x ∈ [kP1] → PcB x := by
  intro x hx
  rw [List.mem_singleton.1 hx]
  refine ⟨by decide, fun s hs => ?_⟩
  rcases List.mem_cons.1 hs with rfl | hs
  · refine .mk _ _ _ _ _ _ _ (by decide) (by decide) (by decide) (fun y hy => by rw [List.mem_singleton.1 hy]; exact kBndT) (by decide) (by decide) (fun y hy => ?_) (fun x hx => by cases hx)
    rcases List.mem_cons.1 hy with rfl | hy
    · exact kBdVx
    · rw [List.mem_singleton.1 hy]
      exact kBdE 2 [120] (by decide) _ kBndI
  · rw [List.mem_singleton.1 hs]
    exact kBdE 8 [] (by decide) _ kBndI
theorem kPcB2 : ∀ x, x ∈ [kP2] → PcB x := by
  intro x hx
  rw [List.mem_singleton.1 hx]
  refine ⟨by decide, fun s hs => ?_⟩
  rcases List.mem_cons.1 hs with rfl | hs
  · exact kBdVx
  · rw [List.mem_singleton.1 hs]
    exact kBdE 2 [120] (by decide) _ kBndT
/-- What known reads of the first check. -/
structure KI (w : World) (bi : Nat) : Prop where
  f : ∃ gi ci gm cm gv cv vc, w.cell? ⟨bi, 0, none⟩ = some (.slice (some ⟨gi, 0, none⟩) 1 ci) ∧ w.cell? ⟨bi, 1, none⟩ = some (.slice (some ⟨gm, 0, none⟩) 1 cm) ∧ w.cell? ⟨gm, 0, none⟩ = some (.int .i64 4) ∧ w.cell? ⟨gi, 0, none⟩ = some (.slice (some ⟨gv, cv, none⟩) 1 vc) ∧ VaAt w gv cv ⟨[120], 1, 0, 3, 3⟩ ∧ bi < w.heap.size ∧ gi < w.heap.size ∧ gm < w.heap.size ∧ gv < w.heap.size
theorem KI.later {w w' : World} {bi : Nat} (h : KI w bi) (b : Below w.heap.size w w') : KI w' bi := by
  obtain ⟨gi, ci, gm, cm, gv, cv, vc, h1, h2, h3, h4, h5, l1, l2, l3, l4⟩ := h.f
  exact ⟨gi, ci, gm, cm, gv, cv, vc, (b.cell l1).trans h1, (b.cell l1).trans h2, (b.cell l3).trans h3, (b.cell l2).trans h4, ⟨(b.cell l4).trans h5.c0, (b.cell l4).trans h5.c1, (b.cell l4).trans h5.c2, (b.cell l4).trans h5.c3, (b.cell l4).trans h5.c4⟩, Nat.lt_of_lt_of_le l1 b.size, Nat.lt_of_lt_of_le l2 b.size, Nat.lt_of_lt_of_le l3 b.size, Nat.lt_of_lt_of_le l4 b.size⟩
/-- What Inf tells of the first program. -/
theorem KI.of {w : World} {p : Nat} {iv im : Value} {vvs : List Value} (h : Inf w p iv im [kP1] 1 1 vvs) (t : TypeId) : ∃ ci cm gi gm, iv = .slice (some ⟨gi, 0, none⟩) 1 ci ∧ im = .slice (some ⟨gm, 0, none⟩) 1 cm ∧ KI (w.alloc (.cells #[iv, im] t)) w.heap.size := by
  have bx := box_below w (.cells #[iv, im] t)
  have hc1 := @World.ownsRow.cells _ _ _ _ _ _ _ h.rv
  have hl1 := World.ownsRow.lt h.rv
  have hc2 := @World.ownsRow.cells _ _ _ _ _ _ _ h.rm
  have hl2 := World.ownsRow.lt h.rm
  rcases h.rv.2 with ⟨_, e⟩ | ⟨gi, ci, cur, rfl, _, _, _⟩
  · omega
  rcases h.rm.2 with ⟨_, e⟩ | ⟨gm, cm, cur2, rfl, _, _, _⟩
  · omega
  obtain ⟨va, vc, e, hv⟩ := h.vv 0 kP1 (by decide) rfl
  rw [kVs1] at e hv
  obtain ⟨gv, cv, rfl, hgv, hat⟩ := hv.1.2 (by decide)
  have a0 := hat 0 (by decide)
  have k1 := @hc1 gi rfl 0 _ e
  have k2 := @hc2 gm rfl 0 (.int .i64 4) rfl
  simp only [Addr.add, Nat.zero_mul, Nat.add_zero, List.getD] at k1 k2 a0
  refine ⟨ci, cm, gi, gm, rfl, rfl, ⟨gi, ci, gm, cm, gv, cv, vc, by simp [go_sem], by simp [go_sem], (bx.cell (hl2 gm rfl).2).trans k2, (bx.cell (hl1 gi rfl).2).trans k1, ⟨(bx.cell hgv).trans a0.c0, (bx.cell hgv).trans a0.c1, (bx.cell hgv).trans a0.c2, (bx.cell hgv).trans a0.c3, (bx.cell hgv).trans a0.c4⟩, by simp, ?_, ?_, ?_⟩⟩
  · have := (hl1 gi rfl).2; simp; omega
  · have := (hl2 gm rfl).2; simp; omega
  · simp; omega
set_option maxRecDepth 100000 in
set_option maxHeartbeats 4000000 in
/-- The fixed calls of layer 4. -/
theorem known4 (w : World) : Calls Try.prog 7 #[] w fun e w' => e = .returned (.bool true) ∧ Below w.heap.size w w' := by
  go_enter Try.func7, Try.ntmps7
  go_wp2_with fail
  refine Calls.mono (kprog1 _) ?_
  rintro e1 w1 ⟨sa1, sc1, rfl, hp1, b1⟩
  have B1 : Hid (Below w.heap.size w w1) := b1
  have EC1 : Hid _ := ckCheck_any _ sa1 sc1 [kP1] (w1.alloc (.cells #[.slice sa1 [kP1].length sc1] 29)) (hp1.later (box_below w1 _) (Nat.le_refl _)) (by decide) kPcB1 (none, 0, 5) kPg1.symm (by simp)
  clear b1 hp1
  go_wp2_with fail
  refine Calls.mono EC1.out ?_
  rintro e2 w2 (⟨er, h, _⟩ | ⟨-, p, iv, im, vvs, hp, rfl, I2, b2⟩)
  · cases h
  obtain ⟨ci, cm, gi, gm, rfl, rfl, K2'⟩ := KI.of I2 42
  have B2 : Hid (Below w.heap.size w w2) := B1.out.trans ((((box_below w1 _).trans (b2.mono (by simp)))).mono B1.out.size)
  have K2 : Hid (KI (w2.alloc (.cells #[.slice (some ⟨gi, 0, none⟩) 1 ci, .slice (some ⟨gm, 0, none⟩) 1 cm] 42)) w2.heap.size) := K2'
  clear b2 I2 K2' EC1
  go_wp2_with fail
  refine Calls.mono (kprog2 _) ?_
  rintro e3 w3 ⟨sa3, sc3, rfl, hp3, b3⟩
  have K3 : Hid (KI w3 w2.heap.size) := (K2.out.later (box_below _ _)).later b3
  have B3 : Hid (Below w.heap.size w w3) := B2.out.trans ((((box_below w2 _).trans ((box_below _ _).mono (by simp))).trans (b3.mono (by simp; omega))).mono B2.out.size)
  have z3 : w2.heap.size < w3.heap.size := Nat.lt_of_lt_of_le (by simp; omega) b3.size
  have EC3 : Hid _ := ckCheck_any _ sa3 sc3 [kP2] (w3.alloc (.cells #[.slice sa3 [kP2].length sc3] 29)) (hp3.later (box_below w3 _) (Nat.le_refl _)) (by decide) kPcB2 (some 41, 0, 2) kPg2.symm (by simp)
  clear b3 hp3 K2
  go_wp2_with fail
  refine Calls.mono EC3.out ?_
  rintro e4 w4 (⟨er, h, rfl, b4⟩ | ⟨h, _⟩)
  case inr => cases h
  cases h
  have K4 : Hid (KI w4 w2.heap.size) := (K3.out.later (box_below w3 _)).later b4
  have B4 : Hid (Below w.heap.size w w4) := B3.out.trans (((box_below w3 _).trans (b4.mono (by simp))).mono B3.out.size)
  clear b4 K3 EC3
  obtain ⟨W5, hW5⟩ : ∃ W5, W5 = (w4.alloc (.cells #[.slice none 0 0, .slice none 0 0] 42)).alloc (.cells #[.int .i64 0, .int .i64 2] 44) := ⟨_, rfl⟩
  have b5 : Below w4.heap.size w4 W5 := by rw [hW5]; exact (box_below w4 _).trans ((box_below _ _).mono (by simp))
  have B5 : Hid (Below w.heap.size w W5) := B4.out.trans (b5.mono B4.out.size)
  have K5 : Hid (KI W5 w2.heap.size) := K4.out.later b5
  obtain ⟨bp, hbp⟩ : ∃ bp, bp = w4.heap.size + 1 := ⟨_, rfl⟩
  have c0 : W5.cell? ⟨bp, 0, none⟩ = some (.int .i64 0) := by rw [hW5, hbp]; simp [go_sem]
  have c1 : W5.cell? ⟨bp, 1, none⟩ = some (.int .i64 2) := by rw [hW5, hbp]; simp [go_sem]
  have z5 : bp < W5.heap.size := by rw [hW5, hbp]; simp
  go_upto_region 5 with fail
  rw [← hW5, ← hbp]
  clear hW5 hbp b5 K4
  obtain ⟨W6, hW6⟩ : ∃ W6, W6 = W5.alloc (.cells #[.int .i64 1, .string ⟨#[]⟩, .int .i64 0, .slice none 0 0, .int .i64 1, .string ⟨#[]⟩, .int .i64 1, .slice none 0 0] 64) := ⟨_, rfl⟩
  have b6 : Below W5.heap.size W5 W6 := by rw [hW6]; exact box_below _ _
  have xs : ExS (fun _ => True) W6 (.slice (some ⟨W5.heap.size, 0, none⟩) 2 2) [.mk 1 [] 0 [], .mk 1 [] 1 []] := by
    refine .some _ 0 2 2 _ rfl (by decide) (by decide) trivial (by rw [hW6]; simp) ?_
    refine .cons _ 0 1 [] 0 (.slice none 0 0) [] _ ?_ ?_ ?_ ?_ (.nil _ _) (.cons _ _ 1 [] 1 (.slice none 0 0) [] [] ?_ ?_ ?_ ?_ (.nil _ _) (.nil _ _))
    all_goals (rw [hW6]; simp [go_sem])
  have ET : Hid (Calls Try.prog 20 #[.agg #[.int .i64 6, .string ⟨#[60]⟩, .int .i64 0, .slice (some ⟨W5.heap.size, 0, none⟩) 2 2], .slice none 0 0, .int .i64 0] W6 fun e w' => e = .returned (.tuple #[.int .i64 2, .int .i64 0]) ∧ Below W6.heap.size W6 w') := ckTypeOf_ok (fun _ => True) none 0 [] 0 6 [60] 0 [.mk 1 [] 0 [], .mk 1 [] 1 []] (some ⟨W5.heap.size, 0, none⟩) 2 W6 ⟨by simp, fun h => by simp at h⟩ xs 2 kTyp
  clear xs
  go_wp2_with fail
  rw [← hW6]
  refine Calls.mono ET.out ?_
  rintro e7 w7 ⟨rfl, b7⟩
  have b57 : Below W5.heap.size W5 w7 := b6.trans (b7.mono b6.size)
  have K7 := K5.out.later b57
  have d0 := (b57.cell (p := ⟨bp, 0, none⟩) z5).trans c0
  have d1 := (b57.cell (p := ⟨bp, 1, none⟩) z5).trans c1
  have B7 : Hid (Below w.heap.size w w7) := B5.out.trans (b57.mono B5.out.size)
  obtain ⟨gi', ci', gm', cm', gv, cv, vc, h1, h2, h3, h4, ⟨v0, v1, v2, v3, v4⟩, l1, l2, l3, l4⟩ := K7.f
  have kv := kEqV
  have kp := kEqP
  dsimp only at v0 v1 v2 v3 v4
  clear hW6 b6 b7 b57 K7 K5 ET c0 c1 hp
  go_wp2_with fail
  go_ret
  exact ⟨rfl, B7.out⟩
end Go.Proofs.Ytfpabjdhibmefaa
