/- Layer 4: the checker of a program (the program's prog). -/
/- Layer 4, plain: in a right program's procedure each variable is found by its name wherever it is in scope, and parameters are in scope everywhere. -/
/- Layer 4: Check of a program. -/
/- Layer 4: the document's Same of what was found out twice; info. -/
/- Layer 4: an argument that is a program: what its reading gives. -/
import Derived.Test.YtobiedmmjiedlaaZCkZl
import Derived.Deep.LoopGhost
import Derived.BigQuiet
import Derived.Test.YtobiedmmjiedlaaZFolT
namespace Go.Proofs.Ytobiedmmjiedlaa
open Go.RowKit

/-- What comes of procedures: what is wrong, and the procedure and the mark that were come to. -/
def ckPgs (ps : List Sy.Pc) : List Sy.Pc → Nat → Nat × Int → Option Int × Nat × Int
  | [], _, s => (none, s.1, s.2)
  | x :: r, j, _ => match ckPr ps x with
    | (some er, m) => (some er, j, m)
    | (none, m) => ckPgs ps r (j + 1) (j, m)
/-- What comes of a program. -/
def ckPg (ps : List Sy.Pc) : Option Int × Nat × Int := match ckWh ps with | some er => (some er, 0, 0) | none => ckPgs ps ps 0 (0, 0)
theorem ckPgs_at (ps : List Sy.Pc) {l : List Sy.Pc} {j : Nat} {x : Sy.Pc} (h : l[j]? = some x) (s : Nat × Int) : ckPgs ps (l.drop j) j s = match ckPr ps x with | (some er, m) => (some er, j, m) | (none, m) => ckPgs ps (l.drop (j + 1)) (j + 1) (j, m) := by
  obtain ⟨hj, e⟩ := List.getElem?_eq_some_iff.1 h
  rw [List.drop_eq_getElem_cons hj, e, ckPgs]
/-- A procedure is not too great. -/
def PcB (x : Sy.Pc) : Prop := x.params.length + Sy.cts x.body ≤ 1000000 ∧ ∀ s, s ∈ x.body → Sy.Bd s
def CgR (A : Nat → Prop) (w : World) (p : Nat) (qa : Option Addr) (qc : Nat) (ps : List Sy.Pc) (r : Option Int × Nat × Int) (e : Ending) (w' : World) : Prop :=
  e = ckEndU r.1 ∧ ∃ va vc vs iv im, Cks A w' p va vc vs r.2.2 qa qc ps r.2.1 iv im ∧ PS p w (.slice none 0 0) (.slice none 0 0) w' iv im ∧ (r.1 = none → ∃ vvs, Inf w' p iv im ps ps.length ps.length vvs)
/-- The first j procedures are checked. -/
def CgL (A : Nat → Prop) (w : World) (p : Nat) (qa : Option Addr) (qc : Nat) (ps : List Sy.Pc) (j : Nat) (wr : World) : Prop :=
  ∃ va vc vs m at_ iv im vvs, Cks A wr p va vc vs m qa qc ps at_ iv im ∧ Inf wr p iv im ps j j vvs ∧ PS p w (.slice none 0 0) (.slice none 0 0) wr iv im ∧ ckPgs ps (ps.drop j) j (at_, m) = ckPgs ps ps 0 (0, 0)
set_option maxRecDepth 100000 in
set_option maxHeartbeats 4000000 in
theorem ckProg_any (A : Nat → Prop) (p : Nat) (qa : Option Addr) (qc : Nat) (ps : List Sy.Pc) (w : World) (hC : Cks A w p none 0 [] 0 qa qc ps 0 (.slice none 0 0) (.slice none 0 0)) (hA : ∀ g, A g → g < p) (hb : ∀ x, x ∈ ps → PcB x) (r : Option Int × Nat × Int) (hr : r = ckPg ps) :
    Calls Try.prog 25 #[.pointer (some ⟨p, 0, none⟩)] w (CgR A w p qa qc ps r) := by
  have HC : Hid (Cks A w p none 0 [] 0 qa qc ps 0 (.slice none 0 0) (.slice none 0 0)) := hC
  have HA : Hid (∀ g, A g → g < p) := hA
  have HB : Hid (∀ x, x ∈ ps → PcB x) := hb
  have HR : Hid (r = ckPg ps) := hr
  have HL : Hid (ps.length ≤ 1000000) := hC.ln
  have EW : Hid _ := ckWhole_any A p none 0 [] 0 qa qc ps 0 w hC.ckr
  clear hC hA hb hr
  go_enter Try.func25, Try.ntmps25
  go_wp2_with fail
  refine Calls.mono EW.out ?_
  rintro e1 w1 ⟨rfl, b1⟩
  have C1 : Hid (Cks A w1 p none 0 [] 0 qa qc ps 0 (.slice none 0 0) (.slice none 0 0)) := HC.out.later b1
  have P1 : Hid (PS p w (.slice none 0 0) (.slice none 0 0) w1 (.slice none 0 0) (.slice none 0 0)) := PS.of_below _ _ b1
  clear b1 EW HC
  cases hw : ckWh ps with
  | some er =>
    have hr : r = (some er, 0, 0) := by rw [HR.out]; unfold ckPg; rw [hw]
    subst hr
    clear HR hw
    show _
    unfold ckEndU ckPan
    go_wp2_with fail
    exact ⟨rfl, rfl, none, 0, [], _, _, C1.out, P1.out, fun h => by cases h⟩
  | none =>
    have HR2 : Hid (r = ckPgs ps ps 0 (0, 0)) := by have := HR.out; unfold ckPg at this; rw [hw] at this; exact this
    have c2 := C1.out.cell.2.2.1
    clear HR hw
    show _
    unfold ckEndU
    go_wp2_with fail
    go_loopw [11] (fun i wr => ∃ (j : Nat), j ≤ ps.length ∧ i = .int .i64 j ∧ Hid (CgL A w p qa qc ps j wr)) (fun i _ => ps.length - (intOf i).toNat)
    case atStart => exact ⟨0, by omega, rfl, (⟨none, 0, [], 0, 0, _, _, [], C1.out, ⟨World.ownsRow_nil _ _ _ _, fun q x hq _ => absurd hq (Nat.not_lt_zero q), by simpa [mkV] using World.ownsRow_nil _ _ _ _, fun g e => by cases e⟩, P1.out, by simp⟩ : CgL A w p qa qc ps 0 w1)⟩
    case round =>
      obtain ⟨j, hj, rfl, D⟩ := hrel
      obtain ⟨va, vc, vs, m, at_, iv, im, vvs, C, I, P, N⟩ := D.out
      have hL := HL.out
      by_cases hlt : j < ps.length
      · obtain ⟨g, o, x, pa, pc, ba, bc, hqa, ha, hg, el, a4⟩ := C.pr.part j hlt
        subst hqa
        have PB := HB.out x (List.mem_of_getElem? el)
        have NA := ckPgs_at ps el (at_, m)
        have HPA : Hid (PaS A wr (.slice pa x.params.length pc) x.params ∧ SmS A wr (.slice ba x.body.length bc) x.body) := ⟨a4.hp, a4.hb⟩
        obtain ⟨y0, y1, y2, y3, -, -⟩ := a4
        have p3 := C.cell.2.2.2.1
        have fp3 := C.frozen 3
        have hpr := C.lt
        have hpz : ¬ p = wr.heap.size := by omega
        have hgp : ¬ g = p := by have := HA.out g ha; omega
        have hji : (j : Int) < (ps.length : Int) := by omega
        have hj0 : (0 : Int) ≤ (j : Int) := by omega
        obtain ⟨bx, hbx⟩ : ∃ bx, bx = wr.heap.size := ⟨_, rfl⟩
        obtain ⟨W4, hW4⟩ : ∃ W4, W4 = (wr.setCell ⟨p, 3, none⟩ (.int .i64 (j : Int))).alloc (pcB x pa pc ba bc) := ⟨_, rfl⟩
        have k0 : Keep (fun g => g = p) wr (wr.setCell ⟨p, 3, none⟩ (.int .i64 (j : Int))) := Keep.set (D := fun g => g = p) (Keep.refl (fun g => g = p) wr) (a := ⟨p, 3, none⟩) (.inr rfl) _
        have b4 := box_below (wr.setCell ⟨p, 3, none⟩ (.int .i64 (j : Int))) (pcB x pa pc ba bc)
        have k4 : Keep (fun g => g = p) wr W4 := by rw [hW4]; exact k0.trans (Keep.of_below b4 (Nat.le_refl _))
        have C4 : Hid (Cks A W4 p va vc vs m (some ⟨g, o, none⟩) qc ps j iv im) := by rw [hW4]; exact (C.keep HA.out k0 (heap_setCell_same _ _ _ _ _ _ C.hb)).later b4
        have I4 : Hid (Inf W4 p iv im ps j j vvs) := I.kp k4
        have P4 : Hid (PS p w (.slice none 0 0) (.slice none 0 0) W4 iv im) := P.trans (PS.of_keep iv im k4)
        have t0 : W4.cell? ⟨bx, 0, none⟩ = some (.string ⟨x.name.toArray⟩) := by rw [hW4, hbx]; simp [go_sem]
        have t1 : W4.cell? ⟨bx, 1, none⟩ = some (.slice pa x.params.length pc) := by rw [hW4, hbx]; simp [go_sem]
        have t2 : W4.cell? ⟨bx, 2, none⟩ = some (.int .i64 x.type) := by rw [hW4, hbx]; simp [go_sem]
        have t3 : W4.cell? ⟨bx, 3, none⟩ = some (.slice ba x.body.length bc) := by rw [hW4, hbx]; simp [go_sem]
        have EP : Hid (Calls Try.prog 39 #[.pointer (some ⟨p, 0, none⟩), .agg #[.string ⟨x.name.toArray⟩, .slice pa x.params.length pc, .int .i64 x.type, .slice ba x.body.length bc]] W4 (CpR A W4 p (some ⟨g, o, none⟩) qc ps j iv im (ckPr ps x))) := ckProc_any A p (some ⟨g, o, none⟩) qc ps j x pa pc ba bc vvs va vc vs m iv im W4 C4.out HA.out I4.out el (HPA.out.1.keep (fun _ _ a => a) (fun q ha hq => k4.cell hq (by have := HA.out _ ha; omega)) k4.size) (HPA.out.2.kpp HA.out k4) PB.1 PB.2 _ rfl
        have HN : Hid ((match ckPr ps x with | (some er, m) => (some er, j, m) | (none, m) => ckPgs ps (ps.drop (j + 1)) (j + 1) (j, m)) = ckPgs ps ps 0 (0, 0)) := by rw [← N, NA]; rfl
        clear PB NA N C I P D k0 b4 k4 el
        go_upto_region 5 with fail
        rw [← hW4, ← hbx]
        clear hW4 hbx y0 y1 y2 y3 p3 fp3
        go_wp2_with fail
        refine Calls.mono EP.out ?_
        rintro e5 w5 ⟨rfl, va5, vc5, vs5, iv5, im5, C5, P5, I5⟩
        match h5 : ckPr ps x with
        | (some er, m5) =>
          rw [h5] at C5
          have C6 : Hid (Cks A w5 p va5 vc5 vs5 m5 (some ⟨g, o, none⟩) qc ps j iv5 im5) := C5
          have P6 : Hid (PS p w (.slice none 0 0) (.slice none 0 0) w5 iv5 im5) := P4.out.trans P5
          have hr : r = (some er, j, m5) := by rw [HR2.out, ← HN.out, h5]
          subst hr
          clear HN h5 HR2 C5 P5 I5 EP
          show _
          unfold ckEndU ckPan
          go_wp2_with fail
          exact ⟨rfl, rfl, va5, vc5, vs5, iv5, im5, C6.out, P6.out, fun h => by cases h⟩
        | (none, m5) =>
          rw [h5] at C5 I5
          obtain ⟨vvs5, I5'⟩ := I5 rfl
          have G : Hid (CgL A w p (some ⟨g, o, none⟩) qc ps (j + 1) w5) := ⟨va5, vc5, vs5, m5, j, iv5, im5, vvs5, C5, I5', P4.out.trans P5, by rw [← HN.out, h5]⟩
          clear HN h5 C5 P5 I5 I5' EP
          show _
          unfold ckEndU
          go_wp2_with fail
          go_roundw
          case rel => exact ⟨j + 1, by omega, by go_num, G⟩
          case measure => simp [intOf]; omega
      · obtain rfl : j = ps.length := by omega
        have hr : r = (none, at_, m) := by rw [HR2.out, ← N, List.drop_length, ckPgs]
        subst hr
        have CC : Hid _ := C
        have PP : Hid _ := P
        have II : Hid _ := I
        clear C P I N D HR2
        go_wp2_with fail
        go_end0
        exact ⟨rfl, va, vc, vs, iv, im, CC.out, PP.out, fun _ => ⟨vvs, II.out⟩⟩
/-- attempt of a method that is bound. -/
def ckBad (er : Option Int) : Int := match er with | none => 0 | some e => e
set_option maxRecDepth 100000 in
set_option maxHeartbeats 1000000 in
theorem ckAttemptM_ok (F : FuncId) (v : Value) (w : World) (D : Nat → Prop) (hD : ∀ g, D g → g < w.heap.size) (C : World → Prop) (hF : ∀ w, (callFunc F #[v]).run Try.prog w = .ok (.enter F #[v]) w)
    (hc : Calls Try.prog F #[v] (ck1box w) fun e w' => e = .returned (.tuple #[]) ∧ Keep D (ck1box w) w' ∧ C w') :
    Calls Try.prog 24 #[.func (.func F) #[v] #[]] w fun e w' => e = .returned (.int .i64 0) ∧ ∃ w1, Keep D (ck1box w) w1 ∧ C w1 ∧ w' = w1.setCell ⟨w.heap.size, 0, none⟩ (.int .i64 0) := by
  have hmf : ∀ (fn : Fn) (first cap : Array Value) (w : World), (Instr.makeFunc fn first cap).run Try.prog w = .ok (.func fn first cap) w := fun _ _ _ _ => rfl
  go_enter_defers Try.func24, Try.ntmps24
  have HC : Hid _ := hc
  have HD : Hid (∀ g, D g → g < w.heap.size) := hD
  clear hc hD
  go_wp2_with fail
  refine Calls.mono HC.out ?_
  rintro e w1 ⟨rfl, k1, c1⟩
  have a0 : w1.cell? ⟨w.heap.size, 0, none⟩ = some (.int .i64 0) := (k1.cell (by simp [ck1box]) (fun e => absurd (HD.out _ e) (by simp))).trans (by simp [ck1box, go_sem])
  have f0 : w1.frozen? ⟨w.heap.size, 0, none⟩ = false := (k1.frozen (by simp [ck1box]) (fun e => absurd (HD.out _ e) (by simp))).trans (by simp [ck1box, go_sem])
  have K1 : Hid _ := k1
  have C1 : Hid _ := c1
  clear k1 c1
  go_wp2_with fail
  refine leaves_cons (f := 37) (args := #[.pointer (some ⟨w.heap.size, 0, none⟩)]) (by simp) (by simp [go_sem]) ?_
  refine CallsD.mono (ck_idle _ _) ?_
  rintro e u' w'' ⟨rfl, rfl, rfl⟩
  simp [Leaves, settle, results, Try.results24, go_sem, a0]
  exact ⟨w1, K1.out, C1.out, rfl⟩
set_option maxRecDepth 100000 in
set_option maxHeartbeats 1000000 in
theorem ckAttemptM_bad (er : Int) (F : FuncId) (v : Value) (w : World) (D : Nat → Prop) (hD : ∀ g, D g → g < w.heap.size) (C : World → Prop) (hF : ∀ w, (callFunc F #[v]).run Try.prog w = .ok (.enter F #[v]) w)
    (hc : Calls Try.prog F #[v] (ck1box w) fun e w' => e = ckPan er ∧ Keep D (ck1box w) w' ∧ C w') :
    Calls Try.prog 24 #[.func (.func F) #[v] #[]] w fun e w' => e = .returned (.int .i64 er) ∧ ∃ w1, Keep D (ck1box w) w1 ∧ C w1 ∧ Keep (fun g => g = w.heap.size) w1 w' := by
  have hmf : ∀ (fn : Fn) (first cap : Array Value) (w : World), (Instr.makeFunc fn first cap).run Try.prog w = .ok (.func fn first cap) w := fun _ _ _ _ => rfl
  go_enter_defers Try.func24, Try.ntmps24
  have HC : Hid _ := hc
  have HD : Hid (∀ g, D g → g < w.heap.size) := hD
  clear hc hD
  go_wp2_with fail
  refine Calls.mono HC.out ?_
  rintro e w1 ⟨rfl, k1, c1⟩
  have a0 : w1.cell? ⟨w.heap.size, 0, none⟩ = some (.int .i64 0) := (k1.cell (by simp [ck1box]) (fun e => absurd (HD.out _ e) (by simp))).trans (by simp [ck1box, go_sem])
  have f0 : w1.frozen? ⟨w.heap.size, 0, none⟩ = false := (k1.frozen (by simp [ck1box]) (fun e => absurd (HD.out _ e) (by simp))).trans (by simp [ck1box, go_sem])
  have K1 : Hid _ := k1
  have C1 : Hid _ := c1
  clear k1 c1
  unfold ckPan
  go_wp2_with fail
  refine leaves_cons (f := 37) (args := #[.pointer (some ⟨w.heap.size, 0, none⟩)]) (by simp) (by simp [go_sem]) ?_
  refine CallsD.mono (ck_thrown w.heap.size er _ w1 a0 f0) ?_
  rintro e u' w'' ⟨rfl, rfl, q0, kk⟩
  simp [Leaves, settle, results, Try.results24, go_sem, q0]
  exact ⟨w1, K1.out, C1.out, kk⟩
end Go.Proofs.Ytobiedmmjiedlaa

namespace Go.Proofs.Ytobiedmmjiedlaa
open Go.RowKit

theorem ixn_no : ∀ (l : List (List UInt8)) (n : List UInt8) (k : Nat), ixn l n k = -1 → n ∉ l
  | [], n, k, _ => by simp
  | a :: r, n, k, h => by
    rw [ixn] at h
    split at h
    · omega
    · rename_i hn
      have := ixn_no r n (k + 1) h
      simp only [List.mem_cons, not_or]
      exact ⟨fun e => hn e.symm, this⟩
theorem ckUq_ne {vs : List CkVa} (h : ckUq (vs.map CkVa.name)) {i j : Nat} (hij : i < j) (hj : j < vs.length) : (vs.getD i ckV0).name ≠ (vs.getD j ckV0).name := by
  have := ixn_no _ _ _ (h j (by simpa using hj))
  intro e
  apply this
  have hi : i < vs.length := by omega
  have e1 : (vs.map CkVa.name).getD j [] = (vs.getD j ckV0).name := by
    rw [List.getD_eq_getElem?_getD, List.getD_eq_getElem?_getD, List.getElem?_map, List.getElem?_eq_getElem hj]
    rfl
  rw [e1, ← e]
  apply List.mem_of_getElem? (i := i)
  rw [List.getElem?_take_of_lt hij, List.getElem?_map, List.getElem?_eq_getElem hi, List.getD_eq_getElem?_getD, List.getElem?_eq_getElem hi]
  rfl
theorem ckFi_own {vs : List CkVa} (h : ckUq (vs.map CkVa.name)) {j : Nat} (hj : j < vs.length) {m : Int} (hm : (vs.getD j ckV0).fr ≤ m ∧ m ≤ (vs.getD j ckV0).tl) : ckFi vs (vs.getD j ckV0).name m 0 = j := by
  have key : ∀ d k, k + d = j → ckFi (vs.drop k) (vs.getD j ckV0).name m k = j := by
    intro d
    induction d with
    | zero =>
      intro k hk
      obtain rfl : k = j := by omega
      exact ckFi_hit hj ⟨rfl, hm⟩
    | succ d ih =>
      intro k hk
      rw [ckFi_miss (by omega) (fun e => ckUq_ne h (by omega) hj e.1)]
      exact ih (k + 1) (by omega)
  have := key j 0 (by omega)
  rwa [List.drop_zero] at this
theorem ckPgs_ok {ps : List Sy.Pc} : ∀ (l : List Sy.Pc) (j : Nat) (s : Nat × Int), (ckPgs ps l j s).1 = none → ∀ x, x ∈ l → ckUq ((ckVs x).map CkVa.name)
  | [], _, _, _, x, hx => by cases hx
  | y :: r, j, s, h, x, hx => by
    rw [ckPgs] at h
    have hy : (ckPr ps y).1 = none := by
      match e : ckPr ps y with
      | (some er, m) => rw [e] at h; cases h
      | (none, m) => rfl
    have hd : ckDcl y.params.length (ckVs y) = none := by
      unfold ckPr at hy
      match e : ckDcl y.params.length (ckVs y) with
      | some er => rw [e] at hy; cases hy
      | none => rfl
    have hu : ckUq ((ckVs y).map CkVa.name) := by
      unfold ckDcl at hd
      split at hd
      · split at hd
        · assumption
        · cases hd
      · cases hd
    rcases List.mem_cons.1 hx with rfl | hx
    · exact hu
    · match e : ckPr ps y with
      | (some er, m) => rw [e] at hy; cases hy
      | (none, m) =>
        rw [e] at h
        exact ckPgs_ok r (j + 1) (j, m) h x hx
theorem ckPg_ok {ps : List Sy.Pc} (h : (ckPg ps).1 = none) : ∀ x, x ∈ ps → ckUq ((ckVs x).map CkVa.name) := by
  unfold ckPg at h
  split at h
  · cases h
  · exact ckPgs_ok ps 0 (0, 0) h
theorem ckVs_par {x : Sy.Pc} {j : Nat} (h : j < x.params.length) : ((ckVs x).getD j ckV0).fr = 0 ∧ ((ckVs x).getD j ckV0).tl = Sy.cts x.body + 1 := by
  have e : (ckVs x)[j]? = some (paV (Sy.cts x.body + 1) x.params[j]) := by
    unfold ckVs
    rw [List.getElem?_append_left (by simpa using h), List.getElem?_map, List.getElem?_eq_getElem h]
    rfl
  rw [List.getD_eq_getElem?_getD, e]
  exact ⟨rfl, rfl⟩
end Go.Proofs.Ytobiedmmjiedlaa

namespace Go.Proofs.Ytobiedmmjiedlaa
open Go.RowKit

theorem PcS.mono {A A' : Nat → Prop} {w : World} {v : Value} {l : List Sy.Pc} (h : PcS A w v l) (hA : ∀ g, g < w.heap.size → A g → A' g) : PcS A' w v l := h.keep hA (fun _ _ _ => rfl) (Nat.le_refl _)
theorem alloc_last (w : World) (o : Obj) : (w.alloc o).heap[w.heap.size]? = some o := by
  show (w.heap.push o)[w.heap.size]? = some o
  rw [Array.getElem?_push_size]
theorem ck1box_heap (W : World) : (ck1box W).heap[W.heap.size]? = some (.cells #[.int .i64 0] 40 (0, 0)) := alloc_last W _
/-- A cell that is set to what it holds: nothing is turned. -/
theorem set_same (w : World) (g : Nat) (v : Value) (t : TypeId) (h : w.heap[g]? = some (.cells #[v] t (0, 0))) : Below w.heap.size w (w.setCell ⟨g, 0, none⟩ v) :=
  ⟨rfl, rfl, rfl, by simp, fun k _ => by
    by_cases c : k = g
    · subst c
      rw [heap_setCell_same w k 0 #[v] t v h, h]
      simp
    · exact heap_setCell_other w _ k _ (by simpa using c)⟩
/-- What Check answers. -/
def CkA (w : World) (ps : List Sy.Pc) (r : Option Int × Nat × Int) (e : Ending) (w' : World) : Prop :=
  (∃ er, r.1 = some er ∧ e = .returned (.tuple #[.agg #[.slice none 0 0, .slice none 0 0], .agg #[.int .i64 (r.2.1 : Int), .int .i64 r.2.2], .int .i64 er]) ∧ Below w.heap.size w w') ∨
  (r.1 = none ∧ ∃ p iv im vvs, w.heap.size ≤ p ∧ e = .returned (.tuple #[.agg #[iv, im], .agg #[.int .i64 0, .int .i64 0], .int .i64 0]) ∧ Inf w' p iv im ps ps.length ps.length vvs ∧ Below w.heap.size w w')
/-- What was found out is kept where all behind the checker is. -/
theorem Inf.high {w w' : World} {p : Nat} {iv im : Value} {ps : List Sy.Pc} {jv jm : Nat} {vvs : List Value} (h : Inf w p iv im ps jv jm vvs) (hk : ∀ g, p < g → g < w.heap.size → w'.heap[g]? = w.heap[g]?) (hz : w.heap.size ≤ w'.heap.size) : Inf w' p iv im ps jv jm vvs := by
  have ro : ∀ {e : TypeId} {v : Value} {n : Nat} {xs : List Value}, w.ownsRow (p + 1) e 1 v n xs → w'.ownsRow (p + 1) e 1 v n xs := by
    intro e v n xs h
    have hl := World.ownsRow.lt h
    rcases h.2 with ⟨rfl, h0⟩ | ⟨g, cap, cur, rfl, hb, hh, hr⟩
    · exact ⟨h.1, .inl ⟨rfl, h0⟩⟩
    · refine ⟨h.1, .inr ⟨g, cap, cur, rfl, hb, ?_, hr⟩⟩
      rw [hk g (by omega) (hl g rfl).2]
      exact hh
  refine ⟨ro h.rv, fun q x hq hx => ?_, ro h.rm, h.ne⟩
  obtain ⟨va, vc, e, hv⟩ := h.vv q x hq hx
  refine ⟨va, vc, e, ⟨hv.1.1, fun h0 => ?_⟩, hv.2⟩
  obtain ⟨g, o, e, hg, hc⟩ := hv.1.2 h0
  have kk := hk g (hv.2 h0 g o e).1 hg
  exact ⟨g, o, e, Nat.lt_of_lt_of_le hg hz, fun j hj => ⟨(World.cell?_of_block (w := w) (a := ⟨g, _, none⟩) kk).trans (hc j hj).c0, (World.cell?_of_block (w := w) (a := ⟨g, _, none⟩) kk).trans (hc j hj).c1, (World.cell?_of_block (w := w) (a := ⟨g, _, none⟩) kk).trans (hc j hj).c2, (World.cell?_of_block (w := w) (a := ⟨g, _, none⟩) kk).trans (hc j hj).c3, (World.cell?_of_block (w := w) (a := ⟨g, _, none⟩) kk).trans (hc j hj).c4⟩⟩
structure CkB2 (W : World) (b1 b2 : Nat) : Prop where
  a0 : W.cell? ⟨b1, 0, none⟩ = some (.slice none 0 0)
  a1 : W.cell? ⟨b1, 1, none⟩ = some (.slice none 0 0)
  c0 : W.cell? ⟨b2, 0, none⟩ = some (.int .i64 0)
  c1 : W.cell? ⟨b2, 1, none⟩ = some (.int .i64 0)
  f0 : W.frozen? ⟨b1, 0, none⟩ = false
  f1 : W.frozen? ⟨b1, 1, none⟩ = false
  g0 : W.frozen? ⟨b2, 0, none⟩ = false
  g1 : W.frozen? ⟨b2, 1, none⟩ = false
theorem CkB2.kept {W W' : World} {b1 b2 : Nat} (h : CkB2 W b1 b2) (e1 : W'.heap[b1]? = W.heap[b1]?) (e2 : W'.heap[b2]? = W.heap[b2]?) : CkB2 W' b1 b2 :=
  ⟨(World.cell?_of_block (w := W) (a := ⟨b1, 0, none⟩) e1).trans h.a0, (World.cell?_of_block (w := W) (a := ⟨b1, 1, none⟩) e1).trans h.a1, (World.cell?_of_block (w := W) (a := ⟨b2, 0, none⟩) e2).trans h.c0, (World.cell?_of_block (w := W) (a := ⟨b2, 1, none⟩) e2).trans h.c1, (World.frozen?_of_block (w := W) (a := ⟨b1, 0, none⟩) e1).trans h.f0, (World.frozen?_of_block (w := W) (a := ⟨b1, 1, none⟩) e1).trans h.f1, (World.frozen?_of_block (w := W) (a := ⟨b2, 0, none⟩) e2).trans h.g0, (World.frozen?_of_block (w := W) (a := ⟨b2, 1, none⟩) e2).trans h.g1⟩
set_option maxRecDepth 100000 in
set_option maxHeartbeats 4000000 in
/-- Check of a program. -/
theorem ckCheck_any (A : Nat → Prop) (qa : Option Addr) (qc : Nat) (ps : List Sy.Pc) (w : World) (hp : PcS A w (.slice qa ps.length qc) ps) (hl : ps.length ≤ 1000000) (hb : ∀ x, x ∈ ps → PcB x) (r : Option Int × Nat × Int) (hr : r = ckPg ps) (h0 : ¬ r.1 = some 0) :
    Calls Try.prog 13 #[.agg #[.slice qa ps.length qc]] w (CkA w ps r) := by
  have HP : Hid (PcS (fun g => g < w.heap.size) w (.slice qa ps.length qc) ps) := hp.mono fun g hg _ => hg
  have HB : Hid (∀ x, x ∈ ps → PcB x) := hb
  have HR : Hid (r = ckPg ps) := hr
  have H0 : Hid (¬ r.1 = some 0) := h0
  have HL : Hid (ps.length ≤ 1000000) := hl
  have hmf : ∀ (fn : Fn) (first cap : Array Value) (w : World), (Instr.makeFunc fn first cap).run Try.prog w = .ok (.func fn first cap) w := fun _ _ _ _ => rfl
  clear hp hb hr h0 hl
  go_enter Try.func13, Try.ntmps13
  go_upto_region 2 with fail
  obtain ⟨W, hW⟩ : ∃ W, W = (((w.alloc (.cells #[.slice qa ps.length qc] 29)).alloc (.cells #[.slice none 0 0, .slice none 0 0] 46)).alloc (.cells #[.int .i64 0, .int .i64 0] 48)).alloc (.cells #[.slice none 0 0, .int .i64 0, .slice qa ps.length qc, .int .i64 0, .slice none 0 0, .slice none 0 0] 78) := ⟨_, rfl⟩
  rw [← hW]
  obtain ⟨b1, hb1⟩ : ∃ b1, b1 = w.heap.size + 1 := ⟨_, rfl⟩
  obtain ⟨b2, hb2⟩ : ∃ b2, b2 = w.heap.size + 1 + 1 := ⟨_, rfl⟩
  obtain ⟨p, hp⟩ : ∃ p, p = w.heap.size + 1 + 1 + 1 := ⟨_, rfl⟩
  have zW : W.heap.size = p + 1 := by rw [hW, hp]; simp
  have bW : Below w.heap.size w W := by rw [hW]; exact ((((Below.refl w.heap.size w).alloc (Nat.le_refl _) _).alloc (by simp) _).alloc (by simp; omega) _).alloc (by simp; omega) _
  have hWp : W.heap[p]? = some (.cells #[.slice none ([] : List CkVa).length 0, .int .i64 0, .slice qa ps.length qc, .int .i64 ((0 : Nat) : Int), .slice none 0 0, .slice none 0 0] 78 (0, 0)) := by
    rw [hW, hp]
    have := alloc_last (((w.alloc (.cells #[.slice qa ps.length qc] 29)).alloc (.cells #[.slice none 0 0, .slice none 0 0] 46)).alloc (.cells #[.int .i64 0, .int .i64 0] 48)) (.cells #[.slice none 0 0, .int .i64 0, .slice qa ps.length qc, .int .i64 0, .slice none 0 0, .slice none 0 0] 78)
    simpa using this
  have BB : CkB2 W b1 b2 := by
    rw [hW, hb1, hb2]
    constructor <;> simp [go_sem]
  have bC : Below W.heap.size W (ck1box W) := box_below W _
  have bCw : Below w.heap.size w (ck1box W) := bW.trans (bC.mono bW.size)
  have C0 : Cks (fun g => g < w.heap.size) (ck1box W) p none 0 [] 0 qa qc ps 0 (.slice none 0 0) (.slice none 0 0) :=
    ⟨(bC.block p (by omega)).trans hWp, ⟨by simp, fun h => by simp at h⟩, fun g o e => (by cases e), HP.out.later bCw (Nat.le_refl _), HL.out⟩
  have EP := ckProg_any (fun g => g < w.heap.size) p qa qc ps (ck1box W) C0 (fun g hg => by omega) HB.out r HR.out
  have PK : ∀ {iv im : Value} {w' : World}, PS p (ck1box W) (.slice none 0 0) (.slice none 0 0) w' iv im → Keep (fun g => g = p) (ck1box W) w' := fun h => ⟨h.os, h.tape, h.output, h.size, fun g hg hn => (h.far g hg hn (fun e => by cases e) (fun e => by cases e)).1⟩
  rw [← hp, ← hb2, ← hb1]
  have NE : Hid (¬ b1 = p ∧ ¬ b2 = p ∧ ¬ b1 = b2 ∧ ¬ b1 = W.heap.size ∧ ¬ b2 = W.heap.size ∧ ¬ p = W.heap.size ∧ w.heap.size ≤ b1 ∧ w.heap.size ≤ b2 ∧ w.heap.size ≤ p ∧ b1 < W.heap.size ∧ b2 < W.heap.size ∧ p < W.heap.size) := ⟨by omega, by omega, by omega, by omega, by omega, by omega, by omega, by omega, by omega, by omega, by omega, by omega⟩
  have HB1 : Hid (b1 < p ∧ b2 < p) := ⟨by omega, by omega⟩
  have n12 : ¬ b1 = b2 := NE.out.2.2.1
  have n21 : ¬ b2 = b1 := fun e => n12 e.symm
  have n1p : ¬ b1 = p := NE.out.1
  have n2p : ¬ b2 = p := NE.out.2.1
  have BH : Hid (CkB2 W b1 b2) := BB
  have BCW : Hid (Below w.heap.size w (ck1box W)) := bCw
  have BCx : Hid (Below W.heap.size W (ck1box W)) := bC
  clear hW hb1 hb2 hp zW bW hWp BB bC bCw C0
  match h1 : r with
  | (some er, at_, m) =>
    have her : ¬ er = 0 := fun e => H0.out (by rw [e])
    have E1 : Hid _ := ckAttemptM_bad er 25 (.pointer (some ⟨p, 0, none⟩)) W (fun g => g = p) (fun g e => by rw [e]; exact NE.out.2.2.2.2.2.2.2.2.2.2.2) (fun w' => ∃ va vc vs iv im, Cks (fun g => g < w.heap.size) w' p va vc vs m qa qc ps at_ iv im) (fun _ => rfl) (Calls.mono EP (by
      rintro e w' ⟨rfl, va, vc, vs, iv, im, c, s, -⟩
      exact ⟨rfl, PK s, va, vc, vs, iv, im, c⟩))
    clear EP HR H0 h1
    go_wp2_with fail
    refine Calls.mono E1.out ?_
    rintro e2 w2 ⟨rfl, w1, k1, ⟨va, vc, vs, iv, im, c1⟩, k2⟩
    have eb1 : w2.heap[b1]? = W.heap[b1]? := (k2.block b1 (Nat.lt_of_lt_of_le (Nat.lt_of_lt_of_le NE.out.2.2.2.2.2.2.2.2.2.1 BCx.out.size) k1.size) NE.out.2.2.2.1).trans ((k1.block b1 (Nat.lt_of_lt_of_le NE.out.2.2.2.2.2.2.2.2.2.1 BCx.out.size) NE.out.1).trans (BCx.out.block b1 NE.out.2.2.2.2.2.2.2.2.2.1))
    have eb2 : w2.heap[b2]? = W.heap[b2]? := (k2.block b2 (Nat.lt_of_lt_of_le (Nat.lt_of_lt_of_le NE.out.2.2.2.2.2.2.2.2.2.2.1 BCx.out.size) k1.size) NE.out.2.2.2.2.1).trans ((k1.block b2 (Nat.lt_of_lt_of_le NE.out.2.2.2.2.2.2.2.2.2.2.1 BCx.out.size) NE.out.2.1).trans (BCx.out.block b2 NE.out.2.2.2.2.2.2.2.2.2.2.1))
    have B2 := BH.out.kept eb1 eb2
    have p1 := (k2.cell (q := ⟨p, 1, none⟩) c1.lt NE.out.2.2.2.2.2.1).trans c1.cell.2.1
    have p3 := (k2.cell (q := ⟨p, 3, none⟩) c1.lt NE.out.2.2.2.2.2.1).trans c1.cell.2.2.2.1
    have BF : Hid (Below w.heap.size w w2) := BCW.out.trans ⟨k2.os.trans k1.os, k2.tape.trans k1.tape, k2.output.trans k1.output, Nat.le_trans k1.size k2.size, fun g hg => (k2.block g (Nat.lt_of_lt_of_le (Nat.lt_of_lt_of_le hg BCW.out.size) k1.size) (fun e => by have := NE.out; omega)).trans (k1.block g (Nat.lt_of_lt_of_le hg BCW.out.size) (fun e => by have := NE.out; omega))⟩
    obtain ⟨a0, a1, d0, d1, f0, f1, g0, g1⟩ := B2
    have hne : (er != 0) = true := bne_iff_ne.2 her
    have hne2 : (er == 0) = false := beq_eq_false_iff_ne.2 her
    clear k1 k2 c1 eb1 eb2 E1 her
    go_wp2_with fail
    go_region
    go_wp2_with fail
    refine bodyPost_ret (v := .tuple #[.agg #[.slice none 0 0, .slice none 0 0], .agg #[.int .i64 (at_ : Int), .int .i64 m], .int .i64 er]) (by simp [results, Try.results13, go_sem, a0, a1, d0, d1]) rfl ?_
    exact .inl ⟨er, rfl, rfl, ((((BF.out.setCell (p := ⟨b1, 0, none⟩) NE.out.2.2.2.2.2.2.1 _).setCell (p := ⟨b1, 1, none⟩) NE.out.2.2.2.2.2.2.1 _).setCell (p := ⟨b2, 0, none⟩) NE.out.2.2.2.2.2.2.2.1 _).setCell (p := ⟨b2, 1, none⟩) NE.out.2.2.2.2.2.2.2.1 _).drew⟩
  | (none, at_, m) =>
    have E1 : Hid _ := ckAttemptM_ok 25 (.pointer (some ⟨p, 0, none⟩)) W (fun g => g = p) (fun g e => by rw [e]; exact NE.out.2.2.2.2.2.2.2.2.2.2.2) (fun w' => ∃ va vc vs iv im vvs, Cks (fun g => g < w.heap.size) w' p va vc vs m qa qc ps at_ iv im ∧ Inf w' p iv im ps ps.length ps.length vvs) (fun _ => rfl) (Calls.mono EP (by
      rintro e w' ⟨rfl, va, vc, vs, iv, im, c, s, i⟩
      obtain ⟨vvs, i⟩ := i rfl
      exact ⟨rfl, PK s, va, vc, vs, iv, im, vvs, c, i⟩))
    clear EP HR H0 h1
    go_wp2_with fail
    refine Calls.mono E1.out ?_
    rintro e2 w2 ⟨rfl, w1, k1, ⟨va, vc, vs, iv, im, vvs, c1, i1⟩, hw2⟩
    have b12 : Below w1.heap.size w1 w2 := by
      rw [hw2]
      exact set_same w1 W.heap.size _ 40 ((k1.block W.heap.size (by simp [ck1box]) (fun e => NE.out.2.2.2.2.2.1 e.symm)).trans (ck1box_heap W))
    have eb1 : w2.heap[b1]? = W.heap[b1]? := (b12.block b1 (Nat.lt_of_lt_of_le (Nat.lt_of_lt_of_le NE.out.2.2.2.2.2.2.2.2.2.1 BCx.out.size) k1.size)).trans ((k1.block b1 (Nat.lt_of_lt_of_le NE.out.2.2.2.2.2.2.2.2.2.1 BCx.out.size) NE.out.1).trans (BCx.out.block b1 NE.out.2.2.2.2.2.2.2.2.2.1))
    have eb2 : w2.heap[b2]? = W.heap[b2]? := (b12.block b2 (Nat.lt_of_lt_of_le (Nat.lt_of_lt_of_le NE.out.2.2.2.2.2.2.2.2.2.2.1 BCx.out.size) k1.size)).trans ((k1.block b2 (Nat.lt_of_lt_of_le NE.out.2.2.2.2.2.2.2.2.2.2.1 BCx.out.size) NE.out.2.1).trans (BCx.out.block b2 NE.out.2.2.2.2.2.2.2.2.2.2.1))
    have B2 := BH.out.kept eb1 eb2
    have c2 := c1.later b12
    have i2 : Inf w2 p iv im ps ps.length ps.length vvs := i1.high (fun g _ hg => b12.block g hg) b12.size
    have p4 := c2.cell.2.2.2.2.1
    have p5 := c2.cell.2.2.2.2.2
    obtain ⟨va1, vc1, hiv⟩ := own_shape i2.rv
    obtain ⟨va2, vc2, him⟩ := own_shape i2.rm
    subst hiv him
    have I2 : Hid _ := i2
    have BF : Hid (Below w.heap.size w w2) := BCW.out.trans ⟨b12.os.trans k1.os, b12.tape.trans k1.tape, b12.output.trans k1.output, Nat.le_trans k1.size b12.size, fun g hg => (b12.block g (Nat.lt_of_lt_of_le (Nat.lt_of_lt_of_le hg BCW.out.size) k1.size)).trans (k1.block g (Nat.lt_of_lt_of_le hg BCW.out.size) (fun e => by have := NE.out; omega))⟩
    obtain ⟨a0, a1, d0, d1, f0, f1, g0, g1⟩ := B2
    have LT : Hid (b1 < p ∧ b2 < p) := HB1
    clear k1 c1 i1 hw2 b12 eb1 eb2 c2 i2 E1
    go_wp2_with fail
    refine bodyPost_ret (v := .tuple #[.agg #[.slice va1 ps.length vc1, .slice va2 ps.length vc2], .agg #[.int .i64 0, .int .i64 0], .int .i64 0]) (by simp [results, Try.results13, go_sem, a0, a1, d0, d1]) rfl ?_
    have bs := (((BF.out.setCell (p := ⟨b1, 0, none⟩) NE.out.2.2.2.2.2.2.1 (.slice va1 ps.length vc1)).setCell (p := ⟨b1, 1, none⟩) NE.out.2.2.2.2.2.2.1 (.slice va2 ps.length vc2)).setCell (p := ⟨b2, 0, none⟩) NE.out.2.2.2.2.2.2.2.1 (.int .i64 0)).setCell (p := ⟨b2, 1, none⟩) NE.out.2.2.2.2.2.2.2.1 (.int .i64 0)
    refine .inr ⟨rfl, p, _, _, vvs, NE.out.2.2.2.2.2.2.2.2.1, rfl, I2.out.high (fun g hg _ => ?_) (by simp), bs⟩
    have l1 := LT.out.1
    have l2 := LT.out.2
    rw [heap_setCell_other _ _ g _ (by simp only; omega), heap_setCell_other _ _ g _ (by simp only; omega), heap_setCell_other _ _ g _ (by simp only; omega), heap_setCell_other _ _ g _ (by simp only; omega)]
end Go.Proofs.Ytobiedmmjiedlaa

namespace Go.Proofs.Ytobiedmmjiedlaa
open Go.RowKit
set_option linter.unusedVariables false
set_option linter.unusedSimpArgs false

/-- The marks and the variables of procedures, as they lie. -/
def InfR (w : World) (v1 v2 : Option Addr) (ps : List Sy.Pc) : Prop := ∀ k x, ps[k]? = some x → ∃ g1 g2 va vc, v1 = some ⟨g1, 0, none⟩ ∧ v2 = some ⟨g2, 0, none⟩ ∧ g1 < w.heap.size ∧ g2 < w.heap.size ∧ w.cell? ⟨g2, k, none⟩ = some (.int .i64 (Sy.cts x.body : Int)) ∧ w.cell? ⟨g1, k, none⟩ = some (.slice va (ckVs x).length vc) ∧ VaS w va (ckVs x)
theorem InfR.later {w w' : World} {v1 v2 : Option Addr} {ps : List Sy.Pc} (h : InfR w v1 v2 ps) (b : Below w.heap.size w w') : InfR w' v1 v2 ps := fun k x hx => by
  obtain ⟨g1, g2, va, vc, e1, e2, l1, l2, c2, c1, hv⟩ := h k x hx
  exact ⟨g1, g2, va, vc, e1, e2, Nat.lt_of_lt_of_le l1 b.size, Nat.lt_of_lt_of_le l2 b.size, (b.cell (p := ⟨g2, k, none⟩) l2).trans c2, (b.cell (p := ⟨g1, k, none⟩) l1).trans c1, hv.later b⟩
theorem InfR.of {w : World} {p : Nat} {v1 : Option Addr} {n c1 : Nat} {v2 : Option Addr} {c2 : Nat} {ps : List Sy.Pc} {vvs : List Value} (h : Inf w p (.slice v1 n c1) (.slice v2 n c2) ps ps.length ps.length vvs) : InfR w v1 v2 ps := fun k x hx => by
  have kl : k < ps.length := (List.getElem?_eq_some_iff.1 hx).1
  obtain ⟨va, vc, ev, hv⟩ := h.vv k x kl hx
  have hc1 := @World.ownsRow.cells _ _ _ _ _ _ _ h.rv
  have hl1 := World.ownsRow.lt h.rv
  have hc2 := @World.ownsRow.cells _ _ _ _ _ _ _ h.rm
  have hl2 := World.ownsRow.lt h.rm
  have add : ∀ g j : Nat, (⟨g, 0, none⟩ : Addr).add j = ⟨g, j, none⟩ := fun g j => by unfold Addr.add; split <;> simp_all
  rcases h.rv.2 with ⟨_, e⟩ | ⟨g1, cap1, cur1, e1, _⟩
  · omega
  rcases h.rm.2 with ⟨_, e⟩ | ⟨g2, cap2, cur2, e2, _⟩
  · omega
  cases e1
  cases e2
  refine ⟨g1, g2, va, vc, rfl, rfl, (hl1 g1 rfl).2, (hl2 g2 rfl).2, ?_, ?_, hv.1⟩
  · have := @hc2 g2 rfl k (.int .i64 (Sy.cts x.body : Int)) (by simp [mkV, hx])
    rwa [add] at this
  · have := @hc1 g1 rfl k _ ev
    rwa [add] at this
theorem InfR.front {w : World} {v1 v2 : Option Addr} {ps : List Sy.Pc} {z : Sy.Pc} (h : InfR w v1 v2 (ps ++ [z])) : InfR w v1 v2 ps := fun k x hx => h k x (by rw [List.getElem?_append_left (List.getElem?_eq_some_iff.1 hx).1]; exact hx)
/-- The two boxes, and what they point at. -/
structure SmH (w : World) (b L : Nat) (v1 : Option Addr) (c1 : Nat) (v2 : Option Addr) (c2 : Nat) (u1 : Option Addr) (d1 : Nat) (u2 : Option Addr) (d2 : Nat) (ps : List Sy.Pc) (wr : World) : Prop where
  bw : Below w.heap.size w wr
  a0 : wr.cell? ⟨b, 0, none⟩ = some (.slice v1 L c1)
  a1 : wr.cell? ⟨b, 1, none⟩ = some (.slice v2 L c2)
  e0 : wr.cell? ⟨b + 1, 0, none⟩ = some (.slice u1 L d1)
  e1 : wr.cell? ⟨b + 1, 1, none⟩ = some (.slice u2 L d2)
  lt : b + 1 < wr.heap.size
  r1 : InfR wr v1 v2 ps
  r2 : InfR wr u1 u2 ps
theorem SmH.later {w : World} {b L : Nat} {v1 : Option Addr} {c1 : Nat} {v2 : Option Addr} {c2 : Nat} {u1 : Option Addr} {d1 : Nat} {u2 : Option Addr} {d2 : Nat} {ps : List Sy.Pc} {wr wx : World} (h : SmH w b L v1 c1 v2 c2 u1 d1 u2 d2 ps wr) (y : Below wr.heap.size wr wx) : SmH w b L v1 c1 v2 c2 u1 d1 u2 d2 ps wx :=
  have l0 : b < wr.heap.size := by have := h.lt; omega
  ⟨h.bw.trans (y.mono h.bw.size), (y.cell (p := ⟨b, 0, none⟩) l0).trans h.a0, (y.cell (p := ⟨b, 1, none⟩) l0).trans h.a1, (y.cell (p := ⟨b + 1, 0, none⟩) h.lt).trans h.e0, (y.cell (p := ⟨b + 1, 1, none⟩) h.lt).trans h.e1, Nat.lt_of_lt_of_le h.lt y.size, h.r1.later y, h.r2.later y⟩
def SmL (w : World) (b L : Nat) (v1 : Option Addr) (c1 : Nat) (v2 : Option Addr) (c2 : Nat) (u1 : Option Addr) (d1 : Nat) (u2 : Option Addr) (d2 : Nat) (ps : List Sy.Pc) (n : Nat) (gk : Nat) (i : Value) (wr : World) : Prop :=
  ∃ k : Nat, k + gk = n ∧ i = .int .i64 k ∧ Hid (SmH w b L v1 c1 v2 c2 u1 d1 u2 d2 ps wr)
end Go.Proofs.Ytobiedmmjiedlaa

namespace Go.Proofs.Ytobiedmmjiedlaa
open Go.ChangeShapes Go.WideShapes Go.ChangeAt Go.RowKit
set_option maxRecDepth 100000

theorem cPa2 : Try.prog.cellsOf 69 = 2 := by kernel_rfl
theorem cPc4 : Try.prog.cellsOf 25 = 4 := by kernel_rfl
theorem cPaL : Try.prog.cellsOf 22 = 1 := by kernel_rfl
theorem cPcL : Try.prog.cellsOf 27 = 1 := by kernel_rfl
theorem cPg1 : Try.prog.cellsOf 29 = 1 := by kernel_rfl
theorem bPa2 : 0 < Try.prog.bytesOf 69 := of_decide_eq_true (by kernel_rfl)
theorem bPc4 : 0 < Try.prog.bytesOf 25 := of_decide_eq_true (by kernel_rfl)
theorem pa_cells {H : Type} {enc : TypeId × Value → H} {W : World} {n : Nat} {cs : List Value} {y : DataW H × List MemPlace} (hl : cs.length = 2) (h2 : DataW.trod enc Try.prog W 0 (fun _ => true) true n 69 cs = some y) :
    ∃ (s : List UInt8) (m : Int), cs = [.string ⟨s.toArray⟩, .int .i64 m] ∧ y.1 = .agg [.lit (.string s), .lit (.int .i64 m)] ∧ I64 m := by
  obtain ⟨xs, k, hk, hxy, _, hxl, hf⟩ := DataW.trod_struct Try.underlying69 h2
  match xs, hxl, cs, hl with
  | [y0, y1], _, [v0, v1], _ =>
    have g0 := hf 0 _ rfl
    have g1 := hf 1 _ rfl
    simp [cExI, cExS] at g0 g1
    obtain ⟨a0, b0, d0, _⟩ := DataW.trod_string Try.underlying9 g0
    obtain ⟨a1, b1, d1, wf1⟩ := DataW.trod_int Try.underlying3 g1
    simp at b0 b1
    subst b0 b1
    refine ⟨a0.data.toList, a1, rfl, ?_, wf_rg wf1⟩
    rw [hxy]
    simp [d0, d1]
theorem weights_param {H : Type} (s : List UInt8) (m : Int) : (DataW.agg [.lit (.string s), .lit (.int .i64 m)] : DataW H).weights Try.prog 69 = [s.length] := by
  rw [DataW.weights, Try.underlying69]
  simp [DataW.weightsEach, DataW.weights]
/-- What the reading of a slice of parameters gives. -/
def SlP (W : World) (v : Value) (l : List Sy.Pa) : Prop := (∃ a c, v = .slice a l.length c) ∧ PaS (fun _ => True) W v l ∧ (∀ s, s ∈ l → s.Ok) ∧ l.length ≤ 1000000000000000
theorem pas_open {H : Type} {enc : TypeId × Value → H} {W : World} (fuel : Nat) (v : Value) (z : DataW H × List MemPlace) (hf : DataW.trod enc Try.prog W 0 (fun _ => true) true fuel 22 [v] = some z) (hw : ∀ q, q ∈ z.1.weights Try.prog 22 → q ≤ reachBytes) : ∃ l, SlP W v l := by
  rcases sln_open Try.underlying22 cPa2 hf with rfl | ⟨x, cap, elems, rest, n, hn, rfl, hcap, hz, hel⟩
  · exact ⟨[], ⟨_, _, rfl⟩, ⟨_, _, rfl, fun h => absurd h (Nat.lt_irrefl 0)⟩, fun s h => (by cases h), by simp⟩
  · rw [hz] at hw
    have hlen := short_of Try.underlying22 bPa2 hw
    rw [List.length_map] at hlen
    have each : ∀ i, i < elems.length → ∃ y : Sy.Pa, y.Ok ∧ W.cell? ((x.add (i * 2)).add 0) = some (.string ⟨y.name.toArray⟩) ∧ W.cell? ((x.add (i * 2)).add 1) = some (.int .i64 y.type) := by
      intro i hi
      obtain ⟨cs, hcl, hcell, htr⟩ := hel i hi
      obtain ⟨s, m, rfl, hy, hm⟩ := pa_cells hcl htr
      have key := part_weights Try.underlying22 hw (List.mem_map.2 ⟨elems[i], List.getElem_mem _, rfl⟩)
      rw [hy, weights_param] at key
      exact ⟨⟨s, m⟩, ⟨reach_15 (key _ (List.mem_cons_self ..)), hm⟩, hcell 0 (by simp), hcell 1 (by simp)⟩
    obtain ⟨l, hll, hQ⟩ := list_of_each elems.length each
    refine ⟨l, ⟨_, _, by rw [hll]⟩, ⟨_, _, by rw [hll], fun h0 => ?_⟩, fun s hs => ?_, by omega⟩
    · obtain ⟨_, _, e0, _⟩ := each 0 (by omega)
      have hsp : ∃ b o, x = ⟨b, o, none⟩ := by
        obtain ⟨bb, oo, ss⟩ := x
        have : ss = none := by simpa [Addr.add] using World.cell?_spot e0
        exact ⟨bb, oo, by rw [this]⟩
      obtain ⟨g, off, rfl⟩ := hsp
      simp only [add_plain6, Nat.add_zero] at hQ e0
      refine ⟨g, off, rfl, trivial, World.block_lt_of_cell? W _ e0, fun j hj => ?_⟩
      have q := hQ j l[j] (List.getElem?_eq_getElem hj)
      exact ⟨l[j], List.getElem?_eq_getElem hj, q.2.1, q.2.2⟩
    · obtain ⟨i, hi⟩ := List.getElem?_of_mem hs
      exact (hQ i s hi).1
theorem pc_cells {H : Type} {enc : TypeId × Value → H} {W : World} {n : Nat} {cs : List Value} {y : DataW H × List MemPlace} (hl : cs.length = 4) (h2 : DataW.trod enc Try.prog W 0 (fun _ => true) true n 25 cs = some y) :
    ∃ (s : List UInt8) (m : Int) (v0 v1 : Value) (z0 z1 : DataW H × List MemPlace) (n' : Nat), cs = [.string ⟨s.toArray⟩, v0, .int .i64 m, v1] ∧ y.1 = .agg [.lit (.string s), z0.1, .lit (.int .i64 m), z1.1] ∧ I64 m ∧ DataW.trod enc Try.prog W 0 (fun _ => true) true n' 22 [v0] = some z0 ∧ DataW.trod enc Try.prog W 0 (fun _ => true) true n' 23 [v1] = some z1 := by
  obtain ⟨xs, k, hk, hxy, _, hxl, hf⟩ := DataW.trod_struct Try.underlying25 h2
  match xs, hxl, cs, hl with
  | [y0, y1, y2, y3], _, [v0, v1, v2, v3], _ =>
    have g0 := hf 0 _ rfl
    have g1 := hf 1 _ rfl
    have g2 := hf 2 _ rfl
    have g3 := hf 3 _ rfl
    simp [cExI, cExS, cPaL, cStL] at g0 g1 g2 g3
    obtain ⟨a0, b0, d0, _⟩ := DataW.trod_string Try.underlying9 g0
    obtain ⟨a2, b2, d2, wf2⟩ := DataW.trod_int Try.underlying3 g2
    simp at b0 b2
    subst b0 b2
    refine ⟨a0.data.toList, a2, v1, v3, y1, y3, k, rfl, ?_, wf_rg wf2, g1, g3⟩
    rw [hxy]
    simp [d0, d2]
theorem weights_proc {H : Type} (s : List UInt8) (m : Int) (d0 d1 : DataW H) : (DataW.agg [.lit (.string s), d0, .lit (.int .i64 m), d1] : DataW H).weights Try.prog 25 = s.length :: (d0.weights Try.prog 22 ++ d1.weights Try.prog 23) := by
  rw [DataW.weights, Try.underlying25]
  simp [DataW.weightsEach, DataW.weights]
/-- What the reading of a slice of procedures gives. -/
def SlC (W : World) (v : Value) (l : List Sy.Pc) : Prop := (∃ a c, v = .slice a l.length c) ∧ PcS (fun _ => True) W v l ∧ (∀ s, s ∈ l → s.Ok) ∧ l.length ≤ 1000000000000000
theorem pcs_open {H : Type} {enc : TypeId × Value → H} {W : World} (fuel : Nat) (v : Value) (z : DataW H × List MemPlace) (hf : DataW.trod enc Try.prog W 0 (fun _ => true) true fuel 27 [v] = some z) (hw : ∀ q, q ∈ z.1.weights Try.prog 27 → q ≤ reachBytes) : ∃ l, SlC W v l := by
  rcases sln_open Try.underlying27 cPc4 hf with rfl | ⟨x, cap, elems, rest, n, hn, rfl, hcap, hz, hel⟩
  · exact ⟨[], ⟨_, _, rfl⟩, ⟨_, _, rfl, fun h => absurd h (Nat.lt_irrefl 0)⟩, fun s h => (by cases h), by simp⟩
  · rw [hz] at hw
    have hlen := short_of Try.underlying27 bPc4 hw
    rw [List.length_map] at hlen
    have each : ∀ i, i < elems.length → ∃ y : Sy.Pc, y.Ok ∧ ∃ pa pc ba bc, W.cell? ((x.add (i * 4)).add 0) = some (.string ⟨y.name.toArray⟩) ∧ W.cell? ((x.add (i * 4)).add 1) = some (.slice pa y.params.length pc) ∧ W.cell? ((x.add (i * 4)).add 2) = some (.int .i64 y.type) ∧ W.cell? ((x.add (i * 4)).add 3) = some (.slice ba y.body.length bc) ∧ PaS (fun _ => True) W (.slice pa y.params.length pc) y.params ∧ SmS (fun _ => True) W (.slice ba y.body.length bc) y.body := by
      intro i hi
      obtain ⟨cs, hcl, hcell, htr⟩ := hel i hi
      obtain ⟨s, m, v0, v1, z0, z1, n', rfl, hy, hm, t0, t1⟩ := pc_cells hcl htr
      have key := part_weights Try.underlying27 hw (List.mem_map.2 ⟨elems[i], List.getElem_mem _, rfl⟩)
      rw [hy, weights_proc] at key
      obtain ⟨ps, ⟨pa, pc, rfl⟩, hp, op, lp⟩ := pas_open n' v0 z0 t0 (fun q hq => key q (List.mem_cons_of_mem _ (List.mem_append.2 (.inl hq))))
      obtain ⟨b, ⟨ba, bc, rfl⟩, hb, ob, lb⟩ := sts_open n' v1 z1 t1 (fun q hq => key q (List.mem_cons_of_mem _ (List.mem_append.2 (.inr hq))))
      exact ⟨⟨s, ps, m, b⟩, ⟨reach_15 (key _ (List.mem_cons_self ..)), hm, op, lp, ob, lb⟩, pa, pc, ba, bc, hcell 0 (by simp), hcell 1 (by simp), hcell 2 (by simp), hcell 3 (by simp), hp, hb⟩
    obtain ⟨l, hll, hQ⟩ := list_of_each elems.length each
    refine ⟨l, ⟨_, _, by rw [hll]⟩, ⟨_, _, by rw [hll], fun h0 => ?_⟩, fun s hs => ?_, by omega⟩
    · obtain ⟨_, _, _, _, _, _, e0, _⟩ := each 0 (by omega)
      have hsp : ∃ b o, x = ⟨b, o, none⟩ := by
        obtain ⟨bb, oo, ss⟩ := x
        have : ss = none := by simpa [Addr.add] using World.cell?_spot e0
        exact ⟨bb, oo, by rw [this]⟩
      obtain ⟨g, off, rfl⟩ := hsp
      simp only [add_plain6, Nat.add_zero] at hQ e0
      refine ⟨g, off, rfl, trivial, World.block_lt_of_cell? W _ e0, fun j hj => ?_⟩
      obtain ⟨_, pa, pc, ba, bc, c0, c1, c2, c3, hp, hb⟩ := hQ j l[j] (List.getElem?_eq_getElem hj)
      exact ⟨l[j], pa, pc, ba, bc, List.getElem?_eq_getElem hj, c0, c1, c2, c3, hp, hb⟩
    · obtain ⟨i, hi⟩ := List.getElem?_of_mem hs
      exact (hQ i s hi).1
/-- An argument that is a program. -/
theorem arg_pg {H : Type} {enc : TypeId × Value → H} {W : World} {v : Value} {d : DataW H} {p : List MemPlace} {ts : List TypeId} {ds : List (DataW H)} {j base : Nat}
    (hv : Value.okWide Try.prog W .any base 29 v)
    (h : ∃ fuel, DataW.trod enc Try.prog W 0 (fun _ => true) true fuel 29 v.cells.toList = some (d, p))
    (hsz : (DataW.weightsEach Try.prog ts ds).all (· ≤ reachBytes) = true) (ht : ts[j]? = some 29) (hd : ds[j]? = some d) :
    ∃ sa l sc, v = .agg #[.slice sa (l : List Sy.Pc).length sc] ∧ PcS (fun _ => True) W (.slice sa l.length sc) l ∧ (∀ x, x ∈ l → x.Ok) ∧ l.length ≤ 1000000000000000 := by
  obtain ⟨cs, rfl, hc⟩ := okWide_struct Try.underlying29 hv
  rw [cPg1] at hc
  obtain ⟨fuel, hf⟩ := h
  have e0 : (Value.agg cs).cells.toList = cs.toList := by simp [Value.cells]
  rw [e0] at hf
  have key : ∀ q, q ∈ d.weights Try.prog 29 → q ≤ reachBytes := fun q hq => of_decide_eq_true (List.all_eq_true.1 hsz _ (DataW.weights_mem_each ht hd _ hq))
  obtain ⟨xs, k, hk, hxy, _, hxl, hg⟩ := DataW.trod_struct Try.underlying29 hf
  match xs, hxl, cs, hc with
  | [y0], _, ⟨[u]⟩, _ =>
    have g0 := hg 0 _ rfl
    simp [cPcL] at g0
    have hd' : d = .agg [y0.1] := (Prod.ext_iff.1 hxy).1
    rw [hd', DataW.weights, Try.underlying29] at key
    simp [DataW.weightsEach] at key
    obtain ⟨l, ⟨a, c, rfl⟩, hp, ho, hl⟩ := pcs_open k u y0 g0 key
    exact ⟨a, l, c, rfl, hp, ho, hl⟩
end Go.Proofs.Ytobiedmmjiedlaa
