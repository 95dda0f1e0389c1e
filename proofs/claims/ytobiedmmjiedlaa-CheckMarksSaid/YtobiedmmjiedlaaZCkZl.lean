/- Layer 4: the checker of a procedure (the program's proc). -/
import Derived.Test.YtobiedmmjiedlaaZCkZk
namespace Go.Proofs.Ytobiedmmjiedlaa
open Go.RowKit

/-- What comes of a procedure's check. -/
def CpR (A : Nat → Prop) (w : World) (p : Nat) (qa : Option Addr) (qc : Nat) (ps : List Sy.Pc) (j : Nat) (iv im : Value) (r : Option Int × Int) (e : Ending) (w' : World) : Prop :=
  e = ckEndU r.1 ∧ ∃ va vc vs iv' im', Cks A w' p va vc vs r.2 qa qc ps j iv' im' ∧ PS p w iv im w' iv' im' ∧ (r.1 = none → ∃ vvs', Inf w' p iv' im' ps (j + 1) (j + 1) vvs')
/-- Behind the block: the checker, what it found out, and the procedure's box. -/
structure Cpq (A : Nat → Prop) (w : World) (p : Nat) (iv im : Value) (va : Option Addr) (vc : Nat) (x : Sy.Pc) (qa : Option Addr) (qc : Nat) (ps : List Sy.Pc) (j : Nat) (ba : Option Addr) (bc : Nat) (bx : Nat) (wx : World) (iv' im' : Value) (jv jm : Nat) (vvs : List Value) : Prop where
  c : Cks A wx p va vc (ckVs x) (Sy.cts x.body) qa qc ps j iv' im'
  i : Inf wx p iv' im' ps jv jm vvs
  s : PS p w iv im wx iv' im'
  v : VaX wx p iv' im' va (ckVs x)
  b2 : wx.cell? ⟨bx, 2, none⟩ = some (.int .i64 x.type)
  b3 : wx.cell? ⟨bx, 3, none⟩ = some (.slice ba x.body.length bc)
  lt : bx < wx.heap.size
  n1 : ¬ iv'.ownBlock = some bx
  n2 : ¬ im'.ownBlock = some bx
theorem Cpq.next {A : Nat → Prop} {w : World} {p : Nat} {iv im : Value} {va : Option Addr} {vc : Nat} {x : Sy.Pc} {qa : Option Addr} {qc : Nat} {ps : List Sy.Pc} {j : Nat} {ba : Option Addr} {bc : Nat} {bx : Nat} {wx wy : World} {iv' im' iv2 im2 : Value} {jv jm jv2 jm2 : Nat} {vvs vv2 : List Value} (hp : p < bx) (h : Cpq A w p iv im va vc x qa qc ps j ba bc bx wx iv' im' jv jm vvs) (c : Cks A wy p va vc (ckVs x) (Sy.cts x.body) qa qc ps j iv2 im2) (i : Inf wy p iv2 im2 ps jv2 jm2 vv2) (s : PS p wx iv' im' wy iv2 im2) : Cpq A w p iv im va vc x qa qc ps j ba bc bx wy iv2 im2 jv2 jm2 vv2 := by
  have k := s.far bx h.lt (by omega) h.n1 h.n2
  exact ⟨c, i, h.s.trans s, h.v.ps s, (World.cell?_of_block (w := wx) (a := ⟨bx, 2, none⟩) k.1).trans h.b2, (World.cell?_of_block (w := wx) (a := ⟨bx, 3, none⟩) k.1).trans h.b3, Nat.lt_of_lt_of_le h.lt s.size, k.2.1, k.2.2⟩
set_option maxRecDepth 100000 in
set_option maxHeartbeats 8000000 in
theorem ckProc_any (A : Nat → Prop) (p : Nat) (qa : Option Addr) (qc : Nat) (ps : List Sy.Pc) (j : Nat) (x : Sy.Pc) (pa : Option Addr) (pc : Nat) (ba : Option Addr) (bc : Nat) (vvs : List Value) (va0 : Option Addr) (vc0 : Nat) (vs0 : List CkVa) (m0 : Int) (iv im : Value) (w : World)
    (hC : Cks A w p va0 vc0 vs0 m0 qa qc ps j iv im) (hA : ∀ g, A g → g < p) (hI : Inf w p iv im ps j j vvs) (hx : ps[j]? = some x) (hpa : PaS A w (.slice pa x.params.length pc) x.params) (hb : SmS A w (.slice ba x.body.length bc) x.body) (hl : x.params.length + Sy.cts x.body ≤ 1000000) (hbd : ∀ s, s ∈ x.body → Sy.Bd s) (r : Option Int × Int) (hr : r = ckPr ps x) :
    Calls Try.prog 39 #[.pointer (some ⟨p, 0, none⟩), pcV x pa pc ba bc] w (CpR A w p qa qc ps j iv im r) := by
  have HC : Hid (Cks A w p va0 vc0 vs0 m0 qa qc ps j iv im) := hC
  have HA : Hid (∀ g, A g → g < p) := hA
  have HI : Hid (Inf w p iv im ps j j vvs) := hI
  have HX : Hid (ps[j]? = some x) := hx
  have HB : Hid (SmS A w (.slice ba x.body.length bc) x.body) := hb
  have HL : Hid (x.params.length + Sy.cts x.body ≤ 1000000) := hl
  have HD : Hid (∀ s, s ∈ x.body → Sy.Bd s) := hbd
  have HR : Hid (r = ckPr ps x) := hr
  have hpw := hC.lt
  have EV : Hid _ := ckVars_any A x pa pc ba bc (w.alloc (pcB x pa pc ba bc)) (hpa.later (box_below w _) (Nat.le_refl _)) (hb.later (box_below w _) (Nat.le_refl _)) hl
  have hjl : j < ps.length := (List.getElem?_eq_some_iff.1 hx).1
  have hpl := hC.ln
  have HJ : Hid (j + 1 ≤ 1000000) := (by omega : j + 1 ≤ 1000000)
  clear hC hA hI hx hpa hb hl hbd hr hjl hpl
  obtain ⟨i0, hi, hz0, hz1, hz2⟩ := info_parts infoVas
  obtain ⟨j0, hj, hy0, hy1, hy2⟩ := info_parts infoI
  unfold pcV at EV ⊢
  go_enter Try.func39, Try.ntmps39
  go_wp2_with fail
  refine Calls.mono EV.out ?_
  rintro e1 w1 ⟨va, vc, rfl, hvs, hge, b1⟩
  have bw1 : Below w.heap.size w w1 := (box_below w (pcB x pa pc ba bc)).trans (b1.mono (by simp))
  obtain ⟨q0, q1, q2, q3, q4, q5⟩ := (HC.out.later bw1).cell
  have f0 := (HC.out.later bw1).frozen 0
  have f1 := (HC.out.later bw1).frozen 1
  obtain ⟨bx, hbx⟩ : ∃ bx, bx = w.heap.size := ⟨_, rfl⟩
  have hpb : p < bx := by omega
  obtain ⟨W2, hW2⟩ : ∃ W2, W2 = (w1.setCell ⟨p, 0, none⟩ (.slice va (ckVs x).length vc)).setCell ⟨p, 1, none⟩ (.int .i64 0) := ⟨_, rfl⟩
  have zb1 : bx < w1.heap.size := by rw [hbx]; exact Nat.lt_of_lt_of_le (by simp) b1.size
  have K2 : Hid (Keep (fun g => g = p) w W2) := by
    rw [hW2]
    exact ((Keep.of_below bw1 (Nat.le_refl _) : Keep (fun g => g = p) w w1).set (a := ⟨p, 0, none⟩) (.inr rfl) _).set (a := ⟨p, 1, none⟩) (.inr rfl) _
  have k12 : Keep (fun g => g = p) w1 W2 := by
    rw [hW2]
    exact (Keep.set (D := fun g => g = p) (Keep.refl (fun g => g = p) w1) (a := ⟨p, 0, none⟩) (.inr rfl) _).set (a := ⟨p, 1, none⟩) (.inr rfl) _
  have hge2 : ∀ g o, va = some ⟨g, o, none⟩ → w.heap.size < g := fun g o e => by have := hge g o e; simp at this; omega
  have C2 : Hid (Cks A W2 p va vc (ckVs x) 0 qa qc ps j iv im) := by
    have cc := HC.out.later bw1
    refine ⟨?_, hvs.keep (fun g o e => by have := hge2 g o e; omega) k12, fun g o e => by have := hge2 g o e; omega, cc.pr.keep (fun _ _ a => a) (fun q ha hq => k12.cell hq (by have := HA.out _ ha; omega)) k12.size, cc.ln⟩
    rw [hW2]
    exact heap_setCell_same _ _ _ _ _ _ (heap_setCell_same _ _ _ _ _ _ cc.hb)
  have I2 : Hid (Inf W2 p iv im ps j j vvs) := HI.out.kp K2.out
  have V2 : Hid (VaX W2 p iv im va (ckVs x)) := ⟨C2.out.vr, fun _ g o e => by
    have hh := hge2 g o e
    refine ⟨by omega, fun e2 => ?_, fun e2 => ?_⟩
    · have := (World.ownsRow.lt HI.out.rv _ e2).2; omega
    · have := (World.ownsRow.lt HI.out.rm _ e2).2; omega⟩
  have s0 : W2.cell? ⟨bx, 0, none⟩ = some (.string ⟨x.name.toArray⟩) := (k12.cell (q := ⟨bx, 0, none⟩) zb1 (by simp only; omega)).trans ((b1.cell (p := ⟨bx, 0, none⟩) (by rw [hbx]; simp)).trans (by rw [hbx]; simp [go_sem]))
  have s1 : W2.cell? ⟨bx, 1, none⟩ = some (.slice pa x.params.length pc) := (k12.cell (q := ⟨bx, 1, none⟩) zb1 (by simp only; omega)).trans ((b1.cell (p := ⟨bx, 1, none⟩) (by rw [hbx]; simp)).trans (by rw [hbx]; simp [go_sem]))
  have s2 : W2.cell? ⟨bx, 2, none⟩ = some (.int .i64 x.type) := (k12.cell (q := ⟨bx, 2, none⟩) zb1 (by simp only; omega)).trans ((b1.cell (p := ⟨bx, 2, none⟩) (by rw [hbx]; simp)).trans (by rw [hbx]; simp [go_sem]))
  have s3 : W2.cell? ⟨bx, 3, none⟩ = some (.slice ba x.body.length bc) := (k12.cell (q := ⟨bx, 3, none⟩) zb1 (by simp only; omega)).trans ((b1.cell (p := ⟨bx, 3, none⟩) (by rw [hbx]; simp)).trans (by rw [hbx]; simp [go_sem]))
  have zb2 : bx < W2.heap.size := Nat.lt_of_lt_of_le zb1 k12.size
  have NB : Hid (¬ iv.ownBlock = some bx ∧ ¬ im.ownBlock = some bx) := ⟨fun e2 => by have := (World.ownsRow.lt HI.out.rv _ e2).2; omega, fun e2 => by have := (World.ownsRow.lt HI.out.rm _ e2).2; omega⟩
  have Q4n : Hid ((∀ g, iv.ownBlock = some g → ¬ g < p) ∧ (∀ g, im.ownBlock = some g → ¬ g < p)) := ⟨fun g e => by have := (World.ownsRow.lt HI.out.rv _ e).1; omega, fun g e => by have := (World.ownsRow.lt HI.out.rm _ e).1; omega⟩
  clear hvs hge hge2 b1 bw1 k12 HC HI EV
  go_upto_region 2 with fail
  rw [← hW2, ← hbx]
  clear hW2 hbx q0 q1 q2 q3 q4 q5 f0 f1 zb1
  have ED : Hid (Calls Try.prog 64 #[.pointer (some ⟨p, 0, none⟩), .agg #[.string ⟨x.name.toArray⟩, .slice pa x.params.length pc, .int .i64 x.type, .slice ba x.body.length bc]] W2 fun e w' => e = ckEndU (ckDcl x.params.length (ckVs x)) ∧ Below W2.heap.size W2 w') := ckDecls_any p va vc (ckVs x) 0 x pa pc ba bc W2 C2.out.ckr.s
  go_wp2_with fail
  refine Calls.mono ED.out ?_
  rintro e3 w3 ⟨rfl, b3⟩
  have C3 : Hid (Cks A w3 p va vc (ckVs x) 0 qa qc ps j iv im) := C2.out.later b3
  have k23 : Keep (fun g => g = p) W2 w3 := Keep.of_below b3 (Nat.le_refl _)
  have K3 : Hid (Keep (fun g => g = p) w w3) := K2.out.trans k23
  have I3 : Hid (Inf w3 p iv im ps j j vvs) := I2.out.kp k23
  have V3 : Hid (VaX w3 p iv im va (ckVs x)) := V2.out.ps (PS.of_keep iv im k23)
  have t2 := (b3.cell (p := ⟨bx, 2, none⟩) zb2).trans s2
  have t3 := (b3.cell (p := ⟨bx, 3, none⟩) zb2).trans s3
  have zb3 : bx < w3.heap.size := Nat.lt_of_lt_of_le zb2 b3.size
  clear b3 k23 ED s0 s1 s2 s3 C2 K2 I2 V2
  cases hd : ckDcl x.params.length (ckVs x) with
  | some er =>
    have hr : r = (some er, 0) := by rw [HR.out]; unfold ckPr; rw [hd]
    subst hr
    clear HR hd
    show _
    unfold ckEndU ckPan
    go_wp2_with fail
    exact ⟨rfl, rfl, va, vc, ckVs x, iv, im, C3.out, PS.of_keep iv im K3.out, fun h => by cases h⟩
  | none =>
    have HR2 : Hid (r = match ckBs (ckVs x) ps x.type x.body 0 with | (some er, m) => (some er, m) | (none, m) => if x.type = 0 ∨ ckRs x.body = true then (none, m + 1) else (some 43, m + 1)) := by
      have := HR.out
      unfold ckPr at this
      rw [hd] at this
      exact this
    clear HR hd
    show _
    unfold ckEndU
    go_wp2_with fail
    refine Calls.mono (ckBlk_any x.body HD.out A ba bc p va vc (ckVs x) 0 qa qc ps j iv im x w3 C3.out HA.out HX.out (HB.out.kpp HA.out K3.out) (Int.le_refl _) (by have := HL.out; omega) _ rfl) ?_
    rintro e4 w4 ⟨rfl, C4', k34⟩
    have K4 : Hid (Keep (fun g => g = p) w w4) := K3.out.trans k34
    match h2 : ckBs (ckVs x) ps x.type x.body 0 with
    | (some er, m4) =>
      rw [h2] at C4'
      have C4 : Hid (Cks A w4 p va vc (ckVs x) m4 qa qc ps j iv im) := C4'
      have hr : r = (some er, m4) := by rw [HR2.out, h2]
      subst hr
      clear HR2 h2 C4' k34
      show _
      unfold ckEndU ckPan
      go_wp2_with fail
      exact ⟨rfl, rfl, va, vc, ckVs x, iv, im, C4.out, PS.of_keep iv im K4.out, fun h => by cases h⟩
    | (none, m4) =>
      have e4 := ckBs_ok h2
      rw [Int.zero_add] at e4
      subst e4
      rw [h2] at C4'
      have HR3 : Hid (r = if x.type = 0 ∨ ckRs x.body = true then (none, (Sy.cts x.body : Int) + 1) else (some 43, (Sy.cts x.body : Int) + 1)) := by rw [HR2.out, h2]; rfl
      have Q4 : Hid (Cpq A w p iv im va vc x qa qc ps j ba bc bx w4 iv im j j vvs) := ⟨C4', I3.out.kp k34, PS.of_keep iv im K4.out, V3.out.ps (PS.of_keep iv im k34), (k34.cell (q := ⟨bx, 2, none⟩) zb3 (by simp only; omega)).trans t2, (k34.cell (q := ⟨bx, 3, none⟩) zb3 (by simp only; omega)).trans t3, Nat.lt_of_lt_of_le zb3 k34.size, NB.out.1, NB.out.2⟩
      clear HR2 h2 C4' k34 K3 I3 V3 C3 t2 t3 zb3 zb2 NB
      show _
      unfold ckEndU
      go_upto_region 4 with fail
      go_cut [33] from 21 to 36 (fun s wx => ∃ iv', s = iv' ∧ Cpq A w p iv im va vc x qa qc ps j ba bc bx wx iv' im (j + 1) j (vvs ++ [.slice va (ckVs x).length vc]))
      case first =>
        obtain ⟨ia, ic, hiv⟩ := own_shape Q4.out.i.rv
        obtain ⟨iv0, hiv0⟩ : ∃ iv0, iv0 = iv := ⟨_, rfl⟩
        have p4 := Q4.out.c.cell.2.2.2.2.1
        have p0 := Q4.out.c.cell.1
        have fp4 := Q4.out.c.frozen 4
        have hp4 := Q4.out.c.lt
        have np4 : ¬ p = w4.heap.size := by omega
        have nv4 : Hid (¬ iv.ownBlock = some p) := fun e => by have := (World.ownsRow.lt Q4.out.i.rv _ e).1; omega
        rw [hiv] at p4
        go_region_law (first
          | (rw [if_pos (by rfl)]; refine wp_append_told _ _ 43 rfl (p + 1) 55 i0 (.slice none 0 0) 1 24 Try.underlying43 hi hz0 hz1 hz2 rfl (by decide) _ _ _ rfl (by rw [← hiv]; exact own_later Q4.out.i.rv (by go_grown)) ⟨w4.heap.size, 0, none⟩ 1 1 [.slice va (ckVs x).length vc] rfl rfl (one_cell_i _ _ _) (by intro y hy; simp at hy; subst hy; rfl) (by have := HJ.out; unfold maxLen; omega) (by have := HJ.out; omega) (by simp; omega) (by decide) ?_; intro iv8 w8 h8 g8 o8; rw [← hiv] at g8 o8; have kp := g8.block p (by simp; omega) (fun e => nv4.out e.symm); have q8 : w8.cell? ⟨p, 4, none⟩ = some (.slice ia j ic) := (World.cell?_of_block kp).trans (by simp [go_sem, p4, hp4]); have r8 : w8.frozen? ⟨p, 4, none⟩ = false := (World.frozen?_of_block kp).trans (by simp [go_sem, fp4, hp4]); obtain ⟨ia8, ic8, hv8⟩ := own_shape h8; subst hv8))
        all_goals
          have M8 := Q4.out.c.addV HA.out Q4.out.i HX.out Q4.out.v (by go_grown) h8 g8 (o8.imp id fun ⟨g, h, h3⟩ => ⟨g, h, by simpa using h3⟩)
          have Q5 : Hid (Cpq A w p iv im va vc x qa qc ps j ba bc bx (w8.setCell ⟨p, 4, none⟩ (.slice ia8 (j + 1) ic8)) (.slice ia8 (j + 1) ic8) im (j + 1) j (vvs ++ [.slice va (ckVs x).length vc])) := Q4.out.next hpb M8.1 M8.2.1 M8.2.2
          clear M8 h8 g8 o8 kp q8 r8
          go_wp2_with fail
          go_meet
          exact ⟨_, rfl, Q5.out⟩
      case rest =>
        obtain ⟨iv5, hiv5, Q5'⟩ := hcut
        have Q5 : Hid (Cpq A w p iv im va vc x qa qc ps j ba bc bx wc iv5 im (j + 1) j (vvs ++ [.slice va (ckVs x).length vc])) := Q5'
        clear Q5' Q4 hiv5
        go_upto_region 5 with fail
        obtain ⟨w5, hw5⟩ : ∃ w5, w5 = wc := ⟨_, rfl⟩
        rw [← hw5] at Q5 ⊢
        clear hw5
        go_cut [49] from 37 to 52 (fun s wx => ∃ im', s = im' ∧ Cpq A w p iv im va vc x qa qc ps j ba bc bx wx iv5 im' (j + 1) (j + 1) (vvs ++ [.slice va (ckVs x).length vc]))
        case first =>
          obtain ⟨ia, ic, him⟩ := own_shape Q5.out.i.rm
          have p5 := Q5.out.c.cell.2.2.2.2.2
          have p1 := Q5.out.c.cell.2.1
          have fp5 := Q5.out.c.frozen 5
          have hp5 := Q5.out.c.lt
          have np5 : ¬ p = w5.heap.size := by omega
          have nv5 : Hid (¬ im.ownBlock = some p) := fun e => by have := (World.ownsRow.lt Q5.out.i.rm _ e).1; omega
          rw [him] at p5
          go_region_law (first
            | (rw [if_pos (by rfl)]; refine wp_append_told _ _ 44 rfl (p + 1) 3 j0 (.int .i64 0) 1 8 Try.underlying44 hj hy0 hy1 hy2 rfl (by decide) _ _ _ rfl (by rw [← him]; exact own_later Q5.out.i.rm (by go_grown)) ⟨w5.heap.size, 0, none⟩ 1 1 [.int .i64 (Sy.cts x.body : Int)] rfl rfl (one_cell_i _ _ _) (by intro y hy; simp at hy; subst hy; rfl) (by have := HJ.out; unfold maxLen; omega) (by have := HJ.out; omega) (by simp; omega) (by decide) ?_; intro iv8 w8 h8 g8 o8; rw [← him] at g8 o8; have kp := g8.block p (by simp; omega) (fun e => nv5.out e.symm); have q8 : w8.cell? ⟨p, 5, none⟩ = some (.slice ia j ic) := (World.cell?_of_block kp).trans (by simp [go_sem, p5, hp5]); have r8 : w8.frozen? ⟨p, 5, none⟩ = false := (World.frozen?_of_block kp).trans (by simp [go_sem, fp5, hp5]); obtain ⟨ia8, ic8, hv8⟩ := own_shape h8; subst hv8))
          all_goals
            have M8 := Q5.out.c.addM HA.out Q5.out.i HX.out Q5.out.v (by go_grown) h8 g8 (o8.imp id fun ⟨g, h, h3⟩ => ⟨g, h, by simpa using h3⟩)
            have Q6 : Hid (Cpq A w p iv im va vc x qa qc ps j ba bc bx (w8.setCell ⟨p, 5, none⟩ (.slice ia8 (j + 1) ic8)) iv5 (.slice ia8 (j + 1) ic8) (j + 1) (j + 1) (vvs ++ [.slice va (ckVs x).length vc])) := Q5.out.next hpb M8.1 M8.2.1 M8.2.2
            clear M8 h8 g8 o8 kp q8 r8
            go_wp2_with fail
            go_meet
            exact ⟨_, rfl, Q6.out⟩
        case rest =>
          obtain ⟨im6, him6, Q6'⟩ := hcut
          have Q6 : Hid (Cpq A w p iv im va vc x qa qc ps j ba bc bx wc iv5 im6 (j + 1) (j + 1) (vvs ++ [.slice va (ckVs x).length vc])) := Q6'
          clear Q6' Q5 him6
          obtain ⟨w6, hw6⟩ : ∃ w6, w6 = wc := ⟨_, rfl⟩
          rw [← hw6] at Q6 ⊢
          clear hw6
          obtain ⟨M, hM⟩ : ∃ M : Int, M = (Sy.cts x.body : Int) := ⟨_, rfl⟩
          have p1 := Q6.out.c.cell.2.1
          rw [← hM] at p1
          have wm : wrap64 (M + 1) = M + 1 := by have := HL.out; unfold wrap64; omega
          have fp1 := Q6.out.c.frozen 1
          have hp6 := Q6.out.c.lt
          obtain ⟨W7, hW7⟩ : ∃ W7, W7 = w6.setCell ⟨p, 1, none⟩ (.int .i64 (M + 1)) := ⟨_, rfl⟩
          have mk7 := Q6.out.c.mark HA.out (M + 1)
          rw [← hW7] at mk7
          have C7 : Hid (Cks A W7 p va vc (ckVs x) (M + 1) qa qc ps j iv5 im6) := mk7.1
          have I7 : Hid (Inf W7 p iv5 im6 ps (j + 1) (j + 1) (vvs ++ [.slice va (ckVs x).length vc])) := Q6.out.i.kp mk7.2
          have P7 : Hid (PS p w iv im W7 iv5 im6) := Q6.out.s.trans (PS.of_keep iv5 im6 mk7.2)
          have u2 := (mk7.2.cell (q := ⟨bx, 2, none⟩) Q6.out.lt (by simp only; omega)).trans Q6.out.b2
          have u3 := (mk7.2.cell (q := ⟨bx, 3, none⟩) Q6.out.lt (by simp only; omega)).trans Q6.out.b3
          have S7 : Hid (SmS A W7 (.slice ba x.body.length bc) x.body) := HB.out.keep (fun _ _ a => a) (fun q ha hq => World.cell?_of_block (w := w) (P7.out.far q.block hq (by have := HA.out _ ha; omega) (fun e => by
            rcases Q4n.out with ⟨a1, _⟩
            exact a1 q.block e (HA.out _ ha)) (fun e => by
            rcases Q4n.out with ⟨_, a2⟩
            exact a2 q.block e (HA.out _ ha))).1) P7.out.size
          have HR4 : Hid (r = if x.type = 0 ∨ ckRs x.body = true then (none, M + 1) else (some 43, M + 1)) := by rw [hM]; exact HR3.out
          clear mk7 HR3 hM Q6
          go_upto_region 7 with fail
          rw [← hW7]
          clear hW7 p1 fp1
          by_cases ht : x.type = 0
          · have bt : (x.type == 0) = true := beq_iff_eq.2 ht
            have hr : r = (none, M + 1) := by rw [HR4.out, if_pos (.inl ht)]
            subst hr
            clear HR4 ht
            go_wp2_with fail
            refine Calls.mono (ckMust_yes _ _) ?_
            rintro e9 w9 ⟨rfl, rfl⟩
            go_wp2_with fail
            go_end0
            exact ⟨rfl, va, vc, ckVs x, iv5, im6, C7.out, P7.out, fun _ => ⟨_, I7.out⟩⟩
          · have bt : (x.type == 0) = false := beq_eq_false_iff_ne.2 ht
            have hlb : x.body.length ≤ 1000000000000000 := by have := HL.out; have := Sy.len_cts x.body; omega
            have ER : Hid _ := ckRet_any x.body HD.out A ba bc W7 hlb S7.out
            clear hlb
            cases hq : ckRs x.body with
            | true =>
              have hr : r = (none, M + 1) := by rw [HR4.out, if_pos (.inr hq)]
              rw [hq] at ER
              subst hr
              clear HR4 ht hq
              go_wp2_with fail
              refine Calls.mono ER.out ?_
              rintro e8 w8 ⟨rfl, b8⟩
              have C8 : Hid (Cks A w8 p va vc (ckVs x) (M + 1) qa qc ps j iv5 im6) := C7.out.later b8
              have k8 : Keep (fun g => g = p) W7 w8 := Keep.of_below b8 (Nat.le_refl _)
              have I8 : Hid (Inf w8 p iv5 im6 ps (j + 1) (j + 1) (vvs ++ [.slice va (ckVs x).length vc])) := I7.out.kp k8
              have P8 : Hid (PS p w iv im w8 iv5 im6) := P7.out.trans (PS.of_keep iv5 im6 k8)
              clear b8 k8
              go_wp2_with fail
              refine Calls.mono (ckMust_yes _ _) ?_
              rintro e9 w9 ⟨rfl, rfl⟩
              go_wp2_with fail
              go_end0
              exact ⟨rfl, va, vc, ckVs x, iv5, im6, C8.out, P8.out, fun _ => ⟨_, I8.out⟩⟩
            | false =>
              have hr : r = (some 43, M + 1) := by rw [HR4.out, if_neg (fun h => h.elim ht (fun h => by rw [hq] at h; cases h))]
              rw [hq] at ER
              subst hr
              clear HR4 ht hq
              go_wp2_with fail
              refine Calls.mono ER.out ?_
              rintro e8 w8 ⟨rfl, b8⟩
              have C8 : Hid (Cks A w8 p va vc (ckVs x) (M + 1) qa qc ps j iv5 im6) := C7.out.later b8
              have k8 : Keep (fun g => g = p) W7 w8 := Keep.of_below b8 (Nat.le_refl _)
              have P8 : Hid (PS p w iv im w8 iv5 im6) := P7.out.trans (PS.of_keep iv5 im6 k8)
              clear b8 k8
              go_wp2_with fail
              refine Calls.mono (ckMust_no _ _) ?_
              rintro e9 w9 ⟨rfl, b9⟩
              have C9 : Hid (Cks A w9 p va vc (ckVs x) (M + 1) qa qc ps j iv5 im6) := C8.out.later b9
              have P9 : Hid (PS p w iv im w9 iv5 im6) := P8.out.trans (PS.of_keep iv5 im6 (Keep.of_below b9 (Nat.le_refl _)))
              clear b9
              unfold ckPan
              go_wp2_with fail
              exact ⟨rfl, rfl, va, vc, ckVs x, iv5, im6, C9.out, P9.out, fun h => by cases h⟩
end Go.Proofs.Ytobiedmmjiedlaa
