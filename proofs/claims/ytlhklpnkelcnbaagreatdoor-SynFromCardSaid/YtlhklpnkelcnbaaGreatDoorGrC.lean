/- Layer 3: the reader of programs: a program of one procedure was read. -/
/- Layer 3: readProg. -/
/- Layer 3: readProg, Read. -/
/- Layer 3: Read and Parse, at a program of one procedure, and where a reading gives up. -/
/- Layer 3: the two fixed texts that the statements parse. -/
/- Layer 3: a program of one procedure, whose one statement prints, is right. -/
/- Layer 3: a program of one procedure, whose one statement prints, is written. -/
/- Layer 3: Print, of a program of one procedure whose one statement prints. -/
/- The fixed calls of layer 3's statements (known) come out true. -/
import Derived.Test.YtlhklpnkelcnbaaGreatDoorGrB
namespace Go.Proofs.YtlhklpnkelcnbaaGreatDoor
open Go.RowKit

/-- One procedure of a name, without parameters and answer, whose body is the slice sl, lies in block g. -/
structure P1 (w : World) (g : Nat) (nm : List UInt8) (sl : Value) : Prop where
  c0 : w.cell? ⟨g, 0, none⟩ = some (.string ⟨nm.toArray⟩)
  c1 : w.cell? ⟨g, 1, none⟩ = some (.slice none 0 0)
  c2 : w.cell? ⟨g, 2, none⟩ = some (.int .i64 0)
  c3 : w.cell? ⟨g, 3, none⟩ = some sl
  lt : g < w.heap.size
theorem P1.kept {w w' : World} {g : Nat} {nm : List UInt8} {sl : Value} (h : P1 w g nm sl) (e : w'.heap[g]? = w.heap[g]?) (hz : w.heap.size ≤ w'.heap.size) : P1 w' g nm sl :=
  ⟨(World.cell?_of_block (w := w) e).trans h.c0, (World.cell?_of_block (w := w) e).trans h.c1, (World.cell?_of_block (w := w) e).trans h.c2, (World.cell?_of_block (w := w) e).trans h.c3, Nat.lt_of_lt_of_le h.lt hz⟩
theorem P1.own {w : World} {base : Nat} {v : Value} {nm : List UInt8} {sl : Value} (h : w.ownsRow base 92 4 v 1 [.string ⟨nm.toArray⟩, .slice none 0 0, .int .i64 0, sl]) : ∃ g cap, v = .slice (some ⟨g, 0, none⟩) 1 cap ∧ 1 ≤ cap ∧ P1 w g nm sl := by
  have hc := @World.ownsRow.cells _ _ _ _ _ _ _ h
  have hl := World.ownsRow.lt h
  rcases h.2 with ⟨_, h0⟩ | ⟨g, cap, cur, rfl, hb, hh, hnc, _⟩
  · cases h0
  · have key : ∀ j u, [Value.string ⟨nm.toArray⟩, .slice none 0 0, .int .i64 0, sl][j]? = some u → w.cell? ⟨g, j, none⟩ = some u := by
      intro j u hu
      have e := @hc g rfl j u hu
      cases j with
      | zero => simpa [Addr.add] using e
      | succ j => simpa [Addr.add] using e
    exact ⟨g, cap, rfl, hnc, key 0 _ rfl, key 1 _ rfl, key 2 _ rfl, key 3 _ rfl, (hl g rfl).2⟩
/-- A program of one procedure, whose one statement prints y, lies in memory from block n on. -/
def GProg (n : Nat) (w : World) (val : Value) (nm : List UInt8) (y : Sx.Ex) : Prop :=
  ∃ g c gb cb sa, val = .agg #[.slice (some ⟨g, 0, none⟩) 1 c] ∧ 1 ≤ c ∧ 1 ≤ cb ∧ n ≤ g ∧ n ≤ gb ∧ P1 w g nm (.slice (some ⟨gb, 0, none⟩) 1 cb) ∧ S1 w gb 8 (.slice sa 1 1) ∧ ExS (fun g => n ≤ g) w (.slice sa 1 1) [y]
theorem GProg.below {n m : Nat} {w w' : World} {val : Value} {nm : List UInt8} {y : Sx.Ex} (h : GProg n w val nm y) (hb : ∀ g, n ≤ g → g < w.heap.size → w'.heap[g]? = w.heap[g]?) (hz : w.heap.size ≤ w'.heap.size) (hm : m ≤ n) : GProg m w' val nm y := by
  obtain ⟨g, c, gb, cb, sa, e, h1, h2, h3, h4, hp, hs, hx⟩ := h
  exact ⟨g, c, gb, cb, sa, e, h1, h2, Nat.le_trans hm h3, Nat.le_trans hm h4, hp.kept (hb g h3 hp.lt) hz, hs.kept (hb gb h4 hs.lt) hz, hx.keep (fun _ _ a => Nat.le_trans hm a) (fun q a hq => World.cell?_of_block (w := w) (hb _ a hq)) hz⟩
theorem Pv.kept {w w' : World} {p r : Nat} {v : Value} {us : List Value} (h : Pv w p v us) (hg : w.grownBy w' (some r)) (h1 : r ≠ p) (h2 : ¬ v.ownBlock = some r) : Pv w' p v us := by
  have e := hg.block p h.lt (fun e => h1 (Option.some.inj e).symm)
  exact ⟨(World.cell?_of_block (w := w) (a := ⟨p, 2, none⟩) e).trans h.c2, (World.frozen?_of_block (w := w) (a := ⟨p, 2, none⟩) e).trans h.f2, World.ownsRow.kept h.ov hg (.inr h2), Nat.lt_of_lt_of_le h.lt hg.size, h.bd⟩
theorem PV.below' {p : Nat} {w w' w'' : World} {v v' u' : Value} (h : PV p w v w' v' u') (b : Below w'.heap.size w' w'') : PV p w v w'' v' u' :=
  ⟨b.os.trans h.os, b.tape.trans h.tape, b.output.trans h.output, Nat.le_trans h.size b.size, fun g hg h0 h1 => by
    obtain ⟨a, c, d⟩ := h.far g hg h0 h1
    exact ⟨(b.block g (Nat.lt_of_lt_of_le hg h.size)).trans a, c, d⟩⟩
/-- Behind the first round of prog. -/
structure Mid (w : World) (p b o cap : Nat) (ts : List Tok) (k1 : Nat) (v : Value) (us : List Value) (nm : List UInt8) (y : Sx.Ex) (val : Value) (W : World) : Prop where
  b0 : B1 W w.heap.size (.slice none 0 0)
  b1 : B1 W (w.heap.size + 1) val
  rd : Rd W p b o cap ts k1
  hk : k1 < ts.length
  gp : GProg (w.heap.size + 2) W (.agg #[val]) nm y
  pv : ∃ v' u', Pv W p v' (us ++ [u']) ∧ PV p w v W v' u' ∧ ¬ v'.ownBlock = some w.heap.size
theorem Mid.of {w w1 w2 w3 : World} {p b o cap : Nat} {ts : List Tok} {k1 : Nat} {v v2 u2 : Value} {us : List Value} {nm : List UInt8} {y : Sx.Ex} {gb cb gc cc : Nat} {sa : Option Addr} (W1 : Below w.heap.size w w1) (Q : B1 w1 (w.heap.size + 1) (.slice none 0 0)) (Q' : B1 w1 w.heap.size (.slice none 0 0)) (nv : ¬ v.ownBlock = some (w.heap.size + 1) ∧ ¬ v.ownBlock = some w.heap.size) (np : p < w.heap.size) (nb : b < w.heap.size)
    (hcb : 1 ≤ cb) (S2 : S1 w2 gb 8 (.slice sa 1 1)) (hg2 : w1.heap.size ≤ gb) (V2 : Pv w2 p v2 (us ++ [u2])) (P2 : PV p w1 v w2 v2 u2) (r2 : Rd w2 p b o cap ts k1) (hl2 : k1 < ts.length) (X2 : ExS (fun g => w1.heap.size ≤ g ∧ ¬ v2.ownBlock = some g ∧ ¬ u2.ownBlock = some g) w2 (.slice sa 1 1) [y])
    (bb : Below w2.heap.size w2 w3) (hgc : w2.heap.size ≤ gc) (hcc : 1 ≤ cc) (P3 : P1 w3 gc nm (.slice (some ⟨gb, 0, none⟩) 1 cb)) :
    Mid w p b o cap ts k1 v us nm y (.slice (some ⟨gc, 0, none⟩) 1 cc) (w3.setCell ⟨w.heap.size + 1, 0, none⟩ (.slice (some ⟨gc, 0, none⟩) 1 cc)) := by
  have z1 := Q.lt
  have k2 := P2.far (w.heap.size + 1) Q.lt (by omega) nv.1
  have k2' := P2.far w.heap.size Q'.lt (by omega) nv.2
  have q3 := (Q.kept k2.1 P2.size).kept (bb.block _ (Q.kept k2.1 P2.size).lt) bb.size
  have q3' := (Q'.kept k2'.1 P2.size).kept (bb.block _ (Q'.kept k2'.1 P2.size).lt) bb.size
  have g4 := set_grown w3 ⟨w.heap.size + 1, 0, none⟩ (.slice (some ⟨gc, 0, none⟩) 1 cc)
  have zz := P2.size
  refine ⟨q3'.kept (g4.block _ q3'.lt (fun e => by have := Option.some.inj e; simp only at this; omega)) g4.size, ⟨World.cell?_setCell_same _ _ _ q3.c, by rw [World.frozen?_setCell]; exact q3.f, by simpa using q3.lt⟩, (r2.later bb).kept g4 (by simp only; omega) (by simp only; omega), hl2, ?_, v2, u2, (V2.later bb).kept g4 (by simp only; omega) k2.2.1, ((P2.from W1).below' bb).grown g4 (by simp), k2'.2.1⟩
  refine ⟨gc, cc, gb, cb, sa, rfl, hcc, hcb, by omega, by omega, P3.kept (g4.block _ P3.lt (fun e => by have := Option.some.inj e; simp only at this; omega)) g4.size, (S2.kept (bb.block _ S2.lt) bb.size).kept (g4.block _ (Nat.lt_of_lt_of_le S2.lt bb.size) (fun e => by have := Option.some.inj e; simp only at this; omega)) g4.size, ?_⟩
  exact ((X2.later bb (Nat.le_refl _)).set (a := ⟨w.heap.size + 1, 0, none⟩) (fun e => by have := e.1; simp only at this; omega) _).mono fun g _ hg => by have := hg.1; omega
set_option maxRecDepth 100000 in
set_option maxHeartbeats 4000000 in
theorem prog_one (w : World) (p b o cap : Nat) (ts : List Tok) (k k1 : Nat) (v : Value) (us : List Value) (x x1 : Tok) (nm : List UInt8) (y : Sx.Ex) (hx : Rn w p b o cap ts k x) (hx0 : ¬ x.1.kind = 0) (hk1 : ts.getD k1 tok0 = x1) (hx1 : x1.1.kind = 0) (hv : Pv w p v us)
    (hP : ∀ W, Rd W p b o cap ts k → Pv W p v us → Calls Tryz.prog 96 #[.pointer (some ⟨p, 0, none⟩)] W (POk p b o cap ts W v us nm y k1)) :
    Calls Tryz.prog 71 #[.pointer (some ⟨p, 0, none⟩)] w fun e w' => ∃ val v' u', e = .returned val ∧ GProg w.heap.size w' val nm y ∧ Pv w' p v' (us ++ [u']) ∧ PV p w v w' v' u' := by
  have H : Hid _ := hx
  have HV : Hid _ := hv
  have HP : Hid (∀ W, Rd W p b o cap ts k → Pv W p v us → Calls Tryz.prog 96 #[.pointer (some ⟨p, 0, none⟩)] W (POk p b o cap ts W v us nm y k1)) := hP
  have HK1 : Hid (ts.getD k1 tok0 = x1) := hk1
  have bk : (x.1.kind != 0) = true := by simpa using hx0
  have bk1 : (x1.1.kind != 0) = false := by rw [hx1]; rfl
  have bV : Below w.heap.size w ((w.alloc (.cells #[.slice none 0 0] 43)).alloc (.cells #[.slice none 0 0] 43)) := by go_grown
  have BV : Hid _ := bV
  have hp := hv.lt
  obtain ⟨i0, hi, hz0, hz1, hz2⟩ := info_parts infoPc
  clear hx hv hP hx0 bV hk1 hx1
  go_enter Tryz.func71, Tryz.ntmps71
  go_wp2_with fail
  refine wp_loop_rounds 2 ?_
  rw [rounds_succ]
  go_wp2_with fail
  refine (now_any _ p b o cap ts k x (H.out.later BV.out)).mono ?_
  rintro e w1 ⟨rfl, b1⟩
  unfold tokA
  have kf := fldK
  have W1 : Hid (Below w.heap.size w w1) := BV.out.trans (b1.mono BV.out.size)
  have q := (B1.new (w.alloc (.cells #[.slice none 0 0] 43)) 43 (.slice none 0 0)).kept (b1.block _ (by simp)) b1.size
  have q' := ((B1.new w 43 (.slice none 0 0)).kept ((box_below (w.alloc (.cells #[.slice none 0 0] 43)) (.cells #[.slice none 0 0] 43)).block _ (by simp)) (by simp)).kept (b1.block _ (by simp; omega)) b1.size
  rw [World.size_alloc] at q
  have Q : Hid _ := q
  have Q' : Hid _ := q'
  obtain ⟨c0, f0, z0⟩ := q
  have nv0 : Hid (¬ v.ownBlock = some (w.heap.size + 1) ∧ ¬ v.ownBlock = some w.heap.size) := ⟨fun e => by have := (World.ownsRow.lt HV.out.ov _ e).2; omega, fun e => by have := (World.ownsRow.lt HV.out.ov _ e).2; omega⟩
  have np0 : Hid (w.heap.size + 1 ≠ p ∧ w.heap.size ≠ p) := ⟨by omega, by omega⟩
  clear b1 BV q'
  go_wp2_with fail
  go_region_law (first
    | (go_simp; go_at_call 96; refine (HP.out _ (H.out.rd.later ?_) (HV.out.later ?_)).mono ?_; exact W1.out.drew; exact W1.out.drew; rintro e w2 ⟨gb, cb, sa, v2, u2, rfl, hcb, S2, hg2, hv2, hu2, V2, P2, r2, hl2, X2⟩; have k2 := P2.far (w.heap.size + 1) Q.out.lt np0.out.1 nv0.out.1; have q2 := Q.out.kept k2.1 P2.size; have c0' := q2.c; have f0' := q2.f; have z0' := q2.lt; dsimp only)
    | (rw [if_pos (by rfl)]; refine wp_append_told _ _ 41 rfl w2.heap.size 92 i0 (.agg #[.string ⟨#[]⟩, .slice none 0 0, .int .i64 0, .slice none 0 0]) 4 72 Tryz.underlying41 hi hz0 hz1 hz2 rfl (by decide) (.slice none 0 0) 0 [] rfl (World.ownsRow_nil _ _ _ _) ⟨w2.heap.size, 0, none⟩ 1 1 [.string ⟨nm.toArray⟩, .slice none 0 0, .int .i64 0, .slice (some ⟨gb, 0, none⟩) 1 cb] rfl rfl (four_cells _ _ _ _ _ _) (by intro x hx; simp at hx; rcases hx with rfl | rfl | rfl | rfl <;> rfl) (by decide) (by decide) (by simp) (by decide) ?_; intro l1 w3 h3 g3 o3; have bb := (box_below w2 (.cells #[.string ⟨nm.toArray⟩, .slice none 0 0, .int .i64 0, .slice (some ⟨gb, 0, none⟩) 1 cb] 92)).trans ((Below.of_grown g3).mono (by simp)); have q3 := q2.kept (bb.block _ q2.lt) bb.size; have c0'' := q3.c; have f0'' := q3.f; have z0'' := q3.lt; obtain ⟨gc, cc, hl1, hcc, P3⟩ := P1.own (w := w3) (base := w2.heap.size) h3; subst hl1))
  all_goals
    have MI : Hid (Mid w p b o cap ts k1 v us nm y (.slice (some ⟨gc, 0, none⟩) 1 cc) (w3.setCell ⟨w.heap.size + 1, 0, none⟩ (.slice (some ⟨gc, 0, none⟩) 1 cc))) := Mid.of W1.out Q.out Q'.out nv0.out hp H.out.rd.ta.lt hcb S2 hg2 V2 ⟨P2.os, P2.tape, P2.output, P2.size, P2.far⟩ r2 hl2 X2 bb ((World.ownsRow.lt h3 gc rfl).1) hcc P3
    clear S2 hg2 hv2 hu2 V2 P2 r2 hl2 X2 k2 q2 c0' f0' z0' h3 g3 o3 bb q3 c0'' f0'' z0'' hcc P3 Q Q'
    go_wp2_with fail
    generalize w3.setCell ⟨w.heap.size + 1, 0, none⟩ (.slice (some ⟨gc, 0, none⟩) 1 cc) = W4 at *
    rw [rounds_succ]
    go_wp2_with fail
    refine (now_any _ p b o cap ts k1 x1 ⟨MI.out.rd, MI.out.hk, HK1.out⟩).mono ?_
    rintro e w5 ⟨rfl, b5⟩
    unfold tokA
    have t0 := MI.out.b0.kept (b5.block _ MI.out.b0.lt) b5.size
    have t1 := MI.out.b1.kept (b5.block _ MI.out.b1.lt) b5.size
    have PB : Hid (∃ v' u', GProg w.heap.size (w5.setCell ⟨w.heap.size, 0, none⟩ (.slice (some ⟨gc, 0, none⟩) 1 cc)) (.agg #[.slice (some ⟨gc, 0, none⟩) 1 cc]) nm y ∧ Pv (w5.setCell ⟨w.heap.size, 0, none⟩ (.slice (some ⟨gc, 0, none⟩) 1 cc)) p v' (us ++ [u']) ∧ PV p w v (w5.setCell ⟨w.heap.size, 0, none⟩ (.slice (some ⟨gc, 0, none⟩) 1 cc)) v' u') := by
      obtain ⟨v', u', hV, hPV, hn⟩ := MI.out.pv
      have g5 := set_grown w5 ⟨w.heap.size, 0, none⟩ (.slice (some ⟨gc, 0, none⟩) 1 cc)
      refine ⟨v', u', (MI.out.gp.below (m := w.heap.size + 2) (fun g _ hg => b5.block g hg) b5.size (Nat.le_refl _)).below (fun g hg hl => g5.block g hl (fun e => by have := Option.some.inj e; simp only at this; omega)) g5.size (by omega), (hV.later b5).kept g5 (by simp only; omega) hn, (hPV.below' b5).grown g5 (by simp)⟩
    obtain ⟨d0, e0, y0⟩ := t0
    obtain ⟨d1, e1, y1⟩ := t1
    clear b5 MI
    go_wp2_with fail
    refine bodyPost_ret (v := .agg #[.slice (some ⟨gc, 0, none⟩) 1 cc]) (by simp [results, Tryz.results71, go_sem, d0]) rfl ?_
    obtain ⟨v', u', hh⟩ := PB.out
    exact ⟨_, v', u', rfl, hh⟩
end Go.Proofs.YtlhklpnkelcnbaaGreatDoor

namespace Go.Proofs.YtlhklpnkelcnbaaGreatDoor
open Go.RowKit

theorem enter_rp (c : Array Value) (w : World) : (callFunc 70 c).run Tryz.prog w = .ok (.enter 70 c) w := by kernel_rfl
/-- What is asked of prog where it reads a program. -/
def PG (p : Nat) (nm : List UInt8) (y : Sx.Ex) (W : World) : Prop := Calls Tryz.prog 71 #[.pointer (some ⟨p, 0, none⟩)] W fun e w' => ∃ val v' u', e = .returned val ∧ GProg W.heap.size w' val nm y ∧ Pv w' p v' ([] ++ [u']) ∧ PV p W (.slice none 0 0) w' v' u'
def PGbad (p : Nat) (a er : Int) (W : World) : Prop := Calls Tryz.prog 71 #[.pointer (some ⟨p, 0, none⟩)] W fun e w' => e = pan a er ∧ ∃ v' u', PV p W (.slice none 0 0) w' v' u'
theorem PV.keep {p : Nat} {w w' : World} {v' u' : Value} (h : PV p w (.slice none 0 0) w' v' u') : Keep (fun g => g = p) w w' := ⟨h.os, h.tape, h.output, h.size, fun k hk hn => (h.far k hk hn (fun e => by cases e)).1⟩
/-- The program lies in the box pb. -/
def GRel (n pb : Nat) (nm : List UInt8) (y : Sx.Ex) (w' : World) : Prop := ∃ sl, GProg n w' (.agg #[sl]) nm y ∧ B1 w' pb sl
set_option maxRecDepth 100000 in
set_option maxHeartbeats 1000000 in
theorem readProg1_ok (p pb lb : Nat) (nm : List UInt8) (y : Sx.Ex) (V : World) (hG : PG p nm y V) (z0 z1 : Value) (h0 : B1 V pb z0) (h1 : B1 V lb z1) (n1 : pb ≠ p) (n2 : lb ≠ p) (n3 : pb ≠ lb) :
    Calls Tryz.prog 70 #[.pointer (some ⟨p, 0, none⟩), .pointer (some ⟨pb, 0, none⟩), .pointer (some ⟨lb, 0, none⟩)] V fun e w' => e = .returned (.tuple #[]) ∧ Keep (fun g => g = p ∨ g = pb ∨ g = lb) V w' ∧ (GRel V.heap.size pb nm y w' ∧ ∃ q, B1 w' lb q ∧ ∃ ao n c, q = .slice ao n c) := by
  have HG : Hid (PG p nm y V) := hG
  have H0 : Hid _ := h0
  have H1 : Hid _ := h1
  have N1 : Hid (pb ≠ p) := n1
  have N2 : Hid (lb ≠ p) := n2
  have m3 : ¬ pb = lb := n3
  have m3' : ¬ lb = pb := fun e => n3 e.symm
  clear hG h0 h1 n1 n2 n3
  go_enter Tryz.func70, Tryz.ntmps70
  go_wp2_with fail
  refine Calls.mono HG.out ?_
  rintro e w1 ⟨val, v', u', rfl, gp, pv, P⟩
  obtain ⟨g, c, gb, cb, sa, rfl, q1, q2, q3, q4, q5, q6, q7⟩ := gp
  have k := P.keep
  have t0 := H0.out.kept (k.block _ H0.out.lt N1.out) k.size
  have t1 := H1.out.kept (k.block _ H1.out.lt N2.out) k.size
  have m1 : ¬ pb = p := N1.out
  have m1' : ¬ p = pb := fun e => N1.out e.symm
  have m2 : ¬ lb = p := N2.out
  obtain ⟨ao, cv, hv⟩ := own_shape pv.ov
  have c2 := pv.c2
  have gq : GProg V.heap.size w1 (.agg #[.slice (some ⟨g, 0, none⟩) 1 c]) nm y := ⟨g, c, gb, cb, sa, rfl, q1, q2, q3, q4, q5, q6, q7⟩
  have PB : Hid (Keep (fun g => g = p ∨ g = pb ∨ g = lb) V ((w1.setCell ⟨pb, 0, none⟩ (.slice (some ⟨g, 0, none⟩) 1 c)).setCell ⟨lb, 0, none⟩ v') ∧ (GRel V.heap.size pb nm y ((w1.setCell ⟨pb, 0, none⟩ (.slice (some ⟨g, 0, none⟩) 1 c)).setCell ⟨lb, 0, none⟩ v') ∧ ∃ q, B1 ((w1.setCell ⟨pb, 0, none⟩ (.slice (some ⟨g, 0, none⟩) 1 c)).setCell ⟨lb, 0, none⟩ v') lb q ∧ ∃ ao n c, q = .slice ao n c)) := by
    have g1 := set_grown w1 ⟨pb, 0, none⟩ (.slice (some ⟨g, 0, none⟩) 1 c)
    have g2 := set_grown (w1.setCell ⟨pb, 0, none⟩ (.slice (some ⟨g, 0, none⟩) 1 c)) ⟨lb, 0, none⟩ v'
    have l0 := H0.out.lt
    have l1 := H1.out.lt
    have b1 : B1 (w1.setCell ⟨pb, 0, none⟩ (.slice (some ⟨g, 0, none⟩) 1 c)) pb (.slice (some ⟨g, 0, none⟩) 1 c) := ⟨World.cell?_setCell_same _ _ _ t0.c, by rw [World.frozen?_setCell]; exact t0.f, by simpa using t0.lt⟩
    have b2 := t1.kept (g1.block _ t1.lt (fun e => m3' (Option.some.inj e))) g1.size
    refine ⟨((k.mono (D' := fun g => g = p ∨ g = pb ∨ g = lb) fun _ _ e => .inl e).set (.inr (.inr (.inl rfl))) _).set (.inr (.inr (.inr rfl))) _, ⟨_, (gq.below (fun g hg hl => g1.block g hl (fun e => by have := Option.some.inj e; simp only at this; omega)) g1.size (Nat.le_refl _)).below (fun g hg hl => g2.block g hl (fun e => by have := Option.some.inj e; simp only at this; omega)) g2.size (Nat.le_refl _), b1.kept (g2.block _ b1.lt (fun e => m3 (Option.some.inj e))) g2.size⟩, v', ⟨World.cell?_setCell_same _ _ _ b2.c, by rw [World.frozen?_setCell]; exact b2.f, by simpa using b2.lt⟩, _, _, _, hv⟩
  have hvs : Hid (v' = .slice ao ([] ++ [u']).length cv) := hv
  obtain ⟨d0, e0, y0⟩ := t0
  obtain ⟨d1, e1, y1⟩ := t1
  clear pv P k gq q5 q6 q7 hv
  subst hvs
  go_wp2_with fail
  go_end0
  exact ⟨rfl, PB.out⟩
set_option maxRecDepth 100000 in
set_option maxHeartbeats 1000000 in
theorem readProg1_bad (p pb lb : Nat) (a er : Int) (V : World) (hG : PGbad p a er V) :
    Calls Tryz.prog 70 #[.pointer (some ⟨p, 0, none⟩), .pointer (some ⟨pb, 0, none⟩), .pointer (some ⟨lb, 0, none⟩)] V fun e w' => e = pan a er ∧ Keep (fun g => g = p) V w' := by
  have HG : Hid (PGbad p a er V) := hG
  clear hG
  go_enter Tryz.func70, Tryz.ntmps70
  go_wp2_with fail
  refine Calls.mono HG.out ?_
  rintro e w1 ⟨rfl, v', u', P⟩
  exact ⟨rfl, rfl, P.keep⟩
end Go.Proofs.YtlhklpnkelcnbaaGreatDoor

namespace Go.Proofs.YtlhklpnkelcnbaaGreatDoor
open Go.RowKit

/-- The reader of programs in a new block. -/
theorem rp_new {w : World} {b o cap : Nat} {ts : List Tok} (ta : Ta w b o ts) :
    Rd (w.alloc (.cells #[.slice (some ⟨b, o, none⟩) ts.length cap, .int .i64 0, .slice none 0 0] 106)) w.heap.size b o cap ts 0 ∧ Pv (w.alloc (.cells #[.slice (some ⟨b, o, none⟩) ts.length cap, .int .i64 0, .slice none 0 0] 106)) w.heap.size (.slice none 0 0) [] :=
  ⟨⟨by simp [go_sem], by simp [go_sem], World.frozen?_alloc_at _ _ _ _ rfl, ta.later (box_below _ _), by have := ta.lt; omega, by simp⟩, ⟨by simp [go_sem], World.frozen?_alloc_at _ _ _ _ rfl, World.ownsRow_nil _ _ _ _, by simp, by simp⟩⟩
/-- Tokens in memory that lex.Right takes. -/
structure Toks (w : World) (b o cap : Nat) (ts : List Tok) : Prop where
  ta : Ta w b o ts
  gd : Good ts
  cp : ts.length ≤ cap
  rt : rightL ts = true
  tx : ∀ j, j < ts.length → (ts.getD j tok0).1.text.length ≤ maxLen
set_option maxRecDepth 100000 in
set_option maxHeartbeats 2000000 in
theorem readProg_ok (w : World) (b o cap : Nat) (ts : List Tok) (nm : List UInt8) (y : Sx.Ex) (hk : Kw w) (T : Toks w b o cap ts) (hG : ∀ W p, Rd W p b o cap ts 0 → b < p → Pv W p (.slice none 0 0) [] → PG p nm y W) :
    Calls Tryz.prog 48 #[.slice (some ⟨b, o, none⟩) ts.length cap] w fun e w' => ∃ sl q, e = .returned (.tuple #[.agg #[sl], q, .int .i64 0, .int .i64 0]) ∧ GProg w.heap.size w' (.agg #[sl]) nm y ∧ Below w.heap.size w w' := by
  have hmf : ∀ (fn : Fn) (first cap : Array Value) (w : World), (Instr.makeFunc fn first cap).run Tryz.prog w = .ok (.func fn first cap) w := fun _ _ _ _ => rfl
  let W0 := (w.alloc (.cells #[.slice none 0 0] 43)).alloc (.cells #[.slice none 0 0] 86)
  have b0 : Below w.heap.size w W0 := by go_grown
  have E0 : Hid (Calls Tryz.prog 22 #[.slice (some ⟨b, o, none⟩) ts.length cap] W0 fun e w' => e = .returned (.bool true) ∧ Below W0.heap.size W0 w') := by
    have e := right_some b o cap ts W0 (T.ta.later b0) T.gd.pos T.gd.len T.cp T.tx (hk.later b0)
    rw [T.rt] at e
    exact e
  have HG : Hid (∀ W p, Rd W p b o cap ts 0 → b < p → Pv W p (.slice none 0 0) [] → PG p nm y W) := hG
  have TT : Hid (Ta W0 b o ts) := T.ta.later b0
  have TB : Hid (b < w.heap.size) := T.ta.lt
  have BW0 : Hid _ := b0
  have S0 : Hid (W0.heap.size = w.heap.size + 2) := by unfold Hid; simp [W0]
  have q0 : Hid (B1 W0 w.heap.size (.slice none 0 0)) := (B1.new w 43 (.slice none 0 0)).kept ((box_below (w.alloc (.cells #[.slice none 0 0] 43)) (.cells #[.slice none 0 0] 86)).block _ (by simp)) (by simp [W0])
  have q1 : Hid (B1 W0 (w.heap.size + 1) (.slice none 0 0)) := by
    have e := B1.new (w.alloc (.cells #[.slice none 0 0] 43)) 86 (.slice none 0 0)
    rw [World.size_alloc] at e
    exact e
  clear hk T hG b0
  go_enter Tryz.func48, Tryz.ntmps48
  go_wp2_with fail
  refine Calls.mono E0.out ?_
  rintro e w1 ⟨rfl, b1⟩
  have s0 := S0.out
  have s1 := b1.size
  have r0 := q0.out.kept (b1.block _ q0.out.lt) b1.size
  have r1 := q1.out.kept (b1.block _ q1.out.lt) b1.size
  have rp := rp_new (cap := cap) (TT.out.later b1)
  have tb := TB.out
  let W1 := w1.alloc (.cells #[.slice (some ⟨b, o, none⟩) ts.length cap, .int .i64 0, .slice none 0 0] 106)
  have bx : Below w1.heap.size w1 W1 := box_below _ _
  have bV : Below W1.heap.size W1 (w2box W1) := w2box_below W1
  have sW : W1.heap.size = w1.heap.size + 1 := by simp [W1]
  have sV : (w2box W1).heap.size = w1.heap.size + 3 := by rw [w2box_size, sW]
  have r0' := (r0.kept (bx.block _ r0.lt) bx.size).kept (bV.block _ (by omega)) bV.size
  have r1' := (r1.kept (bx.block _ r1.lt) bx.size).kept (bV.block _ (by omega)) bV.size
  have hc := readProg1_ok w1.heap.size w.heap.size (w.heap.size + 1) nm y (w2box W1) (HG.out _ _ (rp.1.later bV) (by omega) (rp.2.later bV)) _ _ r0' r1' (by omega) (by omega) (by omega)
  have hA : Hid _ := attempt_ok 70 _ W1 (fun g => g = w1.heap.size ∨ g = w.heap.size ∨ g = w.heap.size + 1) (by intro g hg; omega) (fun w' => GRel (w2box W1).heap.size w.heap.size nm y w' ∧ ∃ q, B1 w' (w.heap.size + 1) q ∧ ∃ ao n c, q = .slice ao n c) (fun w => enter_rp _ w) hc
  have BV : Hid (Below w.heap.size w (w2box W1)) := (BW0.out.trans (b1.mono BW0.out.size)).trans ((bx.mono (by omega)).trans (bV.mono (by omega)))
  have SV : Hid _ := sV
  have SW : Hid _ := sW
  have S1' : Hid (w.heap.size + 2 ≤ w1.heap.size) := by unfold Hid; omega
  clear hc bV bx sV sW rp tb r0 r1 r0' r1' b1 s0 s1
  go_wp2_with fail
  refine Calls.mono hA.out ?_
  rintro e w' ⟨rfl, w2, k2, ⟨⟨sl, gp, bp⟩, q, bq, ao, n, c, rfl⟩, hw⟩
  have z1 := SV.out
  have z2 := SW.out
  have z3 := k2.size
  have z4 := S1'.out
  have g1 := set_grown w2 ⟨W1.heap.size, 0, none⟩ (.int .i64 0)
  have g2 := set_grown (w2.setCell ⟨W1.heap.size, 0, none⟩ (.int .i64 0)) ⟨W1.heap.size + 1, 0, none⟩ (.int .i64 0)
  have bp' : B1 w' w.heap.size sl := by rw [hw]; exact (bp.kept (g1.block _ bp.lt (fun e => by have := Option.some.inj e; simp only at this; omega)) g1.size).kept (g2.block _ (by have := bp.lt; simp; omega) (fun e => by have := Option.some.inj e; simp only at this; omega)) g2.size
  have bq' : B1 w' (w.heap.size + 1) (.slice ao n c) := by rw [hw]; exact (bq.kept (g1.block _ bq.lt (fun e => by have := Option.some.inj e; simp only at this; omega)) g1.size).kept (g2.block _ (by have := bq.lt; simp; omega) (fun e => by have := Option.some.inj e; simp only at this; omega)) g2.size
  have gp' : GProg (w.heap.size + 2) w' (.agg #[sl]) nm y := by rw [hw]; exact (gp.below (fun g hg hl => g1.block g hl (fun e => by have := Option.some.inj e; simp only at this; omega)) g1.size (Nat.le_refl _)).below (fun g hg hl => g2.block g hl (fun e => by have := Option.some.inj e; simp only at this; omega)) g2.size (by omega)
  have bw : Below w.heap.size w w' := by rw [hw]; exact ((BV.out.trans (k2.below' (by omega) (fun g hg => by omega))).setCell (by simp only; omega) _).setCell (by simp only; omega) _
  obtain ⟨g, c', gb, cb, sa, e1, -⟩ := id gp'
  cases e1
  have GP : Hid (GProg (w.heap.size + 2) w' (.agg #[.slice (some ⟨g, 0, none⟩) 1 c']) nm y) := gp'
  have BW : Hid _ := bw
  obtain ⟨d0, e0, y0⟩ := bp'
  obtain ⟨d1, e1, y1⟩ := bq'
  clear hw bp bq gp gp' bw k2 g1 g2 z1 z2 z3 z4 hA BV SV SW S1' w2
  go_wp2_with fail
  go_region
  all_goals (go_wp2_with fail; refine bodyPost_ret (v := .tuple #[.agg #[.slice (some ⟨g, 0, none⟩) 1 c'], .slice ao n c, .int .i64 0, .int .i64 0]) (by simp [results, Tryz.results48, go_sem, d0, d1]) rfl ?_)
  refine ⟨_, _, rfl, ?_, (((BW.out.setCell (by simp) _).setCell (by simp) _)).drew⟩
  have g1 := set_grown w' ⟨w.heap.size, 0, none⟩ (.slice (some ⟨g, 0, none⟩) 1 c')
  have g2 := set_grown (w'.setCell ⟨w.heap.size, 0, none⟩ (.slice (some ⟨g, 0, none⟩) 1 c')) ⟨w.heap.size + 1, 0, none⟩ (.slice ao n c)
  exact ((GProg.below GP.out (m := w.heap.size + 2) (fun g hg hl => g1.block g hl (fun e => by have := Option.some.inj e; simp only at this; omega)) g1.size (Nat.le_refl _)).below (m := w.heap.size) (fun g hg hl => g2.block g hl (fun e => by have := Option.some.inj e; simp only at this; omega)) g2.size (by omega)).below (w' := World.drew _) (fun _ _ _ => rfl) (Nat.le_refl _) (Nat.le_refl _)
set_option maxRecDepth 100000 in
set_option maxHeartbeats 2000000 in
theorem readProg_bad (w : World) (b o cap : Nat) (ts : List Tok) (a er : Int) (hk : Kw w) (T : Toks w b o cap ts) (hG : ∀ W p, Rd W p b o cap ts 0 → b < p → Pv W p (.slice none 0 0) [] → PGbad p a er W) :
    Calls Tryz.prog 48 #[.slice (some ⟨b, o, none⟩) ts.length cap] w fun e w' => e = .returned (.tuple #[.agg #[.slice none 0 0], .slice none 0 0, .int .i64 a, .int .i64 er]) ∧ Below w.heap.size w w' := by
  have hmf : ∀ (fn : Fn) (first cap : Array Value) (w : World), (Instr.makeFunc fn first cap).run Tryz.prog w = .ok (.func fn first cap) w := fun _ _ _ _ => rfl
  let W0 := (w.alloc (.cells #[.slice none 0 0] 43)).alloc (.cells #[.slice none 0 0] 86)
  have b0 : Below w.heap.size w W0 := by go_grown
  have E0 : Hid (Calls Tryz.prog 22 #[.slice (some ⟨b, o, none⟩) ts.length cap] W0 fun e w' => e = .returned (.bool true) ∧ Below W0.heap.size W0 w') := by
    have e := right_some b o cap ts W0 (T.ta.later b0) T.gd.pos T.gd.len T.cp T.tx (hk.later b0)
    rw [T.rt] at e
    exact e
  have HG : Hid (∀ W p, Rd W p b o cap ts 0 → b < p → Pv W p (.slice none 0 0) [] → PGbad p a er W) := hG
  have TT : Hid (Ta W0 b o ts) := T.ta.later b0
  have TB : Hid (b < w.heap.size) := T.ta.lt
  have BW0 : Hid _ := b0
  have S0 : Hid (W0.heap.size = w.heap.size + 2) := by unfold Hid; simp [W0]
  have q0 : Hid (B1 W0 w.heap.size (.slice none 0 0)) := (B1.new w 43 (.slice none 0 0)).kept ((box_below (w.alloc (.cells #[.slice none 0 0] 43)) (.cells #[.slice none 0 0] 86)).block _ (by simp)) (by simp [W0])
  have q1 : Hid (B1 W0 (w.heap.size + 1) (.slice none 0 0)) := by
    have e := B1.new (w.alloc (.cells #[.slice none 0 0] 43)) 86 (.slice none 0 0)
    rw [World.size_alloc] at e
    exact e
  clear hk T hG b0
  go_enter Tryz.func48, Tryz.ntmps48
  go_wp2_with fail
  refine Calls.mono E0.out ?_
  rintro e w1 ⟨rfl, b1⟩
  have s0 := S0.out
  have s1 := b1.size
  have r0 := q0.out.kept (b1.block _ q0.out.lt) b1.size
  have r1 := q1.out.kept (b1.block _ q1.out.lt) b1.size
  have rp := rp_new (cap := cap) (TT.out.later b1)
  have tb := TB.out
  let W1 := w1.alloc (.cells #[.slice (some ⟨b, o, none⟩) ts.length cap, .int .i64 0, .slice none 0 0] 106)
  have bx : Below w1.heap.size w1 W1 := box_below _ _
  have bV : Below W1.heap.size W1 (w2box W1) := w2box_below W1
  have sW : W1.heap.size = w1.heap.size + 1 := by simp [W1]
  have sV : (w2box W1).heap.size = w1.heap.size + 3 := by rw [w2box_size, sW]
  have r0' : Hid _ := (r0.kept (bx.block _ r0.lt) bx.size).kept (bV.block _ (by omega)) bV.size
  have r1' : Hid _ := (r1.kept (bx.block _ r1.lt) bx.size).kept (bV.block _ (by omega)) bV.size
  have hc := readProg1_bad w1.heap.size w.heap.size (w.heap.size + 1) a er (w2box W1) (HG.out _ _ (rp.1.later bV) (by omega) (rp.2.later bV))
  have hA : Hid _ := attempt_bad a er 70 #[.pointer (some ⟨w1.heap.size, 0, none⟩), .pointer (some ⟨w.heap.size, 0, none⟩), .pointer (some ⟨w.heap.size + 1, 0, none⟩)] W1 (fun g => g = w1.heap.size) (by intro g hg; omega) (fun _ => True) (fun w => enter_rp _ w) (hc.mono fun _ _ h => ⟨h.1, h.2, trivial⟩)
  have BV : Hid (Below w.heap.size w (w2box W1)) := (BW0.out.trans (b1.mono BW0.out.size)).trans ((bx.mono (by omega)).trans (bV.mono (by omega)))
  have SV : Hid _ := sV
  have SW : Hid _ := sW
  have S1' : Hid (w.heap.size + 2 ≤ w1.heap.size) := by unfold Hid; omega
  clear hc bV bx sV sW rp tb r0 r1 b1 s0 s1
  go_wp2_with fail
  refine Calls.mono hA.out ?_
  rintro e w' ⟨rfl, w2, k2, -, k3⟩
  have z1 := SV.out
  have z2 := SW.out
  have z3 := k2.size
  have z4 := S1'.out
  have bp' := (r0'.out.kept (k2.block _ r0'.out.lt (by omega)) k2.size).kept (k3.block _ (by omega) (by omega)) k3.size
  have bq' := (r1'.out.kept (k2.block _ r1'.out.lt (by omega)) k2.size).kept (k3.block _ (by omega) (by omega)) k3.size
  have bw : Below w.heap.size w w' := (BV.out.trans (k2.below' (by omega) (fun g hg => by omega))).trans (k3.below' (by omega) (fun g hg => by omega))
  have BW : Hid _ := bw
  obtain ⟨d0, e0, y0⟩ := bp'
  obtain ⟨d1, e1, y1⟩ := bq'
  clear bw k2 k3 z1 z2 z3 z4 hA BV SV SW S1' w2 r0' r1'
  go_wp2_with fail
  go_region
  all_goals (go_wp2_with fail; refine bodyPost_ret (v := .tuple #[.agg #[.slice none 0 0], .slice none 0 0, .int .i64 a, .int .i64 er]) (by simp [results, Tryz.results48, go_sem, d0, d1]) rfl ?_)
  exact ⟨rfl, (((BW.out.setCell (by simp) _).setCell (by simp) _)).drew⟩
end Go.Proofs.YtlhklpnkelcnbaaGreatDoor

namespace Go.Proofs.YtlhklpnkelcnbaaGreatDoor
open Go.RowKit

set_option maxRecDepth 100000 in
set_option maxHeartbeats 1000000 in
theorem Read_ok (w : World) (b o cap : Nat) (ts : List Tok) (nm : List UInt8) (y : Sx.Ex) (hk : Kw w) (T : Toks w b o cap ts) (hG : ∀ W p, Rd W p b o cap ts 0 → b < p → Pv W p (.slice none 0 0) [] → PG p nm y W) :
    Calls Tryz.prog 25 #[.slice (some ⟨b, o, none⟩) ts.length cap] w fun e w' => ∃ g c, e = .returned (.tuple #[.agg #[.slice (some ⟨g, 0, none⟩) 1 c], .int .i64 0, .int .i64 0]) ∧ GProg w.heap.size w' (.agg #[.slice (some ⟨g, 0, none⟩) 1 c]) nm y ∧ Below w.heap.size w w' := by
  have b0 := box_below w (.cells #[.slice none 0 0] 43)
  have E0 : Hid _ := readProg_ok (w.alloc (.cells #[.slice none 0 0] 43)) b o cap ts nm y (hk.later b0) ⟨T.ta.later b0, T.gd, T.cp, T.rt, T.tx⟩ hG
  have BB : Hid _ := b0
  clear hk T hG b0
  go_enter Tryz.func25, Tryz.ntmps25
  go_wp2_with fail
  refine Calls.mono E0.out ?_
  rintro e w1 ⟨sl, q, rfl, gp, b1⟩
  have q0 := (B1.new w 43 (.slice none 0 0)).kept (b1.block _ (by simp)) b1.size
  have BW : Hid (Below w.heap.size w w1) := BB.out.trans (b1.mono BB.out.size)
  have gp1 : GProg (w.heap.size + 1) w1 (.agg #[sl]) nm y := by rw [World.size_alloc] at gp; exact gp
  obtain ⟨g, c, gb, cb, sa, e1, -⟩ := id gp1
  cases e1
  have GP : Hid (GProg (w.heap.size + 1) w1 (.agg #[.slice (some ⟨g, 0, none⟩) 1 c]) nm y) := gp1
  obtain ⟨d0, e0, y0⟩ := q0
  have y1 : w.heap.size < w1.heap.size := y0
  have n1 : ¬ w1.heap.size = w.heap.size := by omega
  clear b1 gp gp1 E0 BB
  go_wp2_with fail
  refine bodyPost_ret (v := .tuple #[.agg #[.slice (some ⟨g, 0, none⟩) 1 c], .int .i64 0, .int .i64 0]) (by simp [results, Tryz.results25, go_sem, d0, y0]) rfl ?_
  refine ⟨g, c, rfl, ?_, (BW.out.setCell (by simp) _).alloc (by simp; omega) _⟩
  have g1 := set_grown w1 ⟨w.heap.size, 0, none⟩ (.slice (some ⟨g, 0, none⟩) 1 c)
  exact (GProg.below GP.out (m := w.heap.size + 1) (fun g hg hl => g1.block g hl (fun e => by have := Option.some.inj e; simp only at this; omega)) g1.size (Nat.le_refl _)).below (m := w.heap.size) (fun g _ hl => (box_below _ _).block g hl) (box_below _ _).size (by omega)
set_option maxRecDepth 100000 in
set_option maxHeartbeats 1000000 in
theorem Read_bad (w : World) (b o cap : Nat) (ts : List Tok) (a er : Int) (hk : Kw w) (T : Toks w b o cap ts) (hG : ∀ W p, Rd W p b o cap ts 0 → b < p → Pv W p (.slice none 0 0) [] → PGbad p a er W) :
    Calls Tryz.prog 25 #[.slice (some ⟨b, o, none⟩) ts.length cap] w fun e w' => e = .returned (.tuple #[.agg #[.slice none 0 0], .int .i64 a, .int .i64 er]) ∧ Below w.heap.size w w' := by
  have b0 := box_below w (.cells #[.slice none 0 0] 43)
  have E0 : Hid _ := readProg_bad (w.alloc (.cells #[.slice none 0 0] 43)) b o cap ts a er (hk.later b0) ⟨T.ta.later b0, T.gd, T.cp, T.rt, T.tx⟩ hG
  have BB : Hid _ := b0
  clear hk T hG b0
  go_enter Tryz.func25, Tryz.ntmps25
  go_wp2_with fail
  refine Calls.mono E0.out ?_
  rintro e w1 ⟨rfl, b1⟩
  have q0 := (B1.new w 43 (.slice none 0 0)).kept (b1.block _ (by simp)) b1.size
  have BW : Hid (Below w.heap.size w w1) := BB.out.trans (b1.mono BB.out.size)
  obtain ⟨d0, e0, y0⟩ := q0
  have n1 : ¬ w1.heap.size = w.heap.size := by omega
  clear b1 E0 BB
  go_wp2_with fail
  refine bodyPost_ret (v := .tuple #[.agg #[.slice none 0 0], .int .i64 a, .int .i64 er]) (by simp [results, Tryz.results25, go_sem, d0, y0]) rfl ?_
  exact ⟨rfl, (BW.out.setCell (by simp) _).alloc (by simp; omega) _⟩
set_option maxRecDepth 100000 in
set_option maxHeartbeats 1000000 in
theorem Parse_ok (s : ByteArray) (R : List (Lx.Tk × Nat)) (nm : List UInt8) (y : Sx.Ex) (w : World) (hk : Kw w) (hs : s.size ≤ 16384) (h : Lx.scan s.data.toList = (R, 0, 0)) (hn : R ≠ []) (hrt : rightL (R.map tkI) = true) (htx : ∀ j, j < (R.map tkI).length → ((R.map tkI).getD j tok0).1.text.length ≤ maxLen)
    (hG : ∀ b cap W p, Rd W p b 0 cap (R.map tkI) 0 → b < p → Pv W p (.slice none 0 0) [] → PG p nm y W) :
    Calls Tryz.prog 14 #[.string s] w fun e w' => ∃ g c, e = .returned (.tuple #[.agg #[.slice (some ⟨g, 0, none⟩) 1 c], .int .i64 0, .int .i64 0]) ∧ GProg w.heap.size w' (.agg #[.slice (some ⟨g, 0, none⟩) 1 c]) nm y ∧ Below w.heap.size w w' := by
  have b0 := box_below w (.cells #[.slice none 0 0] 43)
  have HS : Hid _ := scan_short s (w.alloc (.cells #[.slice none 0 0] 43)) hs (hk.later b0)
  have HK : Hid (Kw (w.alloc (.cells #[.slice none 0 0] 43))) := hk.later b0
  have H : Hid (Lx.scan s.data.toList = (R, 0, 0)) := h
  have HN : Hid (R ≠ []) := hn
  have HT : Hid (rightL (R.map tkI) = true ∧ ∀ j, j < (R.map tkI).length → ((R.map tkI).getD j tok0).1.text.length ≤ maxLen) := ⟨hrt, htx⟩
  have HG : Hid (∀ b cap W p, Rd W p b 0 cap (R.map tkI) 0 → b < p → Pv W p (.slice none 0 0) [] → PG p nm y W) := hG
  have BB : Hid _ := b0
  clear hk hs h hn hrt htx hG b0
  go_enter Tryz.func14, Tryz.ntmps14
  go_wp2_with fail
  refine Calls.mono HS.out ?_
  rintro e w1 ⟨v, rfl, ho, b1⟩
  rw [H.out] at ho ⊢
  obtain ⟨g0, cap, rfl, hc, hg, T⟩ := ho.ta HN.out
  have hgd := scan_good H.out HN.out
  have hlen : (R.map tkI).length = R.length := by simp
  have E1 : Hid _ := Read_ok w1 g0 0 cap (R.map tkI) nm y (HK.out.later b1) ⟨T, hgd, by rw [hlen]; exact hc, HT.out.1, HT.out.2⟩ (fun W p h1 h2 h3 => HG.out g0 cap W p h1 h2 h3)
  rw [hlen] at E1
  have q0 : Hid _ := (B1.new w 43 (.slice none 0 0)).kept (b1.block _ (by simp)) b1.size
  have BW : Hid (Below w.heap.size w w1) := BB.out.trans (b1.mono BB.out.size)
  clear ho hc hg T hgd hlen b1 HS BB
  simp only
  go_wp2_with fail
  refine Calls.mono E1.out ?_
  rintro e w2 ⟨g, c, rfl, gp, b2⟩
  have q2 := q0.out.kept (b2.block _ q0.out.lt) b2.size
  have BW2 : Hid (Below w.heap.size w w2) := BW.out.trans (b2.mono BW.out.size)
  have GP : Hid (GProg w1.heap.size w2 (.agg #[.slice (some ⟨g, 0, none⟩) 1 c]) nm y) := gp
  have Z1 : Hid (w.heap.size < w1.heap.size) := q0.out.lt
  obtain ⟨d0, e0, y0⟩ := q2
  clear b2 gp E1
  go_wp2_with fail
  refine bodyPost_ret (v := .tuple #[.agg #[.slice (some ⟨g, 0, none⟩) 1 c], .int .i64 0, .int .i64 0]) (by simp [results, Tryz.results14, go_sem, d0]) rfl ?_
  refine ⟨g, c, rfl, ?_, BW2.out.setCell (by simp) _⟩
  have g1 := set_grown w2 ⟨w.heap.size, 0, none⟩ (.slice (some ⟨g, 0, none⟩) 1 c)
  exact GProg.below GP.out (fun g hg hl => g1.block g hl (fun e => by have := Option.some.inj e; have := Z1.out; simp only at *; omega)) g1.size (Nat.le_of_lt Z1.out)
set_option maxRecDepth 100000 in
set_option maxHeartbeats 1000000 in
theorem Parse_bad (s : ByteArray) (R : List (Lx.Tk × Nat)) (a er : Int) (w : World) (hk : Kw w) (hs : s.size ≤ 16384) (h : Lx.scan s.data.toList = (R, 0, 0)) (hn : R ≠ []) (hrt : rightL (R.map tkI) = true) (htx : ∀ j, j < (R.map tkI).length → ((R.map tkI).getD j tok0).1.text.length ≤ maxLen)
    (hG : ∀ b cap W p, Rd W p b 0 cap (R.map tkI) 0 → b < p → Pv W p (.slice none 0 0) [] → PGbad p a er W) :
    Calls Tryz.prog 14 #[.string s] w fun e w' => e = .returned (.tuple #[.agg #[.slice none 0 0], .int .i64 a, .int .i64 er]) ∧ Below w.heap.size w w' := by
  have b0 := box_below w (.cells #[.slice none 0 0] 43)
  have HS : Hid _ := scan_short s (w.alloc (.cells #[.slice none 0 0] 43)) hs (hk.later b0)
  have HK : Hid (Kw (w.alloc (.cells #[.slice none 0 0] 43))) := hk.later b0
  have H : Hid (Lx.scan s.data.toList = (R, 0, 0)) := h
  have HN : Hid (R ≠ []) := hn
  have HT : Hid (rightL (R.map tkI) = true ∧ ∀ j, j < (R.map tkI).length → ((R.map tkI).getD j tok0).1.text.length ≤ maxLen) := ⟨hrt, htx⟩
  have HG : Hid (∀ b cap W p, Rd W p b 0 cap (R.map tkI) 0 → b < p → Pv W p (.slice none 0 0) [] → PGbad p a er W) := hG
  have BB : Hid _ := b0
  clear hk hs h hn hrt htx hG b0
  go_enter Tryz.func14, Tryz.ntmps14
  go_wp2_with fail
  refine Calls.mono HS.out ?_
  rintro e w1 ⟨v, rfl, ho, b1⟩
  rw [H.out] at ho ⊢
  obtain ⟨g0, cap, rfl, hc, hg, T⟩ := ho.ta HN.out
  have hgd := scan_good H.out HN.out
  have hlen : (R.map tkI).length = R.length := by simp
  have E1 : Hid _ := Read_bad w1 g0 0 cap (R.map tkI) a er (HK.out.later b1) ⟨T, hgd, by rw [hlen]; exact hc, HT.out.1, HT.out.2⟩ (fun W p h1 h2 h3 => HG.out g0 cap W p h1 h2 h3)
  rw [hlen] at E1
  have q0 : Hid _ := (B1.new w 43 (.slice none 0 0)).kept (b1.block _ (by simp)) b1.size
  have BW : Hid (Below w.heap.size w w1) := BB.out.trans (b1.mono BB.out.size)
  clear ho hc hg T hgd hlen b1 HS BB
  simp only
  go_wp2_with fail
  refine Calls.mono E1.out ?_
  rintro e w2 ⟨rfl, b2⟩
  have q2 := q0.out.kept (b2.block _ q0.out.lt) b2.size
  have BW2 : Hid (Below w.heap.size w w2) := BW.out.trans (b2.mono BW.out.size)
  obtain ⟨d0, e0, y0⟩ := q2
  clear b2 E1
  go_wp2_with fail
  refine bodyPost_ret (v := .tuple #[.agg #[.slice none 0 0], .int .i64 a, .int .i64 er]) (by simp [results, Tryz.results14, go_sem, d0]) rfl ?_
  exact ⟨rfl, BW2.out.setCell (by simp) _⟩
end Go.Proofs.YtlhklpnkelcnbaaGreatDoor

namespace Go.Proofs.YtlhklpnkelcnbaaGreatDoor
open Go.RowKit

def t1 : List UInt8 := [112, 114, 111, 99, 32, 109, 97, 105, 110, 32, 40, 32, 41, 32, 123, 32, 112, 114, 105, 110, 116, 32, 49, 32, 43, 32, 50, 32, 42, 32, 51, 32, 59, 32, 125]
def t2 : List UInt8 := [112, 114, 111, 99, 32, 102, 32, 40, 32, 105, 110, 116, 32, 97, 32, 44, 32, 41, 32, 123, 32, 125]
def r1 : List (Lx.Tk × Nat) := [(⟨3, [112, 114, 111, 99], 0⟩, 0), (⟨1, [109, 97, 105, 110], 0⟩, 5), (⟨4, [40], 0⟩, 10), (⟨4, [41], 0⟩, 12), (⟨4, [123], 0⟩, 14), (⟨3, [112, 114, 105, 110, 116], 0⟩, 16), (⟨2, [], 1⟩, 22), (⟨4, [43], 0⟩, 24), (⟨2, [], 2⟩, 26), (⟨4, [42], 0⟩, 28), (⟨2, [], 3⟩, 30), (⟨4, [59], 0⟩, 32), (⟨4, [125], 0⟩, 34), (⟨0, [], 0⟩, 35)]
def r2 : List (Lx.Tk × Nat) := [(⟨3, [112, 114, 111, 99], 0⟩, 0), (⟨1, [102], 0⟩, 5), (⟨4, [40], 0⟩, 7), (⟨3, [105, 110, 116], 0⟩, 9), (⟨1, [97], 0⟩, 13), (⟨4, [44], 0⟩, 15), (⟨4, [41], 0⟩, 17), (⟨4, [123], 0⟩, 19), (⟨4, [125], 0⟩, 21), (⟨0, [], 0⟩, 22)]
theorem s1 : Lx.scan t1 = (r1, 0, 0) := by kernel_rfl
theorem s2 : Lx.scan t2 = (r2, 0, 0) := by kernel_rfl
theorem rt1 : rightL (r1.map tkI) = true := by kernel_rfl
theorem rt2 : rightL (r2.map tkI) = true := by kernel_rfl
theorem tx1 : ∀ j, j < (r1.map tkI).length → ((r1.map tkI).getD j tok0).1.text.length ≤ maxLen := by decide
theorem tx2 : ∀ j, j < (r2.map tkI).length → ((r2.map tkI).getD j tok0).1.text.length ≤ maxLen := by decide
/-- 1 + 2 * 3. -/
def y1 : Sx.Ex := .mk 6 [43] 0 [.mk 1 [] 1 [], .mk 6 [42] 0 [.mk 1 [] 2 [], .mk 1 [] 3 []]]
theorem bd1 : Sx.bd (r1.map tkI) 60 1 2 6 = some (.ok y1 11) := by kernel_rfl
theorem parse_1 (w : World) (hk : Kw w) : Calls Tryz.prog 14 #[.string ⟨t1.toArray⟩] w fun e w' => ∃ g c, e = .returned (.tuple #[.agg #[.slice (some ⟨g, 0, none⟩) 1 c], .int .i64 0, .int .i64 0]) ∧ GProg w.heap.size w' (.agg #[.slice (some ⟨g, 0, none⟩) 1 c]) [109, 97, 105, 110] y1 ∧ Below w.heap.size w w' := by
  have gd : Good (r1.map tkI) := scan_good s1 (by decide)
  refine Parse_ok ⟨t1.toArray⟩ r1 _ y1 w hk (by decide) s1 (by decide) rt1 tx1 ?_
  intro b cap W p rd hbp hv
  refine prog_one W p b 0 cap (r1.map tkI) 0 13 (.slice none 0 0) [] _ _ _ y1 ⟨rd, by decide, rfl⟩ (by decide) rfl (by decide) hv ?_
  intro W' rd' hv'
  exact proc_print W' p b 0 cap (r1.map tkI) gd 60 (expr_any p b 0 cap _ 60 (read_any p b 0 cap _ gd 60).2) 0 (.slice none 0 0) [] y1 11 12 _ rd' (by decide) hv' (by decide) hbp (by decide) (by decide) rfl (by decide) (by decide) (by decide) (by decide) bd1 (by decide) rfl (by decide)
theorem parse_2 (w : World) (hk : Kw w) : Calls Tryz.prog 14 #[.string ⟨t2.toArray⟩] w fun e w' => e = .returned (.tuple #[.agg #[.slice none 0 0], .int .i64 17, .int .i64 30]) ∧ Below w.heap.size w w' := by
  have gd : Good (r2.map tkI) := scan_good s2 (by decide)
  refine Parse_bad ⟨t2.toArray⟩ r2 17 30 w hk (by decide) s2 (by decide) rt2 tx2 ?_
  intro b cap W p rd hbp hv
  refine prog_bad W p b 0 cap (r2.map tkI) 0 17 30 (.slice none 0 0) [] _ ⟨rd, by decide, rfl⟩ (by decide) hv ?_
  intro W' rd' hv'
  exact proc_bad W' p b 0 cap (r2.map tkI) gd 0 (⟨4, [41], 0⟩, 17) (.slice none 0 0) [] rd' (by decide) hv' hbp (by decide) (by decide) (by decide) (by decide) (by decide) (by decide) rfl (by decide) (by decide)
end Go.Proofs.YtlhklpnkelcnbaaGreatDoor

namespace Go.Proofs.YtlhklpnkelcnbaaGreatDoor
open Go.RowKit

set_option maxRecDepth 100000 in
set_option maxHeartbeats 1000000 in
theorem rightWords_8 (sa : Option Addr) (w : World) : Calls Tryz.prog 124 #[stV 8 (.slice sa 1 1)] w fun e w' => e = .returned (.bool true) ∧ Below w.heap.size w w' := by
  unfold stV
  go_enter Tryz.func124, Tryz.ntmps124
  go_wp2_with fail
  go_ret
  exact ⟨rfl, box_below _ _⟩
set_option maxRecDepth 100000 in
set_option maxHeartbeats 1000000 in
theorem rightParts_8 (sa : Option Addr) (w : World) : Calls Tryz.prog 125 #[stV 8 (.slice sa 1 1)] w fun e w' => e = .returned (.bool true) ∧ Below w.heap.size w w' := by
  unfold stV
  go_enter Tryz.func125, Tryz.ntmps125
  go_wp2_with fail
  go_ret
  exact ⟨rfl, box_below _ _⟩
set_option maxRecDepth 100000 in
set_option maxHeartbeats 1000000 in
theorem rightBlock_nil (a : Option Addr) (c : Nat) (w : World) : Calls Tryz.prog 73 #[.slice a 0 c] w fun e w' => e = .returned (.bool true) ∧ w' = w := by
  go_enter Tryz.func73, Tryz.ntmps73
  go_wp2_with fail
  refine wp_loop_rounds 1 ?_
  rw [rounds_succ]
  go_wp2_with fail
  go_ret
  exact ⟨rfl, rfl⟩
set_option maxRecDepth 100000 in
set_option maxHeartbeats 1000000 in
theorem rightStmt_8 (A : Nat → Prop) (f : Nat) (y : Sx.Ex) (sa : Option Addr) (w : World) (hk : Kw w) (hx : ExS A w (.slice sa 1 1) [y]) (hr : Sx.rx f y = true) : Calls Tryz.prog 97 #[stV 8 (.slice sa 1 1)] w fun e w' => e = .returned (.bool true) ∧ Below w.heap.size w w' := by
  have E1 : Hid (∀ W, Calls Tryz.prog 124 #[.agg #[.int .i64 8, .string ⟨#[]⟩, .string ⟨#[]⟩, .int .i64 0, .slice sa 1 1, .slice none 0 0, .slice none 0 0]] W fun e w' => e = .returned (.bool true) ∧ Below W.heap.size W w') := fun W => rightWords_8 sa W
  have E2 : Hid (∀ W, Calls Tryz.prog 125 #[.agg #[.int .i64 8, .string ⟨#[]⟩, .string ⟨#[]⟩, .int .i64 0, .slice sa 1 1, .slice none 0 0, .slice none 0 0]] W fun e w' => e = .returned (.bool true) ∧ Below W.heap.size W w') := fun W => rightParts_8 sa W
  have E3 : Hid (∀ W, Below w.heap.size w W → Calls Tryz.prog 33 #[.slice sa 1 1] W fun e w' => e = .returned (.bool true) ∧ Below W.heap.size W w') := fun W hW => rightExprs_true A f (right_any A f) [y] sa 1 1 W (hk.later hW) (hx.later hW (Nat.le_refl _)) (by simp) (by simpa using hr)
  clear hk hx hr
  unfold stV
  go_enter Tryz.func97, Tryz.ntmps97
  go_wp2_with fail
  refine (E1.out _).mono ?_
  rintro e w1 ⟨rfl, b1⟩
  have R1 := (B7.new w 137 (.int .i64 8) (.string ⟨#[]⟩) (.string ⟨#[]⟩) (.int .i64 0) (.slice sa 1 1) (.slice none 0 0) (.slice none 0 0)).later b1 (by simp)
  have B1' : Hid (Below w.heap.size w w1) := (box_below w _).trans (b1.mono (by simp))
  have R1' : Hid _ := R1
  obtain ⟨c0, c1, c2, c3, c4, c5, c6, -, -, -, -, -, -, -, zt⟩ := R1
  clear b1
  go_wp2_with fail
  refine (E2.out _).mono ?_
  rintro e w2 ⟨rfl, b2⟩
  have R2 : Hid _ := R1'.out.later b2 R1'.out.lt
  have B2' : Hid (Below w.heap.size w w2) := B1'.out.trans (b2.mono B1'.out.size)
  clear b2 c0 c1 c2 c3 c4 c5 c6 zt
  obtain ⟨c0, c1, c2, c3, c4, c5, c6, -, -, -, -, -, -, -, zt⟩ := R2.out
  go_wp2_with fail
  refine (E3.out _ B2'.out).mono ?_
  rintro e w3 ⟨rfl, b3⟩
  have R3 := R2.out.later b3 R2.out.lt
  have B3' : Hid (Below w.heap.size w w3) := B2'.out.trans (b3.mono B2'.out.size)
  clear b3 c0 c1 c2 c3 c4 c5 c6 zt
  obtain ⟨c0, c1, c2, c3, c4, c5, c6, -, -, -, -, -, -, -, zt⟩ := R3
  go_wp2_with fail
  refine (rightBlock_nil none 0 w3).mono ?_
  rintro e w4 ⟨rfl, hw4⟩
  rw [hw4]
  clear hw4 w4
  go_wp2_with fail
  refine (rightBlock_nil none 0 w3).mono ?_
  rintro e w4 ⟨rfl, hw4⟩
  rw [hw4]
  clear hw4 w4
  go_wp2_with fail
  go_ret
  exact ⟨rfl, B3'.out⟩
set_option maxRecDepth 100000 in
set_option maxHeartbeats 1000000 in
theorem rightBlock_one (A : Nat → Prop) (f : Nat) (y : Sx.Ex) (sa : Option Addr) (gb cb : Nat) (w : World) (hk : Kw w) (hs : S1 w gb 8 (.slice sa 1 1)) (hx : ExS A w (.slice sa 1 1) [y]) (hr : Sx.rx f y = true) : Calls Tryz.prog 73 #[.slice (some ⟨gb, 0, none⟩) 1 cb] w fun e w' => e = .returned (.bool true) ∧ Below w.heap.size w w' := by
  have E1 : Hid (∀ W, Below w.heap.size w W → Calls Tryz.prog 97 #[.agg #[.int .i64 8, .string ⟨#[]⟩, .string ⟨#[]⟩, .int .i64 0, .slice sa 1 1, .slice none 0 0, .slice none 0 0]] W fun e w' => e = .returned (.bool true) ∧ Below W.heap.size W w') := fun W hW => rightStmt_8 A f y sa W (hk.later hW) (hx.later hW (Nat.le_refl _)) hr
  obtain ⟨c0, c1, c2, c3, c4, c5, c6, zt⟩ := hs
  clear hk hx hr
  go_enter Tryz.func73, Tryz.ntmps73
  go_wp2_with fail
  refine wp_loop_rounds 2 ?_
  rw [rounds_succ]
  go_wp2_with fail
  refine (E1.out _ (box_below _ _)).mono ?_
  rintro e w1 ⟨rfl, b1⟩
  have B1' : Hid (Below w.heap.size w w1) := (box_below w _).trans (b1.mono (by simp))
  clear b1
  go_wp2_with fail
  rw [rounds_succ]
  go_wp2_with fail
  go_ret
  exact ⟨rfl, B1'.out⟩
set_option maxRecDepth 100000 in
set_option maxHeartbeats 1000000 in
theorem rightProc_one (A : Nat → Prop) (f : Nat) (y : Sx.Ex) (sa : Option Addr) (gb cb : Nat) (nm : List UInt8) (w : World) (hk : Kw w) (hnm : Lx.isName nm = true) (hnl : nm.length ≤ 40) (hs : S1 w gb 8 (.slice sa 1 1)) (hx : ExS A w (.slice sa 1 1) [y]) (hr : Sx.rx f y = true) : Calls Tryz.prog 49 #[.agg #[.string ⟨nm.toArray⟩, .slice none 0 0, .int .i64 0, .slice (some ⟨gb, 0, none⟩) 1 cb]] w fun e w' => e = .returned (.bool true) ∧ Below w.heap.size w w' := by
  have b0 := box_below w (.cells #[.string ⟨nm.toArray⟩, .slice none 0 0, .int .i64 0, .slice (some ⟨gb, 0, none⟩) 1 cb] 92)
  have E1 : Hid (Calls Tryz.prog 34 #[.string ⟨nm.toArray⟩] (w.alloc (.cells #[.string ⟨nm.toArray⟩, .slice none 0 0, .int .i64 0, .slice (some ⟨gb, 0, none⟩) 1 cb] 92)) fun e w' => e = .returned (.bool true) ∧ w' = w.alloc (.cells #[.string ⟨nm.toArray⟩, .slice none 0 0, .int .i64 0, .slice (some ⟨gb, 0, none⟩) 1 cb] 92)) := by
    have e := isName_any ⟨nm.toArray⟩ (w.alloc (.cells #[.string ⟨nm.toArray⟩, .slice none 0 0, .int .i64 0, .slice (some ⟨gb, 0, none⟩) 1 cb] 92)) (by unfold maxLen; simp [ByteArray.size]; omega) (hk.later b0)
    rw [show Lx.isName (ByteArray.mk nm.toArray).data.toList = true by simpa using hnm] at e
    exact e
  have E2 : Hid _ := rightBlock_one A f y sa gb cb (w.alloc (.cells #[.string ⟨nm.toArray⟩, .slice none 0 0, .int .i64 0, .slice (some ⟨gb, 0, none⟩) 1 cb] 92)) (hk.later b0) (hs.kept (b0.block _ hs.lt) b0.size) (hx.later b0 (Nat.le_refl _)) hr
  clear hk hnm hnl hs hx hr b0
  go_enter Tryz.func49, Tryz.ntmps49
  go_wp2_with fail
  refine wp_loop_rounds 1 ?_
  rw [rounds_succ]
  go_wp2_with fail
  refine Calls.mono E1.out ?_
  rintro e w1 ⟨rfl, hw1⟩
  rw [hw1]
  clear hw1 w1
  go_wp2_with fail
  refine Calls.mono E2.out ?_
  rintro e w2 ⟨rfl, b2⟩
  have B2' : Hid (Below w.heap.size w w2) := (box_below w _).trans (b2.mono (by simp))
  clear b2
  go_wp2_with fail
  go_ret
  exact ⟨rfl, B2'.out⟩
set_option maxRecDepth 100000 in
set_option maxHeartbeats 1000000 in
theorem rightProg_one (f : Nat) (y : Sx.Ex) (n : Nat) (nm : List UInt8) (val : Value) (w : World) (hk : Kw w) (hnm : Lx.isName nm = true) (hnl : nm.length ≤ 40) (hg : GProg n w val nm y) (hr : Sx.rx f y = true) : Calls Tryz.prog 26 #[val] w fun e w' => e = .returned (.bool true) ∧ Below w.heap.size w w' := by
  obtain ⟨g, c, gb, cb, sa, rfl, h1, h2, h3, h4, hp, hs, hx⟩ := hg
  have E1 : Hid (∀ W, Below w.heap.size w W → Calls Tryz.prog 49 #[.agg #[.string ⟨nm.toArray⟩, .slice none 0 0, .int .i64 0, .slice (some ⟨gb, 0, none⟩) 1 cb]] W fun e w' => e = .returned (.bool true) ∧ Below W.heap.size W w') := fun W hW => rightProc_one (fun g => n ≤ g) f y sa gb cb nm W (hk.later hW) hnm hnl (hs.kept (hW.block _ hs.lt) hW.size) (hx.later hW (Nat.le_refl _)) hr
  obtain ⟨c0, c1, c2, c3, zt⟩ := hp
  clear hk hnm hnl hs hx hr h1 h2 h3 h4
  go_enter Tryz.func26, Tryz.ntmps26
  go_wp2_with fail
  refine wp_loop_rounds 2 ?_
  rw [rounds_succ]
  go_wp2_with fail
  refine (E1.out _ (by go_grown)).mono ?_
  rintro e w1 ⟨rfl, b1⟩
  have B1' : Hid (Below w.heap.size w w1) := Below.trans (by go_grown) (b1.mono (by simp; omega))
  clear b1
  go_wp2_with fail
  rw [rounds_succ]
  go_wp2_with fail
  go_ret
  exact ⟨rfl, B1'.out⟩
end Go.Proofs.YtlhklpnkelcnbaaGreatDoor

namespace Go.Proofs.YtlhklpnkelcnbaaGreatDoor
open Go.RowKit

theorem three_cell_s (w : World) (x y z : ByteArray) (t : TypeId) : ∀ (j : Nat) u, [Value.string x, Value.string y, Value.string z][j]? = some u → (w.alloc (.cells #[.string x, .string y, .string z] t)).cell? ((⟨w.heap.size, 0, none⟩ : Addr).add j) = some u := by
  intro j u hj
  match j, hj with
  | 0, hj => simp at hj; subst hj; simp [Addr.add]
  | 1, hj => simp at hj; subst hj; simp [Addr.add]
  | 2, hj => simp at hj; subst hj; simp [Addr.add]
theorem put3 (q dp : Nat) (v : Value) (xs : List ByteArray) (x y z : ByteArray) (w : World) (h : Wr w q v xs dp) (hn : xs.length + 3 ≤ 1000000) (t : TypeId) (b : Nat) (hb : w.heap.size = b) :
    Calls Tryz.prog 38 #[.pointer (some ⟨q, 0, none⟩), .slice (some ⟨b, 0, none⟩) 3 3] (w.alloc (.cells #[.string x, .string y, .string z] t)) fun e w' => e = .returned (.tuple #[]) ∧ ∃ v', Wr w' q v' (xs ++ [x, y, z]) dp ∧ WS q w v w' v' := by
  subst hb
  refine (put_any q dp v xs [x, y, z] w.heap.size 3 (w.alloc (.cells #[.string x, .string y, .string z] t)) (h.later (box_below _ _)) hn (three_cell_s w x y z t)).mono ?_
  rintro e w' ⟨he, v', W', S'⟩
  exact ⟨he, v', W', (WS.of_below (Nat.le_of_lt h.lt) (box_below w _)).trans S'⟩
theorem S1.ws {q g : Nat} {w w' : World} {v v' : Value} {kind : Int} {sl : Value} (h : S1 w g kind sl) (s : WS q w v w' v') (hg : g < q) : S1 w' g kind sl := h.kept (s.low g hg) s.size
set_option maxRecDepth 100000 in
set_option maxHeartbeats 1000000 in
theorem exprs_one (q f : Nat) (hg : 2 < q) (y : Sx.Ex) (sa : Option Addr) (d : Nat) (ws : List (List UInt8)) (e : Nat) (v : Value) (xs : List ByteArray) (dp : Nat) (w : World) (ht : Tab w) (hw : Wr w q v xs dp) (hx : ExS (fun g => g < q) w (.slice sa 1 1) [y]) (hd : d + 2 * f ≤ 1000000) (hr : Sx.wx f y d = some (ws, e)) (hn : xs.length + ws.length ≤ 1000000) :
    Calls Tryz.prog 128 #[.pointer (some ⟨q, 0, none⟩), .slice sa 1 1, .int .i64 (d : Int)] w fun e' w' => e' = .returned (.tuple #[]) ∧ ∃ v', Wr w' q v' (xs ++ ws.map tb) (max dp e) ∧ WS q w v w' v' := by
  obtain ⟨k, n, m, l⟩ := y
  obtain ⟨g, o, cap, esl, -⟩ := hx.inv (by simp)
  injection esl with ea eb ec
  subst ea
  clear eb ec
  obtain ⟨sa', sn', sc', j0, j1, j2, j3, X⟩ := hx.kid0
  let B : Obj := .cells #[.int .i64 k, .string ⟨n.toArray⟩, .int .i64 m, .slice sa' sn' sc'] 25
  have E1 : Hid _ := expr_w q hg f k n m sa' sn' sc' l d ws e v xs dp (w.alloc B) (ht.later (box_below _ _) (Nat.le_refl _)) (hw.later (box_below _ _)) (X.later (box_below _ _) (Nat.le_refl _)) hd hr hn
  have HS : Hid (WS q w v (w.alloc B) v) := WS.of_below (Nat.le_of_lt hw.lt) (box_below _ _)
  clear ht hw hx X hd hr hn hg
  go_enter Tryz.func128, Tryz.ntmps128
  go_wp2_with fail
  refine wp_loop_rounds 2 ?_
  rw [rounds_succ]
  go_wp2_with fail
  refine Calls.mono E1.out ?_
  rintro e w1 ⟨rfl, v1, W1, S1⟩
  have PB : Hid _ := (⟨W1, HS.out.trans S1⟩ : Wr w1 q v1 _ _ ∧ WS q w v w1 v1)
  clear W1 S1
  go_wp2_with fail
  rw [rounds_succ]
  go_wp2_with fail
  go_end0
  exact ⟨rfl, v1, PB.out⟩
set_option maxRecDepth 100000 in
set_option maxHeartbeats 2000000 in
theorem wstmt_8 (q f : Nat) (hg : 2 < q) (y : Sx.Ex) (sa : Option Addr) (d : Nat) (ws : List (List UInt8)) (e : Nat) (v : Value) (xs : List ByteArray) (dp : Nat) (w : World) (ht : Tab w) (hw : Wr w q v xs dp) (hx : ExS (fun g => g < q) w (.slice sa 1 1) [y]) (hd : d + 1 + 2 * f ≤ 1000000) (hr : Sx.wx f y (d + 1) = some (ws, e)) (hn : xs.length + ws.length + 2 ≤ 1000000) :
    Calls Tryz.prog 98 #[.pointer (some ⟨q, 0, none⟩), stV 8 (.slice sa 1 1), .int .i64 (d : Int)] w fun e' w' => e' = .returned (.tuple #[]) ∧ ∃ v', Wr w' q v' (xs ++ (tb [112, 114, 105, 110, 116] :: ws.map tb) ++ [tb [59]]) (max (max dp d) e) ∧ WS q w v w' v' := by
  have HG : Hid (2 < q) := hg
  have W0 : Hid _ := hw.later (box_below w (.cells #[.int .i64 8, .string ⟨#[]⟩, .string ⟨#[]⟩, .int .i64 0, .slice sa 1 1, .slice none 0 0, .slice none 0 0] 137))
  have F0 : Hid _ := hw.frn #[.int .i64 8, .string ⟨#[]⟩, .string ⟨#[]⟩, .int .i64 0, .slice sa 1 1, .slice none 0 0, .slice none 0 0] 137 (by decide)
  have B0 : Hid _ := B7.new w 137 (.int .i64 8) (.string ⟨#[]⟩) (.string ⟨#[]⟩) (.int .i64 0) (.slice sa 1 1) (.slice none 0 0) (.slice none 0 0)
  have S0 : Hid _ := WS.of_below (v := v) (Nat.le_of_lt hw.lt) (box_below w (.cells #[.int .i64 8, .string ⟨#[]⟩, .string ⟨#[]⟩, .int .i64 0, .slice sa 1 1, .slice none 0 0, .slice none 0 0] 137))
  have HT : Hid (Tab w) := ht
  have HX : Hid _ := hx
  have HD : Hid (d + 1 + 2 * f ≤ 1000000) := hd
  have HR : Hid (Sx.wx f y (d + 1) = some (ws, e)) := hr
  have HN : Hid (xs.length + ws.length + 2 ≤ 1000000) := hn
  have hw1 : IntKind.i64.wrap ((d : Int) + 1) = (d : Int) + 1 := by rw [IntKind.wrap_i64]; omega
  clear ht hw hx hd hr hn hg
  unfold stV
  go_enter Tryz.func98, Tryz.ntmps98
  go_wp2_with fail
  refine (reach_any q dp d v xs _ W0.out).mono ?_
  rintro e1 w1 ⟨rfl, W1, S1⟩
  have b1 := B0.out.kept (S1.far _ F0.out).1 S1.size
  have F1 : Hid _ := S1.frn F0.out
  have S1' : Hid _ := S0.out.trans S1
  have W1' : Hid _ := W1
  have B1' : Hid _ := b1
  obtain ⟨c0, c1, c2, c3, c4, c5, c6, -, -, -, -, -, -, -, zt⟩ := b1
  clear W1 S1
  go_wp2_with fail
  refine (put1 q _ v xs (tb [112, 114, 105, 110, 116]) _ W1'.out (by have := HN.out; omega) _ _ rfl).mono ?_
  rintro e1 w2 ⟨rfl, v2, W2, S2⟩
  have b2 := B1'.out.kept (S2.far _ F1.out).1 S2.size
  have S2' : Hid _ := S1'.out.trans S2
  have W2' : Hid _ := W2
  clear c0 c1 c2 c3 c4 c5 c6 zt W2 S2
  obtain ⟨c0, c1, c2, c3, c4, c5, c6, -, -, -, -, -, -, -, zt⟩ := b2
  have E2 : Hid (Calls Tryz.prog 128 #[.pointer (some ⟨q, 0, none⟩), .slice sa 1 1, .int .i64 ((d : Int) + 1)] w2 fun e' w' => e' = .returned (.tuple #[]) ∧ ∃ v', Wr w' q v' (xs ++ [tb [112, 114, 105, 110, 116]] ++ ws.map tb) (max (max dp d) e) ∧ WS q w2 v2 w' v') := exprs_one q f HG.out y sa (d + 1) ws e v2 _ _ w2 (HT.out.low S2'.out.below HG.out) W2'.out (HX.out.ws S2'.out) HD.out HR.out (by have := HN.out; simp; omega)
  go_wp2_with fail
  refine Calls.mono E2.out ?_
  rintro e1 w3 ⟨rfl, v3, W3, S3⟩
  have S3' : Hid _ := S2'.out.trans S3
  have W3' : Hid _ := W3
  clear c0 c1 c2 c3 c4 c5 c6 zt W3 S3
  go_wp2_with fail
  refine (put1 q _ v3 _ (tb [59]) _ W3'.out (by have := HN.out; simp; omega) _ _ rfl).mono ?_
  rintro e1 w4 ⟨rfl, v4, W4, S4⟩
  have PB : Hid (Wr w4 q v4 (xs ++ (tb [112, 114, 105, 110, 116] :: ws.map tb) ++ [tb [59]]) (max (max dp d) e) ∧ WS q w v w4 v4) := ⟨by simpa using W4, S3'.out.trans S4⟩
  clear W4 S4
  go_wp2_with fail
  go_end0
  exact ⟨rfl, v4, PB.out⟩
end Go.Proofs.YtlhklpnkelcnbaaGreatDoor

namespace Go.Proofs.YtlhklpnkelcnbaaGreatDoor
open Go.RowKit

set_option maxRecDepth 100000 in
set_option maxHeartbeats 2000000 in
theorem wblock_one (q f : Nat) (hg : 2 < q) (y : Sx.Ex) (sa : Option Addr) (gb cb : Nat) (d : Nat) (ws : List (List UInt8)) (e : Nat) (v : Value) (xs : List ByteArray) (dp : Nat) (w : World) (ht : Tab w) (hw : Wr w q v xs dp) (hs : S1 w gb 8 (.slice sa 1 1)) (hgb : gb < q) (hx : ExS (fun g => g < q) w (.slice sa 1 1) [y]) (hd : d + 1 + 2 * f ≤ 1000000) (hr : Sx.wx f y (d + 1) = some (ws, e)) (hn : xs.length + ws.length + 4 ≤ 1000000) :
    Calls Tryz.prog 75 #[.pointer (some ⟨q, 0, none⟩), .slice (some ⟨gb, 0, none⟩) 1 cb, .int .i64 (d : Int)] w fun e' w' => e' = .returned (.tuple #[]) ∧ ∃ v', Wr w' q v' (xs ++ (tb [123] :: tb [112, 114, 105, 110, 116] :: ws.map tb) ++ [tb [59], tb [125]]) (max (max dp d) e) ∧ WS q w v w' v' := by
  have HG : Hid (2 < q) := hg
  have W0 : Hid _ := hw
  have HT : Hid (Tab w) := ht
  have HX : Hid _ := hx
  have HS : Hid _ := hs
  have HGB : Hid (gb < q) := hgb
  have HD : Hid (d + 1 + 2 * f ≤ 1000000) := hd
  have HR : Hid (Sx.wx f y (d + 1) = some (ws, e)) := hr
  have HN : Hid (xs.length + ws.length + 4 ≤ 1000000) := hn
  clear ht hw hx hd hr hn hg hs hgb
  go_enter Tryz.func75, Tryz.ntmps75
  go_wp2_with fail
  refine (put1 q _ v xs (tb [123]) _ W0.out (by have := HN.out; omega) _ _ rfl).mono ?_
  rintro e1 w1 ⟨rfl, v1, W1, S1⟩
  have S1' : Hid _ := S1
  have W1' : Hid _ := W1
  obtain ⟨c0, c1, c2, c3, c4, c5, c6, zt⟩ := HS.out.ws S1 HGB.out
  have bb := box_below w1 (.cells #[.int .i64 8, .string ⟨#[]⟩, .string ⟨#[]⟩, .int .i64 0, .slice sa 1 1, .slice none 0 0, .slice none 0 0] 137)
  have S1b : Hid _ := WS.of_below (v := v1) (Nat.le_of_lt W1.lt) bb
  have E1 : Hid (Calls Tryz.prog 98 #[.pointer (some ⟨q, 0, none⟩), .agg #[.int .i64 8, .string ⟨#[]⟩, .string ⟨#[]⟩, .int .i64 0, .slice sa 1 1, .slice none 0 0, .slice none 0 0], .int .i64 (d : Int)] (w1.alloc (.cells #[.int .i64 8, .string ⟨#[]⟩, .string ⟨#[]⟩, .int .i64 0, .slice sa 1 1, .slice none 0 0, .slice none 0 0] 137)) fun e' w' => e' = .returned (.tuple #[]) ∧ ∃ v', Wr w' q v' (xs ++ [tb [123]] ++ (tb [112, 114, 105, 110, 116] :: ws.map tb) ++ [tb [59]]) (max (max dp d) e) ∧ WS q (w1.alloc (.cells #[.int .i64 8, .string ⟨#[]⟩, .string ⟨#[]⟩, .int .i64 0, .slice sa 1 1, .slice none 0 0, .slice none 0 0] 137)) v1 w' v') :=
    wstmt_8 q f HG.out y sa d ws e v1 _ dp _ ((HT.out.low S1.below HG.out).later bb (Nat.le_refl _)) (W1.later bb) ((HX.out.ws S1).later bb (Nat.le_refl _)) HD.out HR.out (by have := HN.out; simp; omega)
  clear W1 S1 bb
  go_wp2_with fail
  refine wp_loop_rounds 2 ?_
  rw [rounds_succ]
  go_wp2_with fail
  refine Calls.mono E1.out ?_
  rintro e1 w2 ⟨rfl, v2, W2, S2⟩
  have S2' : Hid _ := (S1'.out.trans S1b.out).trans S2
  have W2' : Hid _ := W2
  clear W2 S2 c0 c1 c2 c3 c4 c5 c6 zt
  go_wp2_with fail
  rw [rounds_succ]
  go_wp2_with fail
  refine (put1 q _ v2 _ (tb [125]) _ W2'.out (by have := HN.out; simp; omega) _ _ rfl).mono ?_
  rintro e1 w4 ⟨rfl, v4, W4, S4⟩
  have PB : Hid (Wr w4 q v4 (xs ++ (tb [123] :: tb [112, 114, 105, 110, 116] :: ws.map tb) ++ [tb [59], tb [125]]) (max (max dp d) e) ∧ WS q w v w4 v4) := ⟨by simpa using W4, S2'.out.trans S4⟩
  clear W4 S4
  go_wp2_with fail
  go_end0
  exact ⟨rfl, v4, PB.out⟩
/-- The words of such a procedure. -/
def pwords (nm : List UInt8) (ws : List (List UInt8)) : List (List UInt8) := [[112, 114, 111, 99], nm, [40], [41], [123], [112, 114, 105, 110, 116]] ++ ws ++ [[59], [125]]
set_option maxRecDepth 100000 in
set_option maxHeartbeats 2000000 in
theorem wproc_one (q f : Nat) (hg : 2 < q) (y : Sx.Ex) (sa : Option Addr) (gb cb : Nat) (nm : List UInt8) (ws : List (List UInt8)) (e : Nat) (v : Value) (xs : List ByteArray) (dp : Nat) (w : World) (ht : Tab w) (hw : Wr w q v xs dp) (hs : S1 w gb 8 (.slice sa 1 1)) (hgb : gb < q) (hx : ExS (fun g => g < q) w (.slice sa 1 1) [y]) (hd : f ≤ 400000) (hr : Sx.wx f y 2 = some (ws, e)) (hn : xs.length + ws.length + 8 ≤ 1000000) :
    Calls Tryz.prog 50 #[.pointer (some ⟨q, 0, none⟩), .agg #[.string ⟨nm.toArray⟩, .slice none 0 0, .int .i64 0, .slice (some ⟨gb, 0, none⟩) 1 cb]] w fun e' w' => e' = .returned (.tuple #[]) ∧ ∃ v', Wr w' q v' (xs ++ (pwords nm ws).map tb) (max (max dp 1) e) ∧ WS q w v w' v' := by
  have HG : Hid (2 < q) := hg
  have W0 : Hid _ := hw.later (box_below w (.cells #[.string ⟨nm.toArray⟩, .slice none 0 0, .int .i64 0, .slice (some ⟨gb, 0, none⟩) 1 cb] 92))
  have F0 : Hid _ := hw.frn #[.string ⟨nm.toArray⟩, .slice none 0 0, .int .i64 0, .slice (some ⟨gb, 0, none⟩) 1 cb] 92 (by decide)
  have B0 : Hid _ := Bx.new w 92 (.string ⟨nm.toArray⟩) (.slice none 0 0) (.int .i64 0) (.slice (some ⟨gb, 0, none⟩) 1 cb)
  have S0 : Hid _ := WS.of_below (v := v) (Nat.le_of_lt hw.lt) (box_below w (.cells #[.string ⟨nm.toArray⟩, .slice none 0 0, .int .i64 0, .slice (some ⟨gb, 0, none⟩) 1 cb] 92))
  have HT : Hid (Tab w) := ht
  have HX : Hid _ := hx
  have HS : Hid _ := hs
  have HGB : Hid (gb < q) := hgb
  have HD : Hid (f ≤ 400000) := hd
  have HR : Hid (Sx.wx f y 2 = some (ws, e)) := hr
  have HN : Hid (xs.length + ws.length + 8 ≤ 1000000) := hn
  obtain ⟨c0, c1, c2, c3, -, -, -, -, zt⟩ := B0.out
  clear ht hw hx hd hr hn hg hs hgb
  go_enter Tryz.func50, Tryz.ntmps50
  go_wp2_with fail
  refine (put3 q _ v xs (tb [112, 114, 111, 99]) (tb nm) (tb [40]) _ W0.out (by have := HN.out; omega) _ _ (by simp)).mono ?_
  rintro e1 w1 ⟨rfl, v1, W1, S1⟩
  have b1 := B0.out.far S1 F0.out
  have F1 : Hid _ := S1.frn F0.out
  have S1' : Hid _ := S0.out.trans S1
  have W1' : Hid _ := W1
  have B1' : Hid _ := b1
  clear c0 c1 c2 c3 zt W1 S1
  obtain ⟨c0, c1, c2, c3, -, -, -, -, zt⟩ := b1
  go_wp2_with fail
  refine wp_loop_rounds 1 ?_
  rw [rounds_succ]
  go_wp2_with fail
  refine (put1 q _ v1 _ (tb [41]) _ W1'.out (by have := HN.out; simp; omega) _ _ rfl).mono ?_
  rintro e1 w2 ⟨rfl, v2, W2, S2⟩
  have b2 := B1'.out.far S2 F1.out
  have S2' : Hid _ := S1'.out.trans S2
  have W2' : Hid _ := W2
  clear c0 c1 c2 c3 zt W2 S2
  obtain ⟨c0, c1, c2, c3, -, -, -, -, zt⟩ := b2
  have E3 : Hid (Calls Tryz.prog 75 #[.pointer (some ⟨q, 0, none⟩), .slice (some ⟨gb, 0, none⟩) 1 cb, .int .i64 1] w2 _) := wblock_one q f HG.out y sa gb cb 1 ws e v2 _ dp w2 (HT.out.low S2'.out.below HG.out) W2'.out (HS.out.ws S2'.out HGB.out) HGB.out (HX.out.ws S2'.out) (by have := HD.out; omega) HR.out (by have := HN.out; simp; omega)
  go_wp2_with fail
  refine Calls.mono E3.out ?_
  rintro e1 w3 ⟨rfl, v3, W3, S3⟩
  have PB : Hid (Wr w3 q v3 (xs ++ (pwords nm ws).map tb) (max (max dp 1) e) ∧ WS q w v w3 v3) := ⟨by simpa [pwords] using W3, S2'.out.trans S3⟩
  clear c0 c1 c2 c3 zt W3 S3
  go_wp2_with fail
  go_end0
  exact ⟨rfl, v3, PB.out⟩
set_option maxRecDepth 100000 in
set_option maxHeartbeats 2000000 in
theorem wprog_one (q f : Nat) (hg : 2 < q) (y : Sx.Ex) (sa : Option Addr) (g c gb cb : Nat) (nm : List UInt8) (ws : List (List UInt8)) (e : Nat) (v : Value) (xs : List ByteArray) (dp : Nat) (w : World) (ht : Tab w) (hw : Wr w q v xs dp) (hp : P1 w g nm (.slice (some ⟨gb, 0, none⟩) 1 cb)) (hs : S1 w gb 8 (.slice sa 1 1)) (hgb : gb < q) (hx : ExS (fun g => g < q) w (.slice sa 1 1) [y]) (hd : f ≤ 400000) (hr : Sx.wx f y 2 = some (ws, e)) (hn : xs.length + ws.length + 8 ≤ 1000000) :
    Calls Tryz.prog 27 #[.pointer (some ⟨q, 0, none⟩), .agg #[.slice (some ⟨g, 0, none⟩) 1 c]] w fun e' w' => e' = .returned (.tuple #[]) ∧ ∃ v', Wr w' q v' (xs ++ (pwords nm ws).map tb) (max (max dp 1) e) ∧ WS q w v w' v' := by
  have E1 : Hid (∀ W, Below w.heap.size w W → Calls Tryz.prog 50 #[.pointer (some ⟨q, 0, none⟩), .agg #[.string ⟨nm.toArray⟩, .slice none 0 0, .int .i64 0, .slice (some ⟨gb, 0, none⟩) 1 cb]] W fun e' w' => e' = .returned (.tuple #[]) ∧ ∃ v', Wr w' q v' (xs ++ (pwords nm ws).map tb) (max (max dp 1) e) ∧ WS q W v w' v') := fun W hW => wproc_one q f hg y sa gb cb nm ws e v xs dp W (ht.later hW (Nat.le_refl _)) (hw.later hW) (hs.kept (hW.block _ hs.lt) hW.size) hgb (hx.later hW (Nat.le_refl _)) hd hr hn
  have HQ : Hid (q ≤ w.heap.size) := Nat.le_of_lt hw.lt
  obtain ⟨c0, c1, c2, c3, zt⟩ := hp
  clear ht hw hs hgb hx hd hr hn hg
  go_enter Tryz.func27, Tryz.ntmps27
  go_wp2_with fail
  refine wp_loop_rounds 2 ?_
  rw [rounds_succ]
  go_wp2_with fail
  refine (E1.out _ (by go_grown)).mono ?_
  rintro e1 w1 ⟨rfl, v1, W1, S1⟩
  have PB : Hid (Wr w1 q v1 (xs ++ (pwords nm ws).map tb) (max (max dp 1) e) ∧ WS q w v w1 v1) := ⟨W1, (WS.of_below HQ.out (by go_grown)).trans S1⟩
  clear W1 S1
  go_wp2_with fail
  rw [rounds_succ]
  go_wp2_with fail
  go_end0
  exact ⟨rfl, v1, PB.out⟩
set_option maxRecDepth 100000 in
set_option maxHeartbeats 1000000 in
theorem Print_one (f : Nat) (y : Sx.Ex) (n : Nat) (nm : List UInt8) (val : Value) (ws : List (List UInt8)) (dp : Nat) (w : World) (hk : Kw w) (ht : Tab w) (hnm : Lx.isName nm = true) (hnl : nm.length ≤ 40) (hg : GProg n w val nm y) (hr : Sx.rx f y = true) (hw : Sx.wx f y 2 = some (ws, dp))
    (hf : f ≤ 400000) (hd : dp ≤ 60) (hl : ws.length + 8 ≤ 1000000) (hJ : (Lib.join (pwords nm ws) [32]).length ≤ 100000000) :
    Calls Tryz.prog 15 #[val] w fun e w' => e = .returned (.tuple #[.string ⟨(Lib.join (pwords nm ws) [32]).toArray⟩, .int .i64 0]) ∧ Below w.heap.size w w' := by
  have hG := hg
  obtain ⟨g, c, gb, cb, sa, rfl, h1, h2, h3, h4, hp, hs, hx⟩ := hg
  have b0 := box_below w (.cells #[.slice (some ⟨g, 0, none⟩) 1 c] 43)
  have HR : Hid _ := rightProg_one f y n nm _ (w.alloc (.cells #[.slice (some ⟨g, 0, none⟩) 1 c] 43)) (hk.later b0) hnm hnl (hG.below (m := n) (fun g _ hl => b0.block g hl) b0.size (Nat.le_refl _)) hr
  have HT : Hid (Tab w) := ht
  have HP : Hid _ := hp
  have HS : Hid _ := hs
  have HX : Hid _ := hx
  have HW : Hid (Sx.wx f y 2 = some (ws, dp)) := hw
  have HF : Hid (f ≤ 400000 ∧ dp ≤ 60 ∧ ws.length + 8 ≤ 1000000 ∧ (Lib.join (pwords nm ws) [32]).length ≤ 100000000) := ⟨hf, hd, hl, hJ⟩
  clear hk ht hx hr hw hf hd hl hJ hG hp hs b0 h1 h2 h3 h4 hnm hnl
  go_enter Tryz.func15, Tryz.ntmps15
  go_wp2_with fail
  refine Calls.mono HR.out ?_
  rintro e w1 ⟨rfl, b1⟩
  have BW : Hid (Below w.heap.size w w1) := (box_below w _).trans (b1.mono (by simp))
  have B1' := (B1.new w 43 (.slice (some ⟨g, 0, none⟩) 1 c)).kept (b1.block _ (by simp)) b1.size
  obtain ⟨c0, f0, zt⟩ := B1'
  clear b1
  have bq := box_below w1 (.cells #[.slice none 0 0, .int .i64 0] 54)
  have bw1 := BW.out
  have T2 : Hid (Tab (w1.alloc (.cells #[.slice none 0 0, .int .i64 0] 54))) := (HT.out.later bw1 (Nat.le_refl _)).later bq (Nat.le_refl _)
  have hgq : 2 < w1.heap.size := Nat.lt_of_lt_of_le HT.out.2 bw1.size
  have p1 := HP.out.kept (bw1.block _ HP.out.lt) bw1.size
  have s1 := HS.out.kept (bw1.block _ HS.out.lt) bw1.size
  have x1 := ((HX.out.later bw1 (Nat.le_refl _)).mono (A' := fun g => g < w1.heap.size) fun g hg _ => hg).later bq (Nat.le_refl _)
  have E2 : Hid _ := wprog_one w1.heap.size f hgq y sa g c gb cb nm ws dp (.slice none 0 0) [] 0 _ T2.out (Wr.new w1 54) (p1.kept (bq.block _ p1.lt) bq.size) (s1.kept (bq.block _ s1.lt) bq.size) s1.lt x1 HF.out.1 HW.out (by have := HF.out.2.2.1; simp; omega)
  clear hgq p1 s1 x1 bq bw1
  go_wp2_with fail
  refine Calls.mono E2.out ?_
  rintro e w2 ⟨rfl, v2, W2, S2⟩
  have W2' : Hid (Wr w2 w1.heap.size v2 ((pwords nm ws).map tb) (max 1 dp)) := by have e := W2; rw [show max (max 0 1) dp = max 1 dp from rfl] at e; exact e
  have BW2 : Hid (Below w.heap.size w w2) := (BW.out.trans ((box_below w1 _).mono BW.out.size)).trans (S2.below.mono BW.out.size)
  clear W2 S2
  go_wp2_with fail
  refine (text_ok w1.heap.size (max 1 dp) v2 (pwords nm ws) w2 W2'.out (by have := HF.out.2.1; omega) HF.out.2.2.2 (by have := HF.out.2.2.1; simp [pwords]; omega)).mono ?_
  rintro e w3 ⟨rfl, b3⟩
  go_wp2_with fail
  go_ret2
  exact ⟨rfl, BW2.out.trans (b3.mono BW2.out.size)⟩
end Go.Proofs.YtlhklpnkelcnbaaGreatDoor

namespace Go.Proofs.YtlhklpnkelcnbaaGreatDoor
open Go.RowKit

def t3 : List UInt8 := [45, 32, 97, 32, 91, 32, 49, 32, 93, 32, 60, 32, 50, 32, 38, 38, 32, 116, 114, 117, 101]
def r3 : List (Lx.Tk × Nat) := [(⟨4, [45], 0⟩, 0), (⟨1, [97], 0⟩, 2), (⟨4, [91], 0⟩, 4), (⟨2, [], 1⟩, 6), (⟨4, [93], 0⟩, 8), (⟨4, [60], 0⟩, 10), (⟨2, [], 2⟩, 12), (⟨4, [38, 38], 0⟩, 14), (⟨3, [116, 114, 117, 101], 0⟩, 17), (⟨0, [], 0⟩, 21)]
theorem s3 : Lx.scan t3 = (r3, 0, 0) := by kernel_rfl
def y3l : List Sx.Ex := [.mk 6 [60] 0 [.mk 5 [45] 0 [.mk 4 [97] 0 [.mk 1 [] 1 []]], .mk 1 [] 2 []], .mk 2 [] 1 []]
theorem bd3 : Sx.bd (r3.map tkI) 60 1 1 0 = some (.ok (.mk 6 [38, 38] 0 y3l) 9) := by kernel_rfl
theorem rx1 : Sx.rx 20 y1 = true := by kernel_rfl
theorem rx3 : Sx.rx 20 (.mk 6 [38, 38] 0 y3l) = true := by kernel_rfl
def w1l : List (List UInt8) := [[49], [43], [40], [50], [42], [51], [41]]
def w3l : List (List UInt8) := [[40], [45], [97], [91], [49], [93], [60], [50], [41], [38, 38], [116, 114, 117, 101]]
theorem wx1 : Sx.wx 20 y1 2 = some (w1l, 3) := by kernel_rfl
theorem wx3 : Sx.wx 20 (.mk 6 [38, 38] 0 y3l) 1 = some (w3l, 4) := by kernel_rfl
theorem j1 : Lib.join (pwords [109, 97, 105, 110] w1l) [32] = [112, 114, 111, 99, 32, 109, 97, 105, 110, 32, 40, 32, 41, 32, 123, 32, 112, 114, 105, 110, 116, 32, 49, 32, 43, 32, 40, 32, 50, 32, 42, 32, 51, 32, 41, 32, 59, 32, 125] := by kernel_rfl
theorem j3 : Lib.join w3l [32] = [40, 32, 45, 32, 97, 32, 91, 32, 49, 32, 93, 32, 60, 32, 50, 32, 41, 32, 38, 38, 32, 116, 114, 117, 101] := by kernel_rfl
theorem print_1 (n : Nat) (val : Value) (w : World) (hk : Kw w) (ht : Tab w) (hg : GProg n w val [109, 97, 105, 110] y1) : Calls Tryz.prog 15 #[val] w fun e w' => e = .returned (.tuple #[.string ⟨([112, 114, 111, 99, 32, 109, 97, 105, 110, 32, 40, 32, 41, 32, 123, 32, 112, 114, 105, 110, 116, 32, 49, 32, 43, 32, 40, 32, 50, 32, 42, 32, 51, 32, 41, 32, 59, 32, 125] : List UInt8).toArray⟩, .int .i64 0]) ∧ Below w.heap.size w w' := by
  have e := Print_one 20 y1 n _ val w1l 3 w hk ht (by decide) (by decide) hg rx1 wx1 (by decide) (by decide) (by decide) (by rw [j1]; decide)
  rw [j1] at e
  exact e
theorem expr_3 (w : World) (hk : Kw w) : Calls Tryz.prog 7 #[.string ⟨t3.toArray⟩] w (EXok w (.mk 6 [38, 38] 0 y3l)) :=
  Expr_ok ⟨t3.toArray⟩ r3 60 _ 9 w hk (by decide) s3 (by decide) bd3 (by decide) (by decide)
theorem printExpr_3 (A : Nat → Prop) (sa : Option Addr) (sn sc : Nat) (w : World) (hk : Kw w) (ht : Tab w) (hx : ExS A w (.slice sa sn sc) y3l) : Calls Tryz.prog 10 #[.agg #[.int .i64 6, .string ⟨([38, 38] : List UInt8).toArray⟩, .int .i64 0, .slice sa sn sc]] w fun e w' => e = .returned (.tuple #[.string ⟨([40, 32, 45, 32, 97, 32, 91, 32, 49, 32, 93, 32, 60, 32, 50, 32, 41, 32, 38, 38, 32, 116, 114, 117, 101] : List UInt8).toArray⟩, .int .i64 0]) ∧ Below w.heap.size w w' := by
  have e := PrintExpr_ok A 20 6 [38, 38] 0 sa sn sc y3l w3l 4 w hk ht hx rx3 wx3 (by decide) (by decide) (by decide) (by rw [j3]; decide)
  rw [j3] at e
  exact e
set_option maxRecDepth 100000 in
set_option maxHeartbeats 2000000 in
theorem known3 (w : World) (hk : Kw w) (ht : Tab w) : Calls Tryz.prog 6 #[] w fun e w' => e = .returned (.bool true) ∧ Below w.heap.size w w' := by
  have HK : Hid (Kw w) := hk
  have HT : Hid (Tab w) := ht
  clear hk ht
  go_enter Tryz.func6, Tryz.ntmps6
  go_wp2_with fail
  refine Calls.mono (parse_1 _ HK.out) ?_
  rintro e w1 ⟨g, c, rfl, gp, b1⟩
  have bx := b1.trans ((box_below w1 (.cells #[.slice (some ⟨g, 0, none⟩) 1 c] 43)).mono b1.size)
  have E2 : Hid _ := print_1 w.heap.size _ (w1.alloc (.cells #[.slice (some ⟨g, 0, none⟩) 1 c] 43)) (HK.out.later bx) (HT.out.later bx (Nat.le_refl _)) (gp.below (fun g _ hl => (box_below _ _).block g hl) (box_below _ _).size (Nat.le_refl _))
  have B1' : Hid _ := bx
  clear bx b1 gp
  go_wp2_with fail
  refine Calls.mono E2.out ?_
  rintro e w2 ⟨rfl, b2⟩
  have B2' : Hid (Below w.heap.size w w2) := B1'.out.trans (b2.mono B1'.out.size)
  clear b2
  go_wp2_with fail
  refine Calls.mono (parse_2 _ (HK.out.later B2'.out)) ?_
  rintro e w3 ⟨rfl, b3⟩
  have B3' : Hid (Below w.heap.size w (w3.alloc (.cells #[.slice none 0 0] 43))) := (B2'.out.trans (b3.mono B2'.out.size)).trans ((box_below w3 _).mono (B2'.out.trans (b3.mono B2'.out.size)).size)
  clear b3
  go_wp2_with fail
  refine Calls.mono (expr_3 _ (HK.out.later B3'.out)) ?_
  rintro e w4 ⟨kk, nn, mm, sa, sn, sc, ll, he, rfl, X4, b4⟩
  injection he with e1 e2 e3 e4
  subst e1 e2 e3 e4
  have B4' : Hid (Below w.heap.size w (w4.alloc (.cells #[.int .i64 6, .string ⟨([38, 38] : List UInt8).toArray⟩, .int .i64 0, .slice sa sn sc] 25))) := (B3'.out.trans (b4.mono B3'.out.size)).trans ((box_below w4 _).mono (B3'.out.trans (b4.mono B3'.out.size)).size)
  have E5 : Hid _ := printExpr_3 _ sa sn sc (w4.alloc (.cells #[.int .i64 6, .string ⟨([38, 38] : List UInt8).toArray⟩, .int .i64 0, .slice sa sn sc] 25)) (HK.out.later B4'.out) (HT.out.later B4'.out (Nat.le_refl _)) (X4.later (box_below _ _) (Nat.le_refl _))
  clear X4 b4
  go_wp2_with fail
  refine Calls.mono E5.out ?_
  rintro e w5 ⟨rfl, b5⟩
  have B5' : Hid (Below w.heap.size w w5) := B4'.out.trans (b5.mono B4'.out.size)
  clear b5
  go_wp2_with fail
  go_ret
  exact ⟨rfl, B5'.out⟩
end Go.Proofs.YtlhklpnkelcnbaaGreatDoor
