/- Layer 3: unary, where a token is taken. -/
import Derived.Test.YtlhklpnkelcnbaaGreatDoorSynD
namespace Go.Proofs.YtlhklpnkelcnbaaGreatDoor
open Go.RowKit

abbrev zE : Obj := .cells #[.int .i64 0, .string ⟨#[]⟩, .int .i64 0, .slice none 0 0] 25
theorem sz1 {n : Nat} {w w' : World} {o : Obj} (h : Below n (w.alloc o) w') : w.heap.size + 1 ≤ w'.heap.size := by simpa using h.size
/-- The first token x was taken, and lies in a box of its own; the box for the answer is empty. -/
def URel (w : World) (p b o cap : Nat) (ts : List Tok) (k : Nat) (x : Tok) (s : Value) (wc : World) : Prop :=
  ∃ g, s = .pointer (some ⟨g, 0, none⟩) ∧ Bx wc g (.int .i64 x.1.kind) (.string ⟨x.1.text.toArray⟩) (.int .i64 x.1.num) (.int .i64 x.2) ∧ w.heap.size < g ∧
    Bx wc w.heap.size (.int .i64 0) (.string ⟨#[]⟩) (.int .i64 0) (.slice none 0 0) ∧ Mov p w wc ∧ Rd wc p b o cap ts (k + 1)
theorem URel.of {w w3 : World} {p b o cap : Nat} {ts : List Tok} {k g : Nat} {x : Tok} {a0 a1 a2 a3 : Value} (t : Bx w3 g a0 a1 a2 a3) (hg : w.heap.size < g) (hp : p < w.heap.size) (hb : b < w.heap.size) (r : Bx w3 w.heap.size (.int .i64 0) (.string ⟨#[]⟩) (.int .i64 0) (.slice none 0 0)) (m : Mov p w w3) (rd : Rd w3 p b o cap ts (k + 1)) :
    URel w p b o cap ts k x (.pointer (some ⟨g, 0, none⟩)) (fill w3 g (.int .i64 x.1.kind) (.string ⟨x.1.text.toArray⟩) (.int .i64 x.1.num) (.int .i64 x.2)) :=
  ⟨g, rfl, t.fill _ _ _ _, hg, r.filled (by omega) _ _ _ _, m.fill (by omega) _ _ _ _, rd.fill (by omega) (by omega) _ _ _ _⟩
theorem URel.of_new {w w3 : World} {p b o cap : Nat} {ts : List Tok} {k : Nat} {x : Tok} (t : TypeId) (r : Bx w3 w.heap.size (.int .i64 0) (.string ⟨#[]⟩) (.int .i64 0) (.slice none 0 0)) (m : Mov p w w3) (rd : Rd w3 p b o cap ts (k + 1)) :
    URel w p b o cap ts k x (.pointer (some ⟨w3.heap.size, 0, none⟩)) (w3.alloc (.cells #[.int .i64 x.1.kind, .string ⟨x.1.text.toArray⟩, .int .i64 x.1.num, .int .i64 x.2] t)) :=
  ⟨w3.heap.size, rfl, Bx.new _ _ _ _ _ _, r.lt, r.later (box_below _ _) r.lt, m.alloc _, rd.later (box_below _ _)⟩
/-- The answer is laid into its box. -/
theorem Post.of_fill {w wc : World} {p b o cap : Nat} {ts : List Tok} {k' : Nat} {kk m : Int} {n : List UInt8} {sl : Value} {l : List Sx.Ex} (M : Mov p w wc) (RD : Rd wc p b o cap ts k') (hk : k' < ts.length) (hp : p < w.heap.size) (hb : b < w.heap.size) (hs : ExS (fun g => w.heap.size < g) wc sl l) :
    Post p b o cap ts w (.ok (.mk kk n m l) k') (.returned (.agg #[.int .i64 kk, .string ⟨n.toArray⟩, .int .i64 m, sl])) (fill wc w.heap.size (.int .i64 kk) (.string ⟨n.toArray⟩) (.int .i64 m) sl) :=
  ⟨⟨_, rfl, _, rfl, (hs.fill (Nat.lt_irrefl _) _ _ _ _).mono (fun _ _ h => Nat.le_of_lt h)⟩, RD.fill (by omega) (by omega) _ _ _ _, hk, M.fill (Nat.le_refl _) _ _ _ _⟩
theorem Post.of_fillA {w wc : World} {p b o cap : Nat} {ts : List Tok} {k' : Nat} {kk m : Int} {n : List UInt8} {sl : Value} {l : List Sx.Ex} {blk : Obj} (M : Mov p w wc) (RD : Rd wc p b o cap ts k') (hk : k' < ts.length) (hp : p < w.heap.size) (hb : b < w.heap.size)
    (hs : ExS (fun g => w.heap.size < g) ((fill wc w.heap.size (.int .i64 kk) (.string ⟨n.toArray⟩) (.int .i64 m) sl).alloc blk) sl l) :
    Post p b o cap ts w (.ok (.mk kk n m l) k') (.returned (.agg #[.int .i64 kk, .string ⟨n.toArray⟩, .int .i64 m, sl])) ((fill wc w.heap.size (.int .i64 kk) (.string ⟨n.toArray⟩) (.int .i64 m) sl).alloc blk) :=
  ⟨⟨_, rfl, _, rfl, hs.mono (fun _ _ h => Nat.le_of_lt h)⟩, (RD.fill (by omega) (by omega) _ _ _ _).later (box_below _ _), hk, (M.fill (Nat.le_refl _) _ _ _ _).alloc _⟩
/-- What is asked of the calls within. -/
def UC (p b o cap : Nat) (ts : List Tok) (f : Nat) : Prop := ∀ (d k : Nat) (r : Sx.Rs) (w : World), d ≤ 61 → Rd w p b o cap ts k → k < ts.length → Sx.un ts f d k = some r →
  Calls Tryz.prog 79 #[.pointer (some ⟨p, 0, none⟩), .int .i64 (d : Int)] w (Post p b o cap ts w r)
def EC (p b o cap : Nat) (ts : List Tok) (f : Nat) : Prop := ∀ (d k : Nat) (r : Sx.Rs) (w : World), d ≤ 61 → Rd w p b o cap ts k → k < ts.length → Sx.bd ts f 1 d k = some r →
  Calls Tryz.prog 32 #[.pointer (some ⟨p, 0, none⟩), .int .i64 (d : Int)] w (Post p b o cap ts w r)
def VC (p b o cap : Nat) (ts : List Tok) (f : Nat) : Prop := ∀ (n : List UInt8) (d k : Nat) (r : Sx.Rs) (w : World), d ≤ 60 → Rd w p b o cap ts k → k < ts.length →
  (if Sx.tx ts k = [91] then Sx.shut ts [93] (fun x => .mk 4 n 0 [x]) (Sx.bd ts f 1 (d + 1) (k + 1)) else some (.ok (.mk 3 n 0 []) k)) = some r →
  Calls Tryz.prog 106 #[.pointer (some ⟨p, 0, none⟩), .string ⟨n.toArray⟩, .int .i64 (d : Int)] w (Post p b o cap ts w r)
set_option maxRecDepth 100000 in
set_option maxHeartbeats 6000000 in
theorem unary_ok (w : World) (p b o cap : Nat) (ts : List Tok) (k : Nat) (x : Tok) (d f : Nat) (r : Sx.Rs) (h : Rn w p b o cap ts k x) (gd : Good ts) (hx : Sx.begE x = true) (hd : d ≤ 60)
    (hu : UC p b o cap ts f) (he : EC p b o cap ts f) (hv : VC p b o cap ts f) (hr : Sx.un ts (f + 1) d k = some r) :
    Calls Tryz.prog 79 #[.pointer (some ⟨p, 0, none⟩), .int .i64 (d : Int)] w (Post p b o cap ts w r) := by
  have H : Hid (Rn w p b o cap ts k x) := h
  have HX : Hid (Sx.begE x = true) := hx
  have HD : Hid (d ≤ 60) := hd
  have HL : Hid (ts.length ≤ 1000000) := gd.len
  have HU : Hid (UC p b o cap ts f) := hu
  have GD : Hid (Good ts) := gd
  have HE : Hid (EC p b o cap ts f) := he
  have HV : Hid (VC p b o cap ts f) := hv
  have HK : Hid (k + 1 < ts.length) := gd.next h.hk (by rw [h.tk]; intro e; rw [Sx.begE, e] at hx; exact absurd hx (by decide))
  have HR : Hid ((if x.1.kind = 2 then some (Sx.Rs.ok (.mk 1 [] x.1.num []) (k + 1))
    else if x.1.kind = 1 then
      (if Sx.tx ts (k + 1) = [91] then Sx.shut ts [93] (fun y => .mk 4 x.1.text 0 [y]) (Sx.bd ts f 1 (d + 1) (k + 1 + 1)) else some (.ok (.mk 3 x.1.text 0 []) (k + 1)))
    else if x.1.text = [116, 114, 117, 101] then some (.ok (.mk 2 [] 1 []) (k + 1))
    else if x.1.text = [102, 97, 108, 115, 101] then some (.ok (.mk 2 [] 0 []) (k + 1))
    else if x.1.text = [40] then Sx.shut ts [41] (fun x => x) (Sx.bd ts f 1 (d + 1) (k + 1))
    else match Sx.un ts f (d + 1) (k + 1) with
      | some (.ok y k') => some (.ok (.mk 5 x.1.text 0 [y]) k')
      | r => r) = some r) := by
    have e := hr
    rw [Sx.un, if_neg (by rw [h.tk, hx]; decide), if_neg (by omega), h.tk, show Sx.tx ts k = x.1.text by rw [Sx.tx, h.tk]] at e
    exact e
  have hp : Hid (p < w.heap.size) := h.rd.lt
  have hb : Hid (b < w.heap.size) := h.rd.ta.lt
  clear h hx hd gd hu he hv hr
  go_enter Tryz.func79, Tryz.ntmps79
  go_wp2_with fail
  go_cut [5] from 7 (fun s wc => URel w p b o cap ts k x s wc)
  case rest =>
    obtain ⟨g, rfl, T, hg, R, M, RD⟩ := hcut
    have TB : Hid _ := T
    have RB : Hid _ := R
    have MB : Hid _ := M
    have RDB : Hid _ := RD
    obtain ⟨c0, c1, c2, c3, f0, f1, f2, f3, zt⟩ := T
    obtain ⟨d0, d1, d2, d3, e0, e1, e2, e3, zr⟩ := R
    clear M RD
    have gw : ¬ g = w.heap.size := by omega
    have gp : Hid (g ≠ p) := by have := hp.out; unfold Hid; omega
    have rp : Hid (w.heap.size ≠ p) := by have := hp.out; unfold Hid; omega
    have gw' : ¬ w.heap.size = g := by omega
    by_cases k2 : x.1.kind = 2
    · have HR2 : Hid (some (Sx.Rs.ok (.mk 1 [] x.1.num []) (k + 1)) = some r) := by have := HR.out; rw [if_pos k2] at this; exact this
      clear HR
      go_wp2_with fail
      refine bodyPost_ret (v := .agg #[.int .i64 1, .string ⟨#[]⟩, .int .i64 x.1.num, .slice none 0 0]) (by simp [results, Tryz.results79, go_sem, d0, d1, d2, d3]) rfl ?_
      rw [← Option.some.inj HR2.out]
      exact Post.of_fill (n := []) MB.out RDB.out HK.out hp.out hb.out (.nil _ _)
    · have HR2 := HR.out
      rw [if_neg k2] at HR2
      replace HR : Hid _ := HR2
      clear HR2
      have b2 : (x.1.kind == 2) = false := beq_eq_false_iff_ne.2 k2
      clear k2
      by_cases k1 : x.1.kind = 1
      · have HR2 := HR.out
        rw [if_pos k1] at HR2
        replace HR : Hid _ := HR2
        clear HR2
        go_wp2_with fail
        refine (HV.out x.1.text d (k + 1) r wc HD.out RDB.out HK.out HR.out).mono ?_
        cases r with
        | bad a er =>
          rintro e w' ⟨rfl, m'⟩
          exact ⟨rfl, rfl, MB.out.trans m'⟩
        | ok y k' =>
          obtain ⟨kk, nn, mm, ll⟩ := y
          rintro e w' ⟨⟨v, rfl, sl, rfl, hs⟩, rd', hk', m'⟩
          obtain ⟨sa, sn, sc, rfl⟩ := hs.form
          have PB : Hid _ := Post.of_fill (kk := kk) (n := nn) (m := mm) (MB.out.trans m') rd' hk' hp.out hb.out (hs.mono fun g _ hg => Nat.lt_of_lt_of_le RB.out.lt hg)
          have R' := RB.out.mov m' (by have := hp.out; omega)
          obtain ⟨d0', d1', d2', d3', e0', e1', e2', e3', zr'⟩ := R'
          clear hs rd' hk' m'
          go_wp2_with fail
          refine bodyPost_ret (v := .agg #[.int .i64 kk, .string ⟨nn.toArray⟩, .int .i64 mm, .slice sa sn sc]) (by simp [results, Tryz.results79, go_sem, d0', d1', d2', d3']) rfl ?_
          exact PB.out
      · have HR2 := HR.out
        rw [if_neg k1] at HR2
        replace HR : Hid _ := HR2
        clear HR2
        have b1 : (x.1.kind == 1) = false := beq_eq_false_iff_ne.2 k1
        clear k1
        by_cases h1 : x.1.text = [116, 114, 117, 101]
        · have HR2 := HR.out
          rw [if_pos h1] at HR2
          replace HR : Hid _ := HR2
          clear HR2
          rw [h1] at c1
          go_wp2_with fail
          refine bodyPost_ret (v := .agg #[.int .i64 2, .string ⟨#[]⟩, .int .i64 1, .slice none 0 0]) (by simp [results, Tryz.results79, go_sem, d0, d1, d2, d3]) rfl ?_
          rw [← Option.some.inj HR.out]
          exact Post.of_fill (n := []) MB.out RDB.out HK.out hp.out hb.out (.nil _ _)
        · have HR2 := HR.out
          rw [if_neg h1] at HR2
          replace HR : Hid _ := HR2
          clear HR2
          have t1 := text_f h1
          clear h1
          by_cases h2 : x.1.text = [102, 97, 108, 115, 101]
          · have HR2 := HR.out
            rw [if_pos h2] at HR2
            replace HR : Hid _ := HR2
            clear HR2
            rw [h2] at c1 t1
            go_wp2_with fail
            refine bodyPost_ret (v := .agg #[.int .i64 2, .string ⟨#[]⟩, .int .i64 0, .slice none 0 0]) (by simp [results, Tryz.results79, go_sem, d0, d1, d2, d3]) rfl ?_
            rw [← Option.some.inj HR.out]
            exact Post.of_fill (n := []) MB.out RDB.out HK.out hp.out hb.out (.nil _ _)
          · have HR2 := HR.out
            rw [if_neg h2] at HR2
            replace HR : Hid _ := HR2
            clear HR2
            have t2 := text_f h2
            clear h2
            by_cases h3 : x.1.text = [40]
            · have HR2 := HR.out
              rw [if_pos h3] at HR2
              replace HR : Hid _ := HR2
              clear HR2
              rw [h3] at c1 t1 t2
              have hw1 : IntKind.i64.wrap ((d : Int) + 1) = (d : Int) + 1 := by have := HD.out; rw [IntKind.wrap_i64]; omega
              cases hB : Sx.bd ts f 1 (d + 1) (k + 1) with
              | none => exact absurd HR.out (by rw [hB]; intro e; cases e)
              | some r1 =>
                have E1 : Hid (Calls Tryz.prog 32 #[.pointer (some ⟨p, 0, none⟩), .int .i64 ((d : Int) + 1)] wc (Post p b o cap ts wc r1)) := HE.out (d + 1) (k + 1) r1 wc (by have := HD.out; omega) RDB.out HK.out hB
                have HR2 := HR.out
                rw [hB] at HR2
                replace HR : Hid _ := HR2
                clear HR2 hB
                go_wp2_with fail
                refine E1.out.mono ?_
                cases r1 with
                | bad a er =>
                  rintro e w' ⟨rfl, m'⟩
                  rw [← Option.some.inj HR.out]
                  exact ⟨rfl, rfl, MB.out.trans m'⟩
                | ok y k' =>
                  obtain ⟨kk, nn, mm, ll⟩ := y
                  rintro e w' ⟨⟨v, rfl, sl, rfl, hs⟩, rd', hk', m'⟩
                  obtain ⟨sa, sn, sc, rfl⟩ := hs.form
                  have R' := RB.out.mov m' (by have := hp.out; omega)
                  have M1 : Hid _ := MB.out.trans m'
                  have RD1 : Hid (Rd (w'.alloc (.cells #[.int .i64 kk, .string ⟨nn.toArray⟩, .int .i64 mm, .slice sa sn sc] 25)) p b o cap ts k') := rd'.later (box_below _ _)
                  have HK1 : Hid (k' < ts.length) := hk'
                  have HS1 : Hid (ExS (fun g => w.heap.size < g) w' (.slice sa sn sc) ll) := hs.mono fun g _ hg => Nat.lt_of_lt_of_le RB.out.lt hg
                  have R1 : Hid _ := R'
                  clear hs rd' hk' m' R' E1
                  by_cases h41 : Sx.tx ts k' = [41]
                  · have HR2 := HR.out
                    rw [Sx.shut, if_pos h41] at HR2
                    replace HR : Hid _ := HR2
                    have H41 : Hid (Sx.tx ts k' = [41]) := h41
                    clear HR2 h41
                    go_wp2_with fail
                    refine (must_yes _ p b o cap ts k' (ts.getD k' tok0) [41] ⟨RD1.out, HK1.out, rfl⟩ HL.out H41.out).mono ?_
                    rintro e w2 ⟨rfl, m2, rd2⟩
                    have hn : w'.heap.size ≠ p := by have := hp.out; have := R1.out.lt; omega
                    have hk2 : k' + 1 < ts.length := GD.out.next HK1.out (fun e => by have h4 := H41.out; unfold Sx.tx at h4; rw [e] at h4; exact absurd h4 (by decide))
                    have PB : Hid _ := Post.of_fill (kk := kk) (n := nn) (m := mm) ((M1.out.alloc _).trans m2) rd2 hk2 hp.out hb.out ((HS1.out.later (box_below _ _) (Nat.le_refl _)).mov m2 (by have := hp.out; omega))
                    have B6 := (Bx.new w' 25 (.int .i64 kk) (.string ⟨nn.toArray⟩) (.int .i64 mm) (.slice sa sn sc)).mov m2 hn
                    have R2 := (R1.out.later (box_below _ _) R1.out.lt).mov m2 (by have := hp.out; omega)
                    have nw : ¬ w'.heap.size = w.heap.size := by have := R1.out.lt; omega
                    obtain ⟨g0, g1, g2, g3, i0, i1, i2, i3, zb⟩ := B6
                    obtain ⟨d0', d1', d2', d3', e0', e1', e2', e3', zr'⟩ := R2
                    clear m2 rd2 hk2
                    go_wp2_with fail
                    refine bodyPost_ret (v := .agg #[.int .i64 kk, .string ⟨nn.toArray⟩, .int .i64 mm, .slice sa sn sc]) (by simp [results, Tryz.results79, go_sem, d0', d1', d2', d3']) rfl ?_
                    rw [← Option.some.inj HR.out]
                    exact PB.out
                  · have HR2 := HR.out
                    rw [Sx.shut, if_neg h41] at HR2
                    replace HR : Hid _ := HR2
                    have H41 : Hid (¬ Sx.tx ts k' = [41]) := h41
                    clear HR2 h41
                    go_wp2_with fail
                    refine (must_no _ p b o cap ts k' (ts.getD k' tok0) [41] ⟨RD1.out, HK1.out, rfl⟩ H41.out).mono ?_
                    rintro e w2 ⟨rfl, b2⟩
                    rw [← Option.some.inj HR.out]
                    exact ⟨rfl, rfl, (M1.out.alloc _).below b2⟩
            · have HR2 := HR.out
              rw [if_neg h3] at HR2
              replace HR : Hid _ := HR2
              clear HR2
              have t3 := text_f h3
              clear h3
              have hw1 : IntKind.i64.wrap ((d : Int) + 1) = (d : Int) + 1 := by have := HD.out; rw [IntKind.wrap_i64]; omega
              cases hB : Sx.un ts f (d + 1) (k + 1) with
              | none => exact absurd HR.out (by rw [hB]; intro e; cases e)
              | some r1 =>
                have E1 : Hid (∀ W, Rd W p b o cap ts (k + 1) → Calls Tryz.prog 79 #[.pointer (some ⟨p, 0, none⟩), .int .i64 ((d : Int) + 1)] W (Post p b o cap ts W r1)) := fun W hW => HU.out (d + 1) (k + 1) r1 W (by have := HD.out; omega) hW HK.out hB
                have HR2 := HR.out
                rw [hB] at HR2
                replace HR : Hid _ := HR2
                clear HR2 hB
                cases r1 with
                | bad a er =>
                  have hr0 : r = .bad a er := (Option.some.inj HR.out).symm
                  subst hr0
                  go_wp2_with fail
                  go_region_with (first
                    | (go_at_call 79; refine shutWay (E1.out _ ?_) ?_ (.agg #[.int .i64 0, .string ⟨#[]⟩, .int .i64 0, .slice none 0 0]) ?_; exact RDB.out.later (by go_grown); (rintro e w4 ⟨rfl, m4⟩; exact ⟨rfl, rfl, (MB.out.trans (Mov.of_below (by go_grown))).trans m4⟩); intro hF; have hz1 : ∀ (W : World) (q : Addr), W.frozen? q = false := fun _ _ => hF.out _; have hz2 : ∀ (W : World) (q : Addr), W.cell? q = some (.int .i64 0) := fun _ _ => hF.out _))
                  all_goals exact hF.out _
                | ok y k' =>
                  obtain ⟨kk, nn, mm, ll⟩ := y
                  have hr0 : r = .ok (.mk 5 x.1.text 0 [.mk kk nn mm ll]) k' := (Option.some.inj HR.out).symm
                  subst hr0
                  go_wp2_with fail
                  go_region_with (first
                    | (go_at_call 79; refine (E1.out _ ?_).mono ?_; exact RDB.out.later (by go_grown); rintro e w4 ⟨⟨v, rfl, sl, rfl, hs⟩, rd4, hk4, m4⟩; obtain ⟨sa, sn, sc, rfl⟩ := hs.form; have MW : Mov p wc w4 := (Mov.of_below (by go_grown)).trans m4; have zw : w.heap.size < w4.heap.size := Nat.lt_of_lt_of_le RB.out.lt MW.size; have PB : Hid (∀ t : TypeId, Post p b o cap ts w (.ok (.mk 5 x.1.text 0 [.mk kk nn mm ll]) k') (.returned (.agg #[.int .i64 5, .string ⟨x.1.text.toArray⟩, .int .i64 0, .slice (some ⟨w4.heap.size, 0, none⟩) 1 1])) ((fill w4 w.heap.size (.int .i64 5) (.string ⟨x.1.text.toArray⟩) (.int .i64 0) (.slice (some ⟨w4.heap.size, 0, none⟩) 1 1)).alloc (.cells #[.int .i64 kk, .string ⟨nn.toArray⟩, .int .i64 mm, .slice sa sn sc] t))) := fun t => Post.of_fillA (MB.out.trans MW) rd4 hk4 hp.out hb.out ((hs.mono (A' := fun g => w.heap.size < g) fun g _ hg => Nat.lt_of_lt_of_le RB.out.lt hg).one' zw (Nat.lt_irrefl _) _ _ _ _ _ _ _ _); have T4 := TB.out.mov MW gp.out; have R4 := RB.out.mov MW rp.out; obtain ⟨c0', c1', c2', c3', f0', f1', f2', f3', zt'⟩ := T4; obtain ⟨d0', d1', d2', d3', e0', e1', e2', e3', zr'⟩ := R4; have nw : ¬ w4.heap.size = w.heap.size := Nat.ne_of_gt zw; have nw' : ¬ w.heap.size = w4.heap.size := Nat.ne_of_lt zw; clear hs rd4 hk4 m4 MW))
                  all_goals (go_wp2_with fail; refine bodyPost_ret (v := .agg #[.int .i64 5, .string ⟨x.1.text.toArray⟩, .int .i64 0, .slice (some ⟨w4.heap.size, 0, none⟩) 1 1]) (by simp [results, Tryz.results79, go_sem, d0', d1', d2', d3', zr']) rfl ?_; exact PB.out _)
  case first =>
    go_region_with (first
      | (go_at_call 80; refine (now_any _ p b o cap ts k x ?_).mono ?_; exact H.out.later (by go_grown); rintro e w1 ⟨rfl, b1⟩; (try have t1 : Hid (Bx w1 (w.heap.size + 1) (.int .i64 0) (.string ⟨#[]⟩) (.int .i64 0) (.int .i64 0)) := Bx.later (by first | (constructor <;> first | (simp [go_sem]; done) | exact World.frozen?_alloc_at _ _ _ _ rfl | fail) | fail) b1 (by first | (simp; done) | fail)); replace b1 : Below (w.heap.size + 1) (w.alloc zE) w1 := Below.trans (by go_grown) (b1.mono (by go_size)); have z1 : w.heap.size + 1 ≤ w1.heap.size := sz1 b1)
      | (go_at_call 105; refine (beginsExpr_any x _).mono ?_; rintro e w2 ⟨rfl, b2⟩; (first | (have t2 : Hid (Bx w2 (w.heap.size + 1) (.int .i64 0) (.string ⟨#[]⟩) (.int .i64 0) (.int .i64 0)) := t1.out.later b2 t1.out.lt) | (have t2 : Hid (Bx w2 w1.heap.size (.int .i64 0) (.string ⟨#[]⟩) (.int .i64 0) (.int .i64 0)) := Bx.later (by first | (constructor <;> first | (simp [go_sem]; done) | exact World.frozen?_alloc_at _ _ _ _ rfl | fail) | fail) b2 (by first | (simp; done) | fail)) | skip); replace b2 : Below (w.heap.size + 1) (w.alloc zE) w2 := Below.trans (by go_grown) (b2.mono (by go_size)); have z2 : w.heap.size + 1 ≤ w2.heap.size := sz1 b2; rw [HX.out])
      | (go_at_call 104; refine (begin_ok _ p b o cap ts k x d (H.out.later ?_) HL.out HD.out).mono ?_; exact Below.trans (box_below w _) (Below.mono (B := w.heap.size + 1) (by go_grown) (by go_size)); rintro e w3 ⟨rfl, m3, r3⟩; unfold tokA; have q3 : Hid (Bx w3 w.heap.size (.int .i64 0) (.string ⟨#[]⟩) (.int .i64 0) (.slice none 0 0) ∧ Mov p w w3) := ⟨(Bx.later (n := w.heap.size + 1) (Bx.new w 25 _ _ _ _) (by go_grown) (Nat.lt_succ_self _)).mov m3 (by have := hp.out; omega), (Mov.of_below (Below.trans (box_below w zE) (Below.mono (B := w.heap.size + 1) (by go_grown) (by go_size)))).trans m3⟩; (first | (have t3 : Bx w3 (w.heap.size + 1) (.int .i64 0) (.string ⟨#[]⟩) (.int .i64 0) (.int .i64 0) := t2.out.mov m3 (by have := hp.out; omega); obtain ⟨c0, c1, c2, c3, f0, f1, f2, f3, zt⟩ := t3) | (have t3 : Bx w3 w1.heap.size (.int .i64 0) (.string ⟨#[]⟩) (.int .i64 0) (.int .i64 0) := t2.out.mov m3 (by have := hp.out; omega); obtain ⟨c0, c1, c2, c3, f0, f1, f2, f3, zt⟩ := t3) | (have t3 : Bx w3 w2.heap.size (.int .i64 0) (.string ⟨#[]⟩) (.int .i64 0) (.int .i64 0) := Bx.mov (by first | (constructor <;> first | (simp [go_sem]; done) | exact World.frozen?_alloc_at _ _ _ _ rfl | fail) | fail) m3 (by have := hp.out; omega); obtain ⟨c0, c1, c2, c3, f0, f1, f2, f3, zt⟩ := t3) | skip)))
    all_goals (go_wp2_with fail; go_meet; case rel => first | exact URel.of ⟨c0, c1, c2, c3, f0, f1, f2, f3, zt⟩ (by have := hp.out; omega) hp.out hb.out q3.out.1 q3.out.2 r3 | exact URel.of_new _ q3.out.1 q3.out.2 r3)
end Go.Proofs.YtlhklpnkelcnbaaGreatDoor
