/- Layer 3: variable, and expr. -/
import Derived.Test.YtlhklpnkelcnbaaGreatDoorSynE
namespace Go.Proofs.YtlhklpnkelcnbaaGreatDoor
open Go.RowKit

set_option maxRecDepth 100000 in
set_option maxHeartbeats 1000000 in
theorem variable_any (p b o cap : Nat) (ts : List Tok) (f : Nat) (gd : Good ts) (he : EC p b o cap ts f) : VC p b o cap ts f := by
  intro n d k r w hd rd hk hr
  have GD : Hid (Good ts) := gd
  have HL : Hid (ts.length ≤ 1000000) := gd.len
  have HE : Hid (EC p b o cap ts f) := he
  have hp : Hid (p < w.heap.size) := rd.lt
  have hb : Hid (b < w.heap.size) := rd.ta.lt
  have H : Hid (Rn w p b o cap ts k (ts.getD k tok0)) := ⟨rd, hk, rfl⟩
  have HD : Hid (d ≤ 60) := hd
  have hw1 : IntKind.i64.wrap ((d : Int) + 1) = (d : Int) + 1 := by rw [IntKind.wrap_i64]; omega
  have rp : Hid (w.heap.size ≠ p) := by have := hp.out; unfold Hid; omega
  by_cases h91 : Sx.tx ts k = [91]
  · rw [if_pos h91] at hr
    have H91 : Hid (Sx.tx ts k = [91]) := h91
    have hk2 : Hid (k + 1 < ts.length) := gd.next hk (fun e => by unfold Sx.tx at h91; rw [e] at h91; exact absurd h91 (by decide))
    cases hB : Sx.bd ts f 1 (d + 1) (k + 1) with
    | none => exact absurd hr (by rw [hB]; intro e; cases e)
    | some r1 =>
      have E1 : Hid (∀ W, Rd W p b o cap ts (k + 1) → Calls Tryz.prog 32 #[.pointer (some ⟨p, 0, none⟩), .int .i64 ((d : Int) + 1)] W (Post p b o cap ts W r1)) := fun W hW => HE.out (d + 1) (k + 1) r1 W (by have := HD.out; omega) hW hk2.out hB
      rw [hB] at hr
      have HR : Hid (Sx.shut ts [93] (fun x => .mk 4 n 0 [x]) (some r1) = some r) := hr
      clear h91 hr hB rd hk hd gd he
      go_enter Tryz.func106, Tryz.ntmps106
      go_wp2_with fail
      refine (has_yes _ p b o cap ts k (ts.getD k tok0) [91] (H.out.later (box_below w _)) HL.out H91.out).mono ?_
      rintro e w1 ⟨rfl, m1, r1'⟩
      have M1 : Hid (Mov p w w1) := (Mov.of_below (box_below w _)).trans m1
      have RD1 : Hid _ := r1'
      have R1 : Hid _ := (Bx.new w 25 (.int .i64 0) (.string ⟨#[]⟩) (.int .i64 0) (.slice none 0 0)).mov m1 rp.out
      clear m1 r1'
      go_wp2_with fail
      refine (E1.out _ RD1.out).mono ?_
      cases r1 with
      | bad a er =>
        rintro e w' ⟨rfl, m'⟩
        rw [← Option.some.inj HR.out]
        exact ⟨rfl, rfl, M1.out.trans m'⟩
      | ok y k' =>
        obtain ⟨kk, nn, mm, ll⟩ := y
        rintro e w' ⟨⟨v, rfl, sl, rfl, hs⟩, rd', hk', m'⟩
        obtain ⟨sa, sn, sc, rfl⟩ := hs.form
        have R' : Hid _ := R1.out.mov m' rp.out
        have M2 : Hid _ := M1.out.trans m'
        have RD2 : Hid (Rd (w'.alloc (.cells #[.int .i64 kk, .string ⟨nn.toArray⟩, .int .i64 mm, .slice sa sn sc] 25)) p b o cap ts k') := rd'.later (box_below _ _)
        have HK1 : Hid (k' < ts.length) := hk'
        have HS1 : Hid (ExS (fun g => w.heap.size < g) w' (.slice sa sn sc) ll) := hs.mono fun g _ hg => Nat.lt_of_lt_of_le R1.out.lt hg
        clear hs rd' hk' m' E1
        by_cases h93 : Sx.tx ts k' = [93]
        · have HR2 := HR.out
          rw [Sx.shut, if_pos h93] at HR2
          replace HR : Hid _ := HR2
          have H93 : Hid (Sx.tx ts k' = [93]) := h93
          clear HR2 h93
          go_wp2_with fail
          refine (must_yes _ p b o cap ts k' (ts.getD k' tok0) [93] ⟨RD2.out, HK1.out, rfl⟩ HL.out H93.out).mono ?_
          rintro e w2 ⟨rfl, m2, rd2⟩
          have hn : w'.heap.size ≠ p := by have := hp.out; have := R'.out.lt; omega
          have hk2 : k' + 1 < ts.length := GD.out.next HK1.out (fun e => by have h4 := H93.out; unfold Sx.tx at h4; rw [e] at h4; exact absurd h4 (by decide))
          have B6 := (Bx.new w' 25 (.int .i64 kk) (.string ⟨nn.toArray⟩) (.int .i64 mm) (.slice sa sn sc)).mov m2 hn
          have R2 := (R'.out.later (box_below _ _) R'.out.lt).mov m2 rp.out
          have nw : ¬ w'.heap.size = w.heap.size := by have := R'.out.lt; omega
          have zw : w.heap.size < w2.heap.size := R2.lt
          have nw2 : ¬ w2.heap.size = w.heap.size := Nat.ne_of_gt zw
          have nw2' : ¬ w.heap.size = w2.heap.size := Nat.ne_of_lt zw
          have PB : Hid (∀ t : TypeId, Post p b o cap ts w (.ok (.mk 4 n 0 [.mk kk nn mm ll]) (k' + 1)) (.returned (.agg #[.int .i64 4, .string ⟨n.toArray⟩, .int .i64 0, .slice (some ⟨w2.heap.size, 0, none⟩) 1 1])) ((fill w2 w.heap.size (.int .i64 4) (.string ⟨n.toArray⟩) (.int .i64 0) (.slice (some ⟨w2.heap.size, 0, none⟩) 1 1)).alloc (.cells #[.int .i64 kk, .string ⟨nn.toArray⟩, .int .i64 mm, .slice sa sn sc] t))) := fun t => Post.of_fillA ((M2.out.alloc _).trans m2) rd2 hk2 hp.out hb.out (((HS1.out.later (box_below _ _) (Nat.le_refl _)).mov m2 (by have := hp.out; omega)).one' zw (Nat.lt_irrefl _) _ _ _ _ _ _ _ _)
          obtain ⟨g0, g1, g2, g3, i0, i1, i2, i3, zb⟩ := B6
          obtain ⟨d0', d1', d2', d3', e0', e1', e2', e3', zr'⟩ := R2
          clear m2 rd2 hk2
          go_wp2_with fail
          refine bodyPost_ret (v := .agg #[.int .i64 4, .string ⟨n.toArray⟩, .int .i64 0, .slice (some ⟨w2.heap.size, 0, none⟩) 1 1]) (by simp [results, Tryz.results106, go_sem, d0', d1', d2', d3', zr']) rfl ?_
          rw [← Option.some.inj HR.out]
          exact PB.out _
        · have HR2 := HR.out
          rw [Sx.shut, if_neg h93] at HR2
          replace HR : Hid _ := HR2
          have H93 : Hid (¬ Sx.tx ts k' = [93]) := h93
          clear HR2 h93
          go_wp2_with fail
          refine (must_no _ p b o cap ts k' (ts.getD k' tok0) [93] ⟨RD2.out, HK1.out, rfl⟩ H93.out).mono ?_
          rintro e w2 ⟨rfl, b2⟩
          rw [← Option.some.inj HR.out]
          exact ⟨rfl, rfl, (M2.out.alloc _).below b2⟩
  · rw [if_neg h91] at hr
    have H91 : Hid (¬ Sx.tx ts k = [91]) := h91
    have HR : Hid _ := hr
    have HK : Hid (k < ts.length) := hk
    have RDW : Hid _ := rd
    clear h91 hr rd hk hd gd he
    go_enter Tryz.func106, Tryz.ntmps106
    go_wp2_with fail
    refine (has_no _ p b o cap ts k (ts.getD k tok0) [91] (H.out.later (box_below w _)) H91.out).mono ?_
    rintro e w1 ⟨rfl, b1⟩
    have R1 := (Bx.new w 25 (.int .i64 0) (.string ⟨#[]⟩) (.int .i64 0) (.slice none 0 0)).later b1 (by simp)
    have PB : Hid _ := Post.of_fill (kk := 3) (n := n) (m := 0) (sl := .slice none 0 0) ((Mov.of_below (box_below w _)).below b1) ((RDW.out.later (box_below w _)).later b1) HK.out hp.out hb.out (.nil _ _)
    obtain ⟨d0', d1', d2', d3', e0', e1', e2', e3', zr'⟩ := R1
    clear b1
    go_wp2_with fail
    refine bodyPost_ret (v := .agg #[.int .i64 3, .string ⟨n.toArray⟩, .int .i64 0, .slice none 0 0]) (by simp [results, Tryz.results106, go_sem, d0', d1', d2', d3']) rfl ?_
    rw [← Option.some.inj HR.out]
    exact PB.out
/-- What is asked of bound. -/
def BC (p b o cap : Nat) (ts : List Tok) (f : Nat) : Prop := ∀ (q d k : Nat) (r : Sx.Rs) (w : World), 1 ≤ q → q ≤ 6 → d ≤ 61 → Rd w p b o cap ts k → k < ts.length → Sx.bd ts f q d k = some r →
  Calls Tryz.prog 57 #[.pointer (some ⟨p, 0, none⟩), .int .i64 (q : Int), .int .i64 (d : Int)] w (Post p b o cap ts w r)
set_option maxRecDepth 100000 in
set_option maxHeartbeats 1000000 in
theorem expr_any (p b o cap : Nat) (ts : List Tok) (f : Nat) (hB : BC p b o cap ts f) : EC p b o cap ts f := by
  intro d k r w hd rd hk hr
  have hp : Hid (p < w.heap.size) := rd.lt
  have hb : Hid (b < w.heap.size) := rd.ta.lt
  have rp : Hid (w.heap.size ≠ p) := by have := hp.out; unfold Hid; omega
  have E1 : Hid (∀ W, Rd W p b o cap ts k → Calls Tryz.prog 57 #[.pointer (some ⟨p, 0, none⟩), .int .i64 1, .int .i64 (d : Int)] W (Post p b o cap ts W r)) := fun W hW => hB 1 d k r W (Nat.le_refl _) (by omega) hd hW hk hr
  have RDW : Hid _ := rd
  clear rd hk hd hr hB
  go_enter Tryz.func32, Tryz.ntmps32
  go_wp2_with fail
  refine (E1.out _ (RDW.out.later (box_below w _))).mono ?_
  cases r with
  | bad a er =>
    rintro e w' ⟨rfl, m'⟩
    exact ⟨rfl, rfl, (Mov.of_below (box_below w _)).trans m'⟩
  | ok y k' =>
    obtain ⟨kk, nn, mm, ll⟩ := y
    rintro e w' ⟨⟨v, rfl, sl, rfl, hs⟩, rd', hk', m'⟩
    obtain ⟨sa, sn, sc, rfl⟩ := hs.form
    have PB : Hid _ := Post.of_fill (kk := kk) (n := nn) (m := mm) ((Mov.of_below (box_below w _)).trans m') rd' hk' hp.out hb.out (hs.mono fun g _ hg => Nat.lt_of_lt_of_le (by simp) hg)
    have R' := (Bx.new w 25 (.int .i64 0) (.string ⟨#[]⟩) (.int .i64 0) (.slice none 0 0)).mov m' rp.out
    obtain ⟨d0', d1', d2', d3', e0', e1', e2', e3', zr'⟩ := R'
    clear hs rd' hk' m'
    go_wp2_with fail
    refine bodyPost_ret (v := .agg #[.int .i64 kk, .string ⟨nn.toArray⟩, .int .i64 mm, .slice sa sn sc]) (by simp [results, Tryz.results32, go_sem, d0', d1', d2', d3']) rfl ?_
    exact PB.out
end Go.Proofs.YtlhklpnkelcnbaaGreatDoor
