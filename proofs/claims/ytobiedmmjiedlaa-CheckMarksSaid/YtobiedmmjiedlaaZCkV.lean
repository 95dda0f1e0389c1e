/- Layer 4: the declarer goes through a block. -/
import Derived.Test.YtobiedmmjiedlaaZCkU
import Derived.Deep.RegionLaw
namespace Go.Proofs.Ytobiedmmjiedlaa
open Go.RowKit

def owV (is : List Nat) : List Value := is.map fun (i : Nat) => Value.int .i64 (i : Int)
theorem owV_app (a b : List Nat) : owV (a ++ b) = owV a ++ owV b := by simp [owV]
theorem owV_at {is : List Nat} {q i : Nat} (h : is[q]? = some i) : (owV is)[q]? = some (.int .i64 (i : Int)) := by simp [owV, h]
/-- What is asked of the declarer. -/
def dcC (l : List Sy.St) : Prop := ∀ (A : Nat → Prop) (sa : Option Addr) (sc : Nat) (p : Nat) (v : Value) (vs : List CkVa) (m : Int) (w : World), Dc w p v vs m → (∀ g, A g → g < p) → SmS A w (.slice sa l.length sc) l → 0 ≤ m → m + Sy.cts l ≤ 1000000000000000 → vs.length + Sy.cts l ≤ 1000000 →
  Calls Try.prog 77 #[.pointer (some ⟨p, 0, none⟩), .slice sa l.length sc] w fun e w' => e = .returned (.tuple #[]) ∧ ∃ v', Dc w' p v' (vs ++ ckDs l m (m + Sy.cts l)) (m + Sy.cts l) ∧ DM p w v w' v'
def dcP (x : Sy.St) : Prop := ∃ k n p m e b l, x = .mk k n p m e b l ∧ dcC b ∧ dcC l
/-- The first j statements are gone through; u: where the block's own variables stand. -/
structure DL (w : World) (p : Nat) (v : Value) (vs : List CkVa) (m : Int) (l : List Sy.St) (j : Nat) (u v1 : Value) (wr : World) : Prop where
  d : Dc wr p v1 (vs ++ ckDs (l.take j) m 0) (m + Sy.cts (l.take j))
  mv : DM p w v wr v1
  row : wr.ownsRow w.heap.size 3 1 u (ckOw (l.take j) m vs.length).length (owV (ckOw (l.take j) m vs.length))
  ne : ∀ g, u.ownBlock = some g → ¬ v1.ownBlock = some g
/-- A statement's box, and what the walk behind its var keeps. -/
structure DB (w : World) (p : Nat) (v : Value) (bx : Nat) (W4 : World) (v4 : Value) (vs4 : List CkVa) (mm : Int) (u4 : Value) (is : List Nat) (ba : Option Addr) (bn bc : Nat) (la : Option Addr) (ln lc : Nat) : Prop where
  d : Dc W4 p v4 vs4 mm
  mv : DM p w v W4 v4
  c5 : W4.cell? ⟨bx, 5, none⟩ = some (.slice ba bn bc)
  c6 : W4.cell? ⟨bx, 6, none⟩ = some (.slice la ln lc)
  lt : bx < W4.heap.size
  nb : ¬ v4.ownBlock = some bx
  row : W4.ownsRow w.heap.size 3 1 u4 is.length (owV is)
  ne : ∀ g, u4.ownBlock = some g → ¬ v4.ownBlock = some g
  nu : ¬ u4.ownBlock = some bx
theorem DB.next {w : World} {p : Nat} {v : Value} {bx : Nat} {W4 : World} {v4 : Value} {vs4 : List CkVa} {mm : Int} {u4 : Value} {is : List Nat} {ba : Option Addr} {bn bc : Nat} {la : Option Addr} {ln lc : Nat} (hpw : p < w.heap.size) (hpr : p < bx) (h : DB w p v bx W4 v4 vs4 mm u4 is ba bn bc la ln lc) {W5 : World} {v5 : Value} {vs5 : List CkVa} {m5 : Int} (d : Dc W5 p v5 vs5 m5) (m : DM p W4 v4 W5 v5) : DB w p v bx W5 v5 vs5 m5 u4 is ba bn bc la ln lc := by
  have k := m.far bx h.lt (by omega) h.nb
  refine ⟨d, h.mv.trans m, (World.cell?_of_block (w := W4) (a := ⟨bx, 5, none⟩) k.1).trans h.c5, (World.cell?_of_block (w := W4) (a := ⟨bx, 6, none⟩) k.1).trans h.c6, Nat.lt_of_lt_of_le h.lt m.size, k.2, ?_, fun g hg => ?_, h.nu⟩
  · have hl := World.ownsRow.lt h.row
    rcases h.row.2 with ⟨rfl, h0⟩ | ⟨g, cap, cur, rfl, hb, hh, hr⟩
    · exact ⟨h.row.1, .inl ⟨rfl, h0⟩⟩
    · refine ⟨h.row.1, .inr ⟨g, cap, cur, rfl, hb, ?_, hr⟩⟩
      rw [(m.far g (hl g rfl).2 (by have := (hl g rfl).1; omega) (h.ne g rfl)).1]
      exact hh
  · have hl := World.ownsRow.lt h.row g hg
    exact (m.far g hl.2 (by omega) (h.ne g hg)).2
theorem Dc.grown {w w' : World} {row : Option Nat} {p : Nat} {v : Value} {vs : List CkVa} {m : Int} (h : Dc w p v vs m) (g : w.grownBy w' row) (hp : ¬ row = some p) (hv : ∀ k, v.ownBlock = some k → ¬ row = some k) : Dc w' p v vs m := by
  have kp : w'.heap[p]? = w.heap[p]? := g.block p h.lt (fun e => hp e.symm)
  refine ⟨(World.cell?_of_block (w := w) (a := ⟨p, 0, none⟩) kp).trans h.c0, (World.cell?_of_block (w := w) (a := ⟨p, 1, none⟩) kp).trans h.c1, (World.frozen?_of_block (w := w) (a := ⟨p, 0, none⟩) kp).trans h.f0, (World.frozen?_of_block (w := w) (a := ⟨p, 1, none⟩) kp).trans h.f1, Nat.lt_of_lt_of_le h.lt g.size, World.ownsRow.kept h.row g ?_⟩
  cases e : v.ownBlock with
  | none => exact .inl rfl
  | some k => exact .inr fun e2 => hv k e e2.symm
/-- A place more among the block's own. -/
theorem DB.own {w : World} {p : Nat} {v : Value} {bx : Nat} {W4 WA w5 : World} {v4 : Value} {vs4 : List CkVa} {mm : Int} {u4 u5 : Value} {is : List Nat} {i : Nat} {ba : Option Addr} {bn bc : Nat} {la : Option Addr} {ln lc : Nat} (hpw : p < w.heap.size) (h : DB w p v bx W4 v4 vs4 mm u4 is ba bn bc la ln lc) (bW : Below W4.heap.size W4 WA) (g5 : WA.grownBy w5 u4.ownBlock) (h5 : w5.ownsRow w.heap.size 3 1 u5 (is.length + 1) (owV is ++ [.int .i64 (i : Int)])) (o5 : u5.ownBlock = u4.ownBlock ∨ ∃ g, u5.ownBlock = some g ∧ WA.heap.size ≤ g) :
    DB w p v bx w5 v4 vs4 mm u5 (is ++ [i]) ba bn bc la ln lc ∧ ∀ c : Nat, w5.cell? ⟨bx, c, none⟩ = W4.cell? ⟨bx, c, none⟩ := by
  have hu := World.ownsRow.lt h.row
  have up : ¬ u4.ownBlock = some p := fun e => by have := (hu _ e).1; omega
  have kb : w5.heap[bx]? = W4.heap[bx]? := (g5.block _ (Nat.lt_of_lt_of_le h.lt bW.size) (fun e => h.nu e.symm)).trans (bW.block _ h.lt)
  have kc : ∀ c : Nat, w5.cell? ⟨bx, c, none⟩ = W4.cell? ⟨bx, c, none⟩ := fun c => World.cell?_of_block (w := W4) (a := ⟨bx, c, none⟩) kb
  have d5 := (h.d.later bW).grown g5 up (fun k e e2 => h.ne k e2 e)
  have ne5 : ∀ g, u5.ownBlock = some g → ¬ v4.ownBlock = some g := fun g e e2 => by
    rcases o5 with e3 | ⟨g', e3, hg'⟩
    · exact h.ne g (e3.symm.trans e) e2
    · rw [e3] at e
      cases e
      have := (World.ownsRow.lt h.d.row _ e2).2
      have := bW.size
      omega
  refine ⟨⟨d5, ⟨g5.os.trans (bW.os.trans h.mv.os), g5.tape.trans (bW.tape.trans h.mv.tape), g5.output.trans (bW.output.trans h.mv.output), Nat.le_trans h.mv.size (Nat.le_trans bW.size g5.size), fun g hg h0 h1 => ?_⟩, (kc 5).trans h.c5, (kc 6).trans h.c6, Nat.lt_of_lt_of_le h.lt (Nat.le_trans bW.size g5.size), h.nb, ?_, ne5, ?_⟩, kc⟩
  · obtain ⟨a, b⟩ := h.mv.far g hg h0 h1
    have hg4 := Nat.lt_of_lt_of_le hg h.mv.size
    exact ⟨((g5.block g (Nat.lt_of_lt_of_le hg4 bW.size) (fun e => by have := (hu _ e.symm).1; omega)).trans (bW.block g hg4)).trans a, b⟩
  · rw [owV_app, List.length_append]
    exact h5
  · rcases o5 with e3 | ⟨g', e3, hg'⟩
    · rw [e3]; exact h.nu
    · rw [e3]; intro e; cases e; have := h.lt; have := bW.size; omega
theorem DB.done {w : World} {p : Nat} {v : Value} {bx : Nat} {vs : List CkVa} {m : Int} {l : List Sy.St} {j : Nat} {W6 : World} {v6 : Value} {vs6 : List CkVa} {m6 : Int} {u4 : Value} {is : List Nat} {ba : Option Addr} {bn bc : Nat} {la : Option Addr} {ln lc : Nat} (h : DB w p v bx W6 v6 vs6 m6 u4 is ba bn bc la ln lc) (e1 : vs6 = vs ++ ckDs (l.take (j + 1)) m 0) (e2 : m6 = m + Sy.cts (l.take (j + 1))) (e3 : is = ckOw (l.take (j + 1)) m vs.length) : DL w p v vs m l (j + 1) u4 v6 W6 := by
  subst e1 e2 e3
  exact ⟨h.d, h.mv, h.row, h.ne⟩
/-- The first q of the block's own variables are closed. -/
structure DE (w : World) (p : Nat) (v v1 u : Value) (is : List Nat) (vs1 : List CkVa) (M : Int) (q : Nat) (wq : World) : Prop where
  d : Dc wq p v1 ((is.take q).foldl (ckTl M) vs1) M
  mv : DM p w v wq v1
  row : wq.ownsRow w.heap.size 3 1 u is.length (owV is)
theorem own_int {w : World} {base : Nat} {u : Value} {is : List Nat} (h : w.ownsRow base 3 1 u is.length (owV is)) (h0 : 0 < is.length) : ∃ g cap, u = .slice (some ⟨g, 0, none⟩) is.length cap ∧ base ≤ g ∧ g < w.heap.size ∧ ∀ (q i : Nat), is[q]? = some i → w.cell? ⟨g, q, none⟩ = some (.int .i64 (i : Int)) := by
  have hc := @World.ownsRow.cells _ _ _ _ _ _ _ h
  have hl := World.ownsRow.lt h
  rcases h.2 with ⟨_, e⟩ | ⟨g, cap, cur, rfl, hb, hh, hnc, _⟩
  · omega
  · refine ⟨g, cap, rfl, hb, (hl g rfl).2, fun q i hi => ?_⟩
    have := @hc g rfl q _ (owV_at hi)
    have e : (⟨g, 0, none⟩ : Addr).add q = ⟨g, q, none⟩ := by unfold Addr.add; split <;> simp_all
    rw [e] at this
    exact this
theorem DE.step {w : World} {p : Nat} {v u : Value} {is : List Nat} {vs1 : List CkVa} {M : Int} {q g cap i n : Nat} {wq W : World} (h : DE w p v (.slice (some ⟨g, 0, none⟩) n cap) u is vs1 M q wq) (hn : n = vs1.length) (ne : ∀ k, u.ownBlock = some k → ¬ k = g) (hi : is[q]? = some i) (hlt : i < vs1.length) (bW : Below wq.heap.size wq W) : DE w p v (.slice (some ⟨g, 0, none⟩) n cap) u is vs1 M (q + 1) (W.setCell ⟨g, i * 5 + 4, none⟩ (.int .i64 M)) := by
  subst hn
  have hl : ((is.take q).foldl (ckTl M) vs1).length = vs1.length := ckTls_len _ _ _
  have hd := h.d.later bW
  rw [← hl] at hd
  have hc := hd.close (tl := M) (i := i) (by rw [hl]; exact hlt)
  have et : (is.take (q + 1)).foldl (ckTl M) vs1 = ckTl M ((is.take q).foldl (ckTl M) vs1) i := by rw [List.take_add_one, hi, List.foldl_append]; rfl
  have mv := h.mv.trans (DM.of_below _ bW)
  rw [← hl] at mv ⊢
  refine ⟨by rw [et]; exact hc.1, mv.trans hc.2, ?_⟩
  exact ownsRow_setCell_other (own_later h.row bW) (fun e => ne _ e rfl) _
theorem DE.later {w : World} {p : Nat} {v v1 u : Value} {is : List Nat} {vs1 : List CkVa} {M : Int} {q : Nat} {wq W : World} (h : DE w p v v1 u is vs1 M q wq) (b : Below wq.heap.size wq W) : DE w p v v1 u is vs1 M q W := ⟨h.d.later b, h.mv.trans (DM.of_below _ b), own_later h.row b⟩
set_option maxRecDepth 100000 in
set_option maxHeartbeats 8000000 in
theorem ckDecl_loop (l : List Sy.St) (hP : ∀ x, x ∈ l → dcP x) : dcC l := by
  intro A sa sc p v vs m w hd hA hs hm0 hm hv
  have HS : Hid (SmS A w (.slice sa l.length sc) l) := hs
  have HP : Hid (∀ x, x ∈ l → dcP x) := hP
  have HA : Hid (∀ g, A g → g < p) := hA
  have HD : Hid (Dc w p v vs m) := hd
  have HM : Hid (0 ≤ m ∧ m + Sy.cts l ≤ 1000000000000000 ∧ vs.length + Sy.cts l ≤ 1000000) := ⟨hm0, hm, hv⟩
  have HL : Hid (l.length ≤ 1000000) := by have := Sy.len_cts l; exact (by omega : l.length ≤ 1000000)
  obtain ⟨i0, hi, hz0, hz1, hz2⟩ := info_parts infoI
  obtain ⟨j0, hjj, hy0, hy1, hy2⟩ := info_parts infoVa
  have hpw := hd.lt
  clear hs hP hA hd hm0 hm hv
  go_enter Try.func77, Try.ntmps77
  go_wp2_with fail
  go_loopw [4, 11] (fun u i wr => ∃ (j : Nat) (v1 : Value), j ≤ l.length ∧ i = .int .i64 j ∧ DL w p v vs m l j u v1 wr) (fun _ i _ => l.length - (intOf i).toNat)
  case atStart => exact ⟨0, v, by omega, rfl, by simpa [ckDs, Sy.cts] using HD.out, DM.refl _ _ _, by simpa [ckOw, owV] using World.ownsRow_nil _ _ _ _, fun g h => by cases h⟩
  case round =>
    obtain ⟨j, v1, hj, rfl, D⟩ := hrel
    have hpr := D.d.lt
    by_cases hlt : j < l.length
    · obtain ⟨g, o, k, n, q, num, ea, ec, ba, bc, la, lc, e, b, ll, rfl, ha, hg, el, sat⟩ := HS.out.part j hlt
      obtain ⟨k', n', p', m', e', b', l', ex, zb, zl⟩ := HP.out _ (List.mem_of_getElem? el)
      injection ex with x1 x2 x3 x4 x5 x6 x7
      subst x1 x2 x3 x4 x5 x6 x7
      have ZB : Hid (dcC b) := zb
      have ZL : Hid (dcC ll) := zl
      have EL : Hid (l[j]? = some (.mk k n q num e b ll)) := el
      have T2 := Sy.cts_at el
      rw [Sy.ct] at T2
      have hmm := HM.out
      have B3 := ckDs_bound (l.take j) m 0
      have hgp : ¬ g = p := by have := HA.out g ha; omega
      have kg := (D.mv.far g hg hgp (fun e => by have := (World.ownsRow.lt HD.out.row _ e).1; have := HA.out g ha; omega)).1
      have kc : ∀ c : Nat, wr.cell? ⟨g, c, none⟩ = w.cell? ⟨g, c, none⟩ := fun c => World.cell?_of_block (w := w) (a := ⟨g, c, none⟩) kg
      obtain ⟨mm, hmm'⟩ : ∃ mm, mm = m + (Sy.cts (l.take j) : Int) := ⟨_, rfl⟩
      obtain ⟨vs4, hvs4⟩ : ∃ vs4, vs4 = vs ++ ckDs (l.take j) m 0 := ⟨_, rfl⟩
      obtain ⟨is4, his4⟩ : ∃ is4, is4 = ckOw (l.take j) m vs.length := ⟨_, rfl⟩
      have VV : Hid (vs4 = vs ++ ckDs (l.take j) m 0) := hvs4
      have II : Hid (is4 = ckOw (l.take j) m vs.length) := his4
      have BN : Hid (0 ≤ mm ∧ mm + 1 + Sy.cts b + Sy.cts ll ≤ 1000000000000000 ∧ vs4.length + 1 + Sy.cts b + Sy.cts ll ≤ 1000000) := ⟨by omega, by omega, by rw [hvs4, List.length_append]; omega⟩
      have MM : Hid (mm = m + (Sy.cts (l.take j) : Int)) := hmm'
      have wm : wrap64 (mm + 1) = mm + 1 := by unfold wrap64; omega
      have D0 : Hid (Dc wr p v1 vs4 mm) := by have := D.d; rw [← hmm', ← hvs4] at this; exact this
      have R0 : Hid (wr.ownsRow w.heap.size 3 1 u4 is4.length (owV is4)) := by have := D.row; rw [← his4] at this; exact this
      have hpz : ¬ p = wr.heap.size := by omega
      have SB : Hid (SmS A w (.slice ba b.length bc) b ∧ SmS A w (.slice la ll.length lc) ll) := ⟨sat.hb, sat.hl⟩
      obtain ⟨c0', c1', c2', c3', c4', c5', c6', -, -, -⟩ := sat
      have c0 := (kc _).trans c0'
      have c1 := (kc _).trans c1'
      have c2 := (kc _).trans c2'
      have c3 := (kc _).trans c3'
      have c4 := (kc _).trans c4'
      have c5 := (kc _).trans c5'
      have c6 := (kc _).trans c6'
      have p0 := D0.out.c0
      have p1 := D0.out.c1
      have fp0 := D0.out.f0
      have fp1 := D0.out.f1
      have hji : (j : Int) < (l.length : Int) := by omega
      have hj0 : (0 : Int) ≤ (j : Int) := by omega
      obtain ⟨bx, hbx⟩ : ∃ bx, bx = wr.heap.size := ⟨_, rfl⟩
      obtain ⟨W4, hW4⟩ : ∃ W4, W4 = (wr.setCell ⟨p, 1, none⟩ (.int .i64 (mm + 1))).alloc (smB k n q num ea e.length ec ba b.length bc la ll.length lc) := ⟨_, rfl⟩
      have DB0 : Hid (DB w p v bx W4 v1 vs4 (mm + 1) u4 is4 ba b.length bc la ll.length lc) := by
        have bx' := box_below (wr.setCell ⟨p, 1, none⟩ (.int .i64 (mm + 1))) (smB k n q num ea e.length ec ba b.length bc la ll.length lc)
        have r4 := own_later (ownsRow_setCell_other (a := ⟨p, 1, none⟩) R0.out (fun e => by have := (World.ownsRow.lt R0.out _ e).1; simp only at this; omega) (.int .i64 (mm + 1))) bx'
        subst hW4 hbx
        exact ⟨(D0.out.mark (mm + 1)).later bx', D.mv.trans ((DM.set _ _ _ _).trans (DM.of_below v1 bx')), by simp [go_sem], by simp [go_sem], by simp, fun e => by have := (World.ownsRow.lt D0.out.row _ e).2; omega, r4, D.ne, fun e => by have := (World.ownsRow.lt R0.out _ e).2; omega⟩
      have OB : Hid (is4.length + 1 ≤ 1000001) := by
        have h1 := ckOw_len (l.take j) m vs.length
        have h2 : (l.take j).length ≤ l.length := by simp; omega
        have h3 := HL.out
        rw [← his4] at h1
        exact (by omega : is4.length + 1 ≤ 1000001)
      have hpb : p < bx := by omega
      clear zb zl el T2 hmm B3 hmm' hvs4 his4 D R0 kg kc c0' c1' c2' c3' c4' c5' c6'
      by_cases hk : k = 1
      · subst hk
        have t0 : W4.cell? ⟨bx, 0, none⟩ = some (.int .i64 1) := by rw [hW4, hbx]; simp [go_sem]
        have t1 : W4.cell? ⟨bx, 1, none⟩ = some (.string ⟨n.toArray⟩) := by rw [hW4, hbx]; simp [go_sem]
        have t2 : W4.cell? ⟨bx, 2, none⟩ = some (.string ⟨q.toArray⟩) := by rw [hW4, hbx]; simp [go_sem]
        have t3 : W4.cell? ⟨bx, 3, none⟩ = some (.int .i64 num) := by rw [hW4, hbx]; simp [go_sem]
        have t4 : W4.cell? ⟨bx, 4, none⟩ = some (.slice ea e.length ec) := by rw [hW4, hbx]; simp [go_sem]
        go_upto_region 6 with fail
        rw [← hW4, ← hbx]
        clear hW4 c0 c1 c2 c3 c4 c5 c6 p0 p1 fp0 fp1 hbx
        obtain ⟨va, cap, hv1⟩ := own_shape D0.out.row
        subst hv1
        have p0 := DB0.out.d.c0
        have p1 := DB0.out.d.c1
        have hW : W4.heap.size ≠ p := by have := DB0.out.d.lt; omega
        have hsz : w.heap.size ≤ W4.heap.size := DB0.out.mv.size
        go_wp2_with (at_builtin; refine wpList_append_told rfl _ _ 44 rfl w.heap.size 3 i0 (.int .i64 0) 1 8 Try.underlying44 hi hz0 hz1 hz2 rfl (by decide) _ _ _ rfl (own_later DB0.out.row (box_below _ _)) ⟨W4.heap.size, 0, none⟩ 1 1 [.int .i64 (vs4.length : Int)] rfl rfl (one_cell_i _ _ _) (by intro x hx; simp at hx; subst hx; rfl) (by have := OB.out; unfold maxLen; omega) (by have := OB.out; omega) (by simp; omega) (by decide) ?_)
        intro u5 w5 h5 g5 o5
        have O5 := DB0.out.own hpw (box_below W4 _) g5 h5 (o5.imp id fun ⟨g, h, h3⟩ => ⟨g, h, by simpa using h3⟩)
        have DB1 : Hid (DB w p v bx w5 (.slice va vs4.length cap) vs4 (mm + 1) u5 (is4 ++ [vs4.length]) ba b.length bc la ll.length lc) := O5.1
        have s0 := (O5.2 0).trans t0
        have s1 := (O5.2 1).trans t1
        have s2 := (O5.2 2).trans t2
        have s3 := (O5.2 3).trans t3
        have s4 := (O5.2 4).trans t4
        have s5 := DB1.out.c5
        have s6 := DB1.out.c6
        have p0 := DB1.out.d.c0
        have p1 := DB1.out.d.c1
        have hp5 := DB1.out.d.lt
        obtain ⟨x, hx⟩ : ∃ x : CkVa, x = ⟨n, if num < 0 then 2 else 1, if 0 < num then num else 0, mm + 1 + 1, 0⟩ := ⟨_, rfl⟩
        have ED : Hid (∀ W, Calls Try.prog 85 #[.agg #[.int .i64 1, .string ⟨n.toArray⟩, .string ⟨q.toArray⟩, .int .i64 num, .slice ea e.length ec, .slice ba b.length bc, .slice la ll.length lc], .int .i64 (mm + 1)] W fun e w' => e = .returned (.agg #[.string ⟨x.name.toArray⟩, .int .i64 x.ty, .int .i64 x.sz, .int .i64 x.fr, .int .i64 x.tl]) ∧ Below W.heap.size W w') := fun W => by
          have := ckDecl_any 1 n q num ea e.length ec ba b.length bc la ll.length lc (mm + 1) (by have := BN.out; omega) (by have := BN.out; omega) W
          rw [← hx] at this
          exact this
        have XX : Hid (x = ⟨n, if num < 0 then 2 else 1, if 0 < num then num else 0, mm + 1 + 1, 0⟩) := hx
        clear hx O5 h5 g5 o5 t0 t1 t2 t3 t4
        go_upto_region 7 with fail
        go_cut [45] from 33 to 47 (fun s wx => ∃ va8 cap8, s = .slice va8 (vs4.length + 1) cap8 ∧ DB w p v bx wx (.slice va8 (vs4.length + 1) cap8) (vs4 ++ [x]) (mm + 1) u5 (is4 ++ [vs4.length]) ba b.length bc la ll.length lc)
        case first =>
          go_region_law (first
            | (go_simp; go_at_call 85; refine Calls.mono (ED.out _) ?_; rintro e7 w7 ⟨rfl, b7⟩; have b8 : Below w5.heap.size w5 w7 := Below.trans (by go_grown) (b7.mono (by go_size)); have B7 : Hid (Below w5.heap.size w5 w7) := b8; have D7 : Hid (Dc w7 p (.slice va vs4.length cap) vs4 (mm + 1)) := DB1.out.d.later b8; have a0 := D7.out.c0; have af := D7.out.f0; have hp7 := D7.out.lt; have np7 : ¬ p = w7.heap.size := Nat.ne_of_lt hp7; clear b7 b8; dsimp only)
            | (rw [if_pos (by rfl)]; refine wp_append_told _ _ 55 rfl (p + 1) 57 j0 (.agg #[.string ⟨#[]⟩, .int .i64 0, .int .i64 0, .int .i64 0, .int .i64 0]) 5 48 Try.underlying55 hjj hy0 hy1 hy2 rfl (by decide) _ _ _ rfl (own_later D7.out.row (by go_grown)) ⟨w7.heap.size, 0, none⟩ 1 1 [.string ⟨x.name.toArray⟩, .int .i64 x.ty, .int .i64 x.sz, .int .i64 x.fr, .int .i64 x.tl] rfl rfl (five_cells _ _ _ _ _ _ _) (by intro y hy; simp at hy; rcases hy with rfl | rfl | rfl | rfl | rfl <;> rfl) (by have := BN.out; unfold maxLen; omega) (by have := BN.out; omega) (by have := D7.out.lt; simp; omega) (by decide) ?_; intro v8 w8 h8 g8 o8; have kp := g8.block p (by simp; omega) (fun e => D7.out.np e.symm); have q8 : w8.cell? ⟨p, 0, none⟩ = some (.slice va vs4.length cap) := (World.cell?_of_block kp).trans (by simp [go_sem, a0, hp7]); have r8 : w8.frozen? ⟨p, 0, none⟩ = false := (World.frozen?_of_block kp).trans (by simp [go_sem, af, hp7]); obtain ⟨va8, cap8, hv8⟩ := own_shape h8; subst hv8))
          all_goals
            have M8 := Dc.more (x := x) (D7.out.later (by go_grown)) h8 g8 (o8.imp id fun ⟨g, h, h3⟩ => ⟨g, h, by simpa using h3⟩)
            have DB2 : Hid (DB w p v bx (w8.setCell ⟨p, 0, none⟩ (.slice va8 (vs4.length + 1) cap8)) (.slice va8 (vs4.length + 1) cap8) (vs4 ++ [x]) (mm + 1) u5 (is4 ++ [vs4.length]) ba b.length bc la ll.length lc) := DB.next hpw hpb DB1.out M8.1 ((DM.of_below _ (Below.trans B7.out (Below.mono (by go_grown) B7.out.size))).trans M8.2)
            clear M8 h8 g8 o8 kp
            go_wp2_with fail
            go_meet
            exact ⟨va8, cap8, rfl, DB2.out⟩
        case rest =>
          obtain ⟨va8, cap8, rfl, DB2'⟩ := hcut
          have DB2 : Hid (DB w p v bx wc (.slice va8 (vs4.length + 1) cap8) (vs4 ++ [x]) (mm + 1) u5 (is4 ++ [vs4.length]) ba b.length bc la ll.length lc) := DB2'
          clear DB2' DB1 s0 s1 s2 s3 s4 s5 s6 p0 p1
          have r5 := DB2.out.c5
          have r6 := DB2.out.c6
          go_wp2_with fail
          refine Calls.mono (ZB.out A ba bc p (.slice va8 (vs4.length + 1) cap8) (vs4 ++ [x]) (mm + 1) wc DB2.out.d HA.out (SB.out.1.dm HA.out HD.out DB2.out.mv) (by have := BN.out; omega) (by have := BN.out; omega) (by have := BN.out; simp only [List.length_append, List.length_cons, List.length_nil]; omega)) ?_
          rintro e5 w5 ⟨rfl, v5, D5, M5⟩
          have DB5 : Hid (DB w p v bx w5 v5 ((vs4 ++ [x]) ++ ckDs b (mm + 1) (mm + 1 + Sy.cts b)) (mm + 1 + Sy.cts b) u5 (is4 ++ [vs4.length]) ba b.length bc la ll.length lc) := DB.next hpw hpb DB2.out D5 M5
          have s6 := DB5.out.c6
          skip
          clear D5 M5
          go_wp2_with fail
          refine Calls.mono (ZL.out A la lc p v5 ((vs4 ++ [x]) ++ ckDs b (mm + 1) (mm + 1 + Sy.cts b)) (mm + 1 + Sy.cts b) w5 DB5.out.d HA.out (SB.out.2.dm HA.out HD.out DB5.out.mv) (by have := BN.out; omega) (by have := BN.out; omega) (by have := BN.out; have := ckDs_bound b (mm + 1) (mm + 1 + Sy.cts b); rw [List.length_append]; simp only [List.length_append, List.length_cons, List.length_nil]; omega)) ?_
          rintro e6 w6 ⟨rfl, v6, D6, M6⟩
          have DB6 : Hid (DB w p v bx w6 v6 (((vs4 ++ [x]) ++ ckDs b (mm + 1) (mm + 1 + Sy.cts b)) ++ ckDs ll (mm + 1 + Sy.cts b) (mm + 1 + Sy.cts b + Sy.cts ll)) (mm + 1 + Sy.cts b + Sy.cts ll) u5 (is4 ++ [vs4.length]) ba b.length bc la ll.length lc) := DB.next hpw hpb DB5.out D6 M6
          clear D6 M6 s6
          have hL := HL.out
          go_wp2_with fail
          go_roundw
          case rel =>
            refine ⟨j + 1, v6, by omega, by go_num, DB.done DB6.out ?_ ?_ ?_⟩
            · rw [ckDs_take EL.out, ckD1, ← MM.out]
              simp [ckDv, VV.out, XX.out]
            · rw [Sy.cts_take EL.out, Sy.ct, MM.out]
              push_cast
              omega
            · rw [ckOw_take EL.out]
              simp [II.out, VV.out]
          case measure => simp [intOf]; omega
      · go_wp2_with fail
        rw [← hW4]
        clear hW4 c0 c1 c2 c3 c4 c5 c6 p0 p1 fp0 fp1
        refine Calls.mono (ZB.out A ba bc p v1 vs4 (mm + 1) W4 DB0.out.d HA.out (SB.out.1.dm HA.out HD.out DB0.out.mv) (by have := BN.out; omega) (by have := BN.out; omega) (by have := BN.out; skip; omega)) ?_
        rintro e5 w5 ⟨rfl, v5, D5, M5⟩
        have DB5 : Hid (DB w p v bx w5 v5 (vs4 ++ ckDs b (mm + 1) (mm + 1 + Sy.cts b)) (mm + 1 + Sy.cts b) u4 is4 ba b.length bc la ll.length lc) := DB.next hpw hpb DB0.out D5 M5
        have s6 := DB5.out.c6
        rw [hbx] at s6
        clear D5 M5
        go_wp2_with fail
        refine Calls.mono (ZL.out A la lc p v5 (vs4 ++ ckDs b (mm + 1) (mm + 1 + Sy.cts b)) (mm + 1 + Sy.cts b) w5 DB5.out.d HA.out (SB.out.2.dm HA.out HD.out DB5.out.mv) (by have := BN.out; omega) (by have := BN.out; omega) (by have := BN.out; have := ckDs_bound b (mm + 1) (mm + 1 + Sy.cts b); rw [List.length_append]; skip; omega)) ?_
        rintro e6 w6 ⟨rfl, v6, D6, M6⟩
        have DB6 : Hid (DB w p v bx w6 v6 ((vs4 ++ ckDs b (mm + 1) (mm + 1 + Sy.cts b)) ++ ckDs ll (mm + 1 + Sy.cts b) (mm + 1 + Sy.cts b + Sy.cts ll)) (mm + 1 + Sy.cts b + Sy.cts ll) u4 is4 ba b.length bc la ll.length lc) := DB.next hpw hpb DB5.out D6 M6
        clear D6 M6 s6
        have hL := HL.out
        go_wp2_with fail
        go_roundw
        case rel =>
          refine ⟨j + 1, v6, by omega, by go_num, DB.done DB6.out ?_ ?_ ?_⟩
          · rw [ckDs_take EL.out, ckD1, ← MM.out]
            simp [ckDv, hk, VV.out]
          · rw [Sy.cts_take EL.out, Sy.ct, MM.out]
            push_cast
            omega
          · rw [ckOw_take EL.out]
            simp [hk, II.out]
        case measure => simp [intOf]; omega
    · obtain rfl : j = l.length := by omega
      have hd := D.d
      have hr := D.row
      rw [List.take_length] at hd hr
      have OS := ckOw_set (m + Sy.cts l) l m vs []
      rw [List.append_nil, List.append_nil] at OS
      have OL : Hid (∀ i, i ∈ ckOw l m vs.length → i < (vs ++ ckDs l m 0).length) := fun i h => by rw [List.length_append]; exact ckOw_lt l m vs.length i h
      obtain ⟨M, hM⟩ : ∃ M, M = m + (Sy.cts l : Int) := ⟨_, rfl⟩
      obtain ⟨is, his⟩ : ∃ is, is = ckOw l m vs.length := ⟨_, rfl⟩
      obtain ⟨vs1, hvs⟩ : ∃ vs1, vs1 = vs ++ ckDs l m 0 := ⟨_, rfl⟩
      have hil : is.length ≤ 1000000 := by have := ckOw_len l m vs.length; have := HL.out; rw [his]; omega
      rw [← hM, ← hvs] at hd
      rw [← his] at hr OL OS
      rw [← hvs] at OL OS
      rw [← hM] at OS
      have HMM : Hid (M = m + (Sy.cts l : Int)) := hM
      have HO : Hid (is.foldl (ckTl M) vs1 = vs ++ ckDs l m M) := OS
      have ne1 : Hid (∀ g, u4.ownBlock = some g → ¬ v1.ownBlock = some g) := D.ne
      have E0 : Hid (DE w p v v1 u4 is vs1 M 0 wr) := ⟨hd, D.mv, hr⟩
      have LV : Hid (vs1.length ≤ 1000000) := by
        have h1 := ckDs_bound l m 0
        have h2 := HM.out
        rw [hvs]
        exact (by rw [List.length_append]; omega : (vs ++ ckDs l m 0).length ≤ 1000000)
      have HIL : Hid (is.length ≤ 1000000) := hil
      obtain ⟨ua, uc, hu4⟩ := own_shape hr
      subst hu4
      clear hd hr OS D hM his hvs hil HP
      go_wp2_with fail
      go_loopw [59] (fun i wq => ∃ (q : Nat), q ≤ is.length ∧ i = .int .i64 q ∧ DE w p v v1 (.slice ua is.length uc) is vs1 M q wq) (fun i _ => is.length - (intOf i).toNat)
      case atStart => exact ⟨0, by omega, rfl, E0.out⟩
      case round =>
        obtain ⟨q, hq, rfl, D⟩ := hrel
        by_cases hql : q < is.length
        · obtain ⟨i, hi'⟩ : ∃ i, is[q]? = some i := ⟨_, List.getElem?_eq_getElem hql⟩
          have hiv := OL.out i (List.mem_of_getElem? hi')
          have hln : ((is.take q).foldl (ckTl M) vs1).length = vs1.length := ckTls_len _ _ _
          obtain ⟨gv, capv, hv1, hgv1, hgv2, hat⟩ := D.d.at (by rw [hln]; omega)
          obtain ⟨gu, capu, hu, hgu1, hgu2, huc⟩ := own_int D.row (by omega)
          have cu := huc q i hi'
          have cv := (hat i (by rw [hln]; exact hiv)).1.c4
          have fv := (hat i (by rw [hln]; exact hiv)).2
          rw [hln] at hv1
          subst hv1
          cases hu
          have p0 := D.d.c0
          have p1 := D.d.c1
          have hpq := D.d.lt
          have hqi : (q : Int) < (is.length : Int) := by omega
          have hq0 : (0 : Int) ≤ (q : Int) := by omega
          have hii : (i : Int) < (vs1.length : Int) := by omega
          have hi0 : (0 : Int) ≤ (i : Int) := by omega
          have npg : ¬ p = gv := by omega
          have ngu : ¬ gu = gv := fun e => ne1.out gu rfl (by rw [e]; rfl)
          have LI : Hid (i < vs1.length) := hiv
          have EI : Hid (is[q]? = some i) := hi'
          have DD : Hid _ := D
          have hL := HIL.out
          clear hat huc D hiv hi' hln
          go_wp2_with fail
          go_region
          go_wp2_with fail
          go_roundw
          case rel => exact ⟨q + 1, by omega, by go_num, (DE.step DD.out rfl (fun k e => by cases e; exact ngu) EI.out LI.out (Below.refl _ _)).later (by go_grown)⟩
          case measure => simp [intOf]; omega
        · obtain rfl : q = is.length := by omega
          have hd := D.d
          have mv : Hid _ := D.mv
          rw [List.take_length, HO.out, HMM.out] at hd
          have DF : Hid _ := hd
          clear hd D
          go_wp2_with fail
          exact ⟨rfl, .tuple #[], by simp [results, Try.results77, go_sem], rfl, v1, DF.out, mv.out⟩
theorem ckDecl_st (x : Sy.St) : dcP x := by
  induction x using Sy.ind with
  | h k n p m e b l hb hl => exact ⟨k, n, p, m, e, b, l, rfl, ckDecl_loop b hb, ckDecl_loop l hl⟩
/-- The declarer goes through any block. -/
theorem ckDeclBlock_any (l : List Sy.St) : dcC l := ckDecl_loop l fun x _ => ckDecl_st x
end Go.Proofs.Ytobiedmmjiedlaa
