/- Appends, told where the row lies behind them; a row of two numbers each that grows beside others (layer 15). -/
/- Layer 15: Parting, above, Index. -/
import Derived.Test.YthglhcabdadlpaaDoorZAlPm
import Derived.Test.YthglhcabdadlpaaDoorZAlD
namespace Go.Proofs.YthglhcabdadlpaaDoor
open Go.RowKit
set_option linter.unusedVariables false
theorem own_tellA {P : Program} {w : World} {base : Nat} {t ty e : TypeId} {i : TypeInfo} {z : Value} {size bytes : Nat} (ht : P.underlying t = some (.slice e)) (hi : P.info? e = some i) (hz : i.zero = some z)
    (hsize : i.size = size) (hby : i.bytes = bytes) {v : Value} {n : Nat} {xs : List Value} (hown : w.ownsRow base e size v n xs)
    {a : Addr} {m c : Nat} {news : List Value} (hl : news.length = m * size) (hnews : ∀ j u, news[j]? = some u → w.cell? (a.add j) = some u) (h1 : ∀ u ∈ news, u.oneCell' = true)
    (h63 : n + m ≤ maxLen) (hbytes : (n + m) * bytes ≤ 140737488355328) (hm : 0 < m) {v' : Value} {w' : World} (hr : (Builtin.append_ #[t, t] ty #[v, .slice (some a) m c]).run P w = .ok v' w') :
    v'.ownBlock = v.ownBlock ∨ ∃ g, v'.ownBlock = some g ∧ w.heap.size ≤ g := by
  subst hsize
  subst hby
  have hsmall : n + m ≤ 9223372036854775807 := by simp only [maxLen] at h63; omega
  rcases hown.2 with ⟨rfl, rfl⟩ | ⟨g, cap, cur, rfl, hbg, hg, hnc, hcm, hcs, htake⟩
  · have hx := run_append_nil (P := P) w t ty e i z ht hi hz a m c news hl hnews (by omega) (by omega) (by have hb := hbytes; simp only [Nat.zero_add] at hb; omega)
    rw [hr] at hx
    cases hx
    exact .inr ⟨_, rfl, Nat.le_refl _⟩
  · by_cases hroom : n + m ≤ cap
    · have hfit : n * i.size + news.length ≤ cur.size := by rw [hl, hcs, ← Nat.add_mul]; exact Nat.mul_le_mul_right _ hroom
      have hx := run_append_room (P := P) w t ty e i ht hi g n cap cur hg a m c news hl hnews h1 hroom hfit
      rw [hr] at hx
      cases hx
      exact .inl rfl
    · have holds : ∀ j u, xs[j]? = some u → w.cell? ((⟨g, 0, none⟩ : Addr).add j) = some u := hown.cells (g := g) rfl
      have hx := run_append_grow (P := P) w t ty e i z ht hi hz ⟨g, 0, none⟩ n cap xs hown.1 holds a m c news hl hnews (by omega) (by omega) (growslice_fits (by omega) hbytes)
      rw [hr] at hx
      cases hx
      exact .inr ⟨_, rfl, Nat.le_refl _⟩
theorem wp_append_tolA {P : Program} {w : World} {o : Oper} {a : Act} {K : Act → World → Prop} {Q : Exit → Act → World → Prop} (s x : Operand) (t : TypeId)
    (ho : o.op = .call { callee := .builtin .append, args := #[s, x], argTypes := #[t, t] })
    (base : Nat) (e : TypeId) (i : TypeInfo) (z : Value) (size bytes : Nat) (ht : P.underlying t = some (.slice e)) (hi : P.info? e = some i) (hz : i.zero = some z)
    (hsize : i.size = size) (hby : i.bytes = bytes) (hzs : z.cells.size = size) (hsz : 0 < size)
    (v : Value) (n : Nat) (xs : List Value) (hs : a.eval s = v) (hown : w.ownsRow base e size v n xs)
    (ad : Addr) (m c : Nat) (news : List Value) (hx : a.eval x = .slice (some ad) m c) (hl : news.length = m * size) (hnews : ∀ j u, news[j]? = some u → w.cell? (ad.add j) = some u) (h1 : ∀ u ∈ news, u.oneCell' = true)
    (h63 : n + m ≤ maxLen) (hbytes : (n + m) * bytes ≤ 140737488355328) (hbase : base ≤ w.heap.size) (hm : 0 < m)
    (h : ∀ v' w', w'.ownsRow base e size v' (n + m) (xs ++ news) → w.grownBy w' v.ownBlock → (v'.ownBlock = v.ownBlock ∨ ∃ g, v'.ownBlock = some g ∧ w.heap.size ≤ g) → K (a.put o.dst v') w') : o.wp P a w K Q := by
  obtain ⟨v', w', hr, h2, h3, _⟩ := run_append_own (P := P) w base t o.type e i z size bytes ht hi hz hsize hby hzs hsz v n xs hown ad m c news hl hnews h1 h63 hbytes hbase
  have h5 := own_tellA ht hi hz hsize hby hown hl hnews h1 h63 hbytes hm hr
  unfold Oper.wp execOp
  simp only [ho, resolve, invoke, builtin, Sem.run_bind, Sem.run_pure, Result.andThen_ok, List.map_toArray, List.map_cons, List.map_nil, hs, hx, hr]
  exact h v' w' h2 h3 h5
theorem wpList_append_tolA {P : Program} {w : World} {ops : Array Oper} {rest : List Oper} {o : Oper} {a : Act} {Q : Exit → Act → World → Prop} (hgd : o.guard = none) (s x : Operand) (t : TypeId)
    (ho : o.op = .call { callee := .builtin .append, args := #[s, x], argTypes := #[t, t] })
    (base : Nat) (e : TypeId) (i : TypeInfo) (z : Value) (size bytes : Nat) (ht : P.underlying t = some (.slice e)) (hi : P.info? e = some i) (hz : i.zero = some z)
    (hsize : i.size = size) (hby : i.bytes = bytes) (hzs : z.cells.size = size) (hsz : 0 < size)
    (v : Value) (n : Nat) (xs : List Value) (hs : a.eval s = v) (hown : w.ownsRow base e size v n xs)
    (ad : Addr) (m c : Nat) (news : List Value) (hx : a.eval x = .slice (some ad) m c) (hl : news.length = m * size) (hnews : ∀ j u, news[j]? = some u → w.cell? (ad.add j) = some u) (h1 : ∀ u ∈ news, u.oneCell' = true)
    (h63 : n + m ≤ maxLen) (hbytes : (n + m) * bytes ≤ 140737488355328) (hbase : base ≤ w.heap.size) (hm : 0 < m)
    (h : ∀ v' w', w'.ownsRow base e size v' (n + m) (xs ++ news) → w.grownBy w' v.ownBlock → (v'.ownBlock = v.ownBlock ∨ ∃ g, v'.ownBlock = some g ∧ w.heap.size ≤ g) → wpList P ops Q rest (a.put o.dst v') w') : wpList P ops Q (o :: rest) a w :=
  wpList_plain hgd fun _ hK => wp_append_tolA s x t ho base e i z size bytes ht hi hz hsize hby hzs hsz v n xs hs hown ad m c news hx hl hnews h1 h63 hbytes hbase hm fun v' w' h2 h3 h4 => hK _ _ (h v' w' h2 h3 h4)
/-- The row v grew to be v': all else is as it was, and v' lies where v lay, or in a new block. -/
def GwA (w : World) (v v' : Value) (w' : World) : Prop := w.grownBy w' v.ownBlock ∧ (v'.ownBlock = v.ownBlock ∨ ∃ g, v'.ownBlock = some g ∧ w.heap.size ≤ g)
theorem GwA.refl (w : World) (v : Value) : GwA w v v w := ⟨⟨rfl, rfl, rfl, Nat.le_refl _, fun _ _ _ => rfl⟩, .inl rfl⟩
theorem GwA.trans {w w1 w2 : World} {v v1 v2 : Value} (h : GwA w v v1 w1) (k : GwA w1 v1 v2 w2) : GwA w v v2 w2 := by
  refine ⟨⟨k.1.os.trans h.1.os, k.1.tape.trans h.1.tape, k.1.output.trans h.1.output, Nat.le_trans h.1.size k.1.size, fun i hi hn => ?_⟩, ?_⟩
  · refine (k.1.block i (Nat.lt_of_lt_of_le hi h.1.size) (fun e => ?_)).trans (h.1.block i hi hn)
    rcases h.2 with h2 | ⟨g, h2, h3⟩
    · exact hn (e.trans h2)
    · rw [h2] at e
      cases e
      omega
  · rcases k.2 with k2 | ⟨g, k2, k3⟩
    · rcases h.2 with h2 | ⟨g, h2, h3⟩
      · exact .inl (k2.trans h2)
      · exact .inr ⟨g, k2.trans h2, h3⟩
    · exact .inr ⟨g, k2, Nat.le_trans h.1.size k3⟩
theorem GwA.step {wr w8 : World} {u v8 : Value} {o : Obj} (g8 : (wr.alloc o).grownBy w8 u.ownBlock) (o8 : v8.ownBlock = u.ownBlock ∨ ∃ g, v8.ownBlock = some g ∧ wr.heap.size + 1 ≤ g) : GwA wr u v8 w8 := by
  refine ⟨⟨g8.os, g8.tape, g8.output, ?_, fun i hi hn => ?_⟩, o8.imp id fun ⟨g, h, k⟩ => ⟨g, h, ?_⟩⟩
  · have := g8.size; simp at this; omega
  · exact (g8.block i (by simp; omega) hn).trans (((Below.refl wr.heap.size wr).alloc (Nat.le_refl _) o).block i hi)
  · omega
theorem GwA.alloc {w w1 : World} {v v' : Value} (h : GwA w v v' w1) (o : Obj) : GwA w v v' (w1.alloc o) :=
  ⟨⟨h.1.os, h.1.tape, h.1.output, by have := h.1.size; simp; omega, fun i hi hn => (((Below.refl w1.heap.size w1).alloc (Nat.le_refl _) o).block i (Nat.lt_of_lt_of_le hi h.1.size)).trans (h.1.block i hi hn)⟩, h.2⟩
theorem GwA.later {w w1 w2 : World} {v v' : Value} (h : GwA w v v' w1) (b : Below w1.heap.size w1 w2) : GwA w v v' w2 :=
  ⟨⟨b.os.trans h.1.os, b.tape.trans h.1.tape, b.output.trans h.1.output, Nat.le_trans h.1.size b.size, fun i hi hn => (b.block i (Nat.lt_of_lt_of_le hi h.1.size)).trans (h.1.block i hi hn)⟩, h.2⟩
/-- Another block stays: it is not the row's, before or behind. -/
theorem GwA.keep {w w1 : World} {v v' : Value} (h : GwA w v v' w1) {M : Nat} (hM : M < w.heap.size) (hn : some M ≠ v.ownBlock) : w1.heap[M]? = w.heap[M]? ∧ some M ≠ v'.ownBlock ∧ M < w1.heap.size :=
  ⟨h.1.block M hM hn, fun e => by
    rcases h.2 with h2 | ⟨g, h2, h3⟩
    · exact hn (e.trans h2)
    · rw [h2] at e; cases e; omega, Nat.lt_of_lt_of_le hM h.1.size⟩
/-- One more behind a row, its two numbers being in a new block: where it lies is told. -/
theorem OwP.tell {wr w8 : World} {base : Nat} {ty : TypeId} {v v8 : Value} {l : List Al.Ev} {o : Obj} {e : Al.Ev} (ho : OwP wr base ty v l) (hb : base ≤ wr.heap.size) (h8 : w8.ownsRow base ty 2 v8 (l.length + 1) (prC l ++ [.int .i64 e.1, .int .i64 e.2])) (g8 : (wr.alloc o).grownBy w8 v.ownBlock) (o8 : v8.ownBlock = v.ownBlock ∨ ∃ g, v8.ownBlock = some g ∧ wr.heap.size + 1 ≤ g) : OwP w8 base ty v8 (l ++ [e]) ∧ Below base wr w8 ∧ GwA wr v v8 w8 :=
  ⟨(ho.grown hb h8 g8).1, (ho.grown hb h8 g8).2, GwA.step g8 o8⟩
end Go.Proofs.YthglhcabdadlpaaDoor

namespace Go.Proofs.YthglhcabdadlpaaDoor
open Go.RowKit
set_option linter.unusedVariables false
set_option linter.unusedSimpArgs false
set_option maxRecDepth 100000

set_option maxHeartbeats 2000000 in
theorem part_any (w : World) (a b : Option Addr) (ca cb : Nat) (l m : List Al.Ev) {B : Nat} (ha : EvR B w a l) (hb : EvR B w b m) (hB : B ≤ w.heap.size) (hl : l.length ≤ 1000000000000000) (hm : m.length ≤ 1000000000000000) : Calls Tryd.prog 10 #[.slice a l.length ca, .slice b m.length cb] w fun e w' => e = .returned (.int .i64 (Al.part l m)) ∧ Below w.heap.size w w' := by
  have HT := hidA (tog_any w a b ca cb l m ha hb hB hl hm)
  obtain ⟨p, hp⟩ : ∃ p, p = Al.part l m := ⟨_, rfl⟩
  have HP := hidA hp
  unfold Al.part at HP
  rw [← hp]
  clear hp ha hb hB hl hm
  generalize Al.tog l m = T at *
  generalize l.length = N1 at *
  generalize m.length = N2 at *
  by_cases c1 : T = N1
  · by_cases c2 : T = N2
    · have e : p = -1 := by rw [HP.out, if_pos ⟨c1, c2⟩]
      subst e
      have q1 : ((T : Int) == (N1 : Int)) = true := by simp [c1]
      have q2 : ((T : Int) == (N2 : Int)) = true := by simp [c2]
      clear c1 c2
      go_enter Tryd.func10, Tryd.ntmps10
      go_wp2_with fail
      refine HT.out.mono ?_
      rintro e w1 ⟨rfl, b1⟩
      have B1 := hidA b1
      clear b1
      go_wp2_with fail
      go_ret
      exact ⟨rfl, B1.out⟩
    · have e : p = T := by rw [HP.out, if_neg (fun h => c2 h.2)]
      subst e
      have q1 : ((T : Int) == (N1 : Int)) = true := by simp [c1]
      have q2 : ((T : Int) == (N2 : Int)) = false := by simp; omega
      clear c1 c2
      go_enter Tryd.func10, Tryd.ntmps10
      go_wp2_with fail
      refine HT.out.mono ?_
      rintro e w1 ⟨rfl, b1⟩
      have B1 := hidA b1
      clear b1
      go_wp2_with fail
      go_ret
      exact ⟨rfl, B1.out⟩
  · have e : p = T := by rw [HP.out, if_neg (fun h => c1 h.1)]
    subst e
    have q1 : ((T : Int) == (N1 : Int)) = false := by simp; omega
    clear c1
    go_enter Tryd.func10, Tryd.ntmps10
    go_wp2_with fail
    refine HT.out.mono ?_
    rintro e w1 ⟨rfl, b1⟩
    have B1 := hidA b1
    clear b1
    go_wp2_with fail
    go_ret
    exact ⟨rfl, B1.out⟩
theorem abv_eq (n m L : Int) (hn : 0 < n) (hL : 0 ≤ L) : decide (L / n < m) = decide (L < n * m) := by
  have h : L / n < m ↔ L < n * m := by
    rw [Int.ediv_lt_iff_lt_mul hn, Int.mul_comm]
  by_cases c : L < n * m
  · rw [decide_eq_true c, decide_eq_true (h.2 c)]
  · rw [decide_eq_false c, decide_eq_false (fun d => c (h.1 d))]
set_option maxHeartbeats 2000000 in
theorem abv_any (w : World) (n m : Nat) (L : Int) (h0 : -9223372036854775808 ≤ L) (h1 : L ≤ 9223372036854775807) (hn : n ≤ 1000000000000000) (hm : m ≤ 1000000000000000) : Calls Tryd.prog 36 #[.int .i64 (n : Int), .int .i64 (m : Int), .int .i64 L] w fun e w' => e = .returned (.bool (decide (max L 0 < (n : Int) * (m : Int)))) ∧ w' = w := by
  by_cases c : n = 0
  · subst c
    have e : decide (max L 0 < ((0 : Nat) : Int) * (m : Int)) = false := decide_eq_false (by simp; omega)
    rw [e]
    clear e
    go_enter Tryd.func36, Tryd.ntmps36
    go_wp2_with fail
    go_ret
    exact ⟨rfl, rfl⟩
  · have e := abv_eq n m (max L 0) (by omega) (by omega)
    rw [← e]
    clear e
    obtain ⟨X, hX⟩ : ∃ X, X = max L 0 := ⟨_, rfl⟩
    have hX0 : 0 ≤ X := by omega
    have hX1 : X ≤ 9223372036854775807 := by omega
    have HM : ∀ w : World, (Builtin.max_ #[3, 3] 3 #[.int .i64 L, .int .i64 0]).run Tryd.prog w = .ok (.int .i64 X) w := fun w => by rw [hX]; exact Lib.run_max_ints w _ _ .i64 .i64 _ _
    rw [← hX]
    clear hX
    obtain ⟨q, hq⟩ : ∃ q : Int, q = X / (n : Int) := ⟨_, rfl⟩
    have hq0 : 0 ≤ q := by rw [hq]; exact Int.ediv_nonneg hX0 (by omega)
    have hq1 : q ≤ 9223372036854775807 := by rw [hq]; exact Int.le_trans (Int.ediv_le_self _ hX0) hX1
    have ht : X.tdiv (n : Int) = q := by rw [hq]; exact Int.tdiv_eq_ediv_of_nonneg hX0
    have hw : wrap64 q = q := by unfold wrap64; omega
    have hn0 : ((n : Int) == 0) = false := by simp; omega
    have hn1 : (n : Int) ≠ 0 := by omega
    have hn2 : (0 : Int) < (n : Int) := by omega
    have dn : decide ((0 : Int) < (n : Int)) = true := decide_eq_true hn2
    rw [← hq]
    have HQ := hidA hq
    clear hq
    obtain ⟨r, hr⟩ : ∃ r, r = decide (q < (m : Int)) := ⟨_, rfl⟩
    have HR := hidA hr
    rw [← hr]
    cases r
    · have c2 : ¬ q < (m : Int) := of_decide_eq_false HR.out.symm
      have d2 : decide (q < (m : Int)) = false := HR.out.symm
      clear hr
      go_enter Tryd.func36, Tryd.ntmps36
      go_wp2_with fail
      go_ret
      exact ⟨rfl, rfl⟩
    · have c2 : q < (m : Int) := of_decide_eq_true HR.out.symm
      have d2 : decide (q < (m : Int)) = true := HR.out.symm
      clear hr
      go_enter Tryd.func36, Tryd.ntmps36
      go_wp2_with fail
      go_ret
      exact ⟨rfl, rfl⟩
end Go.Proofs.YthglhcabdadlpaaDoor
