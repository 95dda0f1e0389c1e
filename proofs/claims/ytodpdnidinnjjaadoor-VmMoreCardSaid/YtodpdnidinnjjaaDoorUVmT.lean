/- An append to a row of one's own: where the row lies behind it is told: where it lay, or in a new block. Rows that lie apart. -/
import Derived.Test.YtodpdnidinnjjaaDoorUCdG
import Derived.OneCell
import Derived.Deep.RegionLaw
namespace Go.Proofs.YtodpdnidinnjjaaDoor
open Go.RowKit
set_option linter.unusedVariables false

theorem tell_own {P : Program} {w : World} {base : Nat} {t ty e : TypeId} {i : TypeInfo} {z : Value} {size bytes : Nat} (ht : P.underlying t = some (.slice e)) (hi : P.info? e = some i) (hz : i.zero = some z)
    (hsize : i.size = size) (hby : i.bytes = bytes) {v : Value} {n : Nat} {xs : List Value} (hown : w.ownsRow base e size v n xs)
    {a : Addr} {m c : Nat} {news : List Value} (hl : news.length = m * size) (hnews : ∀ j u, news[j]? = some u → w.cell? (a.add j) = some u) (h1 : ∀ u ∈ news, u.oneCell' = true)
    (h63 : n + m ≤ maxLen) (hbytes : (n + m) * bytes ≤ 140737488355328) (hm : 0 < m) {v' : Value} {w' : World} (hr : (Builtin.append_ #[t, t] ty #[v, .slice (some a) m c]).run P w = .ok v' w') :
    v'.ownBlock = v.ownBlock ∨ ∃ g, v'.ownBlock = some g ∧ w.heap.size ≤ g := by
  subst hsize
  subst hby
  have hsmall : n + m ≤ 9223372036854775807 := by simp only [maxLen] at h63; omega
  rcases hown.2 with ⟨rfl, rfl⟩ | ⟨g, cap, cur, rfl, hbg, hg, hnc, hcm, hcs, htake⟩
  · have hx := run_append_nil (P := P) w t ty e i z ht hi hz a m c news hl hnews (by omega) (by omega) (by have hb := hbytes; simp only [Nat.zero_add] at hb; omega)
    rw [hr] at hx
    cases hx
    exact .inr ⟨_, rfl, Nat.le_refl _⟩
  · by_cases hroom : n + m ≤ cap
    · have hfit : n * i.size + news.length ≤ cur.size := by rw [hl, hcs, ← Nat.add_mul]; exact Nat.mul_le_mul_right _ hroom
      have hx := run_append_room (P := P) w t ty e i ht hi g n cap cur hg a m c news hl hnews h1 hroom hfit
      rw [hr] at hx
      cases hx
      exact .inl rfl
    · have holds : ∀ j u, xs[j]? = some u → w.cell? ((⟨g, 0, none⟩ : Addr).add j) = some u := hown.cells (g := g) rfl
      have hx := run_append_grow (P := P) w t ty e i z ht hi hz ⟨g, 0, none⟩ n cap xs hown.1 holds a m c news hl hnews (by omega) (by omega) (growslice_fits (by omega) hbytes)
      rw [hr] at hx
      cases hx
      exact .inr ⟨_, rfl, Nat.le_refl _⟩
theorem wp_app_t {P : Program} {w : World} {o : Oper} {a : Act} {K : Act → World → Prop} {Q : Exit → Act → World → Prop} (s x : Operand) (t : TypeId)
    (ho : o.op = .call { callee := .builtin .append, args := #[s, x], argTypes := #[t, t] })
    (base : Nat) (e : TypeId) (i : TypeInfo) (z : Value) (size bytes : Nat) (ht : P.underlying t = some (.slice e)) (hi : P.info? e = some i) (hz : i.zero = some z)
    (hsize : i.size = size) (hby : i.bytes = bytes) (hzs : z.cells.size = size) (hsz : 0 < size)
    (v : Value) (n : Nat) (xs : List Value) (hs : a.eval s = v) (hown : w.ownsRow base e size v n xs)
    (ad : Addr) (m c : Nat) (news : List Value) (hx : a.eval x = .slice (some ad) m c) (hl : news.length = m * size) (hnews : ∀ j u, news[j]? = some u → w.cell? (ad.add j) = some u) (h1 : ∀ u ∈ news, u.oneCell' = true)
    (h63 : n + m ≤ maxLen) (hbytes : (n + m) * bytes ≤ 140737488355328) (hbase : base ≤ w.heap.size) (hm : 0 < m)
    (h : ∀ v' w', w'.ownsRow base e size v' (n + m) (xs ++ news) → w.grownBy w' v.ownBlock → (v'.ownBlock = v.ownBlock ∨ ∃ g, v'.ownBlock = some g ∧ w.heap.size ≤ g) → K (a.put o.dst v') w') : o.wp P a w K Q := by
  obtain ⟨v', w', hr, h2, h3, _⟩ := run_append_own (P := P) w base t o.type e i z size bytes ht hi hz hsize hby hzs hsz v n xs hown ad m c news hl hnews h1 h63 hbytes hbase
  have h5 := tell_own ht hi hz hsize hby hown hl hnews h1 h63 hbytes hm hr
  unfold Oper.wp execOp
  simp only [ho, resolve, invoke, builtin, Sem.run_bind, Sem.run_pure, Result.andThen_ok, List.map_toArray, List.map_cons, List.map_nil, hs, hx, hr]
  exact h v' w' h2 h3 h5
theorem wpList_app_t {P : Program} {w : World} {ops : Array Oper} {rest : List Oper} {o : Oper} {a : Act} {Q : Exit → Act → World → Prop} (hgd : o.guard = none) (s x : Operand) (t : TypeId)
    (ho : o.op = .call { callee := .builtin .append, args := #[s, x], argTypes := #[t, t] })
    (base : Nat) (e : TypeId) (i : TypeInfo) (z : Value) (size bytes : Nat) (ht : P.underlying t = some (.slice e)) (hi : P.info? e = some i) (hz : i.zero = some z)
    (hsize : i.size = size) (hby : i.bytes = bytes) (hzs : z.cells.size = size) (hsz : 0 < size)
    (v : Value) (n : Nat) (xs : List Value) (hs : a.eval s = v) (hown : w.ownsRow base e size v n xs)
    (ad : Addr) (m c : Nat) (news : List Value) (hx : a.eval x = .slice (some ad) m c) (hl : news.length = m * size) (hnews : ∀ j u, news[j]? = some u → w.cell? (ad.add j) = some u) (h1 : ∀ u ∈ news, u.oneCell' = true)
    (h63 : n + m ≤ maxLen) (hbytes : (n + m) * bytes ≤ 140737488355328) (hbase : base ≤ w.heap.size) (hm : 0 < m)
    (h : ∀ v' w', w'.ownsRow base e size v' (n + m) (xs ++ news) → w.grownBy w' v.ownBlock → (v'.ownBlock = v.ownBlock ∨ ∃ g, v'.ownBlock = some g ∧ w.heap.size ≤ g) → wpList P ops Q rest (a.put o.dst v') w') : wpList P ops Q (o :: rest) a w :=
  wpList_plain hgd fun _ hK => wp_app_t s x t ho base e i z size bytes ht hi hz hsize hby hzs hsz v n xs hs hown ad m c news hx hl hnews h1 h63 hbytes hbase hm fun v' w' h2 h3 h4 => hK _ _ (h v' w' h2 h3 h4)
/-- A row: its element's type and size, the slice's value, how many there are, and their cells. -/
structure Rw where
  e : TypeId
  sz : Nat
  v : Value
  n : Nat
  xs : List Value
def Rw.Own (r : Rw) (w : World) (base : Nat) : Prop := w.ownsRow base r.e r.sz r.v r.n r.xs
def Apt (r s : Value) : Prop := ∀ g, r.ownBlock = some g → ¬ s.ownBlock = some g
theorem Apt.symm {r s : Value} (h : Apt r s) : Apt s r := fun g a b => h g b a
/-- What is laid down of an elder world: it, and the blocks that may have changed since. -/
structure Gh where
  w : World
  b : Nat → Prop
  lo : Nat
def Gn (G : Gh) (v : Value) : Prop := ∀ k, v.ownBlock = some k → G.b k ∨ G.w.heap.size ≤ k
/-- All other blocks of the elder world are as they were (the one below base aside). -/
structure Gk (G : Gh) (base : Nat) (w : World) : Prop where
  sz : G.w.heap.size ≤ w.heap.size
  eq : ∀ k, k < G.w.heap.size → k + 1 ≠ base → ¬ G.b k → w.heap[k]? = G.w.heap[k]?
theorem Gk.later {G : Gh} {base : Nat} {w w' : World} (h : Gk G base w) (y : Below w.heap.size w w') : Gk G base w' := ⟨Nat.le_trans h.sz y.size, fun k hk n b => (y.block k (Nat.lt_of_lt_of_le hk h.sz)).trans (h.eq k hk n b)⟩
/-- Four rows that lie apart, above base. -/
structure VmR (G : Gh) (w : World) (base : Nat) (a b c d : Rw) : Prop where
  oa : a.Own w base
  ob : b.Own w base
  oc : c.Own w base
  od : d.Own w base
  ab : Apt a.v b.v
  ac : Apt a.v c.v
  ad : Apt a.v d.v
  bc : Apt b.v c.v
  bd : Apt b.v d.v
  cd : Apt c.v d.v
  gk : Gk G base w
  ga : Gn G a.v
  gb : Gn G b.v
  gc : Gn G c.v
  gd : Gn G d.v
theorem VmR.swap1 {G : Gh} {w : World} {base : Nat} {a b c d : Rw} (h : VmR G w base a b c d) : VmR G w base b a c d := ⟨h.ob, h.oa, h.oc, h.od, h.ab.symm, h.bc, h.bd, h.ac, h.ad, h.cd, h.gk, h.gb, h.ga, h.gc, h.gd⟩
theorem VmR.swap2 {G : Gh} {w : World} {base : Nat} {a b c d : Rw} (h : VmR G w base a b c d) : VmR G w base c b a d := ⟨h.oc, h.ob, h.oa, h.od, h.bc.symm, h.ac.symm, h.cd, h.ab.symm, h.bd, h.ad, h.gk, h.gc, h.gb, h.ga, h.gd⟩
theorem VmR.swap3 {G : Gh} {w : World} {base : Nat} {a b c d : Rw} (h : VmR G w base a b c d) : VmR G w base d b c a := ⟨h.od, h.ob, h.oc, h.oa, h.bd.symm, h.cd.symm, h.ad.symm, h.bc, h.ab.symm, h.ac.symm, h.gk, h.gd, h.gb, h.gc, h.ga⟩
theorem Rw.kept {w w' : World} {base : Nat} {r : Rw} (h : r.Own w base) {o : Option Nat} (g : w.grownBy w' o) (hn : ∀ k, r.v.ownBlock = some k → ¬ o = some k) : r.Own w' base := by
  refine World.ownsRow.kept h g ?_
  rcases h.2 with ⟨hv, _⟩ | ⟨k, cap, cur, hv, _⟩
  · exact .inl (by rw [hv]; rfl)
  · have e : r.v.ownBlock = some k := by rw [hv]; rfl
    refine .inr ?_
    rw [e]
    exact fun e2 => hn k e e2.symm
theorem VmR.later {G : Gh} {w w' : World} {base : Nat} {a b c d : Rw} (h : VmR G w base a b c d) (y : Below w.heap.size w w') : VmR G w' base a b c d :=
  ⟨own_lat h.oa y, own_lat h.ob y, own_lat h.oc y, own_lat h.od y, h.ab, h.ac, h.ad, h.bc, h.bd, h.cd, h.gk.later y, h.ga, h.gb, h.gc, h.gd⟩
/-- The first row grows. -/
theorem VmR.grow {G : Gh} {w X w8 : World} {base : Nat} {a b c d : Rw} (h : VmR G w base a b c d) (y : Below w.heap.size w X) {v' : Value} {n' : Nat} {xs' : List Value} (h8 : w8.ownsRow base a.e a.sz v' n' xs') (g8 : X.grownBy w8 a.v.ownBlock) (o8 : v'.ownBlock = a.v.ownBlock ∨ ∃ g, v'.ownBlock = some g ∧ X.heap.size ≤ g) : VmR G w8 base ⟨a.e, a.sz, v', n', xs'⟩ b c d := by
  have h1 := h.later y
  have apt : ∀ r : Rw, r.Own X base → Apt a.v r.v → Apt v' r.v := fun r hr hA g e e2 => by
    rcases o8 with o | ⟨k, o, hk⟩
    · exact hA g (o.symm.trans e) e2
    · rw [o] at e
      cases e
      have := (World.ownsRow.lt hr _ e2).2
      omega
  have gk8 : Gk G base w8 := ⟨Nat.le_trans h1.gk.sz g8.size, fun k hk n nb => (g8.block k (Nat.lt_of_lt_of_le hk h1.gk.sz) (fun e => by
    rcases h1.ga k e.symm with e2 | e2
    · exact nb e2
    · omega)).trans (h1.gk.eq k hk n nb)⟩
  have ga8 : Gn G v' := fun k e => by
    rcases o8 with o | ⟨k', o, hk'⟩
    · exact h1.ga k (o.symm.trans e)
    · rw [o] at e
      cases e
      exact .inr (Nat.le_trans h1.gk.sz hk')
  exact ⟨h8, Rw.kept h1.ob g8 (fun k e e2 => h1.ab k e2 e), Rw.kept h1.oc g8 (fun k e e2 => h1.ac k e2 e), Rw.kept h1.od g8 (fun k e e2 => h1.ad k e2 e), apt b h1.ob h1.ab, apt c h1.oc h1.ac, apt d h1.od h1.ad, h1.bc, h1.bd, h1.cd, gk8, ga8, h1.gb, h1.gc, h1.gd⟩
/-- A cell below is set. -/
theorem VmR.below {G : Gh} {w : World} {m k : Nat} {a b c d : Rw} (h : VmR G w (m + 1) a b c d) (u : Value) : VmR G (w.setCell ⟨m, k, none⟩ u) (m + 1) a b c d := by
  have one : ∀ r : Rw, r.Own w (m + 1) → r.Own (w.setCell ⟨m, k, none⟩ u) (m + 1) := fun r hr => ownsRow_setCell_below hr (by simp) _
  exact ⟨one a h.oa, one b h.ob, one c h.oc, one d h.od, h.ab, h.ac, h.ad, h.bc, h.bd, h.cd, ⟨by simpa using h.gk.sz, fun j hj n nb => (heap_setCell_other _ _ j _ (by simp; omega)).trans (h.gk.eq j hj n nb)⟩, h.ga, h.gb, h.gc, h.gd⟩
/-- The first row is cut. -/
theorem VmR.cut {G : Gh} {w : World} {base : Nat} {a b c d : Rw} (h : VmR G w base a b c d) {v' : Value} {n' : Nat} {xs' : List Value} (h8 : w.ownsRow base a.e a.sz v' n' xs') (o8 : ∀ g, v'.ownBlock = some g → a.v.ownBlock = some g) : VmR G w base ⟨a.e, a.sz, v', n', xs'⟩ b c d :=
  ⟨h8, h.ob, h.oc, h.od, fun g e => h.ab g (o8 g e), fun g e => h.ac g (o8 g e), fun g e => h.ad g (o8 g e), h.bc, h.bd, h.cd, h.gk, fun k e => h.ga k (o8 k e), h.gb, h.gc, h.gd⟩
end Go.Proofs.YtodpdnidinnjjaaDoor
