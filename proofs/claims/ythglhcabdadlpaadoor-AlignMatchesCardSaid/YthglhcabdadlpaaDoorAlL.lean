/- Layer 15: gaps. -/
import Derived.Test.YthglhcabdadlpaaDoorAlK
namespace Go.Proofs.YthglhcabdadlpaaDoor
open Go.RowKit
set_option linter.unusedVariables false
set_option linter.unusedSimpArgs false
set_option maxRecDepth 100000
/-- The cells of regions. -/
def rgC (l : List Al.Rg) : List Value := l.flatMap fun r => [.int .i64 r.fa, .int .i64 r.ta, .int .i64 r.fb, .int .i64 r.tb]
theorem rgC_app (l m : List Al.Rg) : rgC (l ++ m) = rgC l ++ rgC m := by simp [rgC]
theorem rgC_one (r : Al.Rg) : ∀ u ∈ rgC [r], u.oneCell' = true := fun u h => by
  simp [rgC] at h
  rcases h with rfl | rfl | rfl | rfl <;> rfl
def OwG (w : World) (base : Nat) (ty : TypeId) (v : Value) (l : List Al.Rg) : Prop := w.ownsRow base ty 4 v l.length (rgC l)
theorem OwG.nil (w : World) (base : Nat) (ty : TypeId) : OwG w base ty (.slice none 0 0) [] := World.ownsRow_nil _ _ _ _
theorem OwG.later {w w' : World} {base : Nat} {ty : TypeId} {v : Value} {l : List Al.Rg} (h : OwG w base ty v l) (b : Below w.heap.size w w') : OwG w' base ty v l := ownA h b
theorem OwG.base {w : World} {b b' : Nat} {ty : TypeId} {v : Value} {l : List Al.Rg} (h : OwG w b ty v l) (hb : b' ≤ b) : OwG w b' ty v l := by
  have h0 : w.ownsRow b ty 4 v l.length (rgC l) := h
  refine ⟨h0.1, ?_⟩
  rcases h0.2 with h | ⟨g, cap, cur, e, hg, r⟩
  · exact .inl h
  · exact .inr ⟨g, cap, cur, e, Nat.le_trans hb hg, r⟩
theorem OwG.set {w : World} {base : Nat} {ty : TypeId} {v : Value} {l : List Al.Rg} (h : OwG w base ty v l) {p : Nat} (hp : p < base) (c : Nat) (u : Value) : OwG (w.setCell ⟨p, c, none⟩ u) base ty v l := ownsRow_setCell_below (a := ⟨p, c, none⟩) h hp u
theorem four4A (w : World) (a b c d : Value) (t : TypeId) : ∀ (j : Nat) (u : Value), [a, b, c, d][j]? = some u → (w.alloc (.cells #[a, b, c, d] t)).cell? ((⟨w.heap.size, 0, none⟩ : Addr).add j) = some u
  | 0, u, h => by simp at h; subst h; simp [Addr.add]
  | 1, u, h => by simp at h; subst h; simp [Addr.add]
  | 2, u, h => by simp at h; subst h; simp [Addr.add]
  | 3, u, h => by simp at h; subst h; simp [Addr.add]
  | j + 4, u, h => by simp at h
theorem box4 {w : World} {r : Nat} {a b c d : Value} {T : TypeId} (h : w.heap[r]? = some (.cells #[a, b, c, d] T (0, 0))) : w.cell? ⟨r, 0, none⟩ = some a ∧ w.cell? ⟨r, 1, none⟩ = some b ∧ w.cell? ⟨r, 2, none⟩ = some c ∧ w.cell? ⟨r, 3, none⟩ = some d ∧ w.frozen? ⟨r, 0, none⟩ = false ∧ w.frozen? ⟨r, 1, none⟩ = false ∧ w.frozen? ⟨r, 2, none⟩ = false ∧ w.frozen? ⟨r, 3, none⟩ = false := by
  refine ⟨by simp [World.cell?, h], by simp [World.cell?, h], by simp [World.cell?, h], by simp [World.cell?, h], by simp [World.frozen?, h], by simp [World.frozen?, h], by simp [World.frozen?, h], by simp [World.frozen?, h]⟩
theorem box1 {w : World} {r : Nat} {a : Value} {T : TypeId} (h : w.heap[r]? = some (.cells #[a] T (0, 0))) : w.cell? ⟨r, 0, none⟩ = some a ∧ w.frozen? ⟨r, 0, none⟩ = false := ⟨by simp [World.cell?, h], by simp [World.frozen?, h]⟩
theorem infoRg : ∃ i, Tryd.prog.info? 59 = some i ∧ i.zero = some (.agg #[.int .i64 0, .int .i64 0, .int .i64 0, .int .i64 0]) ∧ i.size = 4 ∧ i.bytes = 32 := infoP _ _ _ _ _ (by kernel_rfl)
/-- The regions so far in their box, and the one that is made next in its own. -/
structure GpR (w : World) (p k : Nat) (v : Value) (acc : List Al.Rg) (fa ta fb tb : Int) (wr : World) : Prop where
  b : Below p w wr
  all : wr.heap[p]? = some (.cells #[v] 42 (0, 0))
  r : wr.heap[p + 1]? = some (.cells #[.int .i64 fa, .int .i64 ta, .int .i64 fb, .int .i64 tb] 59 (0, 0))
  row : OwG wr (p + 2) 59 v acc
  len : acc.length ≤ k
theorem GpR.lt {w wr : World} {p k : Nat} {v : Value} {acc : List Al.Rg} {fa ta fb tb : Int} (h : GpR w p k v acc fa ta fb tb wr) : p + 1 < wr.heap.size := (Array.getElem?_eq_some_iff.1 h.r).1
theorem GpR.later {w wr w2 : World} {p k : Nat} {v : Value} {acc : List Al.Rg} {fa ta fb tb : Int} (h : GpR w p k v acc fa ta fb tb wr) (b : Below wr.heap.size wr w2) : GpR w p k v acc fa ta fb tb w2 :=
  ⟨h.b.trans (b.mono (by have := h.lt; omega)), (b.block p (by have := h.lt; omega)).trans h.all, (b.block (p + 1) h.lt).trans h.r, h.row.later b, h.len⟩
theorem GpR.to {w wr : World} {p k : Nat} {v : Value} {acc : List Al.Rg} {fa ta fb tb : Int} (h : GpR w p k v acc fa ta fb tb wr) (a b : Int) : GpR w p k v acc fa a fb b ((wr.setCell ⟨p + 1, 1, none⟩ (.int .i64 a)).setCell ⟨p + 1, 3, none⟩ (.int .i64 b)) := by
  refine ⟨below_set (below_set h.b (by omega) _) (by omega) _, ?_, ?_, (h.row.set (by omega) _ _).set (by omega) _ _, h.len⟩
  · rw [heap_setCell_other _ _ p _ (by simp), heap_setCell_other _ _ p _ (by simp)]
    exact h.all
  · have h1 := heap_setCell_same wr (p + 1) 1 _ _ (.int .i64 a) h.r
    exact heap_setCell_same _ (p + 1) 3 _ _ (.int .i64 b) h1
theorem GpR.grow {w wr w8 : World} {p k : Nat} {v v8 : Value} {acc : List Al.Rg} {fa ta fb tb : Int} {o : Obj} (h : GpR w p k v acc fa ta fb tb wr) (h8 : w8.ownsRow (p + 2) 59 4 v8 (acc.length + 1) (rgC acc ++ [.int .i64 fa, .int .i64 ta, .int .i64 fb, .int .i64 tb])) (g8 : (wr.alloc o).grownBy w8 v.ownBlock) : GpR w p (k + 1) v8 (acc ++ [⟨fa, ta, fb, tb⟩]) fa ta fb tb (w8.setCell ⟨p, 0, none⟩ v8) := by
  have hl := h.lt
  have hk : ∀ x, x < p + 2 → x < wr.heap.size → w8.heap[x]? = wr.heap[x]? := fun x hx hs =>
    (g8.block x (by simp; omega) (fun e => by have := (World.ownsRow.lt (show wr.ownsRow (p + 2) _ 4 v acc.length (rgC acc) from h.row) _ e.symm).1; omega)).trans (((Below.refl wr.heap.size wr).alloc (Nat.le_refl _) o).block x hs)
  have b8 : Below p w w8 := h.b.trans ⟨g8.os, g8.tape, g8.output, by have := g8.size; simp at this; omega, fun x hx => hk x (by omega) (by omega)⟩
  refine ⟨below_set b8 (Nat.le_refl _) _, ?_, ?_, ?_, by rw [List.length_append]; exact Nat.succ_le_succ h.len⟩
  · exact heap_setCell_same w8 p 0 _ _ v8 ((hk p (by omega) (by omega)).trans h.all)
  · rw [heap_setCell_other _ _ (p + 1) _ (by simp)]
    exact (hk (p + 1) (by omega) hl).trans h.r
  · refine OwG.set (w := w8) (p := p) (base := p + 2) (l := acc ++ [⟨fa, ta, fb, tb⟩]) ?_ (by omega) 0 v8
    unfold OwG
    rw [rgC_app, List.length_append]
    exact h8
theorem own63g {k : Nat} (h : k ≤ 1000) : k + 1 ≤ maxLen ∧ (k + 1) * 32 ≤ 140737488355328 := by unfold maxLen; omega
/-- What the closure leaves. -/
def GpF (p : Nat) (wr : World) (v : Value) (w' : World) : Prop := ∀ x, x < wr.heap.size → x ≠ p → x ≠ p + 1 → some x ≠ v.ownBlock → w'.heap[x]? = wr.heap[x]?
def GpQ (w wr : World) (p k : Nat) (v : Value) (acc : List Al.Rg) (fa fb a b : Int) (e : Ending) (w' : World) : Prop := e = .returned (.tuple #[]) ∧ (∃ v', GpR w p k v' (acc ++ Al.one fa a fb b) fa a fb b w') ∧ GpF p wr v w'
theorem GpF.to (p : Nat) (wr : World) (v : Value) (a b : Value) : GpF p wr v ((wr.setCell ⟨p + 1, 1, none⟩ a).setCell ⟨p + 1, 3, none⟩ b) := fun x _ h1 h2 _ => by
  rw [heap_setCell_other _ _ x _ (by simp; omega), heap_setCell_other _ _ x _ (by simp; omega)]
theorem GpF.grow {p : Nat} {wr w1 w8 : World} {v v8 : Value} {o : Obj} (h : GpF p wr v w1) (hs : wr.heap.size ≤ w1.heap.size) (g8 : (w1.alloc o).grownBy w8 v.ownBlock) : GpF p wr v (w8.setCell ⟨p, 0, none⟩ v8) := fun x hx h1 h2 h3 => by
  rw [heap_setCell_other _ _ x _ (by simp; omega), ← h x hx h1 h2 h3]
  exact (g8.block x (by simp; omega) h3).trans (((Below.refl w1.heap.size w1).alloc (Nat.le_refl _) o).block x (by omega))
set_option maxHeartbeats 8000000 in
theorem until_any (w wr : World) (p k : Nat) (v : Value) (acc : List Al.Rg) (fa ta fb tb a b : Int) (h : GpR w p k v acc fa ta fb tb wr) (hk : k ≤ 1000) (A2 : Option Addr) (L C : Nat) :
    Calls Tryd.prog 53 #[.int .i64 a, .int .i64 b, .pointer (some ⟨p + 1, 0, none⟩), .pointer (some ⟨p, 0, none⟩)] wr (GpQ w wr p (k + 1) v acc fa fb a b) := by
  obtain ⟨i0, hi, zi0, zi1, zi2⟩ := infoRg
  have HH := hidA h
  have H1 := hidA (h.to a b)
  have FR := hidA (GpF.to p wr v (.int .i64 a) (.int .i64 b))
  obtain ⟨W1, hW1⟩ : ∃ W1, W1 = (wr.setCell ⟨p + 1, 1, none⟩ (.int .i64 a)).setCell ⟨p + 1, 3, none⟩ (.int .i64 b) := ⟨_, rfl⟩
  rw [← hW1] at H1 FR
  have SZ : Hid (wr.heap.size ≤ W1.heap.size) := by unfold Hid; rw [hW1]; simp
  obtain ⟨-, b1, -, b3, -, f1, -, f3⟩ := box4 h.r
  obtain ⟨c0, c1, c2, c3, -, -, -, -⟩ := box4 H1.out.r
  obtain ⟨d0, -⟩ := box1 H1.out.all
  obtain ⟨q, hq⟩ : ∃ q, q = p + 1 := ⟨_, rfl⟩
  have HQ := hidA hq
  rw [← hq] at hW1 b1 b3 f1 f3 c0 c1 c2 c3 ⊢
  have HK := hidA hk
  obtain ⟨Q, hQ⟩ : ∃ Q, Q = GpQ w wr p (k + 1) v acc fa fb a b := ⟨_, rfl⟩
  have Q0 : Hid (∀ v' w', ¬ (fa < a ∨ fb < b) → GpR w p k v' acc fa a fb b w' → GpF p wr v w' → Q (.returned (.tuple #[])) w') := fun v' w' hn h hf => by
    rw [hQ]
    refine ⟨rfl, ⟨v', ?_⟩, hf⟩
    unfold Al.one
    rw [if_neg hn, List.append_nil]
    exact ⟨h.b, h.all, h.r, h.row, Nat.le_trans h.len (Nat.le_succ _)⟩
  have Q1 : Hid (∀ v' w', (fa < a ∨ fb < b) → GpR w p (k + 1) v' (acc ++ [⟨fa, a, fb, b⟩]) fa a fb b w' → GpF p wr v w' → Q (.returned (.tuple #[])) w') := fun v' w' hn h hf => by
    rw [hQ]
    refine ⟨rfl, ⟨v', ?_⟩, hf⟩
    unfold Al.one
    rw [if_pos hn]
    exact h
  rw [← hQ]
  clear hQ h hk hq
  go_enter Tryd.func53, Tryd.ntmps53
  go_upto_region 1 with fail
  rw [← hW1]
  clear hW1 b1 b3 f1 f3
  obtain ⟨LN, hLN⟩ : ∃ LN, LN = acc.length := ⟨_, rfl⟩
  have OR3 : Hid (W1.ownsRow (p + 2) 59 4 v LN (rgC acc)) := by
    rw [hLN]
    exact H1.out.row
  have H63 := hidA (own63g (k := LN) (by rw [hLN]; exact Nat.le_trans H1.out.len HK.out))
  have ONE := hidA (rgC_one ⟨fa, a, fb, b⟩)
  have HS3 : Hid (p + 2 ≤ W1.heap.size) := H1.out.lt
  have F8 : Hid (∀ v8 w8, w8.ownsRow (p + 2) 59 4 v8 (LN + 1) (rgC acc ++ [.int .i64 fa, .int .i64 a, .int .i64 fb, .int .i64 b]) → (W1.alloc (.cells #[.int .i64 fa, .int .i64 a, .int .i64 fb, .int .i64 b] 59)).grownBy w8 v.ownBlock → (w8.cell? ⟨p, 0, none⟩ = some v ∧ w8.frozen? ⟨p, 0, none⟩ = false) ∧ GpR w p (k + 1) v8 (acc ++ [⟨fa, a, fb, b⟩]) fa a fb b (w8.setCell ⟨p, 0, none⟩ v8)) := fun v8 w8 h8 g8 => by
    have hl := H1.out.lt
    have hk : w8.heap[p]? = W1.heap[p]? := (g8.block p (by simp; omega) (fun e => by have := (World.ownsRow.lt OR3.out _ e.symm).1; omega)).trans (((Below.refl W1.heap.size W1).alloc (Nat.le_refl _) _).block p (by omega))
    exact ⟨box1 (hk.trans H1.out.all), H1.out.grow (by rw [← hLN]; exact h8) g8⟩
  clear hLN
  by_cases c : fa < a
  · have d1 : decide (fa < a) = true := decide_eq_true c
    have F9 : Hid (∀ v8 w8, w8.ownsRow (p + 2) 59 4 v8 (LN + 1) (rgC acc ++ [.int .i64 fa, .int .i64 a, .int .i64 fb, .int .i64 b]) → (W1.alloc (.cells #[.int .i64 fa, .int .i64 a, .int .i64 fb, .int .i64 b] 59)).grownBy w8 v.ownBlock → (w8.cell? ⟨p, 0, none⟩ = some v ∧ w8.frozen? ⟨p, 0, none⟩ = false) ∧ Q (.returned (.tuple #[])) (w8.setCell ⟨p, 0, none⟩ v8)) := fun v8 w8 h8 g8 => ⟨(F8.out v8 w8 h8 g8).1, Q1.out _ _ (.inl c) (F8.out v8 w8 h8 g8).2 (FR.out.grow SZ.out g8)⟩
    clear c F8 Q0 Q1
    go_wp2_with (at_builtin; refine wpList_append_tolA rfl _ _ 42 rfl (p + 2) 59 i0 (.agg #[.int .i64 0, .int .i64 0, .int .i64 0, .int .i64 0]) 4 32 Tryd.underlying42 hi zi0 zi1 zi2 rfl (by decide) _ _ _ rfl (ownA OR3.out ((Below.refl _ _).alloc (Nat.le_refl _) _)) ⟨W1.heap.size, 0, none⟩ 1 1 [.int .i64 fa, .int .i64 a, .int .i64 fb, .int .i64 b] rfl rfl (four4A _ _ _ _ _ _) ONE.out H63.out.1 H63.out.2 (Nat.le_trans HS3.out ((Below.refl W1.heap.size W1).alloc (Nat.le_refl _) _).size) (by decide) ?_)
    intro v8 w8 h8 g8 o8
    obtain ⟨va8, vc8, rfl⟩ := ownShA h8
    obtain ⟨⟨z1, z2⟩, z3⟩ := F9.out _ w8 h8 g8
    have Z3 := hidA z3
    clear h8 g8 o8 F9 z3
    go_wp2_with fail
    go_end0
    exact Z3.out
  · have d1 : decide (fa < a) = false := decide_eq_false c
    by_cases c2 : fb < b
    · have d2 : decide (fb < b) = true := decide_eq_true c2
      have F9 : Hid (∀ v8 w8, w8.ownsRow (p + 2) 59 4 v8 (LN + 1) (rgC acc ++ [.int .i64 fa, .int .i64 a, .int .i64 fb, .int .i64 b]) → (W1.alloc (.cells #[.int .i64 fa, .int .i64 a, .int .i64 fb, .int .i64 b] 59)).grownBy w8 v.ownBlock → (w8.cell? ⟨p, 0, none⟩ = some v ∧ w8.frozen? ⟨p, 0, none⟩ = false) ∧ Q (.returned (.tuple #[])) (w8.setCell ⟨p, 0, none⟩ v8)) := fun v8 w8 h8 g8 => ⟨(F8.out v8 w8 h8 g8).1, Q1.out _ _ (.inr c2) (F8.out v8 w8 h8 g8).2 (FR.out.grow SZ.out g8)⟩
      clear c c2 F8 Q0 Q1
      go_wp2_with (at_builtin; refine wpList_append_tolA rfl _ _ 42 rfl (p + 2) 59 i0 (.agg #[.int .i64 0, .int .i64 0, .int .i64 0, .int .i64 0]) 4 32 Tryd.underlying42 hi zi0 zi1 zi2 rfl (by decide) _ _ _ rfl (ownA OR3.out ((Below.refl _ _).alloc (Nat.le_refl _) _)) ⟨W1.heap.size, 0, none⟩ 1 1 [.int .i64 fa, .int .i64 a, .int .i64 fb, .int .i64 b] rfl rfl (four4A _ _ _ _ _ _) ONE.out H63.out.1 H63.out.2 (Nat.le_trans HS3.out ((Below.refl W1.heap.size W1).alloc (Nat.le_refl _) _).size) (by decide) ?_)
      intro v8 w8 h8 g8 o8
      obtain ⟨va8, vc8, rfl⟩ := ownShA h8
      obtain ⟨⟨z1, z2⟩, z3⟩ := F9.out _ w8 h8 g8
      have Z3 := hidA z3
      clear h8 g8 o8 F9 z3
      go_wp2_with fail
      go_end0
      exact Z3.out
    · have d2 : decide (fb < b) = false := decide_eq_false c2
      have Z3 := hidA (Q0.out v W1 (fun h => h.elim c c2) H1.out FR.out)
      clear c c2 F8 Q0 Q1
      go_wp2_with fail
      go_end0
      exact Z3.out
end Go.Proofs.YthglhcabdadlpaaDoor
