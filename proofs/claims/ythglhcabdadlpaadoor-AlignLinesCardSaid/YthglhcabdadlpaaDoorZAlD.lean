/- Layer 15, plain: where two rows part, sizes of greatest matchings, the least one of them. -/
/- Layer 15: rows of events in memory; together, Parting, above, Index. -/
/- Layer 15: the table of sizes: row, fill. -/
import Derived.KernelRfl
import Derived.Test.YthglhcabdadlpaaDoorRows
import Derived.WalkKit
import Derived.WalkMore
import Derived.WalkSpells
import Derived.WalkLawsBesides
import Derived.Deep.RegionHeld3
import Derived.BigQuiet
import Derived.Handy
import Derived.Deep.RegionWith
import Derived.Deep.DeepCutAuto
import Derived.Deep.QuietTactic
import Derived.BigRegion
import Derived.RegionTactic
import Derived.WalkSmall
import Derived.Deep.DeepAppendWide
import Derived.Deep.LoopGhost
import Derived.Below
import Derived.OneCell
import Derived.Deep.RegionLaw
import Derived.Deep.Upon
import Derived.Lib.MinMax
namespace Go.Proofs.YthglhcabdadlpaaDoor.Al
set_option linter.unusedVariables false
set_option linter.unusedSimpArgs false
/-- An event: its kind and its number. -/
abbrev Ev := Int × Int
/-- How many events two rows begin with alike. -/
def tog : List Ev → List Ev → Nat
  | x :: a, y :: b => if x = y then tog a b + 1 else 0
  | _, _ => 0
theorem tog_le : ∀ a b : List Ev, tog a b ≤ a.length ∧ tog a b ≤ b.length
  | [], b => by simp [tog]
  | _ :: _, [] => by simp [tog]
  | x :: a, y :: b => by
    have := tog_le a b
    simp only [tog]
    split <;> simp <;> omega
theorem tog_get : ∀ (a b : List Ev) (i : Nat), i < tog a b → a[i]? = b[i]?
  | [], b, i, h => by simp [tog] at h
  | _ :: _, [], i, h => by simp [tog] at h
  | x :: a, y :: b, i, h => by
    simp only [tog] at h
    split at h
    · rename_i e
      subst e
      cases i with
      | zero => rfl
      | succ i => simpa using tog_get a b i (by omega)
    · omega
theorem tog_ne : ∀ (a b : List Ev) (x y : Ev), a[tog a b]? = some x → b[tog a b]? = some y → x ≠ y
  | [], b, x, y, h, _ => by simp [tog] at h
  | _ :: _, [], x, y, _, h => by simp [tog] at h
  | p :: a, q :: b, x, y, h, k => by
    simp only [tog] at h k
    split at h
    · rename_i e
      rw [if_pos e] at k
      exact tog_ne a b x y (by simpa using h) (by simpa using k)
    · rename_i e
      rw [if_neg e] at k
      simp at h k
      subst h k
      exact e
/-- It is the one place of this kind. -/
theorem tog_is (a b : List Ev) (k : Nat) (ha : k ≤ a.length) (hb : k ≤ b.length) (h : ∀ i, i < k → a[i]? = b[i]?) (e : k = a.length ∨ k = b.length ∨ a[k]? ≠ b[k]?) : tog a b = k := by
  have h1 := tog_le a b
  rcases Nat.lt_trichotomy (tog a b) k with c | c | c
  · obtain ⟨x, hx⟩ : ∃ x, a[tog a b]? = some x := ⟨_, List.getElem?_eq_getElem (by omega)⟩
    have h2 := h _ c
    exact absurd rfl (tog_ne a b x x hx (by rw [← h2]; exact hx))
  · exact c
  · rcases e with e | e | e
    · omega
    · omega
    · exact absurd (tog_get a b k c) e
theorem tog_comm : ∀ a b : List Ev, tog a b = tog b a
  | [], [] => rfl
  | [], _ :: _ => rfl
  | _ :: _, [] => rfl
  | x :: a, y :: b => by
    simp only [tog]
    rw [tog_comm a b]
    by_cases e : x = y
    · rw [if_pos e, if_pos e.symm]
    · rw [if_neg e, if_neg (fun h => e h.symm)]
/-- The parting. -/
def part (a b : List Ev) : Int := if tog a b = a.length ∧ tog a b = b.length then -1 else (tog a b : Int)
/-- Sizes of greatest matchings. -/
def row (x : Ev) (f : List Ev → Nat) : List Ev → Nat
  | [] => 0
  | y :: b => if x = y then f b + 1 else max (f (y :: b)) (row x f b)
def lcs : List Ev → List Ev → Nat
  | [] => fun _ => 0
  | x :: a => row x (lcs a)
theorem lcs_nil (b : List Ev) : lcs [] b = 0 := rfl
theorem lcs_nilr : ∀ a : List Ev, lcs a [] = 0
  | [] => rfl
  | _ :: _ => rfl
theorem lcs_cons (x y : Ev) (a b : List Ev) : lcs (x :: a) (y :: b) = if x = y then lcs a b + 1 else max (lcs a (y :: b)) (lcs (x :: a) b) := rfl
theorem lcs_bd : ∀ a b : List Ev, lcs a b ≤ a.length ∧ lcs a b ≤ b.length
  | [], b => by simp [lcs_nil]
  | x :: a, [] => by simp [lcs_nilr]
  | x :: a, y :: b => by
    rw [lcs_cons]
    have h1 := lcs_bd a b
    have h2 := lcs_bd a (y :: b)
    have h3 := lcs_bd (x :: a) b
    simp only [List.length_cons] at h2 h3 ⊢
    split <;> omega
  termination_by a b => a.length + b.length
/-- A row shorter by one loses at most one. -/
theorem lcs_step : ∀ (a b : List Ev), (∀ x, lcs a b ≤ lcs (x :: a) b ∧ lcs (x :: a) b ≤ lcs a b + 1) ∧ (∀ y, lcs a b ≤ lcs a (y :: b) ∧ lcs a (y :: b) ≤ lcs a b + 1)
  | [], b => by
    refine ⟨fun x => ?_, fun y => by simp [lcs_nil]⟩
    induction b with
    | nil => simp [lcs_nil, lcs_nilr]
    | cons z b ih =>
      rw [lcs_cons, lcs_nil, lcs_nil]
      rw [lcs_nil] at ih
      split <;> omega
  | p :: a, b => by
    have hr : ∀ y, lcs (p :: a) b ≤ lcs (p :: a) (y :: b) ∧ lcs (p :: a) (y :: b) ≤ lcs (p :: a) b + 1 := fun y => by
      have h1 := (lcs_step a b).1 p
      have h2 := (lcs_step a b).2 y
      rw [lcs_cons]
      split <;> omega
    refine ⟨fun x => ?_, hr⟩
    cases b with
    | nil => simp [lcs_nilr]
    | cons z b =>
      have h1 := lcs_step (p :: a) b
      have h2 := h1.1 x
      have h3 := h1.2 z
      rw [lcs_cons x z]
      split <;> omega
  termination_by a b => a.length + b.length
theorem lcs_comm : ∀ a b : List Ev, lcs a b = lcs b a
  | [], b => by rw [lcs_nil, lcs_nilr]
  | x :: a, [] => by rw [lcs_nil, lcs_nilr]
  | x :: a, y :: b => by
    rw [lcs_cons, lcs_cons, lcs_comm a b, lcs_comm a (y :: b), lcs_comm (x :: a) b]
    by_cases e : x = y
    · rw [if_pos e, if_pos e.symm]
    · rw [if_neg e, if_neg (fun h => e h.symm), Nat.max_comm]
  termination_by a b => a.length + b.length
/-- What is dropped takes away. -/
theorem lcs_drop (a : List Ev) : ∀ (b : List Ev) (k : Nat), lcs a (b.drop k) ≤ lcs a b
  | b, 0 => Nat.le_refl _
  | [], k + 1 => by simp
  | y :: b, k + 1 => Nat.le_trans (lcs_drop a b k) ((lcs_step a b).2 y).1
/-- Two rows that begin alike. -/
theorem lcs_tog : ∀ a b : List Ev, lcs a b = tog a b + lcs (a.drop (tog a b)) (b.drop (tog a b))
  | [], b => by simp [tog]
  | _ :: _, [] => by simp [tog]
  | x :: a, y :: b => by
    simp only [tog]
    by_cases e : x = y
    · rw [lcs_cons, if_pos e, if_pos e]
      simp only [List.drop_succ_cons]
      have := lcs_tog a b
      omega
    · rw [if_neg e]
      simp
/-- The first index of an event. -/
def idx (e : Ev) : List Ev → Option Nat
  | [] => none
  | y :: b => if e = y then some 0 else (idx e b).map (· + 1)
theorem idx_lt {e : Ev} : ∀ {b : List Ev} {k : Nat}, idx e b = some k → k < b.length ∧ b[k]? = some e
  | [], k, h => by simp [idx] at h
  | y :: b, k, h => by
    simp only [idx] at h
    split at h
    · rename_i c
      cases h
      simp [c]
    · obtain ⟨j, hj, rfl⟩ := Option.map_eq_some_iff.1 h
      have := idx_lt hj
      exact ⟨by simp only [List.length_cons]; omega, by rw [List.getElem?_cons_succ]; exact this.2⟩
theorem idx_least {e : Ev} : ∀ {b : List Ev} {k : Nat}, idx e b = some k → ∀ i, i < k → b[i]? ≠ some e
  | [], k, h => by simp [idx] at h
  | y :: b, k, h => by
    simp only [idx] at h
    split at h
    · cases h
      intro i hi
      omega
    · rename_i c
      obtain ⟨j, hj, rfl⟩ := Option.map_eq_some_iff.1 h
      intro i hi
      cases i with
      | zero => simp; exact fun h => c h.symm
      | succ i => simpa using idx_least hj i (by omega)
theorem idx_none {e : Ev} : ∀ {b : List Ev}, idx e b = none → ∀ i : Nat, b[i]? ≠ some e
  | [], h => by simp
  | y :: b, h => by
    simp only [idx] at h
    split at h
    · cases h
    · rename_i c
      have h1 : idx e b = none := by simpa using h
      intro i
      cases i with
      | zero => simp; exact fun h => c h.symm
      | succ i => simpa using idx_none h1 i
/-- An event that is not in a row adds nothing; one that is adds by its first index or not at all. -/
theorem lcs_idx_none {e : Ev} (a : List Ev) : ∀ {b : List Ev}, idx e b = none → lcs (e :: a) b = lcs a b
  | [], _ => by rw [lcs_nilr, lcs_nilr]
  | y :: b, h => by
    simp only [idx] at h
    split at h
    · cases h
    · rename_i c
      have h1 := lcs_idx_none a (b := b) (by simpa using h)
      rw [lcs_cons, if_neg c, h1]
      have := ((lcs_step a b).2 y).1
      omega
theorem lcs_idx {e : Ev} (a : List Ev) : ∀ {b : List Ev} {k : Nat}, idx e b = some k → lcs (e :: a) b = max (lcs a b) (lcs a (b.drop (k + 1)) + 1)
  | [], k, h => by simp [idx] at h
  | y :: b, k, h => by
    simp only [idx] at h
    rw [lcs_cons]
    split at h
    · rename_i c
      cases h
      rw [if_pos c]
      have := ((lcs_step a b).2 y).2
      simp
      omega
    · rename_i c
      obtain ⟨j, hj, rfl⟩ := Option.map_eq_some_iff.1 h
      rw [if_neg c, lcs_idx a hj]
      have := ((lcs_step a b).2 y).1
      simp only [List.drop_succ_cons]
      omega
/-- The least one of the greatest matchings, from the indices i and j on. -/
def mt : Nat → Nat → List Ev → List Ev → List (Nat × Nat)
  | _, _, [], _ => []
  | i, j, e :: a, b => if lcs (e :: a) b = 0 then [] else
    match idx e b with
    | some k => if lcs a (b.drop (k + 1)) + 1 = lcs (e :: a) b then (i, j + k) :: mt (i + 1) (j + k + 1) a (b.drop (k + 1)) else mt (i + 1) j a b
    | none => mt (i + 1) j a b
theorem mt_len : ∀ (i j : Nat) (a b : List Ev), (mt i j a b).length = lcs a b
  | _, _, [], b => by simp [mt, lcs_nil]
  | i, j, e :: a, b => by
    simp only [mt]
    split
    · rename_i h; rw [h]; rfl
    · rename_i h
      split
      · rename_i k hk
        split
        · rename_i h2
          rw [← h2, List.length_cons, mt_len]
        · rename_i h2
          rw [mt_len]
          have := lcs_idx a hk
          omega
      · rename_i hk
        rw [mt_len, lcs_idx_none a hk]
/-- The matching, and whether it is cut off. -/
def cut (a b : List Ev) (limit : Int) : Bool := decide (max limit 0 < ((a.length - tog a b : Nat) : Int) * ((b.length - tog a b : Nat) : Int))
def same (k : Nat) : List (Nat × Nat) := (List.range k).map fun i => (i, i)
def mat (a b : List Ev) (limit : Int) : List (Nat × Nat) := same (tog a b) ++ if cut a b limit then [] else mt (tog a b) (tog a b) (a.drop (tog a b)) (b.drop (tog a b))
theorem same_len (k : Nat) : (same k).length = k := by simp [same]
theorem mat_len (a b : List Ev) (limit : Int) : (mat a b limit).length = if cut a b limit then tog a b else lcs a b := by
  unfold mat
  split
  · simp [same_len]
  · rw [List.length_append, same_len, mt_len, ← lcs_tog]
theorem cut_comm (a b : List Ev) (limit : Int) : cut a b limit = cut b a limit := by
  unfold cut
  rw [tog_comm b a, Int.mul_comm]
/-- Rows that are turned round. -/
theorem mat_turned (a b : List Ev) (limit : Int) : (mat a b limit).length = (mat b a limit).length := by
  rw [mat_len, mat_len, cut_comm b a, tog_comm b a, lcs_comm b a]
/-- An event more. -/
theorem lcs_nil_snoc (e : Ev) : ∀ b : List Ev, lcs [e] (b ++ [e]) = 1
  | [] => by simp [lcs_cons, lcs_nil]
  | y :: b => by
    rw [List.cons_append, lcs_cons, lcs_nil, lcs_nil, lcs_nil_snoc e b]
    split <;> rfl
theorem lcs_snoc (e : Ev) : ∀ a b : List Ev, lcs (a ++ [e]) (b ++ [e]) = lcs a b + 1
  | [], b => by rw [List.nil_append, lcs_nil_snoc, lcs_nil]
  | x :: a, [] => by rw [List.nil_append, lcs_comm, lcs_nil_snoc, lcs_nilr]
  | x :: a, y :: b => by
    rw [List.cons_append, List.cons_append, lcs_cons, lcs_cons]
    have h1 := lcs_snoc e a b
    have h2 := lcs_snoc e a (y :: b)
    have h3 := lcs_snoc e (x :: a) b
    rw [List.cons_append] at h2 h3
    split <;> omega
  termination_by a b => a.length + b.length
end Go.Proofs.YthglhcabdadlpaaDoor.Al

namespace Go.Proofs.YthglhcabdadlpaaDoor
open Go.RowKit
set_option linter.unusedVariables false
set_option linter.unusedSimpArgs false

theorem hidA {p : Prop} (h : p) : Hid p := h
/-- An event in memory. -/
def EvC (w : World) (g o : Nat) (e : Al.Ev) : Prop := w.cell? ⟨g, o, none⟩ = some (.int .i64 e.1) ∧ w.cell? ⟨g, o + 1, none⟩ = some (.int .i64 e.2)
/-- Events below the block B. -/
def EvR (B : Nat) (w : World) (a : Option Addr) (l : List Al.Ev) : Prop := 0 < l.length → ∃ g o, a = some ⟨g, o, none⟩ ∧ g < B ∧ ∀ j e, l[j]? = some e → EvC w g (o + j * 2) e
theorem EvR.later {B B' : Nat} {w w' : World} {a : Option Addr} {l : List Al.Ev} (h : EvR B w a l) (b : Below B' w w') (hb : B ≤ B') : EvR B w' a l := fun h0 => by
  obtain ⟨g, o, e, hg, hc⟩ := h h0
  exact ⟨g, o, e, hg, fun j x hx => ⟨(b.cell (p := ⟨g, _, none⟩) (Nat.lt_of_lt_of_le hg hb)).trans (hc j x hx).1, (b.cell (p := ⟨g, _, none⟩) (Nat.lt_of_lt_of_le hg hb)).trans (hc j x hx).2⟩⟩
theorem EvR.mono {B B' : Nat} {w : World} {a : Option Addr} {l : List Al.Ev} (h : EvR B w a l) (hb : B ≤ B') : EvR B' w a l := fun h0 => by
  obtain ⟨g, o, e, hg, hc⟩ := h h0
  exact ⟨g, o, e, Nat.lt_of_lt_of_le hg hb, hc⟩
theorem ev_ne {x y : Al.Ev} (h : x ≠ y) : (x.1 == y.1) = false ∨ (x.1 == y.1) = true ∧ (x.2 == y.2) = false := by
  by_cases c : x.1 = y.1
  · refine .inr ⟨by simp [c], ?_⟩
    have : x.2 ≠ y.2 := fun d => h (Prod.ext c d)
    simp [this]
  · exact .inl (by simp [c])
/-- How far two rows were gone through alike. -/
def TgI (l m : List Al.Ev) (k : Nat) : Prop := ∀ i, i < k → l[i]? = m[i]?
theorem TgI.step {l m : List Al.Ev} {k : Nat} (h : TgI l m k) {x : Al.Ev} (hx : l[k]? = some x) (hy : m[k]? = some x) : TgI l m (k + 1) := fun i hi => by
  rcases Nat.lt_or_ge i k with c | c
  · exact h i c
  · obtain rfl : i = k := by omega
    rw [hx, hy]
theorem below_drA {B : Nat} {w wr : World} (h : Below B w wr) (n : Nat) : Below B w (wr.drewN n) := h.trans ⟨rfl, rfl, rfl, Nat.le_refl _, fun _ _ => rfl⟩
set_option maxRecDepth 100000 in
set_option maxHeartbeats 8000000 in
theorem tog_any (w : World) (a b : Option Addr) (ca cb : Nat) (l m : List Al.Ev) {B : Nat} (ha : EvR B w a l) (hb : EvR B w b m) (hB : B ≤ w.heap.size) (hl : l.length ≤ 1000000000000000) (hm : m.length ≤ 1000000000000000) : Calls Tryd.prog 32 #[.slice a l.length ca, .slice b m.length cb] w fun e w' => e = .returned (.int .i64 (Al.tog l m : Nat)) ∧ Below w.heap.size w w' := by
  have HA : Hid (EvR B w a l) := ha
  have HB : Hid (EvR B w b m) := hb
  have HBB : Hid (B ≤ w.heap.size) := hB
  obtain ⟨n, hn⟩ : ∃ n, n = min l.length m.length := ⟨_, rfl⟩
  have hn1 : n ≤ l.length := by omega
  have hn2 : n ≤ m.length := by omega
  have hn3 : n = l.length ∨ n = m.length := by omega
  have hmin : min (l.length : Int) (m.length : Int) = (n : Int) := by omega
  have HT : ∀ k, TgI l m k → k ≤ n → (k = n ∨ l[k]? ≠ m[k]?) → Al.tog l m = k := fun k h1 h2 h3 => Al.tog_is l m k (by omega) (by omega) h1 (h3.elim (fun h => hn3.elim (fun h4 => .inl (h.trans h4)) (fun h4 => .inr (.inl (h.trans h4)))) (fun h => .inr (.inr h)))
  have HTH : Hid (∀ k, TgI l m k → k ≤ n → (k = n ∨ l[k]? ≠ m[k]?) → Al.tog l m = k) := HT
  obtain ⟨T, hT⟩ : ∃ T, T = Al.tog l m := ⟨_, rfl⟩
  rw [← hT] at HTH HT ⊢
  obtain ⟨N1, h1⟩ : ∃ N1, N1 = l.length := ⟨_, rfl⟩
  obtain ⟨N2, h2⟩ : ∃ N2, N2 = m.length := ⟨_, rfl⟩
  have H1 : Hid (N1 = l.length) := h1
  have H2 : Hid (N2 = m.length) := h2
  rw [← h1] at hl hn1 hmin ⊢
  rw [← h2] at hm hn2 hmin ⊢
  clear ha hb hB hT HT hn hn3 h1 h2
  have HM : (Builtin.min_ #[3, 3] 3 #[.int .i64 (N1 : Int), .int .i64 (N2 : Int)]).run Tryd.prog w = .ok (.int .i64 (n : Int)) w := by rw [← hmin]; exact Lib.run_min_ints w _ _ .i64 .i64 _ _
  clear hmin
  go_enter Tryd.func32, Tryd.ntmps32
  go_wp2_with fail
  go_loopg [13] n (fun gk i wr => ∃ k : Nat, k + gk = n ∧ i = .int .i64 k ∧ Hid (Below w.heap.size w wr ∧ TgI l m k))
  case atStart => exact ⟨0, by omega, rfl, Below.refl _ _, fun i hi => absurd hi (Nat.not_lt_zero i)⟩
  case round =>
    obtain ⟨k, hk, rfl, BR⟩ := hrel
    rcases gk with _ | gk
    · obtain rfl : k = n := by omega
      have hki : ¬ (k : Int) < (k : Int) := by omega
      have dk : decide ((k : Int) < (k : Int)) = false := decide_eq_false hki
      have FIN : Hid (Ending.returned (.int .i64 (k : Nat)) = .returned (.int .i64 (T : Nat)) ∧ Below w.heap.size w wr) := ⟨by rw [HTH.out k BR.out.2 (Nat.le_refl _) (.inl rfl)], BR.out.1⟩
      go_wp2_with fail
      go_ret
      exact FIN.out
    · have hlt : k < n := by omega
      have hki : (k : Int) < (n : Int) := by omega
      have dk : decide ((k : Int) < (n : Int)) = true := decide_eq_true hki
      have dk1 : decide (k < N1) = true := decide_eq_true (by omega)
      have dk2 : decide (k < N2) = true := decide_eq_true (by omega)
      have hk1 : k < N1 := by omega
      have hk2 : k < N2 := by omega
      have hk3 : (k : Int) < (N1 : Int) := by omega
      have hk4 : (k : Int) < (N2 : Int) := by omega
      obtain ⟨x, hx⟩ : ∃ x, l[k]? = some x := ⟨_, List.getElem?_eq_getElem (by rw [← H1.out]; exact hk1)⟩
      obtain ⟨y, hy⟩ : ∃ y, m[k]? = some y := ⟨_, List.getElem?_eq_getElem (by rw [← H2.out]; exact hk2)⟩
      obtain ⟨ga, oa, rfl, hga, ca'⟩ := (HA.out.later BR.out.1 HBB.out) (by rw [← H1.out]; omega)
      obtain ⟨gb, ob, rfl, hgb, cb'⟩ := (HB.out.later BR.out.1 HBB.out) (by rw [← H2.out]; omega)
      have a0 := (ca' k x hx).1
      have a1 := (ca' k x hx).2
      have b0 := (cb' k y hy).1
      have b1 := (cb' k y hy).2
      clear ca' cb'
      have HX : Hid (l[k]? = some x) := hx
      have HY : Hid (m[k]? = some y) := hy
      clear hx hy
      by_cases hxy : x = y
      · subst hxy
        have STEP : Hid (TgI l m (k + 1)) := BR.out.2.step HX.out HY.out
        clear HX HY HTH
        generalize x.1 = x1 at a0 b0
        generalize x.2 = x2 at a1 b1
        have q1 : (x1 == x1) = true := beq_self_eq_true x1
        have q2 : (x2 == x2) = true := beq_self_eq_true x2
        go_upto_region 5 with fail
        go_quiet (fail)
        have BQ := below_drA BR.out.1 nq
        generalize wr.drewN nq = W5 at BQ ⊢
        have BH : Hid (Below w.heap.size w W5) := BQ
        clear BQ a0 a1 b0 b1
        go_wp2_with fail
        go_roundg gk
        case measure => omega
        case rel => exact ⟨k + 1, by omega, by go_num, BH.out, STEP.out⟩
      · have TT : Hid (T = k) := HTH.out k BR.out.2 (by omega) (.inr (by rw [HX.out, HY.out]; intro h; exact hxy (Option.some.inj h)))
        have q := ev_ne hxy
        clear HX HY HTH hxy
        generalize x.1 = x1 at a0 q
        generalize x.2 = x2 at a1 q
        generalize y.1 = y1 at b0 q
        generalize y.2 = y2 at b1 q
        have FIN : ∀ W5, Below w.heap.size w W5 → Hid (Ending.returned (.int .i64 (k : Nat)) = .returned (.int .i64 (T : Nat)) ∧ Below w.heap.size w W5) := fun W5 h => ⟨by rw [TT.out], h⟩
        rcases q with q1 | ⟨q1, q2⟩
        · go_upto_region 5 with fail
          go_quiet (fail)
          have BQ := below_drA BR.out.1 nq
          generalize wr.drewN nq = W5 at BQ ⊢
          have BH := FIN W5 BQ
          clear BQ a0 a1 b0 b1 FIN
          go_wp2_with fail
          go_ret
          exact BH.out
        · go_upto_region 5 with fail
          go_quiet (fail)
          have BQ := below_drA BR.out.1 nq
          generalize wr.drewN nq = W5 at BQ ⊢
          have BH := FIN W5 BQ
          clear BQ a0 a1 b0 b1 FIN
          go_wp2_with fail
          go_ret
          exact BH.out
end Go.Proofs.YthglhcabdadlpaaDoor

namespace Go.Proofs.YthglhcabdadlpaaDoor
open Go.RowKit
set_option linter.unusedVariables false
set_option linter.unusedSimpArgs false
set_option maxRecDepth 100000

/-- A table of numbers in the block g: rows of d numbers, up to the row n. -/
def TB (w : World) (g d n : Nat) (f : Nat → Nat → Nat) : Prop := g < w.heap.size ∧ ∀ i j, i ≤ n → j < d → w.cell? ⟨g, i * d + j, none⟩ = some (.int .i32 (f i j : Nat)) ∧ w.frozen? ⟨g, i * d + j, none⟩ = false
theorem TB.later {B g d n : Nat} {w w' : World} {f : Nat → Nat → Nat} (h : TB w g d n f) (b : Below B w w') (hg : g < B) : TB w' g d n f :=
  ⟨Nat.lt_of_lt_of_le h.1 b.size, fun i j hi hj => ⟨(b.cell (p := ⟨g, _, none⟩) hg).trans (h.2 i j hi hj).1, (b.frozen (p := ⟨g, _, none⟩) hg).trans (h.2 i j hi hj).2⟩⟩
theorem tb_one {d i j i' j' : Nat} (hj : j < d) (hj' : j' < d) (h : i * d + j = i' * d + j') : i = i' ∧ j = j' := by
  have h1 : (i * d + j) / d = i := by rw [Nat.mul_comm, Nat.mul_add_div (by omega), Nat.div_eq_of_lt hj]; omega
  have h2 : (i' * d + j') / d = i' := by rw [Nat.mul_comm, Nat.mul_add_div (by omega), Nat.div_eq_of_lt hj']; omega
  have e : i = i' := by rw [← h1, ← h2, h]
  subst e
  exact ⟨rfl, by omega⟩
theorem TB.set {w : World} {g d n i0 j0 v : Nat} {f : Nat → Nat → Nat} (h : TB w g d n f) (hi : i0 ≤ n) (hj : j0 < d) : TB (w.setCell ⟨g, i0 * d + j0, none⟩ (.int .i32 (v : Nat))) g d n (fun i j => if i = i0 ∧ j = j0 then v else f i j) := by
  refine ⟨by have := h.1; simpa using this, fun i j hi' hj' => ⟨?_, ?_⟩⟩
  · by_cases c : i = i0 ∧ j = j0
    · obtain ⟨rfl, rfl⟩ := c
      show _ = some (Value.int .i32 ((if i = i ∧ j = j then v else f i j : Nat) : Int))
      rw [if_pos ⟨rfl, rfl⟩]
      exact World.cell?_setCell_same _ _ _ (h.2 i j hi' hj').1
    · show _ = some (Value.int .i32 ((if i = i0 ∧ j = j0 then v else f i j : Nat) : Int))
      rw [if_neg c]
      rw [World.cell?_setCell_other]
      · exact (h.2 i j hi' hj').1
      · intro e
        have e2 : i0 * d + j0 = i * d + j := by
          have := congrArg Addr.off e
          exact this
        have := tb_one hj hj' e2
        exact c ⟨this.1.symm, this.2.symm⟩
  · rw [World.frozen?_setCell]
    exact (h.2 i j hi' hj').2
theorem below_set {B : Nat} {w w' : World} (h : Below B w w') {g o : Nat} (hg : B ≤ g) (v : Value) : Below B w (w'.setCell ⟨g, o, none⟩ v) := by
  refine ⟨h.os, h.tape, h.output, by have := h.size; simpa using this, fun k hk => ?_⟩
  rw [← h.block k hk]
  simp only [World.setCell, Array.getElem?_modify]
  rw [if_neg (by omega)]
def szV (g d N : Nat) : Value := .agg #[.int .i64 (d : Int), .slice (some ⟨g, 0, none⟩) N N]
set_option maxHeartbeats 2000000 in
theorem szRow (w : World) (g d N i : Nat) (hd : 0 < d) (hN : N ≤ 1000000) (hi : (i + 1) * d ≤ N) (x : Int) (hx : x = i) : Calls Tryd.prog 50 #[szV g d N, .int .i64 x] w fun e w' => e = .returned (.slice (some ⟨g, i * d, none⟩) d d) ∧ Below w.heap.size w w' := by
  subst hx
  obtain ⟨F, hF⟩ : ∃ F, F = i * d := ⟨_, rfl⟩
  obtain ⟨T, hT⟩ : ∃ T, T = (i + 1) * d := ⟨_, rfl⟩
  have hFT : T = F + d := by rw [hF, hT, Nat.add_mul, Nat.one_mul]
  have hi1 : i ≤ T := by rw [hT]; exact Nat.le_trans (Nat.le_succ i) (Nat.le_mul_of_pos_right _ hd)
  rw [← hT] at hi
  have e1 : wrap64 ((i : Int) * (d : Int)) = (F : Int) := by rw [hF]; unfold wrap64; have : ((i * d : Nat) : Int) = (i : Int) * (d : Int) := by simp
                                                             omega
  have e3 : wrap64 ((i : Int) + 1) = (i : Int) + 1 := by unfold wrap64; omega
  have e2 : wrap64 (((i : Int) + 1) * (d : Int)) = (T : Int) := by rw [hT]; unfold wrap64; have : (((i + 1) * d : Nat) : Int) = ((i : Int) + 1) * (d : Int) := by simp
                                                                   omega
  rw [← hF]
  obtain ⟨W0, hW0⟩ : ∃ W0, W0 = w.alloc (.cells #[.int .i64 (d : Int), .slice (some ⟨g, 0, none⟩) N N] 86) := ⟨_, rfl⟩
  obtain ⟨bx, hbx⟩ : ∃ bx, bx = w.heap.size := ⟨_, rfl⟩
  have B0 : Hid (Below w.heap.size w W0) := by rw [hW0]; exact (Below.refl _ _).alloc (Nat.le_refl _) _
  have c0 : W0.cell? ⟨bx, 0, none⟩ = some (.int .i64 (d : Int)) := by rw [hW0, hbx]; simp
  have c1 : W0.cell? ⟨bx, 1, none⟩ = some (.slice (some ⟨g, 0, none⟩) N N) := by rw [hW0, hbx]; simp
  have h1 : (F : Int) ≤ (T : Int) := by omega
  have h2 : (T : Int) ≤ (N : Int) := by omega
  have h3 : (0 : Int) ≤ (F : Int) := by omega
  have h4 : F ≤ T := by omega
  have h5 : T ≤ N := by omega
  have h6 : T - F = d := by omega
  have h7 : ¬ d = 0 := by omega
  have h8 : (d == 0) = false := by simp; omega
  have h9 : ((T : Int) - (F : Int)).toNat = d := by omega
  clear hF hT hFT hi1 hi hN
  unfold szV
  go_enter Tryd.func50, Tryd.ntmps50
  go_upto_region 1 with fail
  rw [← hW0, ← hbx]
  clear hW0 hbx
  go_quiet (fail)
  have BQ := below_drA B0.out nq
  have k0 : (W0.drewN nq).cell? ⟨bx, 0, none⟩ = some (.int .i64 (d : Int)) := c0
  have k1 : (W0.drewN nq).cell? ⟨bx, 1, none⟩ = some (.slice (some ⟨g, 0, none⟩) N N) := c1
  generalize W0.drewN nq = W5 at BQ k0 k1 ⊢
  have BH := hidA BQ
  clear BQ c0 c1
  go_wp2_with fail
  go_ret
  exact ⟨by simp, BH.out⟩
end Go.Proofs.YthglhcabdadlpaaDoor
