/- Layer 13, plain: traces, and their records as bytes. -/
import Derived.Test.YtgonadilbjfpkaaTpPl
namespace Go.Proofs.Ytgonadilbjfpkaa.Tp
open Go.RowKit
set_option linter.unusedVariables false
structure Tk where
  kind : Int
  proc : Int
  mark : Int
  depth : Int
deriving DecidableEq
structure Ev where
  kind : Int
  n : Int
deriving DecidableEq
structure Tr where
  ticks : List Tk
  counts : List Int
  events : List Ev
def hasN (k : Int) : Bool := decide (k ≠ 3 ∧ k ≠ 5)
def bet (lo x hi : Int) : Bool := decide (lo ≤ x ∧ x ≤ hi)
def okT (t : Tk) : Bool := bet 1 t.kind 3 && (bet 0 t.proc 2147483647 && (bet 0 t.mark 2147483647 && bet 1 t.depth 2147483647))
def okE (e : Ev) : Bool := bet 1 e.kind 5 && (hasN e.kind || e.n == 0)
def okC (m : Int) : Int → List Int → Bool
  | _, [] => true
  | told, c :: cs => if c < told ∨ m < c then false else okC m c cs
def rightT (t : Tr) : Bool := decide (t.counts.length = t.ticks.length) && (okC t.events.length 0 t.counts && (t.ticks.all okT && t.events.all okE))
def evB (e : Ev) : List Int := (16 + e.kind) :: (if hasN e.kind then dg (zg e.n) else [])
def tkB (t : Tk) : List Int := t.kind :: (dg t.proc.toNat ++ (dg t.mark.toNat ++ dg t.depth.toNat))
def evs (l : List Ev) : List Int := l.flatMap evB
/-- The records: ticks, each behind the events that were ahead of it. -/
def recs (ev : List Ev) : List Tk → List Int → Nat → List Int
  | t :: ts, c :: cs, told => evs ((ev.drop told).take (c.toNat - told)) ++ (tkB t ++ recs ev ts cs c.toNat)
  | _, _, told => evs (ev.drop told)
def bodyT (t : Tr) : List Int := head 2 ++ (recs t.events t.ticks t.counts 0 ++ [0])
def wt (t : Tr) : List Int := bodyT t ++ sl4 (sum (bodyT t))
theorem evB_len (e : Ev) : (evB e).length ≤ 11 := by
  unfold evB
  split
  · have := dg_len (zg e.n); simp; omega
  · simp
theorem tkB_len (t : Tk) : (tkB t).length ≤ 31 := by
  have h1 := dg_len t.proc.toNat
  have h2 := dg_len t.mark.toNat
  have h3 := dg_len t.depth.toNat
  simp only [tkB, List.length_cons, List.length_append]
  omega
theorem evs_app (a b : List Ev) : evs (a ++ b) = evs a ++ evs b := List.flatMap_append
theorem evs_len (l : List Ev) : (evs l).length ≤ l.length * 11 := by
  induction l with
  | nil => simp [evs]
  | cons e l ih =>
    have := evB_len e
    simp only [evs, List.flatMap_cons, List.length_append, List.length_cons] at *
    omega
theorem recs_len (ev : List Ev) (ts : List Tk) (cs : List Int) (told : Nat) : (recs ev ts cs told).length ≤ ts.length * (31 + ev.length * 11) + ev.length * 11 := by
  induction ts generalizing cs told with
  | nil =>
    have h := evs_len (ev.drop told)
    have h2 : (ev.drop told).length ≤ ev.length := by rw [List.length_drop]; omega
    have : recs ev [] cs told = evs (ev.drop told) := by cases cs <;> rfl
    rw [this]
    simp only [List.length_nil, Nat.zero_mul, Nat.zero_add]
    omega
  | cons t ts ih =>
    cases cs with
    | nil =>
      have h := evs_len (ev.drop told)
      have h2 : (ev.drop told).length ≤ ev.length := by rw [List.length_drop]; omega
      show (evs (ev.drop told)).length ≤ _
      omega
    | cons c cs =>
      have h := evs_len ((ev.drop told).take (c.toNat - told))
      have h2 : ((ev.drop told).take (c.toNat - told)).length ≤ ev.length := by rw [List.length_take, List.length_drop]; omega
      have h3 := tkB_len t
      have h4 := ih cs c.toNat
      simp only [recs, List.length_append, List.length_cons, Nat.add_mul, Nat.one_mul]
      have h5 : ((ev.drop told).take (c.toNat - told)).length * 11 ≤ ev.length * 11 := Nat.mul_le_mul_right _ h2
      omega
theorem evB_byt (e : Ev) (h : okE e = true) (hr : -9223372036854775808 ≤ e.n ∧ e.n ≤ 9223372036854775807) : Byt (evB e) := by
  simp only [okE, bet, Bool.and_eq_true, decide_eq_true_eq] at h
  intro c hc
  simp only [evB, List.mem_cons] at hc
  rcases hc with rfl | hc
  · omega
  · split at hc
    · exact dg_byt _ (zg_lt _ hr.1 hr.2) c hc
    · cases hc
theorem tkB_byt (t : Tk) (h : okT t = true) : Byt (tkB t) := by
  simp only [okT, bet, Bool.and_eq_true, decide_eq_true_eq] at h
  intro c hc
  simp only [tkB, List.mem_cons, List.mem_append] at hc
  rcases hc with rfl | hc | hc | hc
  · omega
  · exact dg_byt _ (by omega) c hc
  · exact dg_byt _ (by omega) c hc
  · exact dg_byt _ (by omega) c hc
theorem evs_byt (l : List Ev) (h : ∀ e ∈ l, okE e = true ∧ -9223372036854775808 ≤ e.n ∧ e.n ≤ 9223372036854775807) : Byt (evs l) := by
  intro c hc
  obtain ⟨e, he, hc⟩ := List.mem_flatMap.1 hc
  exact evB_byt e (h e he).1 (h e he).2 c hc
theorem recs_byt (ev : List Ev) (h : ∀ e ∈ ev, okE e = true ∧ -9223372036854775808 ≤ e.n ∧ e.n ≤ 9223372036854775807) (ts : List Tk) (ht : ∀ t ∈ ts, okT t = true) (cs : List Int) (told : Nat) : Byt (recs ev ts cs told) := by
  induction ts generalizing cs told with
  | nil =>
    have : recs ev [] cs told = evs (ev.drop told) := by cases cs <;> rfl
    rw [this]
    exact evs_byt _ (fun e he => h e (List.mem_of_mem_drop he))
  | cons t ts ih =>
    cases cs with
    | nil => exact evs_byt _ (fun e he => h e (List.mem_of_mem_drop he))
    | cons c cs =>
      exact (evs_byt _ (fun e he => h e (List.mem_of_mem_drop (List.mem_of_mem_take he)))).app ((tkB_byt t (ht t (by simp))).app (ih (fun x hx => ht x (by simp [hx])) cs c.toNat))
end Go.Proofs.Ytgonadilbjfpkaa.Tp
