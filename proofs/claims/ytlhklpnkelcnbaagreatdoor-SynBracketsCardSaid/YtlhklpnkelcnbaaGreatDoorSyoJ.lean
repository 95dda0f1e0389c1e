/- SynDeep's texts: what is read and printed of each, reckoned by the kernel. -/
import Derived.Test.YtlhklpnkelcnbaaGreatDoorLexK
import Derived.Test.YtlhklpnkelcnbaaGreatDoorSynQ
namespace Go.Proofs.YtlhklpnkelcnbaaGreatDoor
open Go.RowKit

def opn (how : Nat) : List UInt8 := [[40, 32], [45, 32], [33, 32], [97, 32, 91, 32], [49, 32, 43, 32, 40, 32]].getD how []
def cls (how : Nat) : List UInt8 := [[32, 41], [], [], [32, 93], [32, 41]].getD how []
def sN (how : Nat) : Nat → List UInt8
  | 0 => [48]
  | n + 1 => opn how ++ sN how n ++ cls how
def chkW (how n : Nat) : Option (List (List UInt8) × Nat) → Bool
  | some (ws, dp) => decide (dp ≤ 60) && decide (ws.length ≤ 1000000) && decide ((Lib.join ws [32]).length ≤ 100000000) && (if how = 0 then decide (Lib.join ws [32] = [48]) else if how = 4 then decide (0 < (Lib.join ws [32]).length) else decide (Lib.join ws [32] = sN how n))
  | none => false
def chkB (how n : Nat) (R : List (Lx.Tk × Nat)) : Option Sx.Rs → Bool
  | some (.bad a er) => decide (60 ≤ n) && decide (a = 60 * ((opn how).length : Int)) && decide (er = 31)
  | some (.ok y k) => decide (n < 60) && decide (k < R.length) && decide (((R.map tkI).getD k tok0).1.kind = 0) && Sx.rx 200 y && chkW how n (Sx.wx 200 y 1)
  | none => false
/-- Scan of what is left, from a place on, c tokens being found. -/
def sgF : Nat → List UInt8 → Nat → Nat → Option (List (Lx.Tk × Nat))
  | 0, _, _, _ => none
  | f + 1, r, a, c =>
    match Lx.first (r.drop (Lx.blank false r)) with
    | none => none
    | some (t, n) => if c = 4000 then none else if t.kind = 0 then some [(t, a + Lx.blank false r)] else
      match sgF f ((r.drop (Lx.blank false r)).drop n) (a + Lx.blank false r + n) (c + 1) with
      | none => none
      | some R => some ((t, a + Lx.blank false r) :: R)
theorem scanF_sgF (l : List UInt8) : ∀ (f : Nat) (r : List UInt8) (a c : Nat) (R ts : List (Lx.Tk × Nat)), r = l.drop a → c = ts.length → sgF f r a c = some R → Lx.scanF l f a ts = (ts ++ R, 0, 0)
  | 0, _, _, _, _, _, _, _, h => by rw [sgF] at h; cases h
  | f + 1, r, a, c, R, ts, hr, hc, h => by
    subst hr
    subst hc
    rw [sgF] at h
    have e : l.drop (Lx.skip l a) = (l.drop a).drop (Lx.blank false (l.drop a)) := by unfold Lx.skip; rw [List.drop_drop]
    rw [Lx.scanF, e]
    cases hf : Lx.first ((l.drop a).drop (Lx.blank false (l.drop a))) with
    | none => rw [hf] at h; cases h
    | some x =>
      obtain ⟨t, n⟩ := x
      rw [hf] at h
      simp only at h ⊢
      by_cases c1 : ts.length = 4000
      · rw [if_pos c1] at h; cases h
      · rw [if_neg c1] at h ⊢
        by_cases c2 : t.kind = 0
        · rw [if_pos c2] at h ⊢
          cases h
          rfl
        · rw [if_neg c2] at h ⊢
          cases hg : sgF f (((l.drop a).drop (Lx.blank false (l.drop a))).drop n) (a + Lx.blank false (l.drop a) + n) (ts.length + 1) with
          | none => rw [hg] at h; cases h
          | some R' =>
            rw [hg] at h
            cases h
            have e2 := scanF_sgF l f _ (Lx.skip l a + n) (ts.length + 1) R' (ts ++ [(t, Lx.skip l a)]) (by unfold Lx.skip; rw [List.drop_drop, List.drop_drop, Nat.add_assoc]) (by simp) hg
            rw [e2, List.append_assoc]
            rfl
def chkR (how n : Nat) (s : List UInt8) : Option (List (Lx.Tk × Nat)) → Bool
  | some R => !R.isEmpty && decide (s.length ≤ 16384) && chkB how n R (Sx.bd (R.map tkI) 600 1 1 0)
  | none => false
def chk (how n : Nat) : Bool := chkR how n (sN how n) (sgF ((sN how n).length + 1) (sN how n) 0 0)
/-- What the statement needs to know of a text. -/
theorem chk_out {how n : Nat} (h : chk how n = true) : ∃ R, Lx.scan (sN how n) = (R, 0, 0) ∧ R ≠ [] ∧ (sN how n).length ≤ 16384 ∧
    ((60 ≤ n ∧ Sx.bd (R.map tkI) 600 1 1 0 = some (.bad (60 * ((opn how).length : Int)) 31)) ∨
     (n < 60 ∧ ∃ y k ws dp, Sx.bd (R.map tkI) 600 1 1 0 = some (.ok y k) ∧ k < R.length ∧ ((R.map tkI).getD k tok0).1.kind = 0 ∧ Sx.rx 200 y = true ∧ Sx.wx 200 y 1 = some (ws, dp) ∧ dp ≤ 60 ∧ ws.length ≤ 1000000 ∧ (Lib.join ws [32]).length ≤ 100000000 ∧
       (if how = 0 then Lib.join ws [32] = [48] else if how = 4 then 0 < (Lib.join ws [32]).length else Lib.join ws [32] = sN how n))) := by
  unfold chk at h
  cases hg : sgF ((sN how n).length + 1) (sN how n) 0 0 with
  | none => rw [hg] at h; cases h
  | some R =>
  rw [hg] at h
  unfold chkR at h
  simp only [Bool.and_eq_true, decide_eq_true_eq] at h
  obtain ⟨⟨h3, h4⟩, h5⟩ := h
  have hsc : Lx.scan (sN how n) = (R, 0, 0) := by
    unfold Lx.scan
    rw [if_neg (by omega)]
    exact scanF_sgF _ _ _ 0 0 R [] rfl rfl hg
  refine ⟨R, hsc, fun e => (by rw [e] at h3; cases h3), h4, ?_⟩
  generalize Sx.bd (R.map tkI) 600 1 1 0 = r at h5 ⊢
  match r, h5 with
  | some (.bad a er), h5 =>
    unfold chkB at h5
    simp only [Bool.and_eq_true, decide_eq_true_eq] at h5
    obtain ⟨⟨h6, rfl⟩, rfl⟩ := h5
    exact .inl ⟨h6, rfl⟩
  | some (.ok y k), h5 =>
    unfold chkB at h5
    simp only [Bool.and_eq_true, decide_eq_true_eq] at h5
    obtain ⟨⟨⟨⟨h6, h7⟩, h8⟩, h9⟩, h10⟩ := h5
    refine .inr ⟨h6, y, k, ?_⟩
    cases hw : Sx.wx 200 y 1 with
    | none => rw [hw] at h10; cases h10
    | some wd =>
      obtain ⟨ws, dp⟩ := wd
      rw [hw] at h10
      unfold chkW at h10
      simp only [Bool.and_eq_true, decide_eq_true_eq] at h10
      obtain ⟨⟨⟨q1, q2⟩, q3⟩, q4⟩ := h10
      refine ⟨ws, dp, rfl, h7, h8, h9, rfl, q1, q2, q3, ?_⟩
      by_cases e0 : how = 0
      · rw [if_pos e0] at q4 ⊢; simpa using q4
      · rw [if_neg e0] at q4 ⊢
        by_cases e4 : how = 4
        · rw [if_pos e4] at q4 ⊢; simpa using q4
        · rw [if_neg e4] at q4 ⊢; simpa using q4
  | none, h5 => cases h5
end Go.Proofs.YtlhklpnkelcnbaaGreatDoor
