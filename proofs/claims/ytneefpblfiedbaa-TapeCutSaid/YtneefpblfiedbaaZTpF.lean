/- Layer 13, plain: the bytes of numbers, sums of bytes, tapes of inputs. No Go in sight. -/
/- Layer 13, plain: traces, and their records as bytes. -/
/- Layer 13, plain: traces' tapes, read. -/
/- Layer 13: bytes and numbers in memory; bits. -/
/- Layer 13: the program's numbers and their bytes. -/
/- Layer 13: digits: the count that stands at a place. -/
/- Layer 13: ReadNum and Sum of the program. -/
/- Layer 13: the program's bytes of numbers, put behind others. -/
import Derived.RowKit
import Derived.Laws.Bits64
import Derived.Test.YtneefpblfiedbaaRows
import Derived.WalkKit
import Derived.WalkMore
import Derived.WalkSpells
import Derived.WalkLawsBesides
import Derived.Deep.RegionHeld3
import Derived.BigQuiet
import Derived.Handy
import Derived.Deep.RegionWith
import Derived.Deep.DeepCutAuto
import Derived.Deep.QuietTactic
import Derived.BigRegion
import Derived.RegionTactic
import Derived.WalkSmall
import Derived.Deep.DeepAppendWide
import Derived.Deep.LoopGhost
import Derived.Below
import Derived.OneCell
import Derived.Deep.RegionLaw
import Derived.Deep.Upon
namespace Go.Proofs.Ytneefpblfiedbaa.Tp
open Go.RowKit
set_option linter.unusedVariables false

/-- The bytes of a count. -/
def dgF : Nat → Nat → List Int
  | 0, z => [(z : Int)]
  | k + 1, z => if z < 128 then [(z : Int)] else ((z % 128 + 128 : Nat) : Int) :: dgF k (z / 128)
def dg (z : Nat) : List Int := dgF 9 z
/-- What is written of a number; the number of what was written. -/
def zg (n : Int) : Nat := if n < 0 then (-2 * n - 1).toNat else (2 * n).toNat
def zag (z : Nat) : Int := if z % 2 = 0 then ((z / 2 : Nat) : Int) else -((z / 2 : Nat) : Int) - 1
/-- Reading a count: from the byte of number i on, z being what the bytes ahead say. -/
def rdF (i z : Nat) : List Int → (Nat × Nat) ⊕ Int
  | [] => .inr 112
  | c :: l => if (i = 9 ∧ 1 < c) ∨ (0 < i ∧ c = 0) then .inr 110 else if c < 128 then .inl (z + c.toNat * 128 ^ i, i + 1) else rdF (i + 1) (z + (c.toNat - 128) * 128 ^ i) l
/-- Bytes. -/
def Byt (l : List Int) : Prop := ∀ c ∈ l, 0 ≤ c ∧ c ≤ 255

theorem zag_zg (n : Int) : zag (zg n) = n := by unfold zag zg; split <;> split <;> omega
theorem zg_lt (n : Int) (h0 : -9223372036854775808 ≤ n) (h1 : n ≤ 9223372036854775807) : zg n < 18446744073709551616 := by unfold zg; split <;> omega
theorem zg_zag (z : Nat) : zg (zag z) = z := by unfold zag zg; split <;> split <;> omega
theorem zag_bd (z : Nat) (h : z < 18446744073709551616) : -9223372036854775808 ≤ zag z ∧ zag z ≤ 9223372036854775807 := by unfold zag; split <;> omega
theorem dgF_pos (k z : Nat) : 0 < (dgF k z).length := by
  cases k with
  | zero => simp [dgF]
  | succ k => unfold dgF; split <;> simp
theorem dgF_len (k z : Nat) : (dgF k z).length ≤ k + 1 := by
  induction k generalizing z with
  | zero => simp [dgF]
  | succ k ih => unfold dgF; split <;> simp; exact ih _
theorem dg_len (z : Nat) : (dg z).length ≤ 10 := dgF_len 9 z
theorem dgF_byt (k z : Nat) (h : z < 128 ^ (k + 1)) : Byt (dgF k z) := by
  induction k generalizing z with
  | zero => intro c hc; simp [dgF] at hc; subst hc; omega
  | succ k ih =>
    unfold dgF
    split
    · intro c hc; simp at hc; subst hc; omega
    · intro c hc
      simp only [List.mem_cons] at hc
      rcases hc with rfl | hc
      · omega
      · exact ih (z / 128) (by rw [Nat.div_lt_iff_lt_mul (by decide)]; rwa [← Nat.pow_succ]) c hc
theorem dg_byt (z : Nat) (h : z < 18446744073709551616) : Byt (dg z) := dgF_byt 9 z (Nat.lt_of_lt_of_le h (by decide))
theorem Byt.app {a b : List Int} (ha : Byt a) (hb : Byt b) : Byt (a ++ b) := fun c hc => by
  rcases List.mem_append.1 hc with h | h
  · exact ha c h
  · exact hb c h
theorem Byt.take {a : List Int} (ha : Byt a) (n : Nat) : Byt (a.take n) := fun c hc => ha c (List.mem_of_mem_take hc)
theorem Byt.drop {a : List Int} (ha : Byt a) (n : Nat) : Byt (a.drop n) := fun c hc => ha c (List.mem_of_mem_drop hc)
theorem Byt.nil : Byt [] := fun c hc => by cases hc

/-- What is written is read. -/
theorem rdF_dgF (k i a z : Nat) (r : List Int) (hk : i + k = 9) (hz : z * 128 ^ i < 18446744073709551616) (hp : 0 < i → 0 < z) :
    rdF i a (dgF k z ++ r) = .inl (a + z * 128 ^ i, i + (dgF k z).length) := by
  induction k generalizing i a z with
  | zero =>
    have hi : i = 9 := by omega
    subst hi
    have h1 : z ≤ 1 := by omega
    have h0 := hp (by decide)
    have : z = 1 := by omega
    subst this
    simp [dgF, rdF]
  | succ k ih =>
    have hi : i ≤ 8 := by omega
    unfold dgF
    split
    · rename_i hlt
      rw [List.singleton_append, rdF, if_neg (by omega), if_pos (by omega)]
      simp
    · rename_i hge
      rw [List.cons_append, rdF, if_neg (by omega), if_neg (by omega)]
      have hd : z / 128 * 128 ^ (i + 1) ≤ z * 128 ^ i := by
        rw [Nat.pow_succ, Nat.mul_comm (128 ^ i) 128, ← Nat.mul_assoc]
        exact Nat.mul_le_mul_right _ (Nat.div_mul_le_self z 128)
      rw [ih (i + 1) _ (z / 128) (by omega) (by omega) (fun _ => by omega)]
      have e : (((z % 128 + 128 : Nat) : Int).toNat - 128) = z % 128 := by omega
      rw [e]
      have e2 : a + z % 128 * 128 ^ i + z / 128 * 128 ^ (i + 1) = a + z * 128 ^ i := by
        rw [Nat.pow_succ, Nat.mul_comm (128 ^ i) 128, ← Nat.mul_assoc, Nat.add_assoc, ← Nat.add_mul, Nat.mod_add_div' z 128]
      rw [e2]
      simp
      omega
theorem rd_dg (z : Nat) (r : List Int) (hz : z < 18446744073709551616) : rdF 0 0 (dg z ++ r) = .inl (z, (dg z).length) := by
  have := rdF_dgF 9 0 0 z r rfl (by simpa using hz) (fun h => absurd h (by decide))
  simpa [dg] using this
/-- What is read was written so. -/
theorem rdF_back (l : List Int) (i a z u : Nat) (hb : Byt l) (hi : i ≤ 9) (h : rdF i a l = .inl (z, u)) :
    ∃ y, z = a + y * 128 ^ i ∧ i < u ∧ u - i ≤ l.length ∧ dgF (9 - i) y = l.take (u - i) ∧ y * 128 ^ i < 18446744073709551616 ∧ (0 < i → 0 < y) := by
  induction l generalizing i a with
  | nil => simp [rdF] at h
  | cons c l ih =>
    have hc := hb c (by simp)
    rw [rdF] at h
    split at h
    · cases h
    · rename_i hn
      split at h
      · rename_i hlt
        simp only [Sum.inl.injEq, Prod.mk.injEq] at h
        obtain ⟨rfl, rfl⟩ := h
        refine ⟨c.toNat, rfl, by omega, by simp, ?_, ?_, fun h0 => by omega⟩
        · have e : i + 1 - i = 1 := by omega
          rw [e]
          have ec : ((c.toNat : Nat) : Int) = c := by omega
          cases hk : 9 - i with
          | zero => simp [dgF, ec]
          | succ k => simp [dgF, ec]; omega
        · by_cases h9 : i = 9
          · subst h9
            have : c.toNat ≤ 1 := by omega
            exact Nat.lt_of_le_of_lt (Nat.mul_le_mul_right _ this) (by decide)
          · have h1 : 128 ^ i ≤ 128 ^ 8 := Nat.pow_le_pow_right (by decide) (by omega)
            have h2 : c.toNat ≤ 127 := by omega
            exact Nat.lt_of_le_of_lt (Nat.mul_le_mul h2 h1) (by decide)
      · rename_i hge
        have h9 : i ≠ 9 := by omega
        obtain ⟨y, rfl, hu, hl, he, hy, hp⟩ := ih (i + 1) _ (fun x hx => hb x (by simp [hx])) (by omega) h
        have hy0 := hp (by omega)
        have e0 : (c.toNat - 128) + y * 128 = c.toNat - 128 + y * 128 := rfl
        refine ⟨(c.toNat - 128) + y * 128, ?_, by omega, by simp; omega, ?_, ?_, fun _ => by omega⟩
        · rw [Nat.pow_succ, Nat.mul_comm (128 ^ i) 128, ← Nat.mul_assoc, Nat.add_assoc, ← Nat.add_mul]
        · have e : u - i = (u - (i + 1)) + 1 := by omega
          have ek : 9 - i = (9 - (i + 1)) + 1 := by omega
          rw [e, ek, dgF, if_neg (by omega), List.take_succ_cons]
          have e1 : (c.toNat - 128 + y * 128) / 128 = y := by omega
          rw [e1, he]
          congr 1
          omega
        · rw [Nat.pow_succ, Nat.mul_comm (128 ^ i) 128, ← Nat.mul_assoc] at hy
          have h1 : 128 ^ i ≤ 128 ^ 8 := Nat.pow_le_pow_right (by decide) (by omega)
          have hcl : c.toNat - 128 ≤ 127 := by omega
          have hpos : 0 < 128 ^ i := Nat.pow_pos (by decide)
          rw [Nat.add_mul]
          -- y * 128 * 128^i is a multiple of 128^(i+1), below 2^64
          have hdvd : 18446744073709551616 = 128 ^ i * 128 * (18446744073709551616 / (128 ^ (i + 1))) ∨ i = 9 := by
            have : i = 0 ∨ i = 1 ∨ i = 2 ∨ i = 3 ∨ i = 4 ∨ i = 5 ∨ i = 6 ∨ i = 7 ∨ i = 8 := by omega
            rcases this with rfl | rfl | rfl | rfl | rfl | rfl | rfl | rfl | rfl <;> exact .inl (by decide)
          rcases hdvd with hd | hd
          · generalize 18446744073709551616 / (128 ^ (i + 1)) = q at hd
            have hyq : y < q := by
              rw [hd, Nat.mul_comm (y * 128), ← Nat.mul_comm 128 (128 ^ i), Nat.mul_comm 128 (128 ^ i)] at hy
              have : 128 ^ i * 128 * y < 128 ^ i * 128 * q := by
                rw [Nat.mul_assoc (128 ^ i) 128 y, Nat.mul_comm 128 y]; exact hy
              exact Nat.lt_of_mul_lt_mul_left this
            have h2 : (y + 1) * (128 ^ i * 128) ≤ q * (128 ^ i * 128) := Nat.mul_le_mul_right _ hyq
            rw [hd, Nat.mul_comm (128 ^ i * 128) q]
            have h3 : (c.toNat - 128) * 128 ^ i ≤ 127 * 128 ^ i := Nat.mul_le_mul_right _ hcl
            have h4 : y * 128 * 128 ^ i = y * (128 ^ i * 128) := by rw [Nat.mul_assoc, Nat.mul_comm 128]
            have h5 : (y + 1) * (128 ^ i * 128) = y * (128 ^ i * 128) + 128 ^ i * 128 := by rw [Nat.add_mul, Nat.one_mul]
            omega
          · omega
theorem rd_back (l : List Int) (z u : Nat) (hb : Byt l) (h : rdF 0 0 l = .inl (z, u)) : 0 < u ∧ u ≤ l.length ∧ dg z = l.take u ∧ z < 18446744073709551616 := by
  obtain ⟨y, rfl, hu, hl, he, hy, _⟩ := rdF_back l 0 0 z u hb (by decide) h
  simp only [Nat.pow_zero, Nat.mul_one, Nat.zero_add, Nat.sub_zero] at *
  exact ⟨hu, hl, he, hy⟩
theorem rdF_err (l : List Int) (i a : Nat) (e : Int) (h : rdF i a l = .inr e) : e = 110 ∨ e = 112 := by
  induction l generalizing i a with
  | nil => simp [rdF] at h; exact .inr h.symm
  | cons c l ih =>
    rw [rdF] at h
    split at h
    · simp at h; exact .inl h.symm
    · split at h
      · cases h
      · exact ih _ _ h

/-- The sum of bytes. -/
def smS (p : Int × Int) (c : Int) : Int × Int := ((p.1 + c) % 65521, (p.2 + (p.1 + c) % 65521) % 65521)
def sm (l : List Int) : Int × Int := l.foldl smS (1, 0)
def sum (l : List Int) : Int := (sm l).2 * 65536 + (sm l).1
def sl4 (s : Int) : List Int := [s / 16777216, s / 65536 % 256, s / 256 % 256, s % 256]
theorem sm_app (l : List Int) (c : Int) : sm (l ++ [c]) = smS (sm l) c := by unfold sm; rw [List.foldl_append]; rfl
theorem sm_bd (l : List Int) : 0 ≤ (sm l).1 ∧ (sm l).1 < 65521 ∧ 0 ≤ (sm l).2 ∧ (sm l).2 < 65521 := by
  have : ∀ (l : List Int) (p : Int × Int), (0 ≤ p.1 ∧ p.1 < 65521 ∧ 0 ≤ p.2 ∧ p.2 < 65521) → (0 ≤ (l.foldl smS p).1 ∧ (l.foldl smS p).1 < 65521 ∧ 0 ≤ (l.foldl smS p).2 ∧ (l.foldl smS p).2 < 65521) := by
    intro l
    induction l with
    | nil => intro p h; exact h
    | cons c l ih =>
      intro p h
      rw [List.foldl_cons]
      refine ih _ ?_
      unfold smS
      refine ⟨?_, ?_, ?_, ?_⟩ <;> dsimp only <;> omega
  exact this l (1, 0) (by decide)
theorem sum_bd (l : List Int) : 0 ≤ sum l ∧ sum l < 4294967296 := by have := sm_bd l; unfold sum; omega
theorem sm_fst (l : List Int) : (sm l).1 = (1 + l.sum) % 65521 := by
  have : ∀ (l : List Int) (p : Int × Int), (l.foldl smS p).1 % 65521 = (p.1 + l.sum) % 65521 := by
    intro l
    induction l with
    | nil => intro p; simp
    | cons c l ih =>
      intro p
      rw [List.foldl_cons, ih, List.sum_cons]
      show ((p.1 + c) % 65521 + l.sum) % 65521 = _
      omega
  have h := this l (1, 0)
  have b := sm_bd l
  have e : (sm l).1 % 65521 = (sm l).1 := Int.emod_eq_of_lt b.1 b.2.1
  rw [← e]
  exact h
theorem sl4_byt (l : List Int) : Byt (sl4 (sum l)) := by
  have := sum_bd l
  generalize sum l = s at *
  intro c hc
  simp only [sl4, List.mem_cons, List.not_mem_nil, or_false] at hc
  rcases hc with rfl | rfl | rfl | rfl <;> omega
theorem sl4_inj (s t : Int) (hs : 0 ≤ s ∧ s < 4294967296) (ht : 0 ≤ t ∧ t < 4294967296) (h : sl4 s = sl4 t) : s = t := by
  simp only [sl4, List.cons.injEq, and_true] at h
  omega

/-- What is read, and the place behind it; or what is wrong, and where. -/
inductive Res (α : Type) where
  | good (a : α) (k : Nat)
  | bad (k : Nat) (e : Int)
def rdAt (b : List Int) (k : Nat) : Res Nat := match rdF 0 0 (b.drop k) with
  | .inl (z, u) => .good z (k + u)
  | .inr e => .bad k e
/-- The first bytes. -/
def hd (i : Nat) : List Int → List Int → Option (Nat × Int)
  | [], _ => none
  | _ :: _, [] => some (i, 112)
  | x :: xs, c :: cs => if c = x then hd (i + 1) xs cs else some (i, 110)
def head (k : Int) : List Int := [80, 76, 88, 49, k]
/-- The last bytes, from the place k on. -/
def ends (b : List Int) (k : Nat) : Option (Nat × Int) :=
  if b.length < k + 4 then some (k, 112) else if (b.drop k).take 4 ≠ sl4 (sum (b.take k)) then some (k, 111) else if k + 4 < b.length then some (k + 4, 110) else none
def nums (b : List Int) : Nat → Nat → List Int → Res (List Int)
  | 0, k, acc => .good acc k
  | n + 1, k, acc => match rdAt b k with
    | .good z j => nums b n j (acc ++ [zag z])
    | .bad j e => .bad j e
/-- An input's tape, written and read. -/
def body (l : List Int) : List Int := head 1 ++ dg l.length ++ l.flatMap (fun n => dg (zg n))
def wi (l : List Int) : List Int := body l ++ sl4 (sum (body l))
def ri (b : List Int) : Res (List Int) :=
  if 4194304 < b.length then .bad 0 2 else match hd 0 (head 1) b with
  | some (i, e) => .bad i e
  | none => match rdAt b 5 with
    | .bad k e => .bad k e
    | .good n k => if 1000 < n then .bad 5 2 else match nums b n k [] with
      | .bad j e => .bad j e
      | .good l j => match ends b j with
        | some (i, e) => .bad i e
        | none => .good l 0
end Go.Proofs.Ytneefpblfiedbaa.Tp

namespace Go.Proofs.Ytneefpblfiedbaa.Tp
open Go.RowKit
set_option linter.unusedVariables false
structure Tk where
  kind : Int
  proc : Int
  mark : Int
  depth : Int
deriving DecidableEq
structure Ev where
  kind : Int
  n : Int
deriving DecidableEq
structure Tr where
  ticks : List Tk
  counts : List Int
  events : List Ev
def hasN (k : Int) : Bool := decide (k ≠ 3 ∧ k ≠ 5)
def bet (lo x hi : Int) : Bool := decide (lo ≤ x ∧ x ≤ hi)
def okT (t : Tk) : Bool := bet 1 t.kind 3 && (bet 0 t.proc 2147483647 && (bet 0 t.mark 2147483647 && bet 1 t.depth 2147483647))
def okE (e : Ev) : Bool := bet 1 e.kind 5 && (hasN e.kind || e.n == 0)
def okC (m : Int) : Int → List Int → Bool
  | _, [] => true
  | told, c :: cs => if c < told ∨ m < c then false else okC m c cs
def rightT (t : Tr) : Bool := decide (t.counts.length = t.ticks.length) && (okC t.events.length 0 t.counts && (t.ticks.all okT && t.events.all okE))
def evB (e : Ev) : List Int := (16 + e.kind) :: (if hasN e.kind then dg (zg e.n) else [])
def tkB (t : Tk) : List Int := t.kind :: (dg t.proc.toNat ++ (dg t.mark.toNat ++ dg t.depth.toNat))
def evs (l : List Ev) : List Int := l.flatMap evB
/-- The records: ticks, each behind the events that were ahead of it. -/
def recs (ev : List Ev) : List Tk → List Int → Nat → List Int
  | t :: ts, c :: cs, told => evs ((ev.drop told).take (c.toNat - told)) ++ (tkB t ++ recs ev ts cs c.toNat)
  | _, _, told => evs (ev.drop told)
def bodyT (t : Tr) : List Int := head 2 ++ (recs t.events t.ticks t.counts 0 ++ [0])
def wt (t : Tr) : List Int := bodyT t ++ sl4 (sum (bodyT t))
theorem evB_len (e : Ev) : (evB e).length ≤ 11 := by
  unfold evB
  split
  · have := dg_len (zg e.n); simp; omega
  · simp
theorem tkB_len (t : Tk) : (tkB t).length ≤ 31 := by
  have h1 := dg_len t.proc.toNat
  have h2 := dg_len t.mark.toNat
  have h3 := dg_len t.depth.toNat
  simp only [tkB, List.length_cons, List.length_append]
  omega
theorem evs_app (a b : List Ev) : evs (a ++ b) = evs a ++ evs b := List.flatMap_append
theorem evs_len (l : List Ev) : (evs l).length ≤ l.length * 11 := by
  induction l with
  | nil => simp [evs]
  | cons e l ih =>
    have := evB_len e
    simp only [evs, List.flatMap_cons, List.length_append, List.length_cons] at *
    omega
theorem recs_len (ev : List Ev) (ts : List Tk) (cs : List Int) (told : Nat) : (recs ev ts cs told).length ≤ ts.length * (31 + ev.length * 11) + ev.length * 11 := by
  induction ts generalizing cs told with
  | nil =>
    have h := evs_len (ev.drop told)
    have h2 : (ev.drop told).length ≤ ev.length := by rw [List.length_drop]; omega
    have : recs ev [] cs told = evs (ev.drop told) := by cases cs <;> rfl
    rw [this]
    simp only [List.length_nil, Nat.zero_mul, Nat.zero_add]
    omega
  | cons t ts ih =>
    cases cs with
    | nil =>
      have h := evs_len (ev.drop told)
      have h2 : (ev.drop told).length ≤ ev.length := by rw [List.length_drop]; omega
      show (evs (ev.drop told)).length ≤ _
      omega
    | cons c cs =>
      have h := evs_len ((ev.drop told).take (c.toNat - told))
      have h2 : ((ev.drop told).take (c.toNat - told)).length ≤ ev.length := by rw [List.length_take, List.length_drop]; omega
      have h3 := tkB_len t
      have h4 := ih cs c.toNat
      simp only [recs, List.length_append, List.length_cons, Nat.add_mul, Nat.one_mul]
      have h5 : ((ev.drop told).take (c.toNat - told)).length * 11 ≤ ev.length * 11 := Nat.mul_le_mul_right _ h2
      omega
theorem evB_byt (e : Ev) (h : okE e = true) (hr : -9223372036854775808 ≤ e.n ∧ e.n ≤ 9223372036854775807) : Byt (evB e) := by
  simp only [okE, bet, Bool.and_eq_true, decide_eq_true_eq] at h
  intro c hc
  simp only [evB, List.mem_cons] at hc
  rcases hc with rfl | hc
  · omega
  · split at hc
    · exact dg_byt _ (zg_lt _ hr.1 hr.2) c hc
    · cases hc
theorem tkB_byt (t : Tk) (h : okT t = true) : Byt (tkB t) := by
  simp only [okT, bet, Bool.and_eq_true, decide_eq_true_eq] at h
  intro c hc
  simp only [tkB, List.mem_cons, List.mem_append] at hc
  rcases hc with rfl | hc | hc | hc
  · omega
  · exact dg_byt _ (by omega) c hc
  · exact dg_byt _ (by omega) c hc
  · exact dg_byt _ (by omega) c hc
theorem evs_byt (l : List Ev) (h : ∀ e ∈ l, okE e = true ∧ -9223372036854775808 ≤ e.n ∧ e.n ≤ 9223372036854775807) : Byt (evs l) := by
  intro c hc
  obtain ⟨e, he, hc⟩ := List.mem_flatMap.1 hc
  exact evB_byt e (h e he).1 (h e he).2 c hc
theorem recs_byt (ev : List Ev) (h : ∀ e ∈ ev, okE e = true ∧ -9223372036854775808 ≤ e.n ∧ e.n ≤ 9223372036854775807) (ts : List Tk) (ht : ∀ t ∈ ts, okT t = true) (cs : List Int) (told : Nat) : Byt (recs ev ts cs told) := by
  induction ts generalizing cs told with
  | nil =>
    have : recs ev [] cs told = evs (ev.drop told) := by cases cs <;> rfl
    rw [this]
    exact evs_byt _ (fun e he => h e (List.mem_of_mem_drop he))
  | cons t ts ih =>
    cases cs with
    | nil => exact evs_byt _ (fun e he => h e (List.mem_of_mem_drop he))
    | cons c cs =>
      exact (evs_byt _ (fun e he => h e (List.mem_of_mem_drop (List.mem_of_mem_take he)))).app ((tkB_byt t (ht t (by simp))).app (ih (fun x hx => ht x (by simp [hx])) cs c.toNat))
end Go.Proofs.Ytneefpblfiedbaa.Tp

namespace Go.Proofs.Ytneefpblfiedbaa.Tp
open Go.RowKit
set_option linter.unusedVariables false
/-- A tick's number. -/
def tnum (b : List Int) (lo k : Nat) : Res Nat := match rdF 0 0 (b.drop k) with
  | .inr e => .bad k e
  | .inl (z, u) => if lo ≤ z ∧ z ≤ 2147483647 then .good z (k + u) else .bad k 110
/-- One record. -/
inductive Stp where
  | fin (k : Nat)
  | more (t : Tr) (k : Nat)
  | bad (k : Nat) (e : Int)
def stepT (b : List Int) (k : Nat) (t : Tr) (c : Int) : Stp := match tnum b 0 (k + 1) with
  | .bad j e => .bad j e
  | .good p k1 => match tnum b 0 k1 with
    | .bad j e => .bad j e
    | .good m k2 => match tnum b 1 k2 with
      | .bad j e => .bad j e
      | .good d k3 => .more ⟨t.ticks ++ [⟨c, p, m, d⟩], t.counts ++ [(t.events.length : Int)], t.events⟩ k3
def stepE (b : List Int) (k : Nat) (t : Tr) (c : Int) : Stp :=
  if hasN (c - 16) then match rdF 0 0 (b.drop (k + 1)) with
    | .inr e => .bad (k + 1) e
    | .inl (z, u) => .more ⟨t.ticks, t.counts, t.events ++ [⟨c - 16, zag z⟩]⟩ (k + 1 + u)
  else .more ⟨t.ticks, t.counts, t.events ++ [⟨c - 16, 0⟩]⟩ (k + 1)
def step (b : List Int) (k : Nat) (t : Tr) : Stp := match b[k]? with
  | none => .bad k 112
  | some c => if c = 0 then .fin (k + 1) else if bet 1 c 3 then stepT b k t c else if bet 1 (c - 16) 5 then stepE b k t c else .bad k 110
/-- What is read: the trace, the place behind its last record, the place behind the 0; or what was, and what is wrong, and where. -/
inductive TRes where
  | good (t : Tr) (s k : Nat)
  | bad (t : Tr) (s k : Nat) (e : Int)
def rds (b : List Int) : Nat → Nat → Tr → TRes
  | 0, k, t => .bad t k k 0
  | f + 1, k, t => match step b k t with
    | .fin j => .good t k j
    | .more t' j => rds b f j t'
    | .bad j e => .bad t k j e
def tr0 : Tr := ⟨[], [], []⟩
def rtB (b : List Int) : TRes := match hd 0 (head 2) b with
  | some (i, e) => .bad tr0 0 i e
  | none => match rds b b.length 5 tr0 with
    | .bad t s k e => .bad t s k e
    | .good t s k => match ends b k with
      | some (i, e) => .bad t s i e
      | none => .good t s k
theorem tnum_le (b : List Int) (hb : Byt b) (lo k z j : Nat) (h : tnum b lo k = .good z j) (hk : k ≤ b.length) : k < j ∧ j ≤ b.length ∧ lo ≤ z ∧ z ≤ 2147483647 := by
  unfold tnum at h
  cases hr : rdF 0 0 (b.drop k) with
  | inr e => rw [hr] at h; cases h
  | inl p =>
    rw [hr] at h
    dsimp only at h
    split at h
    · rename_i hz
      cases h
      obtain ⟨h1, h2, _, _⟩ := rd_back _ _ _ (hb.drop k) hr
      rw [List.length_drop] at h2
      exact ⟨by omega, by omega, hz.1, hz.2⟩
    · cases h
theorem tnum_err (b : List Int) (lo k j : Nat) (e : Int) (h : tnum b lo k = .bad j e) : e ≠ 0 ∧ j = k := by
  unfold tnum at h
  cases hr : rdF 0 0 (b.drop k) with
  | inr x => rw [hr] at h; cases h; have := rdF_err _ _ _ _ hr; exact ⟨by omega, rfl⟩
  | inl p =>
    rw [hr] at h
    dsimp only at h
    split at h
    · cases h
    · cases h; exact ⟨by decide, rfl⟩
/-- How far a record brings one, and how much it adds. -/
theorem step_more (b : List Int) (hb : Byt b) (k : Nat) (t t' : Tr) (j : Nat) (h : step b k t = .more t' j) : k < j ∧ j ≤ b.length ∧ ((t'.ticks.length = t.ticks.length + 1 ∧ t'.counts.length = t.counts.length + 1 ∧ t'.events = t.events) ∨ (t'.ticks = t.ticks ∧ t'.counts = t.counts ∧ t'.events.length = t.events.length + 1)) := by
  unfold step at h
  cases hk : b[k]? with
  | none => rw [hk] at h; cases h
  | some c =>
    have hkl : k < b.length := (List.getElem?_eq_some_iff.1 hk).1
    rw [hk] at h
    dsimp only at h
    split at h
    · cases h
    · split at h
      · unfold stepT at h
        cases h1 : tnum b 0 (k + 1) with
        | bad j e => rw [h1] at h; cases h
        | good p k1 =>
          rw [h1] at h
          dsimp only at h
          cases h2 : tnum b 0 k1 with
          | bad j e => rw [h2] at h; cases h
          | good m k2 =>
            rw [h2] at h
            dsimp only at h
            cases h3 : tnum b 1 k2 with
            | bad j e => rw [h3] at h; cases h
            | good d k3 =>
              rw [h3] at h
              cases h
              have a1 := tnum_le b hb _ _ _ _ h1 (by omega)
              have a2 := tnum_le b hb _ _ _ _ h2 (by omega)
              have a3 := tnum_le b hb _ _ _ _ h3 (by omega)
              exact ⟨by omega, by omega, .inl ⟨by simp, by simp, rfl⟩⟩
      · split at h
        · unfold stepE at h
          split at h
          · cases hr : rdF 0 0 (b.drop (k + 1)) with
            | inr e => rw [hr] at h; cases h
            | inl p =>
              rw [hr] at h
              cases h
              obtain ⟨h1, h2, _, _⟩ := rd_back _ _ _ (hb.drop (k + 1)) hr
              rw [List.length_drop] at h2
              exact ⟨by omega, by omega, .inr ⟨rfl, rfl, by simp⟩⟩
          · cases h
            exact ⟨by omega, by omega, .inr ⟨rfl, rfl, by simp⟩⟩
        · cases h
theorem step_fin (b : List Int) (k : Nat) (t : Tr) (j : Nat) (h : step b k t = .fin j) : j = k + 1 ∧ b[k]? = some 0 := by
  unfold step at h
  cases hk : b[k]? with
  | none => rw [hk] at h; cases h
  | some c =>
    rw [hk] at h
    dsimp only at h
    split at h
    · rename_i h0; cases h; subst h0; exact ⟨rfl, rfl⟩
    · split at h
      · unfold stepT at h
        repeat' split at h
        all_goals cases h
      · split at h
        · unfold stepE at h
          repeat' split at h
          all_goals cases h
        · cases h
end Go.Proofs.Ytneefpblfiedbaa.Tp

namespace Go.Proofs.Ytneefpblfiedbaa
open Go.RowKit
set_option linter.unusedVariables false

/-- Bytes below the block B. -/
def ByS (B : Nat) (w : World) (a : Option Addr) (l : List Int) : Prop := 0 < l.length → ∃ g o, a = some ⟨g, o, none⟩ ∧ g < B ∧ ∀ j x, l[j]? = some x → w.cell? ⟨g, o + j, none⟩ = some (.int .u8 x)
theorem ByS.later {B B' : Nat} {w w' : World} {a : Option Addr} {l : List Int} (h : ByS B w a l) (b : Below B' w w') (hb : B ≤ B') : ByS B w' a l := fun h0 => by
  obtain ⟨g, o, e, hg, hc⟩ := h h0
  exact ⟨g, o, e, hg, fun j x hx => (b.cell (p := ⟨g, _, none⟩) (Nat.lt_of_lt_of_le hg hb)).trans (hc j x hx)⟩
theorem ByS.mono {B B' : Nat} {w : World} {a : Option Addr} {l : List Int} (h : ByS B w a l) (hb : B ≤ B') : ByS B' w a l := fun h0 => by
  obtain ⟨g, o, e, hg, hc⟩ := h h0
  exact ⟨g, o, e, Nat.lt_of_lt_of_le hg hb, hc⟩
/-- Numbers below the block B. -/
def NmS (B : Nat) (w : World) (a : Option Addr) (l : List Int) : Prop := 0 < l.length → ∃ g o, a = some ⟨g, o, none⟩ ∧ g < B ∧ ∀ j x, l[j]? = some x → w.cell? ⟨g, o + j, none⟩ = some (.int .i64 x)
theorem NmS.later {B B' : Nat} {w w' : World} {a : Option Addr} {l : List Int} (h : NmS B w a l) (b : Below B' w w') (hb : B ≤ B') : NmS B w' a l := fun h0 => by
  obtain ⟨g, o, e, hg, hc⟩ := h h0
  exact ⟨g, o, e, hg, fun j x hx => (b.cell (p := ⟨g, _, none⟩) (Nat.lt_of_lt_of_le hg hb)).trans (hc j x hx)⟩
theorem NmS.mono {B B' : Nat} {w : World} {a : Option Addr} {l : List Int} (h : NmS B w a l) (hb : B ≤ B') : NmS B' w a l := fun h0 => by
  obtain ⟨g, o, e, hg, hc⟩ := h h0
  exact ⟨g, o, e, Nat.lt_of_lt_of_le hg hb, hc⟩
theorem hidT {p : Prop} (h : p) : Hid p := h
theorem adT (g o n : Nat) : (⟨g, o, none⟩ : Addr).add n = ⟨g, o + n, none⟩ := by simp [Addr.add]
theorem ownLtT {w w' : World} {base size n : Nat} {e : TypeId} {v : Value} {xs : List Value} (h : w.ownsRow base e size v n xs) (hb : Below w.heap.size w w') : w'.ownsRow base e size v n xs :=
  h.kept (row := none) ⟨hb.os, hb.tape, hb.output, hb.size, fun k hk _ => hb.block k hk⟩ (by cases hv : v.ownBlock <;> simp)
theorem ownShT {w : World} {base size n : Nat} {e : TypeId} {v : Value} {xs : List Value} (h : w.ownsRow base e size v n xs) : ∃ ao c, v = .slice ao n c := by
  rcases h.2 with ⟨rfl, rfl⟩ | ⟨g, cap, cur, rfl, _⟩
  · exact ⟨_, _, rfl⟩
  · exact ⟨_, _, rfl⟩
/-- Bytes as cells. -/
def byC (l : List Int) : List Value := l.map (Value.int .u8)
theorem byC_app (a b : List Int) : byC (a ++ b) = byC a ++ byC b := List.map_append
theorem byC_len (a : List Int) : (byC a).length = a.length := List.length_map _
theorem byC_get {a : List Int} {j : Nat} {x : Int} (h : a[j]? = some x) : (byC a)[j]? = some (.int .u8 x) := by simp [byC, h]
theorem byC_one (a : List Int) : ∀ u ∈ byC a, u.oneCell' = true := by
  intro u hu
  simp only [byC, List.mem_map] at hu
  obtain ⟨x, _, rfl⟩ := hu
  rfl
/-- A row of bytes of its own. -/
def OwB (w : World) (base : Nat) (v : Value) (l : List Int) : Prop := w.ownsRow base 5 1 v l.length (byC l)
theorem OwB.bys {w : World} {base : Nat} {a : Option Addr} {n c : Nat} {l : List Int} (h : OwB w base (.slice a n c) l) : ByS w.heap.size w a l := fun h0 => by
  have hc := @World.ownsRow.cells _ _ _ _ _ _ _ h
  have hl := @World.ownsRow.lt _ _ _ _ _ _ _ h
  rcases h.2 with ⟨_, h1⟩ | ⟨g, cap, cur, e, hbg, _⟩
  · omega
  · cases e
    refine ⟨g, 0, rfl, (hl g rfl).2, fun j x hx => ?_⟩
    have := hc (g := g) rfl j _ (byC_get hx)
    rwa [adT] at this
theorem OwB.len {w : World} {base : Nat} {a : Option Addr} {n c : Nat} {l : List Int} (h : OwB w base (.slice a n c) l) : n = l.length := by
  rcases h.2 with ⟨e, h1⟩ | ⟨g, cap, cur, e, _⟩
  · cases e; exact h1.symm
  · cases e; rfl
theorem infoB : (Try.prog.info? 5).map (fun i => (i.zero, i.size, i.bytes)) = some (some (.int .u8 0), 1, 1) := by kernel_rfl
theorem infoN : (Try.prog.info? 2).map (fun i => (i.zero, i.size, i.bytes)) = some (some (.int .i64 0), 1, 8) := by kernel_rfl

/-- Bits. -/
theorem or_u64 (a b i : Nat) (ha : a < 2 ^ i) (hb : a + b * 2 ^ i < 18446744073709551616) : bits .or .u64 (a : Int) ((b * 2 ^ i : Nat) : Int) = ((a + b * 2 ^ i : Nat) : Int) := by
  have h1 : (BitVec.ofInt 64 (a : Int)).toNat = a := by
    rw [BitVec.ofInt_natCast, BitVec.toNat_ofNat]; exact Nat.mod_eq_of_lt (by omega)
  have h2 : (BitVec.ofInt 64 ((b * 2 ^ i : Nat) : Int)).toNat = b * 2 ^ i := by
    rw [BitVec.ofInt_natCast, BitVec.toNat_ofNat]; exact Nat.mod_eq_of_lt (by omega)
  show IntKind.u64.wrap ((BitVec.ofInt 64 (a : Int) ||| BitVec.ofInt 64 ((b * 2 ^ i : Nat) : Int)).toNat : Int) = _
  rw [BitVec.toNat_or, h1, h2, IntKind.wrap_u64, Nat.or_comm, ← Nat.shiftLeft_eq, ← Nat.shiftLeft_add_eq_or_of_lt ha, Nat.shiftLeft_eq, Nat.add_comm]
  generalize a + b * 2 ^ i = x at hb ⊢
  omega
theorem or_u32 (a b i : Nat) (ha : a < 2 ^ i) (hb : a + b * 2 ^ i < 4294967296) : bits .or .u32 ((b * 2 ^ i : Nat) : Int) (a : Int) = ((a + b * 2 ^ i : Nat) : Int) := by
  have h1 : (BitVec.ofInt 32 (a : Int)).toNat = a := by
    rw [BitVec.ofInt_natCast, BitVec.toNat_ofNat]; exact Nat.mod_eq_of_lt (by omega)
  have h2 : (BitVec.ofInt 32 ((b * 2 ^ i : Nat) : Int)).toNat = b * 2 ^ i := by
    rw [BitVec.ofInt_natCast, BitVec.toNat_ofNat]; exact Nat.mod_eq_of_lt (by omega)
  show IntKind.u32.wrap ((BitVec.ofInt 32 ((b * 2 ^ i : Nat) : Int) ||| BitVec.ofInt 32 (a : Int)).toNat : Int) = _
  have wr : ∀ n : Int, IntKind.u32.wrap n = n % 4294967296 := fun n => by simp [IntKind.wrap, IntKind.bits, IntKind.signed]
  rw [BitVec.toNat_or, h1, h2, wr, ← Nat.shiftLeft_eq, ← Nat.shiftLeft_add_eq_or_of_lt ha, Nat.shiftLeft_eq, Nat.add_comm]
  generalize a + b * 2 ^ i = x at hb ⊢
  omega
theorem not_u64 (a : Nat) (ha : a < 18446744073709551616) : bits .xor .u64 18446744073709551615 (a : Int) = ((18446744073709551615 - a : Nat) : Int) := by
  have h1 : (BitVec.ofInt 64 (a : Int)).toNat = a := by
    rw [BitVec.ofInt_natCast, BitVec.toNat_ofNat]; exact Nat.mod_eq_of_lt (by omega)
  have e : BitVec.ofInt 64 18446744073709551615 = BitVec.allOnes 64 := by decide
  show IntKind.u64.wrap ((BitVec.ofInt 64 18446744073709551615 ^^^ BitVec.ofInt 64 (a : Int)).toNat : Int) = _
  rw [e, BitVec.allOnes_xor, BitVec.toNat_not, h1, IntKind.wrap_u64]
  omega
theorem not_i64 (a : Int) (h0 : 0 ≤ a) (h1 : a < 9223372036854775808) : bits .xor .i64 (-1) a = -a - 1 := by
  have e1 : (BitVec.ofInt 64 a).toNat = a.toNat := by
    have : a = ((a.toNat : Nat) : Int) := by omega
    rw [this, BitVec.ofInt_natCast, BitVec.toNat_ofNat]
    exact Nat.mod_eq_of_lt (by omega)
  have e : BitVec.ofInt 64 (-1) = BitVec.allOnes 64 := by decide
  show IntKind.i64.wrap ((BitVec.ofInt 64 (-1) ^^^ BitVec.ofInt 64 a).toNat : Int) = _
  rw [e, BitVec.allOnes_xor, BitVec.toNat_not, e1]
  rw [IntKind.wrap_i64]
  omega
end Go.Proofs.Ytneefpblfiedbaa

namespace Go.Proofs.Ytneefpblfiedbaa
open Go.RowKit
set_option linter.unusedVariables false

theorem retI {k : IntKind} {a b : Int} (h : a = b) : Ending.returned (.int k a) = .returned (.int k b) := by rw [h]
theorem signed_any (z : Nat) (hz : z < 18446744073709551616) (w : World) : Calls Try.prog 75 #[.int .u64 z] w fun e w' => e = .returned (.int .i64 (Tp.zag z)) ∧ w' = w := by
  by_cases h2 : (z : Int) % 2 = 1
  · have q : ((z : Int) % 2 == 1) = true := by simpa using h2
    have H2 : Hid ((z : Int) % 2 = 1) := h2
    clear h2
    go_enter Try.func75, Try.ntmps75
    go_wp2_with fail
    go_ret
    have h2 := H2.out
    refine ⟨retI ?_, rfl⟩
    rw [not_i64 _ (by omega) (by omega)]
    unfold Tp.zag
    split <;> omega
  · have q : ((z : Int) % 2 == 1) = false := by simpa using h2
    have H2 : Hid (¬ (z : Int) % 2 = 1) := h2
    clear h2
    go_enter Try.func75, Try.ntmps75
    go_wp2_with fail
    go_ret
    have h2 := H2.out
    refine ⟨retI ?_, rfl⟩
    unfold Tp.zag
    split <;> omega
theorem max_u64 : IntKind.u64.max = 18446744073709551615 := by decide
theorem unsigned_any (n : Int) (w : World) (h0 : -9223372036854775808 ≤ n) (h1 : n ≤ 9223372036854775807) : Calls Try.prog 58 #[.int .i64 n] w fun e w' => e = .returned (.int .u64 (Tp.zg n)) ∧ w' = w := by
  go_enter Try.func58, Try.ntmps58
  go_wp2_with fail
  · go_ret
    rename_i h2 _
    refine ⟨retI ?_, rfl⟩
    have e : IntKind.u64.wrap (IntKind.u64.wrap n * 2) = (((2 * n + 18446744073709551616).toNat : Nat) : Int) := by
      rw [IntKind.wrap_u64, IntKind.wrap_u64]
      omega
    rw [e, max_u64, not_u64 _ (by omega)]
    unfold Tp.zg
    split <;> omega
  · go_ret
    refine ⟨retI ?_, rfl⟩
    first | rw [IntKind.wrap_u64, IntKind.wrap_u64] | rw [IntKind.wrap_u64] | skip
    unfold Tp.zg
    split <;> omega
end Go.Proofs.Ytneefpblfiedbaa

namespace Go.Proofs.Ytneefpblfiedbaa
open Go.RowKit
set_option linter.unusedVariables false
def dgV (k : Nat) : (Nat × Nat) ⊕ Int → Value
  | .inl (z, u) => .tuple #[.int .u64 z, .int .i64 ((k + u : Nat) : Int), .int .i64 0]
  | .inr x => .tuple #[.int .u64 0, .int .i64 0, .int .i64 x]
theorem dgOr (x : Int) (y j : Nat) (h0 : 0 ≤ x) (h1 : x ≤ 255) (hy : y < 128 ^ j) (hj : j ≤ 8 ∨ (j = 9 ∧ x ≤ 1)) : bits .or .u64 (y : Int) (IntKind.u64.wrap ((x % 128) * 2 ^ (7 * j))) = ((y + x.toNat % 128 * 128 ^ j : Nat) : Int) ∧ y + x.toNat % 128 * 128 ^ j < 128 ^ (j + 1) := by
  have e7 : (128 : Nat) ^ j = 2 ^ (7 * j) := by rw [Nat.pow_mul]
  have b1 : x.toNat % 128 * 128 ^ j + 128 ^ j ≤ 128 ^ (j + 1) := by
    have : (x.toNat % 128 + 1) * 128 ^ j ≤ 128 * 128 ^ j := Nat.mul_le_mul_right _ (by omega)
    rw [Nat.pow_succ, Nat.mul_comm (128 ^ j) 128]
    rw [Nat.add_mul, Nat.one_mul] at this
    exact this
  have b3 : y + x.toNat % 128 * 128 ^ j < 18446744073709551616 := by
    rcases hj with hj | ⟨rfl, hx⟩
    · have : 128 ^ (j + 1) ≤ 128 ^ 9 := Nat.pow_le_pow_right (by decide) (by omega)
      have e9 : (128 : Nat) ^ 9 = 9223372036854775808 := by decide
      omega
    · have : x.toNat % 128 ≤ 1 := by omega
      have e9 : (128 : Nat) ^ 9 = 9223372036854775808 := by decide
      rw [e9] at hy ⊢
      omega
  refine ⟨?_, by omega⟩
  have ex : (x % 128) * 2 ^ (7 * j) = ((x.toNat % 128 * 2 ^ (7 * j) : Nat) : Int) := by
    have : x % 128 = ((x.toNat % 128 : Nat) : Int) := by omega
    rw [this, Int.natCast_mul, Int.natCast_pow]
    rfl
  rw [e7] at hy b3 ⊢
  have ew : IntKind.u64.wrap ((x.toNat % 128 * 2 ^ (7 * j) : Nat) : Int) = ((x.toNat % 128 * 2 ^ (7 * j) : Nat) : Int) := by
    rw [IntKind.wrap_u64]
    generalize x.toNat % 128 * 2 ^ (7 * j) = q at b3 ⊢
    omega
  rw [ex, ew]
  exact or_u64 y _ _ hy b3
set_option maxHeartbeats 2000000 in
theorem digits_end (n : Nat) (a : Option Addr) (c : Nat) (w : World) (hc : n ≤ c) (hl : n ≤ 4611686018427387904) :
    Calls Try.prog 70 #[.slice a n c, .int .i64 n] w fun e w' => e = .returned (.tuple #[.int .u64 0, .int .i64 0, .int .i64 112]) ∧ w' = w := by
  have hs : n - n = 0 := Nat.sub_self n
  have D0 : decide ((0 : Int) < 0) = false := by decide
  rcases Nat.lt_or_ge n c with hz | hz
  · have hz1 : ¬ c = n := by omega
    have hz2 : (c - n == 0) = false := by simp; omega
    go_enter Try.func70, Try.ntmps70
    go_wp2_with fail
    go_loopg [14] 0 (fun gk i wr => i = .int .i64 0 ∧ wr = w)
    case atStart => exact ⟨rfl, rfl⟩
    case round =>
      obtain ⟨rfl, rfl⟩ := hrel
      go_wp2_with fail
      go_ret3
      exact ⟨rfl, rfl⟩
  · have hz1 : c = n := by omega
    subst hz1
    go_enter Try.func70, Try.ntmps70
    go_wp2_with fail
    go_loopg [14] 0 (fun gk i wr => i = .int .i64 0 ∧ wr = w)
    case atStart => exact ⟨rfl, rfl⟩
    case round =>
      obtain ⟨rfl, rfl⟩ := hrel
      go_wp2_with fail
      go_ret3
      exact ⟨rfl, rfl⟩
set_option maxHeartbeats 4000000 in
theorem digits_in (b : List Int) (k : Nat) (g o : Nat) (c : Nat) (w : World) (hb : Tp.Byt b) (hm : ∀ j x, b[j]? = some x → w.cell? ⟨g, o + j, none⟩ = some (.int .u8 x)) (hc : b.length ≤ c) (hl : b.length ≤ 4611686018427387904) (hk : k < b.length) :
    Calls Try.prog 70 #[.slice (some ⟨g, o, none⟩) b.length c, .int .i64 k] w fun e w' => e = .returned (dgV k (Tp.rdF 0 0 (b.drop k))) ∧ w' = w := by
  have HB : Hid (Tp.Byt b) := hb
  have HM : Hid (∀ j x, b[j]? = some x → w.cell? ⟨g, o + j, none⟩ = some (.int .u8 x)) := hm
  obtain ⟨n, hn⟩ : ∃ n, n = b.length := ⟨_, rfl⟩
  have HN : Hid (n = b.length) := hn
  rw [← hn] at hl hk hc ⊢
  obtain ⟨post, hpost⟩ : ∃ p, p = dgV k (Tp.rdF 0 0 (b.drop k)) := ⟨_, rfl⟩
  have HP : Hid (post = dgV k (Tp.rdF 0 0 (b.drop k))) := hpost
  rw [← hpost]
  clear hb hm hn hpost
  have hz1 : ¬ c = k := by omega
  have hz2 : (c - k == 0) = false := by simp; omega
  obtain ⟨m, hm⟩ : ∃ m, n - k = m := ⟨_, rfl⟩
  have hmk : Hid (n = k + m) := by unfold Hid; omega
  have hml : m ≤ 4611686018427387904 := by omega
  go_enter Try.func70, Try.ntmps70
  go_wp2_with fail
  go_loopg [7, 14] m (fun gk z i wr => ∃ (j y : Nat), j + gk = m ∧ j ≤ 9 ∧ i = .int .i64 j ∧ z = .int .u64 y ∧ Hid (y < 128 ^ j) ∧ wr = w ∧ Hid (Tp.rdF 0 0 (b.drop k) = Tp.rdF j y (b.drop (k + j))))
  case atStart => exact ⟨0, 0, by omega, by omega, rfl, rfl, by unfold Hid; decide, rfl, hidT rfl⟩
  case round =>
    obtain ⟨j, y, hj, hj9, rfl, rfl, HY, rfl, HR⟩ := hrel
    rcases gk with _ | gk
    · obtain rfl : j = m := by omega
      have dk : decide ((j : Int) < (j : Int)) = false := decide_eq_false (by omega)
      go_wp2_with fail
      go_ret3
      refine ⟨?_, rfl⟩
      rw [HP.out, HR.out, List.drop_eq_nil_of_le (by have := HN.out; have := hmk.out; omega)]
      rfl
    · have hlt : j < m := by omega
      have dk : decide ((j : Int) < (m : Int)) = true := decide_eq_true (by omega)
      have dkn : decide (j < m) = true := decide_eq_true hlt
      obtain ⟨x, hx⟩ : ∃ x, b[k + j]? = some x := ⟨_, List.getElem?_eq_getElem (by have := HN.out; have := hmk.out; omega)⟩
      have hdr : b.drop (k + j) = x :: b.drop (k + (j + 1)) := by
        rw [List.getElem?_eq_some_iff] at hx
        obtain ⟨h1, h2⟩ := hx
        rw [← h2, List.drop_eq_getElem_cons h1]
        rfl
      have a0 : wr.cell? ⟨g, o + k + j, none⟩ = some (.int .u8 x) := by rw [Nat.add_assoc]; exact HM.out _ _ hx
      have a1 : wr.cell? ⟨g, o + (k + j), none⟩ = some (.int .u8 x) := HM.out _ _ hx
      have hxb := HB.out x (List.mem_of_getElem? hx)
      have HD : Hid (b.drop (k + j) = x :: b.drop (k + (j + 1))) := hdr
      clear hdr hx
      obtain ⟨hx0, hx1⟩ := hxb
      rcases (by omega : (j = 9 ∧ 1 < x) ∨ (j = 9 ∧ x = 0) ∨ (j = 9 ∧ x = 1) ∨ (j < 9 ∧ 0 < j ∧ x = 0) ∨ (j < 9 ∧ j = 0 ∧ x < 128) ∨ (j < 9 ∧ 0 < j ∧ x ≠ 0 ∧ x < 128) ∨ (j < 9 ∧ j = 0 ∧ 128 ≤ x) ∨ (j < 9 ∧ 0 < j ∧ 128 ≤ x)) with H | H | H | H | H | H | H | H
      · have HH := hidT H
        obtain ⟨h9, h1⟩ := H
        have q9 : ((j : Int) == 9) = true := by simp [h9]
        have q1 : decide (1 < x) = true := decide_eq_true h1
        clear h9 h1
        go_wp2_with fail
        go_ret3
        refine ⟨?_, rfl⟩
        have H := HH.out
        rw [HP.out, HR.out, HD.out, Tp.rdF, if_pos (by omega)]
        rfl
      · have HH := hidT H
        obtain ⟨h9, h1⟩ := H
        have q9 : ((j : Int) == 9) = true := by simp [h9]
        have q1 : decide (1 < x) = false := decide_eq_false (by omega)
        have q2 : decide (0 < (j : Int)) = true := decide_eq_true (by omega)
        have q2n : decide (0 < j) = true := decide_eq_true (by omega)
        have q2m : 0 < j := by omega
        have q3 : (x == 0) = true := by simp [h1]
        clear h9 h1
        go_wp2_with fail
        go_ret3
        refine ⟨?_, rfl⟩
        have H := HH.out
        rw [HP.out, HR.out, HD.out, Tp.rdF, if_pos (by omega)]
        rfl
      · have HH := hidT H
        obtain ⟨h9, h1⟩ := H
        have q9 : ((j : Int) == 9) = true := by simp [h9]
        have q1 : decide (1 < x) = false := decide_eq_false (by omega)
        have q2 : decide (0 < (j : Int)) = true := decide_eq_true (by omega)
        have q2n : decide (0 < j) = true := decide_eq_true (by omega)
        have q2m : 0 < j := by omega
        have q3 : (x == 0) = false := by simp [h1]
        have q4 : decide (x < 128) = true := decide_eq_true (by omega)
        have QO := hidT (dgOr x y j hx0 hx1 HY.out (by omega))
        clear h9 h1
        go_wp2_with fail
        go_ret3
        refine ⟨?_, rfl⟩
        have H := HH.out
        rw [HP.out, HR.out, HD.out, Tp.rdF, if_neg (by omega), if_pos (by omega)]
        have e1 : x.toNat % 128 = x.toNat := by omega
        have q := QO.out.1
        rw [e1] at q
        rw [q]
        have e2 : ((k : Int) + j + 1) = ((k + (j + 1) : Nat) : Int) := by omega
        rw [e2]
        rfl
      · have HH := hidT H
        obtain ⟨h9, h0, h1⟩ := H
        have q9 : ((j : Int) == 9) = false := by simp; omega
        have q2 : decide (0 < (j : Int)) = true := decide_eq_true (by omega)
        have q2n : decide (0 < j) = true := decide_eq_true (by omega)
        have q2m : 0 < j := by omega
        have q3 : (x == 0) = true := by simp [h1]
        clear h9 h0 h1
        go_wp2_with fail
        go_ret3
        refine ⟨?_, rfl⟩
        have H := HH.out
        rw [HP.out, HR.out, HD.out, Tp.rdF, if_pos (by omega)]
        rfl
      · have HH := hidT H
        obtain ⟨h9, h0, h1⟩ := H
        have q9 : ((j : Int) == 9) = false := by simp; omega
        have q2 : decide (0 < (j : Int)) = false := decide_eq_false (by omega)
        have q2n : decide (0 < j) = false := decide_eq_false (by omega)
        have q2m : ¬ 0 < j := by omega
        have q4 : decide (x < 128) = true := decide_eq_true (by omega)
        have QO := hidT (dgOr x y j hx0 hx1 HY.out (by omega))
        clear h9 h0 h1
        go_wp2_with fail
        go_ret3
        refine ⟨?_, rfl⟩
        have H := HH.out
        rw [HP.out, HR.out, HD.out, Tp.rdF, if_neg (by omega), if_pos (by omega)]
        have e1 : x.toNat % 128 = x.toNat := by omega
        have q := QO.out.1
        rw [e1] at q
        rw [q]
        have e2 : ((k : Int) + j + 1) = ((k + (j + 1) : Nat) : Int) := by omega
        rw [e2]
        rfl
      · have HH := hidT H
        obtain ⟨h9, h0, h2, h1⟩ := H
        have q9 : ((j : Int) == 9) = false := by simp; omega
        have q2 : decide (0 < (j : Int)) = true := decide_eq_true (by omega)
        have q2n : decide (0 < j) = true := decide_eq_true (by omega)
        have q2m : 0 < j := by omega
        have q3 : (x == 0) = false := by simpa using h2
        have q4 : decide (x < 128) = true := decide_eq_true (by omega)
        have QO := hidT (dgOr x y j hx0 hx1 HY.out (by omega))
        clear h9 h0 h2 h1
        go_wp2_with fail
        go_ret3
        refine ⟨?_, rfl⟩
        have H := HH.out
        rw [HP.out, HR.out, HD.out, Tp.rdF, if_neg (by omega), if_pos (by omega)]
        have e1 : x.toNat % 128 = x.toNat := by omega
        have q := QO.out.1
        rw [e1] at q
        rw [q]
        have e2 : ((k : Int) + j + 1) = ((k + (j + 1) : Nat) : Int) := by omega
        rw [e2]
        rfl
      · have HH := hidT H
        obtain ⟨h9, h0, h1⟩ := H
        have q9 : ((j : Int) == 9) = false := by simp; omega
        have q2 : decide (0 < (j : Int)) = false := decide_eq_false (by omega)
        have q2n : decide (0 < j) = false := decide_eq_false (by omega)
        have q2m : ¬ 0 < j := by omega
        have q4 : decide (x < 128) = false := decide_eq_false (by omega)
        have QO := hidT (dgOr x y j hx0 hx1 HY.out (by omega))
        clear h9 h0 h1
        go_wp2_with fail
        go_roundg gk
        case measure => omega
        case rel =>
          have H := HH.out
          have e1 : x.toNat % 128 = x.toNat - 128 := by omega
          refine ⟨j + 1, y + (x.toNat - 128) * 128 ^ j, by omega, by omega, by go_num, ?_, ?_, rfl, ?_⟩
          · have q := QO.out.1
            rw [e1] at q
            rw [q]
          · have q := QO.out.2
            rw [e1] at q
            exact q
          · rw [HR.out, HD.out, Tp.rdF, if_neg (by omega), if_neg (by omega)]
            exact hidT rfl
      · have HH := hidT H
        obtain ⟨h9, h0, h1⟩ := H
        have q9 : ((j : Int) == 9) = false := by simp; omega
        have q2 : decide (0 < (j : Int)) = true := decide_eq_true (by omega)
        have q2n : decide (0 < j) = true := decide_eq_true (by omega)
        have q2m : 0 < j := by omega
        have q3 : (x == 0) = false := by simp; omega
        have q4 : decide (x < 128) = false := decide_eq_false (by omega)
        have QO := hidT (dgOr x y j hx0 hx1 HY.out (by omega))
        clear h9 h0 h1
        go_wp2_with fail
        go_roundg gk
        case measure => omega
        case rel =>
          have H := HH.out
          have e1 : x.toNat % 128 = x.toNat - 128 := by omega
          refine ⟨j + 1, y + (x.toNat - 128) * 128 ^ j, by omega, by omega, by go_num, ?_, ?_, rfl, ?_⟩
          · have q := QO.out.1
            rw [e1] at q
            rw [q]
          · have q := QO.out.2
            rw [e1] at q
            exact q
          · rw [HR.out, HD.out, Tp.rdF, if_neg (by omega), if_neg (by omega)]
            exact hidT rfl
theorem digits_any (b : List Int) (k : Nat) (a : Option Addr) (c : Nat) (w : World) (hb : Tp.Byt b) {B : Nat} (hm : ByS B w a b) (hc : b.length ≤ c) (hl : b.length ≤ 4611686018427387904) (hk : k ≤ b.length) :
    Calls Try.prog 70 #[.slice a b.length c, .int .i64 k] w fun e w' => e = .returned (dgV k (Tp.rdF 0 0 (b.drop k))) ∧ w' = w := by
  rcases Nat.lt_or_ge k b.length with h | h
  · obtain ⟨g, o, rfl, _, hm⟩ := hm (by omega)
    exact digits_in b k g o c w hb hm hc hl h
  · obtain rfl : k = b.length := by omega
    rw [List.drop_length]
    exact digits_end _ a c w hc hl
end Go.Proofs.Ytneefpblfiedbaa

namespace Go.Proofs.Ytneefpblfiedbaa
open Go.RowKit
set_option linter.unusedVariables false
def rnV (k : Nat) : (Nat × Nat) ⊕ Int → Value
  | .inl (z, u) => .tuple #[.int .i64 (Tp.zag z), .int .i64 ((k + u : Nat) : Int), .int .i64 0]
  | .inr x => .tuple #[.int .i64 0, .int .i64 k, .int .i64 x]
theorem readNum_in (b : List Int) (k : Nat) (a : Option Addr) (c : Nat) (w : World) (hb : Tp.Byt b) {B : Nat} (hm : ByS B w a b) (hc : b.length ≤ c) (hl : b.length ≤ 4611686018427387904) (hk : k ≤ b.length) :
    Calls Try.prog 71 #[.slice a b.length c, .int .i64 k] w fun e w' => e = .returned (rnV k (Tp.rdF 0 0 (b.drop k))) ∧ w' = w := by
  have HD := hidT (digits_any b k a c w hb hm hc hl hk)
  have hbk := hb.drop k
  obtain ⟨n, hn⟩ : ∃ n, n = b.length := ⟨_, rfl⟩
  rw [← hn] at hk hl HD ⊢
  cases hr : Tp.rdF 0 0 (b.drop k) with
  | inr x =>
    rw [hr] at HD
    have hx := Tp.rdF_err _ _ _ _ hr
    have qx : (x == 0) = false := by simp; omega
    clear hr hn hm hc hb hbk hx
    go_enter Try.func71, Try.ntmps71
    go_wp2_with fail
    refine HD.out.mono ?_
    rintro e w' ⟨rfl, rfl⟩
    unfold dgV
    go_wp2_with fail
    go_ret3
    exact ⟨rfl, rfl⟩
  | inl p =>
    obtain ⟨z, u⟩ := p
    rw [hr] at HD
    have hz := (Tp.rd_back _ _ _ hbk hr).2.2.2
    clear hr hn hm hc hb hbk
    go_enter Try.func71, Try.ntmps71
    go_wp2_with fail
    refine HD.out.mono ?_
    rintro e w' ⟨rfl, rfl⟩
    unfold dgV
    go_wp2_with fail
    refine (signed_any z hz _).mono ?_
    rintro e w' ⟨rfl, rfl⟩
    go_wp2_with fail
    go_ret3
    exact ⟨rfl, rfl⟩
theorem readNum_out (n : Nat) (k : Int) (a : Option Addr) (c : Nat) (w : World) (hl : n ≤ 4611686018427387904) (hk : k < 0 ∨ (n : Int) < k) :
    Calls Try.prog 71 #[.slice a n c, .int .i64 k] w fun e w' => e = .returned (.tuple #[.int .i64 0, .int .i64 0, .int .i64 1]) ∧ w' = w := by
  by_cases h0 : k < 0
  · have d0 : decide (k < 0) = true := decide_eq_true h0
    clear hk
    go_enter Try.func71, Try.ntmps71
    go_wp2_with fail
    go_ret3
    exact ⟨rfl, rfl⟩
  · have d0 : decide (k < 0) = false := decide_eq_false h0
    have h1 : (n : Int) < k := by omega
    have d1 : decide ((n : Int) < k) = true := decide_eq_true h1
    clear hk
    go_enter Try.func71, Try.ntmps71
    go_wp2_with fail
    go_ret3
    exact ⟨rfl, rfl⟩
set_option maxHeartbeats 1000000 in
theorem sumP_any (b : List Int) (a : Option Addr) (c : Nat) (w : World) (hb : Tp.Byt b) {B : Nat} (hm : ByS B w a b) (hl : b.length ≤ 4611686018427387904) :
    Calls Try.prog 22 #[.slice a b.length c] w fun e w' => e = .returned (.int .u32 (Tp.sum b)) ∧ w' = w := by
  have HB : Hid (Tp.Byt b) := hb
  have HM : Hid (ByS B w a b) := hm
  obtain ⟨n, hn⟩ : ∃ n, n = b.length := ⟨_, rfl⟩
  have HN : Hid (n = b.length) := hn
  rw [← hn] at hl ⊢
  obtain ⟨S, hS⟩ : ∃ S, S = Tp.sum b := ⟨_, rfl⟩
  have HS : Hid (S = Tp.sum b) := hS
  rw [← hS]
  clear hb hm hn hS
  go_enter Try.func22, Try.ntmps22
  go_wp2_with fail
  go_loopg [3, 4, 9] n (fun gk x y i wr => ∃ (j : Nat) (p q : Int), j + gk = n ∧ i = .int .i64 j ∧ x = .int .u32 p ∧ y = .int .u32 q ∧ 0 ≤ p ∧ p < 65521 ∧ 0 ≤ q ∧ q < 65521 ∧ wr = w ∧ Hid (Tp.sm (b.take j) = (p, q)))
  case atStart => exact ⟨0, 1, 0, by omega, rfl, rfl, rfl, by omega, by omega, by omega, by omega, rfl, hidT rfl⟩
  case round =>
    obtain ⟨j, p, q, hj, rfl, rfl, rfl, hp0, hp1, hq0, hq1, rfl, HR⟩ := hrel
    rcases gk with _ | gk
    · obtain rfl : j = n := by omega
      have dk : decide ((j : Int) < (j : Int)) = false := decide_eq_false (by omega)
      go_wp2_with fail
      go_ret
      refine ⟨retI ?_, rfl⟩
      rw [HS.out]
      have hr := HR.out
      rw [List.take_of_length_le (by rw [HN.out]; omega)] at hr
      unfold Tp.sum
      rw [hr]
      have h := or_u32 p.toNat q.toNat 16 (by omega) (by omega)
      have e1 : ((q.toNat * 2 ^ 16 : Nat) : Int) = q * 65536 := by omega
      have e2 : ((p.toNat : Nat) : Int) = p := by omega
      have e3 : ((p.toNat + q.toNat * 2 ^ 16 : Nat) : Int) = q * 65536 + p := by omega
      rw [e1, e2, e3] at h
      exact h
    · have hlt : j < n := by omega
      have dk : decide ((j : Int) < (n : Int)) = true := decide_eq_true (by omega)
      have dkn : decide (j < n) = true := decide_eq_true hlt
      obtain ⟨x, hx⟩ : ∃ x, b[j]? = some x := ⟨_, List.getElem?_eq_getElem (by rw [← HN.out]; exact hlt)⟩
      obtain ⟨g, o, rfl, hg, hc⟩ := HM.out (by rw [← HN.out]; omega)
      have a0 := hc j x hx
      obtain ⟨hx0, hx1⟩ := HB.out x (List.mem_of_getElem? hx)
      have HT : Hid (b.take (j + 1) = b.take j ++ [x]) := by
        unfold Hid
        rw [List.take_add_one, hx]
        rfl
      clear hx hc
      go_wp2_with fail
      go_roundg gk
      case measure => omega
      case rel =>
        refine ⟨j + 1, (p + x) % 65521, (q + (p + x) % 65521) % 65521, by omega, by go_num, ?_, ?_, by omega, by omega, by omega, by omega, rfl, ?_⟩
        · rfl
        · rfl
        · unfold Hid
          rw [HT.out, Tp.sm_app, HR.out]
          rfl
end Go.Proofs.Ytneefpblfiedbaa

namespace Go.Proofs.Ytneefpblfiedbaa
open Go.RowKit
set_option linter.unusedVariables false
theorem one1 (w : World) (x : Value) (t : TypeId) : ∀ (j : Nat) u, [x][j]? = some u → (w.alloc (.cells #[x] t)).cell? ((⟨w.heap.size, 0, none⟩ : Addr).add j) = some u := by
  intro j u hj
  match j, hj with
  | 0, hj => simp at hj; subst hj; simp [Addr.add]
  | n + 1, hj => simp at hj
theorem infoB' : ∃ i, Try.prog.info? 5 = some i ∧ i.zero = some (.int .u8 0) ∧ i.size = 1 ∧ i.bytes = 1 := by
  have h := infoB
  cases hx : Try.prog.info? 5 with
  | none => rw [hx] at h; cases h
  | some i => rw [hx] at h; simp at h; exact ⟨i, rfl, h.1, h.2.1, h.2.2⟩
theorem OwB.below {wr w8 : World} {base : Nat} {v : Value} {l : List Int} {o : Obj} (ho : OwB wr base v l) (hb : base ≤ wr.heap.size) (g8 : (wr.alloc o).grownBy w8 v.ownBlock) : Below base wr w8 :=
  ((Below.refl base wr).alloc hb o).trans ⟨g8.os, g8.tape, g8.output, g8.size, fun k hk => g8.block k (by simp; omega) (fun e => by have := (World.ownsRow.lt ho _ e.symm).1; omega)⟩
theorem OwB.below' {wr w8 : World} {base : Nat} {v : Value} {l : List Int} (ho : OwB wr base v l) (hb : base ≤ wr.heap.size) (g8 : wr.grownBy w8 v.ownBlock) : Below base wr w8 :=
  ⟨g8.os, g8.tape, g8.output, g8.size, fun k hk => g8.block k (by omega) (fun e => by have := (World.ownsRow.lt ho _ e.symm).1; omega)⟩
theorem OwB.of {w : World} {base n : Nat} {v : Value} {l : List Int} {m : List Int} (h : w.ownsRow base 5 1 v n (byC l ++ m.map (Value.int .u8))) (hn : n = l.length + m.length) : OwB w base v (l ++ m) := by
  unfold OwB
  rw [byC_app, List.length_append, ← hn]
  exact h
theorem OwB.len63 {n : Nat} (h : n ≤ 200000000) : n ≤ maxLen ∧ (n + n / 4 + 192) * 1 ≤ 281474976710656 := by unfold maxLen; omega
/-- A row of bytes grew by some, and what lies below the base is as it was. -/
def PuQ (w : World) (base : Nat) (l : List Int) (e : Ending) (w' : World) : Prop := ∃ v', e = .returned v' ∧ OwB w' base v' l ∧ Below base w w'
set_option maxHeartbeats 2000000 in
theorem putDg (w : World) (base : Nat) (v : Value) (l : List Int) (z : Nat) (hz : z < 18446744073709551616) (ho : OwB w base v l) (hb : base ≤ w.heap.size) (hl : l.length ≤ 100000000) :
    Calls Try.prog 57 #[v, .int .u64 z] w (PuQ w base (l ++ Tp.dg z)) := by
  obtain ⟨i0, hi, hz0, hz1, hz2⟩ := infoB'
  have HO : Hid (OwB w base v l) := ho
  have HL : Hid (l.length ≤ 100000000) := hl
  have HB : Hid (base ≤ w.heap.size) := hb
  clear ho hl hb
  go_enter Try.func57, Try.ntmps57
  go_wp2_with fail
  go_loopg [0, 1] 10 (fun gk x y wr => ∃ (u : Value) (l' : List Int) (q : Nat), x = u ∧ y = .int .u64 q ∧ q < 18446744073709551616 ∧ Hid (OwB wr base u l' ∧ Below base w wr ∧ l ++ Tp.dg z = l' ++ Tp.dgF gk.pred q ∧ l'.length + gk = l.length + 10 ∧ q < 128 ^ gk ∧ 0 < gk))
  case atStart => exact ⟨v, l, z, rfl, rfl, hz, HO.out, Below.refl _ _, rfl, rfl, Nat.lt_of_lt_of_le hz (by decide), by decide⟩
  case round =>
    obtain ⟨u, l', q, rfl, rfl, hq, HR⟩ := hrel
    have HBR : Hid (base ≤ wr.heap.size) := Nat.le_trans HB.out HR.out.2.1.size
    obtain ⟨ua, cap, hv⟩ := ownShT HR.out.1
    subst hv
    have H63 : Hid (l'.length + 1 ≤ maxLen ∧ ((l'.length + 1) + (l'.length + 1) / 4 + 192) * 1 ≤ 281474976710656) := by
      have := HL.out
      have := HR.out.2.2.2.1
      exact OwB.len63 (by omega)
    by_cases h128 : 128 ≤ q
    · have d1 : decide (128 ≤ (q : Int)) = true := decide_eq_true (by omega)
      go_wp2_with (at_builtin; refine wpList_append_own_wide _ rfl _ _ 27 rfl base 5 i0 (.int .u8 0) 1 1 Try.underlying27 hi hz0 hz1 hz2 rfl (by decide) _ _ _ rfl (ownLtT HR.out.1 ((Below.refl _ _).alloc (Nat.le_refl _) _)) ⟨wr.heap.size, 0, none⟩ 1 1 [_] rfl rfl (one1 _ _ _) (by intro x hx; simp at hx; subst hx; rfl) H63.out.1 H63.out.2 (by simp; exact Nat.le_trans HBR.out (Nat.le_succ _)) ?_)
      intro v8 w8 h8 g8 o8
      have K8 := hidT (HR.out.1.below HBR.out g8)
      have HX : Hid (OwB w8 base v8 (l' ++ [((q % 128 + 128 : Nat) : Int)])) := OwB.of (m := [((q % 128 + 128 : Nat) : Int)]) h8 rfl
      clear h8 g8 o8
      go_wp2_with fail
      obtain ⟨o1, k1, e1, n1, q1, p1⟩ := HR.out
      have h2 : 2 ≤ gk := by
        rcases (by omega : gk = 1 ∨ 2 ≤ gk) with rfl | h
        · simp at q1; omega
        · exact h
      obtain ⟨m, rfl⟩ : ∃ m, gk = m + 2 := ⟨gk - 2, by omega⟩
      go_roundg (m + 1)
      case measure => omega
      case rel =>
        refine ⟨v8, l' ++ [((q % 128 + 128 : Nat) : Int)], q / 128, rfl, rfl, by omega, HX.out, k1.trans K8.out, ?_, by simp; omega, ?_, by omega⟩
        · rw [e1, List.append_assoc]
          show l' ++ Tp.dgF (m + 1) q = _
          rw [Tp.dgF, if_neg (by omega)]
          rfl
        · rw [Nat.div_lt_iff_lt_mul (by decide)]
          rwa [← Nat.pow_succ]
    · have d1 : decide (128 ≤ (q : Int)) = false := decide_eq_false (by omega)
      go_wp2_with (at_builtin; refine wpList_append_own_wide _ rfl _ _ 27 rfl base 5 i0 (.int .u8 0) 1 1 Try.underlying27 hi hz0 hz1 hz2 rfl (by decide) _ _ _ rfl (ownLtT HR.out.1 ((Below.refl _ _).alloc (Nat.le_refl _) _)) ⟨wr.heap.size, 0, none⟩ 1 1 [_] rfl rfl (one1 _ _ _) (by intro x hx; simp at hx; subst hx; rfl) H63.out.1 H63.out.2 (by simp; exact Nat.le_trans HBR.out (Nat.le_succ _)) ?_)
      intro v8 w8 h8 g8 o8
      have K8 := hidT (HR.out.1.below HBR.out g8)
      have HX : Hid (OwB w8 base v8 (l' ++ [(q : Int)])) := OwB.of (m := [(q : Int)]) h8 rfl
      clear h8 g8 o8
      go_wp2_with fail
      go_ret
      obtain ⟨o1, k1, e1, n1, q1, p1⟩ := HR.out
      refine ⟨v8, rfl, ?_, k1.trans K8.out⟩
      have e2 : Tp.dgF gk.pred q = [(q : Int)] := by
        cases gk.pred with
        | zero => rfl
        | succ m => rw [Tp.dgF, if_pos (by omega)]
      rw [e1, e2]
      exact HX.out
theorem putNm (w : World) (base : Nat) (v : Value) (l : List Int) (n : Int) (h0 : -9223372036854775808 ≤ n) (h1 : n ≤ 9223372036854775807) (ho : OwB w base v l) (hb : base ≤ w.heap.size) (hl : l.length ≤ 100000000) :
    Calls Try.prog 34 #[v, .int .i64 n] w (PuQ w base (l ++ Tp.dg (Tp.zg n))) := by
  have HP := hidT (putDg w base v l (Tp.zg n) (Tp.zg_lt n h0 h1) ho hb hl)
  clear ho hb hl
  go_enter Try.func34, Try.ntmps34
  go_wp2_with fail
  refine (unsigned_any n _ h0 h1).mono ?_
  rintro e w' ⟨rfl, rfl⟩
  go_wp2_with fail
  refine HP.out.mono ?_
  rintro e w' ⟨v', rfl, O, K⟩
  have HO := hidT O
  have HK := hidT K
  clear O K
  go_wp2_with fail
  go_ret
  exact ⟨v', rfl, HO.out, HK.out⟩
theorem putCt (w : World) (base : Nat) (v : Value) (l : List Int) (n : Nat) (h1 : (n : Int) ≤ 9223372036854775807) (ho : OwB w base v l) (hb : base ≤ w.heap.size) (hl : l.length ≤ 100000000) :
    Calls Try.prog 33 #[v, .int .i64 n] w (PuQ w base (l ++ Tp.dg n)) := by
  have HP := hidT (putDg w base v l n (by omega) ho hb hl)
  clear ho hb hl
  go_enter Try.func33, Try.ntmps33
  go_wp2_with fail
  refine HP.out.mono ?_
  rintro e w' ⟨v', rfl, O, K⟩
  have HO := hidT O
  have HK := hidT K
  clear O K
  go_wp2_with fail
  go_ret
  exact ⟨v', rfl, HO.out, HK.out⟩
theorem numP_any (w : World) (n : Int) (h0 : -9223372036854775808 ≤ n) (h1 : n ≤ 9223372036854775807) :
    Calls Try.prog 21 #[.int .i64 n] w (PuQ w w.heap.size (Tp.dg (Tp.zg n))) := by
  have HP := hidT (putNm w w.heap.size (.slice none 0 0) [] n h0 h1 (World.ownsRow_nil _ _ _ _) (Nat.le_refl _) (by simp))
  go_enter Try.func21, Try.ntmps21
  go_wp2_with fail
  refine HP.out.mono ?_
  rintro e w' ⟨v', rfl, O, K⟩
  have HO := hidT O
  have HK := hidT K
  clear O K
  go_wp2_with fail
  go_ret
  exact ⟨v', rfl, HO.out, HK.out⟩
end Go.Proofs.Ytneefpblfiedbaa
