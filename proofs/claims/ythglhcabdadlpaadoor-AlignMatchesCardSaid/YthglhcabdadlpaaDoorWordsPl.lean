/- Words of a text, and joined ones: plain mathematics. -/
import Derived.Test.YthglhcabdadlpaaDoorPlain
import Derived.Lib.Split
import Derived.Lib.IndexBytes
import Derived.Lib.Join
namespace Go.Proofs.YthglhcabdadlpaaDoor.Pl
open Go.RowKit

/-- A byte more at the head of the first word. -/
def onHead (c : UInt8) : List (List UInt8) → List (List UInt8)
  | [] => [[c]]
  | h :: r => (c :: h) :: r
/-- The words of a text: each blank ends one and begins the next. -/
def ws : List UInt8 → List (List UInt8)
  | [] => [[]]
  | c :: t => if c = 32 then [] :: ws t else onHead c (ws t)
theorem ws_ne (l : List UInt8) : ws l ≠ [] := by
  cases l with
  | nil => simp [ws]
  | cons c t =>
    unfold ws
    split
    · simp
    · cases h : ws t <;> simp [onHead]
def pre1 (w : List UInt8) : List (List UInt8) → List (List UInt8)
  | [] => [w]
  | h :: r => (w ++ h) :: r
theorem pre1_onHead (w : List UInt8) (c : UInt8) (l : List (List UInt8)) : pre1 w (onHead c l) = pre1 (w ++ [c]) l := by
  cases l <;> simp [pre1, onHead]

theorem index_blank_cons (t : List UInt8) : Lib.index (32 :: t) [32] = 0 := by
  unfold Lib.index; rw [if_pos (by simp [List.isPrefixOf])]
theorem index_other_cons {c : UInt8} (h : ¬ c = 32) (t : List UInt8) : Lib.index (c :: t) [32] = if Lib.index t [32] == -1 then -1 else Lib.index t [32] + 1 := by
  conv => lhs; unfold Lib.index
  rw [if_neg (by simp [List.isPrefixOf, Ne.symm h])]
theorem split_ws : ∀ l : List UInt8, Lib.split l [32] = ws l
  | [] => rfl
  | c :: t => by
    have ih := split_ws t
    unfold Lib.split at ih ⊢
    by_cases h : c = 32
    · subst h
      have h0 := index_blank_cons t
      have hc := Lib.count_hit (s := 32 :: t) (sub := [32]) (i := 0) (by simp) h0
      rw [hc, show (1 + Lib.count (List.drop (0 + [(32 : UInt8)].length) (32 :: t)) [32]) = Lib.count t [32] + 1 by simp [Nat.add_comm]]
      unfold Lib.splitK
      rw [if_neg (by rw [h0]; decide), h0]
      unfold ws
      rw [if_pos rfl]
      simpa using ih
    · unfold ws
      rw [if_neg h, ← ih]
      have hi := index_other_cons h t
      have hge := Lib.index_ge t [32]
      by_cases hm : Lib.index t [32] = -1
      · rw [if_pos (by rw [hm]; rfl)] at hi
        rw [Lib.count_miss hi, Lib.count_miss hm]
        rfl
      · obtain ⟨i, hi0⟩ : ∃ i : Nat, Lib.index t [32] = i := ⟨(Lib.index t [32]).toNat, by omega⟩
        have hi1 : Lib.index (c :: t) [32] = ((i + 1 : Nat) : Int) := by
          rw [hi, if_neg (by simpa using hm), hi0]; simp
        rw [Lib.count_hit (by simp) hi1, Lib.count_hit (by simp) hi0]
        rw [show List.drop (i + 1 + [(32 : UInt8)].length) (c :: t) = List.drop (i + [(32 : UInt8)].length) t by simp]
        generalize hk : Lib.count (List.drop (i + [(32 : UInt8)].length) t) [32] = k
        rw [Nat.add_comm 1 k]
        unfold Lib.splitK
        rw [if_neg (by rw [hi1]; simp; omega), if_neg (by rw [hi0]; simp), hi1, hi0]
        simp [onHead]

theorem count_ws : ∀ l : List UInt8, Lib.count l [32] + 1 = (ws l).length
  | [] => rfl
  | c :: t => by
    have ih := count_ws t
    by_cases h : c = 32
    · subst h
      rw [Lib.count_hit (s := 32 :: t) (sub := [32]) (i := 0) (by simp) (index_blank_cons t)]
      unfold ws
      rw [if_pos rfl]
      simp
      omega
    · unfold ws
      rw [if_neg h]
      have e : (onHead c (ws t)).length = (ws t).length := by
        cases h2 : ws t with
        | nil => exact absurd h2 (ws_ne t)
        | cons a r => rfl
      rw [e, ← ih]
      have hi := index_other_cons h t
      have hge := Lib.index_ge t [32]
      by_cases hm : Lib.index t [32] = -1
      · rw [if_pos (by rw [hm]; rfl)] at hi
        rw [Lib.count_miss hi, Lib.count_miss hm]
      · obtain ⟨i, hi0⟩ : ∃ i : Nat, Lib.index t [32] = i := ⟨(Lib.index t [32]).toNat, by omega⟩
        have hi1 : Lib.index (c :: t) [32] = ((i + 1 : Nat) : Int) := by
          rw [hi, if_neg (by simpa using hm), hi0]; simp
        rw [Lib.count_hit (by simp) hi1, Lib.count_hit (by simp) hi0]
        rw [show List.drop (i + 1 + [(32 : UInt8)].length) (c :: t) = List.drop (i + [(32 : UInt8)].length) t by simp]

/-- Where the reference's cutting stands: the word that is begun, and what is left. -/
def wsAt (w l : List UInt8) : List (List UInt8) := pre1 w (ws l)
theorem wsAt_nil (w : List UInt8) : wsAt w [] = [w] := by simp [wsAt, ws, pre1]
theorem wsAt_blank (w t : List UInt8) : wsAt w (32 :: t) = w :: wsAt [] t := by
  unfold wsAt
  rw [ws, if_pos rfl]
  cases h : ws t with
  | nil => exact absurd h (ws_ne t)
  | cons a r => simp [pre1]
theorem wsAt_other (w : List UInt8) {c : UInt8} (h : ¬ c = 32) (t : List UInt8) : wsAt w (c :: t) = wsAt (w ++ [c]) t := by
  unfold wsAt
  rw [ws, if_neg h, pre1_onHead]
theorem wsAt_all (l : List UInt8) : wsAt [] l = ws l := by
  unfold wsAt
  cases h : ws l with
  | nil => exact absurd h (ws_ne l)
  | cons a r => simp [pre1]

theorem ws_len (l : List UInt8) : (ws l).length ≤ l.length + 1 := by
  induction l with
  | nil => simp [ws]
  | cons c t ih =>
    unfold ws
    split
    · simp; omega
    · cases h : ws t with
      | nil => simp [onHead]
      | cons a r => rw [h] at ih; simp [onHead] at ih ⊢; omega

theorem join_snoc (xs : List (List UInt8)) (x : List UInt8) (h : xs ≠ []) : Lib.join (xs ++ [x]) [32] = Lib.join xs [32] ++ [32] ++ x := by
  cases xs with
  | nil => exact absurd rfl h
  | cons a r =>
    rw [List.cons_append, Lib.join_cons, Lib.join_cons]
    simp [Lib.joinTail]
theorem join_cons2 (x y : List UInt8) (r : List (List UInt8)) : Lib.join (x :: y :: r) [32] = x ++ 32 :: Lib.join (y :: r) [32] := by
  rw [Lib.join_cons, Lib.join_cons]
  simp [Lib.joinTail]
theorem join_ws : ∀ l : List UInt8, Lib.join (ws l) [32] = l
  | [] => rfl
  | c :: t => by
    have ih := join_ws t
    unfold ws
    cases hw : ws t with
    | nil => exact absurd hw (ws_ne t)
    | cons a r =>
      rw [hw] at ih
      split
      · rename_i h
        rw [join_cons2, ih, h]; rfl
      · show Lib.join ((c :: a) :: r) [32] = c :: t
        rw [Lib.join_cons] at ih ⊢
        rw [List.cons_append, ih]
theorem ws_plain : ∀ x : List UInt8, 32 ∉ x → ws x = [x]
  | [], _ => rfl
  | c :: t, h => by
    have h1 : ¬ c = 32 := fun e => h (by rw [e]; exact List.mem_cons_self)
    unfold ws
    rw [if_neg h1, ws_plain t (fun e => h (List.mem_cons_of_mem _ e))]
    rfl
theorem ws_append : ∀ (x t : List UInt8), 32 ∉ x → ws (x ++ 32 :: t) = x :: ws t
  | [], t, _ => by rw [List.nil_append, ws, if_pos rfl]
  | c :: x, t, h => by
    have h1 : ¬ c = 32 := fun e => h (by rw [e]; exact List.mem_cons_self)
    rw [List.cons_append, ws, if_neg h1, ws_append x t (fun e => h (List.mem_cons_of_mem _ e))]
    rfl
theorem ws_join : ∀ xs : List (List UInt8), xs ≠ [] → (∀ x ∈ xs, 32 ∉ x) → ws (Lib.join xs [32]) = xs
  | [], h, _ => absurd rfl h
  | [x], _, h => by rw [Lib.join_one]; exact ws_plain x (h x List.mem_cons_self)
  | x :: y :: r, _, h => by
    rw [join_cons2, ws_append _ _ (h x List.mem_cons_self), ws_join (y :: r) (by simp) (fun z hz => h z (List.mem_cons_of_mem _ hz))]
theorem bytes_inj {a b : ByteArray} (h : a.data.toList = b.data.toList) : a = b := by
  obtain ⟨⟨l⟩⟩ := a
  obtain ⟨⟨m⟩⟩ := b
  simp at h
  subst h
  rfl
theorem map_inj {xs ys : List ByteArray} (h : xs.map (·.data.toList) = ys.map (·.data.toList)) : xs = ys := by
  induction xs generalizing ys with
  | nil => cases ys with
    | nil => rfl
    | cons y r => simp at h
  | cons x t ih => cases ys with
    | nil => simp at h
    | cons y r =>
      simp only [List.map_cons, List.cons.injEq] at h
      rw [bytes_inj h.1, ih h.2]
end Go.Proofs.YthglhcabdadlpaaDoor.Pl
