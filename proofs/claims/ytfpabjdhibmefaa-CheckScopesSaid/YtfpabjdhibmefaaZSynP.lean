/- Layer 3: readExpr. -/
/- Layer 3: readExpr, and Expr. -/
/- The statements' own fixed calls (known) come out true wherever the table of powers of ten is as the library lays it. -/
/- The statements' own guard 'long': of any texts, whether their bytes and their number together are more than 3000. -/
/- Words of a text, and joined ones: plain mathematics. -/
/- Slices of texts: the reference's Same, Words and Join, for every texts of at most some thousand bytes. -/
/- Print, for every tokens whose text is not beyond all bounds. -/
/- The fixed calls of layer 2's statements (known) come out true. -/
/- Layer 3: Expr. -/
/- Layer 3: right expressions, and what they are written as: plain functions (with fuel). -/
/- Layer 3: rightExpr, where it tells true. -/
/- Layer 3: SameExpr tells true of what is the same. -/
/- Layer 3: the writer's small calls. -/
/- Layer 3: the writer of expressions. -/
/- Layer 3: the writer of expressions: expr. -/
/- Layer 3: PrintExpr. -/
import Derived.Test.YtfpabjdhibmefaaZSynH
import Derived.Test.YtfpabjdhibmefaaZSynB
import Derived.Lib.AppendIntMem
import Derived.Lib.Split
import Derived.Lib.IndexBytes
import Derived.Lib.Join
import Derived.Deep.QuietTactic
import Derived.BigQuiet
import Derived.Test.YtfpabjdhibmefaaZSypK
namespace Go.Proofs.Ytfpabjdhibmefaa
open Go.RowKit

/-- Block n is the box of the expression y, and the next token's number k lies in block m. -/
def XRel (V : World) (xb nb : Nat) (y : Sx.Ex) (k : Nat) (w' : World) : Prop :=
  ∃ kk nn mm sa sn sc ll, y = .mk kk nn mm ll ∧ Bx w' xb (.int .i64 kk) (.string ⟨(nn : List UInt8).toArray⟩) (.int .i64 mm) (.slice sa sn sc) ∧ ExS (fun g => V.heap.size ≤ g) w' (.slice sa sn sc) ll ∧
    w'.cell? ⟨nb, 0, none⟩ = some (.int .i64 (k : Int)) ∧ w'.frozen? ⟨nb, 0, none⟩ = false
theorem Keep.fill {D : Nat → Prop} {w w' : World} (h : Keep D w w') {g : Nat} (hg : w.heap.size ≤ g ∨ D g) (b0 b1 b2 b3 : Value) : Keep D w (Go.Proofs.Ytfpabjdhibmefaa.fill w' g b0 b1 b2 b3) := (((h.set (a := ⟨g, 0, none⟩) hg _).set (a := ⟨g, 1, none⟩) hg _).set (a := ⟨g, 2, none⟩) hg _).set (a := ⟨g, 3, none⟩) hg _
end Go.Proofs.Ytfpabjdhibmefaa

namespace Go.Proofs.Ytfpabjdhibmefaa
open Go.RowKit

theorem w2box_below (w : World) : Below w.heap.size w (w2box w) := by unfold w2box; go_grown
theorem w2box_size (w : World) : (w2box w).heap.size = w.heap.size + 2 := by simp [w2box]
theorem Keep.below' {D : Nat → Prop} {n : Nat} {w w' : World} (h : Keep D w w') (hn : n ≤ w.heap.size) (hD : ∀ g, D g → n ≤ g) : Below n w w' := ⟨h.os, h.tape, h.output, h.size, fun k hk => h.block k (Nat.lt_of_lt_of_le hk hn) fun e => absurd (hD k e) (by omega)⟩

theorem ExS.drew {A : Nat → Prop} {w : World} {sl : Value} {l : List Sx.Ex} (h : ExS A w sl l) : ExS A w.drew sl l := ExS.keep (w := w) (w' := w.drew) (fun _ _ a => a) (fun _ _ _ => rfl) (Nat.le_refl _) h
/-- What readExpr answers where an expression was read. -/
def RXok (w : World) (y : Sx.Ex) (k' : Nat) (e : Ending) (w' : World) : Prop :=
  ∃ kk nn mm sa sn sc ll, y = .mk kk nn mm ll ∧ e = .returned (.tuple #[.agg #[.int .i64 kk, .string ⟨(nn : List UInt8).toArray⟩, .int .i64 mm, .slice sa sn sc], .int .i64 (k' : Int), .int .i64 0, .int .i64 0]) ∧
    ExS (fun g => w.heap.size ≤ g) w' (.slice sa sn sc) ll ∧ Below w.heap.size w w'
/-- What readExpr answers where none was. -/
def RXbad (w : World) (a er : Int) (e : Ending) (w' : World) : Prop :=
  e = .returned (.tuple #[.agg #[.int .i64 0, .string ⟨#[]⟩, .int .i64 0, .slice none 0 0], .int .i64 0, .int .i64 a, .int .i64 er]) ∧ Below w.heap.size w w'
end Go.Proofs.Ytfpabjdhibmefaa

namespace Go.Proofs.Ytfpabjdhibmefaa
open Go.RowKit

theorem mag_big : Pl.parse [57, 50, 50, 51, 51, 55, 50, 48, 51, 54, 56, 53, 52, 55, 55, 53, 56, 48, 56] = none := by decide +kernel
theorem mag_least : Pl.parse [45, 57, 50, 50, 51, 51, 55, 50, 48, 51, 54, 56, 53, 52, 55, 55, 53, 56, 48, 56] = some (-9223372036854775808) := by decide +kernel
theorem itoa_least : Lib.itoa (-9223372036854775808) = [45, 57, 50, 50, 51, 51, 55, 50, 48, 51, 54, 56, 53, 52, 55, 55, 53, 56, 48, 56] := by decide +kernel

end Go.Proofs.Ytfpabjdhibmefaa

namespace Go.Proofs.Ytfpabjdhibmefaa
open Go.RowKit

/-- Bytes and number of the first k texts. -/
def tot (xs : List ByteArray) (k : Nat) : Nat := ((xs.take k).map fun s => s.size + 1).sum
theorem tot_zero (xs : List ByteArray) : tot xs 0 = 0 := by simp [tot]
theorem tot_succ (xs : List ByteArray) (k : Nat) (h : k < xs.length) : tot xs (k + 1) = tot xs k + ((xs.getD k ByteArray.empty).size + 1) := by
  unfold tot
  rw [List.take_succ_eq_append_getElem h, List.map_append, List.sum_append]
  simp [List.getD, h]
theorem tot_mono (xs : List ByteArray) (k n : Nat) (h : k ≤ n) : tot xs k ≤ tot xs n := by
  induction n with
  | zero => have : k = 0 := by omega
            subst this; exact Nat.le_refl _
  | succ n ih =>
    by_cases e : k = n + 1
    · subst e; exact Nat.le_refl _
    · have h1 := ih (by omega)
      by_cases hn : n < xs.length
      · rw [tot_succ xs n hn]; omega
      · have : tot xs (n + 1) = tot xs n := by unfold tot; rw [List.take_of_length_le (by omega), List.take_of_length_le (by omega)]
        omega
/-- Are the texts more than the statements look at? -/
def longB (xs : List ByteArray) : Bool := decide (3000 < tot xs xs.length)

end Go.Proofs.Ytfpabjdhibmefaa

namespace Go.Proofs.Ytfpabjdhibmefaa.Pl
open Go.RowKit

/-- A byte more at the head of the first word. -/
def onHead (c : UInt8) : List (List UInt8) → List (List UInt8)
  | [] => [[c]]
  | h :: r => (c :: h) :: r
/-- The words of a text: each blank ends one and begins the next. -/
def ws : List UInt8 → List (List UInt8)
  | [] => [[]]
  | c :: t => if c = 32 then [] :: ws t else onHead c (ws t)
theorem ws_ne (l : List UInt8) : ws l ≠ [] := by
  cases l with
  | nil => simp [ws]
  | cons c t =>
    unfold ws
    split
    · simp
    · cases h : ws t <;> simp [onHead]
def pre1 (w : List UInt8) : List (List UInt8) → List (List UInt8)
  | [] => [w]
  | h :: r => (w ++ h) :: r
theorem pre1_onHead (w : List UInt8) (c : UInt8) (l : List (List UInt8)) : pre1 w (onHead c l) = pre1 (w ++ [c]) l := by
  cases l <;> simp [pre1, onHead]

theorem index_blank_cons (t : List UInt8) : Lib.index (32 :: t) [32] = 0 := by
  unfold Lib.index; rw [if_pos (by simp [List.isPrefixOf])]
theorem index_other_cons {c : UInt8} (h : ¬ c = 32) (t : List UInt8) : Lib.index (c :: t) [32] = if Lib.index t [32] == -1 then -1 else Lib.index t [32] + 1 := by
  conv => lhs; unfold Lib.index
  rw [if_neg (by simp [List.isPrefixOf, Ne.symm h])]
theorem split_ws : ∀ l : List UInt8, Lib.split l [32] = ws l
  | [] => rfl
  | c :: t => by
    have ih := split_ws t
    unfold Lib.split at ih ⊢
    by_cases h : c = 32
    · subst h
      have h0 := index_blank_cons t
      have hc := Lib.count_hit (s := 32 :: t) (sub := [32]) (i := 0) (by simp) h0
      rw [hc, show (1 + Lib.count (List.drop (0 + [(32 : UInt8)].length) (32 :: t)) [32]) = Lib.count t [32] + 1 by simp [Nat.add_comm]]
      unfold Lib.splitK
      rw [if_neg (by rw [h0]; decide), h0]
      unfold ws
      rw [if_pos rfl]
      simpa using ih
    · unfold ws
      rw [if_neg h, ← ih]
      have hi := index_other_cons h t
      have hge := Lib.index_ge t [32]
      by_cases hm : Lib.index t [32] = -1
      · rw [if_pos (by rw [hm]; rfl)] at hi
        rw [Lib.count_miss hi, Lib.count_miss hm]
        rfl
      · obtain ⟨i, hi0⟩ : ∃ i : Nat, Lib.index t [32] = i := ⟨(Lib.index t [32]).toNat, by omega⟩
        have hi1 : Lib.index (c :: t) [32] = ((i + 1 : Nat) : Int) := by
          rw [hi, if_neg (by simpa using hm), hi0]; simp
        rw [Lib.count_hit (by simp) hi1, Lib.count_hit (by simp) hi0]
        rw [show List.drop (i + 1 + [(32 : UInt8)].length) (c :: t) = List.drop (i + [(32 : UInt8)].length) t by simp]
        generalize hk : Lib.count (List.drop (i + [(32 : UInt8)].length) t) [32] = k
        rw [Nat.add_comm 1 k]
        unfold Lib.splitK
        rw [if_neg (by rw [hi1]; simp; omega), if_neg (by rw [hi0]; simp), hi1, hi0]
        simp [onHead]

theorem count_ws : ∀ l : List UInt8, Lib.count l [32] + 1 = (ws l).length
  | [] => rfl
  | c :: t => by
    have ih := count_ws t
    by_cases h : c = 32
    · subst h
      rw [Lib.count_hit (s := 32 :: t) (sub := [32]) (i := 0) (by simp) (index_blank_cons t)]
      unfold ws
      rw [if_pos rfl]
      simp
      omega
    · unfold ws
      rw [if_neg h]
      have e : (onHead c (ws t)).length = (ws t).length := by
        cases h2 : ws t with
        | nil => exact absurd h2 (ws_ne t)
        | cons a r => rfl
      rw [e, ← ih]
      have hi := index_other_cons h t
      have hge := Lib.index_ge t [32]
      by_cases hm : Lib.index t [32] = -1
      · rw [if_pos (by rw [hm]; rfl)] at hi
        rw [Lib.count_miss hi, Lib.count_miss hm]
      · obtain ⟨i, hi0⟩ : ∃ i : Nat, Lib.index t [32] = i := ⟨(Lib.index t [32]).toNat, by omega⟩
        have hi1 : Lib.index (c :: t) [32] = ((i + 1 : Nat) : Int) := by
          rw [hi, if_neg (by simpa using hm), hi0]; simp
        rw [Lib.count_hit (by simp) hi1, Lib.count_hit (by simp) hi0]
        rw [show List.drop (i + 1 + [(32 : UInt8)].length) (c :: t) = List.drop (i + [(32 : UInt8)].length) t by simp]

/-- Where the reference's cutting stands: the word that is begun, and what is left. -/
def wsAt (w l : List UInt8) : List (List UInt8) := pre1 w (ws l)
theorem wsAt_nil (w : List UInt8) : wsAt w [] = [w] := by simp [wsAt, ws, pre1]
theorem wsAt_blank (w t : List UInt8) : wsAt w (32 :: t) = w :: wsAt [] t := by
  unfold wsAt
  rw [ws, if_pos rfl]
  cases h : ws t with
  | nil => exact absurd h (ws_ne t)
  | cons a r => simp [pre1]
theorem wsAt_other (w : List UInt8) {c : UInt8} (h : ¬ c = 32) (t : List UInt8) : wsAt w (c :: t) = wsAt (w ++ [c]) t := by
  unfold wsAt
  rw [ws, if_neg h, pre1_onHead]
theorem wsAt_all (l : List UInt8) : wsAt [] l = ws l := by
  unfold wsAt
  cases h : ws l with
  | nil => exact absurd h (ws_ne l)
  | cons a r => simp [pre1]

theorem ws_len (l : List UInt8) : (ws l).length ≤ l.length + 1 := by
  induction l with
  | nil => simp [ws]
  | cons c t ih =>
    unfold ws
    split
    · simp; omega
    · cases h : ws t with
      | nil => simp [onHead]
      | cons a r => rw [h] at ih; simp [onHead] at ih ⊢; omega

theorem join_snoc (xs : List (List UInt8)) (x : List UInt8) (h : xs ≠ []) : Lib.join (xs ++ [x]) [32] = Lib.join xs [32] ++ [32] ++ x := by
  cases xs with
  | nil => exact absurd rfl h
  | cons a r =>
    rw [List.cons_append, Lib.join_cons, Lib.join_cons]
    simp [Lib.joinTail]
theorem join_cons2 (x y : List UInt8) (r : List (List UInt8)) : Lib.join (x :: y :: r) [32] = x ++ 32 :: Lib.join (y :: r) [32] := by
  rw [Lib.join_cons, Lib.join_cons]
  simp [Lib.joinTail]
theorem join_ws : ∀ l : List UInt8, Lib.join (ws l) [32] = l
  | [] => rfl
  | c :: t => by
    have ih := join_ws t
    unfold ws
    cases hw : ws t with
    | nil => exact absurd hw (ws_ne t)
    | cons a r =>
      rw [hw] at ih
      split
      · rename_i h
        rw [join_cons2, ih, h]; rfl
      · show Lib.join ((c :: a) :: r) [32] = c :: t
        rw [Lib.join_cons] at ih ⊢
        rw [List.cons_append, ih]
theorem ws_plain : ∀ x : List UInt8, 32 ∉ x → ws x = [x]
  | [], _ => rfl
  | c :: t, h => by
    have h1 : ¬ c = 32 := fun e => h (by rw [e]; exact List.mem_cons_self)
    unfold ws
    rw [if_neg h1, ws_plain t (fun e => h (List.mem_cons_of_mem _ e))]
    rfl
theorem ws_append : ∀ (x t : List UInt8), 32 ∉ x → ws (x ++ 32 :: t) = x :: ws t
  | [], t, _ => by rw [List.nil_append, ws, if_pos rfl]
  | c :: x, t, h => by
    have h1 : ¬ c = 32 := fun e => h (by rw [e]; exact List.mem_cons_self)
    rw [List.cons_append, ws, if_neg h1, ws_append x t (fun e => h (List.mem_cons_of_mem _ e))]
    rfl
theorem ws_join : ∀ xs : List (List UInt8), xs ≠ [] → (∀ x ∈ xs, 32 ∉ x) → ws (Lib.join xs [32]) = xs
  | [], h, _ => absurd rfl h
  | [x], _, h => by rw [Lib.join_one]; exact ws_plain x (h x List.mem_cons_self)
  | x :: y :: r, _, h => by
    rw [join_cons2, ws_append _ _ (h x List.mem_cons_self), ws_join (y :: r) (by simp) (fun z hz => h z (List.mem_cons_of_mem _ hz))]
theorem bytes_inj {a b : ByteArray} (h : a.data.toList = b.data.toList) : a = b := by
  obtain ⟨⟨l⟩⟩ := a
  obtain ⟨⟨m⟩⟩ := b
  simp at h
  subst h
  rfl
theorem map_inj {xs ys : List ByteArray} (h : xs.map (·.data.toList) = ys.map (·.data.toList)) : xs = ys := by
  induction xs generalizing ys with
  | nil => cases ys with
    | nil => rfl
    | cons y r => simp at h
  | cons x t ih => cases ys with
    | nil => simp at h
    | cons y r =>
      simp only [List.map_cons, List.cons.injEq] at h
      rw [bytes_inj h.1, ih h.2]
end Go.Proofs.Ytfpabjdhibmefaa.Pl

namespace Go.Proofs.Ytfpabjdhibmefaa
open Go.RowKit

theorem infoStr : (Try.prog.info? 9).map (fun i => (i.zero, i.size, i.bytes)) = some (some (.string ⟨#[]⟩), 1, 16) := by kernel_rfl

/-- The texts xs lie from place o of block b on. -/
structure Sa (w : World) (b o : Nat) (xs : List ByteArray) : Prop where
  lt : b < w.heap.size
  get : ∀ j, j < xs.length → w.cell? ⟨b, o + j, none⟩ = some (.string (xs.getD j ByteArray.empty))
theorem Sa.later {w w' : World} {b o : Nat} {xs : List ByteArray} (h : Sa w b o xs) (hb : Below w.heap.size w w') : Sa w' b o xs :=
  ⟨Nat.lt_of_lt_of_le h.lt hb.size, fun j hj => (hb.cell (p := ⟨b, o + j, none⟩) h.lt).trans (h.get j hj)⟩

/-- The slice v is a row of the texts xs, among the blocks from base on. -/
def OwnS (w : World) (base : Nat) (v : Value) (xs : List ByteArray) : Prop := w.ownsRow base 9 1 v xs.length (xs.map Value.string)
theorem OwnS.nil (w : World) (base : Nat) : OwnS w base (.slice none 0 0) [] := World.ownsRow_nil _ _ _ _
theorem OwnS.snoc {w wr w1 : World} {o : Obj} {B : Nat} {v v' : Value} {xs : List ByteArray} {s : ByteArray} (hown : OwnS wr B v xs) (hnx : Below B w wr) (hB : B ≤ wr.heap.size)
    (h' : w1.ownsRow B 9 1 v' (xs.length + 1) (xs.map Value.string ++ [.string s])) (hg : (wr.alloc o).grownBy w1 v.ownBlock) : OwnS w1 B v' (xs ++ [s]) ∧ Below B w w1 := by
  refine ⟨?_, (hnx.alloc hB _).grown hg (by simp; omega) (fun g hg => (World.ownsRow.lt hown g hg).1)⟩
  unfold OwnS
  rw [List.length_append, List.map_append]
  exact h'
theorem OwnS.sa {w : World} {base : Nat} {v : Value} {xs : List ByteArray} (h : OwnS w base v xs) (hn : xs ≠ []) :
    ∃ g cap, v = .slice (some ⟨g, 0, none⟩) xs.length cap ∧ xs.length ≤ cap ∧ Sa w g 0 xs := by
  have hc := @World.ownsRow.cells _ _ _ _ _ _ _ h
  have hl := World.ownsRow.lt h
  rcases h.2 with ⟨_, h0⟩ | ⟨g, cap, cur, rfl, hb, _, hnc, _⟩
  · exact absurd (List.length_eq_zero_iff.1 h0) hn
  · refine ⟨g, cap, rfl, hnc, (hl g rfl).2, fun j hj => ?_⟩
    have := @hc g rfl j (.string (xs.getD j ByteArray.empty)) (by simp [hj])
    cases j with
    | zero => simpa [Addr.add] using this
    | succ j => simpa [Addr.add] using this
theorem one_cell_s (w : World) (x : ByteArray) (t : TypeId) : ∀ (j : Nat) u, [Value.string x][j]? = some u → (w.alloc (.cells #[.string x] t)).cell? ((⟨w.heap.size, 0, none⟩ : Addr).add j) = some u := by
  intro j u hj
  match j, hj with
  | 0, hj => simp at hj; subst hj; simp [Addr.add]
theorem one_one_s (x : ByteArray) : ∀ u ∈ [Value.string x], u.oneCell' = true := by
  intro u hu; simp at hu; subst hu; rfl
theorem cut_one (s : ByteArray) (k : Nat) (h : k < s.size) (t : ByteArray) : (t ++ s.extract k (k + 1)).data.toList = t.data.toList ++ [s[k]] := by
  have h1 : (s.extract k (k + 1)).data.toList = [s[k]] := by
    rw [Lib.extract_data, Pl.drop_at s k h, show k + 1 - k = 1 by omega]; rfl
  rw [← h1]
  simp

theorem map_take_succ (xs : List ByteArray) (k : Nat) (h : k < xs.length) : (xs.take (k + 1)).map (·.data.toList) = (xs.take k).map (·.data.toList) ++ [(xs.getD k ByteArray.empty).data.toList] := by
  rw [List.take_succ_eq_append_getElem h, List.map_append]
  simp [List.getD, h]
theorem join_len (xs : List ByteArray) : ∀ k, k ≤ xs.length → (Lib.join ((xs.take k).map (·.data.toList)) [32]).length ≤ tot xs k
  | 0, _ => by simp [Lib.join_nil]
  | k + 1, h => by
    have ih := join_len xs k (by omega)
    rw [map_take_succ xs k (by omega), tot_succ xs k (by omega)]
    have hsz : (xs.getD k ByteArray.empty).data.toList.length = (xs.getD k ByteArray.empty).size := by rw [Array.length_toList, ByteArray.size_data]
    by_cases hk : k = 0
    · subst hk
      rw [List.take_zero, List.map_nil, List.nil_append, Lib.join_one, hsz]; omega
    · rw [Pl.join_snoc _ _ (by
        intro e
        have := congrArg List.length e
        rw [List.length_map, List.length_take, List.length_nil] at this
        omega)]
      simp only [List.length_append, List.length_singleton, hsz]
      omega

end Go.Proofs.Ytfpabjdhibmefaa

namespace Go.Proofs.Ytfpabjdhibmefaa
open Go.RowKit

/-- A token's text: an integer's digits. -/
def txt (x : Tok) : List UInt8 := if x.1.kind = 2 then Lib.itoa x.1.num else x.1.text
def texts (ts : List Tok) (k : Nat) : List (List UInt8) := (List.range k).map fun j => txt (ts.getD j tok0)
theorem texts_succ (ts : List Tok) (k : Nat) : texts ts (k + 1) = texts ts k ++ [txt (ts.getD k tok0)] := by
  unfold texts; rw [List.range_succ, List.map_append]; rfl
/-- What Print writes: nothing of the end. -/
def printL (ts : List Tok) : List UInt8 := Lib.join (texts ts (ts.length - 1)) [32]
theorem OwnS.shape {w : World} {base : Nat} {v : Value} {xs : List ByteArray} (h : OwnS w base v xs) : ∃ ao cap, v = .slice ao xs.length cap := by
  rcases h.2 with ⟨rfl, h0⟩ | ⟨g, cap, cur, rfl, _⟩
  · exact ⟨none, 0, by rw [h0]⟩
  · exact ⟨_, cap, rfl⟩
theorem OwnS.later {w w' : World} {base : Nat} {v : Value} {xs : List ByteArray} (h : OwnS w base v xs) (hb : Below w.heap.size w w') : OwnS w' base v xs :=
  World.ownsRow.kept h (row := none) ⟨hb.os, hb.tape, hb.output, hb.size, fun k hk _ => hb.block k hk⟩ (by
    rcases h.2 with ⟨rfl, _⟩ | ⟨g, cap, cur, rfl, _⟩
    · exact .inl rfl
    · exact .inr (by simp [Value.ownBlock]))
theorem snoc_plain {w wr w1 : World} {o : Obj} {B : Nat} {v v' : Value} {xs : List ByteArray} {s : ByteArray} (hown : OwnS wr B v xs) (hnx : Below B w wr) (hB : B ≤ wr.heap.size)
    (h' : w1.ownsRow B 9 1 v' (xs.length + 1) (xs.map Value.string ++ [.string s])) (hg : (wr.alloc o).grownBy w1 v.ownBlock) : OwnS w1 B v' (xs ++ [s]) ∧ Below B w w1 := hown.snoc hnx hB h' hg

end Go.Proofs.Ytfpabjdhibmefaa

namespace Go.Proofs.Ytfpabjdhibmefaa
open Go.RowKit

theorem flat_at (i : Nat) (hi : i < 4) : ∀ (ts : List (Lx.Tk × Nat)) (j : Nat), (ts.flatMap cellsT)[j * 4 + i]? = (ts[j]?).bind fun x => (cellsT x)[i]?
  | [], j => by simp
  | x :: r, 0 => by
    rw [List.flatMap_cons, List.getElem?_append_left (by simp [cellsT]; omega)]
    simp
  | x :: r, j + 1 => by
    rw [List.flatMap_cons, List.getElem?_append_right (by simp [cellsT]; omega), show (j + 1) * 4 + i - (cellsT x).length = j * 4 + i by simp [cellsT]; omega, flat_at i hi r j]
    simp
/-- A token with its place as a number. -/
def tkI (x : Lx.Tk × Nat) : Tok := (x.1, (x.2 : Int))
theorem OwnT.ta {w : World} {base : Nat} {v : Value} {ts : List (Lx.Tk × Nat)} (h : OwnT w base v ts) (hn : ts ≠ []) :
    ∃ g cap, v = .slice (some ⟨g, 0, none⟩) ts.length cap ∧ ts.length ≤ cap ∧ base ≤ g ∧ Ta w g 0 (ts.map tkI) := by
  have hc := @World.ownsRow.cells _ _ _ _ _ _ _ h
  have hl := World.ownsRow.lt h
  rcases h.2 with ⟨_, h0⟩ | ⟨g, cap, cur, rfl, hb, _, hnc, _⟩
  · exact absurd (List.length_eq_zero_iff.1 h0) hn
  · have key : ∀ (j i : Nat) (u : Value), j < ts.length → i < 4 → ((ts[j]?).bind fun x => (cellsT x)[i]?) = some u → w.cell? ⟨g, 0 + j * 4 + i, none⟩ = some u := by
      intro j i u hj hi hu
      have := @hc g rfl (j * 4 + i) u (by rw [flat_at i hi]; exact hu)
      have e : (⟨g, 0, none⟩ : Addr).add (j * 4 + i) = ⟨g, 0 + j * 4 + i, none⟩ := by unfold Addr.add; split <;> simp_all
      rw [e] at this
      exact this
    refine ⟨g, cap, rfl, hnc, (hl g rfl).1, (hl g rfl).2, ?_, ?_, ?_, ?_⟩
    all_goals
      intro j hj
      rw [List.length_map] at hj
      first
        | exact key j 0 _ hj (by omega) (by simp [hj, cellsT, tkI])
        | exact key j 1 _ hj (by omega) (by simp [hj, cellsT, tkI])
        | exact key j 2 _ hj (by omega) (by simp [hj, cellsT, tkI])
        | exact key j 3 _ hj (by omega) (by simp [hj, cellsT, tkI])

theorem k_x : Lx.scan [120, 61, 49, 35, 121] = ([(⟨1, [120], 0⟩, 0), (⟨4, [61], 0⟩, 1), (⟨2, [], 1⟩, 2), (⟨0, [], 0⟩, 5)], 0, 0) := by kernel_rfl
theorem k_a : Lx.scan [97, 32, 64, 32, 98] = ([], 2, 20) := by kernel_rfl
theorem k_3 : Lx.scan [51, 120] = ([], 0, 20) := by kernel_rfl
def kTs : List Tok := [(⟨1, [97], 0⟩, 0), (⟨4, [60, 61], 0⟩, 0), (⟨2, [], 7⟩, 0), (⟨0, [], 0⟩, 0)]
theorem k_r : rightL kTs = true := by kernel_rfl
theorem k_p : printL kTs = [97, 32, 60, 61, 32, 55] := by kernel_rfl

theorem kTa (w : World) (t : TypeId) : Ta (w.alloc (.cells #[.int .i64 1, .string ⟨#[97]⟩, .int .i64 0, .int .i64 0, .int .i64 4, .string ⟨#[60, 61]⟩, .int .i64 0, .int .i64 0, .int .i64 2, .string ⟨#[]⟩, .int .i64 7, .int .i64 0, .int .i64 0, .string ⟨#[]⟩, .int .i64 0, .int .i64 0] t)) w.heap.size 0 kTs := by
  refine ⟨by simp, ?_, ?_, ?_, ?_⟩
  all_goals
    intro j hj
    match j, hj with
    | 0, _ => simp [kTs, tok0]
    | 1, _ => simp [kTs, tok0]
    | 2, _ => simp [kTs, tok0]
    | 3, _ => simp [kTs, tok0]
    | n + 4, h => simp [kTs] at h; omega
end Go.Proofs.Ytfpabjdhibmefaa

namespace Go.Proofs.Ytfpabjdhibmefaa
open Go.RowKit

theorem scanF_good (l : List UInt8) : ∀ (f at' : Nat) (ts R : List (Lx.Tk × Nat)) (a : Nat), ts.length ≤ 4000 → Lx.scanF l f at' ts = (R, a, 0) → R ≠ [] → ∃ ts' x, R = ts' ++ [x] ∧ x.1 = ⟨0, [], 0⟩ ∧ ts'.length ≤ 4000
  | 0, _, _, _, _, _, h, hn => by rw [Lx.scanF] at h; cases h; exact absurd rfl hn
  | f + 1, at', ts, R, a, hl, h, hn => by
    rw [Lx.scanF] at h
    split at h
    · cases h
    · rename_i t n hf
      split at h
      · cases h
      · split at h
        · rename_i hk
          rcases Lx.first_len hf with ⟨_, ht, _⟩ | ⟨ht, _⟩
          · have e := congrArg Prod.fst h
            exact ⟨ts, (t, Lx.skip l at'), e.symm, ht, hl⟩
          · exact absurd hk ht
        · exact scanF_good l f _ _ R a (by rw [List.length_append]; simp; omega) h hn
theorem scan_good {l : List UInt8} {R : List (Lx.Tk × Nat)} {a : Nat} (h : Lx.scan l = (R, a, 0)) (hn : R ≠ []) : Good (R.map tkI) := by
  unfold Lx.scan at h
  split at h
  · cases h
  · obtain ⟨ts', x, rfl, hx, hl⟩ := scanF_good l _ _ [] R a (by simp) h hn
    refine ⟨by simp, by simp; omega, ?_⟩
    simp [tkI, hx]
/-- What Expr answers where an expression was read. -/
def EXok (w : World) (y : Sx.Ex) (e : Ending) (w' : World) : Prop :=
  ∃ kk nn mm sa sn sc ll, y = .mk kk nn mm ll ∧ e = .returned (.tuple #[.agg #[.int .i64 kk, .string ⟨(nn : List UInt8).toArray⟩, .int .i64 mm, .slice sa sn sc], .int .i64 0, .int .i64 0]) ∧
    ExS (fun g => w.heap.size ≤ g) w' (.slice sa sn sc) ll ∧ Below w.heap.size w w'
def EXbad (w : World) (a er : Int) (e : Ending) (w' : World) : Prop :=
  e = .returned (.tuple #[.agg #[.int .i64 0, .string ⟨#[]⟩, .int .i64 0, .slice none 0 0], .int .i64 a, .int .i64 er]) ∧ Below w.heap.size w w'
end Go.Proofs.Ytfpabjdhibmefaa

namespace Go.Proofs.Ytfpabjdhibmefaa.Sx
open Go.RowKit

def exK : Ex → Int | .mk k _ _ _ => k
def rx : Nat → Ex → Bool
  | 0, _ => false
  | f + 1, .mk k n m l => l.all (rx f) &&
    (if k = 1 then decide (n = []) && decide (0 ≤ m) && decide (l.length = 0)
    else if k = 2 then decide (n = []) && (decide (m = 0) || decide (m = 1)) && decide (l.length = 0)
    else if k = 3 then Lx.isName n && decide (m = 0) && decide (l.length = 0)
    else if k = 4 then Lx.isName n && decide (m = 0) && decide (l.length = 1)
    else if k = 5 then isUn n && decide (m = 0) && decide (l.length = 1)
    else if k = 6 then decide (¬ bindsB n = 0) && decide (m = 0) && decide (l.length = 2)
    else false)
/-- The words of an expression, and how deep its deepest part is. -/
def wx : Nat → Ex → Nat → Option (List (List UInt8) × Nat)
  | 0, _, _ => none
  | f + 1, .mk k n m l, d =>
    if k = 1 then (if 0 ≤ m ∧ m ≤ 9223372036854775807 then some ([Lib.itoa m], d) else none)
    else if k = 2 then some ([if m = 1 then [116, 114, 117, 101] else [102, 97, 108, 115, 101]], d)
    else if k = 3 then some ([n], d)
    else if k = 4 then
      match l with
      | [a] => (match wx f a (d + 1) with
        | some (t, e) => some ([n, [91]] ++ t ++ [[93]], max d e)
        | none => none)
      | _ => none
    else if k = 5 then
      match l with
      | [a] => (match (if exK a = 6 then (match wx f a (d + 2) with
          | some (t, e) => some ([[40]] ++ t ++ [[41]], e)
          | none => none) else wx f a (d + 1)) with
        | some (t, e) => some ([n] ++ t, max d e)
        | none => none)
      | _ => none
    else if k = 6 then
      match l with
      | [a, b] => (match (if exK a = 6 then (match wx f a (d + 1) with
          | some (t, e) => some ([[40]] ++ t ++ [[41]], e)
          | none => none) else wx f a d) with
        | some (t, e) => (match (if exK b = 6 then (match wx f b (d + 1) with
            | some (u, e') => some ([[40]] ++ u ++ [[41]], e')
            | none => none) else wx f b d) with
          | some (u, e') => some (t ++ [n] ++ u, max (max d e) e')
          | none => none)
        | none => none)
      | _ => none
    else none
end Go.Proofs.Ytfpabjdhibmefaa.Sx

namespace Go.Proofs.Ytfpabjdhibmefaa
open Go.RowKit

theorem ExC.get {A : Nat → Prop} {w : World} {g : Nat} : ∀ {l : List Sx.Ex} {o : Nat} (_ : ExC A w g o l) (j : Nat), j < l.length → ∃ k n m sa sn sc ll, l[j]? = Option.some (.mk k n m ll) ∧
    w.cell? ⟨g, o + j * 4, Option.none⟩ = Option.some (.int .i64 k) ∧ w.cell? ⟨g, o + j * 4 + 1, Option.none⟩ = Option.some (.string ⟨(n : List UInt8).toArray⟩) ∧ w.cell? ⟨g, o + j * 4 + 2, Option.none⟩ = Option.some (.int .i64 m) ∧ w.cell? ⟨g, o + j * 4 + 3, Option.none⟩ = Option.some (.slice sa sn sc) ∧ ExS A w (.slice sa sn sc) ll := by
  intro l
  induction l with
  | nil => intro o _ j hj; simp at hj
  | cons x r ih =>
    intro o h j hj
    cases h with
    | cons _ _ k n m sl l _ c0 c1 c2 c3 hs hr =>
      obtain ⟨sa, sn, sc, rfl⟩ := hs.form
      cases j with
      | zero => exact ⟨k, n, m, sa, sn, sc, l, rfl, by simpa using c0, by simpa using c1, by simpa using c2, by simpa using c3, hs⟩
      | succ j =>
        obtain ⟨k, n, m, sa, sn, sc, ll, e, c0, c1, c2, c3, hs⟩ := ih hr j (by simpa using hj)
        have q : o + 4 + j * 4 = o + (j + 1) * 4 := by omega
        rw [q] at c0 c1 c2 c3
        exact ⟨k, n, m, sa, sn, sc, ll, by simpa using e, c0, c1, c2, c3, hs⟩
theorem ExS.inv {A : Nat → Prop} {w : World} {sl : Value} {l : List Sx.Ex} (h : ExS A w sl l) (hl : 0 < l.length) : ∃ g o cap, sl = .slice (Option.some ⟨g, o, Option.none⟩) l.length cap ∧ l.length ≤ cap ∧ A g ∧ g < w.heap.size ∧ ExC A w g o l := by
  cases h with
  | nil a cap => exact absurd hl (by simp)
  | some g o cap len _ hl' h0 hc ha hg h => exact ⟨g, o, cap, by rw [hl'], hc, ha, hg, h⟩
theorem ExS.len {A : Nat → Prop} {w : World} {sa : Option Addr} {sn sc : Nat} {l : List Sx.Ex} (h : ExS A w (.slice sa sn sc) l) : sn = l.length := by
  cases h with
  | nil a cap => rfl
  | some g o cap len l hl h0 hc ha hg h => exact hl
theorem Bx.box (w : World) (t : TypeId) (a0 a1 a2 a3 : Value) {w' : World} (b : Below (w.alloc (.cells #[a0, a1, a2, a3] t)).heap.size (w.alloc (.cells #[a0, a1, a2, a3] t)) w') : Bx w' w.heap.size a0 a1 a2 a3 := (Bx.new w t a0 a1 a2 a3).later b (by simp)
end Go.Proofs.Ytfpabjdhibmefaa

namespace Go.Proofs.Ytfpabjdhibmefaa
open Go.RowKit

namespace Sx
/-- An expression no part of which has more than two parts. -/
inductive Small : Ex → Prop
  | mk (k : Int) (n : List UInt8) (m : Int) (l : List Ex) (hl : l.length ≤ 2) (h : ∀ x, x ∈ l → Small x) : Small (.mk k n m l)
theorem Small.none (k : Int) (n : List UInt8) (m : Int) : Small (.mk k n m []) := .mk _ _ _ _ (by simp) (fun _ h => by cases h)
theorem Small.one {x : Ex} (h : Small x) (k : Int) (n : List UInt8) (m : Int) : Small (.mk k n m [x]) := .mk _ _ _ _ (by simp) (fun y hy => by rw [List.mem_singleton.1 hy]; exact h)
theorem Small.two {x y : Ex} (h : Small x) (h' : Small y) (k : Int) (n : List UInt8) (m : Int) : Small (.mk k n m [x, y]) := .mk _ _ _ _ (by simp) (fun z hz => by
  rcases List.mem_cons.1 hz with rfl | hz
  · exact h
  · rw [List.mem_singleton.1 hz]; exact h')
theorem shut_sm {ts : List Tok} {s : List UInt8} {g : Ex → Ex} {A : Option Rs} {x : Ex} {k' : Nat} (hg : ∀ y, Small y → Small (g y)) (hA : ∀ y k, A = some (.ok y k) → Small y) (h : shut ts s g A = some (.ok x k')) : Small x := by
  match A, h, hA with
  | some (.ok y k), h, hA =>
    rw [shut_ok] at h
    by_cases c : tx ts k = s
    · rw [if_pos c] at h; cases h; exact hg y (hA y k rfl)
    · rw [if_neg c] at h; cases h
  | some (.bad a e), h, _ => cases h
  | none, h, _ => cases h
theorem small (ts : List Tok) : ∀ f, (∀ d k x k', un ts f d k = some (.ok x k') → Small x) ∧ (∀ q d k x k', bd ts f q d k = some (.ok x k') → Small x) ∧ (∀ q d y k x k', Small y → lp ts f q d y k = some (.ok x k') → Small x)
  | 0 => ⟨fun d k x k' h => (by rw [un] at h; cases h), fun q d k x k' h => (by rw [bd] at h; cases h), fun q d y k x k' _ h => (by rw [lp] at h; cases h)⟩
  | f + 1 => by
    obtain ⟨hu, hb, hl⟩ := small ts f
    refine ⟨fun d k x k' h => ?_, fun q d k x k' h => ?_, fun q d y k x k' hk h => ?_⟩
    · rw [un] at h
      by_cases c1 : begE (ts.getD k tok0) = false
      · rw [if_pos c1] at h; cases h
      rw [if_neg c1] at h
      by_cases c2 : 60 < d
      · rw [if_pos c2] at h; cases h
      rw [if_neg c2] at h
      by_cases c3 : (ts.getD k tok0).1.kind = 2
      · rw [if_pos c3] at h; cases h; exact Small.none _ _ _
      rw [if_neg c3] at h
      by_cases c4 : (ts.getD k tok0).1.kind = 1
      · rw [if_pos c4] at h
        by_cases c5 : tx ts (k + 1) = [91]
        · rw [if_pos c5] at h
          exact shut_sm (fun y hy => hy.one _ _ _) (fun y j e => hb _ _ _ _ _ e) h
        · rw [if_neg c5] at h; cases h; exact Small.none _ _ _
      rw [if_neg c4] at h
      by_cases c6 : tx ts k = [116, 114, 117, 101]
      · rw [if_pos c6] at h; cases h; exact Small.none _ _ _
      rw [if_neg c6] at h
      by_cases c7 : tx ts k = [102, 97, 108, 115, 101]
      · rw [if_pos c7] at h; cases h; exact Small.none _ _ _
      rw [if_neg c7] at h
      by_cases c8 : tx ts k = [40]
      · rw [if_pos c8] at h
        exact shut_sm (fun y hy => hy) (fun y j e => hb _ _ _ _ _ e) h
      rw [if_neg c8] at h
      cases hw : un ts f (d + 1) (k + 1) with
      | none => rw [hw] at h; cases h
      | some w =>
        rw [hw] at h
        cases w with
        | ok y j => cases h; exact (hu _ _ _ _ hw).one _ _ _
        | bad a e => cases h
    · rw [bd] at h
      by_cases c1 : 5 < q
      · rw [if_pos c1] at h; exact hu _ _ _ _ h
      rw [if_neg c1] at h
      cases hw : bd ts f (q + 1) d k with
      | none => rw [hw] at h; cases h
      | some w =>
        rw [hw] at h
        cases w with
        | ok y j => exact hl _ _ _ _ _ _ (hb _ _ _ _ _ hw) h
        | bad a e => cases h
    · rw [lp] at h
      by_cases c1 : bindsB (tx ts k) = q
      · rw [if_pos c1] at h
        cases hw : bd ts f (q + 1) d (k + 1) with
        | none => rw [hw] at h; cases h
        | some w =>
          rw [hw] at h
          cases w with
          | ok z j =>
            have e1 := hk.two (hb _ _ _ _ _ hw) 6 (tx ts k) 0
            simp only at h
            by_cases c2 : q = 3
            · rw [if_pos c2] at h; cases h; exact e1
            · rw [if_neg c2] at h; exact hl _ _ _ _ _ _ e1 h
          | bad a e => cases h
      · rw [if_neg c1] at h; cases h; exact hk
end Sx
/-- What is asked of SameExpr. -/
def SC (x : Sx.Ex) : Prop := ∀ (A B : Nat → Prop) (k : Int) (n : List UInt8) (m : Int) (l : List Sx.Ex) (sa sb : Option Addr) (sn sc tn tc : Nat) (w : World), x = .mk k n m l → ExS A w (.slice sa sn sc) l → ExS B w (.slice sb tn tc) l →
  Calls Try.prog 36 #[.agg #[.int .i64 k, .string ⟨n.toArray⟩, .int .i64 m, .slice sa sn sc], .agg #[.int .i64 k, .string ⟨n.toArray⟩, .int .i64 m, .slice sb tn tc]] w fun e w' => e = .returned (.bool true) ∧ Below w.heap.size w w'
set_option maxRecDepth 100000 in
set_option maxHeartbeats 1000000 in
theorem sameExprs_true (A B : Nat → Prop) (l : List Sx.Ex) (hR : ∀ x, x ∈ l → SC x) (sa sb : Option Addr) (sn sc tn tc : Nat) (w : World) (hs : ExS A w (.slice sa sn sc) l) (ht : ExS B w (.slice sb tn tc) l) (hl : l.length ≤ 2) :
    Calls Try.prog 24 #[.slice sa sn sc, .slice sb tn tc] w fun e w' => e = .returned (.bool true) ∧ Below w.heap.size w w' := by
  have hn := hs.len
  subst hn
  have hn := ht.len
  subst hn
  have HR : Hid (∀ x, x ∈ l → SC x) := hR
  have HS : Hid (ExS A w (.slice sa l.length sc) l) := hs
  have HT : Hid (ExS B w (.slice sb l.length tc) l) := ht
  clear hR hs ht
  go_enter Try.func24, Try.ntmps24
  go_wp2_with fail
  go_loopw [5] (fun i wr => ∃ k : Nat, k ≤ l.length ∧ i = .int .i64 k ∧ Below w.heap.size w wr) (fun i _ => l.length - (intOf i).toNat)
  case atStart => exact ⟨0, by omega, rfl, Below.refl _ _⟩
  case round =>
    obtain ⟨j, hj, rfl, hnx⟩ := hrel
    by_cases hlt : j < l.length
    · have HS' := HS.out.later hnx (Nat.le_refl _)
      have HT' := HT.out.later hnx (Nat.le_refl _)
      obtain ⟨g, o, cap, esl, hc, ha, hg, h⟩ := HS'.inv (by omega)
      cases esl
      obtain ⟨g', o', cap', esl', hc', ha', hg', h'⟩ := HT'.inv (by omega)
      cases esl'
      obtain ⟨k, n, m, sa', sn', sc', ll, el, c0, c1, c2, c3, hs'⟩ := h.get j hlt
      obtain ⟨k2, n2, m2, sb', tn', tc', ll2, el2, d0, d1, d2, d3, ht'⟩ := h'.get j hlt
      obtain ⟨rfl, rfl, rfl, rfl⟩ : k2 = k ∧ n2 = n ∧ m2 = m ∧ ll2 = ll := by
        have e := Option.some.inj (el.symm.trans el2)
        injection e with q1 q2 q3 q4
        exact ⟨q1.symm, q2.symm, q3.symm, q4.symm⟩
      have E1 : Hid (∀ W, Below wr.heap.size wr W → Calls Try.prog 36 #[.agg #[.int .i64 k2, .string ⟨n2.toArray⟩, .int .i64 m2, .slice sa' sn' sc'], .agg #[.int .i64 k2, .string ⟨n2.toArray⟩, .int .i64 m2, .slice sb' tn' tc']] W fun e w' => e = .returned (.bool true) ∧ Below W.heap.size W w') := by
        intro W hW
        exact HR.out _ (List.mem_of_getElem? el) A B k2 n2 m2 ll2 sa' sb' sn' sc' tn' tc' W rfl (hs'.later hW (Nat.le_refl _)) (ht'.later hW (Nat.le_refl _))
      clear h hs' el ha h' ht' el2 ha'
      have NX : Hid _ := hnx
      clear hnx
      go_wp2_with fail
      go_region_with (go_at_call 36; refine Calls.mono (E1.out _ (by go_grown)) ?_; rintro e w1 ⟨rfl, b1⟩)
      all_goals
        have b2 : Below wr.heap.size wr w1 := Below.trans (by go_grown) (b1.mono (by go_size))
        have B1 : Hid (Below w.heap.size w w1) := NX.out.trans (b2.mono NX.out.size)
        clear b1 b2
        go_wp2_with fail
        go_roundw
        case rel => exact ⟨j + 1, by omega, by go_num, B1.out⟩
        case measure => simp [intOf]; omega
    · obtain rfl : j = l.length := by omega
      go_wp2_with fail
      go_ret
      exact ⟨rfl, hnx⟩
set_option maxRecDepth 100000 in
set_option maxHeartbeats 1000000 in
theorem sameExpr_true {x : Sx.Ex} (h : Sx.Small x) : SC x := by
  induction h with
  | mk k n m l hl _ ih =>
    intro A B k' n' m' l' sa sb sn sc tn tc w hx hs ht
    injection hx with q1 q2 q3 q4
    subst q1 q2 q3 q4
    have E1 : Hid (∀ W, Below w.heap.size w W → Calls Try.prog 24 #[.slice sa sn sc, .slice sb tn tc] W fun e w' => e = .returned (.bool true) ∧ Below W.heap.size W w') := fun W hW => sameExprs_true A B l ih sa sb sn sc tn tc W (hs.later hW (Nat.le_refl _)) (ht.later hW (Nat.le_refl _)) hl
    clear ih hs ht hl
    go_enter Try.func36, Try.ntmps36
    go_wp2_with fail
    refine Calls.mono (E1.out _ (by go_grown)) ?_
    rintro e w1 ⟨rfl, b1⟩
    have B1 : Hid (Below w.heap.size w w1) := Below.trans (by go_grown) (b1.mono (by go_size))
    clear b1
    go_wp2_with fail
    go_ret
    exact ⟨rfl, B1.out⟩
end Go.Proofs.Ytfpabjdhibmefaa

namespace Go.Proofs.Ytfpabjdhibmefaa
open Go.RowKit

/-- The writer in block q: its words are xs, in the slice v of its own; the deepest part so far is dp. -/
structure Wr (w : World) (q : Nat) (v : Value) (xs : List ByteArray) (dp : Nat) : Prop where
  c0 : w.cell? ⟨q, 0, none⟩ = some v
  c1 : w.cell? ⟨q, 1, none⟩ = some (.int .i64 (dp : Int))
  f0 : w.frozen? ⟨q, 0, none⟩ = false
  f1 : w.frozen? ⟨q, 1, none⟩ = false
  own : OwnS w (q + 1) v xs
  lt : q < w.heap.size
/-- Block g is none of the writer's. -/
def Frn (q : Nat) (w : World) (v : Value) (g : Nat) : Prop := g ≠ q ∧ ¬ v.ownBlock = some g ∧ ∃ cur t z, ¬ t = 9 ∧ w.heap[g]? = some (.cells cur t z)
/-- What writing turns. -/
structure WS (q : Nat) (w : World) (v : Value) (w' : World) (v' : Value) : Prop where
  os : w'.os = w.os
  tape : w'.tape = w.tape
  output : w'.output = w.output
  size : w.heap.size ≤ w'.heap.size
  low : ∀ k, k < q → w'.heap[k]? = w.heap[k]?
  far : ∀ g, Frn q w v g → w'.heap[g]? = w.heap[g]? ∧ ¬ v'.ownBlock = some g
theorem WS.refl (q : Nat) (w : World) (v : Value) : WS q w v w v := ⟨rfl, rfl, rfl, Nat.le_refl _, fun _ _ => rfl, fun _ h => ⟨rfl, h.2.1⟩⟩
theorem WS.frn {q : Nat} {w w' : World} {v v' : Value} (h : WS q w v w' v') {g : Nat} (hg : Frn q w v g) : Frn q w' v' g := by
  obtain ⟨a, b⟩ := h.far g hg
  obtain ⟨c, _, cur, t, z, ht, hh⟩ := hg
  exact ⟨c, b, cur, t, z, ht, a.trans hh⟩
theorem WS.trans {q : Nat} {w w' w'' : World} {v v' v'' : Value} (h : WS q w v w' v') (k : WS q w' v' w'' v'') : WS q w v w'' v'' :=
  ⟨k.os.trans h.os, k.tape.trans h.tape, k.output.trans h.output, Nat.le_trans h.size k.size, fun i hi => (k.low i hi).trans (h.low i hi), fun g hg => ⟨(k.far g (h.frn hg)).1.trans (h.far g hg).1, (k.far g (h.frn hg)).2⟩⟩
theorem WS.of_below {q : Nat} {w w' : World} {v : Value} (hq : q ≤ w.heap.size) (b : Below w.heap.size w w') : WS q w v w' v :=
  ⟨b.os, b.tape, b.output, b.size, fun k hk => b.block k (by omega), fun g hg => ⟨by
    obtain ⟨_, _, cur, t, z, _, hh⟩ := hg
    have hl : g < w.heap.size := by
      by_cases e : g < w.heap.size
      · exact e
      · rw [Array.getElem?_eq_none (by omega)] at hh; cases hh
    exact b.block g hl, hg.2.1⟩⟩
theorem WS.below {q : Nat} {w w' : World} {v v' : Value} (h : WS q w v w' v') : Below q w w' := ⟨h.os, h.tape, h.output, h.size, h.low⟩
theorem Frn.lt {q : Nat} {w : World} {v : Value} {g : Nat} (h : Frn q w v g) : g < w.heap.size := by
  obtain ⟨_, _, cur, t, z, _, hh⟩ := h
  by_cases e : g < w.heap.size
  · exact e
  · rw [Array.getElem?_eq_none (by omega)] at hh; cases hh
theorem Wr.later {w w' : World} {q : Nat} {v : Value} {xs : List ByteArray} {dp : Nat} (h : Wr w q v xs dp) (b : Below w.heap.size w w') : Wr w' q v xs dp :=
  ⟨(b.cell (p := ⟨q, 0, none⟩) h.lt).trans h.c0, (b.cell (p := ⟨q, 1, none⟩) h.lt).trans h.c1, (b.frozen (p := ⟨q, 0, none⟩) h.lt).trans h.f0, (b.frozen (p := ⟨q, 1, none⟩) h.lt).trans h.f1, h.own.later b, Nat.lt_of_lt_of_le h.lt b.size⟩
/-- A new box is none of the writer's. -/
theorem Wr.frn {w : World} {q : Nat} {v : Value} {xs : List ByteArray} {dp : Nat} (h : Wr w q v xs dp) (cur : Array Value) (t : TypeId) (ht : ¬ t = 9) : Frn q (w.alloc (.cells cur t)) v w.heap.size :=
  ⟨by have := h.lt; omega, fun e => by have := (World.ownsRow.lt h.own _ e).2; omega, cur, t, (0, 0), ht, by show (w.heap.push _)[w.heap.size]? = _; simp⟩
theorem Bx.far {q : Nat} {w w' : World} {v v' : Value} {g : Nat} {a0 a1 a2 a3 : Value} (h : Bx w g a0 a1 a2 a3) (s : WS q w v w' v') (hg : Frn q w v g) : Bx w' g a0 a1 a2 a3 := by
  have e := (s.far g hg).1
  exact ⟨(World.cell?_of_block (w := w) e).trans h.c0, (World.cell?_of_block (w := w) e).trans h.c1, (World.cell?_of_block (w := w) e).trans h.c2, (World.cell?_of_block (w := w) e).trans h.c3, (World.frozen?_of_block (w := w) e).trans h.f0, (World.frozen?_of_block (w := w) e).trans h.f1, (World.frozen?_of_block (w := w) e).trans h.f2, (World.frozen?_of_block (w := w) e).trans h.f3, Nat.lt_of_lt_of_le h.lt s.size⟩
end Go.Proofs.Ytfpabjdhibmefaa

namespace Go.Proofs.Ytfpabjdhibmefaa
open Go.RowKit

def tb (l : List UInt8) : ByteArray := ⟨l.toArray⟩
theorem two_cell_s (w : World) (x y : ByteArray) (t : TypeId) : ∀ (j : Nat) u, [Value.string x, Value.string y][j]? = some u → (w.alloc (.cells #[.string x, .string y] t)).cell? ((⟨w.heap.size, 0, none⟩ : Addr).add j) = some u := by
  intro j u hj
  match j, hj with
  | 0, hj => simp at hj; subst hj; simp [Addr.add]
  | 1, hj => simp at hj; subst hj; simp [Addr.add]
theorem ExS.ws {q : Nat} {w w' : World} {v v' : Value} {sl : Value} {l : List Sx.Ex} (h : ExS (fun g => g < q) w sl l) (s : WS q w v w' v') : ExS (fun g => g < q) w' sl l :=
  h.keep (fun _ _ a => a) (fun _ ha _ => World.cell?_of_block (w := w) (s.low _ ha)) s.size
end Go.Proofs.Ytfpabjdhibmefaa

namespace Go.Proofs.Ytfpabjdhibmefaa
open Go.RowKit

theorem ExS.kid0 {A : Nat → Prop} {w : World} {g o sn sc : Nat} {k m : Int} {n : List UInt8} {l r : List Sx.Ex} (h : ExS A w (.slice (Option.some ⟨g, o, Option.none⟩) sn sc) (.mk k n m l :: r)) :
    ∃ sa' sn' sc', w.cell? ⟨g, o, Option.none⟩ = Option.some (.int .i64 k) ∧ w.cell? ⟨g, o + 1, Option.none⟩ = Option.some (.string ⟨n.toArray⟩) ∧ w.cell? ⟨g, o + 2, Option.none⟩ = Option.some (.int .i64 m) ∧ w.cell? ⟨g, o + 3, Option.none⟩ = Option.some (.slice sa' sn' sc') ∧ ExS A w (.slice sa' sn' sc') l := by
  obtain ⟨g', o', cap, e, _, _, _, hc⟩ := h.inv (by simp)
  cases e
  cases hc with
  | cons _ _ _ _ _ sl _ _ c0 c1 c2 c3 hs hr =>
    obtain ⟨sa, sn', sc', rfl⟩ := hs.form
    exact ⟨sa, sn', sc', c0, c1, c2, c3, hs⟩
theorem ExS.kid1 {A : Nat → Prop} {w : World} {g o sn sc : Nat} {k m : Int} {n : List UInt8} {l r : List Sx.Ex} {x : Sx.Ex} (h : ExS A w (.slice (Option.some ⟨g, o, Option.none⟩) sn sc) (x :: .mk k n m l :: r)) :
    ∃ sa' sn' sc', w.cell? ⟨g, o + 4, Option.none⟩ = Option.some (.int .i64 k) ∧ w.cell? ⟨g, o + 4 + 1, Option.none⟩ = Option.some (.string ⟨n.toArray⟩) ∧ w.cell? ⟨g, o + 4 + 2, Option.none⟩ = Option.some (.int .i64 m) ∧ w.cell? ⟨g, o + 4 + 3, Option.none⟩ = Option.some (.slice sa' sn' sc') ∧ ExS A w (.slice sa' sn' sc') l := by
  obtain ⟨g', o', cap, e, _, _, _, hc⟩ := h.inv (by simp)
  cases e
  cases hc with
  | cons _ _ _ _ _ sl _ _ c0 c1 c2 c3 hs hr =>
    cases hr with
    | cons _ _ _ _ _ sl _ _ c0 c1 c2 c3 hs hr =>
      obtain ⟨sa, sn', sc', rfl⟩ := hs.form
      exact ⟨sa, sn', sc', c0, c1, c2, c3, hs⟩
end Go.Proofs.Ytfpabjdhibmefaa

namespace Go.Proofs.Ytfpabjdhibmefaa
open Go.RowKit

theorem tb_lists (ws : List (List UInt8)) : (ws.map tb).map (fun x : ByteArray => x.data.toList) = ws := by
  rw [List.map_map]
  conv => rhs; rw [← List.map_id ws]
  apply List.map_congr_left
  intro a _
  simp [tb]
theorem Wr.new (w : World) (t : TypeId) : Wr (w.alloc (.cells #[.slice none 0 0, .int .i64 0] t)) w.heap.size (.slice none 0 0) [] 0 :=
  ⟨by simp [go_sem], by simp [go_sem], World.frozen?_alloc_at _ _ _ _ rfl, World.frozen?_alloc_at _ _ _ _ rfl, OwnS.nil _ _, by simp⟩
end Go.Proofs.Ytfpabjdhibmefaa
