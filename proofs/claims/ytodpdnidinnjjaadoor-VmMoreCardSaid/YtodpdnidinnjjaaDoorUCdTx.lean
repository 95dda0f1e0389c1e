/- Layer 8, plain: instructions' lines there and back. No Go in sight; no condition beyond numbers of 64 bits. -/
import Derived.Test.YtodpdnidinnjjaaDoorUCdPl
import Derived.Test.YtodpdnidinnjjaaDoorULong
import Derived.Test.YtodpdnidinnjjaaDoorUGrN
namespace Go.Proofs.YtodpdnidinnjjaaDoor.Cd
open Go.RowKit

/-- The operations' words. -/
def wordL : List (List UInt8) := [[], [112, 117, 115, 104], [108, 111, 97, 100], [115, 116, 111, 114, 101], [105, 110, 100, 101, 120], [112, 117, 116], [99, 108, 101, 97, 114], [97, 100, 100], [115, 117, 98], [109, 117, 108], [100, 105, 118], [109, 111, 100], [108, 101, 115, 115], [109, 111, 115, 116], [115, 97, 109, 101], [110, 111, 116], [110, 101, 103], [106, 117, 109, 112], [122, 101, 114, 111], [99, 97, 108, 108], [108, 101, 97, 118, 101], [112, 114, 105, 110, 116], [114, 101, 97, 100], [116, 101, 115, 116], [109, 97, 114, 107], [100, 114, 111, 112]]
def wd (op : Int) : List UInt8 := wordL.getD op.toNat []
/-- The words of an instruction's line; the line. -/
def lw (i : In) : List (List UInt8) := [wd i.op, Lib.itoa i.n, Lib.itoa i.m].take (1 + (nm i.op).toNat)
def tx (i : In) : List UInt8 := Lib.join (lw i) [32]
/-- The operation of a word; 0: there is none. -/
def opOf (w : List UInt8) : Nat := if w = [] then 0 else if wordL.idxOf w < 26 then wordL.idxOf w else 0
def w64 (a : Int) : Prop := -9223372036854775808 ≤ a ∧ a ≤ 9223372036854775807
theorem opOf_at : ∀ k : Nat, k < 26 → 1 ≤ k → opOf (wordL.getD k []) = k := by decide +kernel
theorem opOf_is {w : List UInt8} (h : opOf w ≠ 0) : 1 ≤ opOf w ∧ opOf w ≤ 25 ∧ wordL[opOf w]? = some w := by
  unfold opOf at *
  split at h
  · exact absurd rfl h
  · split at h
    · rename_i hn hl
      rw [if_neg hn, if_pos hl]
      have h26 : wordL.length = 26 := rfl
      have e : wordL[wordL.idxOf w]? = some w := by rw [List.getElem?_eq_getElem (by omega), List.getElem_idxOf]
      exact ⟨by omega, by omega, e⟩
    · exact absurd rfl h
theorem wd_of {w : List UInt8} (h : opOf w ≠ 0) : wd (opOf w : Nat) = w := by
  unfold wd
  rw [Int.toNat_natCast, List.getD_eq_getElem?_getD, (opOf_is h).2.2]
  rfl
theorem opOf_wd {op : Int} (h0 : 1 ≤ op) (h1 : op ≤ 25) : (opOf (wd op) : Int) = op := by
  unfold wd
  rw [opOf_at op.toNat (by omega) (by omega)]
  omega
theorem nm_all : ∀ k : Nat, k < 26 → numsL.getD k 0 = 0 ∨ numsL.getD k 0 = 1 ∨ numsL.getD k 0 = 2 := by decide
theorem nm_is (op : Int) : nm op = 0 ∨ nm op = 1 ∨ nm op = 2 := by
  unfold nm
  by_cases h : op.toNat < 26
  · exact nm_all _ h
  · left
    rw [List.getD_eq_getElem?_getD, List.getElem?_eq_none (by show 26 ≤ _; omega)]
    rfl
/-- The instruction whose line a text is. -/
def pz (s : List UInt8) : Option In :=
  if s = [] then none else match Pl.ws s with
  | [a] => if opOf a ≠ 0 ∧ nm (opOf a) = 0 then some ⟨opOf a, 0, 0⟩ else none
  | [a, b] => if opOf a ≠ 0 ∧ nm (opOf a) = 1 then (Pl.parse b).map fun n => ⟨opOf a, n, 0⟩ else none
  | [a, b, c] => if opOf a ≠ 0 ∧ nm (opOf a) = 2 then (Pl.parse b).bind fun n => (Pl.parse c).map fun m => ⟨opOf a, n, m⟩ else none
  | _ => none
theorem word_ne : ∀ k : Nat, k < 26 → 32 ∉ wordL.getD k [] := by decide +kernel
theorem word_some : ∀ k : Nat, k < 26 → 1 ≤ k → wordL.getD k [] ≠ [] := by decide +kernel
theorem dec_no32 (u : Nat) : 32 ∉ Lib.decDigits u := fun h => absurd (Pl.dec_digit u 32 h).1 (by decide)
theorem itoa_no32 (a : Int) : 32 ∉ Lib.itoa a := by
  unfold Lib.itoa
  split
  · intro h
    rcases List.mem_cons.1 h with h | h
    · exact absurd h (by decide)
    · exact dec_no32 _ h
  · exact dec_no32 _
theorem hl_op {i : In} (h : hl i = true) : 1 ≤ i.op ∧ i.op ≤ 25 ∧ (nm i.op = 0 → i.n = 0) ∧ (nm i.op ≤ 1 → i.m = 0) := by
  unfold hl at h
  simp only [Bool.and_eq_true, decide_eq_true_eq, Bool.or_eq_true, beq_iff_eq] at h
  obtain ⟨⟨⟨h1, h2⟩, h3⟩, h4⟩ := h
  exact ⟨h1, h2, fun e => by omega, fun e => by omega⟩
theorem hl_mk {i : In} (h0 : 1 ≤ i.op) (h1 : i.op ≤ 25) (h2 : nm i.op = 0 → i.n = 0) (h3 : nm i.op ≤ 1 → i.m = 0) : hl i = true := by
  unfold hl
  simp only [Bool.and_eq_true, decide_eq_true_eq, Bool.or_eq_true, beq_iff_eq]
  have := nm_is i.op
  refine ⟨⟨⟨h0, h1⟩, ?_⟩, ?_⟩
  · by_cases e : nm i.op = 0
    · exact .inl (h2 e)
    · exact .inr (by omega)
  · by_cases e : nm i.op ≤ 1
    · exact .inl (h3 e)
    · exact .inr (by omega)
theorem lw_no {i : In} (h : hl i = true) : lw i ≠ [] ∧ ∀ x ∈ lw i, 32 ∉ x := by
  obtain ⟨h0, h1, _, _⟩ := hl_op h
  refine ⟨?_, fun x hx => ?_⟩
  · unfold lw
    rw [Nat.add_comm, List.take_succ_cons]
    simp
  · have hx := List.mem_of_mem_take hx
    simp only [List.mem_cons, List.not_mem_nil, or_false] at hx
    rcases hx with rfl | rfl | rfl
    · exact word_ne _ (by omega)
    · exact itoa_no32 _
    · exact itoa_no32 _
theorem ws_tx {i : In} (h : hl i = true) : Pl.ws (tx i) = lw i := Pl.ws_join _ (lw_no h).1 (lw_no h).2
theorem tx_ne {i : In} (h : hl i = true) : tx i ≠ [] := by
  obtain ⟨h0, h1, _, _⟩ := hl_op h
  intro e
  have := ws_tx h
  rw [e, lw, Nat.add_comm, List.take_succ_cons] at this
  simp only [Pl.ws, List.cons.injEq] at this
  exact word_some i.op.toNat (by omega) (by omega) this.1.symm
theorem pz_tx {i : In} (h : hl i = true) (hn : w64 i.n) (hm : w64 i.m) : pz (tx i) = some i := by
  obtain ⟨h0, h1, h2, h3⟩ := hl_op h
  have ho := opOf_wd h0 h1
  have hz : opOf (wd i.op) ≠ 0 := by omega
  unfold pz
  rw [if_neg (tx_ne h), ws_tx h, lw]
  obtain ⟨op, n, m⟩ := i
  dsimp only at *
  rcases nm_is op with e | e | e
  · rw [e]
    show (if opOf (wd op) ≠ 0 ∧ nm (opOf (wd op)) = 0 then some (⟨opOf (wd op), 0, 0⟩ : In) else none) = _
    rw [ho, if_pos ⟨hz, e⟩, h2 e, h3 (by omega)]
  · rw [e]
    show (if opOf (wd op) ≠ 0 ∧ nm (opOf (wd op)) = 1 then (Pl.parse (Lib.itoa n)).map fun n => (⟨opOf (wd op), n, 0⟩ : In) else none) = _
    rw [ho, if_pos ⟨hz, e⟩, Pl.parse_itoa n hn.1 hn.2, h3 (by omega)]
    rfl
  · rw [e]
    show (if opOf (wd op) ≠ 0 ∧ nm (opOf (wd op)) = 2 then (Pl.parse (Lib.itoa n)).bind fun n => (Pl.parse (Lib.itoa m)).map fun m => (⟨opOf (wd op), n, m⟩ : In) else none) = _
    rw [ho, if_pos ⟨hz, e⟩, Pl.parse_itoa n hn.1 hn.2, Pl.parse_itoa m hm.1 hm.2]
    rfl
/-- What the document makes of a text's words. -/
def mk (s : List UInt8) : In :=
  if s = [] then ⟨0, 0, 0⟩ else match Pl.ws s with
  | [] => ⟨0, 0, 0⟩
  | [a] => ⟨opOf a, 0, 0⟩
  | [a, b] => ⟨opOf a, (Pl.parse b).getD 0, 0⟩
  | a :: b :: c :: _ => ⟨opOf a, (Pl.parse b).getD 0, (Pl.parse c).getD 0⟩
theorem pz_back {s : List UInt8} {i : In} (h : pz s = some i) : hl i = true ∧ tx i = s ∧ w64 i.n ∧ w64 i.m ∧ mk s = i := by
  unfold pz at h
  split at h
  · cases h
  · rename_i hs
    have j := Pl.join_ws s
    have z : w64 0 := ⟨by omega, by omega⟩
    unfold mk
    rw [if_neg hs]
    split at h
    · rename_i a e
      rw [e] at j ⊢
      split at h
      · rename_i c
        cases h
        have := (opOf_is c.1)
        refine ⟨hl_mk (by simp; omega) (by simp; omega) (fun _ => rfl) (fun _ => rfl), ?_, z, z, rfl⟩
        rw [tx, lw]
        dsimp only
        rw [c.2, wd_of c.1]
        exact j
      · cases h
    · rename_i a b e
      rw [e] at j ⊢
      split at h
      · rename_i c
        cases hb : Pl.parse b with
        | none => rw [hb] at h; cases h
        | some n =>
          rw [hb] at h
          cases h
          have := (opOf_is c.1)
          refine ⟨hl_mk (by simp; omega) (by simp; omega) (fun e => by simp at e; omega) (fun _ => rfl), ?_, Pl.parse_bd hb, z, by dsimp only; rw [hb]; rfl⟩
          rw [tx, lw]
          dsimp only
          rw [c.2, wd_of c.1, Pl.itoa_parse hb]
          exact j
      · cases h
    · rename_i a b d e
      rw [e] at j ⊢
      split at h
      · rename_i c
        cases hb : Pl.parse b with
        | none => rw [hb] at h; cases h
        | some n =>
          cases hd : Pl.parse d with
          | none => rw [hb, hd] at h; cases h
          | some m =>
            rw [hb, hd] at h
            cases h
            have := (opOf_is c.1)
            refine ⟨hl_mk (by simp; omega) (by simp; omega) (fun e => by simp at e; omega) (fun e => by simp at e; omega), ?_, Pl.parse_bd hb, Pl.parse_bd hd, by dsimp only; rw [hb, hd]; rfl⟩
            rw [tx, lw]
            dsimp only
            rw [c.2, wd_of c.1, Pl.itoa_parse hb, Pl.itoa_parse hd]
            exact j
      · cases h
    · cases h
theorem parse_w64 (b : List UInt8) : w64 ((Pl.parse b).getD 0) := by
  cases h : Pl.parse b with
  | none => exact ⟨by simp, by simp⟩
  | some n => exact Pl.parse_bd h
theorem mk_w64 (s : List UInt8) : w64 (mk s).n ∧ w64 (mk s).m := by
  have z : w64 0 := ⟨by omega, by omega⟩
  unfold mk
  split
  · exact ⟨z, z⟩
  · split
    · exact ⟨z, z⟩
    · exact ⟨z, z⟩
    · exact ⟨parse_w64 _, z⟩
    · exact ⟨parse_w64 _, parse_w64 _⟩
/-- The document's way of reading a line is the program's. -/
theorem pz_mk (s : List UInt8) : pz s = if hl (mk s) = true ∧ tx (mk s) = s then some (mk s) else none := by
  split
  · rename_i h
    have := pz_tx h.1 (mk_w64 s).1 (mk_w64 s).2
    rw [h.2] at this
    exact this
  · rename_i h
    cases e : pz s with
    | none => rfl
    | some i =>
      obtain ⟨a, b, _, _, c⟩ := pz_back e
      exact absurd ⟨by rw [c]; exact a, by rw [c]; exact b⟩ h
end Go.Proofs.YtodpdnidinnjjaaDoor.Cd
