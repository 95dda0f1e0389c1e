/- Layer 5: values in memory, and what they tell of a name. -/
/- Layer 5: values in memory: what the program's and the document's look-ups tell. -/
/- Layer 5: how many values there are; values as the program's. -/
/- Layer 5: FoldSafe, walked. -/
import Derived.Test.YthadpkmbbimleaaZFolG
import Derived.Test.YthadpkmbbimleaaZFomA
namespace Go.Proofs.Ythadpkmbbimleaa
open Go.RowKit

/-- A slice of texts. -/
def Tx (w : World) (sa : Option Addr) (l : List (List UInt8)) : Prop := l.length ≤ 1000000000000000 ∧ (0 < l.length → ∃ b o, sa = some ⟨b, o, none⟩ ∧ b < w.heap.size ∧ ∀ j, j < l.length → w.cell? ⟨b, o + j, none⟩ = some (.string ⟨(l.getD j []).toArray⟩))
theorem Tx.later {w w' : World} {sa : Option Addr} {l : List (List UInt8)} (h : Tx w sa l) (b : Below w.heap.size w w') : Tx w' sa l :=
  ⟨h.1, fun h0 => by
    obtain ⟨g, o, e, hg, hc⟩ := h.2 h0
    exact ⟨g, o, e, Nat.lt_of_lt_of_le hg b.size, fun j hj => (b.cell (p := ⟨g, o + j, none⟩) hg).trans (hc j hj)⟩⟩
/-- Where a name stands first. -/
def ixn : List (List UInt8) → List UInt8 → Nat → Int
  | [], _, _ => -1
  | a :: r, n, k => if a = n then k else ixn r n (k + 1)
theorem ixn_is : ∀ (l : List (List UInt8)) (n : List UInt8) (k : Nat), ixn l n k = -1 ∨ ∃ j : Nat, ixn l n k = ((k + j : Nat) : Int) ∧ j < l.length
  | [], n, k => .inl rfl
  | a :: r, n, k => by
    unfold ixn
    split
    · exact .inr ⟨0, by simp, by simp⟩
    · rcases ixn_is r n (k + 1) with h | ⟨j, h, hj⟩
      · exact .inl h
      · exact .inr ⟨j + 1, by rw [h]; congr 1; omega, by simp; omega⟩
theorem drop_getD {α : Type} {l : List α} {k : Nat} {d : α} (h : k < l.length) : l.drop k = l.getD k d :: l.drop (k + 1) := by
  rw [List.drop_eq_getElem_cons h, List.getD_eq_getElem?_getD, List.getElem?_eq_getElem h]
  rfl
theorem ixn_hit {l : List (List UInt8)} {n : List UInt8} {k : Nat} (h : k < l.length) (e : l.getD k [] = n) : ixn (l.drop k) n k = k := by
  rw [drop_getD (d := []) h, ixn, if_pos e]
theorem ixn_miss {l : List (List UInt8)} {n : List UInt8} {k : Nat} (h : k < l.length) (e : ¬ l.getD k [] = n) : ixn (l.drop k) n k = ixn (l.drop (k + 1)) n (k + 1) := by
  rw [drop_getD (d := []) h, ixn, if_neg e]
theorem ixn_end (l : List (List UInt8)) (n : List UInt8) : ixn (l.drop l.length) n l.length = -1 := by
  rw [List.drop_length, ixn]

set_option maxRecDepth 100000 in
set_option maxHeartbeats 1000000 in
theorem index_any (sa : Option Addr) (c : Nat) (l : List (List UInt8)) (n : List UInt8) (w : World) (h : Tx w sa l) : Calls Try.prog 46 #[.slice sa l.length c, .string ⟨n.toArray⟩] w fun e w' => e = .returned (.int .i64 (ixn l n 0)) ∧ w' = w := by
  by_cases h0 : 0 < l.length
  · obtain ⟨g, o, rfl, hg, hc⟩ := h.2 h0
    have HC : Hid _ := hc
    have HL : Hid _ := h.1
    clear hc h h0
    go_enter Try.func46, Try.ntmps46
    go_wp2
    go_loop [8] (fun i => ∃ k : Nat, k ≤ l.length ∧ i = .int .i64 k ∧ Hid (ixn (l.drop k) n k = ixn l n 0)) (fun i => l.length - (intOf i).toNat)
    case atStart => exact ⟨0, by omega, rfl, rfl⟩
    case round =>
      obtain ⟨k, hk, rfl, N⟩ := hrel
      by_cases hlt : k < l.length
      · have hc := HC.out k hlt
        have E1 : Hid (l.getD k [] = n → ixn (l.drop k) n k = k) := ixn_hit hlt
        have E2 : Hid (¬ l.getD k [] = n → ixn (l.drop k) n k = ixn (l.drop (k + 1)) n (k + 1)) := ixn_miss hlt
        generalize l.getD k [] = x at hc E1 E2
        have hkl : Hid (l.length ≤ 1000000000000000) := HL
        by_cases he : x = n
        · have heb : (n == x) = true := by rw [he]; exact beq_self_eq_true _
          have H : Hid (ixn l n 0 = k) := N.out.symm.trans (E1.out he)
          clear he
          go_wp2
          go_ret
          rw [H.out]
          exact ⟨rfl, rfl⟩
        · have heb : (n == x) = false := by simpa using fun e : n = x => he e.symm
          have N' : Hid (ixn (l.drop (k + 1)) n (k + 1) = ixn l n 0) := (E2.out he).symm.trans N.out
          clear he
          have hl2 := hkl.out
          go_wp2
          exact ⟨⟨k + 1, by omega, by go_num, N'⟩, by simp [intOf]; omega⟩
      · obtain rfl : k = l.length := by omega
        have H : Hid (ixn l n 0 = -1) := N.out.symm.trans (ixn_end l n)
        go_wp2
        go_ret
        rw [H.out]
        exact ⟨rfl, rfl⟩
  · have : l = [] := List.length_eq_zero_iff.1 (by omega)
    subst this
    exact index_none sa c n w
end Go.Proofs.Ythadpkmbbimleaa

namespace Go.Proofs.Ythadpkmbbimleaa
open Go.RowKit

/-- A slice of lists; some of them none (nil). -/
def Ls (w : World) (sa : Option Addr) (l : List (Option (List Int))) : Prop := l.length ≤ 1000000000000000 ∧ (0 < l.length → ∃ b o, sa = some ⟨b, o, none⟩ ∧ b < w.heap.size ∧
  ∀ j, j < l.length → (l.getD j none = none ∧ w.cell? ⟨b, o + j, none⟩ = some (.slice none 0 0)) ∨ ∃ q a sn sc, l.getD j none = some q ∧ w.cell? ⟨b, o + j, none⟩ = some (.slice (some a) sn sc) ∧ Li w (some a) sn q ∧ q.length ≤ 1000000000000000)
theorem Li.later {w w' : World} {sa : Option Addr} {sn : Nat} {l : List Int} (h : Li w sa sn l) (b : Below w.heap.size w w') : Li w' sa sn l :=
  ⟨h.1, fun h0 => by
    obtain ⟨g, o, e, hg, hc⟩ := h.2 h0
    exact ⟨g, o, e, Nat.lt_of_lt_of_le hg b.size, fun j hj => (b.cell (p := ⟨g, o + j, none⟩) hg).trans (hc j hj)⟩⟩
theorem Ls.later {w w' : World} {sa : Option Addr} {l : List (Option (List Int))} (h : Ls w sa l) (b : Below w.heap.size w w') : Ls w' sa l :=
  ⟨h.1, fun h0 => by
    obtain ⟨g, o, e, hg, hc⟩ := h.2 h0
    refine ⟨g, o, e, Nat.lt_of_lt_of_le hg b.size, fun j hj => ?_⟩
    rcases hc j hj with ⟨e1, e2⟩ | ⟨q, a, sn, sc, e1, e2, e3, e4⟩
    · exact .inl ⟨e1, (b.cell (p := ⟨g, o + j, none⟩) hg).trans e2⟩
    · exact .inr ⟨q, a, sn, sc, e1, (b.cell (p := ⟨g, o + j, none⟩) hg).trans e2, e3.later b, e4⟩⟩
/-- Values. -/
structure En where
  names : List (List UInt8)
  vals : List Int
  lists : List (Option (List Int))
/-- The value is these values, in memory. -/
structure EnM (w : World) (s0 s1 s2 : Value) (E : En) : Prop where
  names : ∃ a c, s0 = .slice a E.names.length c ∧ Tx w a E.names
  vals : ∃ a c, s1 = .slice a E.vals.length c ∧ Li w a E.vals.length E.vals
  lists : ∃ a c, s2 = .slice a E.lists.length c ∧ Ls w a E.lists
  short : E.vals.length ≤ 1000000000000000
theorem EnM.later {w w' : World} {s0 s1 s2 : Value} {E : En} (h : EnM w s0 s1 s2 E) (b : Below w.heap.size w w') : EnM w' s0 s1 s2 E := by
  obtain ⟨a, c, e, h0⟩ := h.names
  obtain ⟨a1, c1, e1, h1⟩ := h.vals
  obtain ⟨a2, c2, e2, h2⟩ := h.lists
  exact ⟨⟨a, c, e, h0.later b⟩, ⟨a1, c1, e1, h1.later b⟩, ⟨a2, c2, e2, h2.later b⟩, h.short⟩
/-- What values tell of a name: its number, its list. -/
def En.T (E : En) (n : List UInt8) : Int × List Int :=
  if ixn E.names n 0 < 0 then (0, []) else match E.lists.getD (ixn E.names n 0).toNat none with
    | some q => (0, q)
    | none => (E.vals.getD (ixn E.names n 0).toNat 0, [])
theorem En.T_no {E : En} {n : List UInt8} (h : ixn E.names n 0 = -1) : E.T n = (0, []) := by unfold En.T; rw [h]; rfl
theorem En.T_at {E : En} {n : List UInt8} {j : Nat} (h : ixn E.names n 0 = (j : Int)) : E.T n = match E.lists.getD j none with
    | some q => (0, q)
    | none => (E.vals.getD j 0, []) := by
  unfold En.T
  rw [h, if_neg (by omega)]
  rfl

set_option maxRecDepth 100000 in
set_option maxHeartbeats 2000000 in
theorem value_any (s0 s1 s2 : Value) (E : En) (w : World) (h : EnM w s0 s1 s2 E) : EnV w s0 s1 s2 E.T := by
  intro W bW n
  have hE := h.later bW
  obtain ⟨a0, c0, rfl, h0⟩ := hE.names
  obtain ⟨a1, c1, rfl, h1⟩ := hE.vals
  obtain ⟨a2, c2, rfl, h2⟩ := hE.lists
  have H0 : Hid _ := h0
  have H1 : Hid _ := h1
  have H2 : Hid _ := h2
  have HV : Hid _ := hE.short
  have HL : Hid _ := h2.1
  clear h0 h1 h2 hE h bW w
  rcases ixn_is E.names n 0 with hi | ⟨j, hi, hj⟩
  · have HT : Hid _ := En.T_no hi
    go_enter Try.func22, Try.ntmps22
    go_wp2_with fail
    refine Calls.mono (index_any a0 c0 E.names n _ (Tx.later H0.out (by go_grown))) ?_
    rintro e w1 ⟨rfl, hw⟩
    rw [hw, hi]
    clear hw w1 hi
    go_wp2_with fail
    go_ret2
    rw [HT.out]
    exact ⟨none, 0, 0, rfl, ⟨rfl, fun h => absurd h (Nat.lt_irrefl 0)⟩, by go_grown⟩
  · rw [Nat.zero_add] at hi
    have HT : Hid _ := En.T_at hi
    have HJ : Hid _ := hj
    clear hj
    by_cases hl : j < E.lists.length
    · obtain ⟨g, o, rfl, hg, hc⟩ := H2.out.2 (by omega)
      rcases hc j hl with ⟨e1, e2⟩ | ⟨q, a, sn, sc, e1, e2, e3, e4⟩
      · rw [e1] at HT
        clear hc e1
        have HE : Hid _ := e2
        clear e2
        by_cases hv : j < E.vals.length
        · obtain ⟨g', o', rfl, hg', hc'⟩ := H1.out.2 (by omega)
          have HC : Hid _ := hc' j hv
          clear hc'
          generalize E.vals.getD j 0 = xv at HC HT
          go_enter Try.func22, Try.ntmps22
          go_wp2_with fail
          refine Calls.mono (index_any a0 c0 E.names n _ (Tx.later H0.out (by go_grown))) ?_
          rintro e w1 ⟨rfl, hw⟩
          rw [hw, hi]
          clear hw w1 hi
          have d1 := HE.out
          have d2 := HC.out
          go_wp2_with fail
          go_ret2
          rw [HT.out]
          exact ⟨none, 0, 0, rfl, ⟨rfl, fun h => absurd h (Nat.lt_irrefl 0)⟩, by go_grown⟩
        · have HV' : Hid (E.vals.getD j 0 = 0) := by unfold Hid; rw [List.getD_eq_getElem?_getD, List.getElem?_eq_none (by omega)]; rfl
          go_enter Try.func22, Try.ntmps22
          go_wp2_with fail
          refine Calls.mono (index_any a0 c0 E.names n _ (Tx.later H0.out (by go_grown))) ?_
          rintro e w1 ⟨rfl, hw⟩
          rw [hw, hi]
          clear hw w1 hi
          have d1 := HE.out
          go_wp2_with fail
          go_ret2
          rw [HT.out, HV'.out]
          exact ⟨none, 0, 0, rfl, ⟨rfl, fun h => absurd h (Nat.lt_irrefl 0)⟩, by go_grown⟩
      · rw [e1] at HT
        clear hc e1
        have HE : Hid _ := e2
        have HQ : Hid _ := e3
        clear e2 e3 e4
        go_enter Try.func22, Try.ntmps22
        go_wp2_with fail
        refine Calls.mono (index_any a0 c0 E.names n _ (Tx.later H0.out (by go_grown))) ?_
        rintro e w1 ⟨rfl, hw⟩
        rw [hw, hi]
        clear hw w1 hi
        have d1 := HE.out
        go_wp2_with fail
        go_region
        go_wp2_with fail
        go_ret2
        rw [HT.out]
        exact ⟨some a, sn, sc, rfl, Li.later HQ.out (by go_grown), by go_grown⟩
    · have HN : Hid (E.lists.getD j none = none) := by unfold Hid; rw [List.getD_eq_getElem?_getD, List.getElem?_eq_none (by omega)]; rfl
      rw [HN.out] at HT
      by_cases hv : j < E.vals.length
      · obtain ⟨g', o', rfl, hg', hc'⟩ := H1.out.2 (by omega)
        have HC : Hid _ := hc' j hv
        clear hc'
        generalize E.vals.getD j 0 = xv at HC HT
        go_enter Try.func22, Try.ntmps22
        go_wp2_with fail
        refine Calls.mono (index_any a0 c0 E.names n _ (Tx.later H0.out (by go_grown))) ?_
        rintro e w1 ⟨rfl, hw⟩
        rw [hw, hi]
        clear hw w1 hi
        have d2 := HC.out
        go_wp2_with fail
        go_ret2
        rw [HT.out]
        exact ⟨none, 0, 0, rfl, ⟨rfl, fun h => absurd h (Nat.lt_irrefl 0)⟩, by go_grown⟩
      · have HV' : Hid (E.vals.getD j 0 = 0) := by unfold Hid; rw [List.getD_eq_getElem?_getD, List.getElem?_eq_none (by omega)]; rfl
        go_enter Try.func22, Try.ntmps22
        go_wp2_with fail
        refine Calls.mono (index_any a0 c0 E.names n _ (Tx.later H0.out (by go_grown))) ?_
        rintro e w1 ⟨rfl, hw⟩
        rw [hw, hi]
        clear hw w1 hi
        go_wp2_with fail
        go_ret2
        rw [HT.out, HV'.out]
        exact ⟨none, 0, 0, rfl, ⟨rfl, fun h => absurd h (Nat.lt_irrefl 0)⟩, by go_grown⟩
end Go.Proofs.Ythadpkmbbimleaa

namespace Go.Proofs.Ythadpkmbbimleaa
open Go.RowKit

/-- It answers yes or no. -/
def IsB (e : Ending) : Prop := ∃ b, e = .returned (.bool b)

set_option maxRecDepth 100000 in
set_option maxHeartbeats 2000000 in
theorem own_any (a0 a1 a2 : Option Addr) (n0 n1 n2 c0 c1 c2 : Nat) (w : World) : Calls Try.prog 11 #[.agg #[.slice a0 n0 c0, .slice a1 n1 c1, .slice a2 n2 c2]] w fun e w' => e = .returned (.agg #[.slice a0 n0 c0, .slice a1 n1 c1, .slice a2 n2 c2]) ∧ Below w.heap.size w w' := by
  go_enter Try.func11, Try.ntmps11
  go_wp2_with fail
  refine bodyPost_ret (v := .agg #[.slice a0 n0 c0, .slice a1 n1 c1, .slice a2 n2 c2]) (by simp [results, Try.results11, go_sem]) rfl ⟨rfl, ?_⟩
  go_grown

set_option maxRecDepth 100000 in
set_option maxHeartbeats 4000000 in
theorem many_any (s0 s1 s2 : Value) (E : En) (w : World) (h : EnM w s0 s1 s2 E) : Calls Try.prog 8 #[.agg #[s0, s1, s2]] w fun e w' => IsB e ∧ Below w.heap.size w w' := by
  obtain ⟨a0, c0, rfl, h0⟩ := h.names
  obtain ⟨a1, c1, rfl, h1⟩ := h.vals
  obtain ⟨a2, c2, rfl, h2⟩ := h.lists
  have H0 : Hid _ := h0
  have H2 : Hid _ := h2
  have HL0 : Hid _ := h0.1
  have HL2 : Hid _ := h2.1
  clear h h0 h1 h2
  go_enter Try.func8, Try.ntmps8
  go_wp2
  go_loop [3, 4] (fun n i => ∃ (z : Int) (k : Nat), k ≤ E.names.length ∧ n = .int .i64 z ∧ i = .int .i64 k) (fun _ i => E.names.length - (intOf i).toNat)
  case atStart => exact ⟨_, 0, by omega, rfl, rfl⟩
  case round =>
    obtain ⟨z, k, hk, rfl, rfl⟩ := hrel
    by_cases hlt : k < E.names.length
    · obtain ⟨g, o, rfl, hg, hc⟩ := H0.out.2 (by omega)
      have hc := hc k hlt
      generalize E.names.getD k [] = x at hc
      by_cases hz : z ≤ 3000
      · have hl := HL0.out
        go_wp2
        exact ⟨⟨_, k + 1, by omega, rfl, by go_num⟩, by simp [intOf]; omega⟩
      · go_wp2
        go_loop [3, 5] (fun n i => ∃ (z : Int) (k : Nat), k ≤ E.lists.length ∧ n = .int .i64 z ∧ i = .int .i64 k) (fun _ i => E.lists.length - (intOf i).toNat)
        case atStart => exact ⟨_, 0, by omega, rfl, rfl⟩
        case round =>
          obtain ⟨z, k, hk, rfl, rfl⟩ := hrel
          by_cases hlt : k < E.lists.length
          · obtain ⟨g2, o2, rfl, hg2, hc2⟩ := H2.out.2 (by omega)
            have hc3 : ∃ sb sn sc, w.cell? ⟨g2, o2 + k, none⟩ = some (.slice sb sn sc) := by
              rcases hc2 k hlt with ⟨_, e2⟩ | ⟨_, _, _, _, _, e2, _⟩
              · exact ⟨_, _, _, e2⟩
              · exact ⟨_, _, _, e2⟩
            obtain ⟨sb, sn, sc, hc3⟩ := hc3
            clear hc2
            by_cases hz : z ≤ 3000
            · have hl := HL2.out
              go_wp2
              exact ⟨⟨_, k + 1, by omega, rfl, by go_num⟩, by simp [intOf]; omega⟩
            · go_wp2
              go_ret
              exact ⟨⟨_, rfl⟩, by go_grown⟩
          · obtain rfl : k = E.lists.length := by omega
            go_wp2
            go_ret
            exact ⟨⟨_, rfl⟩, by go_grown⟩
    · obtain rfl : k = E.names.length := by omega
      go_wp2
      go_loop [3, 5] (fun n i => ∃ (z : Int) (k : Nat), k ≤ E.lists.length ∧ n = .int .i64 z ∧ i = .int .i64 k) (fun _ i => E.lists.length - (intOf i).toNat)
      case atStart => exact ⟨_, 0, by omega, rfl, rfl⟩
      case round =>
        obtain ⟨z, k, hk, rfl, rfl⟩ := hrel
        by_cases hlt : k < E.lists.length
        · obtain ⟨g2, o2, rfl, hg2, hc2⟩ := H2.out.2 (by omega)
          have hc3 : ∃ sb sn sc, w.cell? ⟨g2, o2 + k, none⟩ = some (.slice sb sn sc) := by
            rcases hc2 k hlt with ⟨_, e2⟩ | ⟨_, _, _, _, _, e2, _⟩
            · exact ⟨_, _, _, e2⟩
            · exact ⟨_, _, _, e2⟩
          obtain ⟨sb, sn, sc, hc3⟩ := hc3
          clear hc2
          by_cases hz : z ≤ 3000
          · have hl := HL2.out
            go_wp2
            exact ⟨⟨_, k + 1, by omega, rfl, by go_num⟩, by simp [intOf]; omega⟩
          · go_wp2
            go_ret
            exact ⟨⟨_, rfl⟩, by go_grown⟩
        · obtain rfl : k = E.lists.length := by omega
          go_wp2
          go_ret
          exact ⟨⟨_, rfl⟩, by go_grown⟩
end Go.Proofs.Ythadpkmbbimleaa

namespace Go.Proofs.Ythadpkmbbimleaa
open Go.RowKit

namespace Fo
open Sx
theorem trs_all : ∀ {l : List Ex}, trs l = false → ∀ x, x ∈ l → tr x = false
  | [], _, x, h => by cases h
  | a :: r, e, x, h => by
    rw [trs, Bool.or_eq_false_iff] at e
    rcases List.mem_cons.1 h with rfl | h
    · exact e.1
    · exact trs_all e.2 x h
theorem re_trap {a b : Int} {s : List UInt8} (h : (s = [47] ∨ s = [37]) → ¬ b = 0) : (re a s b).2 = 0 := by
  unfold re
  repeat' split
  all_goals first | rfl | (rename_i e1 e2; exact absurd e2 (h (.inl e1))) | (rename_i e1 e2; exact absurd e2 (h (.inr e1)))
theorem wo_safe (T : List UInt8 → Int × List Int) (x : Ex) : tr x = false → (wo T x).2 = 0 := by
  induction x using ind with
  | h k n m l ih =>
  intro ht
  rw [tr, Bool.or_eq_false_iff, Bool.or_eq_false_iff] at ht
  obtain ⟨⟨h4, hd⟩, hp⟩ := ht
  have h4 : ¬ k = 4 := of_decide_eq_false h4
  have all := trs_all hp
  cases hb : built k n l.length with
  | false => rw [wo_no hb]
  | true =>
    have hb' : ¬ built k n l.length = false := by rw [hb]; simp
    by_cases k1 : k = 1
    · subst k1; rw [wo_int hb']
    by_cases k2 : k = 2
    · subst k2; rw [wo_bool hb']
    by_cases k3 : k = 3
    · subst k3; rw [wo_var hb']
    match l, ih, hd, all, hb, hb' with
    | [], _, _, _, _, hb' => rw [wo, if_neg hb', if_neg k1, if_neg k2, if_neg k3]
    | [a], ih, hd, all, hb, hb' =>
      have ea := ih a (by simp) (all a (by simp))
      rw [wo, if_neg hb', if_neg k1, if_neg k2, if_neg k3, if_neg (by rw [ea]; simp), if_neg h4]
      split <;> rfl
    | a :: b :: r, ih, hd, all, hb, hb' =>
      have ea := ih a (by simp) (all a (by simp))
      have eb := ih b (by simp) (all b (by simp))
      rw [wo, if_neg hb', if_neg k1, if_neg k2, if_neg k3, if_neg (by rw [ea]; simp)]
      split
      · rfl
      · refine re_trap fun hn => ?_
        have k6 : k = 6 := by
          unfold built at hb
          rw [if_neg k1, if_neg k2, if_neg k3, if_neg h4] at hb
          by_cases k5 : k = 5
          · rw [if_pos k5] at hb; simp at hb
          · rw [if_neg k5] at hb
            by_cases k6 : k = 6
            · exact k6
            · rw [if_neg k6] at hb; cases hb
        have hdv : dv k n = true := by
          unfold dv
          rw [decide_eq_true k6]
          rcases hn with e | e <;> subst e <;> rfl
        rw [hdv, hb] at hd
        have hab : above b = true := by simpa using hd
        obtain ⟨kb, nb, mb, lb⟩ := b
        unfold above at hab
        rw [Bool.and_eq_true, Bool.and_eq_true] at hab
        obtain ⟨⟨q1, q2⟩, q3⟩ := hab
        have q2 : kb = 1 := of_decide_eq_true q2
        have q3 : 0 < mb := of_decide_eq_true q3
        subst q2
        rw [wo_int (by rw [q1]; simp)]
        show ¬ mb = 0
        omega
end Fo
/-- A box of three cells. -/
structure B3 (w : World) (g : Nat) (a0 a1 a2 : Value) : Prop where
  c0 : w.cell? ⟨g, 0, none⟩ = some a0
  c1 : w.cell? ⟨g, 1, none⟩ = some a1
  c2 : w.cell? ⟨g, 2, none⟩ = some a2
  lt : g < w.heap.size
theorem B3.later {w w' : World} {g n : Nat} {a0 a1 a2 : Value} (h : B3 w g a0 a1 a2) (b : Below n w w') (hn : g < n) : B3 w' g a0 a1 a2 :=
  ⟨(b.cell (p := ⟨g, 0, none⟩) hn).trans h.c0, (b.cell (p := ⟨g, 1, none⟩) hn).trans h.c1, (b.cell (p := ⟨g, 2, none⟩) hn).trans h.c2, Nat.lt_of_lt_of_le h.lt b.size⟩
theorem B3.new (w : World) (t : TypeId) (a0 a1 a2 : Value) : B3 (w.alloc (.cells #[a0, a1, a2] t)) w.heap.size a0 a1 a2 :=
  ⟨by simp [go_sem], by simp [go_sem], by simp [go_sem], by simp⟩
set_option maxRecDepth 100000 in
set_option maxHeartbeats 4000000 in
theorem safe_walk (A : Nat → Prop) (k : Int) (n : List UInt8) (m : Int) (l : List Sx.Ex) (sa : Option Addr) (sc : Nat) (s0 s1 s2 : Value) (E : En) (w : World) (hnl : Fo.Nl (.mk k n m l)) (hs : ExS A w (.slice sa l.length sc) l) (hE : EnM w s0 s1 s2 E) :
    Calls Try.prog 6 #[.agg #[.int .i64 k, .string ⟨n.toArray⟩, .int .i64 m, .slice sa l.length sc], .agg #[s0, s1, s2]] w fun e w' => e = .returned (.bool true) ∧ Below w.heap.size w w' := by
  have EG : Hid (∀ W, Below w.heap.size w W → _) := fun W hW => great_any hnl A k n m l sa sc W rfl (hs.later hW (Nat.le_refl _))
  have EM : Hid (∀ W, Below w.heap.size w W → Calls Try.prog 8 #[.agg #[s0, s1, s2]] W fun e w' => IsB e ∧ Below W.heap.size W w') := fun W hW => many_any s0 s1 s2 E W (hE.later hW)
  have EV : Hid (∀ W, Below w.heap.size w W → _) := fun W (hW : Below w.heap.size w W) => Eval_any E.T A k n m l sa l.length sc s0 s1 s2 W (hs.later hW (Nat.le_refl _)) (value_any s0 s1 s2 E W (hE.later hW))
  have ET : Hid (Fo.Bnd (.mk k n m l) → ∀ W, Below w.heap.size w W → _) := fun hb W (hW : Below w.heap.size w W) => traps_any hb A k n m l sa l.length sc W rfl (hs.later hW (Nat.le_refl _))
  have SF : Hid _ := Fo.wo_safe E.T (.mk k n m l)
  obtain ⟨p0, c0, rfl, -⟩ := hE.names
  obtain ⟨p1, c1, rfl, -⟩ := hE.vals
  obtain ⟨p2, c2, rfl, -⟩ := hE.lists
  clear hs hnl hE
  generalize E.names.length = n0 at *
  generalize E.vals.length = n1 at *
  generalize E.lists.length = n2 at *
  have EO : Hid (∀ W, Calls Try.prog 11 #[.agg #[.slice p0 n0 c0, .slice p1 n1 c1, .slice p2 n2 c2]] W fun e w' => e = .returned (.agg #[.slice p0 n0 c0, .slice p1 n1 c1, .slice p2 n2 c2]) ∧ Below W.heap.size W w') := fun W => own_any p0 p1 p2 n0 n1 n2 c0 c1 c2 W
  obtain ⟨W0, hW0⟩ : ∃ W0, W0 = (w.alloc (.cells #[.int .i64 k, .string ⟨n.toArray⟩, .int .i64 m, .slice sa l.length sc] 24)).alloc (.cells #[.slice p0 n0 c0, .slice p1 n1 c1, .slice p2 n2 c2] 29) := ⟨_, rfl⟩
  have B0 : Hid (Below w.heap.size w W0) := by rw [hW0]; unfold Hid; go_grown
  have BX : Hid (Bx W0 w.heap.size (.int .i64 k) (.string ⟨n.toArray⟩) (.int .i64 m) (.slice sa l.length sc)) := by rw [hW0]; exact (Bx.new w _ _ _ _ _).later (box_below _ _) (by simp)
  have BY : Hid (B3 W0 (w.heap.size + 1) (.slice p0 n0 c0) (.slice p1 n1 c1) (.slice p2 n2 c2)) := by rw [hW0]; unfold Hid; have := B3.new (w.alloc (.cells #[.int .i64 k, .string ⟨n.toArray⟩, .int .i64 m, .slice sa l.length sc] 24)) 29 (.slice p0 n0 c0) (.slice p1 n1 c1) (.slice p2 n2 c2); simpa using this
  go_enter Try.func6, Try.ntmps6
  go_wp2_with fail
  rw [← hW0]
  clear hW0
  refine Calls.mono (EG.out _ B0.out) ?_
  rintro e w1 ⟨b, rfl, hb, b1⟩
  have B1 : Hid (Below w.heap.size w w1) := B0.out.trans (b1.mono B0.out.size)
  have X1 : Hid _ := BX.out.later b1 BX.out.lt
  have Y1 : Hid _ := BY.out.later b1 BY.out.lt
  have HB : Hid _ := hb
  clear b1 hb EG BX BY
  cases b with
  | true =>
    go_wp2_with fail
    refine Calls.mono (known5 _) ?_
    rintro e w2 ⟨rfl, b2⟩
    have B2 : Hid (Below w.heap.size w w2) := B1.out.trans (b2.mono B1.out.size)
    clear b2
    go_wp2_with fail
    go_ret
    exact ⟨rfl, B2.out⟩
  | false =>
    have bnd : Hid (Fo.Bnd (.mk k n m l)) := HB.out rfl
    obtain ⟨y0, y1, y2, yl⟩ := Y1.out
    clear HB
    go_wp2_with fail
    refine Calls.mono (EM.out _ B1.out) ?_
    rintro e w2 ⟨⟨b, rfl⟩, b2⟩
    have B2 : Hid (Below w.heap.size w w2) := B1.out.trans (b2.mono B1.out.size)
    have X2 : Hid _ := X1.out.later b2 X1.out.lt
    have Y2 : Hid _ := Y1.out.later b2 Y1.out.lt
    clear b2 EM X1 Y1 y0 y1 y2 yl
    cases b with
    | true =>
      go_wp2_with fail
      refine Calls.mono (known5 _) ?_
      rintro e w3 ⟨rfl, b3⟩
      have B3' : Hid (Below w.heap.size w w3) := B2.out.trans (b3.mono B2.out.size)
      clear b3
      go_wp2_with fail
      go_ret
      exact ⟨rfl, B3'.out⟩
    | false =>
      obtain ⟨y0, y1, y2, yl⟩ := Y2.out
      obtain ⟨d0, d1, d2, d3, f0, f1, f2, f3, zt⟩ := X2.out
      go_wp2_with fail
      go_region_with (first
        | (go_at_call 11; refine Calls.mono (EO.out _) ?_; rintro e w3 ⟨rfl, b3⟩; have b4 : Below w2.heap.size w2 w3 := Below.trans (by go_grown) (b3.mono (by go_size)); have B4 : Hid (Below w.heap.size w w3) := B2.out.trans (b4.mono B2.out.size); have X4 : Hid _ := X2.out.later b4 X2.out.lt; obtain ⟨g0, g1, g2, g3, i0, i1, i2, i3, zy⟩ := X4.out)
        | (go_at_call 10; refine Calls.mono (EV.out _ B4.out) ?_; rintro e w5 ⟨rfl, b5⟩; have B5 : Hid (Below w.heap.size w w5) := B4.out.trans (b5.mono B4.out.size); have X5 : Hid _ := X4.out.later b5 X4.out.lt; obtain ⟨j0, j1, j2, j3, m0, m1, m2, m3, zx⟩ := X5.out))
      all_goals
        by_cases hq : (Fo.wo E.T (.mk k n m l)).2 = 0
        · rw [hq]
          generalize (Fo.wo E.T (.mk k n m l)).1 = u1
          clear SF hq
          go_wp2_with fail
          refine Calls.mono (known5 _) ?_
          rintro e w6 ⟨rfl, b6⟩
          have B6 : Hid (Below w.heap.size w w6) := B5.out.trans (b6.mono B5.out.size)
          clear b6
          go_wp2_with fail
          go_ret
          exact ⟨rfl, B6.out⟩
        · have HT : Fo.tr (.mk k n m l) = true := by
            cases e : Fo.tr (.mk k n m l) with
            | true => rfl
            | false => exact absurd (SF.out e) hq
          have ET' : Hid (∀ W, Below w.heap.size w W → _) := ET.out bnd.out
          rw [HT] at ET'
          clear ET SF HT
          generalize (Fo.wo E.T (.mk k n m l)).1 = u1
          generalize (Fo.wo E.T (.mk k n m l)).2 = u2 at *
          have hqb : (u2 == 0) = false := beq_eq_false_iff_ne.2 hq
          clear hq
          go_wp2_with fail
          refine Calls.mono (ET'.out _ B5.out) ?_
          rintro e w6 ⟨rfl, b6⟩
          have B6 : Hid (Below w.heap.size w w6) := B5.out.trans (b6.mono B5.out.size)
          clear b6
          go_wp2_with fail
          refine Calls.mono (known5 _) ?_
          rintro e w7 ⟨rfl, b7⟩
          have B7 : Hid (Below w.heap.size w w7) := B6.out.trans (b7.mono B6.out.size)
          clear b7
          go_wp2_with fail
          go_ret
          exact ⟨rfl, B7.out⟩
end Go.Proofs.Ythadpkmbbimleaa
