/- Layer 5: values in memory, and what they tell of a name. -/
/- Layer 5: values in memory: what the program's and the document's look-ups tell. -/
/- Layer 5: how many values there are; values as the program's. -/
import Derived.Test.YthadpkmbbimleaaZFolG
namespace Go.Proofs.Ythadpkmbbimleaa
open Go.RowKit

/-- A slice of texts. -/
def Tx (w : World) (sa : Option Addr) (l : List (List UInt8)) : Prop := l.length ≤ 1000000000000000 ∧ (0 < l.length → ∃ b o, sa = some ⟨b, o, none⟩ ∧ b < w.heap.size ∧ ∀ j, j < l.length → w.cell? ⟨b, o + j, none⟩ = some (.string ⟨(l.getD j []).toArray⟩))
theorem Tx.later {w w' : World} {sa : Option Addr} {l : List (List UInt8)} (h : Tx w sa l) (b : Below w.heap.size w w') : Tx w' sa l :=
  ⟨h.1, fun h0 => by
    obtain ⟨g, o, e, hg, hc⟩ := h.2 h0
    exact ⟨g, o, e, Nat.lt_of_lt_of_le hg b.size, fun j hj => (b.cell (p := ⟨g, o + j, none⟩) hg).trans (hc j hj)⟩⟩
/-- Where a name stands first. -/
def ixn : List (List UInt8) → List UInt8 → Nat → Int
  | [], _, _ => -1
  | a :: r, n, k => if a = n then k else ixn r n (k + 1)
theorem ixn_is : ∀ (l : List (List UInt8)) (n : List UInt8) (k : Nat), ixn l n k = -1 ∨ ∃ j : Nat, ixn l n k = ((k + j : Nat) : Int) ∧ j < l.length
  | [], n, k => .inl rfl
  | a :: r, n, k => by
    unfold ixn
    split
    · exact .inr ⟨0, by simp, by simp⟩
    · rcases ixn_is r n (k + 1) with h | ⟨j, h, hj⟩
      · exact .inl h
      · exact .inr ⟨j + 1, by rw [h]; congr 1; omega, by simp; omega⟩
theorem drop_getD {α : Type} {l : List α} {k : Nat} {d : α} (h : k < l.length) : l.drop k = l.getD k d :: l.drop (k + 1) := by
  rw [List.drop_eq_getElem_cons h, List.getD_eq_getElem?_getD, List.getElem?_eq_getElem h]
  rfl
theorem ixn_hit {l : List (List UInt8)} {n : List UInt8} {k : Nat} (h : k < l.length) (e : l.getD k [] = n) : ixn (l.drop k) n k = k := by
  rw [drop_getD (d := []) h, ixn, if_pos e]
theorem ixn_miss {l : List (List UInt8)} {n : List UInt8} {k : Nat} (h : k < l.length) (e : ¬ l.getD k [] = n) : ixn (l.drop k) n k = ixn (l.drop (k + 1)) n (k + 1) := by
  rw [drop_getD (d := []) h, ixn, if_neg e]
theorem ixn_end (l : List (List UInt8)) (n : List UInt8) : ixn (l.drop l.length) n l.length = -1 := by
  rw [List.drop_length, ixn]

set_option maxRecDepth 100000 in
set_option maxHeartbeats 1000000 in
theorem index_any (sa : Option Addr) (c : Nat) (l : List (List UInt8)) (n : List UInt8) (w : World) (h : Tx w sa l) : Calls Try.prog 46 #[.slice sa l.length c, .string ⟨n.toArray⟩] w fun e w' => e = .returned (.int .i64 (ixn l n 0)) ∧ w' = w := by
  by_cases h0 : 0 < l.length
  · obtain ⟨g, o, rfl, hg, hc⟩ := h.2 h0
    have HC : Hid _ := hc
    have HL : Hid _ := h.1
    clear hc h h0
    go_enter Try.func46, Try.ntmps46
    go_wp2
    go_loop [8] (fun i => ∃ k : Nat, k ≤ l.length ∧ i = .int .i64 k ∧ Hid (ixn (l.drop k) n k = ixn l n 0)) (fun i => l.length - (intOf i).toNat)
    case atStart => exact ⟨0, by omega, rfl, rfl⟩
    case round =>
      obtain ⟨k, hk, rfl, N⟩ := hrel
      by_cases hlt : k < l.length
      · have hc := HC.out k hlt
        have E1 : Hid (l.getD k [] = n → ixn (l.drop k) n k = k) := ixn_hit hlt
        have E2 : Hid (¬ l.getD k [] = n → ixn (l.drop k) n k = ixn (l.drop (k + 1)) n (k + 1)) := ixn_miss hlt
        generalize l.getD k [] = x at hc E1 E2
        have hkl : Hid (l.length ≤ 1000000000000000) := HL
        by_cases he : x = n
        · have heb : (n == x) = true := by rw [he]; exact beq_self_eq_true _
          have H : Hid (ixn l n 0 = k) := N.out.symm.trans (E1.out he)
          clear he
          go_wp2
          go_ret
          rw [H.out]
          exact ⟨rfl, rfl⟩
        · have heb : (n == x) = false := by simpa using fun e : n = x => he e.symm
          have N' : Hid (ixn (l.drop (k + 1)) n (k + 1) = ixn l n 0) := (E2.out he).symm.trans N.out
          clear he
          have hl2 := hkl.out
          go_wp2
          exact ⟨⟨k + 1, by omega, by go_num, N'⟩, by simp [intOf]; omega⟩
      · obtain rfl : k = l.length := by omega
        have H : Hid (ixn l n 0 = -1) := N.out.symm.trans (ixn_end l n)
        go_wp2
        go_ret
        rw [H.out]
        exact ⟨rfl, rfl⟩
  · have : l = [] := List.length_eq_zero_iff.1 (by omega)
    subst this
    exact index_none sa c n w
end Go.Proofs.Ythadpkmbbimleaa

namespace Go.Proofs.Ythadpkmbbimleaa
open Go.RowKit

/-- A slice of lists; some of them none (nil). -/
def Ls (w : World) (sa : Option Addr) (l : List (Option (List Int))) : Prop := l.length ≤ 1000000000000000 ∧ (0 < l.length → ∃ b o, sa = some ⟨b, o, none⟩ ∧ b < w.heap.size ∧
  ∀ j, j < l.length → (l.getD j none = none ∧ w.cell? ⟨b, o + j, none⟩ = some (.slice none 0 0)) ∨ ∃ q a sn sc, l.getD j none = some q ∧ w.cell? ⟨b, o + j, none⟩ = some (.slice (some a) sn sc) ∧ Li w (some a) sn q ∧ q.length ≤ 1000000000000000)
theorem Li.later {w w' : World} {sa : Option Addr} {sn : Nat} {l : List Int} (h : Li w sa sn l) (b : Below w.heap.size w w') : Li w' sa sn l :=
  ⟨h.1, fun h0 => by
    obtain ⟨g, o, e, hg, hc⟩ := h.2 h0
    exact ⟨g, o, e, Nat.lt_of_lt_of_le hg b.size, fun j hj => (b.cell (p := ⟨g, o + j, none⟩) hg).trans (hc j hj)⟩⟩
theorem Ls.later {w w' : World} {sa : Option Addr} {l : List (Option (List Int))} (h : Ls w sa l) (b : Below w.heap.size w w') : Ls w' sa l :=
  ⟨h.1, fun h0 => by
    obtain ⟨g, o, e, hg, hc⟩ := h.2 h0
    refine ⟨g, o, e, Nat.lt_of_lt_of_le hg b.size, fun j hj => ?_⟩
    rcases hc j hj with ⟨e1, e2⟩ | ⟨q, a, sn, sc, e1, e2, e3, e4⟩
    · exact .inl ⟨e1, (b.cell (p := ⟨g, o + j, none⟩) hg).trans e2⟩
    · exact .inr ⟨q, a, sn, sc, e1, (b.cell (p := ⟨g, o + j, none⟩) hg).trans e2, e3.later b, e4⟩⟩
/-- Values. -/
structure En where
  names : List (List UInt8)
  vals : List Int
  lists : List (Option (List Int))
/-- The value is these values, in memory. -/
structure EnM (w : World) (s0 s1 s2 : Value) (E : En) : Prop where
  names : ∃ a c, s0 = .slice a E.names.length c ∧ Tx w a E.names
  vals : ∃ a c, s1 = .slice a E.vals.length c ∧ Li w a E.vals.length E.vals
  lists : ∃ a c, s2 = .slice a E.lists.length c ∧ Ls w a E.lists
  short : E.vals.length ≤ 1000000000000000
theorem EnM.later {w w' : World} {s0 s1 s2 : Value} {E : En} (h : EnM w s0 s1 s2 E) (b : Below w.heap.size w w') : EnM w' s0 s1 s2 E := by
  obtain ⟨a, c, e, h0⟩ := h.names
  obtain ⟨a1, c1, e1, h1⟩ := h.vals
  obtain ⟨a2, c2, e2, h2⟩ := h.lists
  exact ⟨⟨a, c, e, h0.later b⟩, ⟨a1, c1, e1, h1.later b⟩, ⟨a2, c2, e2, h2.later b⟩, h.short⟩
/-- What values tell of a name: its number, its list. -/
def En.T (E : En) (n : List UInt8) : Int × List Int :=
  if ixn E.names n 0 < 0 then (0, []) else match E.lists.getD (ixn E.names n 0).toNat none with
    | some q => (0, q)
    | none => (E.vals.getD (ixn E.names n 0).toNat 0, [])
theorem En.T_no {E : En} {n : List UInt8} (h : ixn E.names n 0 = -1) : E.T n = (0, []) := by unfold En.T; rw [h]; rfl
theorem En.T_at {E : En} {n : List UInt8} {j : Nat} (h : ixn E.names n 0 = (j : Int)) : E.T n = match E.lists.getD j none with
    | some q => (0, q)
    | none => (E.vals.getD j 0, []) := by
  unfold En.T
  rw [h, if_neg (by omega)]
  rfl

set_option maxRecDepth 100000 in
set_option maxHeartbeats 2000000 in
theorem value_any (s0 s1 s2 : Value) (E : En) (w : World) (h : EnM w s0 s1 s2 E) : EnV w s0 s1 s2 E.T := by
  intro W bW n
  have hE := h.later bW
  obtain ⟨a0, c0, rfl, h0⟩ := hE.names
  obtain ⟨a1, c1, rfl, h1⟩ := hE.vals
  obtain ⟨a2, c2, rfl, h2⟩ := hE.lists
  have H0 : Hid _ := h0
  have H1 : Hid _ := h1
  have H2 : Hid _ := h2
  have HV : Hid _ := hE.short
  have HL : Hid _ := h2.1
  clear h0 h1 h2 hE h bW w
  rcases ixn_is E.names n 0 with hi | ⟨j, hi, hj⟩
  · have HT : Hid _ := En.T_no hi
    go_enter Try.func22, Try.ntmps22
    go_wp2_with fail
    refine Calls.mono (index_any a0 c0 E.names n _ (Tx.later H0.out (by go_grown))) ?_
    rintro e w1 ⟨rfl, hw⟩
    rw [hw, hi]
    clear hw w1 hi
    go_wp2_with fail
    go_ret2
    rw [HT.out]
    exact ⟨none, 0, 0, rfl, ⟨rfl, fun h => absurd h (Nat.lt_irrefl 0)⟩, by go_grown⟩
  · rw [Nat.zero_add] at hi
    have HT : Hid _ := En.T_at hi
    have HJ : Hid _ := hj
    clear hj
    by_cases hl : j < E.lists.length
    · obtain ⟨g, o, rfl, hg, hc⟩ := H2.out.2 (by omega)
      rcases hc j hl with ⟨e1, e2⟩ | ⟨q, a, sn, sc, e1, e2, e3, e4⟩
      · rw [e1] at HT
        clear hc e1
        have HE : Hid _ := e2
        clear e2
        by_cases hv : j < E.vals.length
        · obtain ⟨g', o', rfl, hg', hc'⟩ := H1.out.2 (by omega)
          have HC : Hid _ := hc' j hv
          clear hc'
          generalize E.vals.getD j 0 = xv at HC HT
          go_enter Try.func22, Try.ntmps22
          go_wp2_with fail
          refine Calls.mono (index_any a0 c0 E.names n _ (Tx.later H0.out (by go_grown))) ?_
          rintro e w1 ⟨rfl, hw⟩
          rw [hw, hi]
          clear hw w1 hi
          have d1 := HE.out
          have d2 := HC.out
          go_wp2_with fail
          go_ret2
          rw [HT.out]
          exact ⟨none, 0, 0, rfl, ⟨rfl, fun h => absurd h (Nat.lt_irrefl 0)⟩, by go_grown⟩
        · have HV' : Hid (E.vals.getD j 0 = 0) := by unfold Hid; rw [List.getD_eq_getElem?_getD, List.getElem?_eq_none (by omega)]; rfl
          go_enter Try.func22, Try.ntmps22
          go_wp2_with fail
          refine Calls.mono (index_any a0 c0 E.names n _ (Tx.later H0.out (by go_grown))) ?_
          rintro e w1 ⟨rfl, hw⟩
          rw [hw, hi]
          clear hw w1 hi
          have d1 := HE.out
          go_wp2_with fail
          go_ret2
          rw [HT.out, HV'.out]
          exact ⟨none, 0, 0, rfl, ⟨rfl, fun h => absurd h (Nat.lt_irrefl 0)⟩, by go_grown⟩
      · rw [e1] at HT
        clear hc e1
        have HE : Hid _ := e2
        have HQ : Hid _ := e3
        clear e2 e3 e4
        go_enter Try.func22, Try.ntmps22
        go_wp2_with fail
        refine Calls.mono (index_any a0 c0 E.names n _ (Tx.later H0.out (by go_grown))) ?_
        rintro e w1 ⟨rfl, hw⟩
        rw [hw, hi]
        clear hw w1 hi
        have d1 := HE.out
        go_wp2_with fail
        go_region
        go_wp2_with fail
        go_ret2
        rw [HT.out]
        exact ⟨some a, sn, sc, rfl, Li.later HQ.out (by go_grown), by go_grown⟩
    · have HN : Hid (E.lists.getD j none = none) := by unfold Hid; rw [List.getD_eq_getElem?_getD, List.getElem?_eq_none (by omega)]; rfl
      rw [HN.out] at HT
      by_cases hv : j < E.vals.length
      · obtain ⟨g', o', rfl, hg', hc'⟩ := H1.out.2 (by omega)
        have HC : Hid _ := hc' j hv
        clear hc'
        generalize E.vals.getD j 0 = xv at HC HT
        go_enter Try.func22, Try.ntmps22
        go_wp2_with fail
        refine Calls.mono (index_any a0 c0 E.names n _ (Tx.later H0.out (by go_grown))) ?_
        rintro e w1 ⟨rfl, hw⟩
        rw [hw, hi]
        clear hw w1 hi
        have d2 := HC.out
        go_wp2_with fail
        go_ret2
        rw [HT.out]
        exact ⟨none, 0, 0, rfl, ⟨rfl, fun h => absurd h (Nat.lt_irrefl 0)⟩, by go_grown⟩
      · have HV' : Hid (E.vals.getD j 0 = 0) := by unfold Hid; rw [List.getD_eq_getElem?_getD, List.getElem?_eq_none (by omega)]; rfl
        go_enter Try.func22, Try.ntmps22
        go_wp2_with fail
        refine Calls.mono (index_any a0 c0 E.names n _ (Tx.later H0.out (by go_grown))) ?_
        rintro e w1 ⟨rfl, hw⟩
        rw [hw, hi]
        clear hw w1 hi
        go_wp2_with fail
        go_ret2
        rw [HT.out, HV'.out]
        exact ⟨none, 0, 0, rfl, ⟨rfl, fun h => absurd h (Nat.lt_irrefl 0)⟩, by go_grown⟩
end Go.Proofs.Ythadpkmbbimleaa

namespace Go.Proofs.Ythadpkmbbimleaa
open Go.RowKit

/-- It answers yes or no. -/
def IsB (e : Ending) : Prop := ∃ b, e = .returned (.bool b)

set_option maxRecDepth 100000 in
set_option maxHeartbeats 2000000 in
theorem own_any (a0 a1 a2 : Option Addr) (n0 n1 n2 c0 c1 c2 : Nat) (w : World) : Calls Try.prog 11 #[.agg #[.slice a0 n0 c0, .slice a1 n1 c1, .slice a2 n2 c2]] w fun e w' => e = .returned (.agg #[.slice a0 n0 c0, .slice a1 n1 c1, .slice a2 n2 c2]) ∧ Below w.heap.size w w' := by
  go_enter Try.func11, Try.ntmps11
  go_wp2_with fail
  refine bodyPost_ret (v := .agg #[.slice a0 n0 c0, .slice a1 n1 c1, .slice a2 n2 c2]) (by simp [results, Try.results11, go_sem]) rfl ⟨rfl, ?_⟩
  go_grown

set_option maxRecDepth 100000 in
set_option maxHeartbeats 4000000 in
theorem many_any (s0 s1 s2 : Value) (E : En) (w : World) (h : EnM w s0 s1 s2 E) : Calls Try.prog 8 #[.agg #[s0, s1, s2]] w fun e w' => IsB e ∧ Below w.heap.size w w' := by
  obtain ⟨a0, c0, rfl, h0⟩ := h.names
  obtain ⟨a1, c1, rfl, h1⟩ := h.vals
  obtain ⟨a2, c2, rfl, h2⟩ := h.lists
  have H0 : Hid _ := h0
  have H2 : Hid _ := h2
  have HL0 : Hid _ := h0.1
  have HL2 : Hid _ := h2.1
  clear h h0 h1 h2
  go_enter Try.func8, Try.ntmps8
  go_wp2
  go_loop [3, 4] (fun n i => ∃ (z : Int) (k : Nat), k ≤ E.names.length ∧ n = .int .i64 z ∧ i = .int .i64 k) (fun _ i => E.names.length - (intOf i).toNat)
  case atStart => exact ⟨_, 0, by omega, rfl, rfl⟩
  case round =>
    obtain ⟨z, k, hk, rfl, rfl⟩ := hrel
    by_cases hlt : k < E.names.length
    · obtain ⟨g, o, rfl, hg, hc⟩ := H0.out.2 (by omega)
      have hc := hc k hlt
      generalize E.names.getD k [] = x at hc
      by_cases hz : z ≤ 3000
      · have hl := HL0.out
        go_wp2
        exact ⟨⟨_, k + 1, by omega, rfl, by go_num⟩, by simp [intOf]; omega⟩
      · go_wp2
        go_loop [3, 5] (fun n i => ∃ (z : Int) (k : Nat), k ≤ E.lists.length ∧ n = .int .i64 z ∧ i = .int .i64 k) (fun _ i => E.lists.length - (intOf i).toNat)
        case atStart => exact ⟨_, 0, by omega, rfl, rfl⟩
        case round =>
          obtain ⟨z, k, hk, rfl, rfl⟩ := hrel
          by_cases hlt : k < E.lists.length
          · obtain ⟨g2, o2, rfl, hg2, hc2⟩ := H2.out.2 (by omega)
            have hc3 : ∃ sb sn sc, w.cell? ⟨g2, o2 + k, none⟩ = some (.slice sb sn sc) := by
              rcases hc2 k hlt with ⟨_, e2⟩ | ⟨_, _, _, _, _, e2, _⟩
              · exact ⟨_, _, _, e2⟩
              · exact ⟨_, _, _, e2⟩
            obtain ⟨sb, sn, sc, hc3⟩ := hc3
            clear hc2
            by_cases hz : z ≤ 3000
            · have hl := HL2.out
              go_wp2
              exact ⟨⟨_, k + 1, by omega, rfl, by go_num⟩, by simp [intOf]; omega⟩
            · go_wp2
              go_ret
              exact ⟨⟨_, rfl⟩, by go_grown⟩
          · obtain rfl : k = E.lists.length := by omega
            go_wp2
            go_ret
            exact ⟨⟨_, rfl⟩, by go_grown⟩
    · obtain rfl : k = E.names.length := by omega
      go_wp2
      go_loop [3, 5] (fun n i => ∃ (z : Int) (k : Nat), k ≤ E.lists.length ∧ n = .int .i64 z ∧ i = .int .i64 k) (fun _ i => E.lists.length - (intOf i).toNat)
      case atStart => exact ⟨_, 0, by omega, rfl, rfl⟩
      case round =>
        obtain ⟨z, k, hk, rfl, rfl⟩ := hrel
        by_cases hlt : k < E.lists.length
        · obtain ⟨g2, o2, rfl, hg2, hc2⟩ := H2.out.2 (by omega)
          have hc3 : ∃ sb sn sc, w.cell? ⟨g2, o2 + k, none⟩ = some (.slice sb sn sc) := by
            rcases hc2 k hlt with ⟨_, e2⟩ | ⟨_, _, _, _, _, e2, _⟩
            · exact ⟨_, _, _, e2⟩
            · exact ⟨_, _, _, e2⟩
          obtain ⟨sb, sn, sc, hc3⟩ := hc3
          clear hc2
          by_cases hz : z ≤ 3000
          · have hl := HL2.out
            go_wp2
            exact ⟨⟨_, k + 1, by omega, rfl, by go_num⟩, by simp [intOf]; omega⟩
          · go_wp2
            go_ret
            exact ⟨⟨_, rfl⟩, by go_grown⟩
        · obtain rfl : k = E.lists.length := by omega
          go_wp2
          go_ret
          exact ⟨⟨_, rfl⟩, by go_grown⟩
end Go.Proofs.Ythadpkmbbimleaa
