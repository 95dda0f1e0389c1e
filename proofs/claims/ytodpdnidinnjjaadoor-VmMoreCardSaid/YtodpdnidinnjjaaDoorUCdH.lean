/- Layer 8: whether all instructions of a code are such as may be (the program's hasForms). -/
import Derived.Test.YtodpdnidinnjjaaDoorUCdC
namespace Go.Proofs.YtodpdnidinnjjaaDoor
open Go.RowKit
set_option linter.unusedVariables false

/-- All instructions are such as may be. -/
def Cd.fm (B : Int) (l : List Cd.Co) (c : Cd.Co) : Bool := c.ins.all fun i => Cd.hl i && Cd.al B l c i
theorem cdFm_no {B : Int} {l : List Cd.Co} {c : Cd.Co} {j : Nat} {i : Cd.In} (e : c.ins[j]? = some i) (h : (Cd.hl i && Cd.al B l c i) = false) : Cd.fm B l c = false := by
  cases hh : Cd.fm B l c with
  | false => rfl
  | true =>
    have := List.all_eq_true.1 hh i (List.mem_of_getElem? e)
    rw [h] at this
    cases this
theorem cdFm_yes {B : Int} {l : List Cd.Co} {c : Cd.Co} (h : ∀ j i, j < c.ins.length → c.ins[j]? = some i → (Cd.hl i && Cd.al B l c i) = true) : Cd.fm B l c = true := by
  refine List.all_eq_true.2 fun i hi => ?_
  obtain ⟨j, hj⟩ := List.getElem?_of_mem hi
  exact h j i (List.getElem?_eq_some_iff.1 hj).1 hj
set_option maxRecDepth 100000 in
set_option maxHeartbeats 4000000 in
theorem cdFm_any (B p : Nat) (la : Option Addr) (lc : Nat) (l : List Cd.Co) (ia : Option Addr) (ic : Nat) (c : Cd.Co) (hv wv : Value) (w : World) (h : ClA B w p la lc l ia ic c hv wv) (hc : 0 ≤ c.cells ∧ c.cells ≤ 65536) :
    Calls Tryd.prog 81 #[.pointer (some ⟨p, 0, none⟩)] w fun e w' => e = .returned (.bool (Cd.fm Cd.top l c)) ∧ Below w.heap.size w w' := by
  have HC : Hid (ClA B w p la lc l ia ic c hv wv) := h
  have HZ : Hid (0 ≤ c.cells ∧ c.cells ≤ 65536) := hc
  have p1 := h.cl.cell.2.1
  have HL : Hid (c.ins.length ≤ 1000000000000000) := h.is.1
  clear h hc
  obtain ⟨n, hn⟩ : ∃ n, n = c.ins.length := ⟨_, rfl⟩
  rw [← hn] at p1
  have HN : Hid (n = c.ins.length) := hn
  clear hn
  go_enter Tryd.func81, Tryd.ntmps81
  go_wp2_with fail
  go_loopw [11] (fun i wr => ∃ j : Nat, j ≤ n ∧ i = .int .i64 j ∧ Hid (Below w.heap.size w wr) ∧ Hid (∀ q i, q < j → c.ins[q]? = some i → (Cd.hl i && Cd.al Cd.top l c i) = true)) (fun i _ => n - (intOf i).toNat)
  case atStart => exact ⟨0, by omega, rfl, Below.refl _ _, fun q _ hq => absurd hq (Nat.not_lt_zero q)⟩
  case round =>
    obtain ⟨j, hj, rfl, BR, N⟩ := hrel
    by_cases hlt : j < n
    · obtain ⟨x, ex⟩ : ∃ x, c.ins[j]? = some x := ⟨_, List.getElem?_eq_getElem (by rw [← HN.out]; exact hlt)⟩
      have CR := HC.out.later BR.out
      obtain ⟨g, o, rfl, hg, at_⟩ := CR.is.at ex
      have c0 := at_.c0
      have c1 := at_.c1
      have c2 := at_.c2
      have EX : Hid (c.ins[j]? = some x) := ex
      obtain ⟨W4, hW4⟩ : ∃ W4, W4 = wr.alloc (inB x) := ⟨_, rfl⟩
      obtain ⟨bx, hbx⟩ : ∃ bx, bx = wr.heap.size := ⟨_, rfl⟩
      obtain ⟨t0, t1, t2, b4⟩ := in_box wr x bx W4 hbx hW4
      have C4 := CR.later b4
      have zb : bx < W4.heap.size := by rw [hbx, hW4]; simp
      have E1 : Hid _ := cdHasLine_any x B W4 C4.hB C4.tn
      have E2 : Hid (∀ W, Below W4.heap.size W4 W → Calls Tryd.prog 98 #[.pointer (some ⟨p, 0, none⟩), inV x] W fun e w' => e = .returned (.bool (Cd.al Cd.top l c x)) ∧ Below W.heap.size W w') := fun W hW => cdAl_any x B p la lc l _ ic c hv wv W (C4.later hW) HZ.out
      have B4 : Hid (Below w.heap.size w W4) := BR.out.trans (b4.mono BR.out.size)
      have hji : (j : Int) < (n : Int) := by omega
      have hj0 : (0 : Int) ≤ (j : Int) := by omega
      clear CR C4 at_ b4 ex
      go_upto_region 4 with fail
      rw [← hW4, ← hbx]
      clear hW4 hbx c0 c1 c2
      go_wp2_with fail
      refine Calls.mono E1.out ?_
      rintro e5 w5 ⟨rfl, b5⟩
      have s0 := (b5.cell (p := ⟨bx, 0, none⟩) zb).trans t0
      have s1 := (b5.cell (p := ⟨bx, 1, none⟩) zb).trans t1
      have s2 := (b5.cell (p := ⟨bx, 2, none⟩) zb).trans t2
      have B5 : Hid (Below W4.heap.size W4 w5) := b5
      clear b5 t0 t1 t2
      cases hh : Cd.hl x with
      | false =>
        have G : Hid (false = Cd.fm Cd.top l c) := (cdFm_no EX.out (by rw [hh]; rfl)).symm
        clear hh
        go_wp2_with fail
        go_ret
        exact ⟨retB G.out, B4.out.trans (B5.out.mono B4.out.size)⟩
      | true =>
        have HH : Hid (Cd.hl x = true) := hh
        clear hh
        go_wp2_with fail
        refine Calls.mono (E2.out _ B5.out) ?_
        rintro e6 w6 ⟨rfl, b6⟩
        have B6 : Hid (Below w.heap.size w w6) := (B4.out.trans (B5.out.mono B4.out.size)).trans (b6.mono (Nat.le_trans B4.out.size B5.out.size))
        clear b6 s0 s1 s2
        cases ha : Cd.al Cd.top l c x with
        | false =>
          have G : Hid (false = Cd.fm Cd.top l c) := (cdFm_no EX.out (by rw [HH.out, ha]; rfl)).symm
          clear ha
          go_wp2_with fail
          go_ret
          exact ⟨retB G.out, B6.out⟩
        | true =>
          have G : Hid (∀ q i, q < j + 1 → c.ins[q]? = some i → (Cd.hl i && Cd.al Cd.top l c i) = true) := fun q i hq ei => by
            by_cases hq2 : q < j
            · exact N.out q i hq2 ei
            · have e : q = j := by omega
              rw [e, EX.out] at ei
              cases ei
              rw [HH.out, ha]
              rfl
          clear ha N
          have hL : n ≤ 1000000000000000 := by have := HL.out; have := HN.out; omega
          go_wp2_with fail
          go_roundw
          case rel => exact ⟨j + 1, by omega, by go_num, B6, G⟩
          case measure => simp [intOf]; omega
    · obtain rfl : j = n := by omega
      have G : Hid (true = Cd.fm Cd.top l c) := (cdFm_yes fun q i hq ei => N.out q i (by rw [HN.out]; exact hq) ei).symm
      clear N
      go_wp2_with fail
      go_ret
      exact ⟨retB G.out, BR.out⟩
end Go.Proofs.YtodpdnidinnjjaaDoor
