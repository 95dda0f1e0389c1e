/- Layer 9: what the statements ask ahead: few, great, slow. -/
/- Layer 9: slow: whether a code goes back with no mark between: it answers. -/
import Derived.Test.YtkjkiknpgggadaaDoorSVmKn
import Derived.Test.YtkjkiknpgggadaaDoorSVmM
import Derived.Deep.DeepCutAuto
import Derived.Deep.LoopGhost
import Derived.BigQuiet
namespace Go.Proofs.YtkjkiknpgggadaaDoor
open Go.RowKit
set_option linter.unusedVariables false
set_option linter.unusedSimpArgs false

def Vm.fw (f : Int) : Int := if f > 200 ∧ f ≤ 1048576 then 200 else f
set_option maxRecDepth 100000 in
set_option maxHeartbeats 4000000 in
theorem vmFew (f : Int) (w : World) : Calls Tryd.prog 12 #[.int .i64 f] w fun e w' => e = .returned (.int .i64 (Vm.fw f)) ∧ w' = w := by
  by_cases h1 : f > 200
  · have d1 : decide (f > 200) = true := decide_eq_true h1
    have d1' : decide (200 < f) = true := decide_eq_true h1
    by_cases h2 : f ≤ 1048576
    · have d2 : decide (f ≤ 1048576) = true := decide_eq_true h2
      have e : Vm.fw f = 200 := if_pos ⟨h1, h2⟩
      rw [e]
      go_enter Tryd.func12, Tryd.ntmps12
      go_wp2_with fail
      go_ret
      exact ⟨rfl, rfl⟩
    · have d2 : decide (f ≤ 1048576) = false := decide_eq_false h2
      have e : Vm.fw f = f := if_neg (fun h => h2 h.2)
      rw [e]
      go_enter Tryd.func12, Tryd.ntmps12
      go_wp2_with fail
      go_ret
      exact ⟨rfl, rfl⟩
  · have d1 : decide (f > 200) = false := decide_eq_false h1
    have d1' : decide (200 < f) = false := decide_eq_false h1
    have e : Vm.fw f = f := if_neg (fun h => h1 h.1)
    rw [e]
    go_enter Tryd.func12, Tryd.ntmps12
    go_wp2_with fail
    go_ret
    exact ⟨rfl, rfl⟩
def BoQ (w : World) (e : Ending) (w' : World) : Prop := ∃ b : Bool, e = .returned (.bool b) ∧ Below w.heap.size w w'
set_option maxRecDepth 100000 in
set_option maxHeartbeats 8000000 in
theorem great9_any (B : Nat) (la : Option Addr) (lc : Nat) (l : List Cd.Co) (w : World) (h : CdH B w la l) : Calls Tryd.prog 10 #[.slice la l.length lc] w (BoQ w) := by
  have ES : Hid (Calls Tryd.prog 37 #[.slice la l.length lc, .int .i64 1000] w fun e w' => ∃ n : Int, e = .returned (.int .i64 n) ∧ Below w.heap.size w w') := (rSize_any B la lc l 1000 w h).mono fun e w' ⟨v, a, ⟨n, b⟩, c⟩ => ⟨n, by rw [a, b], c⟩
  have HC : Hid (CoS w.heap.size w la l) := h.co.mono h.hB
  obtain ⟨L, hL⟩ : ∃ L : Nat, L = l.length := ⟨_, rfl⟩
  have HL : Hid (L = l.length) := hL
  rw [← hL] at ES ⊢
  have BT : Hid (∀ (b : Bool) (W : World), Below w.heap.size w W → BoQ w (.returned (.bool b)) W) := fun b W hW => ⟨b, rfl, hW⟩
  clear h hL
  by_cases h50 : L > 50
  · have d1 : decide ((L : Int) > 50) = true := decide_eq_true (by omega)
    have d2 : decide ((50 : Int) < (L : Int)) = true := decide_eq_true (by omega)
    have d3 : decide (50 < L) = true := decide_eq_true h50
    go_enter Tryd.func10, Tryd.ntmps10
    go_wp2_with fail
    go_ret
    exact BT.out _ _ (by go_grown)
  · have d1 : decide ((L : Int) > 50) = false := decide_eq_false (by omega)
    have d2 : decide ((50 : Int) < (L : Int)) = false := decide_eq_false (by omega)
    have d3 : decide (50 < L) = false := decide_eq_false h50
    go_enter Tryd.func10, Tryd.ntmps10
    go_wp2_with fail
    refine Calls.mono ES.out ?_
    rintro e1 w1 ⟨n, rfl, b1⟩
    have B1 : Hid (Below w.heap.size w w1) := b1
    clear b1 ES
    by_cases hn : n > 1000
    · have dn : decide (n > 1000) = true := decide_eq_true hn
      have dn' : decide (1000 < n) = true := decide_eq_true hn
      go_wp2_with fail
      go_ret
      exact BT.out _ _ B1.out
    · have dn : decide (n > 1000) = false := decide_eq_false hn
      have dn' : decide (1000 < n) = false := decide_eq_false hn
      have hLb : L ≤ 1000000000000000 := by omega
      go_wp2_with fail
      go_loopw [3] (fun i wr => ∃ k : Nat, k ≤ L ∧ i = .int .i64 k ∧ Hid (Below w.heap.size w wr)) (fun i _ => L - (intOf i).toNat)
      case atStart => exact ⟨0, by omega, rfl, B1⟩
      case round =>
        obtain ⟨k, hk, rfl, BR⟩ := hrel
        by_cases hlt : k < L
        · have hki : (k : Int) < (L : Int) := by omega
          have dk : decide ((k : Int) < (L : Int)) = true := decide_eq_true hki
          have dkn : decide (k < L) = true := decide_eq_true hlt
          have hkl : k < l.length := by rw [← HL.out]; exact hlt
          obtain ⟨c, hc⟩ : ∃ c, l[k]? = some c := ⟨_, List.getElem?_eq_getElem hkl⟩
          obtain ⟨g, o, ia, ic, rfl, hg, ca⟩ := (HC.out.later BR.out).at hc
          have c1 := ca.c1
          clear ca hc hkl
          generalize c.cells = z at c1
          by_cases hz : z > 300
          · have dz : decide (z > 300) = true := decide_eq_true hz
            have dz' : decide (300 < z) = true := decide_eq_true hz
            by_cases hz2 : z ≤ 65536
            · have dz2 : decide (z ≤ 65536) = true := decide_eq_true hz2
              go_wp2_with fail
              go_ret
              exact BT.out _ _ BR.out
            · have dz2 : decide (z ≤ 65536) = false := decide_eq_false hz2
              go_wp2_with fail
              go_roundw
              case rel => exact ⟨k + 1, by omega, by go_num, BR⟩
              case measure => simp [intOf]; omega
          · have dz : decide (z > 300) = false := decide_eq_false hz
            have dz' : decide (300 < z) = false := decide_eq_false hz
            go_wp2_with fail
            go_roundw
            case rel => exact ⟨k + 1, by omega, by go_num, BR⟩
            case measure => simp [intOf]; omega
        · have hki : ¬ (k : Int) < (L : Int) := by omega
          have dk : decide ((k : Int) < (L : Int)) = false := decide_eq_false hki
          have dkn : decide (k < L) = false := decide_eq_false hlt
          go_wp2_with fail
          go_ret
          exact BT.out _ _ BR.out
end Go.Proofs.YtkjkiknpgggadaaDoor

namespace Go.Proofs.YtkjkiknpgggadaaDoor
open Go.RowKit
set_option linter.unusedVariables false
set_option linter.unusedSimpArgs false

theorem jump_in {B : Int} {l : List Cd.Co} {c : Cd.Co} {i : Cd.In} (f : Cd.Fit B l c) (hi : i ∈ c.ins) (ho : i.op = 17 ∨ i.op = 18) : 0 ≤ i.n ∧ i.n < c.ins.length := by
  have a := (f.al i hi).2
  unfold Cd.al at a
  rw [if_neg (by omega), if_neg (by omega), if_pos ho] at a
  simpa using a
set_option maxRecDepth 100000 in
set_option maxHeartbeats 16000000 in
theorem slow9_any (la : Option Addr) (lc : Nat) (l : List Cd.Co) (w : World) (hc0 : CoS w.heap.size w la l) {Bd : Int} (hf : ∀ c ∈ l, Cd.Fit Bd l c) (hl : l.length ≤ 40) : Calls Tryd.prog 16 #[.slice la l.length lc] w (BoQ w) := by
  have HC : Hid (CoS w.heap.size w la l) := hc0
  have HF : Hid (∀ c ∈ l, Cd.Fit Bd l c) := hf
  obtain ⟨L, hL⟩ : ∃ L : Nat, L = l.length := ⟨_, rfl⟩
  have HL : Hid (L = l.length) := hL
  rw [← hL] at hl ⊢
  have BT : Hid (∀ (b : Bool) (W : World), Below w.heap.size w W → BoQ w (.returned (.bool b)) W) := fun b W hW => ⟨b, rfl, hW⟩
  clear hc0 hf hL
  go_enter Tryd.func16, Tryd.ntmps16
  go_wp2_with fail
  go_loopg [3] L (fun gk i wr => ∃ k : Nat, k + gk = L ∧ i = .int .i64 k ∧ Hid (Below w.heap.size w wr))
  case atStart => exact ⟨0, by omega, rfl, Below.refl _ _⟩
  case round =>
    obtain ⟨k, hk, rfl, BR⟩ := hrel
    rcases gk with _ | gO
    · obtain rfl : k = L := by omega
      have hki : ¬ (k : Int) < (k : Int) := by omega
      have dk : decide ((k : Int) < (k : Int)) = false := decide_eq_false hki
      go_wp2_with fail
      go_ret
      exact BT.out _ _ BR.out
    · have hlt : k < L := by omega
      have hki : (k : Int) < (L : Int) := by omega
      have dk : decide ((k : Int) < (L : Int)) = true := decide_eq_true hki
      have dkn : decide (k < L) = true := decide_eq_true hlt
      have hkl : k < l.length := by rw [← HL.out]; exact hlt
      obtain ⟨c, hc⟩ : ∃ c, l[k]? = some c := ⟨_, List.getElem?_eq_getElem hkl⟩
      have fc : Hid (Cd.Fit Bd l c) := HF.out c (List.mem_of_getElem? hc)
      obtain ⟨g, o, ia, ic, rfl, hg, ca⟩ := HC.out.at hc
      have CA : Hid (CoAt w.heap.size w g (o + k * 4) c ia ic) := ca
      obtain ⟨nI, hnI⟩ : ∃ nI, nI = c.ins.length := ⟨_, rfl⟩
      have HNI : Hid (nI = c.ins.length) := hnI
      have hnb : nI ≤ 65536 := by
        have := fc.out.sz
        unfold Cd.sz at this
        simp at this
        omega
      clear ca hc hkl hnI
      go_wp2_with fail
      go_loopg [4] nI (fun g2 i wy => ∃ j : Nat, j + g2 = nI ∧ i = .int .i64 j ∧ Hid (Below w.heap.size w wy))
      case atStart => exact ⟨0, by omega, rfl, BR⟩
      case round =>
        obtain ⟨j, hj, rfl, BY⟩ := hrel
        have cA := CA.out.later hg BY.out
        have c0 := cA.c0
        rw [← HNI.out] at c0
        have hgw : g < wr.heap.size := Nat.lt_of_lt_of_le hg BY.out.size
        rcases gk with _ | g2
        · obtain rfl : j = nI := by omega
          have hji : ¬ (j : Int) < (j : Int) := by omega
          have dj : decide ((j : Int) < (j : Int)) = false := decide_eq_false hji
          clear cA
          go_wp2_with fail
          go_roundg gO
          case measure => omega
          case rel => exact ⟨k + 1, by omega, by go_num, BY⟩
        · have hlj : j < nI := by omega
          have hji : (j : Int) < (nI : Int) := by omega
          have dj : decide ((j : Int) < (nI : Int)) = true := decide_eq_true hji
          have djn : decide (j < nI) = true := decide_eq_true hlj
          obtain ⟨x, hx⟩ : ∃ x, c.ins[j]? = some x := ⟨_, List.getElem?_eq_getElem (by rw [← HNI.out]; omega)⟩
          have hxm : x ∈ c.ins := List.mem_of_getElem? hx
          obtain ⟨gi, oi, rfl, hgi, xi⟩ := cA.hi.at hx
          have i0 := xi.c0
          have i1 := xi.c1
          have i2 := xi.c2
          obtain ⟨W1, hW1⟩ : ∃ W1, W1 = wr.alloc (inB x) := ⟨_, rfl⟩
          obtain ⟨ib, hib⟩ : ∃ ib, ib = wr.heap.size := ⟨_, rfl⟩
          obtain ⟨t0, t1, t2, b1⟩ := in_box wr x ib W1 hib hW1
          have u0 := (b1.cell (p := ⟨g, o + k * 4, none⟩) hgw).trans c0
          have BW : Hid (Below w.heap.size w W1) := BY.out.trans (b1.mono BY.out.size)
          clear xi
          go_upto_region 8 with fail
          rw [← hW1, ← hib]
          clear hW1 hib i0 i1 i2 c0
          go_cut [56] from 30 to 56 (fun s wx => ∃ b : Bool, s = .bool b ∧ Hid (Below w.heap.size w wx))
          case first =>
            obtain ⟨op, n, z⟩ := x
            dsimp only at t0 t1 t2
            by_cases h17 : op = 17
            · subst h17
              have hjp := jump_in fc.out hxm (.inl rfl)
              dsimp only at hjp
              obtain ⟨p, hp⟩ : ∃ p : Nat, n = p := ⟨n.toNat, by omega⟩
              subst hp
              rw [← HNI.out] at hjp
              by_cases hpj : (p : Int) ≤ (j : Int)
              · have dp : decide ((p : Int) ≤ (j : Int)) = true := decide_eq_true hpj
                have dpn : decide (p ≤ j) = true := decide_eq_true (by omega)
                obtain ⟨y, hy⟩ : ∃ y, c.ins[p]? = some y := ⟨_, List.getElem?_eq_getElem (by rw [← HNI.out]; omega)⟩
                obtain ⟨gi', oi', e2, _, yi⟩ := cA.hi.at hy
                cases e2
                have z0 := (b1.cell (p := ⟨gi, oi + p * 3, none⟩) (Nat.lt_of_lt_of_le hgi BY.out.size)).trans yi.c0
                have hpi : (p : Int) < (nI : Int) := by omega
                have hp0 : (0 : Int) ≤ (p : Int) := by omega
                generalize y.op = yo at z0
                clear cA yi b1 hy hxm hx hjp
                go_quiet (fail)
                have BQ := below_drewN BW.out nq
                generalize W1.drewN nq = W5 at BQ ⊢
                go_wp2_with fail
                go_meet
                exact ⟨_, rfl, BQ⟩
              · have dp : decide ((p : Int) ≤ (j : Int)) = false := decide_eq_false hpj
                have dpn : decide (p ≤ j) = false := decide_eq_false (by omega)
                clear cA b1 hxm hx hjp
                go_quiet (fail)
                have BQ := below_drewN BW.out nq
                generalize W1.drewN nq = W5 at BQ ⊢
                go_wp2_with fail
                go_meet
                exact ⟨_, rfl, BQ⟩
            · have f17 : (op == 17) = false := beq_eq_false_iff_ne.2 h17
              by_cases h18 : op = 18
              · subst h18
                have hjp := jump_in fc.out hxm (.inr rfl)
                dsimp only at hjp
                obtain ⟨p, hp⟩ : ∃ p : Nat, n = p := ⟨n.toNat, by omega⟩
                subst hp
                rw [← HNI.out] at hjp
                by_cases hpj : (p : Int) ≤ (j : Int)
                · have dp : decide ((p : Int) ≤ (j : Int)) = true := decide_eq_true hpj
                  have dpn : decide (p ≤ j) = true := decide_eq_true (by omega)
                  obtain ⟨y, hy⟩ : ∃ y, c.ins[p]? = some y := ⟨_, List.getElem?_eq_getElem (by rw [← HNI.out]; omega)⟩
                  obtain ⟨gi', oi', e2, _, yi⟩ := cA.hi.at hy
                  cases e2
                  have z0 := (b1.cell (p := ⟨gi, oi + p * 3, none⟩) (Nat.lt_of_lt_of_le hgi BY.out.size)).trans yi.c0
                  have hpi : (p : Int) < (nI : Int) := by omega
                  have hp0 : (0 : Int) ≤ (p : Int) := by omega
                  generalize y.op = yo at z0
                  clear cA yi b1 hy hxm hx hjp
                  go_quiet (fail)
                  have BQ := below_drewN BW.out nq
                  generalize W1.drewN nq = W5 at BQ ⊢
                  go_wp2_with fail
                  go_meet
                  exact ⟨_, rfl, BQ⟩
                · have dp : decide ((p : Int) ≤ (j : Int)) = false := decide_eq_false hpj
                  have dpn : decide (p ≤ j) = false := decide_eq_false (by omega)
                  clear cA b1 hxm hx hjp
                  go_quiet (fail)
                  have BQ := below_drewN BW.out nq
                  generalize W1.drewN nq = W5 at BQ ⊢
                  go_wp2_with fail
                  go_meet
                  exact ⟨_, rfl, BQ⟩

              · have f18 : (op == 18) = false := beq_eq_false_iff_ne.2 h18
                clear cA b1 hxm hx
                go_quiet (fail)
                have BQ := below_drewN BW.out nq
                generalize W1.drewN nq = W5 at BQ ⊢
                go_wp2_with fail
                go_meet
                exact ⟨_, rfl, BQ⟩
          case rest =>
            obtain ⟨b, rfl, BC⟩ := hcut
            clear cA b1 hxm hx t0 t1 t2 u0 BW
            cases b with
            | true =>
              go_wp2_with fail
              go_ret
              exact BT.out _ _ BC.out
            | false =>
              go_wp2_with fail
              go_roundg g2
              case measure => omega
              case rel => exact ⟨j + 1, by omega, by go_num, BC⟩
end Go.Proofs.YtkjkiknpgggadaaDoor

