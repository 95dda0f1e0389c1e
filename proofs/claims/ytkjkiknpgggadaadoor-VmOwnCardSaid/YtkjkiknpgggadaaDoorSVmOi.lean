/- Layer 9: rows of events: SameEvents, ahead. -/
/- Layer 9: same: both machines tell the same. -/
import Derived.Test.YtkjkiknpgggadaaDoorSVmRc
import Derived.BigQuiet
import Derived.Test.YtkjkiknpgggadaaDoorSVmOh
import Derived.Test.YtkjkiknpgggadaaDoorSVmOg
namespace Go.Proofs.YtkjkiknpgggadaaDoor
open Go.RowKit
set_option linter.unusedVariables false
set_option linter.unusedSimpArgs false

def EvS (w : World) (a : Option Addr) (l : List (Int × Int)) : Prop := 0 < l.length → ∃ g, a = some ⟨g, 0, none⟩ ∧ g < w.heap.size ∧ ∀ (j : Nat) e, l[j]? = some e → w.cell? ⟨g, j * 2, none⟩ = some (.int .i64 e.1) ∧ w.cell? ⟨g, j * 2 + 1, none⟩ = some (.int .i64 e.2)
theorem EvW.s {lo : Nat} {w : World} {a : Option Addr} {l : List (Int × Int)} (h : EvW lo w.heap.size w a l) : EvS w a l := fun h0 => by
  obtain ⟨g, e, _, h2, h3⟩ := h h0
  exact ⟨g, e, h2, h3⟩
theorem EvS.later {w w' : World} {a : Option Addr} {l : List (Int × Int)} (h : EvS w a l) (b : Below w.heap.size w w') : EvS w' a l := fun h0 => by
  obtain ⟨g, e, h2, h3⟩ := h h0
  exact ⟨g, e, Nat.lt_of_lt_of_le h2 b.size, fun j x hj => ⟨(b.cell (p := ⟨g, _, none⟩) h2).trans (h3 j x hj).1, (b.cell (p := ⟨g, _, none⟩) h2).trans (h3 j x hj).2⟩⟩
set_option maxRecDepth 100000 in
set_option maxHeartbeats 4000000 in
theorem vmEvents2 (m : Nat) (w : World) (V : VmV) (M : Vm.Mc) (h : VmS m w V M) (hb : M.events.length ≤ 1000000000) : Calls Tryd.prog 13 #[.pointer (some ⟨m, 0, none⟩)] w fun e w' => ∃ a c, e = .returned (.slice a M.events.length c) ∧ M.events.length ≤ c ∧ EvS w' a M.events ∧ Below w.heap.size w w' := by
  have ho : w.ownsRow (m + 1) 50 2 V.ev M.events.length (Vm.evC M.events) := h.rows.ob
  obtain ⟨sa, sc, hv⟩ := own_shp ho
  have c9 := h.cell.2.2.2.2.2.1
  rw [hv] at c9 ho
  have EC : Hid (Calls Tryd.prog 41 #[.slice sa M.events.length sc] w fun e w' => ∃ a c, e = .returned (.slice a M.events.length c) ∧ M.events.length ≤ c ∧ EvS w' a M.events ∧ Below w.heap.size w w') := by
    refine (cloneEv w sa M.events.length sc (Vm.evC M.events) (fun e => ?_) (evC_len _) (fun ad e => ?_) (evC_one _) (by omega)).mono fun e w' ⟨v', h1, h2, h3⟩ => ?_
    · subst e
      rcases ho.2 with ⟨_, e0⟩ | ⟨_, _, _, e, _⟩
      · exact e0
      · cases e
    · subst e
      rcases ho.2 with ⟨e, _⟩ | ⟨g, cap, cur, e, _⟩
      · cases e
      · cases e
        exact fun j u hu => @World.ownsRow.cells _ _ _ _ _ _ _ ho g rfl j u hu
    · obtain ⟨a, cap, e1, h4, h5⟩ := own_evW h2 rfl
      exact ⟨a, cap, by rw [h1, e1], h4, h5.s, h3⟩
  obtain ⟨n, hn⟩ : ∃ n, n = M.events.length := ⟨_, rfl⟩
  rw [← hn] at EC c9 ⊢
  clear h ho hv hb hn
  go_enter Tryd.func13, Tryd.ntmps13
  go_wp2_with fail
  refine Calls.mono EC.out ?_
  rintro e1 w1 ⟨a, c, rfl, h0, h1, h2⟩
  have FIN : Hid (∃ a' c', Ending.returned (.slice a n c) = .returned (.slice a' n c') ∧ n ≤ c' ∧ EvS w1 a' M.events ∧ Below w.heap.size w w1) := ⟨a, c, rfl, h0, h1, h2⟩
  clear h0 h1 h2 EC c9
  go_wp2_with fail
  go_ret
  first
    | exact FIN.out
    | simpa using FIN.out
theorem oEvents2 (lo m : Nat) (w : World) (V : VmV) (M : Vm.Mc) (h : VmO lo m w V M) (hb : M.events.length ≤ 1000000000) : Calls Tryd.prog 13 #[.pointer (some ⟨m, 0, none⟩)] w fun e w' => ∃ a c, e = .returned (.slice a M.events.length c) ∧ M.events.length ≤ c ∧ EvS w' a M.events ∧ Below w.heap.size w w' := vmEvents2 m w V (M.gh ⟨w, VOwn V, lo⟩) h.re hb
set_option maxRecDepth 100000 in
set_option maxHeartbeats 8000000 in
theorem sameEv_yes (w : World) (a b : Option Addr) (ca cb : Nat) (l : List (Int × Int)) (ha : EvS w a l) (hb : EvS w b l) (hl : l.length ≤ 1000000000) : Calls Tryd.prog 22 #[.slice a l.length ca, .slice b l.length cb] w fun e w' => e = .returned (.bool true) ∧ Below w.heap.size w w' := by
  have HA : Hid (EvS w a l) := ha
  have HB : Hid (EvS w b l) := hb
  obtain ⟨n, hn⟩ : ∃ n, n = l.length := ⟨_, rfl⟩
  have HN : Hid (n = l.length) := hn
  rw [← hn] at hl ⊢
  clear ha hb hn
  go_enter Tryd.func22, Tryd.ntmps22
  go_wp2_with fail
  go_loopg [5] n (fun gk i wr => ∃ k : Nat, k + gk = n ∧ i = .int .i64 k ∧ Hid (Below w.heap.size w wr))
  case atStart => exact ⟨0, by omega, rfl, Below.refl _ _⟩
  case round =>
    obtain ⟨k, hk, rfl, BR⟩ := hrel
    rcases gk with _ | gk
    · obtain rfl : k = n := by omega
      have hki : ¬ (k : Int) < (k : Int) := by omega
      have dk : decide ((k : Int) < (k : Int)) = false := decide_eq_false hki
      go_wp2_with fail
      go_ret
      exact ⟨rfl, BR.out⟩
    · have hlt : k < n := by omega
      have hki : (k : Int) < (n : Int) := by omega
      have dk : decide ((k : Int) < (n : Int)) = true := decide_eq_true hki
      have dkn : decide (k < n) = true := decide_eq_true hlt
      obtain ⟨x, hx⟩ : ∃ x, l[k]? = some x := ⟨_, List.getElem?_eq_getElem (by rw [← HN.out]; exact hlt)⟩
      obtain ⟨ga, rfl, hga, ca'⟩ := (HA.out.later BR.out) (by rw [← HN.out]; omega)
      obtain ⟨gb, rfl, hgb, cb'⟩ := (HB.out.later BR.out) (by rw [← HN.out]; omega)
      have a0 := (ca' k x hx).1
      have a1 := (ca' k x hx).2
      have b0 := (cb' k x hx).1
      have b1 := (cb' k x hx).2
      generalize x.1 = x1 at a0 b0
      generalize x.2 = x2 at a1 b1
      have q1 : (x1 == x1) = true := beq_self_eq_true x1
      have q2 : (x2 == x2) = true := beq_self_eq_true x2
      clear ca' cb' hx
      go_upto_region 6 with fail
      go_quiet (fail)
      have BQ := below_drewN BR.out nq
      generalize wr.drewN nq = W5 at BQ ⊢
      have BH : Hid (Below w.heap.size w W5) := BQ
      clear BQ a0 a1 b0 b1
      go_wp2_with fail
      go_roundg gk
      case measure => omega
      case rel => exact ⟨k + 1, by omega, by go_num, BH⟩
end Go.Proofs.YtkjkiknpgggadaaDoor

namespace Go.Proofs.YtkjkiknpgggadaaDoor
open Go.RowKit
set_option linter.unusedVariables false
set_option linter.unusedSimpArgs false

set_option maxRecDepth 100000 in
set_option maxHeartbeats 8000000 in
theorem sameNu_yes (w : World) (a b : Option Addr) (ca cb : Nat) (l : List Int) (ha : NuS w.heap.size w a l) (hb : NuS w.heap.size w b l) (hl : l.length ≤ 1000000000) : Calls Tryd.prog 23 #[.slice a l.length ca, .slice b l.length cb] w fun e w' => e = .returned (.bool true) ∧ Below w.heap.size w w' := by
  have HA : Hid (NuS w.heap.size w a l) := ha
  have HB : Hid (NuS w.heap.size w b l) := hb
  obtain ⟨n, hn⟩ : ∃ n, n = l.length := ⟨_, rfl⟩
  have HN : Hid (n = l.length) := hn
  rw [← hn] at hl ⊢
  clear ha hb hn
  go_enter Tryd.func23, Tryd.ntmps23
  go_wp2_with fail
  go_loopg [5] n (fun gk i wr => ∃ k : Nat, k + gk = n ∧ i = .int .i64 k ∧ Hid (Below w.heap.size w wr))
  case atStart => exact ⟨0, by omega, rfl, Below.refl _ _⟩
  case round =>
    obtain ⟨k, hk, rfl, BR⟩ := hrel
    rcases gk with _ | gk
    · obtain rfl : k = n := by omega
      have hki : ¬ (k : Int) < (k : Int) := by omega
      have dk : decide ((k : Int) < (k : Int)) = false := decide_eq_false hki
      go_wp2_with fail
      go_ret
      exact ⟨rfl, BR.out⟩
    · have hlt : k < n := by omega
      have hki : (k : Int) < (n : Int) := by omega
      have dk : decide ((k : Int) < (n : Int)) = true := decide_eq_true hki
      have dkn : decide (k < n) = true := decide_eq_true hlt
      obtain ⟨x, hx⟩ : ∃ x, l[k]? = some x := ⟨_, List.getElem?_eq_getElem (by rw [← HN.out]; exact hlt)⟩
      obtain ⟨ga, oa, rfl, hga, ca'⟩ := (HA.out.later BR.out) (by rw [← HN.out]; omega)
      obtain ⟨gb, ob, rfl, hgb, cb'⟩ := (HB.out.later BR.out) (by rw [← HN.out]; omega)
      have a0 := ca' k x hx
      have b0 := cb' k x hx
      have q1 : (x == x) = true := beq_self_eq_true x
      clear ca' cb' hx
      go_upto_region 6 with fail
      go_quiet (fail)
      have BQ := below_drewN BR.out nq
      generalize wr.drewN nq = W5 at BQ ⊢
      have BH : Hid (Below w.heap.size w W5) := BQ
      clear BQ a0 b0
      go_wp2_with fail
      go_roundg gk
      case measure => omega
      case rel => exact ⟨k + 1, by omega, by go_num, BH⟩
namespace Vm
theorem fce_len {R : Rm} (h : Rcl R) : ∀ l : List Rf, (∀ g ∈ l, g ∈ R.frames) → (fce l).length ≤ l.length * 65536
  | [], _ => by simp [fce]
  | g :: r, hm => by
    have ih := fce_len h r fun x hx => hm x (List.mem_cons_of_mem _ hx)
    obtain ⟨c, hc, hk⟩ := h.fr g (hm g (List.mem_cons_self ..))
    have hc2 := h.ce c (List.mem_of_getElem? hc)
    have e : fce (g :: r) = g.cells ++ fce r := rfl
    rw [e, List.length_append, List.length_cons]
    omega
theorem frs_at : ∀ (b : Nat) (l : List Rf) (j : Nat) (g : Rf), l[j]? = some g → (frs b l)[j]? = some ⟨g.proc, g.place, g.mark, b + (fce (l.take j)).length⟩ ∧ ∃ t, fce l = fce (l.take j) ++ (g.cells ++ t)
  | b, [], j, g, h => by simp at h
  | b, x :: r, 0, g, h => by
    simp at h
    subst h
    exact ⟨by simp [frs, fce], fce r, by simp [fce]⟩
  | b, x :: r, j + 1, g, h => by
    have ih := frs_at (b + x.cells.length) r j g (by simpa using h)
    obtain ⟨i1, t, i2⟩ := ih
    have e : fce ((x :: r).take (j + 1)) = x.cells ++ fce (r.take j) := rfl
    refine ⟨?_, t, ?_⟩
    · rw [frs, List.getElem?_cons_succ, i1, e, List.length_append, Nat.add_assoc]
    · rw [e, List.append_assoc, ← i2]
      rfl
end Vm
theorem oFrameR (B0 m : Nat) (w : World) (V : VmV) (M : Vm.Mc) (R : Vm.Rm) (j : Nat) (g : Vm.Rf) (h : VmO B0 m w V M) (sm : Vm.Sm M R) (rc : Vm.Rcl R) (hj : R.frames[j]? = some g) : Calls Tryd.prog 14 #[.pointer (some ⟨m, 0, none⟩), .int .i64 j] w (FrQ w g.proc g.mark g.cells) := by
  obtain ⟨s, G, e⟩ := sm
  obtain ⟨f1, t, f2⟩ := Vm.frs_at 0 R.frames j g hj
  obtain ⟨c, hc, hk⟩ := rc.fr g (List.mem_of_getElem? hj)
  have e1 : M.frames = Vm.frs 0 R.frames := by rw [e]; rfl
  have e2 : M.cells = Vm.fce R.frames := by rw [e]; rfl
  have e3 : M.codes = R.codes := by rw [e]; rfl
  have ln := Vm.fce_len rc R.frames fun _ h => h
  have n50 := rc.n50
  have ln2 : R.frames.length * 65536 ≤ 50 * 65536 := Nat.mul_le_mul_right _ n50
  have q := oFrame B0 m w V M j ⟨g.proc, g.place, g.mark, 0 + (Vm.fce (R.frames.take j)).length⟩ c g.cells.length h (by rw [e1]; exact f1) (by rw [e3]; exact hc) hk.symm (by rw [e2, f2, List.length_append, List.length_append]; show 0 + _ + _ ≤ _; omega) (by rw [e2]; omega) (by rw [e1, Vm.frs_len]; omega)
  have e4 : (M.cells.drop (0 + (Vm.fce (R.frames.take j)).length)).take g.cells.length = g.cells := by
    rw [e2, f2, Nat.zero_add, List.drop_left, List.take_left]
  rw [e4] at q
  exact q
theorem rmC_get : ∀ (l : List Vm.Rf) (f : List (Value × Value)) (k : Nat) (g : Vm.Rf), l.length = f.length → l[k]? = some g → ∃ v, (rmC l f)[k * 5]? = some (.int .i64 g.proc) ∧ (rmC l f)[k * 5 + 2]? = some (.int .i64 g.mark) ∧ (rmC l f)[k * 5 + 3]? = some v ∧ (⟨2, 1, v, g.cells.length, nC g.cells⟩ : Rw) ∈ rmR l f
  | [], _, k, g, _, h => by simp at h
  | _ :: _, [], k, g, e, h => by simp at e
  | x :: l, y :: f, 0, g, e, h => by
    simp at h
    subst h
    exact ⟨y.1, rfl, rfl, rfl, by simp [rmR]⟩
  | x :: l, y :: f, k + 1, g, e, h => by
    obtain ⟨v, h1, h2, h3, h4⟩ := rmC_get l f k g (by simpa using e) (by simpa using h)
    have q : ∀ i, (rmC (x :: l) (y :: f))[(k + 1) * 5 + i]? = (rmC l f)[k * 5 + i]? := fun i => by
      rw [rmC, List.getElem?_append_right (by simp; omega)]
      congr 1
      simp
      omega
    refine ⟨v, ?_, ?_, ?_, ?_⟩
    · have := q 0; simp only [Nat.add_zero] at this; rw [this]; exact h1
    · rw [q 2]; exact h2
    · rw [q 3]; exact h3
    · simp [rmR, h4]
theorem RmS.frameAt {G : Gh} {r : Nat} {w : World} {U : RmV} {R : Vm.Rm} (h : RmS G r w U R) {k : Nat} {g : Vm.Rf} (hk : R.frames[k]? = some g) : ∃ gf cap ca cc, U.fv = .slice (some ⟨gf, 0, none⟩) R.frames.length cap ∧ gf < w.heap.size ∧ w.cell? ⟨gf, k * 5, none⟩ = some (.int .i64 g.proc) ∧ w.cell? ⟨gf, k * 5 + 2, none⟩ = some (.int .i64 g.mark) ∧ w.cell? ⟨gf, k * 5 + 3, none⟩ = some (.slice ca g.cells.length cc) ∧ NuS w.heap.size w ca g.cells := by
  have ho : w.ownsRow (r + 1) 60 5 U.fv R.frames.length (rmC R.frames U.fc) := h.rows.own (rfR U R) (by simp)
  obtain ⟨v, h1, h2, h3, h4⟩ := rmC_get R.frames U.fc k g h.fl hk
  have hlt := (List.getElem?_eq_some_iff.1 hk).1
  have hcl := @World.ownsRow.cells _ _ _ _ _ _ _ ho
  have hl := ho.lt
  have oc : w.ownsRow (r + 1) 2 1 v g.cells.length (nC g.cells) := h.rows.own _ (List.mem_cons_of_mem _ (List.mem_cons_of_mem _ h4))
  obtain ⟨ca, cc, hv, _, nu⟩ := own_nuW oc rfl
  rcases ho.2 with ⟨_, e0⟩ | ⟨gf, cap, cur, e, _⟩
  · omega
  · have get : ∀ i u, (rmC R.frames U.fc)[i]? = some u → w.cell? ⟨gf, i, none⟩ = some u := fun i u hu => by
      have := hcl (g := gf) (by rw [e]; rfl) i u hu
      rw [adM, Nat.zero_add] at this
      exact this
    exact ⟨gf, cap, ca, cc, e, (hl gf (by rw [e]; rfl)).2, get _ _ h1, get _ _ h2, by rw [← hv]; exact get _ _ h3, nu.s⟩
end Go.Proofs.YtkjkiknpgggadaaDoor

