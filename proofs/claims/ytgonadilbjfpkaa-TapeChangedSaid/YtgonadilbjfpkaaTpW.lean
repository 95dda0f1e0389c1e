/- Layer 13: known: the fixed calls; TapeSums. -/
import Derived.Test.YtgonadilbjfpkaaTpV
namespace Go.Proofs.Ytgonadilbjfpkaa
open Go.RowKit
set_option linter.unusedVariables false
set_option linter.unusedSimpArgs false
theorem kn1 : Tp.dg (Tp.zg (-1)) = [1] := by decide
theorem kn2 : Tp.dg (Tp.zg 64) = [128, 1] := by decide
theorem kn3 : Tp.wi [] = [80, 76, 88, 49, 1, 0, 5, 87, 1, 39] := by kernel_rfl
theorem kn4 : Tp.riB [80, 76, 88, 49, 1, 0, 5, 87, 1, 39] = .good [] 0 := by kernel_rfl
theorem kn5 : Tp.sum [] = 1 := by kernel_rfl
theorem kn6 : Tp.sum [1] = 131074 := by kernel_rfl
theorem sumP_nil (w : World) : Calls Try.prog 14 #[.slice none 0 0] w fun e w' => e = .returned (.int .u32 1) ∧ w' = w := by
  have h := sumP_any [] none 0 w Tp.Byt.nil (B := 0) (fun h => absurd h (by decide)) (by decide)
  rw [kn5] at h
  exact h
theorem sumP_one (w : World) (g : Nat) (hg : w.cell? ⟨g, 0, none⟩ = some (.int .u8 1)) : Calls Try.prog 14 #[.slice (some ⟨g, 0, none⟩) 1 1] w fun e w' => e = .returned (.int .u32 131074) ∧ w' = w := by
  have h := sumP_any [1] (some ⟨g, 0, none⟩) 1 w (by intro c hc; simp at hc; omega) (B := g + 1) (fun _ => ⟨g, 0, rfl, by omega, fun j x hj => by
    cases j with
    | zero => simp at hj; subst hj; simpa using hg
    | succ j => simp at hj⟩) (by decide)
  rw [kn6] at h
  exact h
theorem OwB.cell' {w : World} {base : Nat} {v : Value} {l : List Int} (h : OwB w base v l) (h0 : 0 < l.length) : ∃ g cap, v = .slice (some ⟨g, 0, none⟩) l.length cap ∧ base ≤ g ∧ g < w.heap.size ∧ l.length ≤ cap ∧ ∀ j x, l[j]? = some x → w.cell? ⟨g, j, none⟩ = some (.int .u8 x) := by
  have hc := @World.ownsRow.cells _ _ _ _ _ _ _ h
  have hl := @World.ownsRow.lt _ _ _ _ _ _ _ h
  rcases h.2 with ⟨_, h1⟩ | ⟨g, cap, cur, e, hbg, _, hcap, _⟩
  · omega
  · subst e
    refine ⟨g, cap, rfl, hbg, (hl g rfl).2, hcap, fun j x hx => ?_⟩
    have := hc (g := g) rfl j _ (byC_get hx)
    rw [adT, Nat.zero_add] at this
    exact this
set_option maxRecDepth 100000 in
set_option maxHeartbeats 4000000 in
theorem known13 (w : World) : Calls Try.prog 9 #[] w fun e w' => e = .returned (.bool true) ∧ Below w.heap.size w w' := by
  go_enter Try.func9, Try.ntmps9
  go_wp2_with fail
  refine (numP_any w (-1) (by decide) (by decide)).mono ?_
  rintro e w1 ⟨v1, rfl, o1, k1⟩
  rw [kn1] at o1
  obtain ⟨g1, c1, hv1, hb1, hl1, hc1, ce1⟩ := o1.cell' (by decide)
  subst hv1
  have A1 := hidT (ce1 0 1 rfl)
  have HL1 := hidT hl1
  have K1 := hidT k1
  clear o1 k1 ce1 hc1 hb1 hl1
  go_wp2_with fail
  refine (numP_any w1 64 (by decide) (by decide)).mono ?_
  rintro e w2 ⟨v2, rfl, o2, k2⟩
  rw [kn2] at o2
  obtain ⟨g2, c2, hv2, hb2, hl2, hc2, ce2⟩ := o2.cell' (by decide)
  subst hv2
  have A2 := hidT (And.intro (ce2 0 128 rfl) (ce2 1 1 rfl))
  have HL2 := hidT hl2
  have K2 := hidT k2
  clear o2 k2 ce2 hc2 hb2 hl2
  go_wp2_with fail
  refine (writeIn_any [] none 0 w2 (B := 0) (fun h => absurd h (by decide)) (by omega) (by decide) (by simp)).mono ?_
  rintro e w3 ⟨v3, rfl, o3, k3⟩
  rw [kn3] at o3
  obtain ⟨g3, c3, hv3, hb3, hl3, hc3, ce3⟩ := o3.cell' (by decide)
  subst hv3
  have A3 := hidT (ce3 5 0 rfl)
  have HL3 := hidT hl3
  have K3 := hidT k3
  have R3 := hidT (readIn_any [80, 76, 88, 49, 1, 0, 5, 87, 1, 39] (some ⟨g3, 0, none⟩) c3 w3 (by intro c hc; simp at hc; omega) (B := w3.heap.size) (fun _ => ⟨g3, 0, rfl, hl3, fun j x hj => by rw [Nat.zero_add]; exact ce3 j x hj⟩) (Nat.le_refl _) hc3 (by decide))
  rw [kn4] at R3
  dsimp only [rdQ] at R3
  clear o3 k3 ce3 hc3 hb3 hl3
  dsimp only [List.length_cons, List.length_nil] at R3 ⊢
  go_wp2_with fail
  refine R3.out.mono ?_
  rintro e w4 ⟨v4, rfl, o4, k4⟩
  obtain ⟨a4, c4, hv4⟩ := ownShT o4
  subst hv4
  have k3' := K3.out.trans (k4.mono K3.out.size)
  have k2' := K2.out.trans (k3'.mono K2.out.size)
  have x1 : w4.cell? ⟨g1, 0, none⟩ = some (.int .u8 1) := (k2'.cell (p := ⟨g1, 0, none⟩) HL1.out).trans A1.out
  have x2 : w4.cell? ⟨g2, 0, none⟩ = some (.int .u8 128) := (k3'.cell (p := ⟨g2, 0, none⟩) HL2.out).trans A2.out.1
  have x3 : w4.cell? ⟨g2, 1, none⟩ = some (.int .u8 1) := (k3'.cell (p := ⟨g2, 1, none⟩) HL2.out).trans A2.out.2
  have x5 : w4.cell? ⟨g3, 5, none⟩ = some (.int .u8 0) := (k4.cell (p := ⟨g3, 5, none⟩) HL3.out).trans A3.out
  have K4 := hidT (K1.out.trans (k2'.mono K1.out.size))
  clear o4 k4 k3' k2'
  dsimp only [List.length_cons, List.length_nil]
  go_wp2_with fail
  refine (sumP_nil _).mono ?_
  rintro e w5 ⟨rfl, rfl⟩
  go_wp2_with fail
  refine (sumP_one _ _ (by simp)).mono ?_
  rintro e w6 ⟨rfl, rfl⟩
  go_wp2_with fail
  go_ret
  exact ⟨rfl, K4.out.trans ((Below.refl _ _).alloc K4.out.size _)⟩
set_option maxHeartbeats 1000000 in
theorem sums_walk (b : List Int) (a : Option Addr) (c : Nat) (w : World) (hb : Tp.Byt b) (hm : ByS w.heap.size w a b) (hl : b.length ≤ 4611686018427387904) :
    Calls Try.prog 4 #[.slice a b.length c] w fun e w' => e = .returned (.bool true) ∧ Below w.heap.size w w' := by
  have HP := hidT (sumP_any b a c w hb hm hl)
  have HR := hidT (rSum_any b a c w hb hm hl)
  obtain ⟨n, hn⟩ : ∃ n, n = b.length := ⟨_, rfl⟩
  rw [← hn] at hl HP HR ⊢
  generalize Tp.sum b = S at HP HR
  have q : (S == S) = true := beq_self_eq_true S
  clear hn hb hm
  by_cases h6 : 6000 < n
  · have d : decide ((6000 : Int) < (n : Int)) = true := decide_eq_true (by omega)
    go_enter Try.func4, Try.ntmps4
    go_wp2_with fail
    go_ret
    exact ⟨rfl, Below.refl _ _⟩
  · have d : decide ((6000 : Int) < (n : Int)) = false := decide_eq_false (by omega)
    go_enter Try.func4, Try.ntmps4
    go_wp2_with fail
    refine HP.out.mono ?_
    rintro e w1 ⟨rfl, rfl⟩
    go_wp2_with fail
    refine HR.out.mono ?_
    rintro e w2 ⟨rfl, rfl⟩
    go_wp2_with fail
    refine (known13 _).mono ?_
    rintro e w3 ⟨rfl, k3⟩
    have K3 := hidT k3
    clear k3
    go_wp2_with fail
    go_ret
    exact ⟨rfl, K3.out⟩
theorem sums_walk' (w : World) (a : Option Addr) (b : List Int) (c : Nat) (hm : ByS w.heap.size w a b) (hb : Tp.Byt b) (_hc : b.length ≤ c) (hl : b.length ≤ 1000000000000000) :
    Calls Try.prog 4 #[.slice a b.length c] w fun e w' => e = .returned (.bool true) ∧ Below w.heap.size w w' := sums_walk b a c w hb hm (by omega)
end Go.Proofs.Ytgonadilbjfpkaa
