/- Layer 13: a record is taken. -/
import Derived.Test.YtgonadilbjfpkaaTtI1
import Derived.Test.YtgonadilbjfpkaaTtI2
import Derived.Test.YtgonadilbjfpkaaTtI3
import Derived.Test.YtgonadilbjfpkaaTtI4
import Derived.Test.YtgonadilbjfpkaaTtJ1
import Derived.Test.YtgonadilbjfpkaaTtJ2
import Derived.Test.YtgonadilbjfpkaaTtJ3
namespace Go.Proofs.Ytgonadilbjfpkaa
open Go.RowKit
set_option linter.unusedVariables false
set_option linter.unusedSimpArgs false
/-- What a record leaves. -/
def stQ (ok : Value) (w0 : World) (g : Nat) (a : Option Addr) (c : Nat) (b : List Int) (s : Int) (t : Tp.Tr) (e : Ending) (w' : World) : Tp.Stp → Prop
  | .fin j => e = .returned (.bool false) ∧ ∃ tv cv ev, TrR w0 g a c b j tv cv ev s t w'
  | .more t' j => e = .returned ok ∧ ∃ tv cv ev, TrR w0 g a c b j tv cv ev s t' w'
  | .bad j x => e = tpPan x ∧ ∃ tv cv ev, TrR w0 g a c b j tv cv ev s t w'
theorem tick_any (w0 w : World) (g : Nat) (a : Option Addr) (c : Nat) (b : List Int) (k : Nat) (tv cv ev : Value) (s : Int) (t : Tp.Tr) (h : TrR w0 g a c b k tv cv ev s t w) (hk : k < b.length) (kd : Int) (hT : t.ticks.length ≤ 1000000) (hC : t.counts.length ≤ 1000000) (hE : t.events.length ≤ 1000000) :
    Calls Try.prog 76 #[.pointer (some ⟨g, 0, none⟩), .int .i64 kd] w fun e w' => stQ (.tuple #[]) w0 g a c b s t e w' (Tp.stepT b k t kd) := by
  unfold Tp.stepT
  cases h1 : Tp.tnum b 0 (k + 1) with
  | bad j x => exact tick_b1 w0 w g a c b k tv cv ev s t h hk kd j x h1
  | good z1 k1 =>
    dsimp only
    cases h2 : Tp.tnum b 0 k1 with
    | bad j x => exact tick_b2 w0 w g a c b k tv cv ev s t h hk kd z1 k1 j x h1 h2
    | good z2 k2 =>
      dsimp only
      cases h3 : Tp.tnum b 1 k2 with
      | bad j x => exact tick_b3 w0 w g a c b k tv cv ev s t h hk kd z1 k1 z2 k2 j x h1 h2 h3
      | good z3 k3 => exact tick_ok w0 w g a c b k tv cv ev s t h hk kd z1 k1 z2 k2 z3 k3 h1 h2 h3 hT hC hE
theorem event_any (w0 w : World) (g : Nat) (a : Option Addr) (c : Nat) (b : List Int) (k : Nat) (tv cv ev : Value) (s : Int) (t : Tp.Tr) (h : TrR w0 g a c b k tv cv ev s t w) (hk : k < b.length) (kd : Int) (hE : t.events.length ≤ 1000000) :
    Calls Try.prog 77 #[.pointer (some ⟨g, 0, none⟩), .int .i64 (kd - 16)] w fun e w' => stQ (.tuple #[]) w0 g a c b s t e w' (Tp.stepE b k t kd) := by
  unfold Tp.stepE
  by_cases hn : Tp.hasN (kd - 16) = true
  · rw [if_pos hn]
    cases h1 : Tp.rdF 0 0 (b.drop (k + 1)) with
    | inr x => exact event_bad w0 w g a c b k tv cv ev s t h hk (kd - 16) hn x h1
    | inl p =>
      obtain ⟨z, u⟩ := p
      exact event_ok w0 w g a c b k tv cv ev s t h hk (kd - 16) hn z u h1 hE
  · rw [if_neg hn]
    exact event_no w0 w g a c b k tv cv ev s t h hk (kd - 16) (by simpa using hn) hE
set_option maxRecDepth 100000 in
set_option maxHeartbeats 4000000 in
theorem rec_short (w0 w : World) (g : Nat) (a : Option Addr) (c : Nat) (b : List Int) (k : Nat) (tv cv ev : Value) (s : Int) (t : Tp.Tr) (h : TrR w0 g a c b k tv cv ev s t w) (hk : b.length ≤ k) :
    Calls Try.prog 71 #[.pointer (some ⟨g, 0, none⟩)] w fun e w' => e = tpPan 112 ∧ ∃ tv cv ev, TrR w0 g a c b k tv cv ev s t w' := by
  have hln := h.p.ln
  have a0 := h.p.c0
  have a1 := h.p.c1
  have af := h.p.fz 1
  have H := hidT h
  obtain ⟨n, hn⟩ : ∃ n, n = b.length := ⟨_, rfl⟩
  have HN := hidT hn
  rw [← hn] at hln a0 hk
  have d : decide ((k : Int) < (n : Int)) = false := decide_eq_false (by omega)
  have d' : decide (k < n) = false := decide_eq_false (by omega)
  clear h hn
  go_enter Try.func71, Try.ntmps71
  go_upto_region 1 with fail
  go_region_with (first
    | (go_at_call 73; refine shutT (must_no 112 _) ?_ (.tuple #[]) ?_; (unfold tpPan; rintro e w9 ⟨rfl, rfl⟩; exact ⟨rfl, rfl, _, _, _, H.out.later (by go_grown)⟩); intro hF))
  all_goals exact hF.out _
set_option maxRecDepth 100000 in
set_option maxHeartbeats 4000000 in
theorem rec_fin (w0 w : World) (g : Nat) (a : Option Addr) (c : Nat) (b : List Int) (k : Nat) (tv cv ev : Value) (s : Int) (t : Tp.Tr) (h : TrR w0 g a c b k tv cv ev s t w) (x : Int) (hx : b[k]? = some x) (h0 : x = 0) :
    Calls Try.prog 71 #[.pointer (some ⟨g, 0, none⟩)] w fun e w' => e = .returned (.bool false) ∧ ∃ tv cv ev, TrR w0 g a c b (k + 1) tv cv ev s t w' := by
  have hln := h.p.ln
  have a0 := h.p.c0
  have a1 := h.p.c1
  have af := h.p.fz 1
  have H := hidT h
  have hk : k < b.length := (List.getElem?_eq_some_iff.1 hx).1
  obtain ⟨ga, oa, hae, hga, hcs⟩ := h.p.bs (by omega)
  have hcx := hcs k x hx
  subst hae
  have hxr := h.p.yt x (List.mem_of_getElem? hx)
  obtain ⟨n, hn⟩ : ∃ n, n = b.length := ⟨_, rfl⟩
  have HN := hidT hn
  rw [← hn] at hln a0 hk
  have d : decide ((k : Int) < (n : Int)) = true := decide_eq_true (by omega)
  have d' : decide (k < n) = true := decide_eq_true (by omega)
  clear h hcs
  have q0 : (x == 0) = true := by simpa using h0
  clear hn
  go_enter Try.func71, Try.ntmps71
  go_upto_region 1 with fail
  go_quiet (first | (go_at_call 73; exact Calls.quiet_of_same (must_yes 112 _)))
  have H1 := hidT (H.out.later (drN (Below.refl _ _) nq))
  have k0 : (w.drewN nq).cell? ⟨g, 0, none⟩ = some (.slice (some ⟨ga, oa, none⟩) n c) := a0
  have k1 : (w.drewN nq).cell? ⟨g, 1, none⟩ = some (.int .i64 k) := a1
  have kf : (w.drewN nq).frozen? ⟨g, 1, none⟩ = false := af
  have kx : (w.drewN nq).cell? ⟨ga, oa + k, none⟩ = some (.int .u8 x) := hcx
  generalize w.drewN nq = W1 at H1 k0 k1 kf kx ⊢
  clear a0 a1 af hcx
  go_wp2_with fail
  go_quiet (fail)
  have H2 := hidT (H1.out.later (drN (Below.refl _ _) nq))
  have j1 : (W1.drewN nq).cell? ⟨g, 1, none⟩ = some (.int .i64 k) := k1
  have jf : (W1.drewN nq).frozen? ⟨g, 1, none⟩ = false := kf
  generalize W1.drewN nq = W2 at H2 j1 jf ⊢
  clear k0 k1 kf kx
  go_wp2_with fail
  go_ret
  have H3 := H2.out.setK (k' := k + 1) (by rw [← HN.out]; exact hk)
  have ek : ((k + 1 : Nat) : Int) = (k : Int) + 1 := by omega
  rw [ek] at H3
  exact ⟨rfl, _, _, _, H3⟩
set_option maxRecDepth 100000 in
set_option maxHeartbeats 4000000 in
theorem rec_tick (w0 w : World) (g : Nat) (a : Option Addr) (c : Nat) (b : List Int) (k : Nat) (tv cv ev : Value) (s : Int) (t : Tp.Tr) (h : TrR w0 g a c b k tv cv ev s t w) (hT : t.ticks.length ≤ 1000000) (hC : t.counts.length ≤ 1000000) (hE : t.events.length ≤ 1000000) (x : Int) (hx : b[k]? = some x) (h0 : x ≠ 0) (h1 : Tp.bet 1 x 3 = true) :
    Calls Try.prog 71 #[.pointer (some ⟨g, 0, none⟩)] w fun e w' => stQ (.bool true) w0 g a c b s t e w' (Tp.stepT b k t x) := by
  have hln := h.p.ln
  have a0 := h.p.c0
  have a1 := h.p.c1
  have af := h.p.fz 1
  have H := hidT h
  have hk : k < b.length := (List.getElem?_eq_some_iff.1 hx).1
  obtain ⟨ga, oa, hae, hga, hcs⟩ := h.p.bs (by omega)
  have hcx := hcs k x hx
  subst hae
  have hxr := h.p.yt x (List.mem_of_getElem? hx)
  have HT := hidT (fun W q => tick_any w0 W g (some ⟨ga, oa, none⟩) c b k tv cv ev s t q hk x hT hC hE)
  obtain ⟨n, hn⟩ : ∃ n, n = b.length := ⟨_, rfl⟩
  have HN := hidT hn
  rw [← hn] at hln a0 hk
  have d : decide ((k : Int) < (n : Int)) = true := decide_eq_true (by omega)
  have d' : decide (k < n) = true := decide_eq_true (by omega)
  clear h hcs
  have HB1 := hidT (between_any 1 x 3)
  rw [h1] at HB1
  have q0 : (x == 0) = false := by simpa using h0
  clear hn hT hC hE
  go_enter Try.func71, Try.ntmps71
  go_upto_region 1 with fail
  go_quiet (first | (go_at_call 73; exact Calls.quiet_of_same (must_yes 112 _)))
  have H1 := hidT (H.out.later (drN (Below.refl _ _) nq))
  have k0 : (w.drewN nq).cell? ⟨g, 0, none⟩ = some (.slice (some ⟨ga, oa, none⟩) n c) := a0
  have k1 : (w.drewN nq).cell? ⟨g, 1, none⟩ = some (.int .i64 k) := a1
  have kf : (w.drewN nq).frozen? ⟨g, 1, none⟩ = false := af
  have kx : (w.drewN nq).cell? ⟨ga, oa + k, none⟩ = some (.int .u8 x) := hcx
  generalize w.drewN nq = W1 at H1 k0 k1 kf kx ⊢
  clear a0 a1 af hcx
  go_wp2_with fail
  go_quiet (fail)
  have H2 := hidT (H1.out.later (drN (Below.refl _ _) nq))
  have j1 : (W1.drewN nq).cell? ⟨g, 1, none⟩ = some (.int .i64 k) := k1
  have jf : (W1.drewN nq).frozen? ⟨g, 1, none⟩ = false := kf
  generalize W1.drewN nq = W2 at H2 j1 jf ⊢
  clear k0 k1 kf kx
  go_wp2_with fail
  refine (HB1.out _).mono ?_
  rintro e w3 ⟨rfl, rfl⟩
  go_wp2_with fail
  refine (HT.out _ H2.out).mono ?_
  cases hS : Tp.stepT b k t x with
  | fin j => rintro e w4 ⟨rfl, q⟩; unfold Tp.stepT at hS; repeat' split at hS
             all_goals cases hS
  | bad j y =>
    rintro e w4 ⟨he, q⟩
    unfold tpPan at he
    subst he
    have Q := hidT q
    clear q
    go_wp2_with fail
    refine ⟨rfl, ?_⟩
    rw [hS]
    exact ⟨rfl, Q.out⟩
  | more t' j =>
    rintro e w4 ⟨rfl, q⟩
    have Q := hidT q
    clear q
    go_wp2_with fail
    go_ret
    rw [hS]
    exact ⟨rfl, Q.out⟩
set_option maxRecDepth 100000 in
set_option maxHeartbeats 4000000 in
theorem rec_event (w0 w : World) (g : Nat) (a : Option Addr) (c : Nat) (b : List Int) (k : Nat) (tv cv ev : Value) (s : Int) (t : Tp.Tr) (h : TrR w0 g a c b k tv cv ev s t w) (hT : t.ticks.length ≤ 1000000) (hC : t.counts.length ≤ 1000000) (hE : t.events.length ≤ 1000000) (x : Int) (hx : b[k]? = some x) (h0 : x ≠ 0) (h1 : Tp.bet 1 x 3 = false) (h2 : Tp.bet 1 (x - 16) 5 = true) :
    Calls Try.prog 71 #[.pointer (some ⟨g, 0, none⟩)] w fun e w' => stQ (.bool true) w0 g a c b s t e w' (Tp.stepE b k t x) := by
  have hln := h.p.ln
  have a0 := h.p.c0
  have a1 := h.p.c1
  have af := h.p.fz 1
  have H := hidT h
  have hk : k < b.length := (List.getElem?_eq_some_iff.1 hx).1
  obtain ⟨ga, oa, hae, hga, hcs⟩ := h.p.bs (by omega)
  have hcx := hcs k x hx
  subst hae
  have hxr := h.p.yt x (List.mem_of_getElem? hx)
  have HT := hidT (fun W q => event_any w0 W g (some ⟨ga, oa, none⟩) c b k tv cv ev s t q hk x hE)
  obtain ⟨n, hn⟩ : ∃ n, n = b.length := ⟨_, rfl⟩
  have HN := hidT hn
  rw [← hn] at hln a0 hk
  have d : decide ((k : Int) < (n : Int)) = true := decide_eq_true (by omega)
  have d' : decide (k < n) = true := decide_eq_true (by omega)
  clear h hcs
  have HB1 := hidT (between_any 1 x 3)
  rw [h1] at HB1
  have HB2 := hidT (between_any 1 (x - 16) 5)
  rw [h2] at HB2
  have q0 : (x == 0) = false := by simpa using h0
  clear hn hT hC hE
  go_enter Try.func71, Try.ntmps71
  go_upto_region 1 with fail
  go_quiet (first | (go_at_call 73; exact Calls.quiet_of_same (must_yes 112 _)))
  have H1 := hidT (H.out.later (drN (Below.refl _ _) nq))
  have k0 : (w.drewN nq).cell? ⟨g, 0, none⟩ = some (.slice (some ⟨ga, oa, none⟩) n c) := a0
  have k1 : (w.drewN nq).cell? ⟨g, 1, none⟩ = some (.int .i64 k) := a1
  have kf : (w.drewN nq).frozen? ⟨g, 1, none⟩ = false := af
  have kx : (w.drewN nq).cell? ⟨ga, oa + k, none⟩ = some (.int .u8 x) := hcx
  generalize w.drewN nq = W1 at H1 k0 k1 kf kx ⊢
  clear a0 a1 af hcx
  go_wp2_with fail
  go_quiet (fail)
  have H2 := hidT (H1.out.later (drN (Below.refl _ _) nq))
  have j1 : (W1.drewN nq).cell? ⟨g, 1, none⟩ = some (.int .i64 k) := k1
  have jf : (W1.drewN nq).frozen? ⟨g, 1, none⟩ = false := kf
  generalize W1.drewN nq = W2 at H2 j1 jf ⊢
  clear k0 k1 kf kx
  go_wp2_with fail
  refine (HB1.out _).mono ?_
  rintro e w3 ⟨rfl, rfl⟩
  go_wp2_with fail
  refine (HB2.out _).mono ?_
  rintro e w3 ⟨rfl, rfl⟩
  go_wp2_with fail
  refine (HT.out _ H2.out).mono ?_
  cases hS : Tp.stepE b k t x with
  | fin j => rintro e w4 ⟨rfl, q⟩; unfold Tp.stepE at hS; repeat' split at hS
             all_goals cases hS
  | bad j y =>
    rintro e w4 ⟨he, q⟩
    unfold tpPan at he
    subst he
    have Q := hidT q
    clear q
    go_wp2_with fail
    refine ⟨rfl, ?_⟩
    rw [hS]
    exact ⟨rfl, Q.out⟩
  | more t' j =>
    rintro e w4 ⟨rfl, q⟩
    have Q := hidT q
    clear q
    go_wp2_with fail
    go_ret
    rw [hS]
    exact ⟨rfl, Q.out⟩
set_option maxRecDepth 100000 in
set_option maxHeartbeats 4000000 in
theorem rec_wrong (w0 w : World) (g : Nat) (a : Option Addr) (c : Nat) (b : List Int) (k : Nat) (tv cv ev : Value) (s : Int) (t : Tp.Tr) (h : TrR w0 g a c b k tv cv ev s t w) (x : Int) (hx : b[k]? = some x) (h0 : x ≠ 0) (h1 : Tp.bet 1 x 3 = false) (h2 : Tp.bet 1 (x - 16) 5 = false) :
    Calls Try.prog 71 #[.pointer (some ⟨g, 0, none⟩)] w fun e w' => e = tpPan 110 ∧ ∃ tv cv ev, TrR w0 g a c b k tv cv ev s t w' := by
  have hln := h.p.ln
  have a0 := h.p.c0
  have a1 := h.p.c1
  have af := h.p.fz 1
  have H := hidT h
  have hk : k < b.length := (List.getElem?_eq_some_iff.1 hx).1
  obtain ⟨ga, oa, hae, hga, hcs⟩ := h.p.bs (by omega)
  have hcx := hcs k x hx
  subst hae
  have hxr := h.p.yt x (List.mem_of_getElem? hx)
  obtain ⟨n, hn⟩ : ∃ n, n = b.length := ⟨_, rfl⟩
  have HN := hidT hn
  rw [← hn] at hln a0 hk
  have d : decide ((k : Int) < (n : Int)) = true := decide_eq_true (by omega)
  have d' : decide (k < n) = true := decide_eq_true (by omega)
  clear h hcs
  have HB1 := hidT (between_any 1 x 3)
  rw [h1] at HB1
  have HB2 := hidT (between_any 1 (x - 16) 5)
  rw [h2] at HB2
  have q0 : (x == 0) = false := by simpa using h0
  unfold tpPan
  clear hn
  go_enter Try.func71, Try.ntmps71
  go_upto_region 1 with fail
  go_quiet (first | (go_at_call 73; exact Calls.quiet_of_same (must_yes 112 _)))
  have H1 := hidT (H.out.later (drN (Below.refl _ _) nq))
  have k0 : (w.drewN nq).cell? ⟨g, 0, none⟩ = some (.slice (some ⟨ga, oa, none⟩) n c) := a0
  have k1 : (w.drewN nq).cell? ⟨g, 1, none⟩ = some (.int .i64 k) := a1
  have kf : (w.drewN nq).frozen? ⟨g, 1, none⟩ = false := af
  have kx : (w.drewN nq).cell? ⟨ga, oa + k, none⟩ = some (.int .u8 x) := hcx
  generalize w.drewN nq = W1 at H1 k0 k1 kf kx ⊢
  clear a0 a1 af hcx
  go_wp2_with fail
  go_quiet (fail)
  have H2 := hidT (H1.out.later (drN (Below.refl _ _) nq))
  have j1 : (W1.drewN nq).cell? ⟨g, 1, none⟩ = some (.int .i64 k) := k1
  have jf : (W1.drewN nq).frozen? ⟨g, 1, none⟩ = false := kf
  generalize W1.drewN nq = W2 at H2 j1 jf ⊢
  clear k0 k1 kf kx
  go_wp2_with fail
  refine (HB1.out _).mono ?_
  rintro e w3 ⟨rfl, rfl⟩
  go_wp2_with fail
  refine (HB2.out _).mono ?_
  rintro e w3 ⟨rfl, rfl⟩
  go_wp2_with fail
  exact ⟨rfl, rfl, _, _, _, H2.out⟩
theorem record_any (w0 w : World) (g : Nat) (a : Option Addr) (c : Nat) (b : List Int) (k : Nat) (tv cv ev : Value) (s : Int) (t : Tp.Tr) (h : TrR w0 g a c b k tv cv ev s t w) (hT : t.ticks.length ≤ 1000000) (hC : t.counts.length ≤ 1000000) (hE : t.events.length ≤ 1000000) :
    Calls Try.prog 71 #[.pointer (some ⟨g, 0, none⟩)] w fun e w' => stQ (.bool true) w0 g a c b s t e w' (Tp.step b k t) := by
  unfold Tp.step
  cases hx : b[k]? with
  | none => exact rec_short w0 w g a c b k tv cv ev s t h (by simpa using hx)
  | some x =>
    dsimp only
    by_cases h0 : x = 0
    · rw [if_pos h0]
      exact rec_fin w0 w g a c b k tv cv ev s t h x hx h0
    · rw [if_neg h0]
      by_cases h1 : Tp.bet 1 x 3 = true
      · rw [if_pos h1]
        exact rec_tick w0 w g a c b k tv cv ev s t h hT hC hE x hx h0 h1
      · rw [if_neg h1]
        by_cases h2 : Tp.bet 1 (x - 16) 5 = true
        · rw [if_pos h2]
          exact rec_event w0 w g a c b k tv cv ev s t h hT hC hE x hx h0 (by simpa using h1) h2
        · rw [if_neg h2]
          exact rec_wrong w0 w g a c b k tv cv ev s t h x hx h0 (by simpa using h1) (by simpa using h2)
end Go.Proofs.Ytgonadilbjfpkaa
