/- Layer 13: the reader of a trace, whole. -/
import Derived.Test.YtgonadilbjfpkaaTtK
import Derived.Test.YtgonadilbjfpkaaTpV
namespace Go.Proofs.Ytgonadilbjfpkaa
open Go.RowKit
set_option linter.unusedVariables false
set_option linter.unusedSimpArgs false
def trQ (w : World) (g : Nat) (a : Option Addr) (c : Nat) (b : List Int) (e : Ending) (w' : World) : Tp.TRes → Prop
  | .good t s _ => e = .returned (.tuple #[]) ∧ ∃ k tv cv ev, TrR w g a c b k tv cv ev s t w'
  | .bad t s i x => e = tpPan x ∧ ∃ tv cv ev, TrR w g a c b i tv cv ev s t w'
set_option maxRecDepth 100000 in
set_option maxHeartbeats 4000000 in
theorem trTape_head (w : World) (g : Nat) (a : Option Addr) (c : Nat) (b : List Int) (w0 : World) (h : TrR w0 g a c b 0 (.slice none 0 0) (.slice none 0 0) (.slice none 0 0) 0 Tp.tr0 w) (i : Nat) (x : Int) (hh : Tp.hd 0 (Tp.head 2) b = some (i, x)) :
    Calls Try.prog 50 #[.pointer (some ⟨g, 0, none⟩)] w fun e w' => e = tpPan x ∧ ∃ tv cv ev, TrR w0 g a c b i tv cv ev 0 Tp.tr0 w' := by
  have HD := hidT (head_any w g _ a c b _ h.p 2)
  rw [hh] at HD
  dsimp only [hdQ] at HD
  have H := hidT h
  clear h hh
  go_enter Try.func50, Try.ntmps50
  go_wp2_with fail
  refine HD.out.mono ?_
  unfold tpPan
  rintro e w1 ⟨rfl, q⟩
  have HQ := hidT (H.out.go q)
  clear q
  go_wp2_with fail
  exact ⟨rfl, rfl, _, _, _, HQ.out⟩
set_option maxRecDepth 100000 in
set_option maxHeartbeats 8000000 in
theorem trTape_recs (w : World) (g : Nat) (a : Option Addr) (c : Nat) (b : List Int) (w0 : World) (h : TrR w0 g a c b 0 (.slice none 0 0) (.slice none 0 0) (.slice none 0 0) 0 Tp.tr0 w) (hh : Tp.hd 0 (Tp.head 2) b = none) (hl : b.length ≤ 1000000) :
    Calls Try.prog 50 #[.pointer (some ⟨g, 0, none⟩)] w fun e w' => trQ w0 g a c b e w' (match Tp.rds b b.length 5 Tp.tr0 with
    | .bad t s k e => .bad t s k e
    | .good t s k => match Tp.ends b k with
      | some (i, e) => .bad t s i e
      | none => .good t s k) := by
  have HD := hidT (head_any w g _ a c b _ h.p 2)
  rw [hh] at HD
  dsimp only [hdQ] at HD
  have H := hidT h
  obtain ⟨post, hpost⟩ : ∃ p, p = (match Tp.rds b b.length 5 Tp.tr0 with
    | .bad t s k e => (.bad t s k e : Tp.TRes)
    | .good t s k => match Tp.ends b k with
      | some (i, e) => .bad t s i e
      | none => .good t s k) := ⟨_, rfl⟩
  have HP := hidT hpost
  rw [← hpost]
  have hyt := hidT h.p.yt
  clear h hh hpost
  go_enter Try.func50, Try.ntmps50
  go_wp2_with fail
  refine HD.out.mono ?_
  rintro e w1 ⟨rfl, q⟩
  have HQ := hidT (H.out.go q)
  clear q HD
  obtain ⟨p2, p3, p4, p5⟩ := HQ.out.cells
  have p1 := HQ.out.p.c1
  have pf := HQ.out.p.fz 5
  have HQ1 := hidT (HQ.out.setS ((5 : Nat) : Int))
  clear p2 p3 p4
  go_wp2_with fail
  go_loopg [] b.length (fun gk wr => ∃ (k : Nat) (t : Tp.Tr) (tv cv ev : Value), b.length + 1 ≤ k + gk ∧ Hid (TrR w0 g a c b k tv cv ev (k : Int) t wr ∧ Tp.rds b b.length 5 Tp.tr0 = Tp.rds b gk k t ∧ t.ticks.length ≤ k ∧ t.counts.length ≤ k ∧ t.events.length ≤ k))
  case atStart => exact ⟨5, Tp.tr0, _, _, _, by omega, HQ1.out, rfl, by simp [Tp.tr0], by simp [Tp.tr0], by simp [Tp.tr0]⟩
  case round =>
    obtain ⟨k, t, tv, cv, ev, hj, HI⟩ := hrel
    obtain ⟨h1, h2, h3, h4, h5⟩ := HI.out
    have hkl := h1.p.le
    obtain ⟨gk', rfl⟩ : ∃ m, gk = m + 1 := ⟨gk - 1, by omega⟩
    have HR := hidT (record_any w0 wr g a c b k tv cv ev k t h1 (by omega) (by omega) (by omega))
    have HS2 := hidT h2
    have HS3 := hidT (And.intro h3 (And.intro h4 h5))
    clear h1 h2 h3 h4 h5 HI
    cases hS : Tp.step b k t with
    | bad j x =>
      rw [hS] at HR
      have HP2 : Hid (post = .bad t k j x) := by unfold Hid; rw [HP.out, HS2.out]; simp only [Tp.rds, hS]
      clear hS
      go_wp2_with fail
      refine HR.out.mono ?_
      rintro e w3 ⟨he, q⟩
      unfold tpPan at he
      subst he
      have HQ3 := hidT q
      clear q
      go_wp2_with fail
      refine ⟨rfl, ?_⟩
      rw [HP2.out]
      exact ⟨rfl, HQ3.out⟩
    | fin j =>
      rw [hS] at HR
      have HP2 : Hid (post = match Tp.ends b j with | some (i, e) => .bad t k i e | none => .good t k j) := by unfold Hid; rw [HP.out, HS2.out]; simp only [Tp.rds, hS]
      clear hS
      go_wp2_with fail
      refine HR.out.mono ?_
      rintro e w3 ⟨rfl, tv3, cv3, ev3, q⟩
      have HQ3 := hidT q
      have HE := hidT (end_any w3 g _ a c b j _ q.p)
      clear q
      cases he : Tp.ends b j with
      | none =>
        rw [he] at HE HP2
        dsimp only [enQ] at HE HP2
        clear he
        go_wp2_with fail
        refine HE.out.mono ?_
        rintro e w4 ⟨rfl, q⟩
        have HQ4 := hidT (HQ3.out.go q)
        clear q
        go_wp2_with fail
        refine ⟨rfl, .tuple #[], by simp [results, Try.results50, go_sem], ?_⟩
        rw [HP2.out]
        exact ⟨rfl, _, _, _, _, HQ4.out⟩
      | some p =>
        obtain ⟨i, x⟩ := p
        rw [he] at HE HP2
        dsimp only [enQ] at HE HP2
        clear he
        go_wp2_with fail
        refine HE.out.mono ?_
        unfold tpPan
        rintro e w4 ⟨rfl, q⟩
        have HQ4 := hidT (HQ3.out.go q)
        clear q
        go_wp2_with fail
        refine ⟨rfl, ?_⟩
        rw [HP2.out]
        exact ⟨rfl, _, _, _, HQ4.out⟩
    | more t' j =>
      rw [hS] at HR
      have HM := hidT (Tp.step_more b hyt.out k t t' j hS)
      have HP2 : Hid (Tp.rds b (gk' + 1) k t = Tp.rds b gk' j t') := by unfold Hid; simp only [Tp.rds, hS]
      clear hS
      go_wp2_with fail
      refine HR.out.mono ?_
      rintro e w3 ⟨rfl, tv3, cv3, ev3, q⟩
      obtain ⟨p2, p3, p4, p5⟩ := q.cells
      have p1 := q.p.c1
      have pf := q.p.fz 5
      have HQ3 := hidT (q.setS (j : Int))
      clear q p2 p3 p4
      go_wp2_with fail
      go_roundg gk'
      case measure => omega
      case rel =>
        obtain ⟨m1, m2, m3⟩ := HM.out
        obtain ⟨s1, s2, s3⟩ := HS3.out
        refine ⟨j, t', tv3, cv3, ev3, by omega, HQ3.out, HS2.out.trans HP2.out, ?_⟩
        rcases m3 with ⟨a1, a2, a3⟩ | ⟨a1, a2, a3⟩
        · rw [a3]; omega
        · rw [a1, a2]; omega
theorem trTape_any (w : World) (g : Nat) (a : Option Addr) (c : Nat) (b : List Int) (h : TrR w g a c b 0 (.slice none 0 0) (.slice none 0 0) (.slice none 0 0) 0 Tp.tr0 w) (hl : b.length ≤ 1000000) :
    Calls Try.prog 50 #[.pointer (some ⟨g, 0, none⟩)] w fun e w' => trQ w g a c b e w' (Tp.rtB b) := by
  unfold Tp.rtB
  cases hh : Tp.hd 0 (Tp.head 2) b with
  | some p =>
    obtain ⟨i, x⟩ := p
    exact trTape_head w g a c b w h i x hh
  | none => exact trTape_recs w g a c b w h hh hl
end Go.Proofs.Ytgonadilbjfpkaa
