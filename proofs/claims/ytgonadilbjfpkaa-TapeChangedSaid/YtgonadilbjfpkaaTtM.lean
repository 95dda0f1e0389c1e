/- Layer 13: ReadTrace. -/
import Derived.Test.YtgonadilbjfpkaaTtL
namespace Go.Proofs.Ytgonadilbjfpkaa
open Go.RowKit
set_option linter.unusedVariables false
set_option linter.unusedSimpArgs false
/-- What ReadTrace leaves. -/
def rtQ (w : World) (e : Ending) (w' : World) : Tp.TRes → Prop
  | .good t _ _ => ∃ tv cv ev, e = .returned (.tuple #[.agg #[tv, cv, ev], .int .i64 0, .int .i64 0]) ∧ w'.ownsRow w.heap.size 80 4 tv t.ticks.length (tkC t.ticks) ∧ w'.ownsRow w.heap.size 3 1 cv t.counts.length (nmC t.counts) ∧ w'.ownsRow w.heap.size 96 2 ev t.events.length (evC t.events) ∧ Below w.heap.size w w'
  | .bad _ _ i x => e = .returned (.tuple #[.agg #[.slice none 0 0, .slice none 0 0, .slice none 0 0], .int .i64 (i : Int), .int .i64 x]) ∧ Below w.heap.size w w'
theorem Tp.step_err (b : List Int) (k : Nat) (t : Tp.Tr) (j : Nat) (e : Int) (h : Tp.step b k t = .bad j e) : e ≠ 0 := by
  unfold Tp.step at h
  cases hk : b[k]? with
  | none => rw [hk] at h; cases h; decide
  | some c =>
    rw [hk] at h
    dsimp only at h
    split at h
    · cases h
    · split at h
      · unfold Tp.stepT at h
        cases h1 : Tp.tnum b 0 (k + 1) with
        | bad j e => rw [h1] at h; cases h; exact (Tp.tnum_err _ _ _ _ _ h1).1
        | good p k1 =>
          rw [h1] at h
          dsimp only at h
          cases h2 : Tp.tnum b 0 k1 with
          | bad j e => rw [h2] at h; cases h; exact (Tp.tnum_err _ _ _ _ _ h2).1
          | good m k2 =>
            rw [h2] at h
            dsimp only at h
            cases h3 : Tp.tnum b 1 k2 with
            | bad j e => rw [h3] at h; cases h; exact (Tp.tnum_err _ _ _ _ _ h3).1
            | good d k3 => rw [h3] at h; cases h
      · split at h
        · unfold Tp.stepE at h
          split at h
          · cases hr : Tp.rdF 0 0 (b.drop (k + 1)) with
            | inr x => rw [hr] at h; cases h; have := Tp.rdF_err _ _ _ _ hr; omega
            | inl p => rw [hr] at h; cases h
          · cases h
        · cases h; decide
theorem Tp.rds_err (b : List Int) (hb : Tp.Byt b) : ∀ (f k : Nat) (t t' : Tp.Tr) (s j : Nat) (e : Int), k ≤ b.length → b.length < k + f → Tp.rds b f k t = .bad t' s j e → e ≠ 0
  | 0, k, t, t', s, j, e, hk, hf, h => by omega
  | f + 1, k, t, t', s, j, e, hk, hf, h => by
    rw [Tp.rds] at h
    cases hs : Tp.step b k t with
    | fin i => rw [hs] at h; cases h
    | bad i x => rw [hs] at h; cases h; exact Tp.step_err _ _ _ _ _ hs
    | more u i =>
      rw [hs] at h
      obtain ⟨m1, m2, _⟩ := Tp.step_more b hb k t u i hs
      exact Tp.rds_err b hb f i u t' s j e m2 (by omega) h
theorem Tp.hd_none_len : ∀ (ws cs : List Int) (m : Nat), Tp.hd m ws cs = none → ws.length ≤ cs.length := by
  intro ws
  induction ws with
  | nil => intro cs m h; simp
  | cons u ws ih =>
    intro cs m h
    cases cs with
    | nil => simp [Tp.hd] at h
    | cons v cs =>
      rw [Tp.hd] at h
      split at h
      · have := ih _ _ h; simp; omega
      · simp at h
theorem Tp.rtB_err (b : List Int) (hb : Tp.Byt b) (t : Tp.Tr) (s i : Nat) (x : Int) (h : Tp.rtB b = .bad t s i x) : x ≠ 0 := by
  unfold Tp.rtB at h
  cases hh : Tp.hd 0 (Tp.head 2) b with
  | some p => rw [hh] at h; cases h; exact Tp.hd_err _ _ _ p.1 p.2 hh
  | none =>
    rw [hh] at h
    have h5 : 5 ≤ b.length := Tp.hd_none_len _ _ _ hh
    dsimp only at h
    cases hr : Tp.rds b b.length 5 Tp.tr0 with
    | bad t' s' k e => rw [hr] at h; cases h; exact Tp.rds_err b hb _ _ _ _ _ _ _ h5 (by omega) hr
    | good t' s' k =>
      rw [hr] at h
      dsimp only at h
      cases he : Tp.ends b k with
      | none => rw [he] at h; cases h
      | some q => rw [he] at h; cases h; exact Tp.ends_err b k q.1 q.2 he
theorem readTr_long (n : Nat) (a : Option Addr) (c : Nat) (w : World) (h : 4194304 < n) (hl : n ≤ 4611686018427387904) :
    Calls Try.prog 25 #[.slice a n c] w fun e w' => e = .returned (.tuple #[.agg #[.slice none 0 0, .slice none 0 0, .slice none 0 0], .int .i64 0, .int .i64 2]) ∧ Below w.heap.size w w' := by
  have d : decide ((4194304 : Int) < (n : Int)) = true := decide_eq_true (by omega)
  go_enter Try.func25, Try.ntmps25
  go_wp2_with fail
  exact ⟨rfl, .tuple #[.agg #[.slice none 0 0, .slice none 0 0, .slice none 0 0], .int .i64 0, .int .i64 2], by simp [results, Try.results25, go_sem], rfl, (Below.refl _ _).alloc (Nat.le_refl _) _⟩
set_option maxRecDepth 100000 in
set_option maxHeartbeats 2000000 in
theorem readTr_any (b : List Int) (a : Option Addr) (c : Nat) (w : World) (hy : Tp.Byt b) {B : Nat} (hm : ByS B w a b) (hB : B ≤ w.heap.size) (hc : b.length ≤ c) (hl : b.length ≤ 1000000) :
    Calls Try.prog 25 #[.slice a b.length c] w fun e w' => rtQ w e w' (Tp.rtB b) := by
  obtain ⟨wb, hwb⟩ : ∃ W, W = w.alloc (.cells #[.slice none 0 0, .slice none 0 0, .slice none 0 0] 43) := ⟨_, rfl⟩
  have zb : wb.heap.size = w.heap.size + 1 := by rw [hwb]; simp
  have Bb : Below w.heap.size w wb := by rw [hwb]; exact (Below.refl _ _).alloc (Nat.le_refl _) _
  have hmb : ByS wb.heap.size wb a b := ((hm.mono hB).later Bb (Nat.le_refl _)).mono (by omega)
  have hbx : wb.heap[w.heap.size]? = some (.cells #[.slice none 0 0, .slice none 0 0, .slice none 0 0] 43 (0, 0)) := by rw [hwb]; exact heap_alloc_new w _
  have rbx : ∀ W5, Below wb.heap.size wb W5 → W5.heap[w.heap.size]? = some (.cells #[.slice none 0 0, .slice none 0 0, .slice none 0 0] 43 (0, 0)) := fun W5 q => (q.block _ (by omega)).trans hbx
  have RBX := hidT rbx
  have HZB := hidT zb
  have HBB := hidT Bb
  obtain ⟨W0, hW0⟩ : ∃ W, W = wb.alloc (.cells #[.slice a b.length c, .int .i64 0, .slice none 0 0, .slice none 0 0, .slice none 0 0, .int .i64 0] 75) := ⟨_, rfl⟩
  have B0 : Below wb.heap.size wb W0 := by rw [hW0]; exact (Below.refl _ _).alloc (Nat.le_refl _) _
  have z0 : W0.heap.size = wb.heap.size + 1 := by rw [hW0]; simp
  have B1 : Below W0.heap.size W0 (atBox W0) := (Below.refl _ _).alloc (Nat.le_refl _) _
  have hb : (atBox W0).heap[wb.heap.size]? = some (.cells (.slice a b.length c :: .int .i64 ((0 : Nat) : Int) :: [.slice none 0 0, .slice none 0 0, .slice none 0 0, .int .i64 0]).toArray 75 (0, 0)) := by
    rw [B1.block _ (by omega), hW0]
    exact heap_alloc_new wb _
  have nn : ∀ u : Value, Apt (.slice none 0 0) u := fun u j h => by cases h
  have hI : TrR (atBox W0) wb.heap.size a c b 0 (.slice none 0 0) (.slice none 0 0) (.slice none 0 0) 0 Tp.tr0 (atBox W0) :=
    ⟨⟨hb, (hmb.mono (Nat.le_refl _)).later (B0.trans (B1.mono (by omega))) (Nat.le_refl _), hy, hc, Nat.zero_le _, by omega⟩, World.ownsRow_nil _ _ _ _, World.ownsRow_nil _ _ _ _, World.ownsRow_nil _ _ _ _, nn _, nn _, nn _, gbR _ _, by simp [atBox]; omega⟩
  have HT := hidT (trTape_any (atBox W0) wb.heap.size a c b hI hl)
  have kfin : ∀ (w1 : World) (k : Nat) (tv cv ev : Value) (s : Int) (t : Tp.Tr) (x : Value), TrR (atBox W0) wb.heap.size a c b k tv cv ev s t w1 → Below wb.heap.size wb (w1.setCell ⟨W0.heap.size, 0, none⟩ x) ∧ (w1.setCell ⟨W0.heap.size, 0, none⟩ x).cell? ⟨wb.heap.size, 1, none⟩ = some (.int .i64 k) ∧ ((w1.setCell ⟨W0.heap.size, 0, none⟩ x).cell? ⟨wb.heap.size, 2, none⟩ = some tv ∧ (w1.setCell ⟨W0.heap.size, 0, none⟩ x).cell? ⟨wb.heap.size, 3, none⟩ = some cv ∧ (w1.setCell ⟨W0.heap.size, 0, none⟩ x).cell? ⟨wb.heap.size, 4, none⟩ = some ev) ∧ (w1.setCell ⟨W0.heap.size, 0, none⟩ x).ownsRow wb.heap.size 80 4 tv t.ticks.length (tkC t.ticks) ∧ (w1.setCell ⟨W0.heap.size, 0, none⟩ x).ownsRow wb.heap.size 3 1 cv t.counts.length (nmC t.counts) ∧ (w1.setCell ⟨W0.heap.size, 0, none⟩ x).ownsRow wb.heap.size 96 2 ev t.events.length (evC t.events) := by
    intro w1 k tv cv ev s t x h1
    have e1 : (w1.setCell ⟨W0.heap.size, 0, none⟩ x).heap[wb.heap.size]? = w1.heap[wb.heap.size]? := heap_setCell_other _ _ _ _ (by simp; omega)
    have sz : (atBox W0).heap.size = W0.heap.size + 1 := by simp [atBox]
    obtain ⟨c2, c3, c4, _⟩ := h1.cells
    refine ⟨?_, (World.cell?_of_block e1).trans h1.p.c1, ⟨(World.cell?_of_block e1).trans c2, (World.cell?_of_block e1).trans c3, (World.cell?_of_block e1).trans c4⟩, ?_, ?_, ?_⟩
    · refine (B0.trans (B1.mono (by omega))).trans ((gbB h1.bl (by omega)).trans ⟨rfl, rfl, rfl, by simp, fun i hi => heap_setCell_other _ _ i _ (by simp; omega)⟩)
    · have h2 := ownsRow_setCell_below h1.ot (a := ⟨W0.heap.size, 0, none⟩) (by simp; omega) x
      exact h2.mono (by omega)
    · have h2 := ownsRow_setCell_below h1.oc (a := ⟨W0.heap.size, 0, none⟩) (by simp; omega) x
      exact h2.mono (by omega)
    · have h2 := ownsRow_setCell_below h1.oe (a := ⟨W0.heap.size, 0, none⟩) (by simp; omega) x
      exact h2.mono (by omega)
  have KF := hidT kfin
  have hblk : ∀ w1 k tv cv ev s t, TrR (atBox W0) wb.heap.size a c b k tv cv ev s t w1 → w1.heap[W0.heap.size]? = (atBox W0).heap[W0.heap.size]? := fun w1 k tv cv ev s t h1 => h1.bl.block _ (by simp [atBox]) (by simp; omega)
  have HBK := hidT hblk
  obtain ⟨n, hn⟩ : ∃ n, n = b.length := ⟨_, rfl⟩
  have d : decide ((4194304 : Int) < (n : Int)) = false := decide_eq_false (by omega)
  have hmf : ∀ (fn : Fn) (first cap : Array Value) (w : World), (Instr.makeFunc fn first cap).run Try.prog w = .ok (.func fn first cap) w := fun _ _ _ _ => rfl
  rw [← hn] at hW0 hl hc ⊢
  have HY := hidT hy
  clear hI hb B1 B0 hblk kfin z0 hm hy hn nn hmb hbx rbx Bb zb
  cases hr : Tp.rtB b with
  | bad t s i x =>
    have hx := Tp.rtB_err b HY.out t s i x hr
    rw [hr] at HT
    have HA := hidT (attempt_bad x 50 (.pointer (some ⟨wb.heap.size, 0, none⟩)) W0 (fun w' => ∃ tv cv ev, TrR (atBox W0) wb.heap.size a c b i tv cv ev s t w') (fun _ => rfl) (fun w' ⟨tv, cv, ev, h⟩ => HBK.out _ _ _ _ _ _ _ h) HT.out)
    have qx : (x == 0) = false := by simpa using hx
    clear hr HT hx
    go_enter Try.func25, Try.ntmps25
    go_upto_region 4 with fail
    rw [← hwb, ← hW0, ← HZB.out]
    clear hW0 hwb
    go_wp2_with fail
    refine HA.out.mono ?_
    rintro e w' ⟨rfl, w1, ⟨tv, cv, ev, h1⟩, rfl⟩
    obtain ⟨f1, f2, f3, f4⟩ := KF.out w1 i tv cv ev s t (.int .i64 x) h1
    obtain ⟨W5, hW5⟩ : ∃ W, W = w1.setCell ⟨W0.heap.size, 0, none⟩ (.int .i64 x) := ⟨_, rfl⟩
    rw [← hW5] at f1 f2 f3 f4 ⊢
    have HF1 := hidT f1
    clear hW5 h1 f1 f4
    have xb := RBX.out _ HF1.out
    have x0 : W5.cell? ⟨w.heap.size, 0, none⟩ = some (.slice none 0 0) := by simp [World.cell?, xb]
    have x1 : W5.cell? ⟨w.heap.size, 1, none⟩ = some (.slice none 0 0) := by simp [World.cell?, xb]
    have x2 : W5.cell? ⟨w.heap.size, 2, none⟩ = some (.slice none 0 0) := by simp [World.cell?, xb]
    have y0 : W5.frozen? ⟨w.heap.size, 0, none⟩ = false := by simp [World.frozen?, xb]
    have y1 : W5.frozen? ⟨w.heap.size, 1, none⟩ = false := by simp [World.frozen?, xb]
    have y2 : W5.frozen? ⟨w.heap.size, 2, none⟩ = false := by simp [World.frozen?, xb]
    clear xb
    have ne1 : ¬ w.heap.size = wb.heap.size := by have := HZB.out; omega
    have ne2 : ¬ wb.heap.size = w.heap.size := by have := HZB.out; omega
    go_wp2_with fail
    go_region_with fail
    all_goals go_wp2_with fail
    all_goals try simp only [List.getElem_toArray, List.getElem_cons_zero, List.getElem_cons_succ, Act.put, List.setIfInBounds_toArray, List.set_cons_zero, List.set_cons_succ]
    all_goals
      have hxx := RBX.out _ HF1.out
      have hx1 := heap_setCell_same _ w.heap.size 0 _ _ (.slice none 0 0) hxx
      have hx2 := heap_setCell_same _ w.heap.size 1 _ _ (.slice none 0 0) hx1
      have hx3 := heap_setCell_same _ w.heap.size 2 _ _ (.slice none 0 0) hx2
      have gb6 := (gbT (set1_gb W5 w.heap.size 0 (.slice none 0 0)) (set1_gb _ w.heap.size 1 (.slice none 0 0)))
      have gb7 := hidT (gbT gb6 (set1_gb _ w.heap.size 2 (.slice none 0 0)))
      obtain ⟨W6, hW6⟩ : ∃ W, W = ((W5.setCell ⟨w.heap.size, 0, none⟩ (.slice none 0 0)).setCell ⟨w.heap.size, 1, none⟩ (.slice none 0 0)).setCell ⟨w.heap.size, 2, none⟩ (.slice none 0 0) := ⟨_, rfl⟩
      rw [← hW6] at hx3 gb7
      have hx4 : W6.drew.heap[w.heap.size]? = _ := hx3
      have z0 : W6.drew.cell? ⟨w.heap.size, 0, none⟩ = some (.slice none 0 0) := by simp [World.cell?, hx4]
      have z1 : W6.drew.cell? ⟨w.heap.size, 1, none⟩ = some (.slice none 0 0) := by simp [World.cell?, hx4]
      have z2 : W6.drew.cell? ⟨w.heap.size, 2, none⟩ = some (.slice none 0 0) := by simp [World.cell?, hx4]
      have BF : Hid (Below w.heap.size w W6.drew) := (HBB.out.trans ((HF1.out.mono (by have := HZB.out; omega)).trans (gbB gb7.out (by have := HF1.out.size; have := HZB.out; omega)))).trans ⟨rfl, rfl, rfl, Nat.le_refl _, fun _ _ => rfl⟩
      clear hx1 hx2 hx3 hx4 hxx gb6
      rw [← hW6]
      clear hW6
      refine ⟨rfl, .tuple #[.agg #[.slice none 0 0, .slice none 0 0, .slice none 0 0], .int .i64 (i : Int), .int .i64 x], by simp [results, Try.results25, go_sem, z0, z1, z2], ?_⟩
      exact ⟨rfl, BF.out⟩
  | good t s j =>
    rw [hr] at HT
    have HA := hidT (attempt_ok 50 (.pointer (some ⟨wb.heap.size, 0, none⟩)) W0 (fun w' => ∃ k tv cv ev, TrR (atBox W0) wb.heap.size a c b k tv cv ev s t w') (fun _ => rfl) (fun w' ⟨k, tv, cv, ev, h⟩ => HBK.out _ _ _ _ _ _ _ h) HT.out)
    clear hr HT
    go_enter Try.func25, Try.ntmps25
    go_upto_region 4 with fail
    rw [← hwb, ← hW0, ← HZB.out]
    clear hW0 hwb
    go_wp2_with fail
    refine HA.out.mono ?_
    rintro e w' ⟨rfl, w1, ⟨k, tv, cv, ev, h1⟩, rfl⟩
    obtain ⟨f1, f2, ⟨f3, g3, q3⟩, f4, f5, f6⟩ := KF.out w1 k tv cv ev s t (.int .i64 0) h1
    obtain ⟨W5, hW5⟩ : ∃ W, W = w1.setCell ⟨W0.heap.size, 0, none⟩ (.int .i64 0) := ⟨_, rfl⟩
    rw [← hW5] at f1 f2 f3 g3 q3 f4 f5 f6 ⊢
    obtain ⟨va, vc, hv⟩ := ownShT f4
    subst hv
    obtain ⟨va2, vc2, hv⟩ := ownShT f5
    subst hv
    obtain ⟨va3, vc3, hv⟩ := ownShT f6
    subst hv
    have HF1 := hidT f1
    have HF4 := hidT f4
    have HF5 := hidT f5
    have HF6 := hidT f6
    clear hW5 h1 f1 f4 f5 f6
    have xb := RBX.out _ HF1.out
    have x0 : W5.cell? ⟨w.heap.size, 0, none⟩ = some (.slice none 0 0) := by simp [World.cell?, xb]
    have x1 : W5.cell? ⟨w.heap.size, 1, none⟩ = some (.slice none 0 0) := by simp [World.cell?, xb]
    have x2 : W5.cell? ⟨w.heap.size, 2, none⟩ = some (.slice none 0 0) := by simp [World.cell?, xb]
    have y0 : W5.frozen? ⟨w.heap.size, 0, none⟩ = false := by simp [World.frozen?, xb]
    have y1 : W5.frozen? ⟨w.heap.size, 1, none⟩ = false := by simp [World.frozen?, xb]
    have y2 : W5.frozen? ⟨w.heap.size, 2, none⟩ = false := by simp [World.frozen?, xb]
    clear xb
    go_wp2_with fail
    have hxx := RBX.out _ HF1.out
    have hx1 := heap_setCell_same _ w.heap.size 0 _ _ (.slice va t.ticks.length vc) hxx
    have hx2 := heap_setCell_same _ w.heap.size 1 _ _ (.slice va2 t.counts.length vc2) hx1
    have hx3 := heap_setCell_same _ w.heap.size 2 _ _ (.slice va3 t.events.length vc3) hx2
    have gb6 := (gbT (set1_gb W5 w.heap.size 0 (.slice va t.ticks.length vc)) (set1_gb _ w.heap.size 1 (.slice va2 t.counts.length vc2)))
    have gb7 := hidT (gbT gb6 (set1_gb _ w.heap.size 2 (.slice va3 t.events.length vc3)))
    obtain ⟨W6, hW6⟩ : ∃ W, W = ((W5.setCell ⟨w.heap.size, 0, none⟩ (.slice va t.ticks.length vc)).setCell ⟨w.heap.size, 1, none⟩ (.slice va2 t.counts.length vc2)).setCell ⟨w.heap.size, 2, none⟩ (.slice va3 t.events.length vc3) := ⟨_, rfl⟩
    rw [← hW6] at hx3 gb7
    have z0 : W6.cell? ⟨w.heap.size, 0, none⟩ = some (.slice va t.ticks.length vc) := by simp [World.cell?, hx3]
    have z1 : W6.cell? ⟨w.heap.size, 1, none⟩ = some (.slice va2 t.counts.length vc2) := by simp [World.cell?, hx3]
    have z2 : W6.cell? ⟨w.heap.size, 2, none⟩ = some (.slice va3 t.events.length vc3) := by simp [World.cell?, hx3]
    have BF : Hid (Below w.heap.size w W6) := (HBB.out.trans ((HF1.out.mono (by have := HZB.out; omega)).trans (gbB gb7.out (by have := HF1.out.size; have := HZB.out; omega))))
    clear hx1 hx2 hx3 hxx gb6
    rw [← hW6]
    clear hW6
    refine ⟨rfl, .tuple #[.agg #[.slice va t.ticks.length vc, .slice va2 t.counts.length vc2, .slice va3 t.events.length vc3], .int .i64 0, .int .i64 0], by simp [results, Try.results25, go_sem, z0, z1, z2], ?_⟩
    have hlt : w.heap.size < wb.heap.size := by rw [HZB.out]; omega
    exact ⟨_, _, _, rfl, (own_gb HF4.out gb7.out hlt).mono (Nat.le_of_lt hlt), (own_gb HF5.out gb7.out hlt).mono (Nat.le_of_lt hlt), (own_gb HF6.out gb7.out hlt).mono (Nat.le_of_lt hlt), BF.out⟩
end Go.Proofs.Ytgonadilbjfpkaa
