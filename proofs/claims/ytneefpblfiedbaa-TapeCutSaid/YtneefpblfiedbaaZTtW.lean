/- Layer 13: ReadTrace. -/
/- Layer 13, plain: a tape with one byte changed is not read. -/
/- Layer 13: many, Among, bytes of a row changed. -/
/- Layer 13, plain: inputs' tapes written and read again, read and written again. -/
/- Layer 13, plain: a trace's tape read again. -/
/- Layer 13, plain: what is read of a trace's tape is written as the same bytes. -/
/- Layer 13: the document's Same of equal traces. -/
/- Layer 13: what TapeBack wants of each call. -/
import Derived.Test.YtneefpblfiedbaaZTtL
import Derived.Test.YtneefpblfiedbaaZTtI1
import Derived.Test.YtneefpblfiedbaaZTtT
namespace Go.Proofs.Ytneefpblfiedbaa
open Go.RowKit
set_option linter.unusedVariables false
set_option linter.unusedSimpArgs false
/-- What ReadTrace leaves. -/
def rtQ (w : World) (e : Ending) (w' : World) : Tp.TRes → Prop
  | .good t _ _ => ∃ tv cv ev, e = .returned (.tuple #[.agg #[tv, cv, ev], .int .i64 0, .int .i64 0]) ∧ w'.ownsRow w.heap.size 62 4 tv t.ticks.length (tkC t.ticks) ∧ w'.ownsRow w.heap.size 3 1 cv t.counts.length (nmC t.counts) ∧ w'.ownsRow w.heap.size 69 2 ev t.events.length (evC t.events) ∧ Below w.heap.size w w'
  | .bad _ _ i x => e = .returned (.tuple #[.agg #[.slice none 0 0, .slice none 0 0, .slice none 0 0], .int .i64 (i : Int), .int .i64 x]) ∧ Below w.heap.size w w'
theorem Tp.step_err (b : List Int) (k : Nat) (t : Tp.Tr) (j : Nat) (e : Int) (h : Tp.step b k t = .bad j e) : e ≠ 0 := by
  unfold Tp.step at h
  cases hk : b[k]? with
  | none => rw [hk] at h; cases h; decide
  | some c =>
    rw [hk] at h
    dsimp only at h
    split at h
    · cases h
    · split at h
      · unfold Tp.stepT at h
        cases h1 : Tp.tnum b 0 (k + 1) with
        | bad j e => rw [h1] at h; cases h; exact (Tp.tnum_err _ _ _ _ _ h1).1
        | good p k1 =>
          rw [h1] at h
          dsimp only at h
          cases h2 : Tp.tnum b 0 k1 with
          | bad j e => rw [h2] at h; cases h; exact (Tp.tnum_err _ _ _ _ _ h2).1
          | good m k2 =>
            rw [h2] at h
            dsimp only at h
            cases h3 : Tp.tnum b 1 k2 with
            | bad j e => rw [h3] at h; cases h; exact (Tp.tnum_err _ _ _ _ _ h3).1
            | good d k3 => rw [h3] at h; cases h
      · split at h
        · unfold Tp.stepE at h
          split at h
          · cases hr : Tp.rdF 0 0 (b.drop (k + 1)) with
            | inr x => rw [hr] at h; cases h; have := Tp.rdF_err _ _ _ _ hr; omega
            | inl p => rw [hr] at h; cases h
          · cases h
        · cases h; decide
theorem Tp.rds_err (b : List Int) (hb : Tp.Byt b) : ∀ (f k : Nat) (t t' : Tp.Tr) (s j : Nat) (e : Int), k ≤ b.length → b.length < k + f → Tp.rds b f k t = .bad t' s j e → e ≠ 0
  | 0, k, t, t', s, j, e, hk, hf, h => by omega
  | f + 1, k, t, t', s, j, e, hk, hf, h => by
    rw [Tp.rds] at h
    cases hs : Tp.step b k t with
    | fin i => rw [hs] at h; cases h
    | bad i x => rw [hs] at h; cases h; exact Tp.step_err _ _ _ _ _ hs
    | more u i =>
      rw [hs] at h
      obtain ⟨m1, m2, _⟩ := Tp.step_more b hb k t u i hs
      exact Tp.rds_err b hb f i u t' s j e m2 (by omega) h
theorem Tp.hd_none_len : ∀ (ws cs : List Int) (m : Nat), Tp.hd m ws cs = none → ws.length ≤ cs.length := by
  intro ws
  induction ws with
  | nil => intro cs m h; simp
  | cons u ws ih =>
    intro cs m h
    cases cs with
    | nil => simp [Tp.hd] at h
    | cons v cs =>
      rw [Tp.hd] at h
      split at h
      · have := ih _ _ h; simp; omega
      · simp at h
theorem Tp.rtB_err (b : List Int) (hb : Tp.Byt b) (t : Tp.Tr) (s i : Nat) (x : Int) (h : Tp.rtB b = .bad t s i x) : x ≠ 0 := by
  unfold Tp.rtB at h
  cases hh : Tp.hd 0 (Tp.head 2) b with
  | some p => rw [hh] at h; cases h; exact Tp.hd_err _ _ _ p.1 p.2 hh
  | none =>
    rw [hh] at h
    have h5 : 5 ≤ b.length := Tp.hd_none_len _ _ _ hh
    dsimp only at h
    cases hr : Tp.rds b b.length 5 Tp.tr0 with
    | bad t' s' k e => rw [hr] at h; cases h; exact Tp.rds_err b hb _ _ _ _ _ _ _ h5 (by omega) hr
    | good t' s' k =>
      rw [hr] at h
      dsimp only at h
      cases he : Tp.ends b k with
      | none => rw [he] at h; cases h
      | some q => rw [he] at h; cases h; exact Tp.ends_err b k q.1 q.2 he
theorem readTr_long (n : Nat) (a : Option Addr) (c : Nat) (w : World) (h : 4194304 < n) (hl : n ≤ 4611686018427387904) :
    Calls Try.prog 11 #[.slice a n c] w fun e w' => e = .returned (.tuple #[.agg #[.slice none 0 0, .slice none 0 0, .slice none 0 0], .int .i64 0, .int .i64 2]) ∧ Below w.heap.size w w' := by
  have d : decide ((4194304 : Int) < (n : Int)) = true := decide_eq_true (by omega)
  go_enter Try.func11, Try.ntmps11
  go_wp2_with fail
  exact ⟨rfl, .tuple #[.agg #[.slice none 0 0, .slice none 0 0, .slice none 0 0], .int .i64 0, .int .i64 2], by simp [results, Try.results11, go_sem], rfl, (Below.refl _ _).alloc (Nat.le_refl _) _⟩
set_option maxRecDepth 100000 in
set_option maxHeartbeats 2000000 in
theorem readTr_any (b : List Int) (a : Option Addr) (c : Nat) (w : World) (hy : Tp.Byt b) {B : Nat} (hm : ByS B w a b) (hB : B ≤ w.heap.size) (hc : b.length ≤ c) (hl : b.length ≤ 1000000) :
    Calls Try.prog 11 #[.slice a b.length c] w fun e w' => rtQ w e w' (Tp.rtB b) := by
  obtain ⟨wb, hwb⟩ : ∃ W, W = w.alloc (.cells #[.slice none 0 0, .slice none 0 0, .slice none 0 0] 26) := ⟨_, rfl⟩
  have zb : wb.heap.size = w.heap.size + 1 := by rw [hwb]; simp
  have Bb : Below w.heap.size w wb := by rw [hwb]; exact (Below.refl _ _).alloc (Nat.le_refl _) _
  have hmb : ByS wb.heap.size wb a b := ((hm.mono hB).later Bb (Nat.le_refl _)).mono (by omega)
  have hbx : wb.heap[w.heap.size]? = some (.cells #[.slice none 0 0, .slice none 0 0, .slice none 0 0] 26 (0, 0)) := by rw [hwb]; exact heap_alloc_new w _
  have rbx : ∀ W5, Below wb.heap.size wb W5 → W5.heap[w.heap.size]? = some (.cells #[.slice none 0 0, .slice none 0 0, .slice none 0 0] 26 (0, 0)) := fun W5 q => (q.block _ (by omega)).trans hbx
  have RBX := hidT rbx
  have HZB := hidT zb
  have HBB := hidT Bb
  obtain ⟨W0, hW0⟩ : ∃ W, W = wb.alloc (.cells #[.slice a b.length c, .int .i64 0, .slice none 0 0, .slice none 0 0, .slice none 0 0, .int .i64 0] 56) := ⟨_, rfl⟩
  have B0 : Below wb.heap.size wb W0 := by rw [hW0]; exact (Below.refl _ _).alloc (Nat.le_refl _) _
  have z0 : W0.heap.size = wb.heap.size + 1 := by rw [hW0]; simp
  have B1 : Below W0.heap.size W0 (atBox W0) := (Below.refl _ _).alloc (Nat.le_refl _) _
  have hb : (atBox W0).heap[wb.heap.size]? = some (.cells (.slice a b.length c :: .int .i64 ((0 : Nat) : Int) :: [.slice none 0 0, .slice none 0 0, .slice none 0 0, .int .i64 0]).toArray 56 (0, 0)) := by
    rw [B1.block _ (by omega), hW0]
    exact heap_alloc_new wb _
  have nn : ∀ u : Value, Apt (.slice none 0 0) u := fun u j h => by cases h
  have hI : TrR (atBox W0) wb.heap.size a c b 0 (.slice none 0 0) (.slice none 0 0) (.slice none 0 0) 0 Tp.tr0 (atBox W0) :=
    ⟨⟨hb, (hmb.mono (Nat.le_refl _)).later (B0.trans (B1.mono (by omega))) (Nat.le_refl _), hy, hc, Nat.zero_le _, by omega⟩, World.ownsRow_nil _ _ _ _, World.ownsRow_nil _ _ _ _, World.ownsRow_nil _ _ _ _, nn _, nn _, nn _, gbR _ _, by simp [atBox]; omega⟩
  have HT := hidT (trTape_any (atBox W0) wb.heap.size a c b hI hl)
  have kfin : ∀ (w1 : World) (k : Nat) (tv cv ev : Value) (s : Int) (t : Tp.Tr) (x : Value), TrR (atBox W0) wb.heap.size a c b k tv cv ev s t w1 → Below wb.heap.size wb (w1.setCell ⟨W0.heap.size, 0, none⟩ x) ∧ (w1.setCell ⟨W0.heap.size, 0, none⟩ x).cell? ⟨wb.heap.size, 1, none⟩ = some (.int .i64 k) ∧ ((w1.setCell ⟨W0.heap.size, 0, none⟩ x).cell? ⟨wb.heap.size, 2, none⟩ = some tv ∧ (w1.setCell ⟨W0.heap.size, 0, none⟩ x).cell? ⟨wb.heap.size, 3, none⟩ = some cv ∧ (w1.setCell ⟨W0.heap.size, 0, none⟩ x).cell? ⟨wb.heap.size, 4, none⟩ = some ev) ∧ (w1.setCell ⟨W0.heap.size, 0, none⟩ x).ownsRow wb.heap.size 62 4 tv t.ticks.length (tkC t.ticks) ∧ (w1.setCell ⟨W0.heap.size, 0, none⟩ x).ownsRow wb.heap.size 3 1 cv t.counts.length (nmC t.counts) ∧ (w1.setCell ⟨W0.heap.size, 0, none⟩ x).ownsRow wb.heap.size 69 2 ev t.events.length (evC t.events) := by
    intro w1 k tv cv ev s t x h1
    have e1 : (w1.setCell ⟨W0.heap.size, 0, none⟩ x).heap[wb.heap.size]? = w1.heap[wb.heap.size]? := heap_setCell_other _ _ _ _ (by simp; omega)
    have sz : (atBox W0).heap.size = W0.heap.size + 1 := by simp [atBox]
    obtain ⟨c2, c3, c4, _⟩ := h1.cells
    refine ⟨?_, (World.cell?_of_block e1).trans h1.p.c1, ⟨(World.cell?_of_block e1).trans c2, (World.cell?_of_block e1).trans c3, (World.cell?_of_block e1).trans c4⟩, ?_, ?_, ?_⟩
    · refine (B0.trans (B1.mono (by omega))).trans ((gbB h1.bl (by omega)).trans ⟨rfl, rfl, rfl, by simp, fun i hi => heap_setCell_other _ _ i _ (by simp; omega)⟩)
    · have h2 := ownsRow_setCell_below h1.ot (a := ⟨W0.heap.size, 0, none⟩) (by simp; omega) x
      exact h2.mono (by omega)
    · have h2 := ownsRow_setCell_below h1.oc (a := ⟨W0.heap.size, 0, none⟩) (by simp; omega) x
      exact h2.mono (by omega)
    · have h2 := ownsRow_setCell_below h1.oe (a := ⟨W0.heap.size, 0, none⟩) (by simp; omega) x
      exact h2.mono (by omega)
  have KF := hidT kfin
  have hblk : ∀ w1 k tv cv ev s t, TrR (atBox W0) wb.heap.size a c b k tv cv ev s t w1 → w1.heap[W0.heap.size]? = (atBox W0).heap[W0.heap.size]? := fun w1 k tv cv ev s t h1 => h1.bl.block _ (by simp [atBox]) (by simp; omega)
  have HBK := hidT hblk
  obtain ⟨n, hn⟩ : ∃ n, n = b.length := ⟨_, rfl⟩
  have d : decide ((4194304 : Int) < (n : Int)) = false := decide_eq_false (by omega)
  have hmf : ∀ (fn : Fn) (first cap : Array Value) (w : World), (Instr.makeFunc fn first cap).run Try.prog w = .ok (.func fn first cap) w := fun _ _ _ _ => rfl
  rw [← hn] at hW0 hl hc ⊢
  have HY := hidT hy
  clear hI hb B1 B0 hblk kfin z0 hm hy hn nn hmb hbx rbx Bb zb
  cases hr : Tp.rtB b with
  | bad t s i x =>
    have hx := Tp.rtB_err b HY.out t s i x hr
    rw [hr] at HT
    have HA := hidT (attempt_bad x 30 (.pointer (some ⟨wb.heap.size, 0, none⟩)) W0 (fun w' => ∃ tv cv ev, TrR (atBox W0) wb.heap.size a c b i tv cv ev s t w') (fun _ => rfl) (fun w' ⟨tv, cv, ev, h⟩ => HBK.out _ _ _ _ _ _ _ h) HT.out)
    have qx : (x == 0) = false := by simpa using hx
    clear hr HT hx
    go_enter Try.func11, Try.ntmps11
    go_upto_region 4 with fail
    rw [← hwb, ← hW0, ← HZB.out]
    clear hW0 hwb
    go_wp2_with fail
    refine HA.out.mono ?_
    rintro e w' ⟨rfl, w1, ⟨tv, cv, ev, h1⟩, rfl⟩
    obtain ⟨f1, f2, f3, f4⟩ := KF.out w1 i tv cv ev s t (.int .i64 x) h1
    obtain ⟨W5, hW5⟩ : ∃ W, W = w1.setCell ⟨W0.heap.size, 0, none⟩ (.int .i64 x) := ⟨_, rfl⟩
    rw [← hW5] at f1 f2 f3 f4 ⊢
    have HF1 := hidT f1
    clear hW5 h1 f1 f4
    have xb := RBX.out _ HF1.out
    have x0 : W5.cell? ⟨w.heap.size, 0, none⟩ = some (.slice none 0 0) := by simp [World.cell?, xb]
    have x1 : W5.cell? ⟨w.heap.size, 1, none⟩ = some (.slice none 0 0) := by simp [World.cell?, xb]
    have x2 : W5.cell? ⟨w.heap.size, 2, none⟩ = some (.slice none 0 0) := by simp [World.cell?, xb]
    have y0 : W5.frozen? ⟨w.heap.size, 0, none⟩ = false := by simp [World.frozen?, xb]
    have y1 : W5.frozen? ⟨w.heap.size, 1, none⟩ = false := by simp [World.frozen?, xb]
    have y2 : W5.frozen? ⟨w.heap.size, 2, none⟩ = false := by simp [World.frozen?, xb]
    clear xb
    have ne1 : ¬ w.heap.size = wb.heap.size := by have := HZB.out; omega
    have ne2 : ¬ wb.heap.size = w.heap.size := by have := HZB.out; omega
    go_wp2_with fail
    go_region_with fail
    all_goals go_wp2_with fail
    all_goals try simp only [List.getElem_toArray, List.getElem_cons_zero, List.getElem_cons_succ, Act.put, List.setIfInBounds_toArray, List.set_cons_zero, List.set_cons_succ]
    all_goals
      have hxx := RBX.out _ HF1.out
      have hx1 := heap_setCell_same _ w.heap.size 0 _ _ (.slice none 0 0) hxx
      have hx2 := heap_setCell_same _ w.heap.size 1 _ _ (.slice none 0 0) hx1
      have hx3 := heap_setCell_same _ w.heap.size 2 _ _ (.slice none 0 0) hx2
      have gb6 := (gbT (set1_gb W5 w.heap.size 0 (.slice none 0 0)) (set1_gb _ w.heap.size 1 (.slice none 0 0)))
      have gb7 := hidT (gbT gb6 (set1_gb _ w.heap.size 2 (.slice none 0 0)))
      obtain ⟨W6, hW6⟩ : ∃ W, W = ((W5.setCell ⟨w.heap.size, 0, none⟩ (.slice none 0 0)).setCell ⟨w.heap.size, 1, none⟩ (.slice none 0 0)).setCell ⟨w.heap.size, 2, none⟩ (.slice none 0 0) := ⟨_, rfl⟩
      rw [← hW6] at hx3 gb7
      have hx4 : W6.drew.heap[w.heap.size]? = _ := hx3
      have z0 : W6.drew.cell? ⟨w.heap.size, 0, none⟩ = some (.slice none 0 0) := by simp [World.cell?, hx4]
      have z1 : W6.drew.cell? ⟨w.heap.size, 1, none⟩ = some (.slice none 0 0) := by simp [World.cell?, hx4]
      have z2 : W6.drew.cell? ⟨w.heap.size, 2, none⟩ = some (.slice none 0 0) := by simp [World.cell?, hx4]
      have BF : Hid (Below w.heap.size w W6.drew) := (HBB.out.trans ((HF1.out.mono (by have := HZB.out; omega)).trans (gbB gb7.out (by have := HF1.out.size; have := HZB.out; omega)))).trans ⟨rfl, rfl, rfl, Nat.le_refl _, fun _ _ => rfl⟩
      clear hx1 hx2 hx3 hx4 hxx gb6
      rw [← hW6]
      clear hW6
      refine ⟨rfl, .tuple #[.agg #[.slice none 0 0, .slice none 0 0, .slice none 0 0], .int .i64 (i : Int), .int .i64 x], by simp [results, Try.results11, go_sem, z0, z1, z2], ?_⟩
      exact ⟨rfl, BF.out⟩
  | good t s j =>
    rw [hr] at HT
    have HA := hidT (attempt_ok 30 (.pointer (some ⟨wb.heap.size, 0, none⟩)) W0 (fun w' => ∃ k tv cv ev, TrR (atBox W0) wb.heap.size a c b k tv cv ev s t w') (fun _ => rfl) (fun w' ⟨k, tv, cv, ev, h⟩ => HBK.out _ _ _ _ _ _ _ h) HT.out)
    clear hr HT
    go_enter Try.func11, Try.ntmps11
    go_upto_region 4 with fail
    rw [← hwb, ← hW0, ← HZB.out]
    clear hW0 hwb
    go_wp2_with fail
    refine HA.out.mono ?_
    rintro e w' ⟨rfl, w1, ⟨k, tv, cv, ev, h1⟩, rfl⟩
    obtain ⟨f1, f2, ⟨f3, g3, q3⟩, f4, f5, f6⟩ := KF.out w1 k tv cv ev s t (.int .i64 0) h1
    obtain ⟨W5, hW5⟩ : ∃ W, W = w1.setCell ⟨W0.heap.size, 0, none⟩ (.int .i64 0) := ⟨_, rfl⟩
    rw [← hW5] at f1 f2 f3 g3 q3 f4 f5 f6 ⊢
    obtain ⟨va, vc, hv⟩ := ownShT f4
    subst hv
    obtain ⟨va2, vc2, hv⟩ := ownShT f5
    subst hv
    obtain ⟨va3, vc3, hv⟩ := ownShT f6
    subst hv
    have HF1 := hidT f1
    have HF4 := hidT f4
    have HF5 := hidT f5
    have HF6 := hidT f6
    clear hW5 h1 f1 f4 f5 f6
    have xb := RBX.out _ HF1.out
    have x0 : W5.cell? ⟨w.heap.size, 0, none⟩ = some (.slice none 0 0) := by simp [World.cell?, xb]
    have x1 : W5.cell? ⟨w.heap.size, 1, none⟩ = some (.slice none 0 0) := by simp [World.cell?, xb]
    have x2 : W5.cell? ⟨w.heap.size, 2, none⟩ = some (.slice none 0 0) := by simp [World.cell?, xb]
    have y0 : W5.frozen? ⟨w.heap.size, 0, none⟩ = false := by simp [World.frozen?, xb]
    have y1 : W5.frozen? ⟨w.heap.size, 1, none⟩ = false := by simp [World.frozen?, xb]
    have y2 : W5.frozen? ⟨w.heap.size, 2, none⟩ = false := by simp [World.frozen?, xb]
    clear xb
    go_wp2_with fail
    have hxx := RBX.out _ HF1.out
    have hx1 := heap_setCell_same _ w.heap.size 0 _ _ (.slice va t.ticks.length vc) hxx
    have hx2 := heap_setCell_same _ w.heap.size 1 _ _ (.slice va2 t.counts.length vc2) hx1
    have hx3 := heap_setCell_same _ w.heap.size 2 _ _ (.slice va3 t.events.length vc3) hx2
    have gb6 := (gbT (set1_gb W5 w.heap.size 0 (.slice va t.ticks.length vc)) (set1_gb _ w.heap.size 1 (.slice va2 t.counts.length vc2)))
    have gb7 := hidT (gbT gb6 (set1_gb _ w.heap.size 2 (.slice va3 t.events.length vc3)))
    obtain ⟨W6, hW6⟩ : ∃ W, W = ((W5.setCell ⟨w.heap.size, 0, none⟩ (.slice va t.ticks.length vc)).setCell ⟨w.heap.size, 1, none⟩ (.slice va2 t.counts.length vc2)).setCell ⟨w.heap.size, 2, none⟩ (.slice va3 t.events.length vc3) := ⟨_, rfl⟩
    rw [← hW6] at hx3 gb7
    have z0 : W6.cell? ⟨w.heap.size, 0, none⟩ = some (.slice va t.ticks.length vc) := by simp [World.cell?, hx3]
    have z1 : W6.cell? ⟨w.heap.size, 1, none⟩ = some (.slice va2 t.counts.length vc2) := by simp [World.cell?, hx3]
    have z2 : W6.cell? ⟨w.heap.size, 2, none⟩ = some (.slice va3 t.events.length vc3) := by simp [World.cell?, hx3]
    have BF : Hid (Below w.heap.size w W6) := (HBB.out.trans ((HF1.out.mono (by have := HZB.out; omega)).trans (gbB gb7.out (by have := HF1.out.size; have := HZB.out; omega))))
    clear hx1 hx2 hx3 hxx gb6
    rw [← hW6]
    clear hW6
    refine ⟨rfl, .tuple #[.agg #[.slice va t.ticks.length vc, .slice va2 t.counts.length vc2, .slice va3 t.events.length vc3], .int .i64 0, .int .i64 0], by simp [results, Try.results11, go_sem, z0, z1, z2], ?_⟩
    have hlt : w.heap.size < wb.heap.size := by rw [HZB.out]; omega
    exact ⟨_, _, _, rfl, (own_gb HF4.out gb7.out hlt).mono (Nat.le_of_lt hlt), (own_gb HF5.out gb7.out hlt).mono (Nat.le_of_lt hlt), (own_gb HF6.out gb7.out hlt).mono (Nat.le_of_lt hlt), BF.out⟩
end Go.Proofs.Ytneefpblfiedbaa

namespace Go.Proofs.Ytneefpblfiedbaa.Tp
open Go.RowKit
set_option linter.unusedVariables false
theorem ends_ok (b : List Int) (k : Nat) (h : ends b k = none) : k + 4 = b.length ∧ b.drop k = sl4 (sum (b.take k)) := by
  unfold ends at h
  split at h
  · cases h
  · split at h
    · cases h
    · rename_i h1 h2
      split at h
      · cases h
      · have e : k + 4 = b.length := by omega
        refine ⟨e, ?_⟩
        have h3 : (b.drop k).take 4 = sl4 (sum (b.take k)) := Classical.not_not.1 h2
        rwa [List.take_of_length_le (by rw [List.length_drop]; omega)] at h3
theorem sum_fst (l : List Int) : sum l % 65536 = (1 + l.sum) % 65521 := by
  have h := sm_bd l
  have e := sm_fst l
  unfold sum
  omega
theorem sum_set : ∀ (l : List Int) (k : Nat) (x y : Int), l[k]? = some x → (l.set k y).sum = l.sum + (y - x)
  | [], k, x, y, h => by simp at h
  | a :: l, 0, x, y, h => by simp at h; subst h; simp; omega
  | a :: l, k + 1, x, y, h => by
    simp at h
    have := sum_set l k x y h
    simp [this]
    omega
/-- Bytes whose last four are the sum of those ahead are not so once one byte is another. -/
theorem changed (b : List Int) (n k j : Nat) (x y : Int) (hn : n + 4 = b.length) (hs : b.drop n = sl4 (sum (b.take n))) (hk : b[k]? = some x) (hx : 0 ≤ x ∧ x ≤ 255) (hy : 0 ≤ y ∧ y ≤ 255) (hxy : x ≠ y) : ends (b.set k y) j ≠ none := by
  intro he
  obtain ⟨e1, e2⟩ := ends_ok _ _ he
  rw [List.length_set] at e1
  obtain rfl : j = n := by omega
  have hkl : k < b.length := (List.getElem?_eq_some_iff.1 hk).1
  rcases Nat.lt_or_ge k j with h | h
  · rw [List.drop_set_of_lt h, hs] at e2
    have e3 := sl4_inj _ _ (sum_bd _) (sum_bd _) e2
    have f1 := sum_fst (b.take j)
    have f2 := sum_fst ((b.set k y).take j)
    rw [← e3, List.take_set, sum_set (b.take j) k x y (by rw [List.getElem?_take, if_pos h]; exact hk)] at f2
    omega
  · have e4 : (b.set k y).take j = b.take j := by rw [List.take_set, List.set_eq_of_length_le (by rw [List.length_take]; omega)]
    rw [e4, ← hs] at e2
    have e3 := congrArg (fun l => l[k - j]?) e2
    simp only [List.getElem?_drop] at e3
    rw [show j + (k - j) = k by omega, List.getElem?_set_self hkl, hk] at e3
    simp at e3
    exact hxy e3.symm
theorem riB_ends (b : List Int) (l : List Int) (u : Nat) (h : riB b = .good l u) : ∃ j, ends b j = none := by
  unfold riB at h
  repeat' split at h
  all_goals first
    | (cases h; done)
    | exact ⟨_, by assumption⟩
theorem rtB_ends (b : List Int) (t : Tr) (s u : Nat) (h : rtB b = .good t s u) : ∃ j, ends b j = none := by
  unfold rtB at h
  repeat' split at h
  all_goals first
    | (cases h; done)
    | exact ⟨_, by assumption⟩
/-- A tape, as it was written, and with a byte changed. -/
theorem sealed_drop (a : List Int) : (a ++ sl4 (sum a)).length = a.length + 4 ∧ (a ++ sl4 (sum a)).drop a.length = sl4 (sum ((a ++ sl4 (sum a)).take a.length)) := by
  refine ⟨by simp [sl4], ?_⟩
  rw [List.drop_append, List.take_append]
  simp
theorem ri_changed (a : List Int) (k : Nat) (x y : Int) (hk : (a ++ sl4 (sum a))[k]? = some x) (hx : 0 ≤ x ∧ x ≤ 255) (hy : 0 ≤ y ∧ y ≤ 255) (hxy : x ≠ y) : ∃ i e, riB ((a ++ sl4 (sum a)).set k y) = .bad i e := by
  obtain ⟨h1, h2⟩ := sealed_drop a
  cases h : riB ((a ++ sl4 (sum a)).set k y) with
  | bad i e => exact ⟨i, e, rfl⟩
  | good l u =>
    obtain ⟨j, hj⟩ := riB_ends _ _ _ h
    exact absurd hj (changed _ a.length k j x y h1.symm h2 hk hx hy hxy)
theorem rt_changed (a : List Int) (k : Nat) (x y : Int) (hk : (a ++ sl4 (sum a))[k]? = some x) (hx : 0 ≤ x ∧ x ≤ 255) (hy : 0 ≤ y ∧ y ≤ 255) (hxy : x ≠ y) : ∃ t s i e, rtB ((a ++ sl4 (sum a)).set k y) = .bad t s i e := by
  obtain ⟨h1, h2⟩ := sealed_drop a
  cases h : rtB ((a ++ sl4 (sum a)).set k y) with
  | bad t s i e => exact ⟨t, s, i, e, rfl⟩
  | good t s u =>
    obtain ⟨j, hj⟩ := rtB_ends _ _ _ _ h
    exact absurd hj (changed _ a.length k j x y h1.symm h2 hk hx hy hxy)
end Go.Proofs.Ytneefpblfiedbaa.Tp

namespace Go.Proofs.Ytneefpblfiedbaa
open Go.RowKit
set_option linter.unusedVariables false
set_option linter.unusedSimpArgs false
set_option maxRecDepth 100000 in
set_option maxHeartbeats 1000000 in
theorem amongT (a n : Int) (hn : 0 < n) (hn2 : n ≤ 1000000) : ∃ r : Nat, (r : Int) < n ∧ ∀ w, Calls Try.prog 17 #[.int .i64 a, .int .i64 n] w fun e w' => e = .returned (.int .i64 (r : Int)) ∧ w' = w := by
  have hb1 := Int.tmod_lt_of_pos a hn
  have hb2 := Int.lt_tmod_of_pos a hn
  generalize hq : a.tmod n = q at hb1 hb2
  by_cases h0 : 0 ≤ q
  · refine ⟨q.toNat, by omega, fun w => ?_⟩
    go_enter Try.func17, Try.ntmps17
    go_wp2
    go_ret
    exact ⟨by rw [Int.toNat_of_nonneg h0]; rfl, rfl⟩
  · obtain ⟨r, hr⟩ : ∃ r : Nat, q + n = (r : Int) := ⟨(q + n).toNat, by omega⟩
    refine ⟨r, by omega, fun w => ?_⟩
    have HR : Hid (q + n = (r : Int)) := hr
    clear hr
    go_enter Try.func17, Try.ntmps17
    go_wp2
    go_ret
    exact ⟨by rw [← HR.out]; rfl, rfl⟩
set_option maxHeartbeats 1000000 in
theorem many_any (ta ca ea : Option Addr) (tc cc ec : Nat) (n1 n2 n3 : Nat) (w : World) : Calls Try.prog 7 #[.agg #[.slice ta n1 tc, .slice ca n2 cc, .slice ea n3 ec]] w fun e w' => e = .returned (.bool (decide (500 < n1 ∨ 500 < n2 ∨ 500 < n3))) ∧ Below w.heap.size w w' := by
  by_cases h1 : 500 < n1
  · rw [decide_eq_true (p := 500 < n1 ∨ 500 < n2 ∨ 500 < n3) (by omega)]
    have d1 : decide ((500 : Int) < (n1 : Int)) = true := decide_eq_true (by omega)
    go_enter Try.func7, Try.ntmps7
    go_wp2_with fail
    go_ret
    exact ⟨rfl, (Below.refl _ _).alloc (Nat.le_refl _) _⟩
  · have d1 : decide ((500 : Int) < (n1 : Int)) = false := decide_eq_false (by omega)
    by_cases h2 : 500 < n2
    · rw [decide_eq_true (p := 500 < n1 ∨ 500 < n2 ∨ 500 < n3) (by omega)]
      have d2 : decide ((500 : Int) < (n2 : Int)) = true := decide_eq_true (by omega)
      go_enter Try.func7, Try.ntmps7
      go_wp2_with fail
      go_ret
      exact ⟨rfl, (Below.refl _ _).alloc (Nat.le_refl _) _⟩
    · have d2 : decide ((500 : Int) < (n2 : Int)) = false := decide_eq_false (by omega)
      by_cases h3 : 500 < n3
      · rw [decide_eq_true (p := 500 < n1 ∨ 500 < n2 ∨ 500 < n3) (by omega)]
        have d3 : decide ((500 : Int) < (n3 : Int)) = true := decide_eq_true (by omega)
        go_enter Try.func7, Try.ntmps7
        go_wp2_with fail
        go_ret
        exact ⟨rfl, (Below.refl _ _).alloc (Nat.le_refl _) _⟩
      · rw [decide_eq_false (p := 500 < n1 ∨ 500 < n2 ∨ 500 < n3) (by omega)]
        have d3 : decide ((500 : Int) < (n3 : Int)) = false := decide_eq_false (by omega)
        go_enter Try.func7, Try.ntmps7
        go_wp2_with fail
        go_ret
        exact ⟨rfl, (Below.refl _ _).alloc (Nat.le_refl _) _⟩
/-- Bytes in a block of their own, which may be written. -/
def ByB (w : World) (g : Nat) (l : List Int) : Prop := ∃ (cs : Array Value) (e : TypeId), w.heap[g]? = some (.cells cs e (0, 0)) ∧ ∀ (j : Nat) (x : Int), l[j]? = some x → cs[j]? = some (Value.int .u8 x)
theorem ByB.c {w : World} {g : Nat} {l : List Int} (h : ByB w g l) (j : Nat) (x : Int) (hj : l[j]? = some x) : w.cell? ⟨g, j, none⟩ = some (.int .u8 x) := by
  obtain ⟨cs, e, hg, hc⟩ := h
  simp [World.cell?, hg, hc j x hj]
theorem ByB.f {w : World} {g : Nat} {l : List Int} (h : ByB w g l) (i : Nat) : w.frozen? ⟨g, i, none⟩ = false := by
  obtain ⟨cs, e, hg, hc⟩ := h
  simp [World.frozen?, hg]
theorem ByB.lt {w : World} {g : Nat} {l : List Int} (h : ByB w g l) : g < w.heap.size := by
  obtain ⟨cs, e, hg, hc⟩ := h
  exact (Array.getElem?_eq_some_iff.1 hg).1
theorem OwB.open' {w : World} {base : Nat} {v : Value} {l : List Int} (h : OwB w base v l) (h0 : 0 < l.length) : ∃ g cap, v = .slice (some ⟨g, 0, none⟩) l.length cap ∧ base ≤ g ∧ l.length ≤ cap ∧ ByB w g l := by
  obtain ⟨g, cap, e, hb, hl, hc, ce⟩ := h.cell' h0
  refine ⟨g, cap, e, hb, hc, ?_⟩
  rcases h.2 with ⟨e1, h1⟩ | ⟨g', cap', cur, e1, hbg, hg, _⟩
  · omega
  · rw [e] at e1
    cases e1
    refine ⟨_, _, hg, fun j x hj => ?_⟩
    have := ce j x hj
    simpa [World.cell?, hg] using this
theorem ByB.kept {w w' : World} {g : Nat} {l : List Int} (h : ByB w g l) (e : w'.heap[g]? = w.heap[g]?) : ByB w' g l := by
  obtain ⟨cs, t, hg, hc⟩ := h
  exact ⟨cs, t, e.trans hg, hc⟩
theorem ByB.bys {w : World} {g : Nat} {l : List Int} (h : ByB w g l) : ByS w.heap.size w (some ⟨g, 0, none⟩) l := fun _ => ⟨g, 0, rfl, h.lt, fun j x hj => by rw [Nat.zero_add]; exact h.c j x hj⟩
theorem ByB.set {w : World} {g : Nat} {l : List Int} (h : ByB w g l) (k : Nat) (y : Int) (hk : k < l.length) : ByB (w.setCell ⟨g, k, none⟩ (.int .u8 y)) g (l.set k y) := by
  obtain ⟨cs, e, hg, hc⟩ := h
  have hs := heap_setCell_same w g k _ _ (.int .u8 y) hg
  refine ⟨_, _, hs, fun j x hj => ?_⟩
  have hx := hc k l[k] (List.getElem?_eq_getElem hk)
  have hks : k < cs.size := (Array.getElem?_eq_some_iff.1 hx).1
  by_cases hjk : j = k
  · subst hjk
    rw [List.getElem?_set_self hk] at hj
    cases hj
    simp [Array.getElem?_setIfInBounds, hks]
  · rw [List.getElem?_set_ne (by omega)] at hj
    have := hc j x hj
    rw [Array.getElem?_setIfInBounds, if_neg (by omega)]
    exact this
/-- A byte and another: neither is the one that comes of them. -/
theorem xor_u8 (x b : Int) (hx : 0 ≤ x ∧ x ≤ 255) (hb : 0 ≤ b ∧ b ≤ 255) (h0 : b ≠ 0) : 0 ≤ bits .xor .u8 x b ∧ bits .xor .u8 x b ≤ 255 ∧ x ≠ bits .xor .u8 x b := by
  obtain ⟨m, rfl⟩ : ∃ m : Nat, x = m := ⟨x.toNat, by omega⟩
  obtain ⟨n, rfl⟩ : ∃ n : Nat, b = n := ⟨b.toNat, by omega⟩
  have hm : m < 256 := by omega
  have hn : n < 256 := by omega
  have e : bits .xor .u8 (m : Int) (n : Int) = ((m ^^^ n : Nat) : Int) := by
    have hx : m ^^^ n < 2 ^ 8 := Nat.xor_lt_two_pow hm hn
    have h1 : (BitVec.ofInt 8 (m : Int)).toNat = m := by
      rw [BitVec.ofInt_natCast, BitVec.toNat_ofNat]; exact Nat.mod_eq_of_lt hm
    have h2 : (BitVec.ofInt 8 (n : Int)).toNat = n := by
      rw [BitVec.ofInt_natCast, BitVec.toNat_ofNat]; exact Nat.mod_eq_of_lt hn
    have wr : ∀ n : Int, IntKind.u8.wrap n = n % 256 := fun n => by simp [IntKind.wrap, IntKind.bits, IntKind.signed]
    show IntKind.u8.wrap ((BitVec.ofInt 8 (m : Int) ^^^ BitVec.ofInt 8 (n : Int)).toNat : Int) = _
    rw [BitVec.toNat_xor, h1, h2, wr]
    omega
  have hl : m ^^^ n < 256 := Nat.xor_lt_two_pow (n := 8) hm hn
  rw [e]
  refine ⟨by omega, by omega, fun h => ?_⟩
  have h1 : m = m ^^^ n := by omega
  have h2 : m ^^^ m = m ^^^ (m ^^^ n) := congrArg (m ^^^ ·) h1
  rw [Nat.xor_self, ← Nat.xor_assoc, Nat.xor_self, Nat.zero_xor] at h2
  omega
theorem Tp.wt_len2 (t : Tp.Tr) (h : Tp.rightT t = true) (m1 : t.ticks.length ≤ 500) (m3 : t.events.length ≤ 500) : (Tp.wt t).length ≤ 22000 := by
  unfold Tp.rightT at h
  simp only [Bool.and_eq_true] at h
  have := Tp.recs_len2 t.events t.ticks t.counts 0 h.2.1
  simp only [Tp.wt, Tp.bodyT, List.length_append, Tp.sl4, Tp.head, List.length_cons, List.length_nil]
  omega
end Go.Proofs.Ytneefpblfiedbaa

namespace Go.Proofs.Ytneefpblfiedbaa.Tp
open Go.RowKit
set_option linter.unusedVariables false
set_option linter.unusedSimpArgs false
def nmB (l : List Int) : List Int := l.flatMap (fun n => dg (zg n))
theorem hd_app (ws r : List Int) : ∀ i, hd i ws (ws ++ r) = none := by
  induction ws with
  | nil => intro i; rfl
  | cons w ws ih => intro i; rw [List.cons_append, hd, if_pos rfl]; exact ih _
theorem hd_take : ∀ (ws b : List Int) (i : Nat), hd i ws b = none → b.take ws.length = ws
  | [], b, i, h => rfl
  | w :: ws, [], i, h => by simp [hd] at h
  | w :: ws, c :: b, i, h => by
    rw [hd] at h
    split at h
    · rename_i e
      subst e
      simp [hd_take ws b _ h]
    · cases h
theorem nums_app (b : List Int) : ∀ (l : List Int) (k : Nat) (acc r : List Int), (∀ x ∈ l, -9223372036854775808 ≤ x ∧ x ≤ 9223372036854775807) → b.drop k = nmB l ++ r → nums b l.length k acc = .good (acc ++ l) (k + (nmB l).length)
  | [], k, acc, r, hr, h => by simp [nums, nmB]
  | n :: l, k, acc, r, hr, h => by
    have e : nmB (n :: l) = dg (zg n) ++ nmB l := by simp [nmB]
    rw [e] at h ⊢
    have hn := hr n (by simp)
    have h1 := rd_dg (zg n) (nmB l ++ r) (zg_lt n hn.1 hn.2)
    rw [← List.append_assoc, ← h] at h1
    have h2 : b.drop (k + (dg (zg n)).length) = nmB l ++ r := by
      rw [← List.drop_drop, h, List.append_assoc, List.drop_left]
    rw [List.length_cons, nums, rdAt, h1]
    dsimp only
    rw [nums_app b l _ (acc ++ [zag (zg n)]) r (fun x hx => hr x (by simp [hx])) h2, zag_zg]
    simp [Nat.add_assoc]
theorem ends_sealed (a : List Int) : ends (a ++ sl4 (sum a)) a.length = none := by
  obtain ⟨h1, h2⟩ := sealed_drop a
  have e4 : ∀ s, (sl4 s).length = 4 := fun s => rfl
  unfold ends
  rw [if_neg (by omega), if_neg, if_neg (by omega)]
  intro h
  apply h
  rw [h2]
  simp [sl4]
theorem ri_wi (l : List Int) (hl : l.length ≤ 1000) (hr : ∀ x ∈ l, -9223372036854775808 ≤ x ∧ x ≤ 9223372036854775807) : riB (wi l) = .good l 0 := by
  have e0 : wi l = head 1 ++ (dg l.length ++ (nmB l ++ sl4 (sum (body l)))) := by simp [wi, body, nmB, List.append_assoc]
  have d5 : (wi l).drop 5 = dg l.length ++ (nmB l ++ sl4 (sum (body l))) := by rw [e0]; rfl
  have dk : (wi l).drop (5 + (dg l.length).length) = nmB l ++ sl4 (sum (body l)) := by rw [← List.drop_drop, d5, List.drop_left]
  have bl : (body l).length = 5 + (dg l.length).length + (nmB l).length := by simp [body, head, nmB, Nat.add_assoc]; omega
  unfold riB
  rw [show hd 0 (head 1) (wi l) = none by rw [e0]; exact hd_app _ _ _]
  dsimp only
  rw [rdAt, d5, rd_dg _ _ (by omega)]
  dsimp only
  rw [if_neg (by omega), nums_app (wi l) l _ [] _ hr dk]
  dsimp only
  rw [← bl, show ends (wi l) (body l).length = none from ends_sealed _]
  simp
theorem nums_back (b : List Int) (hb : Byt b) : ∀ (n k : Nat) (acc l : List Int) (j : Nat), k ≤ b.length → nums b n k acc = .good l j → ∃ m, l = acc ++ m ∧ m.length = n ∧ b.drop k = nmB m ++ b.drop j ∧ j = k + (nmB m).length ∧ j ≤ b.length ∧ ∀ x ∈ m, -9223372036854775808 ≤ x ∧ x ≤ 9223372036854775807
  | 0, k, acc, l, j, hk, h => by
    simp [nums] at h
    obtain ⟨rfl, rfl⟩ := h
    exact ⟨[], by simp, rfl, by simp [nmB], by simp [nmB], hk, fun x hx => by cases hx⟩
  | n + 1, k, acc, l, j, hk, h => by
    rw [nums, rdAt] at h
    cases hr : rdF 0 0 (b.drop k) with
    | inr e => rw [hr] at h; simp at h
    | inl p =>
      obtain ⟨z, u⟩ := p
      rw [hr] at h
      dsimp only at h
      obtain ⟨h1, h2, h3, h4⟩ := rd_back _ _ _ (hb.drop k) hr
      rw [List.length_drop] at h2
      obtain ⟨m, e1, e2, e3, e4, e5, e6⟩ := nums_back b hb n (k + u) (acc ++ [zag z]) l j (by omega) h
      have eu : (dg z).length = u := by rw [h3, List.length_take, List.length_drop]; omega
      refine ⟨zag z :: m, by rw [e1]; simp, by simp [e2], ?_, ?_, e5, ?_⟩
      · rw [show nmB (zag z :: m) = dg z ++ nmB m by simp [nmB, zg_zag], List.append_assoc, ← e3, h3, ← List.drop_drop, List.take_append_drop]
      · rw [show nmB (zag z :: m) = dg z ++ nmB m by simp [nmB, zg_zag], List.length_append, eu, e4]
        omega
      · intro x hx
        rcases List.mem_cons.1 hx with rfl | hx
        · exact zag_bd z h4
        · exact e6 x hx
theorem ri_back (b : List Int) (hb : Byt b) (l : List Int) (u : Nat) (h : riB b = .good l u) : wi l = b ∧ l.length ≤ 1000 ∧ ∀ x ∈ l, -9223372036854775808 ≤ x ∧ x ≤ 9223372036854775807 := by
  unfold riB at h
  cases hh : hd 0 (head 1) b with
  | some p => rw [hh] at h; simp at h
  | none =>
    rw [hh] at h
    dsimp only at h
    have h5 : 5 ≤ b.length := hd_none_len _ _ _ hh
    have t5 : b.take 5 = head 1 := hd_take _ _ _ hh
    rw [rdAt] at h
    cases hr : rdF 0 0 (b.drop 5) with
    | inr e => rw [hr] at h; simp at h
    | inl p =>
      obtain ⟨n, v⟩ := p
      rw [hr] at h
      dsimp only at h
      obtain ⟨h1, h2, h3, h4⟩ := rd_back _ _ _ (hb.drop 5) hr
      rw [List.length_drop] at h2
      split at h
      · simp at h
      · cases hn : nums b n (5 + v) [] with
        | bad j e => rw [hn] at h; simp at h
        | good m j =>
          rw [hn] at h
          dsimp only at h
          cases he : ends b j with
          | some q => rw [he] at h; simp at h
          | none =>
            rw [he] at h
            simp at h
            obtain ⟨rfl, _⟩ := h
            obtain ⟨m', e1, e2, e3, e4, e5, e6⟩ := nums_back b hb n (5 + v) [] m j (by omega) hn
            simp at e1
            subst e1
            obtain ⟨s1, s2⟩ := ends_ok b j he
            have eu : (dg n).length = v := by rw [h3, List.length_take, List.length_drop]; omega
            have tj : b.take j = body m := by
              have q1 : b = head 1 ++ (dg n ++ (nmB m ++ b.drop j)) := by
                rw [← e3, h3, ← List.drop_drop, List.take_append_drop, ← t5, List.take_append_drop]
              have q2 : b = body m ++ b.drop j := by
                rw [body, e2]
                show b = head 1 ++ dg n ++ nmB m ++ b.drop j
                simpa [List.append_assoc] using q1
              have q3 : (body m).length = j := by
                have := congrArg List.length q2
                rw [List.length_append, List.length_drop] at this
                omega
              rw [← q3] at q2 ⊢
              rw [q2, List.take_left]
            refine ⟨?_, by omega, e6⟩
            rw [wi, ← tj, ← s2, List.take_append_drop]
end Go.Proofs.Ytneefpblfiedbaa.Tp

namespace Go.Proofs.Ytneefpblfiedbaa.Tp
open Go.RowKit
set_option linter.unusedVariables false
set_option linter.unusedSimpArgs false
theorem get_drop {b r : List Int} {k : Nat} {c : Int} (h : b.drop k = c :: r) : b[k]? = some c ∧ b.drop (k + 1) = r := by
  constructor
  · have := congrArg (fun l => l[0]?) h
    simpa [List.getElem?_drop] using this
  · rw [← List.drop_drop, h]; rfl
theorem drop_app {b p r : List Int} {k : Nat} (h : b.drop k = p ++ r) : b.drop (k + p.length) = r := by
  rw [← List.drop_drop, h, List.drop_left]
theorem step_ev (b : List Int) (k : Nat) (t : Tr) (e : Ev) (r : List Int) (he : okE e = true) (hn : -9223372036854775808 ≤ e.n ∧ e.n ≤ 9223372036854775807) (h : b.drop k = evB e ++ r) : step b k t = .more ⟨t.ticks, t.counts, t.events ++ [e]⟩ (k + (evB e).length) := by
  obtain ⟨kd, n⟩ := e
  simp only [okE, Bool.and_eq_true, Bool.or_eq_true, bet, decide_eq_true_eq, beq_iff_eq] at he
  dsimp only at hn
  have h' : b.drop k = (16 + kd) :: ((if hasN kd then dg (zg n) else []) ++ r) := h
  obtain ⟨h1, h2⟩ := get_drop h'
  unfold step
  rw [h1]
  dsimp only
  rw [if_neg (by omega), if_neg (by simp [bet]; omega), if_pos (by simp [bet]; omega)]
  unfold stepE
  rw [show 16 + kd - 16 = kd by omega]
  by_cases hh : hasN kd = true
  · rw [if_pos hh] at h2 ⊢
    rw [h2, rd_dg _ _ (zg_lt n hn.1 hn.2)]
    simp [evB, hh, zag_zg]
    omega
  · rw [if_neg hh]
    have hz : n = 0 := he.2.resolve_left hh
    simp [evB, hh, hz]
theorem tnum_app (b : List Int) (lo k : Nat) (x : Int) (r : List Int) (hx : (lo : Int) ≤ x ∧ x ≤ 2147483647) (h : b.drop k = dg x.toNat ++ r) : tnum b lo k = .good x.toNat (k + (dg x.toNat).length) := by
  unfold tnum
  rw [h, rd_dg _ _ (by omega)]
  dsimp only
  rw [if_pos (by omega)]
theorem step_tk (b : List Int) (k : Nat) (t : Tr) (x : Tk) (r : List Int) (hx : okT x = true) (h : b.drop k = tkB x ++ r) : step b k t = .more ⟨t.ticks ++ [x], t.counts ++ [(t.events.length : Int)], t.events⟩ (k + (tkB x).length) := by
  obtain ⟨kd, p, m, d⟩ := x
  simp only [okT, Bool.and_eq_true, bet, decide_eq_true_eq] at hx
  have h' : b.drop k = kd :: (dg p.toNat ++ (dg m.toNat ++ (dg d.toNat ++ r))) := by rw [h]; simp [tkB, List.append_assoc]
  obtain ⟨h1, h2⟩ := get_drop h'
  unfold step
  rw [h1]
  dsimp only
  rw [if_neg (by omega), if_pos (by simp [bet]; omega)]
  unfold stepT
  have h3 := drop_app h2
  have h4 := drop_app h3
  rw [tnum_app b 0 _ p _ (by omega) h2]
  dsimp only
  rw [tnum_app b 0 _ m _ (by omega) h3]
  dsimp only
  rw [tnum_app b 1 _ d _ (by omega) h4]
  have e1 : ((p.toNat : Nat) : Int) = p := by omega
  have e2 : ((m.toNat : Nat) : Int) = m := by omega
  have e3 : ((d.toNat : Nat) : Int) = d := by omega
  dsimp only
  rw [e1, e2, e3]
  simp [tkB]
  omega
theorem rds_evs (b : List Int) : ∀ (l : List Ev) (f k : Nat) (t : Tr) (r : List Int), (∀ e ∈ l, okE e = true ∧ -9223372036854775808 ≤ e.n ∧ e.n ≤ 9223372036854775807) → b.drop k = evs l ++ r → rds b (f + l.length) k t = rds b f (k + (evs l).length) ⟨t.ticks, t.counts, t.events ++ l⟩
  | [], f, k, t, r, hl, h => by simp [evs]
  | e :: l, f, k, t, r, hl, h => by
    have he := hl e (by simp)
    have e1 : evs (e :: l) = evB e ++ evs l := by simp [evs]
    rw [e1, List.append_assoc] at h
    rw [List.length_cons, ← Nat.add_assoc, rds, step_ev b k t e _ he.1 he.2 h]
    dsimp only
    rw [rds_evs b l f _ _ r (fun x hx => hl x (by simp [hx])) (drop_app h), e1, List.length_append, Nat.add_assoc]
    simp
theorem rds_recs (b : List Int) (ev : List Ev) (hev : ∀ e ∈ ev, okE e = true ∧ -9223372036854775808 ≤ e.n ∧ e.n ≤ 9223372036854775807) : ∀ (ts : List Tk) (cs : List Int) (told f k : Nat) (t : Tr) (r : List Int), cs.length = ts.length → okC ev.length told cs = true → told ≤ ev.length → (∀ x ∈ ts, okT x = true) → t.events = ev.take told → b.drop k = recs ev ts cs told ++ (0 :: r) → ts.length + (ev.length - told) < f → rds b f k t = .good ⟨t.ticks ++ ts, t.counts ++ cs, ev⟩ (k + (recs ev ts cs told).length) (k + (recs ev ts cs told).length + 1)
  | [], cs, told, f, k, t, r, hc, ho, hle, ht, hte, h, hf => by
    obtain rfl : cs = [] := by simpa using hc
    have hr : recs ev [] [] told = evs (ev.drop told) := by simp [recs]
    rw [hr] at h ⊢
    obtain ⟨g, rfl⟩ : ∃ g, f = g + 1 + (ev.drop told).length := ⟨f - 1 - (ev.drop told).length, by rw [List.length_drop]; simp at hf; omega⟩
    rw [rds_evs b _ (g + 1) k t _ (fun e he => hev e (List.mem_of_mem_drop he)) h]
    have h0 := drop_app h
    obtain ⟨h1, h2⟩ := get_drop h0
    rw [rds]
    simp only [step, h1]
    simp [hte]
  | x :: ts, [], told, f, k, t, r, hc, ho, hle, ht, hte, h, hf => by simp at hc
  | x :: ts, c :: cs, told, f, k, t, r, hc, ho, hle, ht, hte, h, hf => by
    rw [okC] at ho
    split at ho
    · cases ho
    · rename_i hcc
      obtain ⟨n, rfl⟩ : ∃ n : Nat, c = n := ⟨c.toNat, by omega⟩
      have hn1 : told ≤ n := by omega
      have hn2 : n ≤ ev.length := by omega
      have hr : recs ev (x :: ts) ((n : Int) :: cs) told = evs ((ev.drop told).take (n - told)) ++ (tkB x ++ recs ev ts cs n) := by simp [recs]
      have hll : ((ev.drop told).take (n - told)).length = n - told := by rw [List.length_take, List.length_drop]; omega
      rw [hr, List.append_assoc, List.append_assoc] at h
      obtain ⟨g, rfl⟩ : ∃ g, f = g + 1 + ((ev.drop told).take (n - told)).length := ⟨f - 1 - ((ev.drop told).take (n - told)).length, by rw [hll]; simp at hf; omega⟩
      rw [rds_evs b _ (g + 1) k t _ (fun e he => hev e (List.mem_of_mem_drop (List.mem_of_mem_take he))) h]
      have h1 := drop_app h
      rw [rds, step_tk b _ _ x _ (ht x (by simp)) h1]
      dsimp only
      have h2 := drop_app h1
      have ee : t.events ++ (ev.drop told).take (n - told) = ev.take n := by
        rw [hte, show n = told + (n - told) by omega, List.take_add]
        simp
      rw [ee]
      have el : (ev.take n).length = n := by rw [List.length_take]; omega
      rw [el]
      have hf2 : ts.length + (ev.length - n) < g := by rw [hll] at hf; simp at hf; omega
      rw [rds_recs b ev hev ts cs n g _ _ r (by simpa using hc) ho hn2 (fun y hy => ht y (by simp [hy])) rfl h2 hf2, hr]
      simp [Nat.add_assoc]
theorem recs_ge (ev : List Ev) : ∀ (ts : List Tk) (cs : List Int) (told : Nat), cs.length = ts.length → okC ev.length told cs = true → ts.length + (ev.length - told) ≤ (recs ev ts cs told).length
  | [], cs, told, hc, h => by
    have : ∀ l : List Ev, l.length ≤ (evs l).length := fun l => by
      induction l with
      | nil => simp
      | cons e l ih => simp only [evs, List.flatMap_cons, List.length_append, evB, List.length_cons] at *; omega
    have h1 := this (ev.drop told)
    rw [List.length_drop] at h1
    cases cs <;> simp [recs] <;> omega
  | t :: ts, [], told, hc, h => by simp at hc
  | t :: ts, c :: cs, told, hc, h => by
    have : ∀ l : List Ev, l.length ≤ (evs l).length := fun l => by
      induction l with
      | nil => simp
      | cons e l ih => simp only [evs, List.flatMap_cons, List.length_append, evB, List.length_cons] at *; omega
    rw [okC] at h
    split at h
    · cases h
    · rename_i hcc
      obtain ⟨n, rfl⟩ : ∃ n : Nat, c = n := ⟨c.toNat, by omega⟩
      have ih := recs_ge ev ts cs n (by simpa using hc) h
      have h1 := this ((ev.drop told).take (n - told))
      rw [List.length_take, List.length_drop] at h1
      simp only [recs, List.length_append, List.length_cons, tkB, Int.toNat_natCast]
      omega
theorem rt_wt (t : Tr) (h : rightT t = true) (hn : ∀ e ∈ t.events, -9223372036854775808 ≤ e.n ∧ e.n ≤ 9223372036854775807) : ∃ s j, rtB (wt t) = .good t s j := by
  simp only [rightT, Bool.and_eq_true, decide_eq_true_eq, List.all_eq_true] at h
  obtain ⟨h1, h2, h3, h4⟩ := h
  have e0 : wt t = head 2 ++ (recs t.events t.ticks t.counts 0 ++ (0 :: sl4 (sum (bodyT t)))) := by simp [wt, bodyT, List.append_assoc]
  have d5 : (wt t).drop 5 = recs t.events t.ticks t.counts 0 ++ (0 :: sl4 (sum (bodyT t))) := by rw [e0]; rfl
  have bl : (bodyT t).length = 5 + (recs t.events t.ticks t.counts 0).length + 1 := by simp [bodyT, head]; omega
  have wl : (wt t).length = (bodyT t).length + 4 := by simp [wt, sl4]
  have hg := recs_ge t.events t.ticks t.counts 0 h1 h2
  have hr := rds_recs (wt t) t.events (fun e he => ⟨h4 e he, hn e he⟩) t.ticks t.counts 0 (wt t).length 5 tr0 _ h1 h2 (Nat.zero_le _) h3 rfl d5 (by omega)
  unfold rtB
  rw [show hd 0 (head 2) (wt t) = none by rw [e0]; exact hd_app _ _ _]
  dsimp only
  rw [hr]
  dsimp only
  rw [← bl, show ends (wt t) (bodyT t).length = none from ends_sealed _]
  exact ⟨_, _, rfl⟩
end Go.Proofs.Ytneefpblfiedbaa.Tp

namespace Go.Proofs.Ytneefpblfiedbaa.Tp
open Go.RowKit
set_option linter.unusedVariables false
set_option linter.unusedSimpArgs false
theorem okC_up : ∀ (cs : List Int) (m told : Int), okC m told cs = true → okC (m + 1) told cs = true
  | [], m, told, h => rfl
  | c :: cs, m, told, h => by
    rw [okC] at h ⊢
    split at h
    · cases h
    · rw [if_neg (by omega)]
      exact okC_up cs m c h
theorem okC_add : ∀ (cs : List Int) (m told : Int), told ≤ m → okC m told cs = true → okC m told (cs ++ [m]) = true
  | [], m, told, hm, h => by simp [okC]; omega
  | c :: cs, m, told, hm, h => by
    rw [List.cons_append, okC]
    rw [okC] at h
    split at h
    · cases h
    · rw [if_neg (by omega)]
      exact okC_add cs m c (by omega) h
theorem recs_ev (ev : List Ev) (e : Ev) : ∀ (ts : List Tk) (cs : List Int) (told : Nat), cs.length = ts.length → told ≤ ev.length → okC ev.length told cs = true → recs (ev ++ [e]) ts cs told = recs ev ts cs told ++ evB e
  | [], cs, told, hc, ht, h => by
    obtain rfl : cs = [] := by simpa using hc
    simp only [recs]
    rw [List.drop_append_of_le_length ht, evs_app]
    simp [evs]
  | t :: ts, [], told, hc, ht, h => by simp at hc
  | t :: ts, c :: cs, told, hc, ht, h => by
    rw [okC] at h
    split at h
    · cases h
    · obtain ⟨n, rfl⟩ : ∃ n : Nat, c = n := ⟨c.toNat, by omega⟩
      simp only [recs, Int.toNat_natCast]
      rw [recs_ev ev e ts cs n (by simpa using hc) (by omega) h, List.drop_append_of_le_length ht, List.take_append_of_le_length (by rw [List.length_drop]; omega)]
      simp [List.append_assoc]
theorem recs_tk (ev : List Ev) (x : Tk) : ∀ (ts : List Tk) (cs : List Int) (told : Nat), cs.length = ts.length → told ≤ ev.length → okC ev.length told cs = true → recs ev (ts ++ [x]) (cs ++ [(ev.length : Int)]) told = recs ev ts cs told ++ tkB x
  | [], cs, told, hc, ht, h => by
    obtain rfl : cs = [] := by simpa using hc
    simp only [List.nil_append, recs, Int.toNat_natCast]
    rw [List.take_of_length_le (by rw [List.length_drop]; omega), List.drop_length]
    simp [evs]
  | t :: ts, [], told, hc, ht, h => by simp at hc
  | t :: ts, c :: cs, told, hc, ht, h => by
    rw [okC] at h
    split at h
    · cases h
    · obtain ⟨n, rfl⟩ : ∃ n : Nat, c = n := ⟨c.toNat, by omega⟩
      simp only [List.cons_append, recs, Int.toNat_natCast]
      rw [recs_tk ev x ts cs n (by simpa using hc) (by omega) h]
      simp [List.append_assoc]
theorem drop_cons {b : List Int} {k : Nat} {c : Int} (h : b[k]? = some c) : b.drop k = c :: b.drop (k + 1) := by
  obtain ⟨hk, rfl⟩ := List.getElem?_eq_some_iff.1 h
  exact List.drop_eq_getElem_cons hk
theorem tnum_back (b : List Int) (hb : Byt b) (lo k z j : Nat) (h : tnum b lo k = .good z j) : b.drop k = dg z ++ b.drop j ∧ j = k + (dg z).length ∧ lo ≤ z ∧ z ≤ 2147483647 := by
  unfold tnum at h
  cases hr : rdF 0 0 (b.drop k) with
  | inr e => rw [hr] at h; cases h
  | inl p =>
    rw [hr] at h
    dsimp only at h
    split at h
    · rename_i hz
      cases h
      obtain ⟨h1, h2, h3, _⟩ := rd_back _ _ _ (hb.drop k) hr
      have eu : (dg p.1).length = p.2 := by rw [h3, List.length_take]; omega
      exact ⟨by rw [h3, ← List.drop_drop, List.take_append_drop], by rw [eu], hz.1, hz.2⟩
    · cases h
/-- What a record was. -/
theorem step_back (b : List Int) (hb : Byt b) (k : Nat) (t t' : Tr) (j : Nat) (h : step b k t = .more t' j) :
    (∃ e, okE e = true ∧ (-9223372036854775808 ≤ e.n ∧ e.n ≤ 9223372036854775807) ∧ t' = ⟨t.ticks, t.counts, t.events ++ [e]⟩ ∧ b.drop k = evB e ++ b.drop j) ∨
    (∃ x, okT x = true ∧ t' = ⟨t.ticks ++ [x], t.counts ++ [(t.events.length : Int)], t.events⟩ ∧ b.drop k = tkB x ++ b.drop j) := by
  unfold step at h
  cases hk : b[k]? with
  | none => rw [hk] at h; cases h
  | some c =>
    rw [hk] at h
    dsimp only at h
    have hd := drop_cons hk
    split at h
    · cases h
    · split at h
      · rename_i hc
        right
        unfold stepT at h
        cases h1 : tnum b 0 (k + 1) with
        | bad j e => rw [h1] at h; cases h
        | good p k1 =>
          rw [h1] at h
          dsimp only at h
          cases h2 : tnum b 0 k1 with
          | bad j e => rw [h2] at h; cases h
          | good m k2 =>
            rw [h2] at h
            dsimp only at h
            cases h3 : tnum b 1 k2 with
            | bad j e => rw [h3] at h; cases h
            | good d k3 =>
              rw [h3] at h
              cases h
              obtain ⟨a1, _, a2, a3⟩ := tnum_back b hb _ _ _ _ h1
              obtain ⟨b1, _, b2, b3⟩ := tnum_back b hb _ _ _ _ h2
              obtain ⟨c1, _, c2, c3⟩ := tnum_back b hb _ _ _ _ h3
              refine ⟨⟨c, p, m, d⟩, ?_, rfl, ?_⟩
              · simp only [okT, Bool.and_eq_true]
                refine ⟨hc, ?_, ?_, ?_⟩ <;> (simp only [bet, decide_eq_true_eq]; omega)
              · rw [hd, a1, b1, c1]
                simp [tkB, List.append_assoc]
      · split at h
        · rename_i hc
          left
          unfold stepE at h
          simp only [bet, decide_eq_true_eq] at hc
          split at h
          · rename_i hh
            cases hr : rdF 0 0 (b.drop (k + 1)) with
            | inr e => rw [hr] at h; cases h
            | inl p =>
              rw [hr] at h
              cases h
              obtain ⟨h1, h2, h3, h4⟩ := rd_back _ _ _ (hb.drop (k + 1)) hr
              refine ⟨⟨c - 16, zag p.1⟩, ?_, zag_bd _ h4, rfl, ?_⟩
              · simp only [okE, Bool.and_eq_true, Bool.or_eq_true, bet, decide_eq_true_eq]
                exact ⟨hc, .inl hh⟩
              · simp only [evB, if_pos hh, zg_zag]
                have q : b.drop (k + 1 + p.2) = (b.drop (k + 1)).drop p.2 := (List.drop_drop ..).symm
                rw [hd, show 16 + (c - 16) = c by omega, h3, q, List.cons_append, List.take_append_drop]
          · rename_i hh
            cases h
            refine ⟨⟨c - 16, 0⟩, ?_, ⟨by show (-9223372036854775808 : Int) ≤ 0; decide, by show (0 : Int) ≤ 9223372036854775807; decide⟩, rfl, ?_⟩
            · simp only [okE, Bool.and_eq_true, Bool.or_eq_true, bet, decide_eq_true_eq]
              exact ⟨hc, .inr rfl⟩
            · simp only [evB, if_neg hh]
              rw [hd, show 16 + (c - 16) = c by omega]
              rfl
        · cases h
/-- A trace as far as it is read. -/
structure Sof (t : Tr) : Prop where
  c : t.counts.length = t.ticks.length
  o : okC t.events.length 0 t.counts = true
  tt : ∀ x ∈ t.ticks, okT x = true
  e : ∀ x ∈ t.events, okE x = true
  n : ∀ x ∈ t.events, -9223372036854775808 ≤ x.n ∧ x.n ≤ 9223372036854775807
theorem rds_back (b : List Int) (hb : Byt b) : ∀ (f k : Nat) (t t' : Tr) (s j : Nat), Sof t → b = head 2 ++ (recs t.events t.ticks t.counts 0 ++ b.drop k) → rds b f k t = .good t' s j → Sof t' ∧ b = bodyT t' ++ b.drop j
  | 0, k, t, t', s, j, hs, hp, h => by cases h
  | f + 1, k, t, t', s, j, hs, hp, h => by
    rw [rds] at h
    cases hst : step b k t with
    | bad i e => rw [hst] at h; cases h
    | fin i =>
      rw [hst] at h
      obtain ⟨hi, h0⟩ := step_fin b k t i hst
      cases h
      subst hi
      refine ⟨hs, ?_⟩
      have := drop_cons h0
      rw [this] at hp
      simpa [bodyT, List.append_assoc] using hp
    | more u i =>
      rw [hst] at h
      dsimp only at h
      rcases step_back b hb k t u i hst with ⟨e, h1, h2, rfl, h3⟩ | ⟨x, h1, rfl, h3⟩
      · refine rds_back b hb f i ⟨t.ticks, t.counts, t.events ++ [e]⟩ t' s j ⟨hs.c, ?_, hs.tt, ?_, ?_⟩ ?_ h
        · have := okC_up _ _ _ hs.o
          simpa using this
        · intro y hy; rcases List.mem_append.1 hy with hy | hy
          · exact hs.e y hy
          · simp at hy; subst hy; exact h1
        · intro y hy; rcases List.mem_append.1 hy with hy | hy
          · exact hs.n y hy
          · simp at hy; subst hy; exact h2
        · rw [h3] at hp
          dsimp only
          rw [recs_ev _ e _ _ 0 hs.c (Nat.zero_le _) hs.o]
          simpa [List.append_assoc] using hp
      · refine rds_back b hb f i ⟨t.ticks ++ [x], t.counts ++ [(t.events.length : Int)], t.events⟩ t' s j ⟨by simp [hs.c], ?_, ?_, hs.e, hs.n⟩ ?_ h
        · exact okC_add _ _ _ (by omega) hs.o
        · intro y hy; rcases List.mem_append.1 hy with hy | hy
          · exact hs.tt y hy
          · simp at hy; subst hy; exact h1
        · rw [h3] at hp
          dsimp only
          rw [recs_tk _ x _ _ 0 hs.c (Nat.zero_le _) hs.o]
          simpa [List.append_assoc] using hp
theorem rt_back (b : List Int) (hb : Byt b) (t : Tr) (s u : Nat) (h : rtB b = .good t s u) : wt t = b ∧ Sof t ∧ rightT t = true := by
  unfold rtB at h
  cases hh : hd 0 (head 2) b with
  | some p => rw [hh] at h; simp at h
  | none =>
    rw [hh] at h
    dsimp only at h
    have t5 : b.take 5 = head 2 := hd_take _ _ _ hh
    cases hr : rds b b.length 5 tr0 with
    | bad a1 a2 a3 a4 => rw [hr] at h; simp at h
    | good t' s' k =>
      rw [hr] at h
      dsimp only at h
      cases he : ends b k with
      | some q => rw [he] at h; simp at h
      | none =>
        rw [he] at h
        simp at h
        obtain ⟨rfl, _, _⟩ := h
        obtain ⟨h1, h2⟩ := rds_back b hb _ 5 tr0 t' s' k ⟨rfl, rfl, fun x hx => (by cases hx), fun x hx => (by cases hx), fun x hx => (by cases hx)⟩ (by rw [show recs tr0.events tr0.ticks tr0.counts 0 = [] from rfl, List.nil_append, ← t5, List.take_append_drop]) hr
        obtain ⟨s1, s2⟩ := ends_ok b k he
        have q3 : (bodyT t').length = k := by
          have := congrArg List.length h2
          rw [List.length_append, List.length_drop] at this
          omega
        have tj : b.take k = bodyT t' := by
          have := congrArg (List.take k) h2
          rw [← q3, List.take_left] at this
          rw [← q3]
          exact this
        refine ⟨?_, h1, ?_⟩
        · rw [wt, ← tj, ← s2, List.take_append_drop]
        · simp only [rightT, Bool.and_eq_true, decide_eq_true_eq, List.all_eq_true]
          exact ⟨h1.c, h1.o, h1.tt, h1.e⟩
end Go.Proofs.Ytneefpblfiedbaa.Tp

namespace Go.Proofs.Ytneefpblfiedbaa
open Go.RowKit
set_option linter.unusedVariables false
set_option linter.unusedSimpArgs false
set_option maxHeartbeats 2000000 in
theorem sameEv_yes (w : World) (a b : Option Addr) (ca cb : Nat) (l : List Tp.Ev) (ha : EvS w.heap.size w a l) (hb : EvS w.heap.size w b l) (hl : l.length ≤ 1000000000) : Calls Try.prog 32 #[.slice a l.length ca, .slice b l.length cb] w fun e w' => e = .returned (.bool true) ∧ Below w.heap.size w w' := by
  have HA := hidT ha
  have HB := hidT hb
  obtain ⟨n, hn⟩ : ∃ n, n = l.length := ⟨_, rfl⟩
  have HN := hidT hn
  rw [← hn] at hl ⊢
  clear ha hb hn
  go_enter Try.func32, Try.ntmps32
  go_wp2_with fail
  go_loopg [5] n (fun gk i wr => ∃ k : Nat, k + gk = n ∧ i = .int .i64 k ∧ Hid (Below w.heap.size w wr))
  case atStart => exact ⟨0, by omega, rfl, Below.refl _ _⟩
  case round =>
    obtain ⟨k, hk, rfl, BR⟩ := hrel
    rcases gk with _ | gk
    · obtain rfl : k = n := by omega
      have dk : decide ((k : Int) < (k : Int)) = false := decide_eq_false (by omega)
      go_wp2_with fail
      go_ret
      exact ⟨rfl, BR.out⟩
    · have hlt : k < n := by omega
      have dk : decide ((k : Int) < (n : Int)) = true := decide_eq_true (by omega)
      have dkn : decide (k < n) = true := decide_eq_true hlt
      obtain ⟨x, hx⟩ : ∃ x, l[k]? = some x := ⟨_, List.getElem?_eq_getElem (by rw [← HN.out]; exact hlt)⟩
      obtain ⟨ga, oa, rfl, hga, ca'⟩ := (HA.out.later BR.out (Nat.le_refl _)) (by rw [← HN.out]; omega)
      obtain ⟨gb, ob, rfl, hgb, cb'⟩ := (HB.out.later BR.out (Nat.le_refl _)) (by rw [← HN.out]; omega)
      obtain ⟨a0, a1⟩ := ca' k x hx
      obtain ⟨b0, b1⟩ := cb' k x hx
      have q1 : (x.kind == x.kind) = true := beq_self_eq_true _
      have q2 : (x.n == x.n) = true := beq_self_eq_true _
      generalize x.kind = x1 at a0 b0 q1
      generalize x.n = x2 at a1 b1 q2
      clear ca' cb' hx
      go_upto_region 6 with fail
      go_quiet (fail)
      have BQ := hidT (drN BR.out nq)
      generalize wr.drewN nq = W5 at BQ ⊢
      clear a0 b0 a1 b1
      go_wp2_with fail
      go_roundg gk
      case measure => omega
      case rel => exact ⟨k + 1, by omega, by go_num, BQ⟩
set_option maxHeartbeats 4000000 in
theorem sameTr_yes (w : World) (ta ca ea tb cb eb : Option Addr) (tc cc ec td cd ed : Nat) (t : Tp.Tr) (ha : TrS w.heap.size w ta ca ea tc cc ec t) (hb : TrS w.heap.size w tb cb eb td cd ed t) (hc : t.counts.length = t.ticks.length) (hl : t.ticks.length ≤ 1000000) (hl2 : t.events.length ≤ 1000000) : Calls Try.prog 13 #[trV ta ca ea tc cc ec t, trV tb cb eb td cd ed t] w fun e w' => e = .returned (.bool true) ∧ Below w.heap.size w w' := by
  have SE := hidT (fun (W : World) (q : Below w.heap.size w W) => sameEv_yes W ea eb ec ed t.events ((ha.later q (Nat.le_refl _)).mono q.size).ev ((hb.later q (Nat.le_refl _)).mono q.size).ev (by omega))
  have HA := hidT ha
  have HB := hidT hb
  unfold trV
  rw [hc]
  obtain ⟨n, hn⟩ : ∃ n, n = t.ticks.length := ⟨_, rfl⟩
  obtain ⟨n3, hn3⟩ : ∃ n, n = t.events.length := ⟨_, rfl⟩
  have HN : Hid (n = t.ticks.length ∧ n = t.counts.length) := ⟨hn, hn.trans hc.symm⟩
  rw [← hn3] at SE
  rw [← hn, ← hn3]
  rw [← hn] at hl
  obtain ⟨W1, hW1⟩ : ∃ W, W = (w.alloc (.cells #[.slice ta n tc, .slice ca n cc, .slice ea n3 ec] 26)).alloc (.cells #[.slice tb n td, .slice cb n cd, .slice eb n3 ed] 26) := ⟨_, rfl⟩
  obtain ⟨M, hM⟩ : ∃ M, M = w.heap.size := ⟨_, rfl⟩
  have K1 : Hid (Below w.heap.size w W1 ∧ W1.heap.size = M + 2) := ⟨by rw [hW1]; exact ((Below.refl _ _).alloc (Nat.le_refl _) _).alloc (by simp) _, by rw [hW1, hM]; simp⟩
  have HC : Hid (∀ W, Below W1.heap.size W1 W → W.cell? ⟨M, 0, none⟩ = some (.slice ta n tc) ∧ W.cell? ⟨M, 1, none⟩ = some (.slice ca n cc) ∧ W.cell? ⟨M, 2, none⟩ = some (.slice ea n3 ec) ∧ W.cell? ⟨M + 1, 0, none⟩ = some (.slice tb n td) ∧ W.cell? ⟨M + 1, 1, none⟩ = some (.slice cb n cd) ∧ W.cell? ⟨M + 1, 2, none⟩ = some (.slice eb n3 ed)) := fun W q => by
    have h0 : W.heap[M]? = some (.cells #[.slice ta n tc, .slice ca n cc, .slice ea n3 ec] 26 (0, 0)) := by
      rw [q.block M (by rw [K1.out.2]; omega), hW1]
      have hb := ((Below.refl (w.alloc (.cells #[.slice ta n tc, .slice ca n cc, .slice ea n3 ec] 26)).heap.size (w.alloc (.cells #[.slice ta n tc, .slice ca n cc, .slice ea n3 ec] 26))).alloc (Nat.le_refl _) (.cells #[.slice tb n td, .slice cb n cd, .slice eb n3 ed] 26)).block w.heap.size (by simp)
      rw [hM]
      exact hb.trans (heap_alloc_new w _)
    have h1 : W.heap[M + 1]? = some (.cells #[.slice tb n td, .slice cb n cd, .slice eb n3 ed] 26 (0, 0)) := by
      rw [q.block (M + 1) (by rw [K1.out.2]; omega), hW1]
      have h := heap_alloc_new (w.alloc (.cells #[.slice ta n tc, .slice ca n cc, .slice ea n3 ec] 26)) (.cells #[.slice tb n td, .slice cb n cd, .slice eb n3 ed] 26)
      rw [show (w.alloc (.cells #[.slice ta n tc, .slice ca n cc, .slice ea n3 ec] 26)).heap.size = M + 1 by rw [hM]; simp] at h
      exact h
    refine ⟨?_, ?_, ?_, ?_, ?_, ?_⟩ <;> simp [World.cell?, h0, h1]
  obtain ⟨M1, hM1⟩ : ∃ M1, M1 = M + 1 := ⟨_, rfl⟩
  rw [← hM1] at HC
  have HM : Hid (M = w.heap.size ∧ M1 = M + 1 ∧ M1 = w.heap.size + 1) := ⟨hM, hM1, by rw [hM1, hM]⟩
  have HW1 := hidT hW1
  have HLn := hidT hl
  clear ha hb hc hl hl2 hn hn3 hW1 hM hM1
  go_enter Try.func13, Try.ntmps13
  go_upto_region 1 with fail
  rw [← HM.out.2.2, ← HM.out.1, ← HW1.out]
  obtain ⟨a0, a1, a2, b0, b1, b2⟩ := HC.out W1 (Below.refl _ _)
  go_wp2_with fail
  refine (SE.out W1 K1.out.1).mono ?_
  rintro e w2 ⟨rfl, k2⟩
  have K2 := hidT k2
  clear k2 a0 a1 a2 b0 b1 b2
  obtain ⟨a0, a1, a2, b0, b1, b2⟩ := HC.out w2 K2.out
  go_upto_region 3 with fail
  clear a0 a1 a2 b0 b1 b2
  go_wp2_with fail
  go_loopg [5] n (fun gk i wr => ∃ k : Nat, k + gk = n ∧ i = .int .i64 k ∧ Hid (Below W1.heap.size W1 wr))
  case atStart => exact ⟨0, Nat.zero_add _, rfl, K2.out⟩
  case round =>
    obtain ⟨k, hk, rfl, BR⟩ := hrel
    obtain ⟨a0, a1, a2, b0, b1, b2⟩ := HC.out wr BR.out
    rcases gk with _ | gk
    · obtain rfl : k = n := by omega
      have dk : decide ((k : Int) < (k : Int)) = false := decide_eq_false (by omega)
      have FIN : Hid (Below w.heap.size w wr) := K1.out.1.trans (BR.out.mono K1.out.1.size)
      go_wp2_with fail
      go_ret
      exact ⟨rfl, FIN.out⟩
    · have hlt : k < n := by omega
      have dk : decide ((k : Int) < (n : Int)) = true := decide_eq_true (by omega)
      have dkn : decide (k < n) = true := decide_eq_true hlt
      have k0 : (0 : Int) ≤ (k : Int) := Int.natCast_nonneg _
      have WK : Hid (wrap64 ((k : Int) + 1) = ((k + 1 : Nat) : Int)) := by have := HLn.out; unfold Hid wrap64; omega
      have kb : (k : Int) < (n : Int) := Int.ofNat_lt.2 hlt
      obtain ⟨x, hx⟩ : ∃ x, t.ticks[k]? = some x := ⟨_, List.getElem?_eq_getElem (by rw [← HN.out.1]; exact hlt)⟩
      obtain ⟨y, hy⟩ : ∃ y, t.counts[k]? = some y := ⟨_, List.getElem?_eq_getElem (by rw [← HN.out.2]; exact hlt)⟩
      have BW : Below w.heap.size w wr := K1.out.1.trans (BR.out.mono K1.out.1.size)
      have hA := HA.out.later BW (Nat.le_refl _)
      have hB := HB.out.later BW (Nat.le_refl _)
      obtain ⟨ga, oa, rfl, -, c1⟩ := hA.tk (by rw [← HN.out.1]; omega)
      obtain ⟨gb, ob, rfl, -, c2⟩ := hB.tk (by rw [← HN.out.1]; omega)
      obtain ⟨gc, oc, rfl, -, c3⟩ := hA.ct (by rw [← HN.out.2]; omega)
      obtain ⟨gd, od, rfl, -, c4⟩ := hB.ct (by rw [← HN.out.2]; omega)
      obtain ⟨x0, x1, x2, x3⟩ := c1 k x hx
      obtain ⟨y0, y1, y2, y3⟩ := c2 k x hx
      have z0 := c3 k y hy
      have z1 := c4 k y hy
      have q1 : (x.kind == x.kind) = true := beq_self_eq_true _
      have q2 : (x.proc == x.proc) = true := beq_self_eq_true _
      have q3 : (x.mark == x.mark) = true := beq_self_eq_true _
      have q4 : (x.depth == x.depth) = true := beq_self_eq_true _
      have q5 : (y != y) = false := by simp
      generalize x.kind = p1 at x0 y0 q1
      generalize x.proc = p2 at x1 y1 q2
      generalize x.mark = p3 at x2 y2 q3
      generalize x.depth = p4 at x3 y3 q4
      clear c1 c2 c3 c4 hx hy hA hB BW
      go_upto_region 6 with fail
      go_quiet (fail)
      have BQ := hidT (drN BR.out nq)
      generalize wr.drewN nq = W5 at BQ ⊢
      clear x0 x1 x2 x3 y0 y1 y2 y3 z0 z1 a0 a1 a2 b0 b1 b2
      go_wp2_with fail
      go_roundg gk
      case measure => omega
      case rel => exact ⟨k + 1, by omega, congrArg _ WK.out, BQ⟩
end Go.Proofs.Ytneefpblfiedbaa

namespace Go.Proofs.Ytneefpblfiedbaa
open Go.RowKit
set_option linter.unusedVariables false
set_option linter.unusedSimpArgs false
theorem tkC_get : ∀ {l : List Tp.Tk} {j : Nat} {t : Tp.Tk}, l[j]? = some t → (tkC l)[j * 4]? = some (.int .i64 t.kind) ∧ (tkC l)[j * 4 + 1]? = some (.int .i64 t.proc) ∧ (tkC l)[j * 4 + 2]? = some (.int .i64 t.mark) ∧ (tkC l)[j * 4 + 3]? = some (.int .i64 t.depth)
  | [], j, t, h => by simp at h
  | x :: l, 0, t, h => by simp at h; subst h; exact ⟨rfl, rfl, rfl, rfl⟩
  | x :: l, j + 1, t, h => by
    have ih := tkC_get (l := l) (j := j) (t := t) (by simpa using h)
    have e : tkC (x :: l) = .int .i64 x.kind :: .int .i64 x.proc :: .int .i64 x.mark :: .int .i64 x.depth :: tkC l := rfl
    rw [e, show (j + 1) * 4 = j * 4 + 1 + 1 + 1 + 1 from by omega]
    exact ⟨by simpa using ih.1, by simpa using ih.2.1, by simpa using ih.2.2.1, by simpa using ih.2.2.2⟩
theorem evC_get : ∀ {l : List Tp.Ev} {j : Nat} {t : Tp.Ev}, l[j]? = some t → (evC l)[j * 2]? = some (.int .i64 t.kind) ∧ (evC l)[j * 2 + 1]? = some (.int .i64 t.n)
  | [], j, t, h => by simp at h
  | x :: l, 0, t, h => by simp at h; subst h; exact ⟨rfl, rfl⟩
  | x :: l, j + 1, t, h => by
    have ih := evC_get (l := l) (j := j) (t := t) (by simpa using h)
    have e : evC (x :: l) = .int .i64 x.kind :: .int .i64 x.n :: evC l := rfl
    rw [e, show (j + 1) * 2 = j * 2 + 1 + 1 from by omega]
    exact ⟨by simpa using ih.1, by simpa using ih.2⟩
theorem addT0 (g j : Nat) : (⟨g, 0, none⟩ : Addr).add j = ⟨g, j, none⟩ := by
  cases j <;> simp [Addr.add]
theorem own_tks {w : World} {base : Nat} {ty : TypeId} {a : Option Addr} {n c : Nat} {l : List Tp.Tk} (h : w.ownsRow base ty 4 (.slice a n c) l.length (tkC l)) : TkS w.heap.size w a l := fun h0 => by
  have hl := World.ownsRow.lt h
  have hc := @World.ownsRow.cells _ _ _ _ _ _ _ h
  rcases h.2 with ⟨e, hn⟩ | ⟨g, cap, cur, e, hb, hg, _⟩
  · omega
  · injection e with e1 e2 e3
    subst e1
    refine ⟨g, 0, rfl, (hl g rfl).2, fun j t ht => ?_⟩
    obtain ⟨c0, c1, c2, c3⟩ := tkC_get ht
    have k := fun (i : Nat) (u : Value) (hu : (tkC l)[i]? = some u) => by have := hc (g := g) rfl i u hu; rw [addT0] at this; exact this
    exact ⟨by rw [Nat.zero_add]; exact k _ _ c0, by rw [Nat.zero_add]; exact k _ _ c1, by rw [Nat.zero_add]; exact k _ _ c2, by rw [Nat.zero_add]; exact k _ _ c3⟩
theorem own_evs {w : World} {base : Nat} {ty : TypeId} {a : Option Addr} {n c : Nat} {l : List Tp.Ev} (h : w.ownsRow base ty 2 (.slice a n c) l.length (evC l)) : EvS w.heap.size w a l ∧ l.length ≤ c := by
  have hl := World.ownsRow.lt h
  have hc := @World.ownsRow.cells _ _ _ _ _ _ _ h
  rcases h.2 with ⟨e, hn⟩ | ⟨g, cap, cur, e, hb, hg, hcap, _⟩
  · injection e with e1 e2 e3
    exact ⟨fun h0 => by omega, by omega⟩
  · injection e with e1 e2 e3
    subst e1
    refine ⟨fun h0 => ⟨g, 0, rfl, (hl g rfl).2, fun j t ht => ?_⟩, by omega⟩
    obtain ⟨c0, c1⟩ := evC_get ht
    have k := fun (i : Nat) (u : Value) (hu : (evC l)[i]? = some u) => by have := hc (g := g) rfl i u hu; rw [addT0] at this; exact this
    exact ⟨by rw [Nat.zero_add]; exact k _ _ c0, by rw [Nat.zero_add]; exact k _ _ c1⟩
end Go.Proofs.Ytneefpblfiedbaa
