/- Layer 13: attempt; ReadInput. -/
import Derived.Test.YtgonadilbjfpkaaTpU
namespace Go.Proofs.Ytgonadilbjfpkaa
open Go.RowKit
set_option linter.unusedVariables false
set_option linter.unusedSimpArgs false
set_option maxRecDepth 100000 in
set_option maxHeartbeats 1000000 in
theorem at_idle (v0 : Value) (w : World) :
    CallsD Try.prog 57 #[v0] .returning w fun e u' w' => e = .returned (.tuple #[]) ∧ u' = .returning ∧ w' = w := by
  refine callsD_of_wpS Try.func57 rfl fun c₀ cs hu => ?_
  apply wpS_seq
  apply wpS_region
  simp [wpOpsS, go_sem, recoverD, hu, Try.ntmps57, Exit.thenS]
  refine wpS_of_wp ?_
  change Code.wp _ _ _ { tmps := #[v0, .nilIface, .nilIface, undef, undef, undef, undef], defers := [] } _
  go_wp2_with fail
  cases c₀
  simp_all [bodyPostS, results, Try.results57]
theorem at_ta (er : Int) (w : World) : (Instr.typeAssert (.iface 24 (.int .i64 er)) 20 24 false).run Try.prog w = .ok (.int .i64 er) w := by kernel_rfl
set_option maxRecDepth 100000 in
set_option maxHeartbeats 1000000 in
theorem at_thrown (n : Nat) (er : Int) (x : Value) (w : World) (hn : w.cell? ⟨n, 0, none⟩ = some x) (fn : w.frozen? ⟨n, 0, none⟩ = false) :
    CallsD Try.prog 57 #[.pointer (some ⟨n, 0, none⟩)] (.panicking [{ v := .iface 24 (.int .i64 er), recovered := false }]) w fun e u' w' =>
      e = .returned (.tuple #[]) ∧ u' = .panicking [{ v := .iface 24 (.int .i64 er), recovered := true }] ∧ w' = w.setCell ⟨n, 0, none⟩ (.int .i64 er) := by
  refine callsD_of_wpS Try.func57 rfl fun c₀ cs hu => ?_
  apply wpS_seq
  apply wpS_region
  simp [wpOpsS, go_sem, recoverD, hu, Try.ntmps57, Exit.thenS]
  have kt := at_ta
  refine wpS_of_wp ?_
  change Code.wp _ _ _ { tmps := #[.pointer (some ⟨n, 0, none⟩), .iface 24 (.int .i64 er), .iface 24 (.int .i64 er), undef, undef, undef, undef], defers := [] } _
  go_wp2_with fail
  exact ⟨rfl, _, rfl, .tuple #[], by simp [results, Try.results57, go_sem], rfl, rfl, rfl⟩
def atBox (w : World) : World := w.alloc (.cells #[.int .i64 0] 24)
theorem atBox_c (w : World) : (atBox w).cell? ⟨w.heap.size, 0, none⟩ = some (.int .i64 0) := by simp [atBox]
theorem atBox_f (w : World) : (atBox w).frozen? ⟨w.heap.size, 0, none⟩ = false := by simp [atBox]
set_option maxRecDepth 100000 in
set_option maxHeartbeats 1000000 in
theorem attempt_ok (F : FuncId) (v : Value) (w : World) (C : World → Prop) (hF : ∀ w, (callFunc F #[v]).run Try.prog w = .ok (.enter F #[v]) w) (hC : ∀ w', C w' → w'.heap[w.heap.size]? = (atBox w).heap[w.heap.size]?)
    (hc : Calls Try.prog F #[v] (atBox w) fun e w' => e = .returned (.tuple #[]) ∧ C w') :
    Calls Try.prog 41 #[.func (.func F) #[v] #[]] w fun e w' => e = .returned (.int .i64 0) ∧ ∃ w1, C w1 ∧ w' = w1.setCell ⟨w.heap.size, 0, none⟩ (.int .i64 0) := by
  have hmf : ∀ (fn : Fn) (first cap : Array Value) (w : World), (Instr.makeFunc fn first cap).run Try.prog w = .ok (.func fn first cap) w := fun _ _ _ _ => rfl
  go_enter_defers Try.func41, Try.ntmps41
  have HC := hidT hc
  have HK := hidT hC
  clear hc hC
  go_wp2_with fail
  refine Calls.mono HC.out ?_
  rintro e w1 ⟨rfl, c1⟩
  have a0 : w1.cell? ⟨w.heap.size, 0, none⟩ = some (.int .i64 0) := (World.cell?_of_block (HK.out w1 c1)).trans (atBox_c w)
  have f0 : w1.frozen? ⟨w.heap.size, 0, none⟩ = false := (World.frozen?_of_block (HK.out w1 c1)).trans (atBox_f w)
  have C1 := hidT c1
  clear c1
  go_wp2_with fail
  refine leaves_cons (f := 57) (args := #[.pointer (some ⟨w.heap.size, 0, none⟩)]) (by simp) (by simp [go_sem]) ?_
  refine CallsD.mono (at_idle _ _) ?_
  rintro e u' w'' ⟨rfl, rfl, rfl⟩
  simp [Leaves, settle, results, Try.results41, go_sem, a0]
  exact ⟨w1, C1.out, rfl⟩
set_option maxRecDepth 100000 in
set_option maxHeartbeats 1000000 in
theorem attempt_bad (er : Int) (F : FuncId) (v : Value) (w : World) (C : World → Prop) (hF : ∀ w, (callFunc F #[v]).run Try.prog w = .ok (.enter F #[v]) w) (hC : ∀ w', C w' → w'.heap[w.heap.size]? = (atBox w).heap[w.heap.size]?)
    (hc : Calls Try.prog F #[v] (atBox w) fun e w' => e = tpPan er ∧ C w') :
    Calls Try.prog 41 #[.func (.func F) #[v] #[]] w fun e w' => e = .returned (.int .i64 er) ∧ ∃ w1, C w1 ∧ w' = w1.setCell ⟨w.heap.size, 0, none⟩ (.int .i64 er) := by
  have hmf : ∀ (fn : Fn) (first cap : Array Value) (w : World), (Instr.makeFunc fn first cap).run Try.prog w = .ok (.func fn first cap) w := fun _ _ _ _ => rfl
  go_enter_defers Try.func41, Try.ntmps41
  have HC := hidT hc
  have HK := hidT hC
  clear hc hC
  go_wp2_with fail
  refine Calls.mono HC.out ?_
  rintro e w1 ⟨rfl, c1⟩
  have a0 : w1.cell? ⟨w.heap.size, 0, none⟩ = some (.int .i64 0) := (World.cell?_of_block (HK.out w1 c1)).trans (atBox_c w)
  have f0 : w1.frozen? ⟨w.heap.size, 0, none⟩ = false := (World.frozen?_of_block (HK.out w1 c1)).trans (atBox_f w)
  have C1 := hidT c1
  clear c1
  unfold tpPan
  go_wp2_with fail
  refine leaves_cons (f := 57) (args := #[.pointer (some ⟨w.heap.size, 0, none⟩)]) (by simp) (by simp [go_sem]) ?_
  refine CallsD.mono (at_thrown w.heap.size er _ w1 a0 f0) ?_
  rintro e u' w'' ⟨rfl, rfl, rfl⟩
  simp [Leaves, settle, results, Try.results41, go_sem, a0]
  exact ⟨w1, C1.out, rfl⟩
/-- The reader of an input, whole. -/
theorem inTape_any (w : World) (g : Nat) (a : Option Addr) (c : Nat) (b : List Int) (h : InR w g a c b 0 (.slice none 0 0) [] w) :
    Calls Try.prog 42 #[.pointer (some ⟨g, 0, none⟩)] w fun e w' => irQ w g a c b e w' (Tp.riB b) := by
  unfold Tp.riB
  cases hh : Tp.hd 0 (Tp.head 1) b with
  | some p =>
    obtain ⟨i, x⟩ := p
    exact inTape_head w g a c b w h i x hh
  | none =>
    unfold Tp.rdAt
    cases hc : Tp.rdF 0 0 (b.drop 5) with
    | inr x => exact inTape_count w g a c b w h x hh (.inl hc)
    | inl p =>
      obtain ⟨n, u⟩ := p
      dsimp only
      by_cases hn : 1000 < n
      · rw [if_pos hn]
        exact inTape_count w g a c b w h 2 hh (.inr ⟨rfl, n, u, hc, hn⟩)
      · rw [if_neg hn]
        exact inTape_nums w g a c b w h hh n u hc (by omega)
/-- What ReadInput leaves. -/
def rdQ (w : World) (e : Ending) (w' : World) : Tp.Res (List Int) → Prop
  | .good l _ => ∃ v, e = .returned (.tuple #[v, .int .i64 0, .int .i64 0]) ∧ OwN w' w.heap.size v l ∧ Below w.heap.size w w'
  | .bad i x => e = .returned (.tuple #[.slice none 0 0, .int .i64 (i : Int), .int .i64 x]) ∧ Below w.heap.size w w'
theorem readIn_long (n : Nat) (a : Option Addr) (c : Nat) (w : World) (h : 4194304 < n) (hl : n ≤ 4611686018427387904) :
    Calls Try.prog 19 #[.slice a n c] w fun e w' => e = .returned (.tuple #[.slice none 0 0, .int .i64 0, .int .i64 2]) ∧ w' = w := by
  have d : decide ((4194304 : Int) < (n : Int)) = true := decide_eq_true (by omega)
  go_enter Try.func19, Try.ntmps19
  go_wp2_with fail
  go_ret3
  exact ⟨rfl, rfl⟩
theorem Tp.ends_err (b : List Int) (k i : Nat) (x : Int) (h : Tp.ends b k = some (i, x)) : x ≠ 0 := by
  unfold Tp.ends at h
  split at h
  · simp at h; omega
  · split at h
    · simp at h; omega
    · split at h
      · simp at h; omega
      · cases h
theorem Tp.riB_err (b : List Int) (i : Nat) (x : Int) (h : Tp.riB b = .bad i x) : x ≠ 0 := by
  have hd0 : ∀ (ws cs : List Int) (m i : Nat) (x : Int), Tp.hd m ws cs = some (i, x) → x ≠ 0 := by
    intro ws
    induction ws with
    | nil => intro cs m i x h; simp [Tp.hd] at h
    | cons u ws ih =>
      intro cs m i x h
      cases cs with
      | nil => simp [Tp.hd] at h; omega
      | cons v cs =>
        rw [Tp.hd] at h
        split at h
        · exact ih _ _ _ _ h
        · simp at h; omega
  have hn : ∀ (n k : Nat) (acc : List Int) (i : Nat) (x : Int), Tp.nums b n k acc = .bad i x → x ≠ 0 := by
    intro n
    induction n with
    | zero => intro k acc i x h; simp [Tp.nums] at h
    | succ n ih =>
      intro k acc i x h
      simp only [Tp.nums, Tp.rdAt] at h
      cases hr : Tp.rdF 0 0 (b.drop k) with
      | inl p => rw [hr] at h; exact ih _ _ _ _ h
      | inr e => rw [hr] at h; simp at h; have := Tp.rdF_err _ _ _ _ hr; omega
  unfold Tp.riB at h
  cases hh : Tp.hd 0 (Tp.head 1) b with
  | some p => rw [hh] at h; simp at h; have := hd0 _ _ _ p.1 p.2 hh; omega
  | none =>
    rw [hh] at h
    unfold Tp.rdAt at h
    cases hc : Tp.rdF 0 0 (b.drop 5) with
    | inr e => rw [hc] at h; simp at h; have := Tp.rdF_err _ _ _ _ hc; omega
    | inl p =>
      rw [hc] at h
      dsimp only at h
      split at h
      · simp at h; omega
      · cases hm : Tp.nums b p.1 (5 + p.2) [] with
        | bad j e => rw [hm] at h; simp at h; have := hn _ _ _ _ _ hm; omega
        | good l j =>
          rw [hm] at h
          dsimp only at h
          cases he : Tp.ends b j with
          | none => rw [he] at h; cases h
          | some q => rw [he] at h; simp at h; have := Tp.ends_err b j q.1 q.2 he; omega
set_option maxRecDepth 100000 in
set_option maxHeartbeats 2000000 in
theorem readIn_any (b : List Int) (a : Option Addr) (c : Nat) (w : World) (hy : Tp.Byt b) {B : Nat} (hm : ByS B w a b) (hB : B ≤ w.heap.size) (hc : b.length ≤ c) (hl : b.length ≤ 4194304) :
    Calls Try.prog 19 #[.slice a b.length c] w fun e w' => rdQ w e w' (Tp.riB b) := by
  obtain ⟨W0, hW0⟩ : ∃ W, W = w.alloc (.cells #[.slice a b.length c, .int .i64 0, .slice none 0 0] 67) := ⟨_, rfl⟩
  have B0 : Below w.heap.size w W0 := by rw [hW0]; exact (Below.refl _ _).alloc (Nat.le_refl _) _
  have z0 : W0.heap.size = w.heap.size + 1 := by rw [hW0]; simp
  have B1 : Below W0.heap.size W0 (atBox W0) := (Below.refl _ _).alloc (Nat.le_refl _) _
  have hb : (atBox W0).heap[w.heap.size]? = some (.cells (.slice a b.length c :: .int .i64 ((0 : Nat) : Int) :: [.slice none 0 0]).toArray 67 (0, 0)) := by
    rw [B1.block _ (by omega), hW0]
    exact heap_alloc_new w _
  have hI : InR (atBox W0) w.heap.size a c b 0 (.slice none 0 0) [] (atBox W0) :=
    ⟨⟨hb, (hm.mono hB).later (B0.trans (B1.mono (by omega))) (Nat.le_refl _), hy, hc, Nat.zero_le _, by omega⟩, World.ownsRow_nil _ _ _ _, gbR _ _, by simp [atBox]; omega⟩
  have HT := hidT (inTape_any (atBox W0) w.heap.size a c b hI)
  have hne : ¬ w.heap.size = W0.heap.size := by omega
  have kfin : ∀ (w1 : World) (k : Nat) (v : Value) (l : List Int) (x : Value), InR (atBox W0) w.heap.size a c b k v l w1 → Below w.heap.size w (w1.setCell ⟨W0.heap.size, 0, none⟩ x) ∧ (w1.setCell ⟨W0.heap.size, 0, none⟩ x).cell? ⟨w.heap.size, 1, none⟩ = some (.int .i64 k) ∧ (w1.setCell ⟨W0.heap.size, 0, none⟩ x).cell? ⟨w.heap.size, 2, none⟩ = some v ∧ OwN (w1.setCell ⟨W0.heap.size, 0, none⟩ x) w.heap.size v l := by
    intro w1 k v l x h1
    have e1 : (w1.setCell ⟨W0.heap.size, 0, none⟩ x).heap[w.heap.size]? = w1.heap[w.heap.size]? := heap_setCell_other _ _ _ _ (by simp; omega)
    have sz : (atBox W0).heap.size = W0.heap.size + 1 := by simp [atBox]
    refine ⟨?_, (World.cell?_of_block e1).trans h1.p.c1, (World.cell?_of_block e1).trans h1.c2, ?_⟩
    · refine (B0.trans (B1.mono (by omega))).trans ((gbB h1.bl (by omega)).trans ⟨rfl, rfl, rfl, by simp, fun i hi => heap_setCell_other _ _ i _ (by simp; omega)⟩)
    · have h2 := ownsRow_setCell_below h1.o (a := ⟨W0.heap.size, 0, none⟩) (by simp; omega) x
      exact h2.mono (by omega)
  have KF := hidT kfin
  have hblk : ∀ w1 k v l, InR (atBox W0) w.heap.size a c b k v l w1 → w1.heap[W0.heap.size]? = (atBox W0).heap[W0.heap.size]? := fun w1 k v l h1 => h1.bl.block _ (by simp [atBox]) (by simp; omega)
  have HBK := hidT hblk
  obtain ⟨n, hn⟩ : ∃ n, n = b.length := ⟨_, rfl⟩
  have d : decide ((4194304 : Int) < (n : Int)) = false := decide_eq_false (by omega)
  have hmf : ∀ (fn : Fn) (first cap : Array Value) (w : World), (Instr.makeFunc fn first cap).run Try.prog w = .ok (.func fn first cap) w := fun _ _ _ _ => rfl
  rw [← hn] at hW0 hl hc ⊢
  clear hI hb B1 B0 hblk kfin z0 hm hy hn
  cases hr : Tp.riB b with
  | bad i x =>
    have hx := Tp.riB_err b i x hr
    rw [hr] at HT
    have HA := hidT (attempt_bad x 42 (.pointer (some ⟨w.heap.size, 0, none⟩)) W0 (fun w' => ∃ v l, InR (atBox W0) w.heap.size a c b i v l w') (fun _ => rfl) (fun w' ⟨v, l, h⟩ => HBK.out _ _ _ _ h) HT.out)
    have qx : (x == 0) = false := by simpa using hx
    clear hr HT hx
    go_enter Try.func19, Try.ntmps19
    go_upto_region 4 with fail
    rw [← hW0]
    clear hW0
    go_wp2_with fail
    refine HA.out.mono ?_
    rintro e w' ⟨rfl, w1, ⟨v, l, h1⟩, rfl⟩
    obtain ⟨f1, f2, f3, f4⟩ := KF.out w1 i v l (.int .i64 x) h1
    obtain ⟨W5, hW5⟩ : ∃ W, W = w1.setCell ⟨W0.heap.size, 0, none⟩ (.int .i64 x) := ⟨_, rfl⟩
    rw [← hW5] at f1 f2 f3 f4 ⊢
    have HF1 := hidT f1
    clear hW5 h1 f1 f4
    go_wp2_with fail
    go_quiet (fail)
    have HF2 := hidT (drN HF1.out nq)
    generalize W5.drewN nq = W6 at HF2 ⊢
    go_wp2_with fail
    go_ret3
    exact ⟨rfl, HF2.out⟩
  | good l j =>
    rw [hr] at HT
    have HA := hidT (attempt_ok 42 (.pointer (some ⟨w.heap.size, 0, none⟩)) W0 (fun w' => ∃ k v, InR (atBox W0) w.heap.size a c b k v l w') (fun _ => rfl) (fun w' ⟨k, v, h⟩ => HBK.out _ _ _ _ h) HT.out)
    clear hr HT
    go_enter Try.func19, Try.ntmps19
    go_upto_region 4 with fail
    rw [← hW0]
    clear hW0
    go_wp2_with fail
    refine HA.out.mono ?_
    rintro e w' ⟨rfl, w1, ⟨k, v, h1⟩, rfl⟩
    obtain ⟨f1, f2, f3, f4⟩ := KF.out w1 k v l (.int .i64 0) h1
    obtain ⟨W5, hW5⟩ : ∃ W, W = w1.setCell ⟨W0.heap.size, 0, none⟩ (.int .i64 0) := ⟨_, rfl⟩
    rw [← hW5] at f1 f2 f3 f4 ⊢
    obtain ⟨va, vc, hv⟩ := ownShT f4
    subst hv
    have HF1 := hidT f1
    have HF4 := hidT f4
    clear hW5 h1 f1 f4
    go_wp2_with fail
    go_ret3
    exact ⟨_, rfl, HF4.out, HF1.out⟩
end Go.Proofs.Ytgonadilbjfpkaa
