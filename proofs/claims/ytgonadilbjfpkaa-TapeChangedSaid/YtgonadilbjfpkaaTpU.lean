/- Layer 13: the reader of an input, whole. -/
import Derived.Test.YtgonadilbjfpkaaTpT
namespace Go.Proofs.Ytgonadilbjfpkaa
open Go.RowKit
set_option linter.unusedVariables false
set_option linter.unusedSimpArgs false
section
variable {w wr wq : World} {g : Nat} {a : Option Addr} {c : Nat} {b : List Int} {k k' : Nat} {v : Value} {l : List Int}
theorem InR.later (h : InR w g a c b k v l wr) (q : Below wr.heap.size wr wq) : InR w g a c b k v l wq :=
  ⟨h.p.later (q.mono h.p.lt), ownLtT h.o q, gbT h.bl (gbOf q), h.lo⟩
theorem InR.grow {o : Obj} {w8 : World} (h : InR w g a c b k v l wr) (g8 : (wr.alloc o).grownBy w8 v.ownBlock) : w8.heap[g]? = wr.heap[g]? ∧ Below w.heap.size wr w8 := by
  have hl := h.bl.size
  have hne : ∀ i, i < w.heap.size → some i ≠ v.ownBlock := fun i hi e => by have := (World.ownsRow.lt h.o i e.symm).1; omega
  have hb : ∀ i, i < w.heap.size → w8.heap[i]? = wr.heap[i]? := fun i hi => (g8.block i (by simp; omega) (hne i hi)).trans (((Below.refl wr.heap.size wr).alloc (Nat.le_refl _) o).block i (by omega))
  refine ⟨hb g h.lo, g8.os, g8.tape, g8.output, ?_, fun i hi => hb i hi⟩
  have := g8.size
  simp at this
  omega
theorem InR.app {o : Obj} {w8 : World} {v8 : Value} {x : Int} (h : InR w g a c b k v l wr) (h8 : w8.ownsRow w.heap.size 2 1 v8 (l.length + 1) (nmC l ++ [.int .i64 x])) (g8 : (wr.alloc o).grownBy w8 v.ownBlock) : InR w g a c b k v8 (l ++ [x]) (w8.setCell ⟨g, 2, none⟩ v8) := by
  obtain ⟨e8, b8⟩ := h.grow g8
  have hp := h.p
  have hb8 : w8.heap[g]? = some (.cells (.slice a b.length c :: .int .i64 k :: [v]).toArray 67 (0, 0)) := e8.trans hp.hb
  have b9 : Below g w8 (w8.setCell ⟨g, 2, none⟩ v8) := ⟨rfl, rfl, rfl, by simp, fun i hi => heap_setCell_other _ _ i _ (by simp; omega)⟩
  have hlo := h.lo
  refine ⟨⟨?_, hp.bs.later ((b8.mono (Nat.le_of_lt hlo)).trans b9) (Nat.le_refl _), hp.yt, hp.cap, hp.le, hp.ln⟩, ?_, ?_, hlo⟩
  · rw [heap_setCell_same _ _ _ _ _ _ hb8]
    simp
  · exact ownsRow_setCell_below (OwN.of h8 rfl) hlo _
  · refine ⟨b8.os.trans h.bl.os, b8.tape.trans h.bl.tape, b8.output.trans h.bl.output, ?_, fun i hi hn => ?_⟩
    · have := b8.size
      have := h.bl.size
      simp
      omega
    · rw [heap_setCell_other _ _ i _ (by intro e; exact hn (by rw [e]))]
      exact (b8.block i hi).trans (h.bl.block i hi hn)
end
/-- What is read of an input's tape, however long it is. -/
def Tp.riB (b : List Int) : Tp.Res (List Int) := match Tp.hd 0 (Tp.head 1) b with
  | some (i, e) => .bad i e
  | none => match Tp.rdAt b 5 with
    | .bad k e => .bad k e
    | .good n k => if 1000 < n then .bad 5 2 else match Tp.nums b n k [] with
      | .bad j e => .bad j e
      | .good l j => match Tp.ends b j with
        | some (i, e) => .bad i e
        | none => .good l 0
theorem Tp.ri_riB (b : List Int) : Tp.ri b = if 4194304 < b.length then .bad 0 2 else Tp.riB b := rfl
def irQ (w : World) (g : Nat) (a : Option Addr) (c : Nat) (b : List Int) (e : Ending) (w' : World) : Tp.Res (List Int) → Prop
  | .good l _ => e = .returned (.tuple #[]) ∧ ∃ k v, InR w g a c b k v l w'
  | .bad i x => e = tpPan x ∧ ∃ v l, InR w g a c b i v l w'
theorem PlB.ofR {w wr : World} {g : Nat} {a : Option Addr} {c : Nat} {b : List Int} {k : Nat} {v : Value} {l : List Int} (h : InR w g a c b k v l wr) : PlB wr g 67 a c b k [v] := h.p
set_option maxRecDepth 100000 in
set_option maxHeartbeats 4000000 in
theorem inTape_head (w : World) (g : Nat) (a : Option Addr) (c : Nat) (b : List Int) (w0 : World) (h : InR w0 g a c b 0 (.slice none 0 0) [] w) (i : Nat) (x : Int) (hh : Tp.hd 0 (Tp.head 1) b = some (i, x)) :
    Calls Try.prog 42 #[.pointer (some ⟨g, 0, none⟩)] w fun e w' => e = tpPan x ∧ ∃ v l, InR w0 g a c b i v l w' := by
  have HD := hidT (head_any w g _ a c b _ h.p 1)
  rw [hh] at HD
  dsimp only [hdQ] at HD
  have H := hidT h
  clear h hh
  go_enter Try.func42, Try.ntmps42
  go_wp2_with fail
  refine HD.out.mono ?_
  unfold tpPan
  rintro e w1 ⟨rfl, q⟩
  have HQ := hidT (H.out.go q)
  clear q
  go_wp2_with fail
  exact ⟨rfl, rfl, _, _, HQ.out⟩
set_option maxRecDepth 100000 in
set_option maxHeartbeats 4000000 in
theorem inTape_count (w : World) (g : Nat) (a : Option Addr) (c : Nat) (b : List Int) (w0 : World) (h : InR w0 g a c b 0 (.slice none 0 0) [] w) (x : Int) (hh : Tp.hd 0 (Tp.head 1) b = none) (hc : Tp.rdF 0 0 (b.drop 5) = .inr x ∨ (x = 2 ∧ ∃ z u, Tp.rdF 0 0 (b.drop 5) = .inl (z, u) ∧ 1000 < z)) :
    Calls Try.prog 42 #[.pointer (some ⟨g, 0, none⟩)] w fun e w' => e = tpPan x ∧ ∃ v l, InR w0 g a c b 5 v l w' := by
  have HD := hidT (head_any w g _ a c b _ h.p 1)
  rw [hh] at HD
  dsimp only [hdQ] at HD
  have H := hidT h
  have HC : Hid (∀ W, PlB W g 67 a c b 5 [.slice none 0 0] → Calls Try.prog 59 #[.pointer (some ⟨g, 0, none⟩), .int .u64 0, .int .u64 1000, .int .i64 2] W fun e w' => e = tpPan x ∧ PlQ g 67 a c b [.slice none 0 0] W 5 w') := fun W hW => by
    have := count_any W g _ a c b 5 _ hW 0 1000 2 (by decide)
    rcases hc with hc | ⟨rfl, z, u, hc, hz⟩
    · rw [hc] at this; exact this
    · rw [hc] at this
      refine this.mono fun e w' q => ?_
      rw [ctQ, if_neg (by omega)] at q
      exact q
  clear h hh hc
  go_enter Try.func42, Try.ntmps42
  go_wp2_with fail
  refine HD.out.mono ?_
  rintro e w1 ⟨rfl, q⟩
  have HQ := hidT (H.out.go q)
  clear q
  go_wp2_with fail
  refine (HC.out _ HQ.out.p).mono ?_
  unfold tpPan
  rintro e w2 ⟨rfl, q⟩
  have HQ2 := hidT (HQ.out.go q)
  clear q
  go_wp2_with fail
  exact ⟨rfl, rfl, _, _, HQ2.out⟩
set_option maxRecDepth 100000 in
set_option maxHeartbeats 8000000 in
theorem inTape_nums (w : World) (g : Nat) (a : Option Addr) (c : Nat) (b : List Int) (w0 : World) (h : InR w0 g a c b 0 (.slice none 0 0) [] w) (hh : Tp.hd 0 (Tp.head 1) b = none) (n u : Nat) (hc : Tp.rdF 0 0 (b.drop 5) = .inl (n, u)) (hn : n ≤ 1000) :
    Calls Try.prog 42 #[.pointer (some ⟨g, 0, none⟩)] w fun e w' => irQ w0 g a c b e w' (match Tp.nums b n (5 + u) [] with
      | .bad j e => .bad j e
      | .good l j => match Tp.ends b j with
        | some (i, e) => .bad i e
        | none => .good l 0) := by
  obtain ⟨i0, hi, hz0, hz1, hz2⟩ := infoN'
  have HD := hidT (head_any w g _ a c b _ h.p 1)
  rw [hh] at HD
  dsimp only [hdQ] at HD
  have H := hidT h
  have HC : Hid (∀ W, PlB W g 67 a c b 5 [.slice none 0 0] → Calls Try.prog 59 #[.pointer (some ⟨g, 0, none⟩), .int .u64 0, .int .u64 1000, .int .i64 2] W fun e w' => e = .returned (.int .i64 n) ∧ PlQ g 67 a c b [.slice none 0 0] W (5 + u) w') := fun W hW => by
    have := count_any W g _ a c b 5 _ hW 0 1000 2 (by decide)
    rw [hc] at this
    refine this.mono fun e w' q => ?_
    rw [ctQ, if_pos (by omega)] at q
    exact q
  obtain ⟨post, hpost⟩ : ∃ p, p = (match Tp.nums b n (5 + u) [] with
      | .bad j e => (.bad j e : Tp.Res (List Int))
      | .good l j => match Tp.ends b j with
        | some (i, e) => .bad i e
        | none => .good l 0) := ⟨_, rfl⟩
  have HP := hidT hpost
  rw [← hpost]
  clear h hh hc hpost
  go_enter Try.func42, Try.ntmps42
  go_wp2_with fail
  refine HD.out.mono ?_
  rintro e w1 ⟨rfl, q⟩
  have HQ := hidT (H.out.go q)
  clear q
  go_wp2_with fail
  refine (HC.out _ HQ.out.p).mono ?_
  rintro e w2 ⟨rfl, q⟩
  have HQ2 := hidT (HQ.out.go q)
  clear q HC HD HQ
  go_wp2_with fail
  go_loopg [10] n (fun gk i wr => ∃ (j k : Nat) (v : Value) (acc : List Int), j + gk = n ∧ i = .int .i64 j ∧ Hid (InR w0 g a c b k v acc wr) ∧ Hid (acc.length = j ∧ Tp.nums b n (5 + u) [] = Tp.nums b gk k acc))
  case atStart => exact ⟨0, 5 + u, _, [], by omega, rfl, HQ2, rfl, rfl⟩
  case round =>
    obtain ⟨j, k, v, acc, hj, rfl, HI, HA⟩ := hrel
    rcases gk with _ | gk
    · obtain rfl : j = n := by omega
      have dk : decide ((j : Int) < (j : Int)) = false := decide_eq_false (by omega)
      have HE := hidT (end_any wr g _ a c b k _ HI.out.p)
      cases he : Tp.ends b k with
      | none =>
        rw [he] at HE
        dsimp only [enQ] at HE
        have HP2 : Hid (post = .good acc 0) := by unfold Hid; rw [HP.out, HA.out.2]; simp only [Tp.nums, he]
        clear he
        go_wp2_with fail
        refine HE.out.mono ?_
        rintro e w3 ⟨rfl, q⟩
        have HQ3 := hidT (HI.out.go q)
        clear q
        go_wp2_with fail
        refine ⟨rfl, .tuple #[], by simp [results, Try.results42, go_sem], ?_⟩
        rw [HP2.out]
        exact ⟨rfl, _, _, HQ3.out⟩
      | some p =>
        obtain ⟨i, x⟩ := p
        rw [he] at HE
        dsimp only [enQ] at HE
        have HP2 : Hid (post = .bad i x) := by unfold Hid; rw [HP.out, HA.out.2]; simp only [Tp.nums, he]
        clear he
        go_wp2_with fail
        refine HE.out.mono ?_
        unfold tpPan
        rintro e w3 ⟨rfl, q⟩
        have HQ3 := hidT (HI.out.go q)
        clear q
        go_wp2_with fail
        refine ⟨rfl, ?_⟩
        rw [HP2.out]
        exact ⟨rfl, _, _, HQ3.out⟩
    · have dk : decide ((j : Int) < (n : Int)) = true := decide_eq_true (by omega)
      obtain ⟨va, vc, hv⟩ := ownShT HI.out.o
      subst hv
      have c2 := HI.out.c2
      have hgl := HI.out.p.lt
      have EN : Hid (∀ W, Below wr.heap.size wr W → Calls Try.prog 60 #[.pointer (some ⟨g, 0, none⟩)] W fun e w' => nmQ g 67 a c b [.slice va acc.length vc] W k w' e (Tp.rdF 0 0 (b.drop k))) := fun W q => number_any W g _ a c b k _ (HI.out.later q).p
      cases hr : Tp.rdF 0 0 (b.drop k) with
      | inr x =>
        rw [hr] at EN
        dsimp only [nmQ] at EN
        have HP2 : Hid (post = .bad k x) := by unfold Hid; rw [HP.out, HA.out.2]; simp only [Tp.nums, Tp.rdAt, hr]
        clear hr
        go_upto_region 3 with fail
        go_region_law (first
          | (go_simp; go_at_call 60; refine shutT (EN.out _ (by go_grown)) ?_ (.int .i64 0) ?_; (unfold tpPan; rintro e w9 ⟨rfl, q⟩; refine ⟨rfl, ?_⟩; rw [HP2.out]; exact ⟨rfl, _, _, (HI.out.later (by go_grown)).go q⟩); intro hF; have hz8 : ∀ (W : World) (q : Addr), W.frozen? q = false := fun _ _ => hF.out _; have hz9 : ∀ (W : World) (q : Addr), W.cell? q = some (.slice va acc.length vc) := fun _ _ => hF.out _; dsimp only)
          | (rw [if_pos (by rfl)]; refine wp_append_own_wide _ _ _ 32 rfl w0.heap.size 2 i0 (.int .i64 0) 1 8 Try.underlying32 hi hz0 hz1 hz2 rfl (by decide) (.slice va acc.length vc) acc.length (nmC acc) rfl (hF.out _) ⟨0, 0, none⟩ 1 1 [.int .i64 0] (hF.out _) rfl (hF.out _) (hF.out _) (hF.out _) (hF.out _) (hF.out _) ?_; intro v8 w8 h8 g8 o8; obtain ⟨va8, cap8, hv8⟩ := ownShT h8; subst hv8))
        all_goals exact hF.out _
      | inl p =>
        obtain ⟨z, t⟩ := p
        rw [hr] at EN
        dsimp only [nmQ] at EN
        have HP2 : Hid (Tp.nums b (gk + 1) k acc = Tp.nums b gk (k + t) (acc ++ [Tp.zag z])) := by unfold Hid; simp only [Tp.nums, Tp.rdAt, hr]
        clear hr
        have H63 : Hid (acc.length + 1 ≤ maxLen ∧ ((acc.length + 1) + (acc.length + 1) / 4 + 192) * 8 ≤ 281474976710656) := by
          have := HA.out.1
          unfold Hid maxLen
          omega
        go_upto_region 3 with fail
        go_region_law (first
          | (go_simp; go_at_call 60; refine Calls.mono (EN.out _ (by go_grown)) ?_; rintro e w7 ⟨rfl, q⟩; have HI7 := hidT ((HI.out.later (by go_grown)).go q); have d2 := HI7.out.c2; have df := HI7.out.p.fz 2; have hg7 := HI7.out.p.lt; have np7 : ¬ g = w7.heap.size := Nat.ne_of_lt hg7; clear q; dsimp only)
          | (rw [if_pos (by rfl)]; refine wp_append_own_wide _ _ _ 32 rfl w0.heap.size 2 i0 (.int .i64 0) 1 8 Try.underlying32 hi hz0 hz1 hz2 rfl (by decide) _ _ _ rfl (ownLtT HI7.out.o (by go_grown)) ⟨w7.heap.size, 0, none⟩ 1 1 [.int .i64 (Tp.zag z)] rfl rfl (one1 _ _ _) (by intro x hx; simp at hx; subst hx; rfl) H63.out.1 H63.out.2 (by have := HI7.out.bl.size; simp; omega) ?_; intro v8 w8 h8 g8 o8; have kp := ((HI7.out.later (by go_grown)).grow g8).1; have q8 : w8.cell? ⟨g, 2, none⟩ = some (.slice va acc.length vc) := (World.cell?_of_block kp).trans (by simp [go_sem, d2, hg7]); have r8 : w8.frozen? ⟨g, 2, none⟩ = false := (World.frozen?_of_block kp).trans (by simp [go_sem, df, hg7]); obtain ⟨va8, cap8, hv8⟩ := ownShT h8; subst hv8))
        all_goals
          have FIN := hidT ((HI7.out.later (by go_grown)).app (x := Tp.zag z) h8 g8)
          clear h8 g8 o8 kp q8 r8 c2 d2 df EN
          go_wp2_with fail
          go_roundg gk
          case measure => omega
          case rel => exact ⟨j + 1, k + t, _, acc ++ [Tp.zag z], by omega, by go_num, FIN, by simp [HA.out.1], HA.out.2.trans HP2.out⟩
end Go.Proofs.Ytgonadilbjfpkaa
