/- Layer 13: where a tape is read, in its box; numbers and counts taken. -/
import Derived.Test.YtgonadilbjfpkaaTpJ
namespace Go.Proofs.Ytgonadilbjfpkaa
open Go.RowKit
set_option linter.unusedVariables false
theorem drN {B : Nat} {a w : World} (h : Below B a w) (n : Nat) : Below B a (w.drewN n) := h.trans ⟨rfl, rfl, rfl, Nat.le_refl _, fun _ _ => rfl⟩
theorem drG {a w : World} {o : Option Nat} (h : a.grownBy w o) (n : Nat) : a.grownBy (w.drewN n) o := ⟨h.os, h.tape, h.output, h.size, h.block⟩
theorem gbR (w : World) (o : Option Nat) : w.grownBy w o := ⟨rfl, rfl, rfl, Nat.le_refl _, fun _ _ _ => rfl⟩
theorem gbT {a b c : World} {o : Option Nat} (h : a.grownBy b o) (k : b.grownBy c o) : a.grownBy c o :=
  ⟨k.os.trans h.os, k.tape.trans h.tape, k.output.trans h.output, Nat.le_trans h.size k.size, fun i hi hn => (k.block i (Nat.lt_of_lt_of_le hi h.size) hn).trans (h.block i hi hn)⟩
theorem gbB {a b : World} {g : Nat} (h : a.grownBy b (some g)) (hg : g ≤ a.heap.size) : Below g a b := ⟨h.os, h.tape, h.output, h.size, fun i hi => h.block i (by omega) (by simp; omega)⟩
theorem gbOf {a b : World} {o : Option Nat} (h : Below a.heap.size a b) : a.grownBy b o := ⟨h.os, h.tape, h.output, h.size, fun i hi _ => h.block i hi⟩
/-- A reader's box, g: the bytes, the place, and what else lies in it. -/
structure PlB (w : World) (g : Nat) (T : TypeId) (a : Option Addr) (c : Nat) (b : List Int) (k : Nat) (r : List Value) : Prop where
  hb : w.heap[g]? = some (.cells (.slice a b.length c :: .int .i64 k :: r).toArray T (0, 0))
  bs : ByS g w a b
  yt : Tp.Byt b
  cap : b.length ≤ c
  le : k ≤ b.length
  ln : b.length ≤ 4611686018427387904
section
variable {w w' : World} {g : Nat} {T : TypeId} {a : Option Addr} {c : Nat} {b : List Int} {k k' : Nat} {r : List Value}
theorem PlB.lt (h : PlB w g T a c b k r) : g < w.heap.size := (Array.getElem?_eq_some_iff.1 h.hb).1
theorem PlB.c0 (h : PlB w g T a c b k r) : w.cell? ⟨g, 0, none⟩ = some (.slice a b.length c) := by simp [World.cell?, h.hb]
theorem PlB.c1 (h : PlB w g T a c b k r) : w.cell? ⟨g, 1, none⟩ = some (.int .i64 k) := by simp [World.cell?, h.hb]
theorem PlB.fz (h : PlB w g T a c b k r) (o : Nat) : w.frozen? ⟨g, o, none⟩ = false := by simp [World.frozen?, h.hb]
theorem PlB.later (h : PlB w g T a c b k r) (q : Below (g + 1) w w') : PlB w' g T a c b k r :=
  ⟨(q.block g (Nat.lt_succ_self g)).trans h.hb, h.bs.later q (Nat.le_succ g), h.yt, h.cap, h.le, h.ln⟩
theorem PlB.set (h : PlB w g T a c b k r) (hk : k' ≤ b.length) : PlB (w.setCell ⟨g, 1, none⟩ (.int .i64 k')) g T a c b k' r ∧ w.grownBy (w.setCell ⟨g, 1, none⟩ (.int .i64 k')) (some g) := by
  have hg : w.grownBy (w.setCell ⟨g, 1, none⟩ (.int .i64 k')) (some g) := ⟨rfl, rfl, rfl, by simp, fun i _ hn => heap_setCell_other _ _ i _ (by intro e; exact hn (by rw [e]))⟩
  refine ⟨⟨?_, h.bs.later (gbB hg (Nat.le_of_lt h.lt)) (Nat.le_refl _), h.yt, h.cap, hk, h.ln⟩, hg⟩
  rw [heap_setCell_same _ _ _ _ _ _ h.hb]
  simp
end
/-- What is left of a reader: the place is another, and nothing else but its box has changed. -/
def PlQ (g : Nat) (T : TypeId) (a : Option Addr) (c : Nat) (b : List Int) (r : List Value) (w : World) (k : Nat) (w' : World) : Prop := PlB w' g T a c b k r ∧ w.grownBy w' (some g)
def tpPan (er : Int) : Ending := .panicked [{ v := .iface 24 (.int .i64 er), recovered := false }]
theorem must_yes (er : Int) (w : World) : Calls Try.prog 73 #[.bool true, .int .i64 er] w fun e w' => e = .returned (.tuple #[]) ∧ w' = w := by
  go_enter Try.func73, Try.ntmps73
  go_wp2_with fail
  exact ⟨rfl, .tuple #[], by simp [results, Try.results73, go_sem], rfl, rfl⟩
theorem must_no (er : Int) (w : World) : Calls Try.prog 73 #[.bool false, .int .i64 er] w fun e w' => e = tpPan er ∧ w' = w := by
  unfold tpPan
  go_enter Try.func73, Try.ntmps73
  go_wp2_with fail
  exact ⟨rfl, rfl, rfl⟩
def nmQ (g : Nat) (T : TypeId) (a : Option Addr) (c : Nat) (b : List Int) (r : List Value) (w : World) (k : Nat) (w' : World) (e : Ending) : (Nat × Nat) ⊕ Int → Prop
  | .inl (z, u) => e = .returned (.int .i64 (Tp.zag z)) ∧ PlQ g T a c b r w (k + u) w'
  | .inr x => e = tpPan x ∧ PlQ g T a c b r w k w'
set_option maxHeartbeats 2000000 in
theorem number_any (w : World) (g : Nat) (T : TypeId) (a : Option Addr) (c : Nat) (b : List Int) (k : Nat) (r : List Value) (h : PlB w g T a c b k r) :
    Calls Try.prog 60 #[.pointer (some ⟨g, 0, none⟩)] w fun e w' => nmQ g T a c b r w k w' e (Tp.rdF 0 0 (b.drop k)) := by
  have HD := hidT (fun (W : World) (q : Below g w W) => readNum_in b k a c W h.yt (h.bs.later q (Nat.le_refl _)) h.cap h.ln h.le)
  have H := hidT h
  have a0 := h.c0
  have a1 := h.c1
  have hkl := h.le
  have hln := h.ln
  have hbk := hidT (h.yt.drop k)
  obtain ⟨n, hn⟩ : ∃ n, n = b.length := ⟨_, rfl⟩
  have HN := hidT hn
  rw [← hn] at HD a0 hkl hln
  cases hr : Tp.rdF 0 0 (b.drop k) with
  | inr x =>
    rw [hr] at HD
    dsimp only [rnV] at HD
    have hx := Tp.rdF_err _ _ _ _ hr
    have qx : (x == 0) = false := by simp; omega
    clear hr hn hx h
    go_enter Try.func60, Try.ntmps60
    go_upto_region 1 with fail
    go_quiet (first | (go_at_call 10; exact Calls.quiet_of_same (HD.out _ (drN (Below.refl _ _) _))))
    have H1 := hidT (H.out.later (drN (Below.refl _ _) nq))
    have G1 := hidT (drG (gbR w (some g)) nq)
    generalize w.drewN nq = W1 at H1 G1 ⊢

    clear a0 a1
    go_wp2_with fail
    refine (must_no x _).mono ?_
    unfold tpPan
    rintro e w' ⟨rfl, rfl⟩
    go_wp2_with fail
    exact ⟨rfl, rfl, H1.out, G1.out⟩
  | inl p =>
    obtain ⟨z, u⟩ := p
    rw [hr] at HD
    dsimp only [rnV] at HD
    obtain ⟨hu0, hu1, _, hz⟩ := Tp.rd_back _ _ _ hbk.out hr
    have hu2 : k + u ≤ n := by rw [List.length_drop] at hu1; omega
    clear hr hn h hu1
    go_enter Try.func60, Try.ntmps60
    go_upto_region 1 with fail
    go_quiet (first | (go_at_call 10; exact Calls.quiet_of_same (HD.out _ (drN (Below.refl _ _) _))))
    have H1 := hidT (H.out.later (drN (Below.refl _ _) nq))
    have G1 := hidT (drG (gbR w (some g)) nq)
    generalize w.drewN nq = W1 at H1 G1 ⊢
    have b0 := H1.out.c0
    have b1 := H1.out.c1
    have bf := H1.out.fz 1
    rw [← HN.out] at b0

    clear a0 a1
    go_wp2_with fail
    refine (must_yes 0 _).mono ?_
    rintro e w' ⟨rfl, rfl⟩
    go_wp2_with fail
    go_ret
    obtain ⟨s1, s2⟩ := H1.out.set (k' := k + u) (by rw [← HN.out]; exact hu2)
    exact ⟨rfl, s1, gbT G1.out s2⟩
end Go.Proofs.Ytgonadilbjfpkaa
