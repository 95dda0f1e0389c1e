/- Layer 3: the reader of tokens (what it holds in memory), and its small calls, each for every state. -/
import Derived.Test.YtlhklpnkelcnbaaGreatDoorLexS
import Derived.BigRegion
import Derived.RegionTactic
import Derived.WalkLawsBesides
namespace Go.Proofs.YtlhklpnkelcnbaaGreatDoor
open Go.RowKit

def tokA (x : Tok) : Value := .agg #[.int .i64 x.1.kind, .string ⟨x.1.text.toArray⟩, .int .i64 x.1.num, .int .i64 x.2]
/-- The reader in block p stands at token number k of the tokens ts. -/
structure Rd (w : World) (p b o cap : Nat) (ts : List Tok) (k : Nat) : Prop where
  row : w.cell? ⟨p, 0, none⟩ = some (.slice (some ⟨b, o, none⟩) ts.length cap)
  nx : w.cell? ⟨p, 1, none⟩ = some (.int .i64 (k : Int))
  fz : w.frozen? ⟨p, 1, none⟩ = false
  ta : Ta w b o ts
  ne : b ≠ p
  lt : p < w.heap.size
/-- Nothing that was there has changed but the number in block p. -/
structure Mov (p : Nat) (w w' : World) : Prop where
  os : w'.os = w.os
  tape : w'.tape = w.tape
  output : w'.output = w.output
  size : w.heap.size ≤ w'.heap.size
  block : ∀ k, k < w.heap.size → k ≠ p → w'.heap[k]? = w.heap[k]?
  cell : ∀ q : Addr, q.block < w.heap.size → q ≠ ⟨p, 1, none⟩ → w'.cell? q = w.cell? q
  frozen : ∀ q : Addr, q.block < w.heap.size → w'.frozen? q = w.frozen? q
theorem Mov.refl (p : Nat) (w : World) : Mov p w w := ⟨rfl, rfl, rfl, Nat.le_refl _, fun _ _ _ => rfl, fun _ _ _ => rfl, fun _ _ => rfl⟩
theorem Mov.trans {p : Nat} {a b c : World} (h : Mov p a b) (k : Mov p b c) : Mov p a c :=
  ⟨k.os.trans h.os, k.tape.trans h.tape, k.output.trans h.output, Nat.le_trans h.size k.size,
   fun i hi hp => (k.block i (Nat.lt_of_lt_of_le hi h.size) hp).trans (h.block i hi hp),
   fun q hq hp => (k.cell q (Nat.lt_of_lt_of_le hq h.size) hp).trans (h.cell q hq hp),
   fun q hq => (k.frozen q (Nat.lt_of_lt_of_le hq h.size)).trans (h.frozen q hq)⟩
theorem Mov.of_below {p : Nat} {w w' : World} (h : Below w.heap.size w w') : Mov p w w' :=
  ⟨h.os, h.tape, h.output, h.size, fun k hk _ => h.block k hk, fun _ hq _ => h.cell hq, fun _ hq => h.frozen hq⟩
theorem Mov.alloc {p : Nat} {w w' : World} (h : Mov p w w') (x : Obj) : Mov p w (w'.alloc x) := h.trans (.of_below (box_below w' x))
theorem Ta.mov {w w' : World} {p b o : Nat} {ts : List Tok} (h : Ta w b o ts) (m : Mov p w w') (hb : b ≠ p) : Ta w' b o ts := by
  have key : ∀ n, (⟨b, n, none⟩ : Addr) ≠ ⟨p, 1, none⟩ := fun n e => hb (congrArg Addr.block e)
  exact ⟨Nat.lt_of_lt_of_le h.lt m.size, fun j hj => (m.cell _ h.lt (key _)).trans (h.c0 j hj), fun j hj => (m.cell _ h.lt (key _)).trans (h.c1 j hj), fun j hj => (m.cell _ h.lt (key _)).trans (h.c2 j hj), fun j hj => (m.cell _ h.lt (key _)).trans (h.c3 j hj)⟩
theorem Rd.later {w w' : World} {p b o cap : Nat} {ts : List Tok} {k : Nat} (h : Rd w p b o cap ts k) (hb : Below w.heap.size w w') : Rd w' p b o cap ts k :=
  ⟨(hb.cell (p := ⟨p, 0, none⟩) h.lt).trans h.row, (hb.cell (p := ⟨p, 1, none⟩) h.lt).trans h.nx, (hb.frozen (p := ⟨p, 1, none⟩) h.lt).trans h.fz, h.ta.later hb, h.ne, Nat.lt_of_lt_of_le h.lt hb.size⟩

/-- And that token is x. -/
structure Rn (w : World) (p b o cap : Nat) (ts : List Tok) (k : Nat) (x : Tok) : Prop where
  rd : Rd w p b o cap ts k
  hk : k < ts.length
  tk : ts.getD k tok0 = x
theorem Rn.later {w w' : World} {p b o cap : Nat} {ts : List Tok} {k : Nat} {x : Tok} (h : Rn w p b o cap ts k x) (hb : Below w.heap.size w w') : Rn w' p b o cap ts k x := ⟨h.rd.later hb, h.hk, h.tk⟩

set_option maxRecDepth 100000 in
set_option maxHeartbeats 1000000 in
theorem now_any (w : World) (p b o cap : Nat) (ts : List Tok) (k : Nat) (x : Tok) (h : Rn w p b o cap ts k x) :
    Calls Tryz.prog 80 #[.pointer (some ⟨p, 0, none⟩)] w fun e w' => e = .returned (tokA x) ∧ Below w.heap.size w w' := by
  have hk := h.hk
  have r0 := h.rd.row
  have r1 := h.rd.nx
  have hp := h.rd.lt
  have hb := h.rd.ta.lt
  have c0 := h.rd.ta.c0 k hk
  have c1 := h.rd.ta.c1 k hk
  have c2 := h.rd.ta.c2 k hk
  have c3 := h.rd.ta.c3 k hk
  rw [h.tk] at c0 c1 c2 c3
  obtain ⟨⟨kd, tx, nm⟩, pl⟩ := x
  simp only at c0 c1 c2 c3
  clear h
  go_enter Tryz.func80, Tryz.ntmps80
  go_wp2_with fail
  go_region
  all_goals
  go_wp2_with fail
  refine bodyPost_ret (v := .agg #[.int .i64 kd, .string ⟨tx.toArray⟩, .int .i64 nm, .int .i64 pl]) (by simp [results, Tryz.results80, go_sem]) rfl ⟨rfl, (box_below w _).drew⟩

theorem ret_bool {a b : Bool} (h : a = b) : Ending.returned (.bool a) = .returned (.bool b) := by rw [h]
theorem beq_dec (a b : List UInt8) : (a == b) = decide (a = b) := by
  by_cases e : a = b
  · subst e; simp
  · rw [decide_eq_false e]; simpa using e
theorem fldT (a0 a1 a2 a3 : Value) (w : World) : (Instr.field 50 (.agg #[a0, a1, a2, a3]) 1).run Tryz.prog w = .ok a1 w := by kernel_rfl
theorem fldA (a0 a1 a2 a3 : Value) (w : World) : (Instr.field 50 (.agg #[a0, a1, a2, a3]) 3).run Tryz.prog w = .ok a3 w := by kernel_rfl
/-- What is thrown. -/
def fltV (a e : Int) : Value := .agg #[.int .i64 a, .int .i64 e]
def pan (a e : Int) : Ending := .panicked [{ v := .iface 97 (fltV a e), recovered := false }]
set_option maxRecDepth 100000 in
set_option maxHeartbeats 400000 in
theorem wrong_any (w : World) (p b o cap : Nat) (ts : List Tok) (k : Nat) (x : Tok) (er : Int) (h : Rn w p b o cap ts k x) :
    Calls Tryz.prog 131 #[.pointer (some ⟨p, 0, none⟩), .int .i64 er] w fun e w' => e = .returned (fltV x.2 er) ∧ Below w.heap.size w w' := by
  have H : Hid (Rn w p b o cap ts k x) := h
  clear h
  go_enter Tryz.func131, Tryz.ntmps131
  go_wp2_with fail
  refine (now_any _ p b o cap ts k x (H.out.later (box_below w _))).mono ?_
  rintro e w1 ⟨rfl, b1⟩
  have c0 : w1.cell? ⟨w.heap.size, 0, none⟩ = some (.int .i64 0) := (b1.cell (by simp)).trans (by simp [go_sem])
  have c1 : w1.cell? ⟨w.heap.size, 1, none⟩ = some (.int .i64 0) := (b1.cell (by simp)).trans (by simp [go_sem])
  have f0 : w1.frozen? ⟨w.heap.size, 0, none⟩ = false := (b1.frozen (by simp)).trans (World.frozen?_alloc_at _ _ _ _ rfl)
  have f1 : w1.frozen? ⟨w.heap.size, 1, none⟩ = false := (b1.frozen (by simp)).trans (World.frozen?_alloc_at _ _ _ _ rfl)
  have hb : Below w.heap.size w w1 := (box_below w _).trans (b1.mono (by simp))
  have hz : w.heap.size < w1.heap.size := Nat.lt_of_lt_of_le (by simp) b1.size
  clear b1
  unfold tokA
  have kf := fldA
  go_wp2_with fail
  refine bodyPost_ret (v := .agg #[.int .i64 x.2, .int .i64 er]) (by simp [results, Tryz.results131, go_sem, c0, c1]) rfl ⟨rfl, (hb.setCell (Nat.le_refl _) _).setCell (Nat.le_refl _) _⟩
set_option maxRecDepth 100000 in
set_option maxHeartbeats 400000 in
theorem is_any (w : World) (p b o cap : Nat) (ts : List Tok) (k : Nat) (x : Tok) (s : List UInt8) (h : Rn w p b o cap ts k x) :
    Calls Tryz.prog 121 #[.pointer (some ⟨p, 0, none⟩), .string ⟨s.toArray⟩] w fun e w' => e = .returned (.bool (decide (x.1.text = s))) ∧ Below w.heap.size w w' := by
  have H : Hid (Rn w p b o cap ts k x) := h
  clear h
  go_enter Tryz.func121, Tryz.ntmps121
  go_wp2_with fail
  refine (now_any _ p b o cap ts k x H.out).mono ?_
  rintro e w1 ⟨rfl, b1⟩
  unfold tokA
  have kf := fldT
  go_wp2_with fail
  go_ret
  exact ⟨ret_bool (beq_dec _ _), b1⟩

/-- The reader went on by one. -/
theorem Rd.step {w : World} {p b o cap : Nat} {ts : List Tok} {k : Nat} (h : Rd w p b o cap ts k) : Rd (w.setCell ⟨p, 1, none⟩ (.int .i64 ((k : Int) + 1))) p b o cap ts (k + 1) ∧ Mov p w (w.setCell ⟨p, 1, none⟩ (.int .i64 ((k : Int) + 1))) := by
  have m : Mov p w (w.setCell ⟨p, 1, none⟩ (.int .i64 ((k : Int) + 1))) :=
    ⟨rfl, rfl, rfl, by simp, fun i _ hi => heap_setCell_other w _ i _ hi, fun q _ hq => World.cell?_setCell_other _ _ _ _ (Ne.symm hq), fun q _ => by simp⟩
  refine ⟨⟨(m.cell _ h.lt (by simp)).trans h.row, World.cell?_setCell_same _ _ _ h.nx, (m.frozen _ h.lt).trans h.fz, h.ta.mov m h.ne, h.ne, Nat.lt_of_lt_of_le h.lt m.size⟩, m⟩
set_option maxRecDepth 100000 in
set_option maxHeartbeats 400000 in
theorem has_yes (w : World) (p b o cap : Nat) (ts : List Tok) (k : Nat) (x : Tok) (s : List UInt8) (h : Rn w p b o cap ts k x) (hl : ts.length ≤ 1000000) (hs : x.1.text = s) :
    Calls Tryz.prog 132 #[.pointer (some ⟨p, 0, none⟩), .string ⟨s.toArray⟩] w fun e w' => e = .returned (.bool true) ∧ Mov p w w' ∧ Rd w' p b o cap ts (k + 1) := by
  have H : Hid (Rn w p b o cap ts k x) := h
  have HS : Hid (decide (x.1.text = s) = true) := decide_eq_true hs
  clear h hs
  go_enter Tryz.func132, Tryz.ntmps132
  go_wp2_with fail
  refine (is_any _ p b o cap ts k x s H.out).mono ?_
  rintro e w1 ⟨rfl, b1⟩
  rw [HS.out]
  have H1 := H.out.later b1
  have r1 := H1.rd.nx
  have f1 := H1.rd.fz
  have hp := H1.rd.lt
  have hkl := H1.hk
  have ST : Hid _ := H1.rd.step
  have B1 : Hid _ := b1
  clear b1 H1
  go_wp2_with fail
  go_ret
  exact ⟨rfl, (Mov.of_below B1.out).trans ST.out.2, ST.out.1⟩
set_option maxRecDepth 100000 in
set_option maxHeartbeats 400000 in
theorem has_no (w : World) (p b o cap : Nat) (ts : List Tok) (k : Nat) (x : Tok) (s : List UInt8) (h : Rn w p b o cap ts k x) (hs : ¬ x.1.text = s) :
    Calls Tryz.prog 132 #[.pointer (some ⟨p, 0, none⟩), .string ⟨s.toArray⟩] w fun e w' => e = .returned (.bool false) ∧ Below w.heap.size w w' := by
  have H : Hid (Rn w p b o cap ts k x) := h
  have HS : Hid (decide (x.1.text = s) = false) := decide_eq_false hs
  clear h hs
  go_enter Tryz.func132, Tryz.ntmps132
  go_wp2_with fail
  refine (is_any _ p b o cap ts k x s H.out).mono ?_
  rintro e w1 ⟨rfl, b1⟩
  rw [HS.out]
  go_wp2_with fail
  go_ret
  exact ⟨rfl, b1⟩
set_option maxRecDepth 100000 in
set_option maxHeartbeats 400000 in
theorem must_yes (w : World) (p b o cap : Nat) (ts : List Tok) (k : Nat) (x : Tok) (s : List UInt8) (h : Rn w p b o cap ts k x) (hl : ts.length ≤ 1000000) (hs : x.1.text = s) :
    Calls Tryz.prog 107 #[.pointer (some ⟨p, 0, none⟩), .string ⟨s.toArray⟩] w fun e w' => e = .returned (.tuple #[]) ∧ Mov p w w' ∧ Rd w' p b o cap ts (k + 1) := by
  have H : Hid (Rn w p b o cap ts k x) := h
  have HS : Hid (x.1.text = s) := hs
  clear h hs
  go_enter Tryz.func107, Tryz.ntmps107
  go_wp2_with fail
  refine (has_yes _ p b o cap ts k x s H.out hl HS.out).mono ?_
  rintro e w1 ⟨rfl, m1, r1⟩
  have R : Hid (Mov p w w1 ∧ Rd w1 p b o cap ts (k + 1)) := ⟨m1, r1⟩
  clear m1 r1
  go_wp2_with fail
  go_end0
  exact ⟨rfl, R.out⟩
set_option maxRecDepth 100000 in
set_option maxHeartbeats 400000 in
theorem must_no (w : World) (p b o cap : Nat) (ts : List Tok) (k : Nat) (x : Tok) (s : List UInt8) (h : Rn w p b o cap ts k x) (hs : ¬ x.1.text = s) :
    Calls Tryz.prog 107 #[.pointer (some ⟨p, 0, none⟩), .string ⟨s.toArray⟩] w fun e w' => e = pan x.2 30 ∧ Below w.heap.size w w' := by
  have H : Hid (Rn w p b o cap ts k x) := h
  have HS : Hid (¬ x.1.text = s) := hs
  clear h hs
  go_enter Tryz.func107, Tryz.ntmps107
  go_wp2_with fail
  refine (has_no _ p b o cap ts k x s H.out HS.out).mono ?_
  rintro e w1 ⟨rfl, b1⟩
  have B1 : Hid _ := b1
  clear b1
  go_wp2_with fail
  refine (wrong_any _ p b o cap ts k x 30 (H.out.later B1.out)).mono ?_
  rintro e w2 ⟨rfl, b2⟩
  go_wp2_with fail
  exact ⟨rfl, rfl, B1.out.trans (b2.mono B1.out.size)⟩
theorem Mov.set {p : Nat} {w w' : World} (h : Mov p w w') {a : Addr} (ha : w.heap.size ≤ a.block) (v : Value) : Mov p w (w'.setCell a v) :=
  ⟨h.os, h.tape, h.output, by simpa using h.size, fun i hi hp => (heap_setCell_other w' _ i _ (by omega)).trans (h.block i hi hp),
   fun q hq hp => (World.cell?_setCell_other _ _ _ _ (fun e => by subst e; omega)).trans (h.cell q hq hp), fun q hq => by rw [World.frozen?_setCell]; exact h.frozen q hq⟩
theorem Ta.set {w : World} {b o : Nat} {ts : List Tok} (h : Ta w b o ts) {a : Addr} (ha : a.block ≠ b) (v : Value) : Ta (w.setCell a v) b o ts := by
  have key : ∀ n, a ≠ (⟨b, n, none⟩ : Addr) := fun n e => ha (congrArg Addr.block e)
  exact ⟨by simpa using h.lt, fun j hj => (World.cell?_setCell_other _ _ _ _ (key _)).trans (h.c0 j hj), fun j hj => (World.cell?_setCell_other _ _ _ _ (key _)).trans (h.c1 j hj), fun j hj => (World.cell?_setCell_other _ _ _ _ (key _)).trans (h.c2 j hj), fun j hj => (World.cell?_setCell_other _ _ _ _ (key _)).trans (h.c3 j hj)⟩
theorem Rd.set {w : World} {p b o cap : Nat} {ts : List Tok} {k : Nat} (h : Rd w p b o cap ts k) {a : Addr} (hp : a.block ≠ p) (hb : a.block ≠ b) (v : Value) : Rd (w.setCell a v) p b o cap ts k := by
  have key : ∀ n, a ≠ (⟨p, n, none⟩ : Addr) := fun n e => hp (congrArg Addr.block e)
  exact ⟨(World.cell?_setCell_other _ _ _ _ (key _)).trans h.row, (World.cell?_setCell_other _ _ _ _ (key _)).trans h.nx, by rw [World.frozen?_setCell]; exact h.fz, h.ta.set hb v, h.ne, by simpa using h.lt⟩
end Go.Proofs.YtlhklpnkelcnbaaGreatDoor
