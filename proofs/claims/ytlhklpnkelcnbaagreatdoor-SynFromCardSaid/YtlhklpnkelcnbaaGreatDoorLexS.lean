/- Right, for every tokens. -/
import Derived.Test.YtlhklpnkelcnbaaGreatDoorLexR
namespace Go.Proofs.YtlhklpnkelcnbaaGreatDoor
open Go.RowKit

abbrev Tok := Lx.Tk × Int
def tok0 : Tok := (⟨0, [], 0⟩, 0)
/-- The tokens ts lie from place o of block b on. -/
structure Ta (w : World) (b o : Nat) (ts : List Tok) : Prop where
  lt : b < w.heap.size
  c0 : ∀ j, j < ts.length → w.cell? ⟨b, o + j * 4, none⟩ = some (.int .i64 (ts.getD j tok0).1.kind)
  c1 : ∀ j, j < ts.length → w.cell? ⟨b, o + j * 4 + 1, none⟩ = some (.string ⟨(ts.getD j tok0).1.text.toArray⟩)
  c2 : ∀ j, j < ts.length → w.cell? ⟨b, o + j * 4 + 2, none⟩ = some (.int .i64 (ts.getD j tok0).1.num)
  c3 : ∀ j, j < ts.length → w.cell? ⟨b, o + j * 4 + 3, none⟩ = some (.int .i64 (ts.getD j tok0).2)
theorem Ta.later {w w' : World} {b o : Nat} {ts : List Tok} (h : Ta w b o ts) (hb : Below w.heap.size w w') : Ta w' b o ts :=
  ⟨Nat.lt_of_lt_of_le h.lt hb.size, fun j hj => (hb.cell (p := ⟨b, o + j * 4, none⟩) h.lt).trans (h.c0 j hj), fun j hj => (hb.cell (p := ⟨b, o + j * 4 + 1, none⟩) h.lt).trans (h.c1 j hj),
   fun j hj => (hb.cell (p := ⟨b, o + j * 4 + 2, none⟩) h.lt).trans (h.c2 j hj), fun j hj => (hb.cell (p := ⟨b, o + j * 4 + 3, none⟩) h.lt).trans (h.c3 j hj)⟩
/-- A token that may stand ahead of the end. -/
def midTk (x : Tok) : Bool := decide (¬ x.1.kind = 0) && rtk x.1
/-- Are the tokens right? -/
def rightL (ts : List Tok) : Bool := if ts.length = 0 then false else (List.range (ts.length - 1)).all (fun j => midTk (ts.getD j tok0)) && (decide ((ts.getD (ts.length - 1) tok0).1.kind = 0) && rtk (ts.getD (ts.length - 1) tok0).1)

theorem rightL_no {ts : List Tok} {m k : Nat} (hm : ts.length = m + 1) (hk : k < m) (h : midTk (ts.getD k tok0) = false) : rightL ts = false := by
  unfold rightL
  rw [if_neg (by omega)]
  have : (List.range (ts.length - 1)).all (fun j => midTk (ts.getD j tok0)) = false := by
    rw [Bool.eq_false_iff]
    intro e
    have := List.all_eq_true.1 e k (by rw [List.mem_range]; omega)
    rw [h] at this
    cases this
  rw [this]; rfl
theorem rightL_end {ts : List Tok} {m : Nat} (hm : ts.length = m + 1) (h : ∀ j, j < m → midTk (ts.getD j tok0) = true) : rightL ts = (decide ((ts.getD m tok0).1.kind = 0) && rtk (ts.getD m tok0).1) := by
  unfold rightL
  rw [if_neg (by omega)]
  have : (List.range (ts.length - 1)).all (fun j => midTk (ts.getD j tok0)) = true := by
    rw [List.all_eq_true]
    intro j hj
    rw [List.mem_range] at hj
    exact h j (by omega)
  rw [this, show ts.length - 1 = m by omega]; rfl

set_option maxRecDepth 100000 in
set_option maxHeartbeats 1000000 in
theorem right_some (b o cap : Nat) (ts : List Tok) (w : World) (h : Ta w b o ts) (hn : 0 < ts.length) (hl : ts.length ≤ 1000000) (hc : ts.length ≤ cap) (hz : ∀ j, j < ts.length → (ts.getD j tok0).1.text.length ≤ maxLen) (hk : Kw w) :
    Calls Tryz.prog 22 #[.slice (some ⟨b, o, none⟩) ts.length cap] w fun e w' => e = .returned (.bool (rightL ts)) ∧ Below w.heap.size w w' := by
  have HK : Hid (Kw w) := hk
  have HT : Hid (Ta w b o ts) := h
  have HZ : Hid (∀ j, j < ts.length → (ts.getD j tok0).1.text.length ≤ maxLen) := hz
  clear hk h hz
  obtain ⟨m, hm⟩ : ∃ m, ts.length = m + 1 := ⟨ts.length - 1, by omega⟩
  have hm0 : ((ts.length : Int) == 0) = false := beq_eq_false_iff_ne.2 (by omega)
  have HM : Hid (ts.length = m + 1) := hm
  have hmi : (ts.length : Int) - 1 = (m : Int) := by omega
  have hmc : m ≤ cap := by omega
  have hm6 : m ≤ 1000000 := by omega
  go_enter Tryz.func22, Tryz.ntmps22
  go_wp2_with fail
  clear hm hm0 hmi
  go_loopw [16] (fun i wr => ∃ k : Nat, k ≤ m ∧ i = .int .i64 k ∧ Below w.heap.size w wr ∧ Hid (∀ j, j < k → midTk (ts.getD j tok0) = true)) (fun i _ => m - (intOf i).toNat)
  case atStart => exact ⟨0, by omega, rfl, Below.refl _ _, fun j hj => absurd hj (Nat.not_lt_zero _)⟩
  case round =>
    obtain ⟨k, hk, rfl, hnx, N⟩ := hrel
    have T1 : Hid (Ta wr b o ts) := HT.out.later hnx
    have hzz := hnx.size
    by_cases hlt : k < m
    · have hkl : Hid (k < ts.length) := by have := HM.out; unfold Hid; omega
      obtain ⟨kd, tx, nm, pl, hx⟩ : ∃ kd tx nm pl, ts.getD k tok0 = (⟨kd, tx, nm⟩, pl) := ⟨_, _, _, _, rfl⟩
      have c0 := T1.out.c0 k hkl.out
      have c1 := T1.out.c1 k hkl.out
      have c2 := T1.out.c2 k hkl.out
      have c3 := T1.out.c3 k hkl.out
      rw [hx] at c0 c1 c2 c3
      have ZX : Hid (tx.length ≤ maxLen) := by have := HZ.out k hkl.out; rw [hx] at this; exact this
      have HX : Hid (ts.getD k tok0 = (⟨kd, tx, nm⟩, pl)) := hx
      clear hx
      simp only at c0 c1 c2 c3
      by_cases k0 : kd = 0
      · have k0b : (kd == 0) = true := beq_iff_eq.2 k0
        have HK0 : Hid (kd = 0) := k0
        clear k0
        have F : Hid (rightL ts = false) := rightL_no HM.out hlt (by rw [HX.out]; unfold midTk; simp [HK0.out])
        go_wp2_with fail
        go_ret
        rw [F.out]
        exact ⟨rfl, hnx.alloc hzz _⟩
      · have k0b : (kd == 0) = false := beq_eq_false_iff_ne.2 k0
        have HK0 : Hid (¬ kd = 0) := k0
        have KW : Hid (∀ o, Kw (wr.alloc o)) := fun o => (HK.out.later hnx).later (box_below wr o)
        clear k0
        go_wp2_with fail
        refine (rightToken_any ⟨kd, tx, nm⟩ pl _ ZX.out (KW.out _)).mono ?_
        rintro e w1 ⟨rfl, b1⟩
        have hb1 : Below w.heap.size w w1 := (hnx.alloc hzz _).trans (b1.mono (by simp; omega))
        clear b1
        cases hr : rtk ⟨kd, tx, nm⟩ with
        | true =>
          have N' : Hid (∀ j, j < k + 1 → midTk (ts.getD j tok0) = true) := fun j hj => by
            by_cases e : j = k
            · subst e; rw [HX.out]; unfold midTk; simp [HK0.out, hr]
            · exact N.out j (by omega)
          clear T1 c0 c1 c2 c3
          go_wp2_with fail
          go_roundw
          case rel => (repeat apply Exists.intro); exact ⟨⟨k + 1, by omega, by go_num, hb1, N'⟩, rfl⟩
          case measure => simp [intOf]; omega
        | false =>
          have F : Hid (rightL ts = false) := rightL_no HM.out hlt (by rw [HX.out]; unfold midTk; simp [hr])
          go_wp2_with fail
          go_ret
          rw [F.out]
          exact ⟨rfl, hb1⟩
    · obtain rfl : k = m := by omega
      have hkl : Hid (k < ts.length) := by have := HM.out; unfold Hid; omega
      obtain ⟨kd, tx, nm, pl, hx⟩ : ∃ kd tx nm pl, ts.getD k tok0 = (⟨kd, tx, nm⟩, pl) := ⟨_, _, _, _, rfl⟩
      have c0 := T1.out.c0 k hkl.out
      have c1 := T1.out.c1 k hkl.out
      have c2 := T1.out.c2 k hkl.out
      have c3 := T1.out.c3 k hkl.out
      rw [hx] at c0 c1 c2 c3
      have ZX : Hid (tx.length ≤ maxLen) := by have := HZ.out k hkl.out; rw [hx] at this; exact this
      have F : Hid (rightL ts = (decide (kd = 0) && rtk ⟨kd, tx, nm⟩)) := by unfold Hid; rw [rightL_end HM.out N.out, hx]
      clear hx
      simp only at c0 c1 c2 c3
      have hkl2 : (k : Int) < (ts.length : Int) := by have := hkl.out; omega
      have KW : Hid (Kw wr) := HK.out.later hnx
      by_cases k0 : kd = 0
      · have k0b : (kd == 0) = true := beq_iff_eq.2 k0
        have HK0 : Hid (kd = 0) := k0
        clear k0
        go_wp2_with fail
        refine (rightToken_any ⟨kd, tx, nm⟩ pl _ ZX.out KW.out).mono ?_
        rintro e w1 ⟨rfl, b1⟩
        have hb1 : Below w.heap.size w w1 := hnx.trans (b1.mono hzz)
        clear b1
        go_wp2_with fail
        go_ret
        rw [F.out, decide_eq_true HK0.out]
        exact ⟨rfl, hb1⟩
      · have k0b : (kd == 0) = false := beq_eq_false_iff_ne.2 k0
        have HK0 : Hid (¬ kd = 0) := k0
        clear k0
        go_wp2_with fail
        go_ret
        rw [F.out, decide_eq_false HK0.out]
        exact ⟨rfl, hnx⟩

theorem right_none (a : Option Addr) (cap : Nat) (w : World) : Calls Tryz.prog 22 #[.slice a 0 cap] w fun e w' => e = .returned (.bool false) ∧ w' = w := by
  go_enter Tryz.func22, Tryz.ntmps22
  go_wp2
  go_ret
  exact ⟨rfl, rfl⟩
end Go.Proofs.YtlhklpnkelcnbaaGreatDoor
