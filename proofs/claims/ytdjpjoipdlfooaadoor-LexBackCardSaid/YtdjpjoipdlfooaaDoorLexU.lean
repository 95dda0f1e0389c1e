/- The reference's Text of a token, for every token. -/
import Derived.Test.YtdjpjoipdlfooaaDoorLexI
import Derived.Test.YtdjpjoipdlfooaaDoorLexT
import Derived.Deep.RegionWith
namespace Go.Proofs.YtdjpjoipdlfooaaDoor
open Go.RowKit

/-- What the reference's Text tells of a token beside its text. -/
def rok (t : Lx.Tk) : Bool :=
  if t.kind = 2 then decide (0 ≤ t.num) && t.text.isEmpty
  else decide (t.num = 0) && decide (0 < (rfirst t.text).2) && decide ((rfirst t.text).2 = t.text.length) && decide ((rfirst t.text).1.kind = t.kind)
theorem ret_sb {s : ByteArray} {a b : Bool} (h : a = b) : Ending.returned (.tuple #[.string s, .bool a]) = .returned (.tuple #[.string s, .bool b]) := by rw [h]
theorem box_then {w w1 W : World} {o : Obj} (b1 : Below W.heap.size W w1) (h : W.heap = (w.alloc o).heap) (h1 : W.os = w.os) (h2 : W.tape = w.tape) (h3 : W.output = w.output) : Below w.heap.size w w1 :=
  (box_below w o).trans ⟨b1.os.trans h1, b1.tape.trans h2, b1.output.trans h3, by rw [← h]; exact b1.size, fun k hk => by rw [← h]; exact b1.block k (by rw [h]; simp; omega)⟩

set_option maxRecDepth 100000 in
set_option maxHeartbeats 1000000 in
theorem rtxt_int (l : List UInt8) (n p : Int) (w : World) (h0 : -9223372036854775808 ≤ n) (h1 : n ≤ 9223372036854775807) :
    Calls Tryd.prog 16 #[.agg #[.int .i64 2, .string ⟨l.toArray⟩, .int .i64 n, .int .i64 p]] w fun e w' => e = .returned (.tuple #[.string ⟨(Lib.itoa n).toArray⟩, .bool (decide (0 ≤ n) && l.isEmpty)]) ∧ Below w.heap.size w w' := by
  have H0 : Hid (-9223372036854775808 ≤ n ∧ n ≤ 9223372036854775807) := ⟨h0, h1⟩
  clear h0 h1
  by_cases hn : 0 ≤ n
  · have hnb : decide ((0 : Int) ≤ n) = true := decide_eq_true hn
    cases hl : l.isEmpty with
    | true =>
      have hl' := emp_true hl
      go_enter Tryd.func16, Tryd.ntmps16
      go_wp2_with fail
      go_region_held3 (fun w' => w'.cell? ⟨w.heap.size, 1, none⟩ = some (.string ⟨l.toArray⟩) ∧ w'.cell? ⟨w.heap.size, 2, none⟩ = some (.int .i64 n)) (first | (exact ⟨(b1.cell (by simp)).trans (by simp), (b1.cell (by simp)).trans (by simp)⟩) | go_keep) (first | (go_at_call 25; refine (rtext_any n _ H0.out.1 H0.out.2).mono ?_; rintro e w1 ⟨rfl, b1⟩))
      all_goals
      go_wp2_with fail
      go_ret2
      exact ⟨ret_sb (by simp [hn]), box_then b1 rfl rfl rfl rfl⟩
    | false =>
      have hl' := emp_false hl
      go_enter Tryd.func16, Tryd.ntmps16
      go_wp2_with fail
      go_region_held3 (fun w' => w'.cell? ⟨w.heap.size, 1, none⟩ = some (.string ⟨l.toArray⟩) ∧ w'.cell? ⟨w.heap.size, 2, none⟩ = some (.int .i64 n)) (first | (exact ⟨(b1.cell (by simp)).trans (by simp), (b1.cell (by simp)).trans (by simp)⟩) | go_keep) (first | (go_at_call 25; refine (rtext_any n _ H0.out.1 H0.out.2).mono ?_; rintro e w1 ⟨rfl, b1⟩))
      all_goals
      go_wp2_with fail
      go_ret2
      exact ⟨ret_sb (by simp [hn]), box_then b1 rfl rfl rfl rfl⟩
  · have hnb : decide ((0 : Int) ≤ n) = false := decide_eq_false hn
    go_enter Tryd.func16, Tryd.ntmps16
    go_wp2_with fail
    first
      | (go_region_with (go_at_call 25; refine (rtext_any n _ H0.out.1 H0.out.2).mono ?_; rintro e w1 ⟨rfl, b1⟩; have d2 : w1.cell? ⟨w.heap.size, 2, none⟩ = some (.int .i64 n) := (b1.cell (by simp)).trans (by simp [go_sem])))
      | fail
    all_goals
    go_wp2_with fail
    go_ret2
    exact ⟨ret_sb (by simp [hnb]), box_then b1 rfl rfl rfl rfl⟩

theorem beq_t {a b : Int} (h : a = b) : (a == b) = true := beq_iff_eq.2 h
theorem beq_f {a b : Int} (h : ¬ a = b) : (a == b) = false := beq_eq_false_iff_ne.2 h
theorem size_text (l : List UInt8) : (⟨l.toArray⟩ : ByteArray).size = l.length := by simp [ByteArray.size]
set_option maxRecDepth 100000 in
set_option maxHeartbeats 1000000 in
theorem rtxt_other (t : Lx.Tk) (p : Int) (w : World) (hk : ¬ t.kind = 2) (hs : t.text.length ≤ 1000000) :
    Calls Tryd.prog 16 #[.agg #[.int .i64 t.kind, .string ⟨t.text.toArray⟩, .int .i64 t.num, .int .i64 p]] w fun e w' => e = .returned (.tuple #[.string ⟨t.text.toArray⟩, .bool (rok t)]) ∧ Below w.heap.size w w' := by
  obtain ⟨k, l, n⟩ := t
  have hk : ¬ k = 2 := hk
  have hs : l.length ≤ 1000000 := hs
  have hz : (⟨l.toArray⟩ : ByteArray).size ≤ 1000000 := by rw [size_text]; exact hs
  show Calls Tryd.prog 16 #[.agg #[.int .i64 k, .string ⟨l.toArray⟩, .int .i64 n, .int .i64 p]] w fun e w' => e = .returned (.tuple #[.string ⟨l.toArray⟩, .bool (rok ⟨k, l, n⟩)]) ∧ Below w.heap.size w w'
  have FC : Hid (∀ w, Calls Tryd.prog 26 #[.string ⟨l.toArray⟩] w fun e w' => e = .returned (rfV (rfirst l)) ∧ Below w.heap.size w w') := fun w => by
    have := rfirst_any ⟨l.toArray⟩ w hz
    rw [text_list] at this
    exact this
  have R : Hid (rok ⟨k, l, n⟩ = (decide (n = 0) && decide (0 < (rfirst l).2) && decide ((rfirst l).2 = l.length) && decide ((rfirst l).1.kind = k))) := by
    unfold Hid rok; rw [if_neg hk]
  have hkb : (k == 2) = false := beq_f hk
  have HK : Hid (¬ k = 2) := hk
  clear hk hz
  obtain ⟨m, hm⟩ : ∃ m, m = (rfirst l).2 := ⟨_, rfl⟩
  rw [← hm] at R
  have FC2 : Hid (∀ w, Calls Tryd.prog 26 #[.string ⟨l.toArray⟩] w fun e w' => e = .returned (.tuple #[.agg #[.int .i64 (rfirst l).1.kind, .string ⟨(rfirst l).1.text.toArray⟩, .int .i64 (rfirst l).1.num, .int .i64 0], .int .i64 (m : Int)]) ∧ Below w.heap.size w w') := by
    rw [hm]; exact FC.out
  generalize (rfirst l).1 = t' at R FC2
  obtain ⟨k', l', n'⟩ := t'
  clear FC hm
  by_cases hn : n = 0
  · subst hn
    by_cases hm0 : 0 < m
    · have hm0b : decide ((0 : Int) < (m : Int)) = true := decide_eq_true (by omega)
      by_cases hml : m = l.length
      · have hq : ((m : Int) == ((⟨l.toArray⟩ : ByteArray).size : Int)) = true := beq_t (by rw [size_text, hml])
        have hq2 : ((m : Int) == (l.length : Int)) = true := beq_t (by rw [hml])
        have RR : Hid (rok ⟨k, l, 0⟩ = (k' == k)) := by
          unfold Hid; rw [R.out, decide_eq_true hm0, decide_eq_true hml]
          by_cases e : k' = k
          · subst e; simp
          · simp [e]
        clear R hml
        go_enter Tryd.func16, Tryd.ntmps16
        go_wp2_with fail
        refine (FC2.out _).mono ?_
        rintro e w1 ⟨rfl, b1⟩
        have hb : Below w.heap.size w w1 := box_then b1 rfl rfl rfl rfl
        have c0 : w1.cell? ⟨w.heap.size, 0, none⟩ = some (.int .i64 k) := (b1.cell (by simp)).trans (by simp [go_sem])
        have c1 : w1.cell? ⟨w.heap.size, 1, none⟩ = some (.string ⟨l.toArray⟩) := (b1.cell (by simp)).trans (by simp [go_sem])
        have c2 : w1.cell? ⟨w.heap.size, 2, none⟩ = some (.int .i64 0) := (b1.cell (by simp)).trans (by simp [go_sem])
        have hzz : w.heap.size < w1.heap.size := Nat.lt_of_lt_of_le (by simp) b1.size
        clear b1
        go_wp2_with fail
        go_quiet (fail)
        go_wp2_with fail
        go_ret2
        exact ⟨ret_sb (by rw [RR.out]), below_drewN (hb.alloc (Nat.le_of_lt hzz) _) _⟩
      · have hq : ((m : Int) == ((⟨l.toArray⟩ : ByteArray).size : Int)) = false := beq_f (by rw [size_text]; omega)
        have hq2 : ((m : Int) == (l.length : Int)) = false := beq_f (by omega)
        have RR : Hid (rok ⟨k, l, 0⟩ = false) := by unfold Hid; rw [R.out, decide_eq_false hml]; simp
        clear R hml
        go_enter Tryd.func16, Tryd.ntmps16
        go_wp2_with fail
        refine (FC2.out _).mono ?_
        rintro e w1 ⟨rfl, b1⟩
        have hb : Below w.heap.size w w1 := box_then b1 rfl rfl rfl rfl
        have c0 : w1.cell? ⟨w.heap.size, 0, none⟩ = some (.int .i64 k) := (b1.cell (by simp)).trans (by simp [go_sem])
        have c1 : w1.cell? ⟨w.heap.size, 1, none⟩ = some (.string ⟨l.toArray⟩) := (b1.cell (by simp)).trans (by simp [go_sem])
        have c2 : w1.cell? ⟨w.heap.size, 2, none⟩ = some (.int .i64 0) := (b1.cell (by simp)).trans (by simp [go_sem])
        have hzz : w.heap.size < w1.heap.size := Nat.lt_of_lt_of_le (by simp) b1.size
        clear b1
        go_wp2_with fail
        go_quiet (fail)
        go_wp2_with fail
        go_ret2
        exact ⟨ret_sb (by rw [RR.out]), below_drewN (hb.alloc (Nat.le_of_lt hzz) _) _⟩
    · have hm0b : decide ((0 : Int) < (m : Int)) = false := decide_eq_false (by omega)
      have RR : Hid (rok ⟨k, l, 0⟩ = false) := by unfold Hid; rw [R.out, decide_eq_false hm0]; simp
      clear R
      go_enter Tryd.func16, Tryd.ntmps16
      go_wp2_with fail
      refine (FC2.out _).mono ?_
      rintro e w1 ⟨rfl, b1⟩
      have hb : Below w.heap.size w w1 := box_then b1 rfl rfl rfl rfl
      have c0 : w1.cell? ⟨w.heap.size, 0, none⟩ = some (.int .i64 k) := (b1.cell (by simp)).trans (by simp [go_sem])
      have c1 : w1.cell? ⟨w.heap.size, 1, none⟩ = some (.string ⟨l.toArray⟩) := (b1.cell (by simp)).trans (by simp [go_sem])
      have c2 : w1.cell? ⟨w.heap.size, 2, none⟩ = some (.int .i64 0) := (b1.cell (by simp)).trans (by simp [go_sem])
      have hzz : w.heap.size < w1.heap.size := Nat.lt_of_lt_of_le (by simp) b1.size
      clear b1
      go_wp2_with fail
      go_quiet (fail)
      go_wp2_with fail
      go_ret2
      exact ⟨ret_sb (by rw [RR.out]), below_drewN (hb.alloc (Nat.le_of_lt hzz) _) _⟩
  · have hnb : (n == 0) = false := beq_f hn
    have RR : Hid (rok ⟨k, l, n⟩ = false) := by unfold Hid; rw [R.out, decide_eq_false hn]; rfl
    clear R hn
    go_enter Tryd.func16, Tryd.ntmps16
    go_wp2_with fail
    refine (FC2.out _).mono ?_
    rintro e w1 ⟨rfl, b1⟩
    have hb : Below w.heap.size w w1 := box_then b1 rfl rfl rfl rfl
    have c0 : w1.cell? ⟨w.heap.size, 0, none⟩ = some (.int .i64 k) := (b1.cell (by simp)).trans (by simp [go_sem])
    have c1 : w1.cell? ⟨w.heap.size, 1, none⟩ = some (.string ⟨l.toArray⟩) := (b1.cell (by simp)).trans (by simp [go_sem])
    have c2 : w1.cell? ⟨w.heap.size, 2, none⟩ = some (.int .i64 n) := (b1.cell (by simp)).trans (by simp [go_sem])
    have hzz : w.heap.size < w1.heap.size := Nat.lt_of_lt_of_le (by simp) b1.size
    clear b1
    go_wp2_with fail
    go_quiet (fail)
    go_wp2_with fail
    go_ret2
    exact ⟨ret_sb (by rw [RR.out]), below_drewN (hb.alloc (Nat.le_of_lt hzz) _) _⟩
end Go.Proofs.YtdjpjoipdlfooaaDoor
