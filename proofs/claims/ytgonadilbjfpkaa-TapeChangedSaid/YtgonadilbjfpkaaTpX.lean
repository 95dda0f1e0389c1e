/- Layer 13: bytes as texts; numbers read by both. -/
import Derived.Test.YtgonadilbjfpkaaTpW
import Derived.Laws.BytesArg
import Derived.Laws.StructEq
namespace Go.Proofs.Ytgonadilbjfpkaa
open Go.RowKit
set_option linter.unusedVariables false
set_option linter.unusedSimpArgs false
/-- Bytes as a text. -/
theorem cv_some (w : World) (g c : Nat) (l : List Int) (h : ∀ j x, l[j]? = some x → w.cell? ⟨g, j, none⟩ = some (.int .u8 x)) : (convert 22 9 (.slice (some ⟨g, 0, none⟩) l.length c)).run Try.prog w = .ok (.string (strOfNums l)) w :=
  run_convert_bytes_arg w 22 5 Try.underlying22 Try.underlying5 g 0 l.length c l rfl (fun i hi => by
    have hx : l[i]? = some l[i] := List.getElem?_eq_getElem hi
    rw [Nat.zero_add, h i _ hx]
    simp [List.getD, hx]) 9 Try.underlying9
theorem readNum_self (w : World) (n : Int) (g c : Nat) (h0 : -9223372036854775808 ≤ n) (h1 : n ≤ 9223372036854775807) (hg : g < w.heap.size) (hc : (Tp.dg (Tp.zg n)).length ≤ c) (h : ∀ j x, (Tp.dg (Tp.zg n))[j]? = some x → w.cell? ⟨g, j, none⟩ = some (.int .u8 x)) :
    Calls Try.prog 10 #[.slice (some ⟨g, 0, none⟩) (Tp.dg (Tp.zg n)).length c, .int .i64 0] w fun e w' => e = .returned (.tuple #[.int .i64 n, .int .i64 ((Tp.dg (Tp.zg n)).length : Int), .int .i64 0]) ∧ w' = w := by
  have hz := Tp.zg_lt n h0 h1
  have r := readNum_in (Tp.dg (Tp.zg n)) 0 (some ⟨g, 0, none⟩) c w (Tp.dg_byt _ hz) (B := w.heap.size) (fun _ => ⟨g, 0, rfl, hg, fun j x hj => by rw [Nat.zero_add]; exact h j x hj⟩) hc (by have := Tp.dg_len (Tp.zg n); omega) (Nat.zero_le _)
  have e := Tp.rd_dg (Tp.zg n) [] hz
  rw [List.append_nil] at e
  rw [List.drop_zero, e] at r
  simpa [rnV, Tp.zag_zg] using r
/-- What ReadNum answers anywhere. -/
theorem readBoth (w : World) (a : Option Addr) (b : List Int) (c : Nat) (at' : Int) (hm : ByS w.heap.size w a b) (hb : Tp.Byt b) (hc : b.length ≤ c) (hl : b.length ≤ 1000000000000000) :
    ∃ x y z : Int, (Calls Try.prog 10 #[.slice a b.length c, .int .i64 at'] w fun e w' => e = .returned (.tuple #[.int .i64 x, .int .i64 y, .int .i64 z]) ∧ w' = w) ∧ (Calls Try.prog 11 #[.slice a b.length c, .int .i64 at'] w fun e w' => e = .returned (.tuple #[.int .i64 x, .int .i64 y, .int .i64 z]) ∧ w' = w) := by
  by_cases h : at' < 0 ∨ (b.length : Int) < at'
  · exact ⟨0, 0, 1, readNum_out b.length at' a c w (by omega) h, rReadNum_out b.length at' a c w (by omega) h⟩
  · obtain ⟨k, rfl⟩ : ∃ k : Nat, at' = k := ⟨at'.toNat, by omega⟩
    have r1 := readNum_in b k a c w hb hm hc (by omega) (by omega)
    have r2 := rReadNum_in b k a c w hb hm hc (by omega) (by omega)
    cases hr : Tp.rdF 0 0 (b.drop k) with
    | inl p => rw [hr] at r1 r2; exact ⟨_, _, _, r1, r2⟩
    | inr x => rw [hr] at r1 r2; exact ⟨_, _, _, r1, r2⟩
theorem cv_at (w : World) (g o c : Nat) (l : List Int) (h : ∀ j x, l[j]? = some x → w.cell? ⟨g, o + j, none⟩ = some (.int .u8 x)) : (convert 22 9 (.slice (some ⟨g, o, none⟩) l.length c)).run Try.prog w = .ok (.string (strOfNums l)) w :=
  run_convert_bytes_arg w 22 5 Try.underlying22 Try.underlying5 g o l.length c l rfl (fun i hi => by
    have hx : l[i]? = some l[i] := List.getElem?_eq_getElem hi
    rw [h i _ hx]
    simp [List.getD, hx]) 9 Try.underlying9
theorem map_inj8 (a b : List Int) (ha : Tp.Byt a) (hb : Tp.Byt b) (e : a.map (fun n => UInt8.ofNat n.toNat) = b.map (fun n => UInt8.ofNat n.toNat)) : a = b := by
  induction a generalizing b with
  | nil => cases b with
    | nil => rfl
    | cons y b => simp at e
  | cons x a ih =>
    cases b with
    | nil => simp at e
    | cons y b =>
      simp only [List.map_cons, List.cons.injEq] at e
      obtain ⟨e1, e2⟩ := e
      have hx := ha x (by simp)
      have hy := hb y (by simp)
      have e3 : x.toNat = y.toNat := by
        have := congrArg UInt8.toNat e1
        simp only [UInt8.toNat_ofNat'] at this
        omega
      have : x = y := by omega
      rw [this, ih b (fun c hc => ha c (by simp [hc])) (fun c hc => hb c (by simp [hc])) e2]
theorem str_ne {a b : List Int} (ha : Tp.Byt a) (hb : Tp.Byt b) (h : a ≠ b) : (strOfNums a == strOfNums b) = false := by
  rw [beq_toListBytes, ByteArray.toList_eq, ByteArray.toList_eq]
  exact beq_eq_false_iff_ne.2 (fun e => h (map_inj8 a b ha hb e))
theorem str_eq (a : List Int) : (strOfNums a == strOfNums a) = true := by
  rw [beq_toListBytes]
  exact beq_self_eq_true _
theorem str_neL {a b : List Int} (ha : Tp.Byt a) (hb : Tp.Byt b) (h : a ≠ b) : ((strOfNums a).toList == (strOfNums b).toList) = false := by
  rw [← beq_toListBytes]; exact str_ne ha hb h
theorem str_eqL (a : List Int) : ((strOfNums a).toList == (strOfNums a).toList) = true := beq_self_eq_true _
theorem slcB (ga o n c k k4 : Nat) (h1 : k ≤ k4) (h2 : k4 ≤ c) (h3 : ¬ c = k) (W : World) : (Instr.slice 22 (.slice (some ⟨ga, o, none⟩) n c) (some (.int .i64 k)) (some (.int .i64 k4)) none).run Try.prog W = .ok (.slice (some ⟨ga, o + k, none⟩) (k4 - k) (c - k)) W := by
  have e1 : (k : Int) ≤ (k4 : Int) := by omega
  have e2 : (k4 : Int) ≤ (c : Int) := by omega
  simp [go_sem, Try.underlying22, h3, e1, e2, adT]
end Go.Proofs.Ytgonadilbjfpkaa
