/- Where Scan's tokens stand, and that they are right (plain). -/
import Derived.Test.YtdjpjoipdlfooaaDoorScanT
import Derived.Test.YtdjpjoipdlfooaaDoorLexT
import Derived.Test.YtdjpjoipdlfooaaDoorLexK
import Derived.Test.YtdjpjoipdlfooaaDoorTextsPl
namespace Go.Proofs.YtdjpjoipdlfooaaDoor
open Go.RowKit

theorem first_txt {z : List UInt8} {t : Lx.Tk} {n : Nat} (h : Lx.first z = some (t, n)) (hk : ¬ t.kind = 0) (p : Int) : txt (t, p) = z.take n ∧ n ≤ z.length ∧ midTk (t, p) = true ∧ -9223372036854775808 ≤ t.num ∧ t.num ≤ 9223372036854775807 := by
  have hn : n ≤ z.length := by
    rcases Lx.first_len h with ⟨_, e, _⟩ | ⟨_, _, h3⟩
    · exact absurd (by rw [e]) hk
    · exact h3
  cases z with
  | nil => unfold Lx.first at h; cases h; exact absurd rfl hk
  | cons c r =>
    have h : (if Lx.let1 c.toNat then Lx.fword (c :: r) else if Lx.dig1 c.toNat then Lx.fint (c :: r) else Lx.fsign (c :: r)) = some (t, n) := h
    split at h
    · unfold Lx.fword at h
      split at h
      · rename_i hK
        cases h
        refine ⟨rfl, hn, ?_, by simp, by simp⟩
        unfold midTk rtk
        simp [hK]
      · split at h
        · rename_i hK
          cases h
          refine ⟨rfl, hn, ?_, by simp, by simp⟩
          unfold midTk rtk
          simp [hK]
        · cases h
    · split at h
      · rename_i hd
        unfold Lx.fint at h
        split at h
        · cases h
        · rename_i v hv
          split at h
          · cases h
          · cases h
            have e := Pl.itoa_parse hv
            refine ⟨?_, hn, ?_, (Pl.parse_bd hv).1, (Pl.parse_bd hv).2⟩
            · unfold txt; rw [if_pos rfl]; exact e
            · have hpos : 0 ≤ v := by
                have hl : ∀ t, (c :: r).take (Lx.run Lx.dig1 (c :: r)) ≠ 45 :: t := by
                  intro t ht
                  have h1 : 1 ≤ Lx.run Lx.dig1 (c :: r) := Lx.run_pos hd
                  obtain ⟨m, hm⟩ : ∃ m, Lx.run Lx.dig1 (c :: r) = m + 1 := ⟨_, (Nat.sub_add_cancel h1).symm⟩
                  rw [hm, List.take_succ_cons] at ht
                  have hc : c = 45 := (List.cons.inj ht).1
                  subst hc
                  revert hd; decide
                rw [Pl.parse_pos _ hl] at hv
                obtain ⟨m, _, rfl⟩ := Option.map_eq_some_iff.1 hv
                omega
              unfold midTk rtk
              simp [hpos]
      · have key : ∀ z g, Lx.signBy z (c :: r) = some g → g = (c :: r).take g.length ∧ Lx.isSign g = true := by
          intro z g hg
          have h1 := List.find?_some hg
          have h2 := List.mem_of_find?_eq_some hg
          simp only [Bool.and_eq_true, decide_eq_true_eq] at h1
          refine ⟨List.prefix_iff_eq_take.1 (List.isPrefixOf_iff_prefix.1 h1.2), ?_⟩
          unfold Lx.isSign
          simpa using h2
        unfold Lx.fsign at h
        split at h
        · rename_i g hg
          have := key _ _ hg
          cases h
          refine ⟨?_, hn, ?_, by simp, by simp⟩
          · unfold txt; rw [if_neg (show ¬ (4 : Int) = 2 by decide)]; exact this.1
          · unfold midTk rtk
            simp [this.2]
        · split at h
          · rename_i g hg
            have := key _ _ hg
            cases h
            refine ⟨?_, hn, ?_, by simp, by simp⟩
            · unfold txt; rw [if_neg (show ¬ (4 : Int) = 2 by decide)]; exact this.1
            · unfold midTk rtk
              simp [this.2]
          · cases h
def tk0 : Lx.Tk × Nat := (⟨0, [], 0⟩, 0)
/-- What holds of token number i of a row. -/
structure Stands (l : List UInt8) (S : List (Lx.Tk × Nat)) (i : Nat) : Prop where
  mid : midTk (tkI (S.getD i tk0)) = true
  le : (S.getD i tk0).2 + (txt (tkI (S.getD i tk0))).length ≤ (S.getD (i + 1) tk0).2
  lt : (S.getD (i + 1) tk0).2 ≤ l.length
  n0 : -9223372036854775808 ≤ (S.getD i tk0).1.num
  n1 : (S.getD i tk0).1.num ≤ 9223372036854775807
  at' : (l.drop (S.getD i tk0).2).take (txt (tkI (S.getD i tk0))).length = txt (tkI (S.getD i tk0))
theorem toks_stand {l : List UInt8} {x : Nat} {S : List (Lx.Tk × Nat)} (h : Lx.Toks l x S) : x ≤ l.length → (∀ i, i + 1 < S.length → Stands l S i) ∧ S.getD (S.length - 1) tk0 = (⟨0, [], 0⟩, l.length) := by
  induction h with
  | done x t n hf hk =>
    intro hx
    obtain ⟨h1, rfl⟩ := Lx.first_end hx hf hk
    refine ⟨fun i hi => by simp at hi, ?_⟩
    simp [h1]
  | more x t n S hf hk h ih =>
    intro hx
    have h1 := Lx.first_in hx hf hk
    obtain ⟨ih1, ih2⟩ := ih (by omega)
    obtain ⟨f1, f2, f3, f4, f5⟩ := first_txt hf hk ((Lx.skip l x : Nat) : Int)
    obtain ⟨y, S', rfl⟩ : ∃ y S', S = y :: S' := by cases S with | nil => exact absurd rfl h.ne | cons a b => exact ⟨a, b, rfl⟩
    have hg := h.ge (by omega) y (by simp)
    refine ⟨fun i hi => ?_, ?_⟩
    · cases i with
      | zero =>
        have e : (txt (tkI (t, Lx.skip l x))).length = n := by
          show (txt (t, ((Lx.skip l x : Nat) : Int))).length = n
          rw [f1, List.length_take]; omega
        refine ⟨f3, ?_, hg.2, f4, f5, ?_⟩
        · show Lx.skip l x + (txt (tkI (t, Lx.skip l x))).length ≤ y.2
          rw [e]; exact hg.1
        · show (l.drop (Lx.skip l x)).take (txt (tkI (t, Lx.skip l x))).length = txt (tkI (t, Lx.skip l x))
          rw [e]; exact f1.symm
      | succ i =>
        have := ih1 i (by simpa using hi)
        exact ⟨this.mid, this.le, this.lt, this.n0, this.n1, this.at'⟩
    · have : ((t, Lx.skip l x) :: y :: S').length - 1 = (y :: S').length - 1 + 1 := by simp
      rw [this, List.getD_cons_succ]
      exact ih2
theorem map_tk (S : List (Lx.Tk × Nat)) (i : Nat) (hi : i < S.length) : (S.map tkI).getD i tok0 = tkI (S.getD i tk0) := by simp [hi]
theorem toks_right {l : List UInt8} {S : List (Lx.Tk × Nat)} (h : Lx.Toks l 0 S) : rightL (S.map tkI) = true := by
  obtain ⟨h1, h2⟩ := toks_stand h (Nat.zero_le _)
  have hl : 0 < S.length := by cases S with | nil => exact absurd rfl h.ne | cons a b => simp
  obtain ⟨m, hm⟩ : ∃ m, S.length = m + 1 := ⟨S.length - 1, by omega⟩
  rw [rightL_end (m := m) (by simp [hm]) (fun j hj => by rw [map_tk S j (by omega)]; exact (h1 j (by omega)).mid), map_tk S m (by omega)]
  rw [hm, Nat.add_sub_cancel] at h2
  rw [h2]; rfl
theorem scanF_err (l : List UInt8) : ∀ (f at' : Nat) (ts : List (Lx.Tk × Nat)), at' ≤ l.length → ¬ (Lx.scanF l f at' ts).2.2 = 0 → (Lx.scanF l f at' ts).1 = [] ∧ (Lx.scanF l f at' ts).2.1 ≤ l.length
  | 0, at', ts, h, he => absurd rfl he
  | f + 1, at', ts, h, he => by
    rw [Lx.scanF] at he ⊢
    cases hF : Lx.first (l.drop (Lx.skip l at')) with
    | none => exact ⟨rfl, Lx.skip_le l at' h⟩
    | some x =>
      obtain ⟨t, n⟩ := x
      rw [hF] at he
      simp only at he ⊢
      split at he
      · rename_i h4
        rw [if_pos h4]; exact ⟨rfl, Lx.skip_le l at' h⟩
      · rename_i h4
        rw [if_neg h4]
        split at he
        · exact absurd rfl he
        · rename_i hk
          rw [if_neg hk]
          have := Lx.first_in h hF hk
          exact scanF_err l f _ _ (by omega) he
theorem scanF_ok (l : List UInt8) : ∀ (f at' : Nat) (ts : List (Lx.Tk × Nat)), (Lx.scanF l f at' ts).2.2 = 0 → (Lx.scanF l f at' ts).2.1 = 0
  | 0, at', ts, he => rfl
  | f + 1, at', ts, he => by
    rw [Lx.scanF] at he ⊢
    cases hF : Lx.first (l.drop (Lx.skip l at')) with
    | none => rw [hF] at he; exact absurd he (show ¬ (20 : Int) = 0 by decide)
    | some x =>
      obtain ⟨t, n⟩ := x
      rw [hF] at he
      simp only at he ⊢
      split at he
      · exact absurd he (show ¬ (2 : Int) = 0 by decide)
      · rename_i h4
        rw [if_neg h4]
        split at he
        · rename_i hk; rw [if_pos hk]
        · rename_i hk
          rw [if_neg hk]
          exact scanF_ok l f _ _ he
theorem scan_err {l : List UInt8} (he : ¬ (Lx.scan l).2.2 = 0) : (Lx.scan l).1 = [] ∧ (Lx.scan l).2.1 ≤ l.length := by
  unfold Lx.scan at *
  split
  · exact ⟨rfl, Nat.zero_le _⟩
  · rename_i h
    rw [if_neg h] at he
    exact scanF_err l _ 0 [] (Nat.zero_le _) he
theorem scan_ok {l : List UInt8} (he : (Lx.scan l).2.2 = 0) : Lx.scan l = ((Lx.scan l).1, 0, 0) := by
  have h : (Lx.scan l).2.1 = 0 := by
    unfold Lx.scan at *
    split
    · rfl
    · rename_i h
      rw [if_neg h] at he
      exact scanF_ok l _ 0 [] he
  rw [Prod.ext_iff, Prod.ext_iff]
  exact ⟨rfl, h, he⟩
set_option maxRecDepth 100000 in
set_option maxHeartbeats 400000 in
theorem scan_long (s : ByteArray) (w : World) (hs : 16384 < s.size) : Calls Tryd.prog 13 #[.string s] w fun e w' => ScanIs s.data.toList w e w' := by
  have S0 : Hid (Lx.scan s.data.toList = ([], 0, 2)) := by unfold Hid Lx.scan; rw [if_pos (by rw [size_len']; exact hs)]
  go_enter Tryd.func13, Tryd.ntmps13
  go_wp2_with fail
  go_ret3
  refine ⟨_, ret3 (by rw [S0.out]; rfl) (by rw [S0.out]), ?_, Below.refl _ _⟩
  rw [S0.out]; exact OwnT.nil _ _
theorem scan_any (s : ByteArray) (w : World) (hk : Kw w) : Calls Tryd.prog 13 #[.string s] w fun e w' => ScanIs s.data.toList w e w' := by
  by_cases hs : s.size ≤ 16384
  · exact scan_short s w hs hk
  · exact scan_long s w (by omega)
end Go.Proofs.YtdjpjoipdlfooaaDoor
