/- LexMany walked. -/
import Derived.Test.YtdjpjoipdlfooaaDoorLexF
namespace Go.Proofs.YtdjpjoipdlfooaaDoor
open Go.RowKit

set_option maxRecDepth 100000 in
set_option maxHeartbeats 1000000 in
theorem among_any (a n : Int) (w : World) (hn : 0 < n) (hn2 : n ≤ 1000000) : Calls Tryd.prog 17 #[.int .i64 a, .int .i64 n] w fun e w' => ∃ r : Nat, e = .returned (.int .i64 (r : Int)) ∧ (r : Int) < n ∧ w' = w := by
  have hb1 := Int.tmod_lt_of_pos a hn
  have hb2 := Int.lt_tmod_of_pos a hn
  generalize hq : a.tmod n = q at hb1 hb2
  by_cases h0 : 0 ≤ q
  · go_enter Tryd.func17, Tryd.ntmps17
    go_wp2
    go_ret
    exact ⟨q.toNat, by rw [Int.toNat_of_nonneg h0]; rfl, by omega, rfl⟩
  · go_enter Tryd.func17, Tryd.ntmps17
    go_wp2
    go_ret
    exact ⟨(q + n).toNat, by rw [Int.toNat_of_nonneg (by omega)]; rfl, by omega, rfl⟩

/-- A word of two bytes, n times. -/
def rep (c : UInt8) : Nat → List UInt8
  | 0 => []
  | n + 1 => c :: 32 :: rep c n
theorem rep_len (c : UInt8) : ∀ n, (rep c n).length = 2 * n
  | 0 => rfl
  | n + 1 => by simp only [rep, List.length_cons, rep_len c n]; omega
theorem rep_add (c : UInt8) (m : Nat) : ∀ n, rep c (n + m) = rep c n ++ rep c m
  | 0 => by simp [rep]
  | n + 1 => by rw [Nat.add_right_comm, rep, rep, rep_add c m n]; rfl
theorem rep_drop (c : UInt8) : ∀ n k, (rep c n).drop (2 * k) = rep c (n - k)
  | n, 0 => rfl
  | 0, k + 1 => by simp [rep]
  | n + 1, k + 1 => by
    rw [rep, show 2 * (k + 1) = 2 * k + 1 + 1 by omega, List.drop_succ_cons, List.drop_succ_cons, rep_drop c n k]
    congr 1
    omega
theorem rep_take (c : UInt8) : ∀ n k, k ≤ n → (rep c n).take (2 * k) = rep c k
  | n, 0, _ => by simp [rep]
  | 0, k + 1, h => absurd h (by omega)
  | n + 1, k + 1, h => by
    rw [rep, show 2 * (k + 1) = 2 * k + 1 + 1 by omega, List.take_succ_cons, List.take_succ_cons, rep_take c n k (by omega), rep]
theorem rep_first {c : UInt8} (hc : c = 97 ∨ c = 59) (t : List UInt8) : ∃ tk, tk.kind ≠ 0 ∧ Lx.first (c :: 32 :: t) = some (tk, 1) := by
  rcases hc with rfl | rfl
  · exact ⟨⟨1, [97], 0⟩, by decide, rfl⟩
  · exact ⟨⟨4, [59], 0⟩, by decide, rfl⟩
theorem rep_blank {c : UInt8} (hc : c = 97 ∨ c = 59) (n : Nat) : Lx.blank false (rep c n) = 0 := by
  cases n with
  | zero => rfl
  | succ n => rcases hc with rfl | rfl <;> rfl
theorem scan_rep {c : UInt8} (hc : c = 97 ∨ c = 59) (n : Nat) : ∀ (f k at' : Nat) (ts : List (Lx.Tk × Nat)), Lx.skip (rep c n) at' = 2 * k → ts.length = k → k ≤ n → k ≤ 4000 → n < f + k →
    (4000 ≤ n → Lx.scanF (rep c n) f at' ts = ([], 8000, 2)) ∧ (n < 4000 → ∃ r, Lx.scanF (rep c n) f at' ts = (r, 0, 0) ∧ r.length = n + 1)
  | 0, k, at', ts, _, _, h3, _, h5 => absurd h5 (by omega)
  | f + 1, k, at', ts, h1, h2, h3, h4, h5 => by
    rw [Lx.scanF, h1, rep_drop]
    by_cases hkn : k = n
    · subst hkn
      rw [Nat.sub_self]
      simp only [rep, Lx.first]
      by_cases h40 : k = 4000
      · subst h40
        rw [if_pos h2]
        exact ⟨fun _ => rfl, fun h => absurd h (by omega)⟩
      · rw [if_neg (by omega), if_pos trivial]
        exact ⟨fun h => absurd h (by omega), fun _ => ⟨_, rfl, by simp [h2]⟩⟩
    · obtain ⟨q, hq⟩ : ∃ q, n - k = q + 1 := ⟨n - k - 1, by omega⟩
      obtain ⟨tk, hk0, hf⟩ := rep_first hc (rep c q)
      rw [hq, rep, hf]
      simp only
      by_cases h40 : k = 4000
      · subst h40
        rw [if_pos h2]
        exact ⟨fun _ => rfl, fun h => absurd h (by omega)⟩
      · rw [if_neg (by omega), if_neg hk0]
        refine scan_rep hc n f (k + 1) (2 * k + 1) (ts ++ [(tk, 2 * k)]) ?_ (by simp [h2]) (by omega) (by omega) (by omega)
        unfold Lx.skip
        have : (rep c n).drop (2 * k + 1) = 32 :: rep c q := by
          rw [← List.drop_drop, rep_drop, hq, rep]; rfl
        rw [this]
        have hb := rep_blank hc q
        have : Lx.blank false (32 :: rep c q) = Lx.blank false (rep c q) + 1 := rfl
        omega
theorem scan_many {c : UInt8} (hc : c = 97 ∨ c = 59) (n : Nat) (hn : n < 5000) :
    (4000 ≤ n → Lx.scan (rep c n) = ([], 8000, 2)) ∧ (n < 4000 → ∃ r, Lx.scan (rep c n) = (r, 0, 0) ∧ r.length = n + 1) := by
  have e : Lx.scan (rep c n) = Lx.scanF (rep c n) (2 * n + 1) 0 [] := by unfold Lx.scan; rw [if_neg (by rw [rep_len]; omega), rep_len]
  rw [e]
  exact scan_rep hc n (2 * n + 1) 0 0 [] (by unfold Lx.skip; rw [List.drop_zero, rep_blank hc]) rfl (by omega) (by omega) (by omega)

theorem size_of_list {s : ByteArray} {l : List UInt8} (h : s.data.toList = l) : s.size = l.length := by rw [← h, size_len']
theorem rep_four (c : UInt8) (s : ByteArray) (m : Nat) (h : s.data.toList = rep c m) : (s ++ ⟨#[c, 32]⟩ ++ ⟨#[c, 32]⟩ ++ ⟨#[c, 32]⟩ ++ ⟨#[c, 32]⟩ : ByteArray).data.toList = rep c (m + 4) := by
  rw [rep_add]
  simp [rep, h]

end Go.Proofs.YtdjpjoipdlfooaaDoor
