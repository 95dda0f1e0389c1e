/- Slices of texts: the reference's Same, Words and Join, for every texts of at most some thousand bytes. -/
import Derived.Test.YthglhcabdadlpaaDoorLong
import Derived.Test.YthglhcabdadlpaaDoorWordsPl
import Derived.Deep.QuietTactic
import Derived.BigQuiet
namespace Go.Proofs.YthglhcabdadlpaaDoor
open Go.RowKit

theorem infoStr : (Tryd.prog.info? 9).map (fun i => (i.zero, i.size, i.bytes)) = some (some (.string ⟨#[]⟩), 1, 16) := by kernel_rfl

/-- The texts xs lie from place o of block b on. -/
structure Sa (w : World) (b o : Nat) (xs : List ByteArray) : Prop where
  lt : b < w.heap.size
  get : ∀ j, j < xs.length → w.cell? ⟨b, o + j, none⟩ = some (.string (xs.getD j ByteArray.empty))
theorem Sa.later {w w' : World} {b o : Nat} {xs : List ByteArray} (h : Sa w b o xs) (hb : Below w.heap.size w w') : Sa w' b o xs :=
  ⟨Nat.lt_of_lt_of_le h.lt hb.size, fun j hj => (hb.cell (p := ⟨b, o + j, none⟩) h.lt).trans (h.get j hj)⟩

set_option maxRecDepth 100000 in
set_option maxHeartbeats 400000 in
theorem same_true (b1 o1 c1 b2 o2 c2 : Nat) (xs : List ByteArray) (w : World) (h1 : Sa w b1 o1 xs) (h2 : Sa w b2 o2 xs) (hl : xs.length ≤ 1000000) :
    Calls Tryd.prog 30 #[.slice (some ⟨b1, o1, none⟩) xs.length c1, .slice (some ⟨b2, o2, none⟩) xs.length c2] w fun e w' => e = .returned (.bool true) ∧ Below w.heap.size w w' := by
  have H1 : Hid (Sa w b1 o1 xs) := h1
  have H2 : Hid (Sa w b2 o2 xs) := h2
  clear h1 h2
  go_enter Tryd.func30, Tryd.ntmps30
  go_wp2
  go_loopw [5] (fun i wr => ∃ k : Nat, k ≤ xs.length ∧ i = .int .i64 k ∧ Below w.heap.size w wr) (fun i _ => xs.length - (intOf i).toNat)
  case atStart => exact ⟨0, by omega, rfl, Below.refl _ _⟩
  case round =>
    obtain ⟨k, hk, rfl, hnx⟩ := hrel
    by_cases hlt : k < xs.length
    · obtain ⟨s, hs⟩ : ∃ s, s = xs.getD k ByteArray.empty := ⟨_, rfl⟩
      have hA : wr.cell? ⟨b1, o1 + k, none⟩ = some (.string s) := by rw [hs]; exact (hnx.cell (p := ⟨b1, o1 + k, none⟩) H1.out.lt).trans (H1.out.get k hlt)
      have hB : wr.cell? ⟨b2, o2 + k, none⟩ = some (.string s) := by rw [hs]; exact (hnx.cell (p := ⟨b2, o2 + k, none⟩) H2.out.lt).trans (H2.out.get k hlt)
      clear hs
      go_wp2_with fail
      go_quiet (fail)
      have hnxq : Below w.heap.size w (wr.drewN nq) := below_drewN hnx nq
      clear hnx hA hB
      generalize wr.drewN nq = wq at hnxq ⊢
      go_wp2
      go_roundw
      case rel => exact ⟨k + 1, by omega, by go_num, hnxq⟩
      case measure => simp [intOf]; omega
    · obtain rfl : k = xs.length := by omega
      go_wp2
      go_ret
      exact ⟨rfl, hnx⟩

theorem same_none (a b : Option Addr) (c d : Nat) (w : World) : Calls Tryd.prog 30 #[.slice a 0 c, .slice b 0 d] w fun e w' => e = .returned (.bool true) ∧ w' = w := by
  go_enter Tryd.func30, Tryd.ntmps30
  go_wp2
  refine wp_loop_rounds 1 ?_
  rw [rounds_succ]
  go_wp2
  go_ret
  exact ⟨rfl, rfl⟩

/-- The slice v is a row of the texts xs, among the blocks from base on. -/
def OwnS (w : World) (base : Nat) (v : Value) (xs : List ByteArray) : Prop := w.ownsRow base 9 1 v xs.length (xs.map Value.string)
theorem OwnS.nil (w : World) (base : Nat) : OwnS w base (.slice none 0 0) [] := World.ownsRow_nil _ _ _ _
theorem OwnS.snoc {w wr w1 : World} {o : Obj} {B : Nat} {v v' : Value} {xs : List ByteArray} {s : ByteArray} (hown : OwnS wr B v xs) (hnx : Below B w wr) (hB : B ≤ wr.heap.size)
    (h' : w1.ownsRow B 9 1 v' (xs.length + 1) (xs.map Value.string ++ [.string s])) (hg : (wr.alloc o).grownBy w1 v.ownBlock) : OwnS w1 B v' (xs ++ [s]) ∧ Below B w w1 := by
  refine ⟨?_, (hnx.alloc hB _).grown hg (by simp; omega) (fun g hg => (World.ownsRow.lt hown g hg).1)⟩
  unfold OwnS
  rw [List.length_append, List.map_append]
  exact h'
theorem OwnS.sa {w : World} {base : Nat} {v : Value} {xs : List ByteArray} (h : OwnS w base v xs) (hn : xs ≠ []) :
    ∃ g cap, v = .slice (some ⟨g, 0, none⟩) xs.length cap ∧ xs.length ≤ cap ∧ Sa w g 0 xs := by
  have hc := @World.ownsRow.cells _ _ _ _ _ _ _ h
  have hl := World.ownsRow.lt h
  rcases h.2 with ⟨_, h0⟩ | ⟨g, cap, cur, rfl, hb, _, hnc, _⟩
  · exact absurd (List.length_eq_zero_iff.1 h0) hn
  · refine ⟨g, cap, rfl, hnc, (hl g rfl).2, fun j hj => ?_⟩
    have := @hc g rfl j (.string (xs.getD j ByteArray.empty)) (by simp [hj])
    cases j with
    | zero => simpa [Addr.add] using this
    | succ j => simpa [Addr.add] using this
theorem one_cell_s (w : World) (x : ByteArray) (t : TypeId) : ∀ (j : Nat) u, [Value.string x][j]? = some u → (w.alloc (.cells #[.string x] t)).cell? ((⟨w.heap.size, 0, none⟩ : Addr).add j) = some u := by
  intro j u hj
  match j, hj with
  | 0, hj => simp at hj; subst hj; simp [Addr.add]
theorem one_one_s (x : ByteArray) : ∀ u ∈ [Value.string x], u.oneCell' = true := by
  intro u hu; simp at hu; subst hu; rfl
theorem cut_one (s : ByteArray) (k : Nat) (h : k < s.size) (t : ByteArray) : (t ++ s.extract k (k + 1)).data.toList = t.data.toList ++ [s[k]] := by
  have h1 : (s.extract k (k + 1)).data.toList = [s[k]] := by
    rw [Lib.extract_data, Pl.drop_at s k h, show k + 1 - k = 1 by omega]; rfl
  rw [← h1]
  simp

theorem map_take_succ (xs : List ByteArray) (k : Nat) (h : k < xs.length) : (xs.take (k + 1)).map (·.data.toList) = (xs.take k).map (·.data.toList) ++ [(xs.getD k ByteArray.empty).data.toList] := by
  rw [List.take_succ_eq_append_getElem h, List.map_append]
  simp [List.getD, h]
theorem join_len (xs : List ByteArray) : ∀ k, k ≤ xs.length → (Lib.join ((xs.take k).map (·.data.toList)) [32]).length ≤ tot xs k
  | 0, _ => by simp [Lib.join_nil]
  | k + 1, h => by
    have ih := join_len xs k (by omega)
    rw [map_take_succ xs k (by omega), tot_succ xs k (by omega)]
    have hsz : (xs.getD k ByteArray.empty).data.toList.length = (xs.getD k ByteArray.empty).size := by rw [Array.length_toList, ByteArray.size_data]
    by_cases hk : k = 0
    · subst hk
      rw [List.take_zero, List.map_nil, List.nil_append, Lib.join_one, hsz]; omega
    · rw [Pl.join_snoc _ _ (by
        intro e
        have := congrArg List.length e
        rw [List.length_map, List.length_take, List.length_nil] at this
        omega)]
      simp only [List.length_append, List.length_singleton, hsz]
      omega

set_option maxHeartbeats 400000 in
theorem join_none (a : Option Addr) (cap : Nat) (w : World) : Calls Tryd.prog 33 #[.slice a 0 cap] w fun e w' => e = .returned (.string ⟨#[]⟩) ∧ w' = w := by
  go_enter Tryd.func33, Tryd.ntmps33
  go_wp2_with fail
  refine (Tryd.strings_Join_none a cap _ w).mono ?_
  rintro e w1 ⟨rfl, rfl⟩
  go_wp2
  go_ret
  exact ⟨rfl, rfl⟩
set_option maxHeartbeats 400000 in
theorem join_core (b o cap : Nat) (xs : List ByteArray) (w : World) (hx : Sa w b o xs) (hL : (Lib.join (xs.map (·.data.toList)) [32]).length ≤ 100000000) (hl : xs.length ≤ 100000000) (hc : xs.length ≤ cap) :
    Calls Tryd.prog 33 #[.slice (some ⟨b, o, none⟩) xs.length cap] w fun e w' => e = .returned (.string ⟨(Lib.join (xs.map (·.data.toList)) [32]).toArray⟩) ∧ Below w.heap.size w w' := by
  have HX : Hid (Sa w b o xs) := hx
  have HL : Hid ((Lib.join (xs.map (·.data.toList)) [32]).length ≤ 140737488355328) := by unfold Hid; omega
  clear hx hL
  go_enter Tryd.func33, Tryd.ntmps33
  go_wp2_with fail
  refine (Tryd.strings_Join b o cap xs ⟨#[32]⟩ w ?_ HX.out.lt (by omega) hc HL.out).mono ?_
  · intro j x hj
    have hjl : j < xs.length := (List.getElem?_eq_some_iff.1 hj).1
    have := HX.out.get j hjl
    rw [this]
    simp [List.getD, hj]
  · rintro e w1 ⟨rfl, hb⟩
    go_wp2
    go_ret
    exact ⟨rfl, hb⟩
theorem join_any (b o cap : Nat) (xs : List ByteArray) (w : World) (hx : Sa w b o xs) (ht : tot xs xs.length ≤ 3000) (hl : xs.length ≤ 3000) (hc : xs.length ≤ cap) :
    Calls Tryd.prog 33 #[.slice (some ⟨b, o, none⟩) xs.length cap] w fun e w' => e = .returned (.string ⟨(Lib.join (xs.map (·.data.toList)) [32]).toArray⟩) ∧ Below w.heap.size w w' := by
  have := join_len xs xs.length (Nat.le_refl _)
  rw [List.take_of_length_le (Nat.le_refl _)] at this
  exact join_core b o cap xs w hx (by omega) (by omega) hc
end Go.Proofs.YthglhcabdadlpaaDoor
