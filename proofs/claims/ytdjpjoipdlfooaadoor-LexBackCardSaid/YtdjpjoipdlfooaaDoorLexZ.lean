/- An argument that is a slice of tokens: what the calls of layer 2 answer of it; LexPrints walked. -/
import Derived.Test.YtdjpjoipdlfooaaDoorLexY
import Derived.Test.YtdjpjoipdlfooaaDoorLexK
namespace Go.Proofs.YtdjpjoipdlfooaaDoor
open Go.RowKit

/-- The value v is a slice of the tokens ts. -/
structure ArgT (w : World) (v : Value) (ts : List Tok) : Prop where
  sl : (ts = [] ∧ ∃ a cap, v = .slice a 0 cap) ∨ (0 < ts.length ∧ ∃ b o cap, v = .slice (some ⟨b, o, none⟩) ts.length cap ∧ ts.length ≤ cap ∧ Ta w b o ts)
  zt : ∀ j, j < ts.length → (ts.getD j tok0).1.text.length ≤ 140737488351232
  nb : ∀ j, j < ts.length → -9223372036854775808 ≤ (ts.getD j tok0).1.num ∧ (ts.getD j tok0).1.num ≤ 9223372036854775807
theorem ArgT.later {w w' : World} {v : Value} {ts : List Tok} (h : ArgT w v ts) (b : Below w.heap.size w w') : ArgT w' v ts :=
  ⟨by
    rcases h.sl with h1 | ⟨h1, b0, o, cap, h2, h3, h4⟩
    · exact .inl h1
    · exact .inr ⟨h1, b0, o, cap, h2, h3, h4.later b⟩, h.zt, h.nb⟩
def pT (ts : List Tok) : List UInt8 := if rightL ts then printL ts else []
def pE (ts : List Tok) : Int := if rightL ts then 0 else 32
theorem right_nil : rightL [] = false := rfl
theorem printL_len (ts : List Tok) (hb : ∀ j, j < ts.length → -9223372036854775808 ≤ (ts.getD j tok0).1.num ∧ (ts.getD j tok0).1.num ≤ 9223372036854775807) (h6 : totK ts ts.length ≤ 6000) : (printL ts).length ≤ 200000 := by
  by_cases h0 : ts.length = 0
  · have : ts = [] := List.length_eq_zero_iff.1 h0
    subst this
    decide
  · obtain ⟨m, hm⟩ : ∃ m, ts.length = m + 1 := ⟨ts.length - 1, by omega⟩
    obtain ⟨xs, hx⟩ : ∃ xs : List ByteArray, xs = (texts ts m).map fun l => ⟨l.toArray⟩ := ⟨_, rfl⟩
    have hx2 : xs.map (·.data.toList) = texts ts m := by rw [hx, List.map_map]; simp [Function.comp_def]
    have h1 := tot_texts ts hb m xs (by omega) hx2
    have h2 := join_len xs xs.length (Nat.le_refl _)
    rw [List.take_length, hx2] at h2
    rw [hm] at h6
    unfold totK at h6
    have hk := totK_ge ts m
    unfold printL
    rw [hm, Nat.add_sub_cancel]
    omega

section
variable {w w' : World} {v : Value} {ts : List Tok}
theorem a_many (A : ArgT w v ts) (b : Below w.heap.size w w') : Calls Tryd.prog 7 #[v] w' fun e w'' => ∃ m : Bool, e = .returned (.bool m) ∧ (m = false → totK ts ts.length ≤ 6000) ∧ w'' = w' := by
  have A' := A.later b
  rcases A'.sl with ⟨rfl, a, cap, rfl⟩ | ⟨h1, b0, o, cap, rfl, h3, h4⟩
  · refine (many_zero a cap w').mono ?_
    rintro e w'' ⟨rfl, rfl⟩
    exact ⟨false, rfl, fun _ => Nat.zero_le _, rfl⟩
  · exact many_tok b0 o cap ts w' h4 A'.zt
theorem a_len (h6 : totK ts ts.length ≤ 6000) : ts.length ≤ 6000 := Nat.le_trans (totK_ge ts _) h6
theorem a_text (h6 : totK ts ts.length ≤ 6000) (j : Nat) (hj : j < ts.length) : (ts.getD j tok0).1.text.length ≤ 6000 := Nat.le_trans (totK_text ts _ j hj) h6
theorem a_right (A : ArgT w v ts) (hk : Kw w) (b : Below w.heap.size w w') (h6 : totK ts ts.length ≤ 6000) : Calls Tryd.prog 11 #[v] w' fun e w'' => e = .returned (.bool (rightL ts)) ∧ Below w'.heap.size w' w'' := by
  have A' := A.later b
  have hl := a_len h6
  rcases A'.sl with ⟨rfl, a, cap, rfl⟩ | ⟨h1, b0, o, cap, rfl, h3, h4⟩
  · refine (right_none a cap w').mono ?_
    rintro e w'' ⟨rfl, rfl⟩
    exact ⟨rfl, Below.refl _ _⟩
  · exact right_some b0 o cap ts w' h4 h1 (by omega) h3 (fun j hj => Nat.le_trans (a_text h6 j hj) (by decide)) (hk.later b)
theorem a_rright (A : ArgT w v ts) (b : Below w.heap.size w w') (h6 : totK ts ts.length ≤ 6000) : Calls Tryd.prog 12 #[v] w' fun e w'' => e = .returned (.bool (rightL ts)) ∧ Below w'.heap.size w' w'' := by
  have A' := A.later b
  have hl := a_len h6
  rcases A'.sl with ⟨rfl, a, cap, rfl⟩ | ⟨h1, b0, o, cap, rfl, h3, h4⟩
  · refine (rright_none a cap w').mono ?_
    rintro e w'' ⟨rfl, rfl⟩
    exact ⟨rfl, Below.refl _ _⟩
  · exact rright_some b0 o cap ts w' h4 h1 (by omega) (fun j hj => Nat.le_trans (a_text h6 j hj) (by omega)) A'.nb
theorem a_print (A : ArgT w v ts) (hk : Kw w ∧ Tab w) (b : Below w.heap.size w w') (h6 : totK ts ts.length ≤ 6000) : Calls Tryd.prog 9 #[v] w' fun e w'' => e = .returned (.tuple #[.string ⟨(pT ts).toArray⟩, .int .i64 (pE ts)]) ∧ Below w'.heap.size w' w'' := by
  have A' := A.later b
  have hl := a_len h6
  rcases A'.sl with ⟨rfl, a, cap, rfl⟩ | ⟨h1, b0, o, cap, rfl, h3, h4⟩
  · refine (print_none a cap w').mono ?_
    rintro e w'' ⟨rfl, rfl⟩
    exact ⟨rfl, Below.refl _ _⟩
  · cases hr : rightL ts with
    | true =>
      unfold pT pE
      rw [hr]
      exact print_right b0 o cap ts w' h4 h1 (by omega) h3 (fun j hj => Nat.le_trans (a_text h6 j hj) (by decide)) A'.nb (Nat.le_trans (printL_len ts A'.nb h6) (by decide)) (hk.1.later b) (hk.2.later b (Nat.le_refl _)) hr
    | false =>
      unfold pT pE
      rw [hr]
      exact print_wrong b0 o cap ts w' h4 h1 (by omega) h3 (fun j hj => Nat.le_trans (a_text h6 j hj) (by decide)) (hk.1.later b) hr
theorem a_rprint (A : ArgT w v ts) (b : Below w.heap.size w w') (h6 : totK ts ts.length ≤ 6000) : Calls Tryd.prog 10 #[v] w' fun e w'' => e = .returned (.tuple #[.string ⟨(pT ts).toArray⟩, .int .i64 (pE ts)]) ∧ Below w'.heap.size w' w'' := by
  have A' := A.later b
  have hl := a_len h6
  rcases A'.sl with ⟨rfl, a, cap, rfl⟩ | ⟨h1, b0, o, cap, rfl, h3, h4⟩
  · refine (rprint_none a cap w').mono ?_
    rintro e w'' ⟨rfl, rfl⟩
    exact ⟨rfl, Below.refl _ _⟩
  · cases hr : rightL ts with
    | true =>
      unfold pT pE
      rw [hr]
      exact rprint_right b0 o cap ts w' h4 h1 hl h6 A'.nb hr
    | false =>
      unfold pT pE
      rw [hr]
      exact rprint_wrong b0 o cap ts w' h4 h1 hl h6 A'.nb hr
end

set_option maxRecDepth 100000 in
set_option maxHeartbeats 1000000 in
theorem prints_walk (v : Value) (ts : List Tok) (w : World) (ht : Kw w ∧ Tab w) (ha : ArgT w v ts) : Calls Tryd.prog 3 #[v] w fun e w' => e = .returned (.bool true) ∧ Below w.heap.size w w' := by
  have HT : Hid (Kw w ∧ Tab w) := ht
  have HA : Hid (ArgT w v ts) := ha
  clear ht ha
  go_enter Tryd.func3, Tryd.ntmps3
  go_wp2_with fail
  refine (a_many HA.out (Below.refl _ _)).mono ?_
  rintro e w0 ⟨m, rfl, hm, hw⟩
  rw [hw]
  clear hw
  cases m with
  | true =>
    clear hm
    go_wp2_with fail
    refine (known2 _ HT.out.1 HT.out.2).mono ?_
    rintro e w2 ⟨rfl, b2⟩
    go_wp2_with fail
    go_ret
    exact ⟨rfl, b2⟩
  | false =>
    have H6 : Hid (totK ts ts.length ≤ 6000) := hm rfl
    clear hm
    go_wp2_with fail
    refine (a_print HA.out HT.out (Below.refl _ _) H6.out).mono ?_
    rintro e w1 ⟨rfl, b1⟩
    have B1 : Hid (Below w.heap.size w w1) := b1
    clear b1
    go_wp2_with fail
    refine (a_rprint HA.out B1.out H6.out).mono ?_
    rintro e w2 ⟨rfl, b2⟩
    have B2 : Hid (Below w.heap.size w w2) := B1.out.trans (b2.mono B1.out.size)
    clear b2
    generalize pT ts = pt
    generalize pE ts = pe
    go_wp2_with fail
    refine (a_right HA.out HT.out.1 B2.out H6.out).mono ?_
    rintro e w3 ⟨rfl, b3⟩
    have B3 : Hid (Below w.heap.size w w3) := B2.out.trans (b3.mono B2.out.size)
    clear b3
    go_wp2_with fail
    refine (a_rright HA.out B3.out H6.out).mono ?_
    rintro e w4 ⟨rfl, b4⟩
    have B4 : Hid (Below w.heap.size w w4) := B3.out.trans (b4.mono B3.out.size)
    clear b4
    generalize rightL ts = rl
    cases rl
    all_goals
      go_wp2_with fail
      refine (known2 _ (HT.out.1.later B4.out) (HT.out.2.later B4.out (Nat.le_refl _))).mono ?_
      rintro e w5 ⟨rfl, b5⟩
      go_wp2_with fail
      go_ret
      exact ⟨rfl, B4.out.trans (b5.mono B4.out.size)⟩
end Go.Proofs.YtdjpjoipdlfooaaDoor
