/- The first sign of a text, and its first token, each for every text. -/
import Derived.Test.YtlhklpnkelcnbaaGreatDoorLexC
namespace Go.Proofs.YtlhklpnkelcnbaaGreatDoor
open Go.RowKit

theorem find_at {L : List (List UInt8)} {p : List UInt8 → Bool} : ∀ {k : Nat}, (∀ j, j < k → p (L.getD j []) = false) → k < L.length → p (L.getD k []) = true → L.find? p = some (L.getD k []) := by
  induction L with
  | nil => intro k _ h; simp at h
  | cons a r ih =>
    intro k h1 h2 h3
    cases k with
    | zero => rw [List.find?_cons]; rw [List.getD_cons_zero] at h3 ⊢; rw [h3]
    | succ k =>
      have h0 := h1 0 (by omega)
      rw [List.getD_cons_zero] at h0
      rw [List.find?_cons, h0, List.getD_cons_succ]
      rw [List.getD_cons_succ] at h3
      exact ih (fun j hj => by have := h1 (j + 1) (by omega); rwa [List.getD_cons_succ] at this) (by simpa using h2) h3
theorem find_none {L : List (List UInt8)} {p : List UInt8 → Bool} (h : ∀ j, j < L.length → p (L.getD j []) = false) : L.find? p = none := by
  rw [List.find?_eq_none]
  intro x hx
  obtain ⟨j, hj, rfl⟩ := List.mem_iff_getElem.1 hx
  have := h j hj
  rw [List.getD_eq_getElem?_getD, List.getElem?_eq_getElem hj] at this
  simpa using this
theorem signAt_size (k : Nat) : (signAt k).size = (Lx.signs.getD k []).length := by rw [← size_len']; simp [signAt]
/-- The sign k has z bytes, and the text begins with it. -/
def sg (z : Nat) (l : List UInt8) (g : List UInt8) : Bool := decide (g.length = z) && g.isPrefixOf l
theorem signBy_eq (z : Nat) (l : List UInt8) : Lx.signBy z l = Lx.signs.find? (sg z l) := rfl
theorem sign_ne : ∀ k, k < 21 → ¬ Lx.signs.getD k [] = [] := by decide

set_option maxRecDepth 100000 in
set_option maxHeartbeats 1000000 in
theorem firstSign_any (s : ByteArray) (w : World) (hk : Kw w) : Calls Tryz.prog 55 #[.string s] w fun e w' => e = .returned (tokR (Lx.fsign s.data.toList)) ∧ Below w.heap.size w w' := by
  obtain ⟨tt, fr, hg⟩ := (hk.later ((Below.refl _ _).alloc (Nat.le_refl _) (.cells #[.int .i64 0, .string ⟨#[]⟩, .int .i64 0, .int .i64 0] 50))).s
  have HG : Hid _ := hg
  clear hk hg
  go_enter Tryz.func55, Tryz.ntmps55
  go_wp2; go_step3; go_wp2; go_step3; go_wp2
  go_loop [5, 6] (fun f i => ∃ z : Nat, z ≤ 2 ∧ f = .string ⟨#[]⟩ ∧ i = .int .i64 z ∧ Hid (∀ y, z < y → y ≤ 2 → Lx.signBy y s.data.toList = none)) (fun _ i => (intOf i).toNat)
  case atStart => exact ⟨2, by omega, rfl, rfl, fun y h1 h2 => absurd h1 (by omega)⟩
  case round =>
    obtain ⟨z, hz, rfl, rfl, Z⟩ := hrel
    by_cases hz0 : 0 < z
    · go_wp2_with (refine wpList_load_row rfl 115 _ rfl 0 rfl tt _ fr _ HG.out Tryz.underlying115 rfl (by kernel_rfl) ?_)
      go_loop [5, 14] (fun f i => ∃ k : Nat, k ≤ 21 ∧ f = .string ⟨#[]⟩ ∧ i = .int .i64 k ∧ Hid (∀ j, j < k → sg z s.data.toList (Lx.signs.getD j []) = false)) (fun _ i => 21 - (intOf i).toNat)
      case atStart => exact ⟨0, by omega, rfl, rfl, fun j hj => absurd hj (Nat.not_lt_zero _)⟩
      case round =>
        obtain ⟨k, hk, rfl, rfl, N⟩ := hrel
        by_cases hlt : k < 21
        · have hix := idx_signs k hlt
          by_cases hl : (Lx.signs.getD k []).length = z
          · have hlb : (((signAt k).size : Int) == (z : Int)) = true := beq_iff_eq.2 (by rw [signAt_size, hl])
            have HL : Hid ((Lx.signs.getD k []).length = z) := hl
            clear hl
            cases hp : Lib.hasPrefix s.data.toList (signAt k).data.toList with
            | true =>
              have G : Hid (sg z s.data.toList (Lx.signs.getD k []) = true) := by
                unfold Hid sg
                rw [decide_eq_true HL.out]
                simpa [Lib.hasPrefix, signAt] using hp
              have B : Hid (Lx.signBy z s.data.toList = some (Lx.signs.getD k [])) := find_at N.out hlt G.out
              have F : Hid (Lx.fsign s.data.toList = some (⟨4, Lx.signs.getD k [], 0⟩, (Lx.signs.getD k []).length)) := by
                unfold Hid Lx.fsign
                rcases (by omega : z = 2 ∨ z = 1) with e | e
                · subst e; rw [B.out]
                · subst e; rw [Z.out 2 (by omega) (by omega), B.out]
              have hne2 : ¬ (signAt k).toList = [] := by rw [sign_lists]; exact sign_ne k hlt
              have hne : (signAt k).toList.isEmpty = false := by simpa using hne2
              go_wp2_with (go_at_call 78; refine (Tryz.strings_HasPrefix _ _ _).mono ?_; rintro e w' ⟨rfl, rfl⟩)
              rw [Exit.noGoto_ret]
              refine bodyPost_ret (v := .tuple #[.agg #[.int .i64 4, .string (signAt k), .int .i64 0, .int .i64 0], .int .i64 (signAt k).size, .int .i64 0]) (by simp [results, Tryz.results55, go_sem]) rfl ⟨?_, (Below.refl _ _).alloc (Nat.le_refl _) _⟩
              rw [F.out, signAt_size]
              rfl
            | false =>
              have N' : Hid (∀ j, j < k + 1 → sg z s.data.toList (Lx.signs.getD j []) = false) := fun j hj => by
                by_cases e : j = k
                · subst e
                  unfold sg
                  rw [Bool.and_eq_false_iff]
                  right
                  simpa [Lib.hasPrefix, signAt] using hp
                · exact N.out j (by omega)
              go_wp2_with (go_at_call 78; refine (Tryz.strings_HasPrefix _ _ _).mono ?_; rintro e w' ⟨rfl, rfl⟩)
              exact ⟨⟨k + 1, by omega, rfl, by go_num, N'⟩, by simp [intOf]; omega⟩
          · have hlb : (((signAt k).size : Int) == (z : Int)) = false := beq_eq_false_iff_ne.2 (by rw [signAt_size]; omega)
            have N' : Hid (∀ j, j < k + 1 → sg z s.data.toList (Lx.signs.getD j []) = false) := fun j hj => by
              by_cases e : j = k
              · subst e
                unfold sg
                rw [Bool.and_eq_false_iff]
                left
                exact decide_eq_false hl
              · exact N.out j (by omega)
            clear hl
            go_wp2_with fail
            exact ⟨⟨k + 1, by omega, rfl, by go_num, N'⟩, by simp [intOf]; omega⟩
        · obtain rfl : k = 21 := by omega
          obtain ⟨y, hy⟩ : ∃ y, z = y + 1 := ⟨z - 1, by omega⟩
          subst hy
          have Z' : Hid (∀ x, y < x → x ≤ 2 → Lx.signBy x s.data.toList = none) := fun x h1 h2 => by
            by_cases e : x = y + 1
            · subst e; exact find_none (fun j hj => N.out j hj)
            · exact Z.out x (by omega) h2
          go_wp2_with fail
          exact ⟨⟨y, by omega, rfl, by go_num, Z'⟩, by simp [intOf]⟩
    · obtain rfl : z = 0 := by omega
      have F : Hid (Lx.fsign s.data.toList = none) := by
        unfold Hid Lx.fsign
        rw [Z.out 2 (by omega) (by omega), Z.out 1 (by omega) (by omega)]
      go_wp2_with fail
      refine bodyPost_ret (v := .tuple #[.agg #[.int .i64 0, .string ⟨#[]⟩, .int .i64 0, .int .i64 0], .int .i64 0, .int .i64 20]) (by simp [results, Tryz.results55, go_sem]) rfl ⟨?_, (Below.refl _ _).alloc (Nat.le_refl _) _⟩
      rw [F.out]
      rfl

theorem list_cons (s : ByteArray) (h : 0 < s.size) : s.data.toList = s[0] :: s.data.toList.drop 1 := by
  have := Pl.drop_at s 0 h
  rwa [List.drop_zero] at this
theorem first_eq (s : ByteArray) (h : 0 < s.size) : Lx.first s.data.toList = if Lx.let1 s[0].toNat then Lx.fword s.data.toList else if Lx.dig1 s[0].toNat then Lx.fint s.data.toList else Lx.fsign s.data.toList := by
  have e := list_cons s h
  generalize hl : s.data.toList = l at *
  rw [e]
  rfl
/-- The parts of what first's parts answer. -/
def part0 (o : Option (Lx.Tk × Nat)) : Value := match o with | none => .agg #[.int .i64 0, .string ⟨#[]⟩, .int .i64 0, .int .i64 0] | some (t, _) => tokV t 0
def tkK (o : Option (Lx.Tk × Nat)) : Int := match o with | none => 0 | some (t, _) => t.kind
def tkT (o : Option (Lx.Tk × Nat)) : ByteArray := match o with | none => ⟨#[]⟩ | some (t, _) => ⟨t.text.toArray⟩
def tkN (o : Option (Lx.Tk × Nat)) : Int := match o with | none => 0 | some (t, _) => t.num
def tkS (o : Option (Lx.Tk × Nat)) : Int := match o with | none => 0 | some (_, n) => n
def tkE (o : Option (Lx.Tk × Nat)) : Int := match o with | none => 20 | some _ => 0
theorem tokR_eq (o : Option (Lx.Tk × Nat)) : tokR o = .tuple #[.agg #[.int .i64 (tkK o), .string (tkT o), .int .i64 (tkN o), .int .i64 0], .int .i64 (tkS o), .int .i64 (tkE o)] := by
  cases o with
  | none => rfl
  | some x => rfl

/-- Behind a call the box that was laid ahead of it is as it was. -/
theorem box_facts {w w1 : World} {t : TypeId} (b1 : Below (w.alloc (.cells #[.int .i64 0, .string ⟨#[]⟩, .int .i64 0, .int .i64 0] t)).heap.size (w.alloc (.cells #[.int .i64 0, .string ⟨#[]⟩, .int .i64 0, .int .i64 0] t)) w1) :
    (w1.cell? ⟨w.heap.size, 0, none⟩ = some (.int .i64 0) ∧ w1.cell? ⟨w.heap.size, 1, none⟩ = some (.string ⟨#[]⟩) ∧ w1.cell? ⟨w.heap.size, 2, none⟩ = some (.int .i64 0) ∧ w1.cell? ⟨w.heap.size, 3, none⟩ = some (.int .i64 0)) ∧
    (w1.frozen? ⟨w.heap.size, 0, none⟩ = false ∧ w1.frozen? ⟨w.heap.size, 1, none⟩ = false ∧ w1.frozen? ⟨w.heap.size, 2, none⟩ = false ∧ w1.frozen? ⟨w.heap.size, 3, none⟩ = false) ∧ w.heap.size < w1.heap.size ∧ Below w.heap.size w w1 := by
  have hz := b1.size
  simp at hz
  have b0 : Below w.heap.size w (w.alloc (.cells #[.int .i64 0, .string ⟨#[]⟩, .int .i64 0, .int .i64 0] t)) := (Below.refl _ _).alloc (Nat.le_refl _) _
  refine ⟨⟨?_, ?_, ?_, ?_⟩, ⟨?_, ?_, ?_, ?_⟩, by omega, b0.trans (b1.mono (by simp))⟩
  all_goals first | (rw [b1.cell (by simp)]; simp [go_sem]) | (rw [b1.frozen (by simp)]; exact World.frozen?_alloc_at _ _ _ _ rfl)

set_option maxRecDepth 100000 in
set_option maxHeartbeats 400000 in
theorem first_any (s : ByteArray) (w : World) (hs : s.size ≤ maxLen) (hk : Kw w) : Calls Tryz.prog 29 #[.string s] w fun e w' => e = .returned (tokR (Lx.first s.data.toList)) ∧ Below w.heap.size w w' := by
  have HK : Hid (∀ o, Kw (w.alloc o)) := fun o => hk.later ((Below.refl _ _).alloc (Nat.le_refl _) o)
  clear hk
  by_cases h0 : s.size = 0
  · have hne : s.toList = [] := by rw [ByteArray.toList_eq]; exact empty_list h0
    have hem : s.toList.isEmpty = true := by rw [hne]; rfl
    have F : Hid (Lx.first s.data.toList = some (⟨0, [], 0⟩, 0)) := by unfold Hid; rw [empty_list h0]; rfl
    clear hne h0
    go_enter Tryz.func29, Tryz.ntmps29
    go_wp2_with fail
    refine bodyPost_ret (v := .tuple #[.agg #[.int .i64 0, .string ⟨#[]⟩, .int .i64 0, .int .i64 0], .int .i64 0, .int .i64 0]) (by simp [results, Tryz.results29, go_sem]) rfl ⟨?_, (Below.refl _ _).alloc (Nat.le_refl _) _⟩
    rw [F.out]
    rfl
  · have h0' : 0 < s.size := by omega
    have hne : ¬ s.toList = [] := by rw [ByteArray.toList_eq]; intro e; have := size_len' s; rw [e] at this; simp at this; omega
    have hem : s.toList.isEmpty = false := by simpa using hne
    have E : Hid _ := first_eq s h0'
    cases hL : Lx.let1 s[0].toNat with
    | true =>
      have F : Hid (Lx.first s.data.toList = Lx.fword s.data.toList) := by unfold Hid; rw [E.out, hL]; rfl
      go_enter Tryz.func29, Tryz.ntmps29
      go_wp2_with fail
      refine (isLetter_any _ _).mono ?_
      rintro e w' ⟨rfl, rfl⟩
      go_wp2_with fail
      refine (firstWord_any s _ hs (HK.out _)).mono ?_
      rintro e w1 ⟨rfl, b1⟩
      rw [tokR_eq]
      obtain ⟨⟨c0, c1, c2, c3⟩, ⟨f0, f1, f2, f3⟩, hz, hb⟩ := box_facts b1
      clear b1
      go_wp2_with fail
      refine bodyPost_ret (v := .tuple #[.agg #[.int .i64 (tkK (Lx.fword s.data.toList)), .string (tkT (Lx.fword s.data.toList)), .int .i64 (tkN (Lx.fword s.data.toList)), .int .i64 0], .int .i64 (tkS (Lx.fword s.data.toList)), .int .i64 (tkE (Lx.fword s.data.toList))]) (by simp [results, Tryz.results29, go_sem, c0, c1, c2, c3]) rfl ⟨by rw [F.out, tokR_eq], (((hb.setCell (Nat.le_refl _) _).setCell (Nat.le_refl _) _).setCell (Nat.le_refl _) _).setCell (Nat.le_refl _) _⟩
    | false =>
      cases hD : Lx.dig1 s[0].toNat with
      | true =>
        have F : Hid (Lx.first s.data.toList = Lx.fint s.data.toList) := by unfold Hid; rw [E.out, hL, hD]; rfl
        go_enter Tryz.func29, Tryz.ntmps29
        go_wp2_with fail
        refine (isLetter_any _ _).mono ?_
        rintro e w' ⟨rfl, rfl⟩
        go_wp2_with fail
        refine (isDigit_any _ _).mono ?_
        rintro e w' ⟨rfl, rfl⟩
        go_wp2_with fail
        refine (firstInt_any s _ hs).mono ?_
        rintro e w1 ⟨rfl, b1⟩
        rw [tokR_eq]
        obtain ⟨⟨c0, c1, c2, c3⟩, ⟨f0, f1, f2, f3⟩, hz, hb⟩ := box_facts b1
        clear b1
        go_wp2_with fail
        refine bodyPost_ret (v := .tuple #[.agg #[.int .i64 (tkK (Lx.fint s.data.toList)), .string (tkT (Lx.fint s.data.toList)), .int .i64 (tkN (Lx.fint s.data.toList)), .int .i64 0], .int .i64 (tkS (Lx.fint s.data.toList)), .int .i64 (tkE (Lx.fint s.data.toList))]) (by simp [results, Tryz.results29, go_sem, c0, c1, c2, c3]) rfl ⟨by rw [F.out, tokR_eq], (((hb.setCell (Nat.le_refl _) _).setCell (Nat.le_refl _) _).setCell (Nat.le_refl _) _).setCell (Nat.le_refl _) _⟩
      | false =>
        have F : Hid (Lx.first s.data.toList = Lx.fsign s.data.toList) := by unfold Hid; rw [E.out, hL, hD]; rfl
        go_enter Tryz.func29, Tryz.ntmps29
        go_wp2_with fail
        refine (isLetter_any _ _).mono ?_
        rintro e w' ⟨rfl, rfl⟩
        go_wp2_with fail
        refine (isDigit_any _ _).mono ?_
        rintro e w' ⟨rfl, rfl⟩
        go_wp2_with fail
        refine (firstSign_any s _ (HK.out _)).mono ?_
        rintro e w1 ⟨rfl, b1⟩
        rw [tokR_eq]
        obtain ⟨⟨c0, c1, c2, c3⟩, ⟨f0, f1, f2, f3⟩, hz, hb⟩ := box_facts b1
        clear b1
        go_wp2_with fail
        refine bodyPost_ret (v := .tuple #[.agg #[.int .i64 (tkK (Lx.fsign s.data.toList)), .string (tkT (Lx.fsign s.data.toList)), .int .i64 (tkN (Lx.fsign s.data.toList)), .int .i64 0], .int .i64 (tkS (Lx.fsign s.data.toList)), .int .i64 (tkE (Lx.fsign s.data.toList))]) (by simp [results, Tryz.results29, go_sem, c0, c1, c2, c3]) rfl ⟨by rw [F.out, tokR_eq], (((hb.setCell (Nat.le_refl _) _).setCell (Nat.le_refl _) _).setCell (Nat.le_refl _) _).setCell (Nat.le_refl _) _⟩
end Go.Proofs.YtlhklpnkelcnbaaGreatDoor
