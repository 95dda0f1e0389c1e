/- What is printed of right tokens is read as the same tokens, but for places (plain). -/
import Derived.Test.YtdjpjoipdlfooaaDoorScanQ
import Derived.Test.YtdjpjoipdlfooaaDoorLexV
namespace Go.Proofs.YtdjpjoipdlfooaaDoor
open Go.RowKit

theorem own_keys : ∀ l ∈ Lx.keys, Lx.first l = some (⟨3, l, 0⟩, l.length) := by
  intro l hl
  simp only [Lx.keys, List.mem_cons, List.not_mem_nil, or_false] at hl
  rcases hl with rfl | rfl | rfl | rfl | rfl | rfl | rfl | rfl | rfl | rfl | rfl | rfl | rfl <;> kernel_rfl
theorem own_signs : ∀ l ∈ Lx.signs, Lx.first l = some (⟨4, l, 0⟩, l.length) := by
  intro l hl
  simp only [Lx.signs, List.mem_cons, List.not_mem_nil, or_false] at hl
  rcases hl with rfl | rfl | rfl | rfl | rfl | rfl | rfl | rfl | rfl | rfl | rfl | rfl | rfl | rfl | rfl | rfl | rfl | rfl | rfl | rfl | rfl <;> kernel_rfl
theorem own_name {l : List UInt8} (h : Lx.isName l = true) : Lx.first l = some (⟨1, l, 0⟩, l.length) := by
  have hn := h
  unfold Lx.isName at h
  simp only [Bool.and_eq_true, Bool.not_eq_true', decide_eq_true_eq] at h
  obtain ⟨⟨⟨⟨h1, h2⟩, h3⟩, _⟩, h5⟩ := h
  cases l with
  | nil => simp at h1
  | cons c r =>
    show (if Lx.let1 c.toNat then Lx.fword (c :: r) else if Lx.dig1 c.toNat then Lx.fint (c :: r) else Lx.fsign (c :: r)) = _
    have h2 : Lx.let1 c.toNat = true := h2
    rw [if_pos h2]
    unfold Lx.fword
    rw [h3, List.take_length, if_neg (by rw [h5]; exact Bool.false_ne_true), if_pos hn]
theorem dig_not_let {c : Nat} (h : Lx.dig1 c = true) : Lx.let1 c = false := by
  unfold Lx.dig1 at h
  unfold Lx.let1
  simp at h ⊢
  omega
theorem run_digs : ∀ {l : List UInt8}, (∀ c ∈ l, 48 ≤ c.toNat ∧ c.toNat ≤ 57) → Lx.run Lx.dig1 l = l.length
  | [], _ => rfl
  | c :: r, h => by
    unfold Lx.run
    have := h c (by simp)
    rw [if_pos (by unfold Lx.dig1; simp [this.1, this.2]), run_digs (l := r) (fun d hd => h d (by simp [hd]))]
    rfl
theorem dec_ne (u : Nat) : Lib.decDigits u ≠ [] := by
  by_cases h : u < 10
  · rw [Pl.dec_small h]; simp
  · rw [Pl.dec_big h]; simp
theorem own_int {n : Int} (h0 : 0 ≤ n) (h1 : n ≤ 9223372036854775807) : Lx.first (Lib.itoa n) = some (⟨2, [], n⟩, (Lib.itoa n).length) := by
  have e : Lib.itoa n = Lib.decDigits n.toNat := by
    have := itoa_far_pos (a := n) (by omega)
    rw [this, Pl.far_pos (by omega)]
  have hp := Pl.parse_itoa n (by omega) h1
  rw [e] at hp ⊢
  have hd := Pl.dec_digit n.toNat
  have hr := run_digs hd
  have hne := dec_ne n.toNat
  generalize Lib.decDigits n.toNat = l at hp hd hr hne ⊢
  cases l with
  | nil => exact absurd rfl hne
  | cons c r =>
    have hc := hd c (by simp)
    have hc1 : Lx.dig1 c.toNat = true := by unfold Lx.dig1; simp [hc.1, hc.2]
    show (if Lx.let1 c.toNat then Lx.fword (c :: r) else if Lx.dig1 c.toNat then Lx.fint (c :: r) else Lx.fsign (c :: r)) = _
    rw [if_neg (by rw [dig_not_let hc1]; exact Bool.false_ne_true), if_pos hc1]
    unfold Lx.fint
    rw [hr, List.take_length, hp]
    simp only
    rw [if_neg (by unfold Lx.letAt; simp)]
/-- A right token's text is read as that token. -/
theorem first_own {t : Lx.Tk} {p : Int} (h : midTk (t, p) = true) (h1 : t.num ≤ 9223372036854775807) : Lx.first (txt (t, p)) = some (t, (txt (t, p)).length) ∧ ¬ t.kind = 0 := by
  obtain ⟨k, l, n⟩ := t
  have hk : ¬ k = 0 := by
    intro e; subst e
    unfold midTk at h
    simp at h
  refine ⟨?_, hk⟩
  unfold midTk rtk at h
  unfold txt
  simp only [Bool.and_eq_true] at h
  have h := h.2
  rw [if_neg hk] at h
  split at h
  · rename_i e
    have e : k = 1 := e
    subst e
    simp only [Bool.and_eq_true, decide_eq_true_eq] at h
    obtain ⟨ha, rfl⟩ := h
    rw [if_neg (show ¬ (1 : Int) = 2 by decide)]
    exact own_name ha
  · split at h
    · rename_i e
      have e : k = 3 := e
      subst e
      simp only [Bool.and_eq_true, decide_eq_true_eq] at h
      obtain ⟨ha, rfl⟩ := h
      rw [if_neg (show ¬ (3 : Int) = 2 by decide)]
      exact own_keys l (by unfold Lx.isKey at ha; simpa using ha)
    · split at h
      · rename_i e
        have e : k = 2 := e
        subst e
        simp only [Bool.and_eq_true, decide_eq_true_eq, List.isEmpty_iff] at h
        obtain ⟨rfl, ha⟩ := h
        rw [if_pos rfl]
        exact own_int ha h1
      · split at h
        · rename_i e
          have e : k = 4 := e
          subst e
          simp only [Bool.and_eq_true, decide_eq_true_eq] at h
          obtain ⟨ha, rfl⟩ := h
          rw [if_neg (show ¬ (4 : Int) = 2 by decide)]
          exact own_signs l (by unfold Lx.isSign at ha; simpa using ha)
        · cases h
theorem sign_no {c : UInt8} {r : List UInt8} (hc : Lx.cutB c) (n : Nat) (hn : 1 ≤ n) : Lx.signBy n (c :: r) = none := by
  unfold Lx.signBy
  rw [List.find?_eq_none]
  intro g hg hp
  simp only [Bool.and_eq_true, decide_eq_true_eq] at hp
  obtain ⟨hl, hp⟩ := hp
  cases g with
  | nil => simp at hl; omega
  | cons a b =>
    have := (List.isPrefixOf_iff_prefix.1 hp)
    obtain ⟨z, hz⟩ := this
    rw [List.cons_append] at hz
    have hac : a = c := (List.cons.inj hz).1
    subst hac
    exact Lx.two_ok _ hg a hc (by simp)
theorem first_blank {z : List UInt8} {t : Lx.Tk} {n : Nat} (h : Lx.first z = some (t, n)) (hk : ¬ t.kind = 0) : ∃ c r, z = c :: r ∧ ¬ c = 10 ∧ ¬ c = 35 ∧ ¬ c = 32 := by
  cases z with
  | nil => unfold Lx.first at h; cases h; exact absurd rfl hk
  | cons c r =>
    refine ⟨c, r, rfl, ?_⟩
    have key : ¬ Lx.cutB c := by
      intro hc
      have h : (if Lx.let1 c.toNat then Lx.fword (c :: r) else if Lx.dig1 c.toNat then Lx.fint (c :: r) else Lx.fsign (c :: r)) = some (t, n) := h
      rw [if_neg (by rw [hc.lett]; exact Bool.false_ne_true), if_neg (by rw [hc.dig]; exact Bool.false_ne_true)] at h
      unfold Lx.fsign at h
      rw [sign_no hc 2 (by omega), sign_no hc 1 (by omega)] at h
      cases h
    unfold Lx.cutB at key
    exact ⟨fun e => key (.inr (.inl e)), fun e => key (.inr (.inr e)), fun e => key (.inl e)⟩
theorem blank_no {c : UInt8} {r : List UInt8} (h : ¬ c = 10 ∧ ¬ c = 35 ∧ ¬ c = 32) : Lx.blank false (c :: r) = 0 := by
  unfold Lx.blank
  rw [if_neg h.1, if_neg h.2.1, if_pos ⟨h.2.2, rfl⟩]
/-- The texts of tokens, a blank between. -/
def prL (ms : List Tok) : List UInt8 := Lib.join (ms.map txt) [32]
theorem prL_nil : prL [] = [] := rfl
theorem prL_one (x : Tok) : prL [x] = txt x := Lib.join_one _ _
theorem prL_cons (x y : Tok) (r : List Tok) : prL (x :: y :: r) = txt x ++ 32 :: prL (y :: r) := by
  unfold prL
  rw [List.map_cons, List.map_cons, Lib.join_cons, Lib.join_cons]
  simp [Lib.joinTail]
theorem toks_print : ∀ (ms : List Tok) (l : List UInt8) (x : Nat), (∀ m ∈ ms, midTk m = true ∧ m.1.num ≤ 9223372036854775807) → x ≤ l.length → (l.drop x = prL ms ∨ l.drop x = 32 :: prL ms) → ∃ S, Lx.Toks l x S ∧ S.map (·.1) = ms.map (·.1) ++ [⟨0, [], 0⟩]
  | [], l, x, _, hx, h => by
    have hf : Lx.first (l.drop (Lx.skip l x)) = some (⟨0, [], 0⟩, 0) := by
      rcases h with h | h
      · have e : Lx.skip l x = x := by unfold Lx.skip; rw [h]; rfl
        rw [e, h]; rfl
      · have e : Lx.skip l x = x + 1 := by unfold Lx.skip; rw [h]; rfl
        have e2 : l.drop (x + 1) = [] := by rw [← List.drop_drop, h]; rfl
        rw [e, e2]; rfl
    exact ⟨_, .done x _ 0 hf rfl, rfl⟩
  | m :: r, l, x, hm, hx, h => by
    obtain ⟨hf, hk⟩ := first_own (p := m.2) (hm m (by simp)).1 (hm m (by simp)).2
    have hf : Lx.first (txt m) = some (m.1, (txt m).length) := hf
    obtain ⟨c, z, hz, hc⟩ := first_blank hf hk
    have hstart : ∀ y, Lx.blank false (txt m ++ y) = 0 := fun y => by rw [hz, List.cons_append]; exact blank_no hc
    have hb0 : Lx.blank false (prL (m :: r)) = 0 := by
      cases r with
      | nil => rw [prL_one]; have := hstart []; rwa [List.append_nil] at this
      | cons y r => rw [prL_cons]; exact hstart _
    have hs : ∃ a, Lx.skip l x = a ∧ l.drop a = prL (m :: r) ∧ a ≤ l.length := by
      rcases h with h | h
      · refine ⟨x, ?_, h, hx⟩
        unfold Lx.skip; rw [h, hb0]; rfl
      · have e1 : l.drop (x + 1) = prL (m :: r) := by rw [← List.drop_drop, h]; rfl
        have e : Lx.blank false (32 :: prL (m :: r)) = Lx.blank false (prL (m :: r)) + 1 := by
          show (if (32 : UInt8) = 10 then _ else if (32 : UInt8) = 35 then _ else if ¬ (32 : UInt8) = 32 ∧ false = false then 0 else Lx.blank false (prL (m :: r)) + 1) = _
          rw [if_neg (by decide), if_neg (by decide), if_neg (by decide)]
        refine ⟨x + 1, ?_, e1, ?_⟩
        · unfold Lx.skip; rw [h, e, hb0]
        · have := congrArg List.length h
          rw [List.length_drop, List.length_cons] at this
          omega
    obtain ⟨a, ha, hda, hal⟩ := hs
    have hfirst : Lx.first (l.drop a) = some (m.1, (txt m).length) := by
      rw [hda]
      cases r with
      | nil => rw [prL_one]; exact hf
      | cons y r =>
        rw [prL_cons]
        exact Lx.first_app (.inl rfl) (by rw [hz]; simp) hf
    have hlen : a + (txt m).length ≤ l.length := by
      rcases Lx.first_len hfirst with ⟨_, e, _⟩ | ⟨_, _, h3⟩
      · exact absurd (by rw [e]) hk
      · rw [List.length_drop] at h3; omega
    have hnext : l.drop (a + (txt m).length) = prL r ∨ l.drop (a + (txt m).length) = 32 :: prL r := by
      rw [← List.drop_drop, hda]
      cases r with
      | nil => left; rw [prL_one, prL_nil]; simp
      | cons y r => right; rw [prL_cons]; simp
    obtain ⟨S, h1, h2⟩ := toks_print r l (a + (txt m).length) (fun q hq => hm q (by simp [hq])) hlen hnext
    refine ⟨_, .more x m.1 (txt m).length S (by rw [ha]; exact hfirst) hk (by rw [ha]; exact h1), ?_⟩
    simp [h2]
theorem range_map {α β : Type} (f : α → β) (ts : List α) (d : α) : ∀ m, m ≤ ts.length → (List.range m).map (fun j => f (ts.getD j d)) = (ts.take m).map f
  | 0, _ => by simp
  | m + 1, h => by
    rw [List.range_succ, List.map_append, range_map f ts d m (by omega), List.take_succ_eq_append_getElem (by omega), List.map_append]
    simp [List.getElem?_eq_getElem (show m < ts.length by omega)]
theorem printL_prL (ts : List Tok) : printL ts = prL (ts.take (ts.length - 1)) := by
  unfold printL prL texts
  rw [range_map txt ts tok0 _ (by omega)]
theorem right_split {ts : List Tok} (h : rightL ts = true) : ∃ m, ts.length = m + 1 ∧ (∀ j, j < m → midTk (ts.getD j tok0) = true) ∧ (ts.getD m tok0).1 = ⟨0, [], 0⟩ := by
  unfold rightL at h
  split at h
  · cases h
  · rename_i h0
    refine ⟨ts.length - 1, by omega, ?_, ?_⟩
    · intro j hj
      rw [Bool.and_eq_true] at h
      exact List.all_eq_true.1 h.1 j (List.mem_range.2 hj)
    · simp only [Bool.and_eq_true, decide_eq_true_eq] at h
      obtain ⟨_, hk, hr⟩ := h
      generalize (ts.getD (ts.length - 1) tok0).1 = t at hk hr
      obtain ⟨k, l, n⟩ := t
      have hk : k = 0 := hk
      subst hk
      unfold rtk at hr
      rw [if_pos rfl] at hr
      simp only [Bool.and_eq_true, decide_eq_true_eq, List.isEmpty_iff] at hr
      obtain ⟨rfl, rfl⟩ := hr
      rfl
theorem toks_many {l : List UInt8} {x : Nat} {S : List (Lx.Tk × Nat)} (h : Lx.Toks l x S) : ∀ (f : Nat) (ts : List (Lx.Tk × Nat)), S.length ≤ f → ts.length ≤ 4000 → 4000 < ts.length + S.length → ∃ a, Lx.scanF l f x ts = ([], a, 2) := by
  induction h with
  | done x t n hf hk =>
    intro f ts h1 h2 h3
    simp at h1 h3
    obtain ⟨f, rfl⟩ : ∃ g, f = g + 1 := ⟨f - 1, by omega⟩
    refine ⟨Lx.skip l x, ?_⟩
    rw [Lx.scanF, hf]
    simp only
    rw [if_pos (by omega)]
  | more x t n S hf hk h ih =>
    intro f ts h1 h2 h3
    simp at h1 h3
    obtain ⟨f, rfl⟩ : ∃ g, f = g + 1 := ⟨f - 1, by omega⟩
    by_cases h4 : ts.length = 4000
    · refine ⟨Lx.skip l x, ?_⟩
      rw [Lx.scanF, hf]
      simp only
      rw [if_pos h4]
    · obtain ⟨a, ha⟩ := ih f (ts ++ [(t, Lx.skip l x)]) (by omega) (by simp; omega) (by simp; omega)
      refine ⟨a, ?_⟩
      rw [Lx.scanF, hf]
      simp only
      rw [if_neg h4, if_neg hk, ha]
/-- What is printed of right tokens is read as they are, or is too long. -/
theorem print_back {ts : List Tok} (h : rightL ts = true) (hb : ∀ j, j < ts.length → (ts.getD j tok0).1.num ≤ 9223372036854775807) :
    ((16384 < (printL ts).length ∨ 4000 < ts.length) ∧ ∃ a, Lx.scan (printL ts) = ([], a, 2)) ∨
    ((printL ts).length ≤ 16384 ∧ ts.length ≤ 4000 ∧ ∃ R, Lx.scan (printL ts) = (R, 0, 0) ∧ R.map (·.1) = ts.map (·.1)) := by
  obtain ⟨m, hm, hmid, hend⟩ := right_split h
  by_cases h1 : 16384 < (printL ts).length
  · exact .inl ⟨.inl h1, 0, by unfold Lx.scan; rw [if_pos h1]⟩
  · have hp : printL ts = prL (ts.take m) := by rw [printL_prL, hm, Nat.add_sub_cancel]
    obtain ⟨S, hT, hS⟩ := toks_print (ts.take m) (printL ts) 0 (by
      intro q hq
      obtain ⟨j, hj, rfl⟩ := List.mem_iff_getElem.1 hq
      rw [List.length_take] at hj
      have e : (ts.take m)[j]'(by rw [List.length_take]; exact hj) = ts.getD j tok0 := by
        rw [List.getElem_take, List.getD_eq_getElem?_getD, List.getElem?_eq_getElem (by omega)]
        rfl
      rw [e]
      exact ⟨hmid j (by omega), hb j (by omega)⟩) (Nat.zero_le _) (.inl (by rw [List.drop_zero, hp]))
    have hts : ts.map (·.1) = (ts.take m).map (·.1) ++ [⟨0, [], 0⟩] := by
      have e : ts = ts.take m ++ [ts.getD m tok0] := by
        have := List.take_succ_eq_append_getElem (l := ts) (i := m) (by omega)
        rw [List.take_of_length_le (by omega)] at this
        rw [List.getD_eq_getElem?_getD, List.getElem?_eq_getElem (by omega)]
        exact this
      have e2 := congrArg (List.map (·.1)) e
      rw [List.map_append, List.map_singleton, hend] at e2
      exact e2
    have hSl : S.length = ts.length := by
      have := congrArg List.length (hS.trans hts.symm)
      simpa using this
    by_cases h4 : 4000 < ts.length
    · refine .inl ⟨.inr h4, ?_⟩
      have := hT.len (Nat.zero_le _)
      unfold Lx.scan
      rw [if_neg h1]
      exact toks_many hT _ [] (by omega) (by simp) (by simp; omega)
    · exact .inr ⟨by omega, by omega, S, Lx.toks_scan (by omega) hT (by omega), hS.trans hts.symm⟩
end Go.Proofs.YtdjpjoipdlfooaaDoor
