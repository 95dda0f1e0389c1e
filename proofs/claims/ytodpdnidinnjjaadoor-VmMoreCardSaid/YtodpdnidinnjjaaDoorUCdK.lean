/- Layer 8: Heights and Sound of the program, for every codes. -/
import Derived.Test.YtodpdnidinnjjaaDoorUCdJ
namespace Go.Proofs.YtodpdnidinnjjaaDoor
open Go.RowKit
set_option linter.unusedVariables false

/-- Codes as they are handed over, with the layer's tables. -/
structure CdH (B : Nat) (w : World) (la : Option Addr) (l : List Cd.Co) : Prop where
  hB : B ≤ w.heap.size
  co : CoS B w la l
  ok : ∀ d, d ∈ l → d.Ok
  tn : Tn B w
  tm : Tm B w
theorem CdH.later {B : Nat} {w w' : World} {la : Option Addr} {l : List Cd.Co} (h : CdH B w la l) (b : Below B w w') : CdH B w' la l := ⟨Nat.le_trans h.hB b.size, h.co.later b, h.ok, h.tn.later b, h.tm.later b⟩
/-- What Heights answers. -/
def HkE (w : World) (r : Option (List Int)) (e : Ending) (w' : World) : Prop := match r with
  | none => e = .returned (.tuple #[.slice none 0 0, .bool false])
  | some H => ∃ gh, e = .returned (.tuple #[.slice (some ⟨gh, 0, none⟩) H.length H.length, .bool true]) ∧ w.heap.size ≤ gh ∧ w'.heap[gh]? = some (.cells (nC H).toArray 3 (0, 0))
theorem alloc_at (w : World) (o : Obj) : (w.alloc o).heap[w.heap.size]? = some o := Array.getElem?_push_size
/-- The climber's box. -/
abbrev clB (la : Option Addr) (ln lc : Nat) (ia : Option Addr) (il ic : Nat) (c : Cd.Co) : Obj := .cells #[.slice la ln lc, .slice ia il ic, .int .i64 c.cells, .int .i64 c.params, .bool c.ans, .slice none 0 0, .slice none 0 0] 113
theorem sz_cells {c : Cd.Co} (h : Cd.sz c = true) : 0 ≤ c.cells ∧ c.cells ≤ 65536 := by
  unfold Cd.sz at h
  simp only [Bool.and_eq_true, decide_eq_true_eq] at h
  exact ⟨h.1.1.1.1.2, h.1.1.1.2⟩
theorem retH {a b : Option Addr} {n m c d : Nat} {x y : Bool} (h : Ending.returned (.tuple #[.slice a n c, .bool x]) = .returned (.tuple #[.slice b m d, .bool y])) : Ending.returned (.tuple #[.slice a n c, .bool x]) = .returned (.tuple #[.slice b m d, .bool y]) := h
set_option maxRecDepth 100000 in
set_option maxHeartbeats 4000000 in
theorem cdHts_out (k : Int) (la : Option Addr) (lc : Nat) (l : List Cd.Co) (w : World) (hk : ¬ (0 ≤ k ∧ k < l.length)) : Calls Tryd.prog 66 #[.slice la l.length lc, .int .i64 k] w fun e w' => e = .returned (.tuple #[.slice none 0 0, .bool false]) ∧ Below w.heap.size w w' := by
  by_cases h1 : k < 0
  · go_enter Tryd.func66, Tryd.ntmps66
    go_wp2_with fail
    go_ret2
    exact ⟨rfl, by go_grown⟩
  · have h2 : (l.length : Int) ≤ k := by omega
    clear hk
    go_enter Tryd.func66, Tryd.ntmps66
    go_wp2_with fail
    go_ret2
    exact ⟨rfl, by go_grown⟩
set_option maxRecDepth 100000 in
set_option maxHeartbeats 8000000 in
theorem cdHts_in (k : Nat) (c : Cd.Co) (B : Nat) (la : Option Addr) (lc : Nat) (l : List Cd.Co) (w : World) (h : CdH B w la l) (e : l[k]? = some c) : Calls Tryd.prog 66 #[.slice la l.length lc, .int .i64 k] w fun e w' => ∃ r, Cd.HR Cd.top l c r ∧ Below w.heap.size w w' ∧ HkE w r e w' := by
  obtain ⟨g, o, ia, ic, rfl, hg, at_⟩ := h.co.at e
  have c0 := at_.c0
  have c1 := at_.c1
  have c2 := at_.c2
  have c3 := at_.c3
  have kl : k < l.length := (List.getElem?_eq_some_iff.1 e).1
  obtain ⟨p, hp⟩ : ∃ p, p = w.heap.size := ⟨_, rfl⟩
  obtain ⟨W, hW⟩ : ∃ W, W = w.alloc (clB (some ⟨g, o, none⟩) l.length lc ia c.ins.length ic c) := ⟨_, rfl⟩
  have bw : Below w.heap.size w W := by rw [hW]; exact (Below.refl _ _).alloc (Nat.le_refl _) _
  have CL : Clm W p (some ⟨g, o, none⟩) l.length lc ia c.ins.length ic c (.slice none 0 0) (.slice none 0 0) := by
    unfold Clm
    rw [hW, hp]
    exact alloc_at w _
  have A : Hid (ClA B W p (some ⟨g, o, none⟩) lc l ia ic c (.slice none 0 0) (.slice none 0 0)) := ⟨Nat.le_trans h.hB bw.size, CL, h.co.later (bw.mono h.hB), h.ok, h.tn.later (bw.mono h.hB), h.tm.later (bw.mono h.hB), at_.hi.later (bw.mono h.hB), h.ok c (List.mem_of_getElem? e)⟩
  have BW : Hid (Below w.heap.size w W) := bw
  have HP : Hid (p = w.heap.size) := hp
  have hBp : Hid (B ≤ p) := by rw [hp]; exact h.hB
  have gz : ¬ g = w.heap.size := by have := h.hB; omega
  have hki : (k : Int) < (l.length : Int) := by omega
  have hk0 : (0 : Int) ≤ (k : Int) := by omega
  clear h e at_ bw CL
  obtain ⟨il, hil⟩ : ∃ il, il = c.ins.length := ⟨_, rfl⟩
  rw [← hil] at c0 hW
  have ES : Hid _ := cdSz_any p (some ⟨g, o, none⟩) l.length lc ia ic c (.slice none 0 0) (.slice none 0 0) W A.out.cl
  clear hil
  go_enter Tryd.func66, Tryd.ntmps66
  go_upto_region 4 with fail
  rw [← hW, ← hp]
  clear hW hp c0 c1 c2 c3
  go_wp2_with fail
  refine Calls.mono ES.out ?_
  rintro e1 w1 ⟨rfl, b1⟩
  have A1 : Hid (ClA B w1 p (some ⟨g, o, none⟩) lc l ia ic c (.slice none 0 0) (.slice none 0 0)) := A.out.later b1
  have B1 : Hid (Below w.heap.size w w1) := BW.out.trans (b1.mono BW.out.size)
  clear b1 ES A BW
  cases hs : Cd.sz c with
  | false =>
    have FIN : Hid (Cd.HR Cd.top l c none) := Cd.no_sz (by rw [hs]; simp)
    clear hs
    go_wp2_with fail
    go_ret2
    exact ⟨none, FIN.out, B1.out, rfl⟩
  | true =>
    have HS : Hid (Cd.sz c = true) := hs
    have EF : Hid _ := cdFm_any B p (some ⟨g, o, none⟩) lc l ia ic c (.slice none 0 0) (.slice none 0 0) w1 A1.out (sz_cells hs)
    clear hs
    go_wp2_with fail
    refine Calls.mono EF.out ?_
    rintro e2 w2 ⟨rfl, b2⟩
    have A2 : Hid (ClA B w2 p (some ⟨g, o, none⟩) lc l ia ic c (.slice none 0 0) (.slice none 0 0)) := A1.out.later b2
    have B2 : Hid (Below w.heap.size w w2) := B1.out.trans (b2.mono B1.out.size)
    clear b2 EF A1 B1
    cases hf : Cd.fm Cd.top l c with
    | false =>
      have FIN : Hid (Cd.HR Cd.top l c none) := fun f => by
        have : Cd.fm Cd.top l c = true := List.all_eq_true.2 fun i hi => by have := f.al i hi; rw [this.1, this.2]; rfl
        rw [hf] at this
        cases this
      clear hf
      go_wp2_with fail
      go_ret2
      exact ⟨none, FIN.out, B2.out, rfl⟩
    | true =>
      have EC : Hid _ := cdClimb_any B p (some ⟨g, o, none⟩) lc l ia ic c w2 A2.out hBp.out HS.out hf
      clear hf
      go_wp2_with fail
      refine Calls.mono EC.out ?_
      rintro e3 w3 ⟨b3, q3⟩
      have B3 : Hid (Below w.heap.size w w3) := B2.out.trans (by rw [← HP.out]; exact b3)
      clear b3 EC A2
      rcases q3 with ⟨rfl, q⟩ | ⟨rfl, H, gh, q, hpg, z5, hh⟩
      · have Q : Hid _ := q
        clear q
        go_wp2_with fail
        go_ret2
        exact ⟨none, Q.out, B3.out, rfl⟩
      · have Q : Hid _ := q
        have HH : Hid _ := hh
        have PG : Hid (w.heap.size ≤ gh) := by rw [← HP.out]; exact Nat.le_of_lt hpg
        clear q hh hpg
        go_wp2_with fail
        go_ret2
        exact ⟨some H, Q.out, B3.out, gh, rfl, PG.out, HH.out⟩
/-- Heights of every codes and number. -/
theorem cdHts_any (k : Int) (B : Nat) (la : Option Addr) (lc : Nat) (l : List Cd.Co) (w : World) (h : CdH B w la l) : Calls Tryd.prog 66 #[.slice la l.length lc, .int .i64 k] w fun e w' => ∃ r, Cd.HK Cd.top l k r ∧ Below w.heap.size w w' ∧ HkE w r e w' := by
  by_cases hk : 0 ≤ k ∧ k < l.length
  · obtain ⟨j, rfl⟩ : ∃ j : Nat, k = j := ⟨k.toNat, by omega⟩
    have e : l[j]? = some l[j] := List.getElem?_eq_getElem (by omega)
    refine (cdHts_in j _ B la lc l w h e).mono fun en w' ⟨r, a, b, c⟩ => ⟨r, .inl ⟨hk.1, _, by simp, a⟩, b, c⟩
  · exact (cdHts_out k la lc l w hk).mono fun en w' ⟨a, b⟩ => ⟨none, .inr ⟨fun hh => hk ⟨hh.1, by omega⟩, rfl⟩, b, a⟩
end Go.Proofs.YtodpdnidinnjjaaDoor
