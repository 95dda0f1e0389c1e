/- The document's Parse of a text that is a program of one procedure. -/
/- Which tokens are a program of one procedure: a plain function, and that the document's reader reads what it tells. -/
/- Which tokens are a program of one procedure: statements, lists, the procedure, and the document's Parse by reckoning. -/
/- Layer 4: the two fixed texts of known, read by the document's Parse. -/
/- Layer 4: attempt. -/
/- Layer 4: built, for every expression; unaryType, binaryType. -/
import Derived.Test.YtfpabjdhibmefaaZFolW
import Derived.Defers
import Derived.Recover
namespace Go.Proofs.Ytfpabjdhibmefaa
open Go.RowKit

set_option maxRecDepth 100000 in
set_option maxHeartbeats 2000000 in
theorem rParse_one (s : ByteArray) (T : List (Lx.Tk × Nat)) (ts : List Tok) (x : Sy.Pc) (k' : Nat) (w : World) (hs : s.size ≤ 16384) (hT : T.length < 4000) (hR : Rs s.data.toList (Lx.blank false s.data.toList) T) (ets : ts = (T ++ [((⟨0, [], 0⟩ : Lx.Tk), s.size)]).map tkI) (hrl : rightL ts = true)
    (hz : ∀ j, j < ts.length → (ts.getD j tok0).1.text.length ≤ 1000000) (hn : ∀ j, j < ts.length → -9223372036854775808 ≤ (ts.getD j tok0).1.num ∧ (ts.getD j tok0).1.num ≤ 9223372036854775807) (hk0 : ¬ (ts.getD 0 tok0).1.kind = 0) (hkz : (ts.getD k' tok0).1.kind = 0)
    (hpr : ∀ p b o cap W, Ri W p b o cap ts 0 0 0 → Calls Try.prog 45 #[.pointer (some ⟨p, 0, none⟩)] W (PostP p b o cap ts W x k')) :
    Calls Try.prog 19 #[.string s] w (PostG w [x]) := by
  have hlen : ts.length = T.length + 1 := by rw [ets]; simp
  have HS : Hid (∀ W, Calls Try.prog 30 #[.string s] W (RScan (T ++ [(⟨0, [], 0⟩, s.size)]) W)) := fun W => rscan_good s T W hs hT hR
  have ER : Hid (∀ b o cap W, Ta W b o ts → Calls Try.prog 31 #[.slice (some ⟨b, o, none⟩) ts.length cap] W (PostG W [x])) := fun b o cap W ta =>
    rRead_one b o cap ts x k' W ta (by omega) (by omega) (fun W' hW' => by
      have e := rright_some b o cap ts W' (ta.later hW') (by omega) (by omega) hz hn
      rw [hrl] at e
      exact e) hk0 hkz (fun p W' => hpr p b o cap W')
  have HT : Hid _ := ets
  have HL : Hid ((T ++ [((⟨0, [], 0⟩ : Lx.Tk), s.size)]).length = ts.length ∧ T ++ [((⟨0, [], 0⟩ : Lx.Tk), s.size)] ≠ []) := ⟨by rw [hlen]; simp, by simp⟩
  clear hs hT hR ets hrl hz hn hk0 hkz hpr hlen
  go_enter Try.func19, Try.ntmps19
  go_wp2_with fail
  refine Calls.mono (HS.out _) ?_
  rintro e v1 ⟨v, rfl, ho, b1⟩
  obtain ⟨g0, cap, rfl, hc, hg, TA⟩ := ho.ta HL.out.2
  rw [← HT.out] at TA
  rw [HL.out.1]
  have D1 : Hid (Bo1 v1 w.heap.size (.slice none 0 0)) := (Bo1.new w 29 (.slice none 0 0)).later b1 (by simp)
  have B1 : Hid (Below w.heap.size w v1) := (box_below w _).trans (b1.mono (by simp))
  have E1 : Hid _ := ER.out g0 0 cap v1 TA
  have z1 : w.heap.size < v1.heap.size := D1.out.lt
  clear ho hc hg TA b1 ER HS HT HL
  go_wp2_with fail
  refine Calls.mono E1.out ?_
  rintro e v2 ⟨sa, sc, rfl, X, b2⟩
  have D2 := D1.out.later b2 D1.out.lt
  have X2 : Hid (PcS (fun g => v1.heap.size ≤ g) v2 (.slice sa 1 sc) [x]) := X
  have B2 : Hid (Below w.heap.size w v2) := B1.out.trans (b2.mono B1.out.size)
  have d60 := D2.c0
  have d6f := D2.f0
  have d6l := D2.lt
  clear X b2 D2
  go_wp2_with fail
  refine bodyPost_ret (v := .tuple #[.agg #[.slice sa 1 sc], .int .i64 0, .int .i64 0]) (by simp [results, Try.results19, go_sem, d60]) rfl ?_
  have b7 : Below w.heap.size w (v2.setCell ⟨w.heap.size, 0, none⟩ (.slice sa 1 sc)) :=
    ⟨B2.out.os, B2.out.tape, B2.out.output, by simpa using B2.out.size, fun i hi => (heap_setCell_other v2 _ i _ (fun e => by subst e; exact Nat.lt_irrefl _ hi)).trans (B2.out.block i hi)⟩
  refine ⟨_, _, rfl, ?_, b7⟩
  exact PcS.keep (fun g _ h => by have h' : v1.heap.size ≤ g := h; show w.heap.size ≤ g; omega) (fun q hA _ => World.cell?_setCell_other _ _ _ _ (fun e => by have h : v1.heap.size ≤ q.block := hA; rw [← e] at h; have h' : v1.heap.size ≤ w.heap.size := h; omega)) (by simp) X2.out
end Go.Proofs.Ytfpabjdhibmefaa

namespace Go.Proofs.Ytfpabjdhibmefaa
open Go.RowKit

namespace Sy
def tkB (ts : List Tok) (k : Nat) (s : List UInt8) : Bool := decide ((ts.getD k tok0).1.text = s) && ((decide ((ts.getD k tok0).1.kind = 3) || decide ((ts.getD k tok0).1.kind = 4)) && decide (k + 1 < ts.length))
def nmB (ts : List Tok) (k : Nat) : Bool := decide ((ts.getD k tok0).1.kind = 1) && ((!Lx.isKey (ts.getD k tok0).1.text) && decide (k + 1 < ts.length))
def noB (ts : List Tok) (k : Nat) (s : List UInt8) : Bool := !decide ((ts.getD k tok0).1.text = s)
def rdE (ts : List Tok) (d k : Nat) : Option (Sx.Ex × Nat) := match Sx.bd ts 60 1 d k with
  | some (.ok x k') => some (x, k')
  | _ => none
def begB (ts : List Tok) (k : Nat) : Bool := begS ts k 7 && stW.all fun s => !decide (Sx.tx ts k = s) || (decide ((ts.getD k tok0).1.kind = 3) || decide ((ts.getD k tok0).1.kind = 4))
/-- A short statement. -/
def rdSh (ts : List Tok) (d k : Nat) : Option (St × Nat) :=
  if tkB ts k [118, 97, 114] then
    (if tkB ts (k + 1) [98, 111, 111, 108] then (if nmB ts (k + 1 + 1) then some (.mk 1 (ts.getD (k + 1 + 1) tok0).1.text [] (-1) [] [] [], k + 1 + 1 + 1) else none)
     else if noB ts (k + 1) [98, 111, 111, 108] && (nmB ts (k + 1) && noB ts (k + 1 + 1) [91]) then some (.mk 1 (ts.getD (k + 1) tok0).1.text [] 0 [] [] [], k + 1 + 1) else none)
  else if tkB ts k [114, 101, 116, 117, 114, 110] then
    (if tkB ts (k + 1) [59] then some (.mk 7 [] [] 0 [] [] [], k + 1)
     else if noB ts (k + 1) [59] then (rdE ts d (k + 1)).map fun y => (.mk 7 [] [] 0 [y.1] [] [], y.2) else none)
  else if tkB ts k [112, 114, 105, 110, 116] then (rdE ts d (k + 1)).map fun y => (.mk 8 [] [] 0 [y.1] [] [], y.2)
  else if tkB ts k [97, 115, 115, 101, 114, 116] then (rdE ts d (k + 1)).map fun y => (.mk 10 [] [] 0 [y.1] [] [], y.2)
  else if tkB ts k [114, 101, 97, 100] then (if nmB ts (k + 1) then some (.mk 9 (ts.getD (k + 1) tok0).1.text [] 0 [] [] [], k + 1 + 1) else none)
  else if nmB ts k && (tkB ts (k + 1) [61] && !decide ((ts.getD (k + 1 + 1) tok0).1.kind = 1)) then (rdE ts d (k + 1 + 1)).map fun y => (.mk 2 (ts.getD k tok0).1.text [] 0 [y.1] [] [], y.2)
  else none
theorem tkB_ok {ts : List Tok} {k : Nat} {s : List UInt8} (h : tkB ts k s = true) : TkA ts k s := by
  unfold tkB at h
  rw [Bool.and_eq_true, Bool.and_eq_true, Bool.or_eq_true] at h
  exact ⟨of_decide_eq_true h.1, h.2.1.imp of_decide_eq_true of_decide_eq_true, of_decide_eq_true h.2.2⟩
theorem nmB_ok {ts : List Tok} {k : Nat} (h : nmB ts k = true) : NmA ts k (ts.getD k tok0).1.text := by
  unfold nmB at h
  rw [Bool.and_eq_true, Bool.and_eq_true] at h
  exact ⟨rfl, of_decide_eq_true h.1, by simpa using h.2.1, of_decide_eq_true h.2.2⟩
theorem noB_ok {ts : List Tok} {k : Nat} {s : List UInt8} (h : noB ts k s = true) : ¬ (ts.getD k tok0).1.text = s := by
  unfold noB at h
  simpa using h
theorem rdE_ok {ts : List Tok} {d k : Nat} {y : Sx.Ex × Nat} (h : rdE ts d k = some y) : Sx.bd ts 60 1 d k = some (.ok y.1 y.2) := by
  unfold rdE at h
  split at h
  · rename_i x k' e
    cases h
    exact e
  · cases h
theorem begB_ok {ts : List Tok} {k : Nat} (h : begB ts k = true) : Begs ts k := by
  unfold begB at h
  rw [Bool.and_eq_true, List.all_eq_true] at h
  refine ⟨h.1, fun s hs e => ?_⟩
  have := h.2 s hs
  rw [Bool.or_eq_true, Bool.or_eq_true] at this
  rcases this with q | q
  · rw [decide_eq_true e] at q; cases q
  · exact q.imp of_decide_eq_true of_decide_eq_true
end Sy
theorem rdSh_ok {p b o cap : Nat} {ts : List Tok} (he : ECr p b o cap ts 60) {d k : Nat} (hd : d ≤ 61) {y : Sy.St × Nat} (h : Sy.rdSh ts d k = some y) (w : World) (ri : Ri w p b o cap ts k 0 0) :
    Calls Try.prog 93 #[.pointer (some ⟨p, 0, none⟩), .int .i64 (d : Int)] w (PostS p b o cap ts w y.1 y.2) := by
  unfold Sy.rdSh at h
  split at h
  · rename_i t0
    split at h
    · rename_i t1
      split at h
      · rename_i t2
        cases h
        exact rshort_varb p b o cap ts d k _ w ri (Sy.tkB_ok t0) (Sy.tkB_ok t1) (Sy.nmB_ok t2)
      · cases h
    · split at h
      · rename_i t2
        rw [Bool.and_eq_true, Bool.and_eq_true] at t2
        cases h
        exact rshort_var p b o cap ts d k _ w ri (Sy.tkB_ok t0) (Sy.noB_ok t2.1) (Sy.nmB_ok t2.2.1) (Sy.noB_ok t2.2.2)
      · cases h
  · split at h
    · rename_i t0
      split at h
      · rename_i t1
        cases h
        exact rshort_ret0 p b o cap ts d k w ri (Sy.tkB_ok t0) (Sy.tkB_ok t1)
      · split at h
        · rename_i t1
          obtain ⟨z, hz, rfl⟩ := Option.map_eq_some_iff.1 h
          exact rshort_return p b o cap ts 60 d k z.2 z.1 he hd w ri (Sy.tkB_ok t0) (Sy.rdE_ok hz) (Sy.noB_ok t1)
        · cases h
    · split at h
      · rename_i t0
        obtain ⟨z, hz, rfl⟩ := Option.map_eq_some_iff.1 h
        exact rshort_print p b o cap ts 60 d k z.2 z.1 he hd w ri (Sy.tkB_ok t0) (Sy.rdE_ok hz)
      · split at h
        · rename_i t0
          obtain ⟨z, hz, rfl⟩ := Option.map_eq_some_iff.1 h
          exact rshort_assert p b o cap ts 60 d k z.2 z.1 he hd w ri (Sy.tkB_ok t0) (Sy.rdE_ok hz)
        · split at h
          · rename_i t0
            split at h
            · rename_i t1
              cases h
              exact rshort_read p b o cap ts d k _ w ri (Sy.tkB_ok t0) (Sy.nmB_ok t1)
            · cases h
          · split at h
            · rename_i t0
              rw [Bool.and_eq_true, Bool.and_eq_true] at t0
              obtain ⟨z, hz, rfl⟩ := Option.map_eq_some_iff.1 h
              exact rshort_set p b o cap ts d k 60 z.2 z.1 _ w ri he hd (Sy.nmB_ok t0.1) (Sy.tkB_ok t0.2.1) (by simpa using t0.2.2) (Sy.rdE_ok hz)
            · cases h
end Go.Proofs.Ytfpabjdhibmefaa

namespace Go.Proofs.Ytfpabjdhibmefaa
open Go.RowKit

namespace Sy
/-- A statement, given how lists behind a bracket are read. -/
def rdStW (ts : List Tok) (L : Nat → Nat → Option (List St × Nat)) (d k : Nat) : Option (St × Nat) :=
  if decide (d ≤ 60) && begB ts k then
    (if tkB ts k [105, 102] then
      (if tkB ts (k + 1) [40] then (rdE ts (d + 1) (k + 1 + 1)).bind fun x => if tkB ts x.2 [41] && tkB ts (x.2 + 1) [123] then (L (d + 1) (x.2 + 1 + 1)).bind fun bl =>
          (if tkB ts bl.2 [101, 108, 115, 101] then (if tkB ts (bl.2 + 1) [123] then (L (d + 1) (bl.2 + 1 + 1)).map fun el => (.mk 4 [] [] 0 [x.1] bl.1 el.1, el.2) else none)
           else if noB ts bl.2 [101, 108, 115, 101] then some (.mk 4 [] [] 0 [x.1] bl.1 [], bl.2) else none) else none
       else none)
     else if tkB ts k [119, 104, 105, 108, 101] then
      (if tkB ts (k + 1) [40] then (rdE ts (d + 1) (k + 1 + 1)).bind fun x => if tkB ts x.2 [41] && tkB ts (x.2 + 1) [123] then (L (d + 1) (x.2 + 1 + 1)).map fun bl => (.mk 5 [] [] 0 [x.1] bl.1 [], bl.2) else none
       else none)
     else if noB ts k [105, 102] && noB ts k [119, 104, 105, 108, 101] then (rdSh ts (d + 1) k).bind fun s => if tkB ts s.2 [59] then some (s.1, s.2 + 1) else none
     else none)
  else none
/-- Statements and the bracket behind them. -/
def rdL (ts : List Tok) : Nat → Nat → Nat → Option (List St × Nat)
  | 0, _, _ => none
  | f + 1, d, k =>
    if tkB ts k [125] then some ([], k + 1)
    else if noB ts k [125] then (rdStW ts (rdL ts f) d k).bind fun s => (rdL ts f d s.2).map fun l => (s.1 :: l.1, l.2)
    else none
def rdTy (ts : List Tok) (k : Nat) : Option (Int × Nat) :=
  if tkB ts k [105, 110, 116] then some (1, k + 1)
  else if tkB ts k [98, 111, 111, 108] then some (2, k + 1)
  else if noB ts k [105, 110, 116] && noB ts k [98, 111, 111, 108] then some (0, k) else none
/-- A procedure without parameters. -/
def rdP (ts : List Tok) (f k : Nat) : Option (Pc × Nat) :=
  if tkB ts k [112, 114, 111, 99] && (nmB ts (k + 1) && (tkB ts (k + 1 + 1) [40] && tkB ts (k + 1 + 1 + 1) [41])) then
    (rdTy ts (k + 1 + 1 + 1 + 1)).bind fun t => if tkB ts t.2 [123] then (rdL ts f 1 (t.2 + 1)).map fun l => (⟨(ts.getD (k + 1) tok0).1.text, [], t.1, l.1⟩, l.2) else none
  else none
end Sy
theorem rdStW_ok {p b o cap : Nat} {ts : List Tok} (he : ECr p b o cap ts 60) {L : Nat → Nat → Option (List Sy.St × Nat)} (hL : ∀ d k y, L d k = some y → GL p b o cap ts d k y.1 y.2 ∧ y.1.length ≤ 100000) {d k : Nat} {y : Sy.St × Nat} (h : Sy.rdStW ts L d k = some y) : StR p b o cap ts d k y.1 y.2 := by
  intro W ri
  unfold Sy.rdStW at h
  split at h
  · rename_i c
    rw [Bool.and_eq_true] at c
    have hd : d ≤ 60 := of_decide_eq_true c.1
    have hbg := Sy.begB_ok c.2
    split at h
    · rename_i t0
      split at h
      · rename_i t1
        obtain ⟨x, hx, h⟩ := Option.bind_eq_some_iff.1 h
        split at h
        · rename_i t2
          rw [Bool.and_eq_true] at t2
          obtain ⟨bl, hbl, h⟩ := Option.bind_eq_some_iff.1 h
          split at h
          · rename_i t4
            split at h
            · rename_i t5
              obtain ⟨el, hel, rfl⟩ := Option.map_eq_some_iff.1 h
              exact rstmt_else p b o cap ts d k W ri hd hbg 60 x.2 bl.2 x.1 bl.1 (hL _ _ _ hbl).2 he (Sy.tkB_ok t0) (Sy.tkB_ok t1) (Sy.rdE_ok hx) (Sy.tkB_ok t2.1) (Sy.tkB_ok t2.2) (hL _ _ _ hbl).1 el.2 el.1 (hL _ _ _ hel).2 (Sy.tkB_ok t4) (Sy.tkB_ok t5) (hL _ _ _ hel).1
            · cases h
          · split at h
            · rename_i t4
              cases h
              exact rstmt_if p b o cap ts d k W ri hd hbg 60 x.2 bl.2 x.1 bl.1 (hL _ _ _ hbl).2 he (Sy.tkB_ok t0) (Sy.tkB_ok t1) (Sy.rdE_ok hx) (Sy.tkB_ok t2.1) (Sy.tkB_ok t2.2) (hL _ _ _ hbl).1 (Sy.noB_ok t4)
            · cases h
        · cases h
      · cases h
    · split at h
      · rename_i t0
        split at h
        · rename_i t1
          obtain ⟨x, hx, h⟩ := Option.bind_eq_some_iff.1 h
          split at h
          · rename_i t2
            rw [Bool.and_eq_true] at t2
            obtain ⟨bl, hbl, rfl⟩ := Option.map_eq_some_iff.1 h
            exact rstmt_while p b o cap ts d k W ri hd hbg 60 x.2 bl.2 x.1 bl.1 (hL _ _ _ hbl).2 he (Sy.tkB_ok t0) (Sy.tkB_ok t1) (Sy.rdE_ok hx) (Sy.tkB_ok t2.1) (Sy.tkB_ok t2.2) (hL _ _ _ hbl).1
          · cases h
        · cases h
      · split at h
        · rename_i t0
          rw [Bool.and_eq_true] at t0
          obtain ⟨s, hs, h⟩ := Option.bind_eq_some_iff.1 h
          split at h
          · rename_i t1
            cases h
            refine rstmt_short p b o cap ts d k W ri hd hbg s.1 s.2 (Sy.noB_ok t0.1) (Sy.noB_ok t0.2) (fun W' hW' => ?_) (Sy.tkB_ok t1)
            have e := rdSh_ok he (d := d + 1) (by omega) hs W' hW'
            have ed : ((d + 1 : Nat) : Int) = (d : Int) + 1 := by omega
            rw [ed] at e
            exact e
          · cases h
        · cases h
  · cases h
theorem rdL_ok {p b o cap : Nat} {ts : List Tok} (he : ECr p b o cap ts 60) : ∀ f d k y, f ≤ 100000 → Sy.rdL ts f d k = some y → GL p b o cap ts d k y.1 y.2 ∧ y.1.length ≤ f
  | 0, _, _, _, _, h => by cases h
  | f + 1, d, k, y, hf, h => by
    rw [Sy.rdL] at h
    split at h
    · rename_i t
      cases h
      exact ⟨.nil k (Sy.tkB_ok t), Nat.zero_le _⟩
    · split at h
      · rename_i t
        obtain ⟨s, hs, h⟩ := Option.bind_eq_some_iff.1 h
        obtain ⟨l, hl, rfl⟩ := Option.map_eq_some_iff.1 h
        have a := rdL_ok he f d s.2 l (by omega) hl
        refine ⟨.cons k s.1 s.2 l.1 l.2 (Sy.noB_ok t) (rdStW_ok he (fun d' k' y' h' => ?_) hs) a.1, by have := a.2; simp; omega⟩
        have a' := rdL_ok he f d' k' y' (by omega) h'
        exact ⟨a'.1, by have := a'.2; omega⟩
      · cases h
theorem rdTy_ok {p b o cap : Nat} {ts : List Tok} {k : Nat} {y : Int × Nat} (h : Sy.rdTy ts k = some y) (W : World) (ri : Ri W p b o cap ts k 0 0) :
    Calls Try.prog 70 #[.pointer (some ⟨p, 0, none⟩)] W fun e w' => e = .returned (.int .i64 y.1) ∧ Ri w' p b o cap ts y.2 0 0 ∧ Kp p W w' := by
  unfold Sy.rdTy at h
  split at h
  · rename_i t
    cases h
    exact rtyp_int p b o cap ts k W ri (Sy.tkB_ok t)
  · split at h
    · rename_i t
      cases h
      exact rtyp_bool p b o cap ts k W ri (Sy.tkB_ok t)
    · split at h
      · rename_i t
        rw [Bool.and_eq_true] at t
        cases h
        refine Calls.mono (rtyp_none p b o cap ts k W ri (Sy.noB_ok t.1) (Sy.noB_ok t.2)) ?_
        rintro e w1 ⟨rfl, b1⟩
        exact ⟨rfl, ri.later b1, Keep.of_below b1 (Nat.le_refl _)⟩
      · cases h
theorem rdP_ok {p b o cap : Nat} {ts : List Tok} (he : ECr p b o cap ts 60) {f k : Nat} (hf : f ≤ 100000) {y : Sy.Pc × Nat} (h : Sy.rdP ts f k = some y) (W : World) (ri : Ri W p b o cap ts k 0 0) :
    Calls Try.prog 45 #[.pointer (some ⟨p, 0, none⟩)] W (PostP p b o cap ts W y.1 y.2) := by
  unfold Sy.rdP at h
  split at h
  · rename_i c
    rw [Bool.and_eq_true, Bool.and_eq_true, Bool.and_eq_true] at c
    obtain ⟨t, ht, h⟩ := Option.bind_eq_some_iff.1 h
    split at h
    · rename_i t4
      obtain ⟨l, hl, rfl⟩ := Option.map_eq_some_iff.1 h
      have a := rdL_ok he f 1 _ l hf hl
      exact rproc_none p b o cap ts k t.2 l.2 _ t.1 l.1 (by have := a.2; omega) W ri (Sy.tkB_ok c.1) (Sy.nmB_ok c.2.1) (Sy.tkB_ok c.2.2.1) (Sy.tkB_ok c.2.2.2) (fun W' hW' => rdTy_ok ht W' hW') (Sy.tkB_ok t4) a.1
    · cases h
  · cases h
/-- Each token's number and text are not too great. -/
def fitB (ts : List Tok) : Bool := ts.all fun t => decide (t.1.text.length ≤ 1000000) && (decide (-9223372036854775808 ≤ t.1.num) && decide (t.1.num ≤ 9223372036854775807))
theorem fitB_ok {ts : List Tok} (h : fitB ts = true) (j : Nat) (hj : j < ts.length) : (ts.getD j tok0).1.text.length ≤ 1000000 ∧ -9223372036854775808 ≤ (ts.getD j tok0).1.num ∧ (ts.getD j tok0).1.num ≤ 9223372036854775807 := by
  unfold fitB at h
  rw [List.all_eq_true] at h
  have e : ts.getD j tok0 = ts[j] := by simp [List.getD, hj]
  rw [e]
  have := h ts[j] (List.getElem_mem hj)
  rw [Bool.and_eq_true, Bool.and_eq_true] at this
  exact ⟨of_decide_eq_true this.1, of_decide_eq_true this.2.1, of_decide_eq_true this.2.2⟩
/-- The tokens of a text from a place on (as FolX has it for expressions). -/
def rsG (l : List UInt8) : Nat → Nat → Option (List (Lx.Tk × Nat))
  | 0, _ => none
  | f + 1, a =>
    if l.length ≤ a then (if a = l.length then some [] else none)
    else if 0 < (rfirst (l.drop a)).2 ∧ a + (rfirst (l.drop a)).2 ≤ l.length then (rsG l f (a + (rfirst (l.drop a)).2 + Lx.blank false (l.drop (a + (rfirst (l.drop a)).2)))).map fun R => ((rfirst (l.drop a)).1, a) :: R
    else none
theorem rsG_ok (l : List UInt8) : ∀ (f a : Nat) (R : List (Lx.Tk × Nat)), rsG l f a = some R → Rs l a R
  | 0, _, _, h => by cases h
  | f + 1, a, R, h => by
    rw [rsG] at h
    split at h
    · split at h
      · rename_i e
        cases h
        rw [e]
        exact .fin
      · cases h
    · rename_i hlt
      split at h
      · rename_i hn
        obtain ⟨R', h', rfl⟩ := Option.map_eq_some_iff.1 h
        exact .step a (rfirst (l.drop a)).2 (rfirst (l.drop a)).1 R' (by omega) rfl hn.1 hn.2 (rsG_ok l f _ R' h')
      · cases h
/-- The document's Parse of a text of one procedure, by reckoning. -/
theorem rParse_by (l : List UInt8) (T : List (Lx.Tk × Nat)) (x : Sy.Pc) (k' : Nat) (w : World) (h1 : l.length ≤ 16384) (h2 : T.length < 4000) (h3 : rsG l 400 (Lx.blank false l) = some T) (h4 : rightL ((T ++ [((⟨0, [], 0⟩ : Lx.Tk), l.length)]).map tkI) = true) (h5 : fitB ((T ++ [((⟨0, [], 0⟩ : Lx.Tk), l.length)]).map tkI) = true) (h6 : Sy.rdP ((T ++ [((⟨0, [], 0⟩ : Lx.Tk), l.length)]).map tkI) 100 0 = some (x, k')) (h7 : ¬ (((T ++ [((⟨0, [], 0⟩ : Lx.Tk), l.length)]).map tkI).getD 0 tok0).1.kind = 0) (h8 : (((T ++ [((⟨0, [], 0⟩ : Lx.Tk), l.length)]).map tkI).getD k' tok0).1.kind = 0) :
    Calls Try.prog 19 #[.string ⟨l.toArray⟩] w (PostG w [x]) := by
  have hz : (⟨l.toArray⟩ : ByteArray).size = l.length := size_text l
  have hd : (⟨l.toArray⟩ : ByteArray).data.toList = l := text_list l
  have hlen : ((T ++ [((⟨0, [], 0⟩ : Lx.Tk), l.length)]).map tkI).length ≤ 1000000 := by simp; omega
  have gd := good_of h4 hlen
  have rt := rt_of h4 hlen
  refine rParse_one ⟨l.toArray⟩ T ((T ++ [((⟨0, [], 0⟩ : Lx.Tk), l.length)]).map tkI) x k' w (by rw [hz]; exact h1) h2 (by rw [hd]; exact rsG_ok l 400 _ T h3) (by rw [hz]) h4 (fun j hj => (fitB_ok h5 j hj).1) (fun j hj => (fitB_ok h5 j hj).2) h7 h8 ?_
  intro p b o cap W hW
  exact rdP_ok (rexpr_any p b o cap _ rt 60 (rread_any p b o cap _ gd rt 60).2) (by omega) h6 W hW
end Go.Proofs.Ytfpabjdhibmefaa

namespace Go.Proofs.Ytfpabjdhibmefaa
open Go.RowKit

def kI1 : Sx.Ex := .mk 1 [] 1 []
def kTr : Sx.Ex := .mk 2 [] 1 []
def kVx : Sy.St := .mk 1 [120] [] 0 [] [] []
def kP1 : Sy.Pc := ⟨[109, 97, 105, 110], [], 0, [.mk 4 [] [] 0 [kTr] [kVx, .mk 2 [120] [] 0 [kI1] [] []] [], .mk 8 [] [] 0 [kI1] [] []]⟩
def kP2 : Sy.Pc := ⟨[109, 97, 105, 110], [], 0, [kVx, .mk 2 [120] [] 0 [kTr] [] []]⟩
def kL1 : List (Lx.Tk × Nat) := [(⟨3, [112, 114, 111, 99], 0⟩, 0), (⟨1, [109, 97, 105, 110], 0⟩, 5), (⟨4, [40], 0⟩, 10), (⟨4, [41], 0⟩, 12), (⟨4, [123], 0⟩, 14), (⟨3, [105, 102], 0⟩, 16), (⟨4, [40], 0⟩, 19), (⟨3, [116, 114, 117, 101], 0⟩, 21), (⟨4, [41], 0⟩, 26), (⟨4, [123], 0⟩, 28), (⟨3, [118, 97, 114], 0⟩, 30), (⟨1, [120], 0⟩, 34), (⟨4, [59], 0⟩, 36), (⟨1, [120], 0⟩, 38), (⟨4, [61], 0⟩, 40), (⟨2, [], 1⟩, 42), (⟨4, [59], 0⟩, 44), (⟨4, [125], 0⟩, 46), (⟨3, [112, 114, 105, 110, 116], 0⟩, 48), (⟨2, [], 1⟩, 54), (⟨4, [59], 0⟩, 56), (⟨4, [125], 0⟩, 58)]
def kL2 : List (Lx.Tk × Nat) := [(⟨3, [112, 114, 111, 99], 0⟩, 0), (⟨1, [109, 97, 105, 110], 0⟩, 5), (⟨4, [40], 0⟩, 10), (⟨4, [41], 0⟩, 12), (⟨4, [123], 0⟩, 14), (⟨3, [118, 97, 114], 0⟩, 16), (⟨1, [120], 0⟩, 20), (⟨4, [59], 0⟩, 22), (⟨1, [120], 0⟩, 24), (⟨4, [61], 0⟩, 26), (⟨3, [116, 114, 117, 101], 0⟩, 28), (⟨4, [59], 0⟩, 33), (⟨4, [125], 0⟩, 35)]
theorem kprog1 (w : World) : Calls Try.prog 19 #[.string ⟨#[112, 114, 111, 99, 32, 109, 97, 105, 110, 32, 40, 32, 41, 32, 123, 32, 105, 102, 32, 40, 32, 116, 114, 117, 101, 32, 41, 32, 123, 32, 118, 97, 114, 32, 120, 32, 59, 32, 120, 32, 61, 32, 49, 32, 59, 32, 125, 32, 112, 114, 105, 110, 116, 32, 49, 32, 59, 32, 125]⟩] w (PostG w [kP1]) :=
  rParse_by [112, 114, 111, 99, 32, 109, 97, 105, 110, 32, 40, 32, 41, 32, 123, 32, 105, 102, 32, 40, 32, 116, 114, 117, 101, 32, 41, 32, 123, 32, 118, 97, 114, 32, 120, 32, 59, 32, 120, 32, 61, 32, 49, 32, 59, 32, 125, 32, 112, 114, 105, 110, 116, 32, 49, 32, 59, 32, 125] kL1 kP1 22 w (by decide) (by decide) (by kernel_rfl) (by kernel_rfl) (by kernel_rfl) (by kernel_rfl) (by decide) (by kernel_rfl)
theorem kprog2 (w : World) : Calls Try.prog 19 #[.string ⟨#[112, 114, 111, 99, 32, 109, 97, 105, 110, 32, 40, 32, 41, 32, 123, 32, 118, 97, 114, 32, 120, 32, 59, 32, 120, 32, 61, 32, 116, 114, 117, 101, 32, 59, 32, 125]⟩] w (PostG w [kP2]) :=
  rParse_by [112, 114, 111, 99, 32, 109, 97, 105, 110, 32, 40, 32, 41, 32, 123, 32, 118, 97, 114, 32, 120, 32, 59, 32, 120, 32, 61, 32, 116, 114, 117, 101, 32, 59, 32, 125] kL2 kP2 13 w (by decide) (by decide) (by kernel_rfl) (by kernel_rfl) (by kernel_rfl) (by kernel_rfl) (by decide) (by kernel_rfl)
end Go.Proofs.Ytfpabjdhibmefaa

namespace Go.Proofs.Ytfpabjdhibmefaa
open Go.RowKit

def ckPan (er : Int) : Ending := .panicked [{ v := .iface 45 (.int .i64 er), recovered := false }]
set_option maxRecDepth 100000 in
set_option maxHeartbeats 1000000 in
theorem ck_idle (v0 : Value) (w : World) :
    CallsD Try.prog 37 #[v0] .returning w fun e u' w' => e = .returned (.tuple #[]) ∧ u' = .returning ∧ w' = w := by
  refine callsD_of_wpS Try.func37 rfl fun c₀ cs hu => ?_
  apply wpS_seq
  apply wpS_region
  simp [wpOpsS, go_sem, recoverD, hu, Try.ntmps37, Exit.thenS]
  refine wpS_of_wp ?_
  change Code.wp _ _ _ { tmps := #[v0, .nilIface, .nilIface, undef, undef, undef, undef], defers := [] } _
  go_wp2_with fail
  cases c₀
  simp_all [bodyPostS, results, Try.results37]
theorem ck_ta (er : Int) (w : World) : (Instr.typeAssert (.iface 45 (.int .i64 er)) 20 45 false).run Try.prog w = .ok (.int .i64 er) w := by kernel_rfl
set_option maxRecDepth 100000 in
set_option maxHeartbeats 1000000 in
theorem ck_thrown (n : Nat) (er : Int) (x : Value) (w : World) (hn : w.cell? ⟨n, 0, none⟩ = some x) (fn : w.frozen? ⟨n, 0, none⟩ = false) :
    CallsD Try.prog 37 #[.pointer (some ⟨n, 0, none⟩)] (.panicking [{ v := .iface 45 (.int .i64 er), recovered := false }]) w fun e u' w' =>
      e = .returned (.tuple #[]) ∧ u' = .panicking [{ v := .iface 45 (.int .i64 er), recovered := true }] ∧ w'.cell? ⟨n, 0, none⟩ = some (.int .i64 er) ∧ Keep (fun g => g = n) w w' := by
  refine callsD_of_wpS Try.func37 rfl fun c₀ cs hu => ?_
  apply wpS_seq
  apply wpS_region
  simp [wpOpsS, go_sem, recoverD, hu, Try.ntmps37, Exit.thenS]
  have kt := ck_ta
  refine wpS_of_wp ?_
  change Code.wp _ _ _ { tmps := #[.pointer (some ⟨n, 0, none⟩), .iface 45 (.int .i64 er), .iface 45 (.int .i64 er), undef, undef, undef, undef], defers := [] } _
  go_wp2_with fail
  refine ⟨rfl, _, rfl, .tuple #[], by simp [results, Try.results37, go_sem], rfl, rfl, ?_, ?_⟩
  · simp [go_sem, hn]
  · exact (Keep.refl (fun g => g = n) w).set (a := ⟨n, 0, none⟩) (.inr rfl) _
def ck1box (w : World) : World := w.alloc (.cells #[.int .i64 0] 45)
set_option maxRecDepth 100000 in
set_option maxHeartbeats 1000000 in
theorem ckAttempt_ok (F : FuncId) (c : Array Value) (w : World) (D : Nat → Prop) (hD : ∀ g, D g → g < w.heap.size) (C : World → Prop) (hF : ∀ w, (callFunc F c).run Try.prog w = .ok (.enter F c) w)
    (hc : Calls Try.prog F c (ck1box w) fun e w' => e = .returned (.tuple #[]) ∧ Keep D (ck1box w) w' ∧ C w') :
    Calls Try.prog 27 #[.func (.func F) #[] c] w fun e w' => e = .returned (.int .i64 0) ∧ ∃ w1, Keep D (ck1box w) w1 ∧ C w1 ∧ w' = w1.setCell ⟨w.heap.size, 0, none⟩ (.int .i64 0) := by
  have hmf : ∀ (fn : Fn) (first cap : Array Value) (w : World), (Instr.makeFunc fn first cap).run Try.prog w = .ok (.func fn first cap) w := fun _ _ _ _ => rfl
  go_enter_defers Try.func27, Try.ntmps27
  have HC : Hid _ := hc
  have HD : Hid (∀ g, D g → g < w.heap.size) := hD
  clear hc hD
  go_wp2_with fail
  refine Calls.mono HC.out ?_
  rintro e w1 ⟨rfl, k1, c1⟩
  have a0 : w1.cell? ⟨w.heap.size, 0, none⟩ = some (.int .i64 0) := (k1.cell (by simp [ck1box]) (fun e => absurd (HD.out _ e) (by simp))).trans (by simp [ck1box, go_sem])
  have f0 : w1.frozen? ⟨w.heap.size, 0, none⟩ = false := (k1.frozen (by simp [ck1box]) (fun e => absurd (HD.out _ e) (by simp))).trans (by simp [ck1box, go_sem])
  have K1 : Hid _ := k1
  have C1 : Hid _ := c1
  clear k1 c1
  go_wp2_with fail
  refine leaves_cons (f := 37) (args := #[.pointer (some ⟨w.heap.size, 0, none⟩)]) (by simp) (by simp [go_sem]) ?_
  refine CallsD.mono (ck_idle _ _) ?_
  rintro e u' w'' ⟨rfl, rfl, rfl⟩
  simp [Leaves, settle, results, Try.results27, go_sem, a0]
  exact ⟨w1, K1.out, C1.out, rfl⟩
set_option maxRecDepth 100000 in
set_option maxHeartbeats 1000000 in
theorem ckAttempt_bad (er : Int) (F : FuncId) (c : Array Value) (w : World) (D : Nat → Prop) (hD : ∀ g, D g → g < w.heap.size) (C : World → Prop) (hF : ∀ w, (callFunc F c).run Try.prog w = .ok (.enter F c) w)
    (hc : Calls Try.prog F c (ck1box w) fun e w' => e = ckPan er ∧ Keep D (ck1box w) w' ∧ C w') :
    Calls Try.prog 27 #[.func (.func F) #[] c] w fun e w' => e = .returned (.int .i64 er) ∧ ∃ w1, Keep D (ck1box w) w1 ∧ C w1 ∧ Keep (fun g => g = w.heap.size) w1 w' := by
  have hmf : ∀ (fn : Fn) (first cap : Array Value) (w : World), (Instr.makeFunc fn first cap).run Try.prog w = .ok (.func fn first cap) w := fun _ _ _ _ => rfl
  go_enter_defers Try.func27, Try.ntmps27
  have HC : Hid _ := hc
  have HD : Hid (∀ g, D g → g < w.heap.size) := hD
  clear hc hD
  go_wp2_with fail
  refine Calls.mono HC.out ?_
  rintro e w1 ⟨rfl, k1, c1⟩
  have a0 : w1.cell? ⟨w.heap.size, 0, none⟩ = some (.int .i64 0) := (k1.cell (by simp [ck1box]) (fun e => absurd (HD.out _ e) (by simp))).trans (by simp [ck1box, go_sem])
  have f0 : w1.frozen? ⟨w.heap.size, 0, none⟩ = false := (k1.frozen (by simp [ck1box]) (fun e => absurd (HD.out _ e) (by simp))).trans (by simp [ck1box, go_sem])
  have K1 : Hid _ := k1
  have C1 : Hid _ := c1
  clear k1 c1
  unfold ckPan
  go_wp2_with fail
  refine leaves_cons (f := 37) (args := #[.pointer (some ⟨w.heap.size, 0, none⟩)]) (by simp) (by simp [go_sem]) ?_
  refine CallsD.mono (ck_thrown w.heap.size er _ w1 a0 f0) ?_
  rintro e u' w'' ⟨rfl, rfl, q0, kk⟩
  simp [Leaves, settle, results, Try.results27, go_sem, q0]
  exact ⟨w1, K1.out, C1.out, kk⟩
/-- must. -/
theorem ckMust_yes (er : Int) (w : World) : Calls Try.prog 46 #[.bool true, .int .i64 er] w fun e w' => e = .returned (.tuple #[]) ∧ w' = w := by
  go_enter Try.func46, Try.ntmps46
  go_wp2_with fail
  exact ⟨rfl, .tuple #[], by simp [results, Try.results46, go_sem], rfl, rfl⟩
theorem ckMust_no (er : Int) (w : World) : Calls Try.prog 46 #[.bool false, .int .i64 er] w fun e w' => e = ckPan er ∧ Below w.heap.size w w' := by
  unfold ckPan
  go_enter Try.func46, Try.ntmps46
  go_wp2_with fail
  exact ⟨rfl, rfl, Below.refl _ _⟩
end Go.Proofs.Ytfpabjdhibmefaa

namespace Go.Proofs.Ytfpabjdhibmefaa
open Go.RowKit

/-- Built as it must be: its kind, its number, how many parts. -/
def ckBu (k m : Int) (c : Nat) : Bool :=
  if k = 1 then decide (0 ≤ m) && ((c : Int) == 0) else if k = 2 then ((m == 0) || (m == 1)) && ((c : Int) == 0)
  else if k = 3 then ((c : Int) == 0) else if k = 4 then ((c : Int) == 1) else if k = 5 then ((c : Int) == 1) else if k = 6 then ((c : Int) == 2) else false
set_option maxRecDepth 100000 in
set_option maxHeartbeats 2000000 in
theorem ckBuilt_i1 (n : List UInt8) (sa : Option Addr) (sn sc : Nat) (w : World) (m : Int) (hm : 0 ≤ m) : Calls Try.prog 47 #[.agg #[.int .i64 1, .string ⟨n.toArray⟩, .int .i64 m, .slice sa sn sc]] w fun e w' => e = .returned (.bool (ckBu 1 m sn)) ∧ Below w.heap.size w w' := by
  have H : Hid (ckBu 1 m sn = ((sn : Int) == 0)) := by unfold Hid ckBu; simp [hm]
  go_enter Try.func47, Try.ntmps47
  go_wp2_with fail
  go_ret
  exact ⟨ret_bool H.out.symm, by go_grown⟩
set_option maxRecDepth 100000 in
set_option maxHeartbeats 2000000 in
theorem ckBuilt_i0 (n : List UInt8) (sa : Option Addr) (sn sc : Nat) (w : World) (m : Int) (hm : ¬ 0 ≤ m) : Calls Try.prog 47 #[.agg #[.int .i64 1, .string ⟨n.toArray⟩, .int .i64 m, .slice sa sn sc]] w fun e w' => e = .returned (.bool (ckBu 1 m sn)) ∧ Below w.heap.size w w' := by
  have H : Hid (ckBu 1 m sn = false) := by unfold Hid ckBu; simp [hm]
  have hm2 : decide (0 ≤ m) = false := decide_eq_false hm
  go_enter Try.func47, Try.ntmps47
  go_wp2_with fail
  go_ret
  exact ⟨ret_bool H.out.symm, by go_grown⟩
set_option maxRecDepth 100000 in
set_option maxHeartbeats 2000000 in
theorem ckBuilt_b0 (n : List UInt8) (sa : Option Addr) (sn sc : Nat) (w : World) : Calls Try.prog 47 #[.agg #[.int .i64 2, .string ⟨n.toArray⟩, .int .i64 0, .slice sa sn sc]] w fun e w' => e = .returned (.bool (ckBu 2 0 sn)) ∧ Below w.heap.size w w' := by
  have H : Hid (ckBu 2 0 sn = ((sn : Int) == 0)) := by unfold Hid ckBu; simp
  go_enter Try.func47, Try.ntmps47
  go_wp2_with fail
  go_ret
  exact ⟨ret_bool H.out.symm, by go_grown⟩
set_option maxRecDepth 100000 in
set_option maxHeartbeats 2000000 in
theorem ckBuilt_b1 (n : List UInt8) (sa : Option Addr) (sn sc : Nat) (w : World) : Calls Try.prog 47 #[.agg #[.int .i64 2, .string ⟨n.toArray⟩, .int .i64 1, .slice sa sn sc]] w fun e w' => e = .returned (.bool (ckBu 2 1 sn)) ∧ Below w.heap.size w w' := by
  have H : Hid (ckBu 2 1 sn = ((sn : Int) == 0)) := by unfold Hid ckBu; simp
  go_enter Try.func47, Try.ntmps47
  go_wp2_with fail
  go_ret
  exact ⟨ret_bool H.out.symm, by go_grown⟩
set_option maxRecDepth 100000 in
set_option maxHeartbeats 2000000 in
theorem ckBuilt_b2 (n : List UInt8) (sa : Option Addr) (sn sc : Nat) (w : World) (m : Int) (h0 : ¬ m = 0) (h1 : ¬ m = 1) : Calls Try.prog 47 #[.agg #[.int .i64 2, .string ⟨n.toArray⟩, .int .i64 m, .slice sa sn sc]] w fun e w' => e = .returned (.bool (ckBu 2 m sn)) ∧ Below w.heap.size w w' := by
  have H : Hid (ckBu 2 m sn = false) := by unfold Hid ckBu; simp [h0, h1]
  go_enter Try.func47, Try.ntmps47
  go_wp2_with fail
  go_ret
  exact ⟨ret_bool H.out.symm, by go_grown⟩
set_option maxRecDepth 100000 in
set_option maxHeartbeats 2000000 in
theorem ckBuilt_k3 (n : List UInt8) (sa : Option Addr) (sn sc : Nat) (w : World) (m : Int) : Calls Try.prog 47 #[.agg #[.int .i64 3, .string ⟨n.toArray⟩, .int .i64 m, .slice sa sn sc]] w fun e w' => e = .returned (.bool (ckBu 3 m sn)) ∧ Below w.heap.size w w' := by
  have H : Hid (ckBu 3 m sn = ((sn : Int) == 0)) := by unfold Hid ckBu; simp
  go_enter Try.func47, Try.ntmps47
  go_wp2_with fail
  go_ret
  exact ⟨ret_bool H.out.symm, by go_grown⟩
set_option maxRecDepth 100000 in
set_option maxHeartbeats 2000000 in
theorem ckBuilt_k4 (n : List UInt8) (sa : Option Addr) (sn sc : Nat) (w : World) (m : Int) : Calls Try.prog 47 #[.agg #[.int .i64 4, .string ⟨n.toArray⟩, .int .i64 m, .slice sa sn sc]] w fun e w' => e = .returned (.bool (ckBu 4 m sn)) ∧ Below w.heap.size w w' := by
  have H : Hid (ckBu 4 m sn = ((sn : Int) == 1)) := by unfold Hid ckBu; simp
  go_enter Try.func47, Try.ntmps47
  go_wp2_with fail
  go_ret
  exact ⟨ret_bool H.out.symm, by go_grown⟩
set_option maxRecDepth 100000 in
set_option maxHeartbeats 2000000 in
theorem ckBuilt_k5 (n : List UInt8) (sa : Option Addr) (sn sc : Nat) (w : World) (m : Int) : Calls Try.prog 47 #[.agg #[.int .i64 5, .string ⟨n.toArray⟩, .int .i64 m, .slice sa sn sc]] w fun e w' => e = .returned (.bool (ckBu 5 m sn)) ∧ Below w.heap.size w w' := by
  have H : Hid (ckBu 5 m sn = ((sn : Int) == 1)) := by unfold Hid ckBu; simp
  go_enter Try.func47, Try.ntmps47
  go_wp2_with fail
  go_ret
  exact ⟨ret_bool H.out.symm, by go_grown⟩
set_option maxRecDepth 100000 in
set_option maxHeartbeats 2000000 in
theorem ckBuilt_k6 (n : List UInt8) (sa : Option Addr) (sn sc : Nat) (w : World) (m : Int) : Calls Try.prog 47 #[.agg #[.int .i64 6, .string ⟨n.toArray⟩, .int .i64 m, .slice sa sn sc]] w fun e w' => e = .returned (.bool (ckBu 6 m sn)) ∧ Below w.heap.size w w' := by
  have H : Hid (ckBu 6 m sn = ((sn : Int) == 2)) := by unfold Hid ckBu; simp
  go_enter Try.func47, Try.ntmps47
  go_wp2_with fail
  go_ret
  exact ⟨ret_bool H.out.symm, by go_grown⟩
set_option maxRecDepth 100000 in
set_option maxHeartbeats 2000000 in
theorem ckBuilt_no (n : List UInt8) (sa : Option Addr) (sn sc : Nat) (w : World) (k m : Int) (h1 : ¬ k = 1) (h2 : ¬ k = 2) (h3 : ¬ k = 3) (h4 : ¬ k = 4) (h5 : ¬ k = 5) (h6 : ¬ k = 6) : Calls Try.prog 47 #[.agg #[.int .i64 k, .string ⟨n.toArray⟩, .int .i64 m, .slice sa sn sc]] w fun e w' => e = .returned (.bool (ckBu k m sn)) ∧ Below w.heap.size w w' := by
  have H : Hid (ckBu k m sn = false) := by unfold Hid ckBu; simp [h1, h2, h3, h4, h5, h6]
  go_enter Try.func47, Try.ntmps47
  go_wp2_with fail
  go_ret
  exact ⟨ret_bool H.out.symm, by go_grown⟩
theorem ckBuilt_any (k : Int) (n : List UInt8) (m : Int) (sa : Option Addr) (sn sc : Nat) (w : World) : Calls Try.prog 47 #[.agg #[.int .i64 k, .string ⟨n.toArray⟩, .int .i64 m, .slice sa sn sc]] w fun e w' => e = .returned (.bool (ckBu k m sn)) ∧ Below w.heap.size w w' := by
  by_cases h1 : k = 1
  · subst h1
    by_cases hm : 0 ≤ m
    · exact ckBuilt_i1 n sa sn sc w m hm
    · exact ckBuilt_i0 n sa sn sc w m hm
  by_cases h2 : k = 2
  · subst h2
    by_cases hm : m = 0
    · subst hm; exact ckBuilt_b0 n sa sn sc w
    by_cases hm1 : m = 1
    · subst hm1; exact ckBuilt_b1 n sa sn sc w
    exact ckBuilt_b2 n sa sn sc w m hm hm1
  by_cases h3 : k = 3
  · subst h3; exact ckBuilt_k3 n sa sn sc w m
  by_cases h4 : k = 4
  · subst h4; exact ckBuilt_k4 n sa sn sc w m
  by_cases h5 : k = 5
  · subst h5; exact ckBuilt_k5 n sa sn sc w m
  by_cases h6 : k = 6
  · subst h6; exact ckBuilt_k6 n sa sn sc w m
  exact ckBuilt_no n sa sn sc w k m h1 h2 h3 h4 h5 h6
end Go.Proofs.Ytfpabjdhibmefaa
