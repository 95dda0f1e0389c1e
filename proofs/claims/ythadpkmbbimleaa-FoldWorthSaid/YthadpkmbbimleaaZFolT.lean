/- Layer 5: the six fixed texts, read (the document's). -/
/- Layer 5: the six fixed texts of known, read. -/
/- Layer 5: a list of what is made of another one's elements (the program's each). -/
/- Layer 5: the size of an expression (the document's ExprSize). -/
/- Layer 5: the same expression twice (the document's SameExpr), however long its lists; expressions that are not great. -/
import Derived.Test.YthadpkmbbimleaaZFolA
import Derived.Test.YthadpkmbbimleaaZFolJ
import Derived.Test.YthadpkmbbimleaaZGrC
namespace Go.Proofs.Ythadpkmbbimleaa
open Go.RowKit

/-- The tokens of a text from a place on. -/
def rsF (l : List UInt8) : Nat → Nat → Option (List (Lx.Tk × Nat))
  | 0, _ => none
  | f + 1, a =>
    if l.length ≤ a then (if a = l.length then some [] else none)
    else if 0 < (rfirst (l.drop a)).2 ∧ a + (rfirst (l.drop a)).2 ≤ l.length then (rsF l f (a + (rfirst (l.drop a)).2 + Lx.blank false (l.drop (a + (rfirst (l.drop a)).2)))).map fun R => ((rfirst (l.drop a)).1, a) :: R
    else none
theorem rsF_ok (l : List UInt8) : ∀ (f a : Nat) (R : List (Lx.Tk × Nat)), rsF l f a = some R → Rs l a R
  | 0, _, _, h => by cases h
  | f + 1, a, R, h => by
    rw [rsF] at h
    split at h
    · split at h
      · rename_i e
        cases h
        rw [e]
        exact .fin
      · cases h
    · rename_i hlt
      split at h
      · rename_i hn
        obtain ⟨R', h', rfl⟩ := Option.map_eq_some_iff.1 h
        exact .step a (rfirst (l.drop a)).2 (rfirst (l.drop a)).1 R' (by omega) rfl hn.1 hn.2 (rsF_ok l f _ R' h')
      · cases h
set_option maxRecDepth 100000 in
set_option maxHeartbeats 1000000 in
theorem read_of (s : ByteArray) (y : Sx.Ex) (w : World) (h : ∀ W, Calls Try.prog 36 #[.string s] W (RTx W y)) :
    Calls Try.prog 17 #[.string s] w (RE (fun g => w.heap.size ≤ g) w y) := by
  have H : Hid _ := h
  clear h
  go_enter Try.func17, Try.ntmps17
  go_wp2_with fail
  refine Calls.mono (H.out _) ?_
  rintro e w1 ⟨kk, nn, mm, sa, sn, sc, ll, rfl, rfl, X, b1⟩
  have hln := X.len
  subst hln
  obtain ⟨W2, hW2⟩ : ∃ W2, W2 = w1.alloc (.cells #[.int .i64 kk, .string ⟨nn.toArray⟩, .int .i64 mm, .slice sa ll.length sc] 24) := ⟨_, rfl⟩
  have b2 : Below w1.heap.size w1 W2 := by rw [hW2]; exact box_below _ _
  have YX : Hid (Bx W2 w1.heap.size (.int .i64 kk) (.string ⟨nn.toArray⟩) (.int .i64 mm) (.slice sa ll.length sc)) := by rw [hW2]; exact Bx.new _ _ _ _ _ _
  have R1 := (Bx.new w 24 (.int .i64 0) (.string ⟨#[]⟩) (.int .i64 0) (.slice none 0 0)).later b1 (by simp)
  have R2 : Hid _ := R1.later b2 R1.lt
  have B1 : Hid (Below w.heap.size w w1) := (box_below w zE).trans (b1.mono (by simp))
  have B2 : Hid (Below w.heap.size w W2) := B1.out.trans (b2.mono B1.out.size)
  have X2 : Hid (ExS (fun g => w.heap.size < g) W2 (.slice sa ll.length sc) ll) := (X.mono fun g _ hg => by simp at hg; omega).later b2 (Nat.le_refl _)
  clear X b1 b2 R1
  go_upto_region 2 with fail
  rw [← hW2]
  clear hW2
  obtain ⟨d0, d1, d2, d3, e0, e1, e2, e3, zr⟩ := R2.out
  obtain ⟨y0, y1, y2, y3, yf0, yf1, yf2, yf3, zy⟩ := YX.out
  go_wp2_with fail
  refine bodyPost_ret (v := .agg #[.int .i64 kk, .string ⟨nn.toArray⟩, .int .i64 mm, .slice sa ll.length sc]) (by simp [results, Try.results17, go_sem, d0, d1, d2, d3]) rfl ?_
  refine ⟨kk, nn, mm, sa, sc, ll, rfl, rfl, ?_, (((B2.out.setCell (by simp) _).setCell (by simp) _).setCell (by simp) _).setCell (by simp) _⟩
  exact (X2.out.fill (g := w.heap.size) (Nat.lt_irrefl _) _ _ _ _).mono fun g _ h => Nat.le_of_lt h
/-- A text is read, by reckoning. -/
theorem read_by (l : List UInt8) (T : List (Lx.Tk × Nat)) (k' : Nat) (y : Sx.Ex) (w : World) (h1 : l.length ≤ 16384) (h2 : T.length < 4000) (h3 : rsF l 40 (Lx.blank false l) = some T) (h4 : rightL ((T ++ [((⟨0, [], 0⟩ : Lx.Tk), l.length)]).map tkI) = true) (h5 : Sx.bd ((T ++ [((⟨0, [], 0⟩ : Lx.Tk), l.length)]).map tkI) 40 1 1 0 = some (.ok y k')) (h6 : (((T ++ [((⟨0, [], 0⟩ : Lx.Tk), l.length)]).map tkI).getD k' tok0).1.kind = 0) :
    Calls Try.prog 17 #[.string ⟨l.toArray⟩] w (RE (fun g => w.heap.size ≤ g) w y) := by
  have hz : (⟨l.toArray⟩ : ByteArray).size = l.length := size_text l
  have hd : (⟨l.toArray⟩ : ByteArray).data.toList = l := text_list l
  refine read_of _ y w fun W => rtext_good ⟨l.toArray⟩ T _ 40 k' y W (by rw [hz]; exact h1) h2 (by rw [hd]; exact rsF_ok l 40 _ T h3) rfl ?_ ?_ ?_
  · rw [hz]; exact h4
  · rw [hz]; exact h5
  · rw [hz]; exact h6
end Go.Proofs.Ythadpkmbbimleaa

namespace Go.Proofs.Ythadpkmbbimleaa
open Go.RowKit

def kX : Sx.Ex := .mk 3 [120] 0 []
def kI (n : Int) : Sx.Ex := .mk 1 [] n []
def kT1 : Sx.Ex := .mk 6 [43] 0 [kI 1, .mk 6 [42] 0 [kI 2, kI 3]]
def kT2 : Sx.Ex := .mk 6 [47] 0 [kI 1, kI 0]
def kT3 : Sx.Ex := .mk 6 [43] 0 [.mk 6 [42] 0 [kX, kI 1], .mk 6 [45] 0 [kI 2, kI 2]]
def kT5 : Sx.Ex := .mk 4 [97] 0 [kI 0]
def kT6 : Sx.Ex := .mk 6 [47] 0 [kX, kI 2]
theorem kread1 (w : World) : Calls Try.prog 17 #[.string ⟨#[49, 32, 43, 32, 50, 32, 42, 32, 51]⟩] w (RE (fun g => w.heap.size ≤ g) w kT1) :=
  read_by [49, 32, 43, 32, 50, 32, 42, 32, 51] [(⟨2, [], 1⟩, 0), (⟨4, [43], 0⟩, 2), (⟨2, [], 2⟩, 4), (⟨4, [42], 0⟩, 6), (⟨2, [], 3⟩, 8)] 5 kT1 w (by decide) (by decide) (by kernel_rfl) (by kernel_rfl) (by kernel_rfl) (by kernel_rfl)
theorem kread2 (w : World) : Calls Try.prog 17 #[.string ⟨#[49, 32, 47, 32, 48]⟩] w (RE (fun g => w.heap.size ≤ g) w kT2) :=
  read_by [49, 32, 47, 32, 48] [(⟨2, [], 1⟩, 0), (⟨4, [47], 0⟩, 2), (⟨2, [], 0⟩, 4)] 3 kT2 w (by decide) (by decide) (by kernel_rfl) (by kernel_rfl) (by kernel_rfl) (by kernel_rfl)
theorem kread3 (w : World) : Calls Try.prog 17 #[.string ⟨#[120, 32, 42, 32, 49, 32, 43, 32, 40, 32, 50, 32, 45, 32, 50, 32, 41]⟩] w (RE (fun g => w.heap.size ≤ g) w kT3) :=
  read_by [120, 32, 42, 32, 49, 32, 43, 32, 40, 32, 50, 32, 45, 32, 50, 32, 41] [(⟨1, [120], 0⟩, 0), (⟨4, [42], 0⟩, 2), (⟨2, [], 1⟩, 4), (⟨4, [43], 0⟩, 6), (⟨4, [40], 0⟩, 8), (⟨2, [], 2⟩, 10), (⟨4, [45], 0⟩, 12), (⟨2, [], 2⟩, 14), (⟨4, [41], 0⟩, 16)] 9 kT3 w (by decide) (by decide) (by kernel_rfl) (by kernel_rfl) (by kernel_rfl) (by kernel_rfl)
theorem kread4 (w : World) : Calls Try.prog 17 #[.string ⟨#[120]⟩] w (RE (fun g => w.heap.size ≤ g) w kX) :=
  read_by [120] [(⟨1, [120], 0⟩, 0)] 1 kX w (by decide) (by decide) (by kernel_rfl) (by kernel_rfl) (by kernel_rfl) (by kernel_rfl)
theorem kread5 (w : World) : Calls Try.prog 17 #[.string ⟨#[97, 32, 91, 32, 48, 32, 93]⟩] w (RE (fun g => w.heap.size ≤ g) w kT5) :=
  read_by [97, 32, 91, 32, 48, 32, 93] [(⟨1, [97], 0⟩, 0), (⟨4, [91], 0⟩, 2), (⟨2, [], 0⟩, 4), (⟨4, [93], 0⟩, 6)] 4 kT5 w (by decide) (by decide) (by kernel_rfl) (by kernel_rfl) (by kernel_rfl) (by kernel_rfl)
theorem kread6 (w : World) : Calls Try.prog 17 #[.string ⟨#[120, 32, 47, 32, 50]⟩] w (RE (fun g => w.heap.size ≤ g) w kT6) :=
  read_by [120, 32, 47, 32, 50] [(⟨1, [120], 0⟩, 0), (⟨4, [47], 0⟩, 2), (⟨2, [], 2⟩, 4)] 3 kT6 w (by decide) (by decide) (by kernel_rfl) (by kernel_rfl) (by kernel_rfl) (by kernel_rfl)
end Go.Proofs.Ythadpkmbbimleaa

namespace Go.Proofs.Ythadpkmbbimleaa
open Go.RowKit

theorem infoEx : (Try.prog.info? 24).map (fun i => (i.zero, i.size, i.bytes)) = some (some (.agg #[.int .i64 0, .string ⟨#[]⟩, .int .i64 0, .slice none 0 0]), 4, 56) := by kernel_rfl
/-- Cells that lie as expressions do. -/
theorem ExC.of_cells {A : Nat → Prop} {w : World} {g : Nat} : ∀ (ys : List Sx.Ex) (o : Nat), (∀ q, q < ys.length → ∃ k n m sl ll, ys[q]? = Option.some (.mk k n m ll) ∧ w.cell? ⟨g, o + q * 4, Option.none⟩ = Option.some (.int .i64 k) ∧ w.cell? ⟨g, o + q * 4 + 1, Option.none⟩ = Option.some (.string ⟨(n : List UInt8).toArray⟩) ∧ w.cell? ⟨g, o + q * 4 + 2, Option.none⟩ = Option.some (.int .i64 m) ∧ w.cell? ⟨g, o + q * 4 + 3, Option.none⟩ = Option.some sl ∧ ExS A w sl ll) → ExC A w g o ys
  | [], o, _ => .nil g o
  | y :: r, o, h => by
    obtain ⟨k, n, m, sl, ll, e, c0, c1, c2, c3, hs⟩ := h 0 (by simp)
    have ey : y = .mk k n m ll := by simpa using e
    subst ey
    refine .cons g o k n m sl ll r (by simpa using c0) (by simpa using c1) (by simpa using c2) (by simpa using c3) hs (ExC.of_cells r (o + 4) fun q hq => ?_)
    obtain ⟨k, n, m, sl, ll, e, c0, c1, c2, c3, hs⟩ := h (q + 1) (by simp; omega)
    have q4 : o + (q + 1) * 4 = o + 4 + q * 4 := by omega
    rw [q4] at c0 c1 c2 c3
    exact ⟨k, n, m, sl, ll, by simpa using e, c0, c1, c2, c3, hs⟩
/-- One made element, in the row's cells. -/
def Made (w wr : World) (v : Value) (cells : List Value) (q : Nat) (y : Sx.Ex) : Prop := ∃ k n m sa sc ll, y = .mk k n m ll ∧ cells[q * 4]? = some (.int .i64 k) ∧ cells[q * 4 + 1]? = some (.string ⟨(n : List UInt8).toArray⟩) ∧ cells[q * 4 + 2]? = some (.int .i64 m) ∧ cells[q * 4 + 3]? = some (.slice sa ll.length sc) ∧ ExS (fun g => w.heap.size ≤ g ∧ ¬ v.ownBlock = some g) wr (.slice sa ll.length sc) ll
/-- The first j elements are made, in the row v. -/
def Ea (w : World) (f : Sx.Ex → Sx.Ex) (l : List Sx.Ex) (j : Nat) (v : Value) (wr : World) : Prop :=
  ∃ cells, wr.ownsRow w.heap.size 24 4 v j cells ∧ cells.length = j * 4 ∧ (∀ q x, q < j → l[q]? = some x → Made w wr v cells q (f x)) ∧ Below w.heap.size w wr
theorem Ea.step {w wr W w4 : World} {f : Sx.Ex → Sx.Ex} {l : List Sx.Ex} {j : Nat} {v v' : Value} {cells : List Value} {x : Sx.Ex} {k m : Int} {n : List UInt8} {sa : Option Addr} {sc : Nat} {ll : List Sx.Ex}
    (hrow : wr.ownsRow w.heap.size 24 4 v j cells) (hlen : cells.length = j * 4) (hmade : ∀ q x, q < j → l[q]? = some x → Made w wr v cells q (f x)) (hbel : Below w.heap.size w wr) (bW : Below wr.heap.size wr W) (hx : l[j]? = some x) (hy : f x = .mk k n m ll)
    (X : ExS (fun g => wr.heap.size ≤ g) W (.slice sa ll.length sc) ll) (h4 : w4.ownsRow w.heap.size 24 4 v' (j + 1) (cells ++ [.int .i64 k, .string ⟨n.toArray⟩, .int .i64 m, .slice sa ll.length sc])) (g4 : W.grownBy w4 v.ownBlock) (o4 : v'.ownBlock = v.ownBlock ∨ ∃ g, v'.ownBlock = some g ∧ W.heap.size ≤ g) :
    Ea w f l (j + 1) v' w4 := by
  have hv : ∀ g, v.ownBlock = some g → g < wr.heap.size ∧ w.heap.size ≤ g := fun g e => ⟨(World.ownsRow.lt hrow g e).2, (World.ownsRow.lt hrow g e).1⟩
  have hz := bW.size
  have hz0 := hbel.size
  have keep : ∀ {sl : Value} {l' : List Sx.Ex}, ExS (fun g => w.heap.size ≤ g ∧ ¬ v.ownBlock = some g) W sl l' → ExS (fun g => w.heap.size ≤ g ∧ ¬ v'.ownBlock = some g) w4 sl l' := by
    intro sl l' h
    refine h.keep (fun g hg hA => ⟨hA.1, fun e => ?_⟩) (fun q hA hq => World.cell?_of_block (w := W) (g4.block _ hq fun e => hA.2 e.symm)) g4.size
    rcases o4 with e1 | ⟨g', e1, hg'⟩
    · exact hA.2 (e1.symm.trans e)
    · rw [e1] at e; cases e; omega
  refine ⟨_, h4, by simp [hlen]; omega, fun q y hq hy' => ?_, ?_⟩
  · by_cases c : q < j
    · obtain ⟨k', n', m', sa', sc', ll', e, c0, c1, c2, c3, hs⟩ := hmade q y c hy'
      have ap : ∀ i, i < j * 4 → (cells ++ [.int .i64 k, .string ⟨n.toArray⟩, .int .i64 m, .slice sa ll.length sc])[i]? = cells[i]? := fun i hi => List.getElem?_append_left (by omega)
      exact ⟨k', n', m', sa', sc', ll', e, (ap _ (by omega)).trans c0, (ap _ (by omega)).trans c1, (ap _ (by omega)).trans c2, (ap _ (by omega)).trans c3, keep (hs.later bW (Nat.le_refl _))⟩
    · obtain rfl : q = j := by omega
      rw [hx] at hy'
      cases hy'
      refine ⟨k, n, m, sa, sc, ll, hy, ?_, ?_, ?_, ?_, keep (X.mono fun g _ hg => ⟨by omega, fun e => by have := (hv g e).1; omega⟩)⟩
      all_goals (rw [List.getElem?_append_right (by omega)]; simp [hlen])
  · exact hbel.trans ((⟨(g4.os).trans bW.os, (g4.tape).trans bW.tape, (g4.output).trans bW.output, Nat.le_trans bW.size g4.size, fun i hi => (g4.block i (by omega) (fun e => by have := (hv i e.symm).2; omega)).trans (bW.block i (by omega))⟩ : Below w.heap.size wr w4))
theorem Ea.done {w wr : World} {f : Sx.Ex → Sx.Ex} {l : List Sx.Ex} {v : Value} (h : Ea w f l l.length v wr) : ∃ sb sd, v = .slice sb l.length sd ∧ ExS (fun g => w.heap.size ≤ g) wr v (l.map f) ∧ Below w.heap.size w wr := by
  obtain ⟨cells, hrow, hlen, hmade, hbel⟩ := h
  have hc := @World.ownsRow.cells _ _ _ _ _ _ _ hrow
  have hlt := World.ownsRow.lt hrow
  rcases hrow.2 with ⟨rfl, h0⟩ | ⟨g, cap, cur, rfl, hb, _, hnc, _⟩
  · have : l = [] := List.length_eq_zero_iff.1 h0
    subst this
    exact ⟨none, 0, rfl, .nil none 0, hbel⟩
  · refine ⟨some ⟨g, 0, none⟩, cap, rfl, ?_, hbel⟩
    by_cases h0 : l.length = 0
    · have : l = [] := List.length_eq_zero_iff.1 h0
      subst this
      exact .nil _ _
    · have key : ∀ (i : Nat) (u : Value), cells[i]? = some u → wr.cell? ⟨g, 0 + i, none⟩ = some u := by
        intro i u hu
        have := @hc g rfl i u hu
        have e : (⟨g, 0, none⟩ : Addr).add i = ⟨g, 0 + i, none⟩ := by unfold Addr.add; split <;> simp_all
        rw [e] at this
        exact this
      refine .some g 0 cap l.length (l.map f) (by simp) (by simp; omega) (by simp; exact hnc) (hlt g rfl).1 (hlt g rfl).2 (ExC.of_cells _ 0 fun q hq => ?_)
      have hq' : q < l.length := by simpa using hq
      obtain ⟨k, n, m, sa, sc, ll, e, c0, c1, c2, c3, hs⟩ := hmade q l[q] hq' (List.getElem?_eq_getElem hq')
      exact ⟨k, n, m, _, ll, by rw [List.getElem?_map, List.getElem?_eq_getElem hq']; exact congrArg some e, key _ _ c0, key _ _ c1, key _ _ c2, key _ _ c3, hs.mono fun g _ hA => hA.1⟩
/-- What is asked of the function that makes. -/
def MC (F : FuncId) (f : Sx.Ex → Sx.Ex) (A : Nat → Prop) (w : World) (x : Sx.Ex) : Prop := ∀ (k : Int) (n : List UInt8) (m : Int) (ll : List Sx.Ex) (sa : Option Addr) (sc : Nat) (W : World), x = .mk k n m ll → Below w.heap.size w W → ExS A W (.slice sa ll.length sc) ll → Calls Try.prog F #[.agg #[.int .i64 k, .string ⟨n.toArray⟩, .int .i64 m, .slice sa ll.length sc]] W (RE (fun g => W.heap.size ≤ g) W (f x))
set_option maxRecDepth 100000 in
set_option maxHeartbeats 2000000 in
theorem each_any (F : FuncId) (hF : ∀ (c : Array Value) (w : World), (callFunc F c).run Try.prog w = .ok (.enter F c) w) (f : Sx.Ex → Sx.Ex) (A : Nat → Prop) (l : List Sx.Ex) (hl : l.length ≤ 1000000) (sa : Option Addr) (sc : Nat) (w : World) (hs : ExS A w (.slice sa l.length sc) l) (hc : ∀ x, x ∈ l → MC F f A w x) :
    Calls Try.prog 31 #[.slice sa l.length sc, .func (.func F) #[] #[]] w fun e w' => ∃ sb sd, e = .returned (.slice sb l.length sd) ∧ ExS (fun g => w.heap.size ≤ g) w' (.slice sb l.length sd) (l.map f) ∧ Below w.heap.size w w' := by
  obtain ⟨i0, hi, hz0, hz1, hz2⟩ := info_parts infoEx
  have HS : Hid _ := hs
  have HC : Hid _ := hc
  have HL : Hid (l.length ≤ 1000000) := hl
  clear hs hc
  go_enter Try.func31, Try.ntmps31
  go_wp2_with fail
  go_loopw [5, 10] (fun v i wr => ∃ j : Nat, j ≤ l.length ∧ i = .int .i64 j ∧ Ea w f l j v wr) (fun _ i _ => l.length - (intOf i).toNat)
  case atStart => exact ⟨0, by omega, rfl, [], World.ownsRow_nil _ _ _ _, rfl, fun q x hq _ => absurd hq (Nat.not_lt_zero q), Below.refl _ _⟩
  case round =>
    obtain ⟨j, hj, rfl, hea⟩ := hrel
    by_cases hlt : j < l.length
    · obtain ⟨cells, hrow, hlen, hmade, hbel⟩ := hea
      obtain ⟨g, o, k', n', m', sa', sn', sc', ll, rfl, hg, el, c0, c1, c2, c3, hs'⟩ := (HS.out.later hbel (Nat.le_refl _)).part j hlt
      have hln := hs'.len
      subst hln
      have hji : (j : Int) < (l.length : Int) := by omega
      have hj0 : (0 : Int) ≤ (j : Int) := by omega
      have bx := box_below wr (.cells #[.int .i64 k', .string ⟨n'.toArray⟩, .int .i64 m', .slice sa' ll.length sc'] 24)
      have E1 : Hid _ := HC.out _ (List.mem_of_getElem? el) k' n' m' ll sa' sc' (wr.alloc (.cells #[.int .i64 k', .string ⟨n'.toArray⟩, .int .i64 m', .slice sa' ll.length sc'] 24)) rfl (hbel.trans (bx.mono hbel.size)) (hs'.later bx (Nat.le_refl _))
      have ST : Hid _ := (⟨hrow, hlen, hmade, hbel, el⟩ : wr.ownsRow w.heap.size 24 4 _ j cells ∧ cells.length = j * 4 ∧ (∀ q x, q < j → l[q]? = some x → Made w wr _ cells q (f x)) ∧ Below w.heap.size w wr ∧ l[j]? = some (.mk k' n' m' ll))
      have hz : w.heap.size ≤ wr.heap.size := hbel.size
      clear hrow hlen hmade hbel el hs' bx
      go_wp2_with fail
      refine Calls.mono E1.out ?_
      rintro e w1 ⟨kk, nn, mm, sb, sd, l1, hy, rfl, X1, b1⟩
      have bw : Below wr.heap.size wr w1 := (box_below wr _).trans (b1.mono (by simp))
      have BW : Hid _ := bw
      have HY : Hid _ := hy
      have XX : Hid (ExS (fun g => wr.heap.size ≤ g) w1 (.slice sb l1.length sd) l1) := X1.mono fun g _ hg => by simp at hg; omega
      have RW : Hid _ := own_later ST.out.1 (bw.trans ((box_below w1 (.cells #[.int .i64 kk, .string ⟨nn.toArray⟩, .int .i64 mm, .slice sb l1.length sd] 24)).mono bw.size))
      clear b1 hy X1 bw
      go_wp2_with (at_builtin; refine wpList_append_told rfl _ _ 22 rfl w.heap.size 24 i0 (.agg #[.int .i64 0, .string ⟨#[]⟩, .int .i64 0, .slice none 0 0]) 4 56 Try.underlying22 hi hz0 hz1 hz2 rfl (by decide) _ j cells rfl RW.out ⟨w1.heap.size, 0, none⟩ 1 1 [.int .i64 kk, .string ⟨nn.toArray⟩, .int .i64 mm, .slice sb l1.length sd] rfl rfl (four_cells _ _ _ _ _ _) (by intro x hx; simp at hx; rcases hx with rfl | rfl | rfl | rfl <;> rfl) (by have := HL.out; simp only [maxLen]; omega) (by have := HL.out; omega) (by have := BW.out.size; simp; omega) (by decide) ?_)
      intro v' w2 h2 g2 o2
      have EA : Hid (Ea w f l (j + 1) v' w2) := by
        obtain ⟨hrow, hlen, hmade, hbel, el⟩ := ST.out
        have bw3 := BW.out.trans ((box_below w1 (.cells #[.int .i64 kk, .string ⟨nn.toArray⟩, .int .i64 mm, .slice sb l1.length sd] 24)).mono BW.out.size)
        have o2' : v'.ownBlock = _ ∨ ∃ g, v'.ownBlock = some g ∧ (w1.alloc (.cells #[.int .i64 kk, .string ⟨nn.toArray⟩, .int .i64 mm, .slice sb l1.length sd] 24)).heap.size ≤ g := o2.imp id fun ⟨g, h, h3⟩ => ⟨g, h, by simpa using h3⟩
        exact Ea.step hrow hlen hmade hbel bw3 el HY.out (XX.out.later (box_below _ _) (Nat.le_refl _)) h2 g2 o2'
      clear h2 g2 o2 ST RW
      go_wp2_with fail
      go_roundw
      case rel => exact ⟨j + 1, by omega, by go_num, EA.out⟩
      case measure => simp [intOf]; omega
    · obtain rfl : j = l.length := by omega
      have D : Hid _ := hea.done
      obtain ⟨sb, sd, rfl, X, b⟩ := D.out
      have XX : Hid _ := X
      clear hea D X
      go_wp2_with fail
      go_ret
      exact ⟨sb, sd, rfl, XX.out, b⟩
end Go.Proofs.Ythadpkmbbimleaa

namespace Go.Proofs.Ythadpkmbbimleaa
open Go.RowKit

/-- Names that are not longer than a text can be. -/
inductive Fo.Nl : Sx.Ex → Prop
  | mk (k : Int) (n : List UInt8) (m : Int) (l : List Sx.Ex) (h : n.length ≤ 9223372036854775807) (hp : ∀ x, x ∈ l → Fo.Nl x) : Fo.Nl (.mk k n m l)
/-- What ExprSize answers. -/
def ZA (most : Int) (x : Sx.Ex) (r : Int) : Prop := 1 ≤ r ∧ r ≤ most + 1152921504606846977 ∧ (r ≤ most → Fo.Bnd x)
def ZC (x : Sx.Ex) : Prop := ∀ (A : Nat → Prop) (k : Int) (n : List UInt8) (m : Int) (l : List Sx.Ex) (sa : Option Addr) (sc : Nat) (most : Int) (w : World), x = .mk k n m l → 0 ≤ most → most ≤ 1500 → ExS A w (.slice sa l.length sc) l → Calls Try.prog 16 #[.agg #[.int .i64 k, .string ⟨n.toArray⟩, .int .i64 m, .slice sa l.length sc], .int .i64 most] w fun e w' => ∃ r : Int, e = .returned (.int .i64 r) ∧ ZA most x r ∧ Below w.heap.size w w'
def ZLoop (most : Int) (l : List Sx.Ex) (W : World) (v i : Value) (wr : World) : Prop := ∃ (j : Nat) (s : Int), j ≤ l.length ∧ v = .int .i64 s ∧ i = .int .i64 j ∧ 1 + (j : Int) ≤ s ∧ s ≤ most + 1152921504606846977 ∧ Hid (s ≤ most → ∀ (q : Nat) (x : Sx.Ex), q < j → l[q]? = some x → Fo.Bnd x) ∧ Below W.heap.size W wr
set_option maxRecDepth 100000 in
set_option maxHeartbeats 2000000 in
theorem exprSize_any {x : Sx.Ex} (h : Fo.Nl x) : ZC x := by
  induction h with
  | mk k n m l hn _ ih =>
    intro A k0 n0 m0 l0 sa sc most w hx h0 h1 hs
    injection hx with q1 q2 q3 q4
    subst q1 q2 q3 q4
    obtain ⟨W0, hW0⟩ : ∃ W0, W0 = w.alloc (.cells #[.int .i64 k, .string ⟨n.toArray⟩, .int .i64 m, .slice sa l.length sc] 24) := ⟨_, rfl⟩
    have bW : Hid (Below w.heap.size w W0) := by unfold Hid; rw [hW0]; exact box_below _ _
    have BX0 : Bx W0 w.heap.size (.int .i64 k) (.string ⟨n.toArray⟩) (.int .i64 m) (.slice sa l.length sc) := by rw [hW0]; exact Bx.new _ _ _ _ _ _
    have BX : Hid _ := BX0
    have HS : Hid _ := hs
    have HI : Hid _ := ih
    obtain ⟨d0, d1, d2, d3, f0, f1, f2, f3, zt⟩ := BX0
    have hw1 : wrap64 ((n.length : Int) / 8) = (n.length : Int) / 8 := by unfold wrap64; omega
    have hw2 : wrap64 (1 + (n.length : Int) / 8) = 1 + (n.length : Int) / 8 := by unfold wrap64; omega
    have hS0 : Hid (1 ≤ 1 + (n.length : Int) / 8 ∧ 1 + (n.length : Int) / 8 ≤ most + 1152921504606846977) := ⟨by omega, by omega⟩
    clear hs ih
    go_enter Try.func16, Try.ntmps16
    go_upto_region 1 with fail
    rw [← hW0]
    clear hW0
    go_wp2_with fail
    generalize 1 + (n.length : Int) / 8 = S0 at hS0 ⊢
    clear hw1 hw2 d0 d1 d2 d3 f0 f1 f2 f3 zt
    go_loopw [5, 6] (fun v i wr => ZLoop most l W0 v i wr) (fun _ i _ => l.length - (intOf i).toNat)
    case atStart => exact ⟨0, _, by omega, rfl, rfl, by simpa using hS0.out.1, hS0.out.2, fun _ q x hq _ => absurd hq (Nat.not_lt_zero q), Below.refl _ _⟩
    case round =>
      obtain ⟨j, s, hj, rfl, rfl, hs1, hs2, HB, hnx⟩ := hrel
      have bwr : Below w.heap.size w wr := bW.out.trans (hnx.mono bW.out.size)
      have BX1 : Hid _ := BX.out.later hnx BX.out.lt
      obtain ⟨d0, d1, d2, d3, f0, f1, f2, f3, zt⟩ := BX1.out
      by_cases hlt : j < l.length
      · have hji : (j : Int) < (l.length : Int) := by omega
        have hj0 : (0 : Int) ≤ (j : Int) := by omega
        by_cases hm : s ≤ most
        · obtain ⟨g, o, k', n', m', sa', sn', sc', ll, rfl, hg, el, c0, c1, c2, c3, hs'⟩ := (HS.out.later bwr (Nat.le_refl _)).part j hlt
          have hln := hs'.len
          subst hln
          have hwm : wrap64 (most - s) = most - s := by unfold wrap64; omega
          have E1 : Hid (∀ W, Below wr.heap.size wr W → _) := fun W hW => HI.out _ (List.mem_of_getElem? el) A k' n' m' ll sa' sc' (most - s) W rfl (by omega) (by omega) (hs'.later hW (Nat.le_refl _))
          have EL : Hid _ := el
          have NX : Hid _ := hnx
          clear hs' el hnx bwr
          go_wp2_with fail
          refine Calls.mono (E1.out _ (Below.refl _ _)) ?_
          rintro e w1 ⟨r, rfl, ⟨z1, z2, z3⟩, b1⟩
          have Z3 : Hid _ := z3
          have hwr : wrap64 (s + r) = s + r := by unfold wrap64; omega
          have B1 : Hid (Below W0.heap.size W0 w1) := NX.out.trans (b1.mono NX.out.size)
          clear b1 z3 d0 d1 d2 d3 f0 f1 f2 f3 zt c0 c1 c2 c3
          go_wp2_with fail
          go_roundw
          case rel =>
            refine ⟨j + 1, s + r, by omega, rfl, by go_num, by omega, by omega, fun hle q x hq hx => ?_, B1.out⟩
            by_cases c : q < j
            · exact HB.out (by omega) q x c hx
            · obtain rfl : q = j := by omega
              rw [EL.out] at hx
              cases hx
              exact Z3.out (by omega)
          case measure => simp [intOf]; omega
        · have hm3 : most < s := by omega
          have BW : Hid _ := bwr
          clear hnx bwr
          go_wp2_with fail
          go_ret
          exact ⟨s, rfl, ⟨by omega, hs2, fun h => absurd h (Int.not_le.2 hm3)⟩, BW.out⟩
      · obtain rfl : j = l.length := by omega
        have BW : Hid _ := bwr
        have R : Hid (ZA most (.mk k n m l) s) := ⟨by omega, hs2, fun hle => .mk _ _ _ _ (by omega) fun x hx => by
          obtain ⟨q, hq, e⟩ := List.getElem_of_mem hx
          exact HB.out hle q x hq (by rw [List.getElem?_eq_getElem hq, e])⟩
        clear hnx bwr
        go_wp2_with fail
        go_ret
        exact ⟨s, rfl, R.out, BW.out⟩
end Go.Proofs.Ythadpkmbbimleaa

namespace Go.Proofs.Ythadpkmbbimleaa
open Go.RowKit

/-- What is asked of SameExpr. -/
def SCb (x : Sx.Ex) : Prop := ∀ (A B : Nat → Prop) (k : Int) (n : List UInt8) (m : Int) (l : List Sx.Ex) (sa sb : Option Addr) (sn sc tn tc : Nat) (w : World), x = .mk k n m l → ExS A w (.slice sa sn sc) l → ExS B w (.slice sb tn tc) l →
  Calls Try.prog 14 #[.agg #[.int .i64 k, .string ⟨n.toArray⟩, .int .i64 m, .slice sa sn sc], .agg #[.int .i64 k, .string ⟨n.toArray⟩, .int .i64 m, .slice sb tn tc]] w fun e w' => e = .returned (.bool true) ∧ Below w.heap.size w w'
set_option maxRecDepth 100000 in
set_option maxHeartbeats 1000000 in
theorem sameExprs_bnd (A B : Nat → Prop) (l : List Sx.Ex) (hR : ∀ x, x ∈ l → SCb x) (sa sb : Option Addr) (sn sc tn tc : Nat) (w : World) (hs : ExS A w (.slice sa sn sc) l) (ht : ExS B w (.slice sb tn tc) l) (hl : l.length ≤ 1000000) :
    Calls Try.prog 33 #[.slice sa sn sc, .slice sb tn tc] w fun e w' => e = .returned (.bool true) ∧ Below w.heap.size w w' := by
  have hn := hs.len
  subst hn
  have hn := ht.len
  subst hn
  have HR : Hid (∀ x, x ∈ l → SCb x) := hR
  have HS : Hid (ExS A w (.slice sa l.length sc) l) := hs
  have HT : Hid (ExS B w (.slice sb l.length tc) l) := ht
  clear hR hs ht
  go_enter Try.func33, Try.ntmps33
  go_wp2_with fail
  go_loopw [5] (fun i wr => ∃ k : Nat, k ≤ l.length ∧ i = .int .i64 k ∧ Below w.heap.size w wr) (fun i _ => l.length - (intOf i).toNat)
  case atStart => exact ⟨0, by omega, rfl, Below.refl _ _⟩
  case round =>
    obtain ⟨j, hj, rfl, hnx⟩ := hrel
    by_cases hlt : j < l.length
    · have HS' := HS.out.later hnx (Nat.le_refl _)
      have HT' := HT.out.later hnx (Nat.le_refl _)
      obtain ⟨g, o, cap, esl, hc, ha, hg, h⟩ := HS'.inv (by omega)
      cases esl
      obtain ⟨g', o', cap', esl', hc', ha', hg', h'⟩ := HT'.inv (by omega)
      cases esl'
      obtain ⟨k, n, m, sa', sn', sc', ll, el, c0, c1, c2, c3, hs'⟩ := h.get j hlt
      obtain ⟨k2, n2, m2, sb', tn', tc', ll2, el2, d0, d1, d2, d3, ht'⟩ := h'.get j hlt
      obtain ⟨rfl, rfl, rfl, rfl⟩ : k2 = k ∧ n2 = n ∧ m2 = m ∧ ll2 = ll := by
        have e := Option.some.inj (el.symm.trans el2)
        injection e with q1 q2 q3 q4
        exact ⟨q1.symm, q2.symm, q3.symm, q4.symm⟩
      have E1 : Hid (∀ W, Below wr.heap.size wr W → Calls Try.prog 14 #[.agg #[.int .i64 k2, .string ⟨n2.toArray⟩, .int .i64 m2, .slice sa' sn' sc'], .agg #[.int .i64 k2, .string ⟨n2.toArray⟩, .int .i64 m2, .slice sb' tn' tc']] W fun e w' => e = .returned (.bool true) ∧ Below W.heap.size W w') := by
        intro W hW
        exact HR.out _ (List.mem_of_getElem? el) A B k2 n2 m2 ll2 sa' sb' sn' sc' tn' tc' W rfl (hs'.later hW (Nat.le_refl _)) (ht'.later hW (Nat.le_refl _))
      clear h hs' el ha h' ht' el2 ha'
      have NX : Hid _ := hnx
      clear hnx
      go_wp2_with fail
      go_region_with (go_at_call 14; refine Calls.mono (E1.out _ (by go_grown)) ?_; rintro e w1 ⟨rfl, b1⟩)
      all_goals
        have b2 : Below wr.heap.size wr w1 := Below.trans (by go_grown) (b1.mono (by go_size))
        have B1 : Hid (Below w.heap.size w w1) := NX.out.trans (b2.mono NX.out.size)
        clear b1 b2
        go_wp2_with fail
        go_roundw
        case rel => exact ⟨j + 1, by omega, by go_num, B1.out⟩
        case measure => simp [intOf]; omega
    · obtain rfl : j = l.length := by omega
      go_wp2_with fail
      go_ret
      exact ⟨rfl, hnx⟩
set_option maxRecDepth 100000 in
set_option maxHeartbeats 1000000 in
theorem sameExpr_bnd {x : Sx.Ex} (h : Fo.Bnd x) : SCb x := by
  induction h with
  | mk k n m l hl _ ih =>
    intro A B k' n' m' l' sa sb sn sc tn tc w hx hs ht
    injection hx with q1 q2 q3 q4
    subst q1 q2 q3 q4
    have E1 : Hid (∀ W, Below w.heap.size w W → Calls Try.prog 33 #[.slice sa sn sc, .slice sb tn tc] W fun e w' => e = .returned (.bool true) ∧ Below W.heap.size W w') := fun W hW => sameExprs_bnd A B l ih sa sb sn sc tn tc W (hs.later hW (Nat.le_refl _)) (ht.later hW (Nat.le_refl _)) hl
    clear ih hs ht hl
    go_enter Try.func14, Try.ntmps14
    go_wp2_with fail
    refine Calls.mono (E1.out _ (by go_grown)) ?_
    rintro e w1 ⟨rfl, b1⟩
    have B1 : Hid (Below w.heap.size w w1) := Below.trans (by go_grown) (b1.mono (by go_size))
    clear b1
    go_wp2_with fail
    go_ret
    exact ⟨rfl, B1.out⟩
set_option maxRecDepth 100000 in
set_option maxHeartbeats 1000000 in
theorem great_any {x : Sx.Ex} (hx : Fo.Nl x) (A : Nat → Prop) (k : Int) (n : List UInt8) (m : Int) (l : List Sx.Ex) (sa : Option Addr) (sc : Nat) (w : World) (e0 : x = .mk k n m l) (hs : ExS A w (.slice sa l.length sc) l) :
    Calls Try.prog 7 #[.agg #[.int .i64 k, .string ⟨n.toArray⟩, .int .i64 m, .slice sa l.length sc]] w fun e w' => ∃ b : Bool, e = .returned (.bool b) ∧ (b = false → Fo.Bnd x) ∧ Below w.heap.size w w' := by
  have E1 : Hid (∀ W, Below w.heap.size w W → _) := fun W hW => exprSize_any hx A k n m l sa sc 1500 W e0 (by decide) (by decide) (hs.later hW (Nat.le_refl _))
  clear hs
  go_enter Try.func7, Try.ntmps7
  go_wp2_with fail
  refine Calls.mono (E1.out _ (by go_grown)) ?_
  rintro e w1 ⟨r, rfl, ⟨z1, z2, z3⟩, b1⟩
  have Z3 : Hid _ := z3
  have B1 : Hid (Below w.heap.size w w1) := Below.trans (by go_grown) (b1.mono (by go_size))
  clear b1 z3
  go_wp2_with fail
  go_ret
  exact ⟨_, rfl, fun h => Z3.out (by simpa using h), B1.out⟩
end Go.Proofs.Ythadpkmbbimleaa
