/- Layer 4: how many statements there are (the program's count, Count). -/
/- Layer 4: a statement's check, plain; the checker in memory; called. -/
import Derived.Test.YtfpabjdhibmefaaZCkE
import Derived.Test.YtfpabjdhibmefaaZStC
import Derived.Deep.RegionHeld3
import Derived.Test.YtfpabjdhibmefaaZFolK
namespace Go.Proofs.Ytfpabjdhibmefaa
open Go.RowKit

namespace Sy
theorem ct_pos (s : St) : 1 ≤ ct s := by
  cases s with
  | mk k n p m e b l => rw [ct]; omega
theorem len_cts : ∀ (l : List St), l.length ≤ cts l
  | [] => by simp [cts]
  | s :: r => by
    have := len_cts r
    have := ct_pos s
    rw [cts, List.length_cons]
    omega
theorem cts_take_le (l : List St) (j : Nat) : cts (l.take j) ≤ cts l := by
  have := cts_app (l.take j) (l.drop j)
  rw [List.take_append_drop] at this
  omega
theorem cts_at {l : List St} {j : Nat} {x : St} (h : l[j]? = some x) : cts (l.take j) + ct x ≤ cts l := by
  have := cts_take_le l (j + 1)
  rw [cts_take h] at this
  exact this
end Sy
/-- What is asked of a counter. -/
def ctC (F : FuncId) (l : List Sy.St) : Prop := ∀ (A : Nat → Prop) (sa : Option Addr) (sc : Nat) (w : World), Sy.cts l ≤ 1000000000000000 → SmS A w (.slice sa l.length sc) l → Calls Try.prog F #[.slice sa l.length sc] w fun e w' => e = .returned (.int .i64 (Sy.cts l : Int)) ∧ Below w.heap.size w w'
def ctP (F : FuncId) (x : Sy.St) : Prop := ∃ k n p m e b l, x = .mk k n p m e b l ∧ ctC F b ∧ ctC F l
/-- A box with a statement. -/
abbrev smB (k : Int) (n p : List UInt8) (m : Int) (ea : Option Addr) (en ec : Nat) (ba : Option Addr) (bn bc : Nat) (la : Option Addr) (ln lc : Nat) : Obj := .cells #[.int .i64 k, .string ⟨n.toArray⟩, .string ⟨p.toArray⟩, .int .i64 m, .slice ea en ec, .slice ba bn bc, .slice la ln lc] 33
set_option maxRecDepth 100000 in
set_option maxHeartbeats 1000000 in
theorem ckCount_loop (l : List Sy.St) (hP : ∀ x, x ∈ l → ctP 25 x) : ctC 25 l := by
  intro A sa sc w hb hs
  have HS : Hid (SmS A w (.slice sa l.length sc) l) := hs
  have HP : Hid (∀ x, x ∈ l → ctP 25 x) := hP
  have HB : Hid (Sy.cts l ≤ 1000000000000000) := hb
  have HL : Hid (l.length ≤ 1000000000000000) := Nat.le_trans (Sy.len_cts l) hb
  clear hs hP hb
  go_enter Try.func25, Try.ntmps25
  go_wp2_with fail
  go_loopw [3, 10] (fun v i wr => ∃ (j : Nat) (s : Int), j ≤ l.length ∧ i = .int .i64 j ∧ v = .int .i64 s ∧ Hid (s + j = l.length + Sy.cts (l.take j)) ∧ Hid (Below w.heap.size w wr)) (fun _ i _ => l.length - (intOf i).toNat)
  case atStart => exact ⟨0, l.length, by omega, rfl, rfl, (by simp [Sy.cts] : (l.length : Int) + (0 : Nat) = l.length + Sy.cts (l.take 0)), Below.refl _ _⟩
  case round =>
    obtain ⟨j, s, hj, rfl, rfl, N, B⟩ := hrel
    by_cases hlt : j < l.length
    · obtain ⟨g, o, k, n, p, m, ea, ec, ba, bc, la, lc, e, b, ll, rfl, ha, hg, el, sat⟩ := (HS.out.later B.out (Nat.le_refl _)).part j hlt
      obtain ⟨k', n', p', m', e', b', l', ex, zb, zl⟩ := HP.out _ (List.mem_of_getElem? el)
      injection ex with x1 x2 x3 x4 x5 x6 x7
      subst x1 x2 x3 x4 x5 x6 x7
      obtain ⟨c0, c1, c2, c3, c4, c5, c6, -, hb, hl⟩ := sat
      have T1 := Sy.cts_take el
      have T2 := Sy.cts_at el
      rw [Sy.ct] at T1 T2
      have hbl := HB.out
      have E1 : Hid (∀ W, Below wr.heap.size wr W → Calls Try.prog 25 #[.slice ba b.length bc] W fun e w' => e = .returned (.int .i64 (Sy.cts b : Int)) ∧ Below W.heap.size W w') := fun W hW => zb A ba bc W (by omega) (hb.later hW (Nat.le_refl _))
      have E2 : Hid (∀ W, Below wr.heap.size wr W → Calls Try.prog 25 #[.slice la ll.length lc] W fun e w' => e = .returned (.int .i64 (Sy.cts ll : Int)) ∧ Below W.heap.size W w') := fun W hW => zl A la lc W (by omega) (hl.later hW (Nat.le_refl _))
      have TT : Hid (Sy.cts (l.take (j + 1)) = Sy.cts (l.take j) + (1 + Sy.cts b + Sy.cts ll) ∧ Sy.cts (l.take j) + (1 + Sy.cts b + Sy.cts ll) ≤ Sy.cts l) := ⟨T1, T2⟩
      have hji : (j : Int) < (l.length : Int) := by omega
      have hj0 : (0 : Int) ≤ (j : Int) := by omega
      clear zb zl hb hl T1 T2 hbl el
      go_wp2_with fail
      go_region_held3 (fun w' => w'.cell? ⟨wr.heap.size, 5, none⟩ = some (.slice ba b.length bc) ∧ w'.cell? ⟨wr.heap.size, 6, none⟩ = some (.slice la ll.length lc)) (first | (exact ⟨q5, q6⟩) | (exact ⟨r5, r6⟩) | go_keep) (first
        | (have qq := B6.out; go_at_call 25; refine Calls.mono (E2.out _ (Below.trans B6.out (Below.mono (by go_grown) B6.out.size))) ?_; rintro e7 w7 ⟨rfl, b7⟩; have r5 : w7.cell? ⟨wr.heap.size, 5, none⟩ = some (.slice ba b.length bc) := (b7.cell (p := ⟨wr.heap.size, 5, none⟩) (by simpa using z6)).trans (by simpa [go_sem] using q5); have r6 : w7.cell? ⟨wr.heap.size, 6, none⟩ = some (.slice la ll.length lc) := (b7.cell (p := ⟨wr.heap.size, 6, none⟩) (by simpa using z6)).trans (by simpa [go_sem] using q6); have B7 : Hid (Below w.heap.size w w7) := B.out.trans ((Below.trans (Below.trans B6.out (Below.mono (by go_grown) B6.out.size)) (b7.mono (Nat.le_trans B6.out.size (by go_size)))).mono B.out.size); clear b7)
        | (go_at_call 25; refine Calls.mono (E1.out _ (by go_grown)) ?_; rintro e5 w5 ⟨rfl, b5⟩; have b6 : Below (wr.alloc (smB k n p m ea e.length ec ba b.length bc la ll.length lc)).heap.size (wr.alloc (smB k n p m ea e.length ec ba b.length bc la ll.length lc)) w5 := Below.trans (by go_grown) (b5.mono (by go_size)); have q5 : w5.cell? ⟨wr.heap.size, 5, none⟩ = some (.slice ba b.length bc) := (b6.cell (p := ⟨wr.heap.size, 5, none⟩) (by simp)).trans (by simp [go_sem]); have q6 : w5.cell? ⟨wr.heap.size, 6, none⟩ = some (.slice la ll.length lc) := (b6.cell (p := ⟨wr.heap.size, 6, none⟩) (by simp)).trans (by simp [go_sem]); have z6 : wr.heap.size < w5.heap.size := Nat.lt_of_lt_of_le (by simp) b6.size; have B6 : Hid (Below wr.heap.size wr w5) := (box_below wr _).trans (b6.mono (by simp)); clear b5 b6))
      all_goals
        have l1 := HL.out
        go_wp2_with fail
        go_roundw
        case rel =>
          have n1 := N.out
          have t1 := TT.out
          have b1 := HB.out
          have e1 : IntKind.i64.wrap ((Sy.cts b : Int) + Sy.cts ll) = (Sy.cts b : Int) + Sy.cts ll := by rw [IntKind.wrap_i64]; omega
          have e2 : IntKind.i64.wrap (s + ((Sy.cts b : Int) + Sy.cts ll)) = s + ((Sy.cts b : Int) + Sy.cts ll) := by rw [IntKind.wrap_i64]; omega
          exact ⟨j + 1, s + ((Sy.cts b : Int) + Sy.cts ll), by omega, by go_num, by rw [e1, e2], (by omega : s + ((Sy.cts b : Int) + Sy.cts ll) + (j + 1 : Nat) = l.length + Sy.cts (l.take (j + 1))), B7.out⟩
        case measure => simp [intOf]; omega
    · obtain rfl : j = l.length := by omega
      have G : Hid (s = (Sy.cts l : Int)) := by have := N.out; rw [List.take_length] at this; exact (by omega : s = (Sy.cts l : Int))
      clear N
      go_wp2_with fail
      go_ret
      exact ⟨ret_num G.out, B.out⟩
theorem ckCount_st (x : Sy.St) : ctP 25 x := by
  induction x using Sy.ind with
  | h k n p m e b l hb hl => exact ⟨k, n, p, m, e, b, l, rfl, ckCount_loop b hb, ckCount_loop l hl⟩
/-- count of all statements. -/
theorem ckCount_any (l : List Sy.St) : ctC 25 l := ckCount_loop l fun x _ => ckCount_st x
end Go.Proofs.Ytfpabjdhibmefaa

namespace Go.Proofs.Ytfpabjdhibmefaa
open Go.RowKit

/-- The procedure of a name. -/
def ckCd : List Sy.Pc → List UInt8 → Option Sy.Pc
  | [], _ => none
  | x :: r, n => if x.name = n then some x else ckCd r n
def ckArgs (vs : List CkVa) (mk : Int) : List Sx.Ex → List Sy.Pa → Option Int
  | x :: r, a :: t => match ckTd (ckTy vs mk x) a.type with | some e => some e | none => ckArgs vs mk r t
  | _, _ => none
def ckTake (vs : List CkVa) (mk : Int) (n : List UInt8) (t : Int) : Option Int := match ckSi vs n mk with | .error er => some er | .ok u => if u = t then none else some 41
/-- A call. -/
def ckCal (vs : List CkVa) (mk : Int) (ps : List Sy.Pc) (n q : List UInt8) (e : List Sx.Ex) : Option Int :=
  match ckCd ps q with
  | none => some 40
  | some x => if e.length = x.params.length then (match ckArgs vs mk e x.params with | some er => some er | none => if n = [] then none else ckTake vs mk n x.type) else some 41
/-- A return. -/
def ckAns (vs : List CkVa) (mk ty : Int) : List Sx.Ex → Option Int
  | [] => if ty = 0 then none else some 41
  | [a] => if ty = 0 then some 41 else ckTd (ckTy vs mk a) ty
  | _ => some 41
def ex0 : Sx.Ex := .mk 0 [] 0 []
/-- What is wrong with a statement, but for its blocks. -/
def ckStm (vs : List CkVa) (mk : Int) (ps : List Sy.Pc) (ty : Int) : Sy.St → Option Int
  | .mk k n q num e b l =>
    if ckFm k num e.length b.length l.length = false then some 32
    else if k = 1 then (if num ≤ 64 then none else some 2)
    else if k = 2 then (match ckSi vs n mk with | .error er => some er | .ok t => ckTd (ckTy vs mk (e.getD 0 ex0)) t)
    else if k = 3 then (match ckAr vs n mk with | some er => some er | none => match ckTd (ckTy vs mk (e.getD 0 ex0)) 1 with | some er => some er | none => ckTd (ckTy vs mk (e.getD 1 ex0)) 1)
    else if k = 4 ∨ k = 5 ∨ k = 10 then ckTd (ckTy vs mk (e.getD 0 ex0)) 2
    else if k = 8 then (match ckTy vs mk (e.getD 0 ex0) with | .error er => some er | .ok _ => none)
    else if k = 9 then ckTake vs mk n 1
    else if k = 6 then ckCal vs mk ps n q e
    else ckAns vs mk ty e
/-- The checker, as far as a statement's check reads it. -/
structure Ckr (A : Nat → Prop) (w : World) (p : Nat) (va : Option Addr) (vc : Nat) (vs : List CkVa) (m : Int) (qa : Option Addr) (qc : Nat) (ps : List Sy.Pc) (at_ : Nat) : Prop where
  s : Sco w p va vc vs m
  c2 : w.cell? ⟨p, 2, none⟩ = some (.slice qa ps.length qc)
  c3 : w.cell? ⟨p, 3, none⟩ = some (.int .i64 (at_ : Int))
  pr : PcS A w (.slice qa ps.length qc) ps
  ln : ps.length ≤ 1000000
theorem Ckr.later {A : Nat → Prop} {w w' : World} {p : Nat} {va : Option Addr} {vc : Nat} {vs : List CkVa} {m : Int} {qa : Option Addr} {qc : Nat} {ps : List Sy.Pc} {at_ : Nat} (h : Ckr A w p va vc vs m qa qc ps at_) (b : Below w.heap.size w w') : Ckr A w' p va vc vs m qa qc ps at_ :=
  ⟨h.s.later b, (b.cell h.s.lt).trans h.c2, (b.cell h.s.lt).trans h.c3, h.pr.later b (Nat.le_refl _), h.ln⟩
theorem PcS.part {A : Nat → Prop} {w : World} {qa : Option Addr} {qc : Nat} {ps : List Sy.Pc} (h : PcS A w (.slice qa ps.length qc) ps) (j : Nat) (hj : j < ps.length) : ∃ g o x pa pc ba bc, qa = some ⟨g, o, none⟩ ∧ A g ∧ g < w.heap.size ∧ ps[j]? = some x ∧ PcAt A w g (o + j * 4) x pa pc ba bc := by
  obtain ⟨a, c, e, h⟩ := h
  cases e
  obtain ⟨g, o, e, ha, hg, h⟩ := h (by omega)
  obtain ⟨x, pa, pc, ba, bc, e1, e2⟩ := h j hj
  exact ⟨g, o, x, pa, pc, ba, bc, e, ha, hg, e1, e2⟩
def pcV (x : Sy.Pc) (pa : Option Addr) (pc : Nat) (ba : Option Addr) (bc : Nat) : Value := .agg #[.string ⟨x.name.toArray⟩, .slice pa x.params.length pc, .int .i64 x.type, .slice ba x.body.length bc]
abbrev pcB (x : Sy.Pc) (pa : Option Addr) (pc : Nat) (ba : Option Addr) (bc : Nat) : Obj := .cells #[.string ⟨x.name.toArray⟩, .slice pa x.params.length pc, .int .i64 x.type, .slice ba x.body.length bc] 25
theorem ckCd_at {ps : List Sy.Pc} {j : Nat} {x : Sy.Pc} (h : ps[j]? = some x) (n : List UInt8) : ckCd (ps.drop j) n = if x.name = n then some x else ckCd (ps.drop (j + 1)) n := by
  obtain ⟨hj, e⟩ := List.getElem?_eq_some_iff.1 h
  rw [List.drop_eq_getElem_cons hj, e, ckCd]
/-- What called answers. -/
def CdR (A : Nat → Prop) (w : World) (r : Option Sy.Pc) (e : Ending) (w' : World) : Prop :=
  (r = none ∧ e = ckPan 40 ∧ Below w.heap.size w w') ∨ ∃ x pa pc ba bc, r = some x ∧ e = .returned (pcV x pa pc ba bc) ∧ PaS A w' (.slice pa x.params.length pc) x.params ∧ Below w.heap.size w w'
set_option maxRecDepth 100000 in
set_option maxHeartbeats 4000000 in
theorem ckCalled_any (A : Nat → Prop) (p : Nat) (va : Option Addr) (vc : Nat) (vs : List CkVa) (m : Int) (qa : Option Addr) (qc : Nat) (ps : List Sy.Pc) (at_ : Nat) (n : List UInt8) (w : World) (h : Ckr A w p va vc vs m qa qc ps at_) :
    Calls Try.prog 95 #[.pointer (some ⟨p, 0, none⟩), .string ⟨n.toArray⟩] w (CdR A w (ckCd ps n)) := by
  have H : Hid (Ckr A w p va vc vs m qa qc ps at_) := h
  have c2 := h.c2
  have hp := h.s.lt
  have HL : Hid (ps.length ≤ 1000000) := h.ln
  have npz : ¬ p = w.heap.size := by omega
  have bz : Hid (Below w.heap.size w (w.alloc zPc)) := box_below w _
  clear h
  go_enter Try.func95, Try.ntmps95
  go_wp2_with fail
  go_loopw [12] (fun i wr => ∃ (j : Nat), j ≤ ps.length ∧ i = .int .i64 j ∧ Hid (ckCd (ps.drop j) n = ckCd ps n) ∧ Hid (Below (w.alloc zPc).heap.size (w.alloc zPc) wr)) (fun i _ => ps.length - (intOf i).toNat)
  case atStart => exact ⟨0, by omega, rfl, (by simp : ckCd (ps.drop 0) n = ckCd ps n), Below.refl _ _⟩
  case round =>
    obtain ⟨j, hj, rfl, N, B⟩ := hrel
    have BW : Hid (Below w.heap.size w wr) := bz.out.trans (B.out.mono bz.out.size)
    have z0 : w.heap.size < (w.alloc zPc).heap.size := by simp
    have zw : w.heap.size < wr.heap.size := Nat.lt_of_lt_of_le z0 B.out.size
    by_cases hlt : j < ps.length
    · obtain ⟨g, o, x, pa, pc, ba, bc, rfl, ha, hg, el, at0⟩ := H.out.pr.part j hlt
      have HP : Hid (PaS A w (.slice pa x.params.length pc) x.params) := at0.hp
      obtain ⟨c0, c1, c2', c3, -, -⟩ := at0.keep (A' := A) (fun _ _ a => a) (fun q _ hq => BW.out.cell hq) BW.out.size ha hg
      have hji : (j : Int) < (ps.length : Int) := by omega
      have hj0 : (0 : Int) ≤ (j : Int) := by omega
      have hL := HL.out
      have CA : Hid _ := ckCd_at el n
      have b0 : wr.cell? ⟨w.heap.size, 0, none⟩ = some (.string ⟨#[]⟩) := (B.out.cell (p := ⟨w.heap.size, 0, none⟩) z0).trans (by simp [go_sem])
      have b1 : wr.cell? ⟨w.heap.size, 1, none⟩ = some (.slice none 0 0) := (B.out.cell (p := ⟨w.heap.size, 1, none⟩) z0).trans (by simp [go_sem])
      have b2 : wr.cell? ⟨w.heap.size, 2, none⟩ = some (.int .i64 0) := (B.out.cell (p := ⟨w.heap.size, 2, none⟩) z0).trans (by simp [go_sem])
      have b3 : wr.cell? ⟨w.heap.size, 3, none⟩ = some (.slice none 0 0) := (B.out.cell (p := ⟨w.heap.size, 3, none⟩) z0).trans (by simp [go_sem])
      have f0 : wr.frozen? ⟨w.heap.size, 0, none⟩ = false := (B.out.frozen (p := ⟨w.heap.size, 0, none⟩) z0).trans (by simp [go_sem])
      have f1 : wr.frozen? ⟨w.heap.size, 1, none⟩ = false := (B.out.frozen (p := ⟨w.heap.size, 1, none⟩) z0).trans (by simp [go_sem])
      have f2 : wr.frozen? ⟨w.heap.size, 2, none⟩ = false := (B.out.frozen (p := ⟨w.heap.size, 2, none⟩) z0).trans (by simp [go_sem])
      have f3 : wr.frozen? ⟨w.heap.size, 3, none⟩ = false := (B.out.frozen (p := ⟨w.heap.size, 3, none⟩) z0).trans (by simp [go_sem])
      have nz : ¬ w.heap.size = wr.heap.size := by omega
      have bx : Hid (Below wr.heap.size wr (wr.alloc (pcB x pa pc ba bc))) := box_below wr _
      clear el at0
      by_cases hn : x.name = n
      · have en := text_t hn
        have G : Hid (ckCd ps n = some x) := by rw [← N.out, CA.out, if_pos hn]; rfl
        clear CA hn
        go_wp2_with fail
        refine bodyPost_ret (v := pcV x pa pc ba bc) (by simp [results, Try.results95, go_sem, pcV, b0, b1, b2, b3, zw]) rfl ?_
        have bs := (((BW.out.setCell (p := ⟨w.heap.size, 0, none⟩) (Nat.le_refl _) (.string ⟨x.name.toArray⟩)).setCell (p := ⟨w.heap.size, 1, none⟩) (Nat.le_refl _) (.slice pa x.params.length pc)).setCell (p := ⟨w.heap.size, 2, none⟩) (Nat.le_refl _) (.int .i64 x.type)).setCell (p := ⟨w.heap.size, 3, none⟩) (Nat.le_refl _) (.slice ba x.body.length bc)
        have bf := bs.alloc bs.size (pcB x pa pc ba bc)
        exact .inr ⟨x, pa, pc, ba, bc, G.out, rfl, HP.out.later bf (Nat.le_refl _), bf⟩
      · have en := text_f hn
        have G : Hid (ckCd (ps.drop (j + 1)) n = ckCd ps n) := by rw [← N.out, CA.out, if_neg hn]; rfl
        clear CA hn
        go_wp2_with fail
        go_roundw
        case rel => exact ⟨j + 1, by omega, by go_num, G, B.out.trans (bx.out.mono B.out.size)⟩
        case measure => simp [intOf]; omega
    · obtain rfl : j = ps.length := by omega
      have G : Hid (ckCd ps n = none) := by rw [← N.out, List.drop_length]; rfl
      clear N
      go_wp2_with fail
      exact ⟨rfl, .inl ⟨G.out, rfl, BW.out⟩⟩
end Go.Proofs.Ytfpabjdhibmefaa
