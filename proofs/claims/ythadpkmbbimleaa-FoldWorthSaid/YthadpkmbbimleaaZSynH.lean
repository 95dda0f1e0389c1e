/- Layer 2: the document's Blank. -/
/- Layer 2: the document's Scan of a text that it reads to its end. -/
/- Layer 3: the reader of tokens (what it holds in memory), and its small calls, each for every state. -/
/- Layer 3: reading an expression from tokens, as a plain function (with fuel). -/
/- Layer 3: which signs bind, with which tokens expressions begin; taking the first token of a part. -/
/- Layer 3: expressions in memory; what reading one comes to. -/
/- Layer 3: unary, where it gives up at once. -/
/- Layer 3: unary, where a token is taken. -/
/- Layer 3: variable, and expr. -/
/- Layer 3: bound: what signs between two hold together. -/
/- Layer 3: attempt. -/
import Derived.Test.YthadpkmbbimleaaZGrG
import Derived.Test.YthadpkmbbimleaaZLexK
import Derived.BigRegion
import Derived.RegionTactic
import Derived.WalkLawsBesides
import Derived.Deep.RegionHeld3
import Derived.Deep.RegionWith
import Derived.Deep.DeepCutAuto
import Derived.Handy
import Derived.Deep.LoopGhost
import Derived.Defers
import Derived.Recover
namespace Go.Proofs.Ythadpkmbbimleaa
open Go.RowKit

set_option maxRecDepth 100000 in
set_option maxHeartbeats 400000 in
theorem rblank_any (s : ByteArray) (w : World) (hs : s.size ≤ maxLen) : Calls Try.prog 77 #[.string s] w fun e w' => e = .returned (.int .i64 (Lx.blank false s.data.toList : Int)) ∧ w' = w := by
  unfold maxLen at hs
  go_enter Try.func77, Try.ntmps77
  go_wp2
  go_loop [3, 4] (fun x i => ∃ (k : Nat) (r : Bool), k ≤ s.size ∧ i = .int .i64 k ∧ x = .bool r ∧ Hid (Lx.blank false s.data.toList = k + Lx.blank r (s.data.toList.drop k))) (fun _ i => s.size - (intOf i).toNat)
  case atStart => exact ⟨0, false, by omega, rfl, rfl, (Nat.zero_add _).symm⟩
  case round =>
    obtain ⟨k, r, hk, rfl, rfl, R⟩ := hrel
    by_cases hlt : k < s.size
    · have S : Hid _ := blank_step r s k hlt
      by_cases h10 : s[k].toNat = 10
      · have e : Hid (s[k] = 10) := u8_eq h10 (by decide)
        have hb : ((s[k].toNat : Int) == 10) = true := by rw [h10]; rfl
        have R' : Hid (Lx.blank false s.data.toList = (k + 1) + Lx.blank false (s.data.toList.drop (k + 1))) := by
          have h1 := R.out
          rw [S.out, if_pos e.out] at h1
          unfold Hid; omega
        clear h10
        go_wp2
        exact ⟨⟨k + 1, false, by omega, by go_num, rfl, R'⟩, by simp [intOf]; omega⟩
      · have e : Hid (¬ s[k] = 10) := u8_ne h10 (by decide)
        have hb : ((s[k].toNat : Int) == 10) = false := beq_eq_false_iff_ne.2 (by omega)
        clear h10
        by_cases h35 : s[k].toNat = 35
        · have e2 : Hid (s[k] = 35) := u8_eq h35 (by decide)
          have hb2 : ((s[k].toNat : Int) == 35) = true := by rw [h35]; rfl
          have R' : Hid (Lx.blank false s.data.toList = (k + 1) + Lx.blank true (s.data.toList.drop (k + 1))) := by
            have h1 := R.out
            rw [S.out, if_neg e.out, if_pos e2.out] at h1
            unfold Hid; omega
          clear h35
          go_wp2
          exact ⟨⟨k + 1, true, by omega, by go_num, rfl, R'⟩, by simp [intOf]; omega⟩
        · have e2 : Hid (¬ s[k] = 35) := u8_ne h35 (by decide)
          have hb2 : ((s[k].toNat : Int) == 35) = false := beq_eq_false_iff_ne.2 (by omega)
          clear h35
          by_cases h32 : s[k].toNat = 32
          · have e3 : Hid (s[k] = 32) := u8_eq h32 (by decide)
            have hb3 : ((s[k].toNat : Int) != 32) = false := by rw [h32]; rfl
            have R' : Hid (Lx.blank false s.data.toList = (k + 1) + Lx.blank r (s.data.toList.drop (k + 1))) := by
              have h1 := R.out
              rw [S.out, if_neg e.out, if_neg e2.out, if_neg (by intro h; exact h.1 e3.out)] at h1
              unfold Hid; omega
            clear h32
            cases r with
            | true =>
              go_wp2
              exact ⟨⟨k + 1, true, by omega, by go_num, rfl, R'⟩, by simp [intOf]; omega⟩
            | false =>
              go_wp2
              exact ⟨⟨k + 1, false, by omega, by go_num, rfl, R'⟩, by simp [intOf]; omega⟩
          · have e3 : Hid (¬ s[k] = 32) := u8_ne h32 (by decide)
            have hb3 : ((s[k].toNat : Int) != 32) = true := by rw [bne_iff_ne]; omega
            clear h32
            cases r with
            | true =>
              have R' : Hid (Lx.blank false s.data.toList = (k + 1) + Lx.blank true (s.data.toList.drop (k + 1))) := by
                have h1 := R.out
                rw [S.out, if_neg e.out, if_neg e2.out, if_neg (by simp)] at h1
                unfold Hid; omega
              go_wp2
              exact ⟨⟨k + 1, true, by omega, by go_num, rfl, R'⟩, by simp [intOf]; omega⟩
            | false =>
              have R' : Hid (Lx.blank false s.data.toList = k) := by
                have h1 := R.out
                rw [S.out, if_neg e.out, if_neg e2.out, if_pos ⟨e3.out, rfl⟩] at h1
                exact h1
              go_wp2
              go_ret
              exact ⟨ret_i64 (by rw [R'.out]), rfl⟩
    · obtain rfl : k = s.size := by omega
      have R' : Hid (Lx.blank false s.data.toList = s.size) := by
        have h1 := R.out
        rw [List.drop_eq_nil_of_le (by simp)] at h1
        exact h1
      go_wp2
      go_ret
      exact ⟨ret_i64 (by rw [R'.out]), rfl⟩
end Go.Proofs.Ythadpkmbbimleaa

namespace Go.Proofs.Ythadpkmbbimleaa
open Go.RowKit

/-- The tokens of a text from a place on, behind blanks, as the document's First reads them. -/
inductive Rs (l : List UInt8) : Nat → List (Lx.Tk × Nat) → Prop
  | fin : Rs l l.length []
  | step (a n : Nat) (t : Lx.Tk) (R : List (Lx.Tk × Nat)) (ha : a < l.length) (hf : rfirst (l.drop a) = (t, n)) (hn : 0 < n) (hle : a + n ≤ l.length) (h : Rs l (a + n + Lx.blank false (l.drop (a + n))) R) : Rs l a ((t, a) :: R)
theorem Rs.le {l : List UInt8} {a : Nat} {R : List (Lx.Tk × Nat)} (h : Rs l a R) : a ≤ l.length := by
  cases h with
  | fin => exact Nat.le_refl _
  | step _ _ _ _ ha => exact Nat.le_of_lt ha
theorem Rs.inv {l : List UInt8} {a : Nat} {R : List (Lx.Tk × Nat)} (h : Rs l a R) (ha : a < l.length) : ∃ n t R', R = (t, a) :: R' ∧ rfirst (l.drop a) = (t, n) ∧ 0 < n ∧ a + n ≤ l.length ∧ Rs l (a + n + Lx.blank false (l.drop (a + n))) R' := by
  cases h with
  | fin => exact absurd ha (Nat.lt_irrefl _)
  | step _ n t R' _ hf hn hle h => exact ⟨n, t, R', rfl, hf, hn, hle, h⟩
theorem Rs.done {l : List UInt8} {a : Nat} {R : List (Lx.Tk × Nat)} (h : Rs l a R) (ha : ¬ a < l.length) : R = [] ∧ a = l.length := by
  cases h with
  | fin => exact ⟨rfl, rfl⟩
  | step _ _ _ _ h => exact absurd h ha
theorem tok_snoc1 {w w1 w2 : World} {B : Nat} {v v' : Value} {ts : List (Lx.Tk × Nat)} {x : Lx.Tk × Nat} {o : Obj} (O1 : OwnT w1 B v ts) (hb : Below B w w1) (hB : B ≤ w1.heap.size)
    (h' : w2.ownsRow B 93 4 v' (ts.length + 1) (ts.flatMap cellsT ++ cellsT x)) (hg : (w1.alloc o).grownBy w2 v.ownBlock) :
    OwnT w2 B v' (ts ++ [x]) ∧ Below B w w2 := by
  have hl := World.ownsRow.lt O1
  refine ⟨?_, (hb.alloc hB _).grown hg (by simp; omega) (fun g hg => (hl g hg).1)⟩
  unfold OwnT
  rw [List.length_append, List.flatMap_append]
  simpa using h'
def RScan (T : List (Lx.Tk × Nat)) (w : World) (e : Ending) (w' : World) : Prop := ∃ v, e = .returned (.tuple #[v, .int .i64 0, .int .i64 0]) ∧ OwnT w' w.heap.size v T ∧ Below w.heap.size w w'
set_option maxRecDepth 100000 in
set_option maxHeartbeats 2000000 in
theorem rscan_good (s : ByteArray) (T : List (Lx.Tk × Nat)) (w : World) (hs : s.size ≤ 16384) (hT : T.length < 4000) (hR : Rs s.data.toList (Lx.blank false s.data.toList) T) : Calls Try.prog 58 #[.string s] w (RScan (T ++ [(⟨0, [], 0⟩, s.size)]) w) := by
  have hb : ¬ (16384 : Int) < (s.size : Int) := by omega
  have hm : s.size ≤ maxLen := by unfold maxLen; omega
  obtain ⟨i0, hi, hz0, hz1', hz2⟩ := info_parts infoTok
  have HR : Hid _ := hR
  have HT : Hid (T.length < 4000) := hT
  have HZ : Hid (s.data.toList.length = s.size) := size_len' s
  clear hR hT
  go_enter Try.func58, Try.ntmps58
  go_wp2_with fail
  refine (rblank_any s _ hm).mono ?_
  rintro e w' ⟨rfl, rfl⟩
  generalize Lx.blank false s.data.toList = A0 at HR ⊢
  go_wp2_with fail
  go_loopw [5, 6] (fun v i wr => ∃ (at' cap : Nat) (ao : Option Addr) (ts R : List (Lx.Tk × Nat)), at' ≤ s.size ∧ ts.length + R.length < 4000 ∧ i = .int .i64 at' ∧ v = .slice ao ts.length cap ∧ OwnT wr w'.heap.size (.slice ao ts.length cap) ts ∧ Below w'.heap.size w' wr ∧ Hid (Rs s.data.toList at' R) ∧ Hid (ts ++ R = T)) (fun _ i _ => s.size - (intOf i).toNat)
  case atStart => exact ⟨A0, 0, none, [], T, by have := HR.out.le; rw [HZ.out] at this; exact this, by simpa using HT.out, rfl, rfl, OwnT.nil _ _, Below.refl _ _, HR, rfl⟩
  case round =>
    obtain ⟨at', cap, ao, ts, R, hat, hts, rfl, rfl, hown, hnx, RS, TT⟩ := hrel
    by_cases hlt : at' < s.size
    · obtain ⟨n, t, R', rfl, hf, hn, hle, hr⟩ := RS.out.inv (by rw [HZ.out]; exact hlt)
      rw [HZ.out] at hle
      have hf2 : rfirst (s.extract at' s.size).data.toList = (t, n) := by rw [ext_end]; exact hf
      have HF : Hid _ := hf2
      have hz1 : (s.extract at' s.size).size ≤ 1000000 := by rw [ByteArray.size_extract]; omega
      have hz3 : (s.extract (at' + n) s.size).size ≤ maxLen := by rw [ByteArray.size_extract]; unfold maxLen; omega
      obtain ⟨bl, hbl2⟩ : ∃ bl, bl = Lx.blank false (s.extract (at' + n) s.size).data.toList := ⟨_, rfl⟩
      have HBL : Hid _ := hbl2
      have hbl : at' + n + bl ≤ s.size := by
        have := hr.le
        rw [HZ.out, ← ext_end, ← hbl2] at this
        exact this
      have HR' : Hid (Rs s.data.toList (at' + n + bl) R') := by
        unfold Hid
        rw [hbl2, ext_end]
        exact hr
      have hts' : ts.length + 1 + R'.length < 4000 := by simp at hts; omega
      have hnb : ((n : Int) == 0) = false := beq_eq_false_iff_ne.2 (by omega)
      have h4 : ¬ (4000 : Int) ≤ (ts.length : Int) := by omega
      have TT' : Hid ((ts ++ [(t, at')]) ++ R' = T) := by unfold Hid; rw [List.append_assoc]; exact TT.out
      clear hf hf2 hbl2 hr hts TT RS
      go_wp2_with fail
      refine (rfirst_any (s.extract at' s.size) _ hz1).mono ?_
      rintro e w1 ⟨rfl, b1⟩
      rw [HF.out]
      unfold rfV tokV
      have hb1 := hnx.trans (b1.mono hnx.size)
      have hzz := Nat.le_trans hnx.size b1.size
      have O1 := hown.later b1
      clear b1 hnx hown
      go_wp2_with (at_builtin; refine wpList_append_own _ rfl _ _ 69 rfl w'.heap.size 93 i0 (.agg #[.int .i64 0, .string ⟨#[]⟩, .int .i64 0, .int .i64 0]) 4 40 Try.underlying69 hi hz0 hz1' hz2 rfl (by decide) _ _ _ rfl (World.ownsRow.alloc (World.ownsRow.alloc O1 _) _) ⟨w1.heap.size + 1, 0, none⟩ 1 1 (cellsT (t, at')) rfl rfl ?c1 (four_one _) ?c3 ?c4 ?c5 ?_)
      case c1 => have := four_cells (w1.alloc (.cells (cellsT (t, at')).toArray 93)) (.int .i64 t.kind) (.string ⟨t.text.toArray⟩) (.int .i64 t.num) (.int .i64 ((at' : Nat) : Int)) 93; rw [World.size_alloc] at this; exact this
      case c3 => unfold maxLen; omega
      case c4 => omega
      case c5 => simp; omega
      intro v' w2 hown' hgrow _
      obtain ⟨O2, hb2, hc2⟩ := tok_snoc O1 hb1 hzz hown' hgrow
      clear hown' hgrow O1
      obtain ⟨ao2, cap2, hv2⟩ := O2.shape
      have hlen : (ts ++ [(t, at')]).length = ts.length + 1 := by simp
      go_wp2_with fail
      refine (rblank_any (s.extract (at' + n) s.size) _ hz3).mono ?_
      rintro e w3 ⟨rfl, rfl⟩
      rw [← HBL.out]
      go_wp2_with fail
      go_roundw
      case rel => exact ⟨at' + n + bl, cap2, ao2, ts ++ [(t, at')], R', by omega, by rw [hlen]; omega, by go_num, by rw [hlen], by rw [← hv2]; exact O2, hb2, HR', TT'⟩
      case measure => simp [intOf]; omega
    · obtain ⟨rfl, hae⟩ := RS.out.done (by rw [HZ.out]; exact hlt)
      rw [HZ.out] at hae
      subst hae
      have h4 : ¬ (4000 : Int) ≤ (ts.length : Int) := by simp at hts; omega
      have hts' : ts.length < 4000 := by simpa using hts
      have TT' : Hid (ts = T) := by unfold Hid; have := TT.out; simpa using this
      clear TT RS hts
      have hzz := hnx.size
      go_wp2_with (at_builtin; refine wpList_append_own _ rfl _ _ 69 rfl w'.heap.size 93 i0 (.agg #[.int .i64 0, .string ⟨#[]⟩, .int .i64 0, .int .i64 0]) 4 40 Try.underlying69 hi hz0 hz1' hz2 rfl (by decide) _ _ _ rfl (World.ownsRow.alloc hown _) ⟨wr.heap.size, 0, none⟩ 1 1 (cellsT (⟨0, [], 0⟩, s.size)) rfl rfl ?c1 (four_one _) ?c3 ?c4 ?c5 ?_)
      case c1 => exact fun _ _ h => h
      case c3 => unfold maxLen; omega
      case c4 => omega
      case c5 => first | omega | exact hzz | (simp; omega)
      intro v' w2 hown' hgrow _
      obtain ⟨O2, hb2⟩ := tok_snoc1 hown hnx hzz hown' hgrow
      clear hown' hgrow hown
      go_wp2_with fail
      go_ret3
      refine ⟨_, rfl, ?_, hb2⟩
      rw [← TT'.out]; exact O2
end Go.Proofs.Ythadpkmbbimleaa

namespace Go.Proofs.Ythadpkmbbimleaa
open Go.RowKit

def tokA (x : Tok) : Value := .agg #[.int .i64 x.1.kind, .string ⟨x.1.text.toArray⟩, .int .i64 x.1.num, .int .i64 x.2]
/-- The reader in block p stands at token number k of the tokens ts. -/
structure Rd (w : World) (p b o cap : Nat) (ts : List Tok) (k : Nat) : Prop where
  row : w.cell? ⟨p, 0, none⟩ = some (.slice (some ⟨b, o, none⟩) ts.length cap)
  nx : w.cell? ⟨p, 1, none⟩ = some (.int .i64 (k : Int))
  fz : w.frozen? ⟨p, 1, none⟩ = false
  ta : Ta w b o ts
  ne : b ≠ p
  lt : p < w.heap.size
/-- Nothing that was there has changed but the number in block p. -/
structure Mov (p : Nat) (w w' : World) : Prop where
  os : w'.os = w.os
  tape : w'.tape = w.tape
  output : w'.output = w.output
  size : w.heap.size ≤ w'.heap.size
  block : ∀ k, k < w.heap.size → k ≠ p → w'.heap[k]? = w.heap[k]?
  cell : ∀ q : Addr, q.block < w.heap.size → q ≠ ⟨p, 1, none⟩ → w'.cell? q = w.cell? q
  frozen : ∀ q : Addr, q.block < w.heap.size → w'.frozen? q = w.frozen? q
theorem Mov.refl (p : Nat) (w : World) : Mov p w w := ⟨rfl, rfl, rfl, Nat.le_refl _, fun _ _ _ => rfl, fun _ _ _ => rfl, fun _ _ => rfl⟩
theorem Mov.trans {p : Nat} {a b c : World} (h : Mov p a b) (k : Mov p b c) : Mov p a c :=
  ⟨k.os.trans h.os, k.tape.trans h.tape, k.output.trans h.output, Nat.le_trans h.size k.size,
   fun i hi hp => (k.block i (Nat.lt_of_lt_of_le hi h.size) hp).trans (h.block i hi hp),
   fun q hq hp => (k.cell q (Nat.lt_of_lt_of_le hq h.size) hp).trans (h.cell q hq hp),
   fun q hq => (k.frozen q (Nat.lt_of_lt_of_le hq h.size)).trans (h.frozen q hq)⟩
theorem Mov.of_below {p : Nat} {w w' : World} (h : Below w.heap.size w w') : Mov p w w' :=
  ⟨h.os, h.tape, h.output, h.size, fun k hk _ => h.block k hk, fun _ hq _ => h.cell hq, fun _ hq => h.frozen hq⟩
theorem Mov.alloc {p : Nat} {w w' : World} (h : Mov p w w') (x : Obj) : Mov p w (w'.alloc x) := h.trans (.of_below (box_below w' x))
theorem Ta.mov {w w' : World} {p b o : Nat} {ts : List Tok} (h : Ta w b o ts) (m : Mov p w w') (hb : b ≠ p) : Ta w' b o ts := by
  have key : ∀ n, (⟨b, n, none⟩ : Addr) ≠ ⟨p, 1, none⟩ := fun n e => hb (congrArg Addr.block e)
  exact ⟨Nat.lt_of_lt_of_le h.lt m.size, fun j hj => (m.cell _ h.lt (key _)).trans (h.c0 j hj), fun j hj => (m.cell _ h.lt (key _)).trans (h.c1 j hj), fun j hj => (m.cell _ h.lt (key _)).trans (h.c2 j hj), fun j hj => (m.cell _ h.lt (key _)).trans (h.c3 j hj)⟩
theorem Rd.later {w w' : World} {p b o cap : Nat} {ts : List Tok} {k : Nat} (h : Rd w p b o cap ts k) (hb : Below w.heap.size w w') : Rd w' p b o cap ts k :=
  ⟨(hb.cell (p := ⟨p, 0, none⟩) h.lt).trans h.row, (hb.cell (p := ⟨p, 1, none⟩) h.lt).trans h.nx, (hb.frozen (p := ⟨p, 1, none⟩) h.lt).trans h.fz, h.ta.later hb, h.ne, Nat.lt_of_lt_of_le h.lt hb.size⟩

/-- And that token is x. -/
structure Rn (w : World) (p b o cap : Nat) (ts : List Tok) (k : Nat) (x : Tok) : Prop where
  rd : Rd w p b o cap ts k
  hk : k < ts.length
  tk : ts.getD k tok0 = x
theorem Rn.later {w w' : World} {p b o cap : Nat} {ts : List Tok} {k : Nat} {x : Tok} (h : Rn w p b o cap ts k x) (hb : Below w.heap.size w w') : Rn w' p b o cap ts k x := ⟨h.rd.later hb, h.hk, h.tk⟩

theorem ret_bool {a b : Bool} (h : a = b) : Ending.returned (.bool a) = .returned (.bool b) := by rw [h]
theorem beq_dec (a b : List UInt8) : (a == b) = decide (a = b) := by
  by_cases e : a = b
  · subst e; simp
  · rw [decide_eq_false e]; simpa using e
theorem fldT (a0 a1 a2 a3 : Value) (w : World) : (Instr.field 93 (.agg #[a0, a1, a2, a3]) 1).run Try.prog w = .ok a1 w := by kernel_rfl
theorem fldA (a0 a1 a2 a3 : Value) (w : World) : (Instr.field 93 (.agg #[a0, a1, a2, a3]) 3).run Try.prog w = .ok a3 w := by kernel_rfl
/-- What is thrown. -/
def fltV (a e : Int) : Value := .agg #[.int .i64 a, .int .i64 e]
/-- The reader went on by one. -/
theorem Rd.step {w : World} {p b o cap : Nat} {ts : List Tok} {k : Nat} (h : Rd w p b o cap ts k) : Rd (w.setCell ⟨p, 1, none⟩ (.int .i64 ((k : Int) + 1))) p b o cap ts (k + 1) ∧ Mov p w (w.setCell ⟨p, 1, none⟩ (.int .i64 ((k : Int) + 1))) := by
  have m : Mov p w (w.setCell ⟨p, 1, none⟩ (.int .i64 ((k : Int) + 1))) :=
    ⟨rfl, rfl, rfl, by simp, fun i _ hi => heap_setCell_other w _ i _ hi, fun q _ hq => World.cell?_setCell_other _ _ _ _ (Ne.symm hq), fun q _ => by simp⟩
  refine ⟨⟨(m.cell _ h.lt (by simp)).trans h.row, World.cell?_setCell_same _ _ _ h.nx, (m.frozen _ h.lt).trans h.fz, h.ta.mov m h.ne, h.ne, Nat.lt_of_lt_of_le h.lt m.size⟩, m⟩
theorem Mov.set {p : Nat} {w w' : World} (h : Mov p w w') {a : Addr} (ha : w.heap.size ≤ a.block) (v : Value) : Mov p w (w'.setCell a v) :=
  ⟨h.os, h.tape, h.output, by simpa using h.size, fun i hi hp => (heap_setCell_other w' _ i _ (by omega)).trans (h.block i hi hp),
   fun q hq hp => (World.cell?_setCell_other _ _ _ _ (fun e => by subst e; omega)).trans (h.cell q hq hp), fun q hq => by rw [World.frozen?_setCell]; exact h.frozen q hq⟩
theorem Ta.set {w : World} {b o : Nat} {ts : List Tok} (h : Ta w b o ts) {a : Addr} (ha : a.block ≠ b) (v : Value) : Ta (w.setCell a v) b o ts := by
  have key : ∀ n, a ≠ (⟨b, n, none⟩ : Addr) := fun n e => ha (congrArg Addr.block e)
  exact ⟨by simpa using h.lt, fun j hj => (World.cell?_setCell_other _ _ _ _ (key _)).trans (h.c0 j hj), fun j hj => (World.cell?_setCell_other _ _ _ _ (key _)).trans (h.c1 j hj), fun j hj => (World.cell?_setCell_other _ _ _ _ (key _)).trans (h.c2 j hj), fun j hj => (World.cell?_setCell_other _ _ _ _ (key _)).trans (h.c3 j hj)⟩
theorem Rd.set {w : World} {p b o cap : Nat} {ts : List Tok} {k : Nat} (h : Rd w p b o cap ts k) {a : Addr} (hp : a.block ≠ p) (hb : a.block ≠ b) (v : Value) : Rd (w.setCell a v) p b o cap ts k := by
  have key : ∀ n, a ≠ (⟨p, n, none⟩ : Addr) := fun n e => hp (congrArg Addr.block e)
  exact ⟨(World.cell?_setCell_other _ _ _ _ (key _)).trans h.row, (World.cell?_setCell_other _ _ _ _ (key _)).trans h.nx, by rw [World.frozen?_setCell]; exact h.fz, h.ta.set hb v, h.ne, by simpa using h.lt⟩
end Go.Proofs.Ythadpkmbbimleaa

namespace Go.Proofs.Ythadpkmbbimleaa.Sx
open Go.RowKit

/-- An expression. -/
inductive Ex
  | mk (kind : Int) (name : List UInt8) (num : Int) (l : List Ex)
def bindsB (s : List UInt8) : Nat :=
  if s = [124, 124] then 1 else if s = [38, 38] then 2
  else if s = [61, 61] then 3 else if s = [33, 61] then 3 else if s = [60] then 3 else if s = [60, 61] then 3
  else if s = [43] then 4 else if s = [45] then 4
  else if s = [42] then 5 else if s = [47] then 5 else if s = [37] then 5 else 0
def isUn (s : List UInt8) : Bool := decide (s = [45]) || decide (s = [33])
def begE (t : Tok) : Bool := decide (t.1.kind = 2) || decide (t.1.kind = 1) || decide (t.1.text = [116, 114, 117, 101]) || decide (t.1.text = [102, 97, 108, 115, 101]) || decide (t.1.text = [40]) || isUn t.1.text
/-- What came of reading: an expression and the token behind it; or a place and an error. -/
inductive Rs
  | ok (x : Ex) (k : Nat)
  | bad (a e : Int)
def tx (ts : List Tok) (k : Nat) : List UInt8 := (ts.getD k tok0).1.text
def pl (ts : List Tok) (k : Nat) : Int := (ts.getD k tok0).2
/-- Behind what was read the text s must stand. -/
def shut (ts : List Tok) (s : List UInt8) (g : Ex → Ex) : Option Rs → Option Rs
  | some (.ok x k) => if tx ts k = s then some (.ok (g x) (k + 1)) else some (.bad (pl ts k) 30)
  | r => r
mutual
def un (ts : List Tok) : Nat → Nat → Nat → Option Rs
  | 0, _, _ => none
  | f + 1, d, k =>
    if begE (ts.getD k tok0) = false then some (.bad (pl ts k) 30)
    else if 60 < d then some (.bad (pl ts k) 31)
    else if (ts.getD k tok0).1.kind = 2 then some (.ok (.mk 1 [] (ts.getD k tok0).1.num []) (k + 1))
    else if (ts.getD k tok0).1.kind = 1 then
      (if tx ts (k + 1) = [91] then shut ts [93] (fun x => .mk 4 (tx ts k) 0 [x]) (bd ts f 1 (d + 1) (k + 2)) else some (.ok (.mk 3 (tx ts k) 0 []) (k + 1)))
    else if tx ts k = [116, 114, 117, 101] then some (.ok (.mk 2 [] 1 []) (k + 1))
    else if tx ts k = [102, 97, 108, 115, 101] then some (.ok (.mk 2 [] 0 []) (k + 1))
    else if tx ts k = [40] then shut ts [41] (fun x => x) (bd ts f 1 (d + 1) (k + 1))
    else match un ts f (d + 1) (k + 1) with
      | some (.ok x k') => some (.ok (.mk 5 (tx ts k) 0 [x]) k')
      | r => r
def bd (ts : List Tok) : Nat → Nat → Nat → Nat → Option Rs
  | 0, _, _, _ => none
  | f + 1, q, d, k =>
    if 5 < q then un ts f d k
    else match bd ts f (q + 1) d k with
      | some (.ok x k') => lp ts f q d x k'
      | r => r
def lp (ts : List Tok) : Nat → Nat → Nat → Ex → Nat → Option Rs
  | 0, _, _, _, _ => none
  | f + 1, q, d, x, k =>
    if bindsB (tx ts k) = q then
      match bd ts f (q + 1) d (k + 1) with
      | some (.ok y k') => if q = 3 then some (.ok (.mk 6 (tx ts k) 0 [x, y]) k') else lp ts f q d (.mk 6 (tx ts k) 0 [x, y]) k'
      | r => r
    else some (.ok x k)
end
end Go.Proofs.Ythadpkmbbimleaa.Sx

namespace Go.Proofs.Ythadpkmbbimleaa
open Go.RowKit

theorem text_t {a b : List UInt8} (h : a = b) : (a == b) = true := by subst h; simp
theorem text_f {a b : List UInt8} (h : ¬ a = b) : (a == b) = false := by simpa using h
end Go.Proofs.Ythadpkmbbimleaa

namespace Go.Proofs.Ythadpkmbbimleaa
open Go.RowKit

mutual
/-- The expressions of a list lie from place o of block g on. -/
inductive ExC (A : Nat → Prop) (w : World) : Nat → Nat → List Sx.Ex → Prop
  | nil (g o : Nat) : ExC A w g o []
  | cons (g o : Nat) (k : Int) (n : List UInt8) (m : Int) (sl : Value) (l r : List Sx.Ex) (c0 : w.cell? ⟨g, o, none⟩ = some (.int .i64 k)) (c1 : w.cell? ⟨g, o + 1, none⟩ = some (.string ⟨n.toArray⟩)) (c2 : w.cell? ⟨g, o + 2, none⟩ = some (.int .i64 m)) (c3 : w.cell? ⟨g, o + 3, none⟩ = some sl)
      (hs : ExS A w sl l) (hr : ExC A w g (o + 4) r) : ExC A w g o (.mk k n m l :: r)
/-- A slice of expressions, in blocks of A. -/
inductive ExS (A : Nat → Prop) (w : World) : Value → List Sx.Ex → Prop
  | nil (a : Option Addr) (cap : Nat) : ExS A w (.slice a 0 cap) []
  | some (g o cap len : Nat) (l : List Sx.Ex) (hl : len = l.length) (h0 : 0 < l.length) (hc : l.length ≤ cap) (ha : A g) (hg : g < w.heap.size) (h : ExC A w g o l) : ExS A w (.slice (some ⟨g, o, none⟩) len cap) l
end
theorem ExS.keep {A A' : Nat → Prop} {w w' : World} (hA : ∀ g, g < w.heap.size → A g → A' g) (hc : ∀ q : Addr, A q.block → q.block < w.heap.size → w'.cell? q = w.cell? q) (hz : w.heap.size ≤ w'.heap.size) {sl : Value} {l : List Sx.Ex} (h : ExS A w sl l) : ExS A' w' sl l := by
  refine ExS.rec (motive_1 := fun g o l _ => A g → g < w.heap.size → ExC A' w' g o l) (motive_2 := fun sl l _ => ExS A' w' sl l) ?_ ?_ ?_ ?_ h
  · exact fun g o _ _ => .nil g o
  · intro g o k n m' sl l r c0 c1 c2 c3 _ _ ih1 ih2 ha hg
    exact .cons g o k n m' sl l r ((hc _ ha hg).trans c0) ((hc _ ha hg).trans c1) ((hc _ ha hg).trans c2) ((hc _ ha hg).trans c3) ih1 (ih2 ha hg)
  · exact fun a cap => .nil a cap
  · intro g o cap len l hl h0 hc' ha hg _ ih
    exact .some g o cap len l hl h0 hc' (hA g hg ha) (Nat.lt_of_lt_of_le hg hz) (ih ha hg)
theorem ExS.mov {A : Nat → Prop} {p : Nat} {w w' : World} {sl : Value} {l : List Sx.Ex} (h : ExS A w sl l) (m : Mov p w w') (hp : ¬ A p) : ExS A w' sl l :=
  h.keep (fun _ _ a => a) (fun q ha hq => m.cell q hq (fun e => hp (by rw [e] at ha; exact ha))) m.size
theorem ExS.later {A : Nat → Prop} {n : Nat} {w w' : World} {sl : Value} {l : List Sx.Ex} (h : ExS A w sl l) (m : Below n w w') (hn : w.heap.size ≤ n) : ExS A w' sl l :=
  h.keep (fun _ _ a => a) (fun _ _ hq => m.cell (Nat.lt_of_lt_of_le hq hn)) m.size
theorem ExS.set {A : Nat → Prop} {w : World} {sl : Value} {l : List Sx.Ex} (h : ExS A w sl l) {a : Addr} (ha : ¬ A a.block) (v : Value) : ExS A (w.setCell a v) sl l :=
  h.keep (fun _ _ x => x) (fun _ hA _ => World.cell?_setCell_other _ _ _ _ (fun e => ha (by rw [e]; exact hA))) (by simp)
theorem ExS.mono {A A' : Nat → Prop} {w : World} {sl : Value} {l : List Sx.Ex} (h : ExS A w sl l) (hA : ∀ g, g < w.heap.size → A g → A' g) : ExS A' w sl l :=
  h.keep hA (fun _ _ _ => rfl) (Nat.le_refl _)
theorem ExS.form {A : Nat → Prop} {w : World} {sl : Value} {l : List Sx.Ex} (h : ExS A w sl l) : ∃ a n c, sl = .slice a n c := by
  cases h with
  | nil a cap => exact ⟨_, _, _, rfl⟩
  | some g o cap len l hl h0 hc ha hg h => exact ⟨_, _, _, rfl⟩
theorem ExS.one {A : Nat → Prop} {w : World} {sl : Value} {l : List Sx.Ex} (h : ExS A w sl l) (hA : A w.heap.size) (k : Int) (n : List UInt8) (m : Int) (t : TypeId) :
    ExS A (w.alloc (.cells #[.int .i64 k, .string ⟨n.toArray⟩, .int .i64 m, sl] t)) (.slice (Option.some ⟨w.heap.size, 0, Option.none⟩) 1 1) [.mk k n m l] :=
  .some _ _ _ _ _ rfl (by simp) (by simp) hA (by simp) (.cons _ _ _ _ _ _ _ _ (by simp [go_sem]) (by simp [go_sem]) (by simp [go_sem]) (by simp [go_sem]) (h.later (box_below _ _) (Nat.le_refl _)) (.nil _ _))
theorem ExS.two {A : Nat → Prop} {w : World} {sl sl' : Value} {l l' : List Sx.Ex} (h : ExS A w sl l) (h' : ExS A w sl' l') (hA : A w.heap.size) (k k' : Int) (n n' : List UInt8) (m m' : Int) (t : TypeId) :
    ExS A (w.alloc (.cells #[.int .i64 k, .string ⟨n.toArray⟩, .int .i64 m, sl, .int .i64 k', .string ⟨n'.toArray⟩, .int .i64 m', sl'] t)) (.slice (Option.some ⟨w.heap.size, 0, Option.none⟩) 2 2) [.mk k n m l, .mk k' n' m' l'] :=
  .some _ _ _ _ _ rfl (by simp) (by simp) hA (by simp) (.cons _ _ _ _ _ _ _ _ (by simp [go_sem]) (by simp [go_sem]) (by simp [go_sem]) (by simp [go_sem]) (h.later (box_below _ _) (Nat.le_refl _)) (.cons _ _ _ _ _ _ _ _ (by simp [go_sem]) (by simp [go_sem]) (by simp [go_sem]) (by simp [go_sem]) (h'.later (box_below _ _) (Nat.le_refl _)) (.nil _ _)))
/-- The value v is the expression x. -/
def IsEx (A : Nat → Prop) (w : World) (v : Value) : Sx.Ex → Prop
  | .mk k n m l => ∃ sl, v = .agg #[.int .i64 k, .string ⟨n.toArray⟩, .int .i64 m, sl] ∧ ExS A w sl l
/-- A box of four cells. -/
structure Bx (w : World) (g : Nat) (a0 a1 a2 a3 : Value) : Prop where
  c0 : w.cell? ⟨g, 0, none⟩ = some a0
  c1 : w.cell? ⟨g, 1, none⟩ = some a1
  c2 : w.cell? ⟨g, 2, none⟩ = some a2
  c3 : w.cell? ⟨g, 3, none⟩ = some a3
  f0 : w.frozen? ⟨g, 0, none⟩ = false
  f1 : w.frozen? ⟨g, 1, none⟩ = false
  f2 : w.frozen? ⟨g, 2, none⟩ = false
  f3 : w.frozen? ⟨g, 3, none⟩ = false
  lt : g < w.heap.size
theorem Bx.later {w w' : World} {g n : Nat} {a0 a1 a2 a3 : Value} (h : Bx w g a0 a1 a2 a3) (b : Below n w w') (hn : g < n) : Bx w' g a0 a1 a2 a3 :=
  ⟨(b.cell (p := ⟨g, 0, none⟩) hn).trans h.c0, (b.cell (p := ⟨g, 1, none⟩) hn).trans h.c1, (b.cell (p := ⟨g, 2, none⟩) hn).trans h.c2, (b.cell (p := ⟨g, 3, none⟩) hn).trans h.c3,
   (b.frozen (p := ⟨g, 0, none⟩) hn).trans h.f0, (b.frozen (p := ⟨g, 1, none⟩) hn).trans h.f1, (b.frozen (p := ⟨g, 2, none⟩) hn).trans h.f2, (b.frozen (p := ⟨g, 3, none⟩) hn).trans h.f3, Nat.lt_of_lt_of_le h.lt b.size⟩
theorem Bx.mov {w w' : World} {p g : Nat} {a0 a1 a2 a3 : Value} (h : Bx w g a0 a1 a2 a3) (m : Mov p w w') (hp : g ≠ p) : Bx w' g a0 a1 a2 a3 := by
  have key : ∀ n, (⟨g, n, none⟩ : Addr) ≠ ⟨p, 1, none⟩ := fun n e => hp (congrArg Addr.block e)
  exact ⟨(m.cell _ h.lt (key 0)).trans h.c0, (m.cell _ h.lt (key 1)).trans h.c1, (m.cell _ h.lt (key 2)).trans h.c2, (m.cell _ h.lt (key 3)).trans h.c3,
   (m.frozen _ h.lt).trans h.f0, (m.frozen _ h.lt).trans h.f1, (m.frozen _ h.lt).trans h.f2, (m.frozen _ h.lt).trans h.f3, Nat.lt_of_lt_of_le h.lt m.size⟩
theorem Bx.new (w : World) (t : TypeId) (a0 a1 a2 a3 : Value) : Bx (w.alloc (.cells #[a0, a1, a2, a3] t)) w.heap.size a0 a1 a2 a3 :=
  ⟨by simp [go_sem], by simp [go_sem], by simp [go_sem], by simp [go_sem], World.frozen?_alloc_at _ _ _ _ rfl, World.frozen?_alloc_at _ _ _ _ rfl, World.frozen?_alloc_at _ _ _ _ rfl, World.frozen?_alloc_at _ _ _ _ rfl, by simp⟩
/-- A box is filled anew. -/
def fill (w : World) (g : Nat) (a0 a1 a2 a3 : Value) : World := (((w.setCell ⟨g, 0, none⟩ a0).setCell ⟨g, 1, none⟩ a1).setCell ⟨g, 2, none⟩ a2).setCell ⟨g, 3, none⟩ a3
theorem Bx.fill {w : World} {g : Nat} {a0 a1 a2 a3 : Value} (h : Bx w g a0 a1 a2 a3) (b0 b1 b2 b3 : Value) : Bx (fill w g b0 b1 b2 b3) g b0 b1 b2 b3 := by
  unfold Go.Proofs.Ythadpkmbbimleaa.fill
  refine ⟨?_, ?_, ?_, ?_, ?_, ?_, ?_, ?_, ?_⟩
  all_goals simp [h.c0, h.c1, h.c2, h.c3, h.f0, h.f1, h.f2, h.f3, h.lt, go_sem]
theorem Bx.set {w : World} {g : Nat} {a0 a1 a2 a3 : Value} (h : Bx w g a0 a1 a2 a3) {a : Addr} (ha : a.block ≠ g) (v : Value) : Bx (w.setCell a v) g a0 a1 a2 a3 := by
  have key : ∀ n, a ≠ (⟨g, n, none⟩ : Addr) := fun n e => ha (congrArg Addr.block e)
  exact ⟨(World.cell?_setCell_other _ _ _ _ (key 0)).trans h.c0, (World.cell?_setCell_other _ _ _ _ (key 1)).trans h.c1, (World.cell?_setCell_other _ _ _ _ (key 2)).trans h.c2, (World.cell?_setCell_other _ _ _ _ (key 3)).trans h.c3,
   by rw [World.frozen?_setCell]; exact h.f0, by rw [World.frozen?_setCell]; exact h.f1, by rw [World.frozen?_setCell]; exact h.f2, by rw [World.frozen?_setCell]; exact h.f3, by simpa using h.lt⟩
theorem Mov.fill {p : Nat} {w w' : World} (h : Mov p w w') {g : Nat} (hg : w.heap.size ≤ g) (b0 b1 b2 b3 : Value) : Mov p w (fill w' g b0 b1 b2 b3) := (((h.set (a := ⟨g, 0, none⟩) hg _).set (a := ⟨g, 1, none⟩) hg _).set (a := ⟨g, 2, none⟩) hg _).set (a := ⟨g, 3, none⟩) hg _
theorem Rd.fill {w : World} {p b o cap : Nat} {ts : List Tok} {k : Nat} (h : Rd w p b o cap ts k) {g : Nat} (hp : g ≠ p) (hb : g ≠ b) (b0 b1 b2 b3 : Value) : Rd (fill w g b0 b1 b2 b3) p b o cap ts k := (((h.set (a := ⟨g, 0, none⟩) hp hb _).set (a := ⟨g, 1, none⟩) hp hb _).set (a := ⟨g, 2, none⟩) hp hb _).set (a := ⟨g, 3, none⟩) hp hb _
theorem Bx.filled {w : World} {g g' : Nat} {a0 a1 a2 a3 : Value} (h : Bx w g a0 a1 a2 a3) (hg : g' ≠ g) (b0 b1 b2 b3 : Value) : Bx (Go.Proofs.Ythadpkmbbimleaa.fill w g' b0 b1 b2 b3) g a0 a1 a2 a3 := (((h.set (a := ⟨g', 0, none⟩) hg _).set (a := ⟨g', 1, none⟩) hg _).set (a := ⟨g', 2, none⟩) hg _).set (a := ⟨g', 3, none⟩) hg _
theorem ExS.fill {A : Nat → Prop} {w : World} {sl : Value} {l : List Sx.Ex} (h : ExS A w sl l) {g : Nat} (ha : ¬ A g) (b0 b1 b2 b3 : Value) : ExS A (fill w g b0 b1 b2 b3) sl l := (((h.set (a := ⟨g, 0, none⟩) ha _).set (a := ⟨g, 1, none⟩) ha _).set (a := ⟨g, 2, none⟩) ha _).set (a := ⟨g, 3, none⟩) ha _
theorem fill_size (w : World) (g : Nat) (b0 b1 b2 b3 : Value) : (fill w g b0 b1 b2 b3).heap.size = w.heap.size := by simp [fill]
theorem ExS.one' {A : Nat → Prop} {w : World} {sl : Value} {l : List Sx.Ex} (h : ExS A w sl l) (hA : A w.heap.size) {g : Nat} (hg : ¬ A g) (b0 b1 b2 b3 : Value) (k : Int) (n : List UInt8) (m : Int) (t : TypeId) :
    ExS A ((Go.Proofs.Ythadpkmbbimleaa.fill w g b0 b1 b2 b3).alloc (.cells #[.int .i64 k, .string ⟨n.toArray⟩, .int .i64 m, sl] t)) (.slice (Option.some ⟨w.heap.size, 0, Option.none⟩) 1 1) [.mk k n m l] := by
  have e := (h.fill hg b0 b1 b2 b3).one (by rw [fill_size]; exact hA) k n m t
  rw [fill_size] at e
  exact e
theorem ExS.two' {A : Nat → Prop} {w : World} {sl sl' : Value} {l l' : List Sx.Ex} (h : ExS A w sl l) (h' : ExS A w sl' l') (hA : A w.heap.size) {g : Nat} (hg : ¬ A g) (b0 b1 b2 b3 : Value) (k k' : Int) (n n' : List UInt8) (m m' : Int) (t : TypeId) :
    ExS A ((Go.Proofs.Ythadpkmbbimleaa.fill w g b0 b1 b2 b3).alloc (.cells #[.int .i64 k, .string ⟨n.toArray⟩, .int .i64 m, sl, .int .i64 k', .string ⟨n'.toArray⟩, .int .i64 m', sl'] t)) (.slice (Option.some ⟨w.heap.size, 0, Option.none⟩) 2 2) [.mk k n m l, .mk k' n' m' l'] := by
  have e := (h.fill hg b0 b1 b2 b3).two (h'.fill hg b0 b1 b2 b3) (by rw [fill_size]; exact hA) k k' n n' m m' t
  rw [fill_size] at e
  exact e
/-- Tokens that may be read: the last one is the end, and no other. -/
structure Good (ts : List Tok) : Prop where
  pos : 0 < ts.length
  len : ts.length ≤ 1000000
  last : (ts.getD (ts.length - 1) tok0).1 = ⟨0, [], 0⟩
theorem Good.next {ts : List Tok} (h : Good ts) {k : Nat} (hk : k < ts.length) (hn : ¬ (ts.getD k tok0).1 = ⟨0, [], 0⟩) : k + 1 < ts.length := by
  by_cases e : k = ts.length - 1
  · exact absurd (by rw [e]; exact h.last) hn
  · have := h.pos; omega
/-- A call that panics, where the tactic for regions wants a way on: the way on is shut (False). -/
theorem shutWay {P : Program} {n : FuncId} {args : Array Value} {w : World} {R C : Ending → World → Prop} (hc : Calls P n args w C) (hp : ∀ e w', C e w' → R e w') (v : Value) (_hf : Hid (∀ q : Prop, q) → R (.returned v) w) : Calls P n args w R := hc.mono hp
theorem Mov.below {p : Nat} {w W w' : World} (m : Mov p w W) (b : Below W.heap.size W w') : Mov p w w' := m.trans (.of_below b)
end Go.Proofs.Ythadpkmbbimleaa

namespace Go.Proofs.Ythadpkmbbimleaa
open Go.RowKit

end Go.Proofs.Ythadpkmbbimleaa

namespace Go.Proofs.Ythadpkmbbimleaa
open Go.RowKit

abbrev zE : Obj := .cells #[.int .i64 0, .string ⟨#[]⟩, .int .i64 0, .slice none 0 0] 24
theorem sz1 {n : Nat} {w w' : World} {o : Obj} (h : Below n (w.alloc o) w') : w.heap.size + 1 ≤ w'.heap.size := by simpa using h.size
/-- The first token x was taken, and lies in a box of its own; the box for the answer is empty. -/
def URel (w : World) (p b o cap : Nat) (ts : List Tok) (k : Nat) (x : Tok) (s : Value) (wc : World) : Prop :=
  ∃ g, s = .pointer (some ⟨g, 0, none⟩) ∧ Bx wc g (.int .i64 x.1.kind) (.string ⟨x.1.text.toArray⟩) (.int .i64 x.1.num) (.int .i64 x.2) ∧ w.heap.size < g ∧
    Bx wc w.heap.size (.int .i64 0) (.string ⟨#[]⟩) (.int .i64 0) (.slice none 0 0) ∧ Mov p w wc ∧ Rd wc p b o cap ts (k + 1)
theorem URel.of {w w3 : World} {p b o cap : Nat} {ts : List Tok} {k g : Nat} {x : Tok} {a0 a1 a2 a3 : Value} (t : Bx w3 g a0 a1 a2 a3) (hg : w.heap.size < g) (hp : p < w.heap.size) (hb : b < w.heap.size) (r : Bx w3 w.heap.size (.int .i64 0) (.string ⟨#[]⟩) (.int .i64 0) (.slice none 0 0)) (m : Mov p w w3) (rd : Rd w3 p b o cap ts (k + 1)) :
    URel w p b o cap ts k x (.pointer (some ⟨g, 0, none⟩)) (fill w3 g (.int .i64 x.1.kind) (.string ⟨x.1.text.toArray⟩) (.int .i64 x.1.num) (.int .i64 x.2)) :=
  ⟨g, rfl, t.fill _ _ _ _, hg, r.filled (by omega) _ _ _ _, m.fill (by omega) _ _ _ _, rd.fill (by omega) (by omega) _ _ _ _⟩
theorem URel.of_new {w w3 : World} {p b o cap : Nat} {ts : List Tok} {k : Nat} {x : Tok} (t : TypeId) (r : Bx w3 w.heap.size (.int .i64 0) (.string ⟨#[]⟩) (.int .i64 0) (.slice none 0 0)) (m : Mov p w w3) (rd : Rd w3 p b o cap ts (k + 1)) :
    URel w p b o cap ts k x (.pointer (some ⟨w3.heap.size, 0, none⟩)) (w3.alloc (.cells #[.int .i64 x.1.kind, .string ⟨x.1.text.toArray⟩, .int .i64 x.1.num, .int .i64 x.2] t)) :=
  ⟨w3.heap.size, rfl, Bx.new _ _ _ _ _ _, r.lt, r.later (box_below _ _) r.lt, m.alloc _, rd.later (box_below _ _)⟩
end Go.Proofs.Ythadpkmbbimleaa

namespace Go.Proofs.Ythadpkmbbimleaa
open Go.RowKit

end Go.Proofs.Ythadpkmbbimleaa

namespace Go.Proofs.Ythadpkmbbimleaa
open Go.RowKit

/-- The expression y, read so far, lies in block h; the token behind it is number k'. -/
def NRel (w : World) (p b o cap : Nat) (ts : List Tok) (h : Nat) (y : Sx.Ex) (k' : Nat) (wr : World) : Prop :=
  ∃ kk nn mm sa sn sc ll, y = .mk kk nn mm ll ∧ Bx wr h (.int .i64 kk) (.string ⟨(nn : List UInt8).toArray⟩) (.int .i64 mm) (.slice sa sn sc) ∧ ExS (fun g => w.heap.size < g ∧ g ≠ h) wr (.slice sa sn sc) ll ∧
    Bx wr w.heap.size (.int .i64 0) (.string ⟨#[]⟩) (.int .i64 0) (.slice none 0 0) ∧ Rd wr p b o cap ts k' ∧ k' < ts.length ∧ Mov p w wr
/-- Where the loop of bound stands. -/
def LRel (w : World) (p b o cap : Nat) (ts : List Tok) (q d h f : Nat) (r : Sx.Rs) (gk : Nat) (wr : World) : Prop :=
  ∃ y k', NRel w p b o cap ts h y k' wr ∧ Sx.lp ts gk q d y k' = some r ∧ gk ≤ f
/-- Two are put together in block h. -/
theorem NRel.two {w W w4 : World} {p b o cap : Nat} {ts : List Tok} {h : Nat} {k4 : Nat} {kk mm kk' mm' : Int} {nn nn' sg : List UInt8} {sa sa' : Option Addr} {sn sc sn' sc' : Nat} {ll ll' : List Sx.Ex} (t : TypeId)
    (B : Bx W h (.int .i64 kk) (.string ⟨nn.toArray⟩) (.int .i64 mm) (.slice sa sn sc)) (X : ExS (fun g => w.heap.size < g ∧ g ≠ h) W (.slice sa sn sc) ll) (R : Bx W w.heap.size (.int .i64 0) (.string ⟨#[]⟩) (.int .i64 0) (.slice none 0 0)) (M : Mov p w W)
    (X4 : ExS (fun g => W.heap.size ≤ g) w4 (.slice sa' sn' sc') ll') (rd4 : Rd w4 p b o cap ts k4) (hk4 : k4 < ts.length) (m4 : Mov p W w4) (hp : p < w.heap.size) (hb : b < w.heap.size) (hh : w.heap.size < h) :
    NRel w p b o cap ts h (.mk 6 sg 0 [.mk kk nn mm ll, .mk kk' nn' mm' ll']) k4 ((fill w4 h (.int .i64 6) (.string ⟨sg.toArray⟩) (.int .i64 0) (.slice (some ⟨w4.heap.size, 0, none⟩) 2 2)).alloc (.cells #[.int .i64 kk, .string ⟨nn.toArray⟩, .int .i64 mm, .slice sa sn sc, .int .i64 kk', .string ⟨nn'.toArray⟩, .int .i64 mm', .slice sa' sn' sc'] t)) := by
  have B4 := B.mov m4 (by omega)
  have z4 : h < w4.heap.size := B4.lt
  refine ⟨_, _, _, _, _, _, _, rfl, (B4.fill _ _ _ _).later (box_below _ _) (by rw [fill_size]; exact z4), ?_, ((R.mov m4 (by omega)).filled (by omega) _ _ _ _).later (box_below _ _) (by rw [fill_size]; omega), (rd4.fill (by omega) (by omega) _ _ _ _).later (box_below _ _), hk4, ((M.trans m4).fill (by omega) _ _ _ _).alloc _⟩
  exact (X.mov m4 (fun e => by omega)).two' (X4.mono fun g _ hg => ⟨Nat.lt_of_lt_of_le R.lt hg, fun e => by have := B.lt; omega⟩) ⟨by omega, by omega⟩ (fun e => e.2 rfl) _ _ _ _ _ _ _ _ _ _ _
end Go.Proofs.Ythadpkmbbimleaa

namespace Go.Proofs.Ythadpkmbbimleaa
open Go.RowKit

/-- But for blocks of D nothing that was there has changed. -/
structure Keep (D : Nat → Prop) (w w' : World) : Prop where
  os : w'.os = w.os
  tape : w'.tape = w.tape
  output : w'.output = w.output
  size : w.heap.size ≤ w'.heap.size
  block : ∀ k, k < w.heap.size → ¬ D k → w'.heap[k]? = w.heap[k]?
theorem Keep.refl (D : Nat → Prop) (w : World) : Keep D w w := ⟨rfl, rfl, rfl, Nat.le_refl _, fun _ _ _ => rfl⟩
theorem Keep.trans {D : Nat → Prop} {a b c : World} (h : Keep D a b) (k : Keep D b c) : Keep D a c :=
  ⟨k.os.trans h.os, k.tape.trans h.tape, k.output.trans h.output, Nat.le_trans h.size k.size, fun i hi hp => (k.block i (Nat.lt_of_lt_of_le hi h.size) hp).trans (h.block i hi hp)⟩
theorem Keep.mono {D D' : Nat → Prop} {w w' : World} (h : Keep D w w') (hD : ∀ g, g < w.heap.size → D g → D' g) : Keep D' w w' := ⟨h.os, h.tape, h.output, h.size, fun k hk hn => h.block k hk fun e => hn (hD k hk e)⟩
theorem Keep.cell {D : Nat → Prop} {w w' : World} (h : Keep D w w') {q : Addr} (hq : q.block < w.heap.size) (hD : ¬ D q.block) : w'.cell? q = w.cell? q := World.cell?_of_block (w := w) (h.block _ hq hD)
theorem Keep.frozen {D : Nat → Prop} {w w' : World} (h : Keep D w w') {q : Addr} (hq : q.block < w.heap.size) (hD : ¬ D q.block) : w'.frozen? q = w.frozen? q := World.frozen?_of_block (w := w) (h.block _ hq hD)
theorem Keep.of_mov {p : Nat} {w w' : World} (h : Mov p w w') : Keep (fun g => g = p) w w' := ⟨h.os, h.tape, h.output, h.size, fun k hk hn => h.block k hk hn⟩
theorem Keep.of_below {D : Nat → Prop} {n : Nat} {w w' : World} (h : Below n w w') (hn : w.heap.size ≤ n) : Keep D w w' := ⟨h.os, h.tape, h.output, h.size, fun k hk _ => h.block k (Nat.lt_of_lt_of_le hk hn)⟩
theorem Keep.set {D : Nat → Prop} {w w' : World} (h : Keep D w w') {a : Addr} (ha : w.heap.size ≤ a.block ∨ D a.block) (v : Value) : Keep D w (w'.setCell a v) :=
  ⟨h.os, h.tape, h.output, by simpa using h.size, fun k hk hn => (heap_setCell_other w' _ k _ (fun e => by subst e; rcases ha with ha | ha; omega; exact hn ha)).trans (h.block k hk hn)⟩
theorem Keep.alloc {D : Nat → Prop} {w w' : World} (h : Keep D w w') (o : Obj) : Keep D w (w'.alloc o) := h.trans (.of_below (box_below w' o) (Nat.le_refl _))
theorem Keep.drew {D : Nat → Prop} {w w' : World} (h : Keep D w w') : Keep D w w'.drew := ⟨h.os, h.tape, h.output, h.size, h.block⟩
theorem Keep.below {D : Nat → Prop} {w w' : World} (h : Keep D w w') (hD : ∀ g, g < w.heap.size → ¬ D g) : Below w.heap.size w w' := ⟨h.os, h.tape, h.output, h.size, fun k hk => h.block k hk (hD k hk)⟩

/-- Whatever is attempted: what the closure F over c comes to in the world behind two boxes. -/
def w2box (w : World) : World := (w.alloc (.cells #[.int .i64 0] 3)).alloc (.cells #[.int .i64 0] 57)
end Go.Proofs.Ythadpkmbbimleaa
