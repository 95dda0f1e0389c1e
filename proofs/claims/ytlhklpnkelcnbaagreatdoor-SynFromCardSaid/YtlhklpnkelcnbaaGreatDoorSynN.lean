/- Layer 3: the writer of expressions. -/
import Derived.Test.YtlhklpnkelcnbaaGreatDoorSynM
namespace Go.Proofs.YtlhklpnkelcnbaaGreatDoor
open Go.RowKit

def tb (l : List UInt8) : ByteArray := ⟨l.toArray⟩
theorem Tab.low {B : Nat} {w w' : World} (h : Tab w) (hb : Below B w w') (hg : 2 < B) : Tab w' := ⟨var?_below hb gPow hg h.1, Nat.lt_of_lt_of_le h.2 hb.size⟩
theorem two_cell_s (w : World) (x y : ByteArray) (t : TypeId) : ∀ (j : Nat) u, [Value.string x, Value.string y][j]? = some u → (w.alloc (.cells #[.string x, .string y] t)).cell? ((⟨w.heap.size, 0, none⟩ : Addr).add j) = some u := by
  intro j u hj
  match j, hj with
  | 0, hj => simp at hj; subst hj; simp [Addr.add]
  | 1, hj => simp at hj; subst hj; simp [Addr.add]
theorem put1 (q dp : Nat) (v : Value) (xs : List ByteArray) (x : ByteArray) (w : World) (h : Wr w q v xs dp) (hn : xs.length + 1 ≤ 1000000) (t : TypeId) (b : Nat) (hb : w.heap.size = b) :
    Calls Tryz.prog 38 #[.pointer (some ⟨q, 0, none⟩), .slice (some ⟨b, 0, none⟩) 1 1] (w.alloc (.cells #[.string x] t)) fun e w' => e = .returned (.tuple #[]) ∧ ∃ v', Wr w' q v' (xs ++ [x]) dp ∧ WS q w v w' v' := by
  subst hb
  refine (put_any q dp v xs [x] w.heap.size 1 (w.alloc (.cells #[.string x] t)) (h.later (box_below _ _)) hn (one_cell_s w x t)).mono ?_
  rintro e w' ⟨he, v', W', S'⟩
  exact ⟨he, v', W', (WS.of_below (Nat.le_of_lt h.lt) (box_below w _)).trans S'⟩
theorem put2 (q dp : Nat) (v : Value) (xs : List ByteArray) (x y : ByteArray) (w : World) (h : Wr w q v xs dp) (hn : xs.length + 2 ≤ 1000000) (t : TypeId) (b : Nat) (hb : w.heap.size = b) :
    Calls Tryz.prog 38 #[.pointer (some ⟨q, 0, none⟩), .slice (some ⟨b, 0, none⟩) 2 2] (w.alloc (.cells #[.string x, .string y] t)) fun e w' => e = .returned (.tuple #[]) ∧ ∃ v', Wr w' q v' (xs ++ [x, y]) dp ∧ WS q w v w' v' := by
  subst hb
  refine (put_any q dp v xs [x, y] w.heap.size 2 (w.alloc (.cells #[.string x, .string y] t)) (h.later (box_below _ _)) hn (two_cell_s w x y t)).mono ?_
  rintro e w' ⟨he, v', W', S'⟩
  exact ⟨he, v', W', (WS.of_below (Nat.le_of_lt h.lt) (box_below w _)).trans S'⟩
theorem ExS.ws {q : Nat} {w w' : World} {v v' : Value} {sl : Value} {l : List Sx.Ex} (h : ExS (fun g => g < q) w sl l) (s : WS q w v w' v') : ExS (fun g => g < q) w' sl l :=
  h.keep (fun _ _ a => a) (fun _ ha _ => World.cell?_of_block (w := w) (s.low _ ha)) s.size
/-- Where a call of the writer stands, whose own box is block g. -/
structure In (q g : Nat) (w0 : World) (v0 : Value) (k : Int) (n : List UInt8) (m : Int) (sl : Value) (l : List Sx.Ex) (w : World) (v : Value) (xs : List ByteArray) (dp : Nat) : Prop where
  wr : Wr w q v xs dp
  ws : WS q w0 v0 w v
  bx : Bx w g (.int .i64 k) (.string ⟨n.toArray⟩) (.int .i64 m) sl
  fr : Frn q w v g
  ex : ExS (fun g => g < q) w sl l
  tab : Tab w
theorem In.step {q g : Nat} {w0 : World} {v0 : Value} {k : Int} {n : List UInt8} {m : Int} {sl : Value} {l : List Sx.Ex} {w : World} {v : Value} {xs : List ByteArray} {dp : Nat} (h : In q g w0 v0 k n m sl l w v xs dp) (hg : 2 < q) {w' : World} {v' : Value} {xs' : List ByteArray} {dp' : Nat} (W : Wr w' q v' xs' dp') (S : WS q w v w' v') : In q g w0 v0 k n m sl l w' v' xs' dp' :=
  ⟨W, h.ws.trans S, h.bx.far S h.fr, S.frn h.fr, h.ex.ws S, h.tab.low S.below hg⟩
theorem In.new {q : Nat} {k : Int} {n : List UInt8} {m : Int} {sl : Value} {l : List Sx.Ex} {w : World} {v : Value} {xs : List ByteArray} {dp : Nat} (W : Wr w q v xs dp) (X : ExS (fun g => g < q) w sl l) (T : Tab w) :
    In q w.heap.size w v k n m sl l (w.alloc (.cells #[.int .i64 k, .string ⟨n.toArray⟩, .int .i64 m, sl] 25)) v xs dp :=
  ⟨W.later (box_below _ _), WS.of_below (Nat.le_of_lt W.lt) (box_below _ _), Bx.new _ _ _ _ _ _, W.frn _ _ (by decide), X.later (box_below _ _) (Nat.le_refl _), T.later (box_below _ _) (Nat.le_refl _)⟩
/-- What is asked of the writer's expr. -/
def XC (q f : Nat) : Prop := ∀ (k : Int) (n : List UInt8) (m : Int) (sa : Option Addr) (sn sc : Nat) (l : List Sx.Ex) (d : Nat) (ws : List (List UInt8)) (e : Nat) (v : Value) (xs : List ByteArray) (dp : Nat) (w : World), Tab w → Wr w q v xs dp → ExS (fun g => g < q) w (.slice sa sn sc) l → d + 2 * f ≤ 1000000 → Sx.wx f (.mk k n m l) d = some (ws, e) → xs.length + ws.length ≤ 1000000 →
  Calls Tryz.prog 20 #[.pointer (some ⟨q, 0, none⟩), .agg #[.int .i64 k, .string ⟨n.toArray⟩, .int .i64 m, .slice sa sn sc], .int .i64 (d : Int)] w fun e' w' => e' = .returned (.tuple #[]) ∧ ∃ v', Wr w' q v' (xs ++ ws.map tb) (max dp e) ∧ WS q w v w' v'
def OC (q f : Nat) : Prop := ∀ (k : Int) (n : List UInt8) (m : Int) (sa : Option Addr) (sn sc : Nat) (l : List Sx.Ex) (d : Nat) (ws : List (List UInt8)) (e : Nat) (v : Value) (xs : List ByteArray) (dp : Nat) (w : World), Tab w → Wr w q v xs dp → ExS (fun g => g < q) w (.slice sa sn sc) l → d + 1 + 2 * f ≤ 1000000 →
  (if k = 6 then (match Sx.wx f (.mk k n m l) (d + 1) with
    | some (t, e) => some ([[40]] ++ t ++ [[41]], e)
    | none => none) else Sx.wx f (.mk k n m l) d) = some (ws, e) → xs.length + ws.length ≤ 1000000 →
  Calls Tryz.prog 41 #[.pointer (some ⟨q, 0, none⟩), .agg #[.int .i64 k, .string ⟨n.toArray⟩, .int .i64 m, .slice sa sn sc], .int .i64 (d : Int)] w fun e' w' => e' = .returned (.tuple #[]) ∧ ∃ v', Wr w' q v' (xs ++ ws.map tb) (max dp e) ∧ WS q w v w' v'
set_option maxRecDepth 100000 in
set_option maxHeartbeats 1000000 in
theorem operand_any (q f : Nat) (hg : 2 < q) (hX : XC q f) : OC q f := by
  intro k n m sa sn sc l d ws e v xs dp w ht hw hx hd hr hn
  have HX : Hid (XC q f) := hX
  have HG : Hid (2 < q) := hg
  have I0 : Hid _ := In.new (k := k) (n := n) (m := m) hw hx ht
  by_cases k6 : k = 6
  · subst k6
    rw [if_pos rfl] at hr
    cases hq : Sx.wx f (.mk 6 n m l) (d + 1) with
    | none => rw [hq] at hr; cases hr
    | some te =>
      obtain ⟨t, e1⟩ := te
      rw [hq] at hr
      have hr := Option.some.inj hr
      obtain ⟨rfl, rfl⟩ := Prod.mk.inj hr
      have HQ : Hid (Sx.wx f (.mk 6 n m l) (d + 1) = some (t, e1)) := hq
      have HN : Hid (xs.length + ([[40]] ++ t ++ [[41]]).length ≤ 1000000) := hn
      have HD : Hid (d + 1 + 2 * f ≤ 1000000) := hd
      have hw1 : IntKind.i64.wrap ((d : Int) + 1) = (d : Int) + 1 := by rw [IntKind.wrap_i64]; omega
      obtain ⟨c0, c1, c2, c3, -, -, -, -, zt⟩ := I0.out.bx
      clear hq hr hn hd ht hw hx hX hg
      go_enter Tryz.func41, Tryz.ntmps41
      go_wp2_with fail
      refine (put1 q dp v xs (tb [40]) _ I0.out.wr (by have := HN.out; simp at this; omega) _ _ (by simp)).mono ?_
      rintro e w1 ⟨rfl, v1, W1, S1⟩
      have I1 : Hid _ := I0.out.step HG.out W1 S1
      clear W1 S1 c0 c1 c2 c3 zt
      obtain ⟨c0, c1, c2, c3, -, -, -, -, zt⟩ := I1.out.bx
      go_wp2_with fail
      refine (HX.out 6 n m sa sn sc l (d + 1) t e1 v1 _ dp w1 I1.out.tab I1.out.wr I1.out.ex HD.out HQ.out (by have := HN.out; simp at this ⊢; omega)).mono ?_
      rintro e w2 ⟨rfl, v2, W2, S2⟩
      have I2 : Hid _ := I1.out.step HG.out W2 S2
      clear W2 S2 c0 c1 c2 c3 zt
      go_wp2_with fail
      refine (put1 q _ v2 _ (tb [41]) _ I2.out.wr (by have := HN.out; simp at this ⊢; omega) _ _ rfl).mono ?_
      rintro e w3 ⟨rfl, v3, W3, S3⟩
      have PB : Hid _ := (I2.out.step HG.out W3 S3)
      clear W3 S3
      go_wp2_with fail
      go_end0
      refine ⟨rfl, v3, ?_, PB.out.ws⟩
      have e := PB.out.wr
      simp only [List.append_assoc] at e
      simpa using e
  · rw [if_neg k6] at hr
    have HQ : Hid (Sx.wx f (.mk k n m l) d = some (ws, e)) := hr
    have HN : Hid (xs.length + ws.length ≤ 1000000) := hn
    have HD : Hid (d + 1 + 2 * f ≤ 1000000) := hd
    have b6 : (k != 6) = true := by simpa using k6
    obtain ⟨c0, c1, c2, c3, -, -, -, -, zt⟩ := I0.out.bx
    clear hr hn hd ht hw hx hX hg k6
    go_enter Tryz.func41, Tryz.ntmps41
    go_wp2_with fail
    refine (HX.out k n m sa sn sc l d ws e v _ dp _ I0.out.tab I0.out.wr I0.out.ex (by have := HD.out; omega) HQ.out HN.out).mono ?_
    rintro e w2 ⟨rfl, v2, W2, S2⟩
    have PB : Hid _ := (⟨W2, I0.out.ws.trans S2⟩ : Wr w2 q v2 (xs ++ ws.map tb) _ ∧ WS q w v w2 v2)
    clear W2 S2
    go_wp2_with fail
    first | go_end0 | refine bodyPost_ret (results_none rfl _ _ _) rfl ?_
    exact ⟨rfl, v2, PB.out⟩
end Go.Proofs.YtlhklpnkelcnbaaGreatDoor
