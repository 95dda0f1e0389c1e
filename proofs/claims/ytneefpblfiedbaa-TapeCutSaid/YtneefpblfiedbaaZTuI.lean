/- Layer 13: bytes, be they none, behind a row (for the document's WriteTrace). -/
/- Layer 13: the document's WriteTrace. -/
/- Layer 13: the document's three numbers of a tick. -/
/- Layer 13, plain: the document's three numbers are the program's tick. -/
/- Layer 13: the document's trace while it is read: its box, and three rows apart. -/
import Derived.Test.YtneefpblfiedbaaZTuD
import Derived.Test.YtneefpblfiedbaaZTtI1
import Derived.Test.YtneefpblfiedbaaZTtT
import Derived.Test.YtneefpblfiedbaaZTpF
namespace Go.Proofs.Ytneefpblfiedbaa
open Go.RowKit
set_option linter.unusedVariables false
set_option linter.unusedSimpArgs false
set_option maxRecDepth 100000
theorem addTu {b o n : Nat} : (⟨b, o, none⟩ : Addr).add n = ⟨b, o + n, none⟩ := by unfold Addr.add; split <;> simp_all
/-- Bytes, be they none, behind a row of bytes. -/
theorem wp_app_by {V : World} {o : Oper} {a : Act} {K : Act → World → Prop} {Q : Exit → Act → World → Prop} (s x : Operand)
    (ho : o.op = .call { callee := .builtin .append, args := #[s, x], argTypes := #[27, 27] })
    (base : Nat) (v : Value) (ys : List Int) (hs : a.eval s = v) (hown : OwB V base v ys)
    (ad : Option Addr) (n c : Nat) (l : List Int) (hx : a.eval x = .slice ad n c) (hn : n = l.length) {B : Nat} (he : ByS B V ad l)
    (hl : ys.length + n ≤ 10000000) (hbase : base ≤ V.heap.size)
    (h : ∀ v' w', OwB w' base v' (ys ++ l) → Below base V w' → (∀ k, k < V.heap.size → v.ownBlock ≠ some k → w'.heap[k]? = V.heap[k]?) → K (a.put o.dst v') w') : o.wp Try.prog a V K Q := by
  obtain ⟨i0, hi, hz0, hz1, hz2⟩ := infoB'
  by_cases h0 : n = 0
  · subst h0
    have hl0 : l = [] := List.eq_nil_of_length_eq_zero hn.symm
    subst hl0
    have hr : (Builtin.append_ #[27, 27] o.type #[v, .slice ad 0 c]).run Try.prog V = .ok v V := by
      rcases hown.2 with ⟨rfl, -⟩ | ⟨g, cap, cur, rfl, -, -, hk, -⟩
      · cases ad <;> simp [Builtin.append_, run_underlying Try.underlying27, sizeOf, run_typeInfo V hi, storeCells, go_sem]
      · cases ad <;> simp [Builtin.append_, run_underlying Try.underlying27, sizeOf, run_typeInfo V hi, storeCells, go_sem, hk]
    unfold Oper.wp execOp
    simp only [ho, resolve, invoke, builtin, Sem.run_bind, Sem.run_pure, Result.andThen_ok, List.map_toArray, List.map_cons, List.map_nil, hs, hx, hr]
    exact h _ _ (by rw [List.append_nil]; exact hown) (Below.refl _ _) (fun _ _ _ => rfl)
  · obtain ⟨g, of, rfl, hg, cs⟩ := he (by omega)
    have H63 := OwB.len63 (show ys.length + n ≤ 200000000 by omega)
    refine wp_append_own_wide V s x 27 ho base 5 i0 (.int .u8 0) 1 1 Try.underlying27 hi hz0 hz1 hz2 rfl (by decide) v ys.length (byC ys) hs hown ⟨g, of, none⟩ n c (byC l) hx (by rw [byC_len, hn, Nat.mul_one]) (fun j u hu => ?_) (byC_one _) H63.1 H63.2 hbase ?_
    · unfold byC at hu
      rw [List.getElem?_map] at hu
      obtain ⟨y, hy, rfl⟩ := Option.map_eq_some_iff.1 hu
      rw [addTu]
      exact cs j y hy
    · intro v' w' h1 h2 h3
      exact h v' w' (OwB.of h1 (by rw [hn])) (OwB.below' hown hbase h2) (fun k hk hne => h2.block k hk (fun e => hne e.symm))
theorem wpList_app_by {V : World} {ops : Array Oper} {rest : List Oper} {o : Oper} {a : Act} {Q : Exit → Act → World → Prop} (hgd : o.guard = none) (s x : Operand)
    (ho : o.op = .call { callee := .builtin .append, args := #[s, x], argTypes := #[27, 27] })
    (base : Nat) (v : Value) (ys : List Int) (hs : a.eval s = v) (hown : OwB V base v ys)
    (ad : Option Addr) (n c : Nat) (l : List Int) (hx : a.eval x = .slice ad n c) (hn : n = l.length) {B : Nat} (he : ByS B V ad l)
    (hl : ys.length + n ≤ 10000000) (hbase : base ≤ V.heap.size)
    (h : ∀ v' w', OwB w' base v' (ys ++ l) → Below base V w' → (∀ k, k < V.heap.size → v.ownBlock ≠ some k → w'.heap[k]? = V.heap[k]?) → wpList Try.prog ops Q rest (a.put o.dst v') w') : wpList Try.prog ops Q (o :: rest) a V :=
  wpList_plain hgd fun _ hK => wp_app_by s x ho base v ys hs hown ad n c l hx hn he hl hbase fun v' w' h1 h2 h3 => hK _ _ (h v' w' h1 h2 h3)
end Go.Proofs.Ytneefpblfiedbaa

namespace Go.Proofs.Ytneefpblfiedbaa
open Go.RowKit
set_option linter.unusedVariables false
set_option linter.unusedSimpArgs false
set_option maxRecDepth 100000
/-- A nought that stands in a block of its own. -/
def ZC (W : World) (a : Nat) : Prop := W.cell? ⟨a, 0, none⟩ = some (.int .u8 0) ∧ a < W.heap.size
theorem ZC.new (w : World) (T : TypeId) : ZC (w.alloc (.cells #[.int .u8 0] T)) w.heap.size := ⟨by simp, by simp⟩
theorem ZC.later {w w' : World} {a : Nat} (h : ZC w a) (b : Below w.heap.size w w') : ZC w' a := ⟨(b.cell (p := ⟨a, 0, none⟩) h.2).trans h.1, Nat.lt_of_lt_of_le h.2 b.size⟩
theorem ZC.app {w w' : World} {a : Nat} {v : Value} (h : ZC w a) (u : ∀ k, k < w.heap.size → v.ownBlock ≠ some k → w'.heap[k]? = w.heap[k]?) (s : w.heap.size ≤ w'.heap.size) (n : v.ownBlock ≠ some a) : ZC w' a :=
  ⟨by have e := u a h.2 n; have h1 := h.1; unfold World.cell? at h1 ⊢; simp only [e]; exact h1, Nat.lt_of_lt_of_le h.2 s⟩
theorem ZC.bys {w : World} {a : Nat} (h : ZC w a) : ByS w.heap.size w (some ⟨a, 0, none⟩) [0] := fun _ => ⟨a, 0, rfl, h.2, fun j x hx => by
  match j, hx with
  | 0, hx => simp at hx; subst hx; exact h.1⟩
set_option maxRecDepth 100000 in
set_option maxHeartbeats 4000000 in
theorem rWriteTr_any (t : Tp.Tr) (ta ca ea : Option Addr) (tc cc ec : Nat) (w : World) (h : TrS w.heap.size w ta ca ea tc cc ec t) (m1 : t.ticks.length ≤ 3000) (m2 : t.counts.length ≤ 3000) (m3 : t.events.length ≤ 3000) :
    Calls Try.prog 10 #[trV ta ca ea tc cc ec t] w (wtQ t w) := by
  obtain ⟨i0, hi, hz0, hz1, hz2⟩ := infoB'
  have ER := hidT (fun (W : World) (q : Below w.heap.size w W) => rRight_any t ta ca ea tc cc ec W (h.later q (Nat.le_refl _)) q.size m1 m2 m3)
  have EP := hidT (fun (W : World) (q : Below w.heap.size w W) (hr : RgT t) => rRecords_any t ta ca ea tc cc ec W (h.later q (Nat.le_refl _)) q.size hr m1 m3)
  have HB := hidT (fun (hr : RgT t) => bodyT_byt t hr (fun x hx => (h.re x hx).2))
  have HL0 := hidT (fun (hr : Tp.rightT t = true) => bodyT_len t hr m1 m3)
  unfold trV at ER EP ⊢
  obtain ⟨n1, h1⟩ : ∃ n, n = t.ticks.length := ⟨_, rfl⟩
  obtain ⟨n2, h2⟩ : ∃ n, n = t.counts.length := ⟨_, rfl⟩
  obtain ⟨n3, h3⟩ : ∃ n, n = t.events.length := ⟨_, rfl⟩
  rw [← h1] at ER EP ⊢
  rw [← h2] at ER EP ⊢
  rw [← h3] at ER EP ⊢
  obtain ⟨W0, hW0⟩ : ∃ W, W = w.alloc (.cells #[.slice ta n1 tc, .slice ca n2 cc, .slice ea n3 ec] 26) := ⟨_, rfl⟩
  have K0 : Hid (Below w.heap.size w W0) := by rw [hW0]; exact (Below.refl _ _).alloc (Nat.le_refl _) _
  have hb0 : W0.heap[w.heap.size]? = some (.cells #[.slice ta n1 tc, .slice ca n2 cc, .slice ea n3 ec] 26 (0, 0)) := by rw [hW0]; exact heap_alloc_new w _
  have hs0 : W0.heap.size = w.heap.size + 1 := by rw [hW0]; simp
  have HS0 := hidT hs0
  obtain ⟨M, hM⟩ : ∃ M, M = w.heap.size := ⟨_, rfl⟩
  have HCel : Hid (∀ W, Below W0.heap.size W0 W → W.cell? ⟨M, 0, none⟩ = some (.slice ta n1 tc) ∧ W.cell? ⟨M, 1, none⟩ = some (.slice ca n2 cc) ∧ W.cell? ⟨M, 2, none⟩ = some (.slice ea n3 ec)) := fun W q => by
    have hw : W.heap[M]? = some (.cells #[.slice ta n1 tc, .slice ca n2 cc, .slice ea n3 ec] 26 (0, 0)) := by rw [hM]; exact (q.block w.heap.size (by omega)).trans hb0
    refine ⟨?_, ?_, ?_⟩ <;> simp [World.cell?, hw]
  obtain ⟨a0, a1, a2⟩ := HCel.out W0 (Below.refl _ _)
  have HMM := hidT hM
  have ER0 := hidT (ER.out W0 K0.out)
  clear h h1 h2 h3 m1 m2 m3 hb0 hs0
  cases hr : Tp.rightT t with
  | false =>
    rw [hr] at ER0
    have HQ : Hid (∀ e w', wtQ t w e w' = (e = .returned (.tuple #[.slice none 0 0, .int .i64 32]) ∧ Below w.heap.size w w')) := fun e w' => by unfold wtQ; rw [if_neg (by rw [hr]; decide)]
    have hq : wtQ t w = fun e w' => (e = .returned (.tuple #[.slice none 0 0, .int .i64 32]) ∧ Below w.heap.size w w') := by funext e w'; exact HQ.out e w'
    rw [hq]
    clear hr hq HQ
    go_enter Try.func10, Try.ntmps10
    go_upto_region 1 with fail
    rw [← hW0, ← hM]
    clear hW0 hM
    go_wp2_with fail
    refine ER0.out.mono ?_
    rintro e w1 ⟨rfl, k1⟩
    have K1 := hidT (K0.out.trans (k1.mono K0.out.size))
    clear k1
    go_wp2_with fail
    go_ret2
    exact ⟨rfl, K1.out⟩
  | true =>
    have hrg := right_rg hr
    have HRG := hidT hrg
    have HL := hidT (HL0.out hr)
    rw [hr] at ER0
    have hq : wtQ t w = WrQ w (Tp.wt t) := by funext e w'; unfold wtQ; rw [if_pos hr]
    rw [hq]
    clear hr hq hrg
    go_enter Try.func10, Try.ntmps10
    go_upto_region 1 with fail
    rw [← hW0, ← hM]
    clear hW0 hM
    go_wp2_with fail
    refine ER0.out.mono ?_
    rintro e w1 ⟨rfl, k1⟩
    have J1 := hidT k1
    have K1 := hidT (K0.out.trans (k1.mono K0.out.size))
    clear k1
    go_wp2_with fail
    obtain ⟨rc, hrc⟩ : ∃ l, l = Tp.recs t.events t.ticks t.counts 0 := ⟨_, rfl⟩
    have HBd : Hid (Tp.bodyT t = (Tp.head 2 ++ rc) ++ [0]) := by unfold Hid Tp.bodyT; rw [hrc, List.append_assoc]
    have HLL : Hid ((Tp.head 2).length + rc.length ≤ 10000000 ∧ (Tp.head 2 ++ rc).length + 1 ≤ 10000000) := by
      have := HL.out
      rw [HBd.out] at this
      unfold Hid
      simp only [List.length_append, List.length_cons, List.length_nil] at this ⊢
      omega
    have EP1 := hidT (fun (W : World) (q : Below w.heap.size w W) => EP.out W q HRG.out)
    rw [← hrc] at EP1
    obtain ⟨L, hL⟩ : ∃ L, L = Tp.head 2 ++ rc := ⟨_, rfl⟩
    have HLe := hidT hL
    rw [← hL] at HBd HLL
    clear hL
    clear EP hrc
    go_cut [4] from 8 to 13 (fun s4 wx => Hid (OwB wx w1.heap.size s4 (L ++ [0]) ∧ Below w1.heap.size w1 wx))
    case first =>
      obtain ⟨a0, a1, a2⟩ := HCel.out w1 J1.out
      go_region_held3 (fun X => X.cell? ⟨M, 0, none⟩ = some (.slice ta n1 tc) ∧ X.cell? ⟨M, 1, none⟩ = some (.slice ca n2 cc) ∧ X.cell? ⟨M, 2, none⟩ = some (.slice ea n3 ec)) (first | (exact ⟨a0, a1, a2⟩) | go_keep) (first
        | (go_at_call 19; refine Calls.mono (rHead_any 2 _) ?_; rintro e5 w5 ⟨v5, rfl, o5, k5⟩; have kk5 := Below.trans (by go_grown : Below w1.heap.size w1 _) (k5.mono (by go_size)); (first | (have Z5 := ZC.later (a := w1.heap.size) ⟨by first | (simp; done) | fail, by first | (simp; done) | fail⟩ k5) | skip); have B5 := hidT kk5; obtain ⟨va5, vc5, rfl⟩ := ownShT o5; have LO5 := hidT (fun k (e : Value.ownBlock _ = some k) => World.ownsRow.lt o5 k e); have O5 : Hid (OwB w5 w1.heap.size (.slice va5 (Tp.head 2).length vc5) (Tp.head 2)) := World.ownsRow.mono o5 (by go_size); obtain ⟨a0, a1, a2⟩ := HCel.out w5 (J1.out.trans (B5.out.mono J1.out.size)); clear o5 k5 kk5)
        | (go_at_call 20; refine Calls.mono (EP1.out _ (K1.out.trans ((B5.out.trans ((by go_grown : Below w5.heap.size w5 _).mono B5.out.size)).mono K1.out.size))) ?_; rintro e6 w6 ⟨v6, rfl, o6, k6⟩; have kk6 := Below.trans (by go_grown : Below w5.heap.size w5 _) (k6.mono (by go_size)); (first | (have Z6 := Z5.later kk6) | (have Z6 := ZC.later (a := w5.heap.size) ⟨by first | (simp; done) | fail, by first | (simp; done) | fail⟩ k6) | skip); have K6 := hidT (B5.out.trans (kk6.mono B5.out.size)); have O6 := hidT (ownLtT O5.out kk6); have S56 : Hid (w5.heap.size ≤ w6.heap.size) := kk6.size; obtain ⟨va6, vc6, rfl⟩ := ownShT o6; have BY6 := hidT (OwB.bys o6); obtain ⟨a0, a1, a2⟩ := HCel.out w6 (J1.out.trans (K6.out.mono J1.out.size)); clear o6 k6 kk6)
        | ((first | rw [if_pos (by rfl)] | skip); refine wp_app_by _ _ rfl w1.heap.size _ (Tp.head 2) rfl (ownLtT O6.out (by go_grown)) _ _ _ rc rfl rfl (BY6.out.later (by go_grown : Below w6.heap.size w6 _) (Nat.le_refl _)) HLL.out.1 (Nat.le_trans K6.out.size (by go_size)) ?_; intro v8 w8 o8 k8 u8; rw [← HLe.out] at o8; (first | (have Z8 := ZC.app (Z6.later (by go_grown)) u8 k8.size (fun e => by have h1 := LO5.out _ e; have h2 := S56.out; (first | (simp at h1; done) | (simp at h1; omega) | fail))) | (have Z8 := ZC.app (Z6.later (by go_grown)) u8 k8.size (fun e => by have h1 := LO5.out _ e; have h2 := S56.out; (first | (simp at h1; done) | fail))) | (have Z8 := ZC.app (a := w6.heap.size) ⟨by first | (simp; done) | fail, by first | (simp; done) | fail⟩ u8 k8.size (fun e => by have h1 := LO5.out _ e; have h2 := S56.out; (first | omega | fail))) | skip); have K8 := hidT (K6.out.trans (Below.trans ((by go_grown : Below w6.heap.size w6 _).mono K6.out.size) k8)); obtain ⟨va8, vc8, rfl⟩ := ownShT o8; have O8 := hidT o8; obtain ⟨a0, a1, a2⟩ := HCel.out w8 (J1.out.trans (K8.out.mono J1.out.size)); clear o8 k8 u8)
        | ((first | rw [if_pos (by rfl)] | skip); refine wp_app_by _ _ rfl w1.heap.size _ L rfl (ownLtT O8.out (by go_grown)) _ _ _ [0] rfl rfl (ZC.bys (by first | exact Z8 | exact ⟨by first | (simp; done) | fail, by first | (simp; done) | fail⟩)) HLL.out.2 (Nat.le_trans K8.out.size (by go_size)) ?_; intro v9 w9 o9 k9 u9; have F := hidT (And.intro o9 (K8.out.trans (Below.trans ((by go_grown : Below w8.heap.size w8 _).mono K8.out.size) k9))); obtain ⟨a0, a1, a2⟩ := HCel.out w9 (J1.out.trans (F.out.2.mono J1.out.size)); clear o9 k9 u9))
      all_goals
        go_wp2_with fail
        go_meet
        exact F.out
    case rest =>
      have F := hcut
      clear hcut a0 a1 a2
      obtain ⟨w8, hw8⟩ : ∃ W, W = wc := ⟨_, rfl⟩
      subst hw8
      obtain ⟨BT, hBT⟩ : ∃ L, L = Tp.bodyT t := ⟨_, rfl⟩
      have HWT : Hid (Tp.wt t = BT ++ Tp.sl4 (Tp.sum BT)) := by unfold Hid; rw [hBT]; rfl
      have HBL : Hid (BT.length ≤ 3000000 ∧ Tp.Byt BT) := by rw [hBT]; exact ⟨HL.out, HB.out HRG.out⟩
      have O8 := hidT F.out.1
      rw [← HBd.out, ← hBT] at O8
      have K8 := hidT (K1.out.trans (F.out.2.mono K1.out.size))
      have S8 : Hid (w1.heap.size ≤ w8.heap.size) := F.out.2.size
      obtain ⟨va8, vc8, hv8⟩ := ownShT O8.out
      subst hv8
      have EPS := hidT (rSeal_any BT va8 vc8 w8 HBL.out.2 (OwB.bys O8.out) (by have := HBL.out.1; omega))
      clear F HBd HLL EP1 hBT HLe
      go_wp2_with fail
      refine EPS.out.mono ?_
      rintro e w9 ⟨v9, rfl, o9, k9⟩
      obtain ⟨va9, vc9, hv9⟩ := ownShT o9
      subst hv9
      have BY9 := hidT (OwB.bys o9)
      have O9 := hidT (ownLtT O8.out k9)
      have K9 := hidT (K8.out.trans (k9.mono K8.out.size))
      have S9 : Hid (w1.heap.size ≤ w9.heap.size) := Nat.le_trans S8.out k9.size
      have HL9 : Hid (BT.length + (Tp.sl4 (Tp.sum BT)).length ≤ 10000000) := by
        have := HBL.out.1
        have e : (Tp.sl4 (Tp.sum BT)).length = 4 := rfl
        unfold Hid
        omega
      clear o9 k9
      go_wp2_with (at_builtin; refine wpList_app_by rfl _ _ rfl w1.heap.size _ BT rfl O9.out _ _ _ (Tp.sl4 (Tp.sum BT)) rfl rfl BY9.out HL9.out S9.out ?_)
      intro v10 w10 o10 k10 u10
      have K10 := hidT (K9.out.trans (k10.mono K1.out.size))
      have hlen : ((BT ++ Tp.sl4 (Tp.sum BT)).length : Int) ≤ 4194304 := by
        have h := HBL.out.1
        rw [List.length_append]
        have : (Tp.sl4 (Tp.sum BT)).length = 4 := rfl
        omega
      have O10 : Hid (OwB w10 w.heap.size v10 (BT ++ Tp.sl4 (Tp.sum BT))) := World.ownsRow.mono o10 K1.out.size
      clear o10 k10 u10 O9 BY9 HL9
      generalize BT ++ Tp.sl4 (Tp.sum BT) = R at *
      obtain ⟨va10, vc10, hv10⟩ := ownShT O10.out
      subst hv10
      obtain ⟨n9, hn9⟩ : ∃ n, n = R.length := ⟨_, rfl⟩
      have HO : Hid (OwB w10 w.heap.size (.slice va10 n9 vc10) R) := by rw [hn9]; exact O10.out
      rw [← hn9] at hlen ⊢
      have dl : decide ((4194304 : Int) < (n9 : Int)) = false := decide_eq_false (by omega)
      clear hn9 hlen O10
      go_wp2_with fail
      go_ret2
      exact ⟨_, rfl, by rw [HWT.out]; exact HO.out, K10.out⟩
end Go.Proofs.Ytneefpblfiedbaa

namespace Go.Proofs.Ytneefpblfiedbaa
open Go.RowKit
set_option linter.unusedVariables false
set_option linter.unusedSimpArgs false
def Tp.th (b : List Int) : Nat → Nat → List Int → Tp.Res (List Int)
  | 0, k, acc => .good acc k
  | g + 1, k, acc => match Tp.rdF 0 0 (b.drop k) with
    | .inr e => .bad k e
    | .inl (z, u) => if 2147483647 < z ∨ (g = 0 ∧ z = 0) then .bad k 110 else Tp.th b g (k + u) (acc ++ [(z : Int)])
def OwJ (w : World) (base : Nat) (v : Value) (l : List Int) : Prop := w.ownsRow base 3 1 v l.length (nmC l)
theorem OwJ.of {w : World} {base n : Nat} {v : Value} {l m : List Int} (h : w.ownsRow base 3 1 v n (nmC l ++ m.map (Value.int .i64))) (hn : n = l.length + m.length) : OwJ w base v (l ++ m) := by
  unfold OwJ
  rw [show nmC (l ++ m) = nmC l ++ m.map (Value.int .i64) from List.map_append, List.length_append, ← hn]
  exact h
def thQ (w : World) (e : Ending) (w' : World) : Tp.Res (List Int) → Prop
  | .bad j x => e = .returned (.tuple #[.slice none 0 0, .int .i64 (j : Int), .int .i64 x]) ∧ Below w.heap.size w w'
  | .good l j => ∃ v, e = .returned (.tuple #[v, .int .i64 (j : Int), .int .i64 0]) ∧ OwJ w' w.heap.size v l ∧ Below w.heap.size w w'
theorem infoJ : ∃ i, Try.prog.info? 3 = some i ∧ i.zero = some (.int .i64 0) ∧ i.size = 1 ∧ i.bytes = 8 := by
  have h := infoIt
  cases hx : Try.prog.info? 3 with
  | none => rw [hx] at h; cases h
  | some i => rw [hx] at h; simp at h; exact ⟨i, rfl, h.1, h.2.1, h.2.2⟩
set_option maxRecDepth 100000 in
set_option maxHeartbeats 4000000 in
theorem rThree_any (b : List Int) (a : Option Addr) (c : Nat) (k0 : Nat) (w : World) (hy : Tp.Byt b) (hm : ByS w.heap.size w a b) (hc : b.length ≤ c) (hl : b.length ≤ 4194304) (hk0 : k0 ≤ b.length) :
    Calls Try.prog 67 #[.slice a b.length c, .int .i64 k0] w fun e w' => thQ w e w' (Tp.th b 3 k0 []) := by
  obtain ⟨i0, hi, hz0, hz1, hz2⟩ := infoJ
  have EC := hidT (fun (W : World) (k : Nat) (q : Below w.heap.size w W) (hk : k ≤ b.length) => rcount_any b k a c W hy (hm.later q (Nat.le_refl _)) hc (by omega) hk)
  have HY := hidT hy
  obtain ⟨n0, hn⟩ : ∃ n, n = b.length := ⟨_, rfl⟩
  have HN := hidT hn
  obtain ⟨post, hpost⟩ : ∃ p, p = Tp.th b 3 k0 [] := ⟨_, rfl⟩
  have HP := hidT hpost
  rw [← hpost]
  rw [← hn] at EC hl hk0 ⊢
  have B0 : Hid (Below w.heap.size w w) := Below.refl _ _
  clear hm hy hc hn hpost
  go_enter Try.func67, Try.ntmps67
  go_wp2_with fail
  go_loopg [1, 7, 8] 3 (fun gk at_ v i wr => ∃ (j k : Nat) (acc : List Int), j + gk = 3 ∧ i = .int .i64 j ∧ at_ = .int .i64 k ∧ k ≤ n0 ∧ Hid (OwJ wr w.heap.size v acc) ∧ Hid (Below w.heap.size w wr) ∧ Hid (acc.length = j ∧ post = Tp.th b gk k acc))
  case atStart => exact ⟨0, k0, [], rfl, rfl, rfl, hk0, World.ownsRow_nil _ _ _ _, B0, rfl, HP⟩
  case round =>
    obtain ⟨j, k, acc, hj, rfl, rfl, hk, HO, HW, HA⟩ := hrel
    have hk' : k ≤ b.length := by rw [← HN.out]; exact hk
    obtain ⟨va, vc, hv⟩ := ownShT HO.out
    subst hv
    rcases gk with _ | gk
    · obtain rfl : j = 3 := by omega
      have HP3 : Hid (post = .good acc k) := by unfold Hid; rw [HA.out.2]; rfl
      clear hk'
      go_wp2_with fail
      go_ret3
      rw [HP3.out]
      exact ⟨_, rfl, HO.out, HW.out⟩
    · have dk : decide ((j : Int) < 3) = true := decide_eq_true (by omega)
      have dkn : decide (j < 3) = true := decide_eq_true (by omega)
      have EC1 := hidT (EC.out wr k HW.out hk)
      cases hr : Tp.rdF 0 0 (b.drop k) with
      | inr x =>
        have hx := Tp.rdF_err _ _ _ _ hr
        have qx : (x == 0) = false := by simp; omega
        rw [hr] at EC1
        dsimp only [rcV] at EC1
        have HP3 : Hid (post = .bad k x) := by unfold Hid; rw [HA.out.2]; simp only [Tp.th, hr]
        clear hr hx hk'
        go_wp2_with fail
        refine EC1.out.mono ?_
        rintro e w3 ⟨rfl, rfl⟩
        go_wp2_with fail
        go_ret3
        rw [HP3.out]
        exact ⟨rfl, HW.out⟩
      | inl p =>
        obtain ⟨z, t⟩ := p
        rw [hr] at EC1
        dsimp only [rcV] at EC1
        have ht := rdK HY.out hr hk'
        rw [← HN.out] at ht
        have HP3 : Hid (post = if 2147483647 < z ∨ (gk = 0 ∧ z = 0) then .bad k 110 else Tp.th b gk (k + t) (acc ++ [(z : Int)])) := by unfold Hid; rw [HA.out.2]; simp only [Tp.th, hr]
        have H63 : Hid (acc.length + 1 ≤ maxLen ∧ ((acc.length + 1) + (acc.length + 1) / 4 + 192) * 8 ≤ 281474976710656) := by
          have := HA.out.1
          unfold Hid maxLen
          omega
        have HWs : Hid (w.heap.size ≤ wr.heap.size) := HW.out.size
        clear hr hk'
        by_cases z1 : 2147483647 < z
        · have d1 : decide ((2147483647 : Int) < (z : Int)) = true := decide_eq_true (by omega)
          have d2 : decide (2147483647 < z) = true := decide_eq_true z1
          have HP4 : Hid (post = .bad k 110) := by unfold Hid; rw [HP3.out, if_pos (Or.inl z1)]
          clear HP3
          go_wp2_with fail
          refine EC1.out.mono ?_
          rintro e w3 ⟨rfl, rfl⟩
          go_wp2_with fail
          go_ret3
          rw [HP4.out]
          exact ⟨rfl, HW.out⟩
        · have d1 : decide ((2147483647 : Int) < (z : Int)) = false := decide_eq_false (by omega)
          have d2 : decide (2147483647 < z) = false := decide_eq_false z1
          have wz : wrap64 (z : Int) = (z : Int) := by unfold wrap64; omega
          by_cases z2 : gk = 0 ∧ z = 0
          · obtain ⟨rfl, rfl⟩ := z2
            obtain rfl : j = 2 := by omega
            have HP4 : Hid (post = .bad k 110) := by unfold Hid; rw [HP3.out, if_pos (Or.inr ⟨rfl, rfl⟩)]
            clear HP3
            go_wp2_with fail
            refine EC1.out.mono ?_
            rintro e w3 ⟨rfl, rfl⟩
            go_wp2_with fail
            go_ret3
            rw [HP4.out]
            exact ⟨rfl, HW.out⟩
          · have HP4 : Hid (post = Tp.th b gk (k + t) (acc ++ [(z : Int)])) := by unfold Hid; rw [HP3.out, if_neg (by omega)]
            have E2 : (((j : Int) == 2) && ((z : Int) == 0)) = false := by
              cases h1 : ((j : Int) == 2) with
              | false => rfl
              | true =>
                have h1' := eq_of_beq h1
                have : ¬ z = 0 := fun e => z2 ⟨by omega, e⟩
                simp; omega
            obtain ⟨q1, hq1⟩ : ∃ q, ((j : Int) == 2) = q := ⟨_, rfl⟩
            obtain ⟨q2, hq2⟩ : ∃ q, ((z : Int) == 0) = q := ⟨_, rfl⟩
            rw [hq1, hq2] at E2
            clear HP3
            cases q1 with
            | false =>
              go_wp2_with fail
              refine EC1.out.mono ?_
              rintro e w3 ⟨rfl, rfl⟩
              go_wp2_with (at_builtin; refine wpList_append_own_wide _ rfl _ _ 23 rfl w.heap.size 3 i0 (.int .i64 0) 1 8 Try.underlying23 hi hz0 hz1 hz2 rfl (by decide) _ _ _ rfl (ownLtT HO.out ((Below.refl _ _).alloc (Nat.le_refl _) _)) ⟨w3.heap.size, 0, none⟩ 1 1 [.int .i64 (z : Int)] rfl rfl (one1 _ _ _) (by intro x hx; simp at hx; subst hx; rfl) H63.out.1 H63.out.2 (by simp; exact Nat.le_trans HWs.out (Nat.le_succ _)) ?_)
              intro v8 w8 h8 g8 o8
              have O8 : Hid (OwJ w8 w.heap.size v8 (acc ++ [(z : Int)])) := OwJ.of h8 rfl
              have K8 : Hid (Below w.heap.size w w8) := HW.out.trans (((Below.refl _ w3).alloc HWs.out _).trans ⟨g8.os, g8.tape, g8.output, g8.size, fun i hi => g8.block i (by have := HWs.out; simp; omega) (fun e => by have := (World.ownsRow.lt HO.out _ e.symm).1; omega)⟩)
              clear h8 g8 o8
              go_wp2_with fail
              go_roundg gk
              case measure => omega
              case rel => exact ⟨j + 1, k + t, acc ++ [(z : Int)], by omega, by first | go_num | (exact congrArg _ (by omega)), by first | rfl | exact congrArg _ (by omega), ht, O8, K8, by simp [HA.out.1], HP4.out⟩
            | true =>
              obtain rfl : q2 = false := by simpa using E2
              go_wp2_with fail
              refine EC1.out.mono ?_
              rintro e w3 ⟨rfl, rfl⟩
              go_wp2_with (at_builtin; refine wpList_append_own_wide _ rfl _ _ 23 rfl w.heap.size 3 i0 (.int .i64 0) 1 8 Try.underlying23 hi hz0 hz1 hz2 rfl (by decide) _ _ _ rfl (ownLtT HO.out ((Below.refl _ _).alloc (Nat.le_refl _) _)) ⟨w3.heap.size, 0, none⟩ 1 1 [.int .i64 (z : Int)] rfl rfl (one1 _ _ _) (by intro x hx; simp at hx; subst hx; rfl) H63.out.1 H63.out.2 (by simp; exact Nat.le_trans HWs.out (Nat.le_succ _)) ?_)
              intro v8 w8 h8 g8 o8
              have O8 : Hid (OwJ w8 w.heap.size v8 (acc ++ [(z : Int)])) := OwJ.of h8 rfl
              have K8 : Hid (Below w.heap.size w w8) := HW.out.trans (((Below.refl _ w3).alloc HWs.out _).trans ⟨g8.os, g8.tape, g8.output, g8.size, fun i hi => g8.block i (by have := HWs.out; simp; omega) (fun e => by have := (World.ownsRow.lt HO.out _ e.symm).1; omega)⟩)
              clear h8 g8 o8
              go_wp2_with fail
              go_roundg gk
              case measure => omega
              case rel => exact ⟨j + 1, k + t, acc ++ [(z : Int)], by omega, by first | go_num | (exact congrArg _ (by omega)), by first | rfl | exact congrArg _ (by omega), ht, O8, K8, by simp [HA.out.1], HP4.out⟩
end Go.Proofs.Ytneefpblfiedbaa

namespace Go.Proofs.Ytneefpblfiedbaa
open Go.RowKit
set_option linter.unusedVariables false
set_option linter.unusedSimpArgs false
theorem Tp.th_step (b : List Int) (k : Nat) (t : Tp.Tr) (c : Int) : Tp.stepT b k t c = match Tp.th b 3 (k + 1) [] with
    | .bad j e => .bad j e
    | .good l j => match l with
      | [p, m, d] => .more ⟨t.ticks ++ [⟨c, p, m, d⟩], t.counts ++ [(t.events.length : Int)], t.events⟩ j
      | _ => .bad 0 0 := by
  cases h1 : Tp.rdF 0 0 (b.drop (k + 1)) with
  | inr e => simp [Tp.stepT, Tp.tnum, Tp.th, h1]
  | inl p =>
    obtain ⟨z, u⟩ := p
    by_cases c1 : z ≤ 2147483647
    · have n1 : ¬ 2147483647 < z := by omega
      cases h2 : Tp.rdF 0 0 (b.drop (k + 1 + u)) with
      | inr e => simp [Tp.stepT, Tp.tnum, Tp.th, h1, h2, c1, n1]
      | inl p =>
        obtain ⟨z', u'⟩ := p
        by_cases c2 : z' ≤ 2147483647
        · have n2 : ¬ 2147483647 < z' := by omega
          cases h3 : Tp.rdF 0 0 (b.drop (k + 1 + u + u')) with
          | inr e => simp [Tp.stepT, Tp.tnum, Tp.th, h1, h2, h3, c1, n1, c2, n2]
          | inl p =>
            obtain ⟨y, v⟩ := p
            by_cases c3 : 1 ≤ y ∧ y ≤ 2147483647
            · have n3 : ¬ (2147483647 < y ∨ y = 0) := by omega
              simp [Tp.stepT, Tp.tnum, Tp.th, h1, h2, h3, c1, n1, c2, n2, c3, n3]
            · have n3 : 2147483647 < y ∨ y = 0 := by omega
              simp [Tp.stepT, Tp.tnum, Tp.th, h1, h2, h3, c1, n1, c2, n2, c3, n3]
        · have n2 : 2147483647 < z' := by omega
          simp [Tp.stepT, Tp.tnum, Tp.th, h1, h2, c1, n1, c2, n2]
    · have n1 : 2147483647 < z := by omega
      simp [Tp.stepT, Tp.tnum, Tp.th, h1, c1, n1]
end Go.Proofs.Ytneefpblfiedbaa

namespace Go.Proofs.Ytneefpblfiedbaa
open Go.RowKit
set_option linter.unusedVariables false
set_option linter.unusedSimpArgs false
theorem cell_newT (W : World) (us : List Value) (e : TypeId) (j : Nat) (u : Value) (h : us[j]? = some u) : (W.alloc (.cells us.toArray e)).cell? ((⟨W.heap.size, 0, none⟩ : Addr).add j) = some u := by
  rw [addTu]
  have h0 := heap_alloc_new W (.cells us.toArray e)
  unfold World.cell?
  dsimp only
  rw [h0]
  simpa using h
/-- One more behind a row: what is put lies in the block that the world has made last. -/
theorem wp_appT {P : Program} {V : World} {o : Oper} {a : Act} {K : Act → World → Prop} {Q : Exit → Act → World → Prop} (W7 : World) (s x : Operand) (t : TypeId)
    (ho : o.op = .call { callee := .builtin .append, args := #[s, x], argTypes := #[t, t] })
    (base : Nat) (e : TypeId) (i : TypeInfo) (z : Value) (size bytes : Nat) (ht : P.underlying t = some (.slice e)) (hi : P.info? e = some i) (hz : i.zero = some z)
    (hsize : i.size = size) (hby : i.bytes = bytes) (hzs : z.cells.size = size) (h0 : 0 < size)
    (v : Value) (n : Nat) (xs : List Value) (hs : a.eval s = v) (hown : W7.ownsRow base e size v n xs) (us : List Value) (hus : us.length = size)
    (hV : V.os = W7.os ∧ V.tape = W7.tape ∧ V.output = W7.output ∧ V.heap = (W7.alloc (.cells us.toArray e)).heap)
    (hx : a.eval x = .slice (some ⟨W7.heap.size, 0, none⟩) 1 1) (h1 : ∀ u ∈ us, u.oneCell' = true)
    (h63 : n + 1 ≤ maxLen) (hbytes : (n + 1) * bytes ≤ 140737488355328) (hbase : base ≤ W7.heap.size)
    (h : ∀ v' w', w'.ownsRow base e size v' (n + 1) (xs ++ us) → Gw W7 v v' w' → K (a.put o.dst v') w') : o.wp P a V K Q := by
  obtain ⟨V1, V2, V3, V4⟩ := hV
  have hb : Below W7.heap.size W7 V := ⟨V1, V2, V3, by rw [V4]; simp, fun k hk => by rw [V4]; exact ((Below.refl W7.heap.size W7).alloc (Nat.le_refl _) _).block k hk⟩
  have hsz : V.heap.size = W7.heap.size + 1 := by rw [V4]; simp
  refine wp_append_tol s x t ho base e i z size bytes ht hi hz hsize hby hzs h0 v n xs hs (ownLtT hown hb) ⟨W7.heap.size, 0, none⟩ 1 1 us hx (by rw [hus, Nat.one_mul]) (fun j y hj => ?_) h1 h63 hbytes (by omega) (by decide) ?_
  · have := cell_newT W7 us e j y hj
    simp only [World.cell?] at this ⊢
    rw [V4]
    exact this
  · intro v8 w8 h8 g8 o8
    refine h v8 w8 h8 ⟨⟨g8.os.trans V1, g8.tape.trans V2, g8.output.trans V3, ?_, fun k hk hn => (g8.block k (by omega) hn).trans (hb.block k hk)⟩, o8.imp id fun ⟨g, h, k⟩ => ⟨g, h, by omega⟩⟩
    have := g8.size
    omega
theorem wpList_appT {P : Program} {V : World} {ops : Array Oper} {rest : List Oper} {o : Oper} {a : Act} {Q : Exit → Act → World → Prop} (hgd : o.guard = none) (W7 : World) (s x : Operand) (t : TypeId)
    (ho : o.op = .call { callee := .builtin .append, args := #[s, x], argTypes := #[t, t] })
    (base : Nat) (e : TypeId) (i : TypeInfo) (z : Value) (size bytes : Nat) (ht : P.underlying t = some (.slice e)) (hi : P.info? e = some i) (hz : i.zero = some z)
    (hsize : i.size = size) (hby : i.bytes = bytes) (hzs : z.cells.size = size) (h0 : 0 < size)
    (v : Value) (n : Nat) (xs : List Value) (hs : a.eval s = v) (hown : W7.ownsRow base e size v n xs) (us : List Value) (hus : us.length = size)
    (hV : V.os = W7.os ∧ V.tape = W7.tape ∧ V.output = W7.output ∧ V.heap = (W7.alloc (.cells us.toArray e)).heap)
    (hx : a.eval x = .slice (some ⟨W7.heap.size, 0, none⟩) 1 1) (h1 : ∀ u ∈ us, u.oneCell' = true)
    (h63 : n + 1 ≤ maxLen) (hbytes : (n + 1) * bytes ≤ 140737488355328) (hbase : base ≤ W7.heap.size)
    (h : ∀ v' w', w'.ownsRow base e size v' (n + 1) (xs ++ us) → Gw W7 v v' w' → wpList P ops Q rest (a.put o.dst v') w') : wpList P ops Q (o :: rest) a V :=
  wpList_plain hgd fun _ hK => wp_appT W7 s x t ho base e i z size bytes ht hi hz hsize hby hzs h0 v n xs hs hown us hus hV hx h1 h63 hbytes hbase fun v' w' h2 h3 => hK _ _ (h v' w' h2 h3)
structure TrA (w : World) (M : Nat) (tv cv ev : Value) (t : Tp.Tr) (wr : World) : Prop where
  hr : wr.heap[M]? = some (.cells #[.slice none 0 0, .slice none 0 0, .slice none 0 0] 26 (0, 0))
  hb : wr.heap[M + 1]? = some (.cells #[tv, cv, ev] 26 (0, 0))
  ot : wr.ownsRow (M + 2) 62 4 tv t.ticks.length (tkC t.ticks)
  oc : wr.ownsRow (M + 2) 3 1 cv t.counts.length (nmC t.counts)
  oe : wr.ownsRow (M + 2) 69 2 ev t.events.length (evC t.events)
  dtc : Apt tv cv
  dte : Apt tv ev
  dce : Apt cv ev
  bl : Below w.heap.size w wr
  lo : w.heap.size ≤ M
def TrE (w wr : World) (M : Nat) (tv cv ev : Value) (t : Tp.Tr) (W : World) : Prop :=
  (W.cell? ⟨M, 0, none⟩ = some tv ∧ W.cell? ⟨M, 1, none⟩ = some cv ∧ W.cell? ⟨M, 2, none⟩ = some ev) ∧ W.ownsRow M 62 4 tv t.ticks.length (tkC t.ticks) ∧ W.ownsRow M 3 1 cv t.counts.length (nmC t.counts) ∧ W.ownsRow M 69 2 ev t.events.length (evC t.events) ∧ Below w.heap.size w W
section
variable {w wr wq w8 : World} {M : Nat} {tv cv ev v8 : Value} {t : Tp.Tr}
theorem TrA.lt (h : TrA w M tv cv ev t wr) : M + 2 ≤ wr.heap.size := by
  have := (Array.getElem?_eq_some_iff.1 h.hb).1
  omega
theorem TrA.later (h : TrA w M tv cv ev t wr) (q : Below wr.heap.size wr wq) : TrA w M tv cv ev t wq :=
  ⟨(q.block _ (by have := h.lt; omega)).trans h.hr, (q.block _ (by have := h.lt; omega)).trans h.hb, ownLtT h.ot q, ownLtT h.oc q, ownLtT h.oe q, h.dtc, h.dte, h.dce, h.bl.trans (q.mono h.bl.size), h.lo⟩
theorem TrA.cells (h : TrA w M tv cv ev t wr) : wr.cell? ⟨M + 1, 0, none⟩ = some tv ∧ wr.cell? ⟨M + 1, 1, none⟩ = some cv ∧ wr.cell? ⟨M + 1, 2, none⟩ = some ev := by
  refine ⟨?_, ?_, ?_⟩ <;> simp [World.cell?, h.hb]
theorem TrA.resc (h : TrA w M tv cv ev t wr) : wr.cell? ⟨M, 0, none⟩ = some (.slice none 0 0) ∧ wr.cell? ⟨M, 1, none⟩ = some (.slice none 0 0) ∧ wr.cell? ⟨M, 2, none⟩ = some (.slice none 0 0) := by
  refine ⟨?_, ?_, ?_⟩ <;> simp [World.cell?, h.hr]
theorem TrA.fz (h : TrA w M tv cv ev t wr) (i : Nat) : wr.frozen? ⟨M, i, none⟩ = false := by simp [World.frozen?, h.hr]
theorem TrA.fzb (h : TrA w M tv cv ev t wr) (i : Nat) : wr.frozen? ⟨M + 1, i, none⟩ = false := by simp [World.frozen?, h.hb]
theorem TrA.start (w : World) : TrA w w.heap.size (.slice none 0 0) (.slice none 0 0) (.slice none 0 0) Tp.tr0 ((w.alloc (.cells #[.slice none 0 0, .slice none 0 0, .slice none 0 0] 26)).alloc (.cells #[.slice none 0 0, .slice none 0 0, .slice none 0 0] 26)) := by
  have nn : ∀ u : Value, Apt (.slice none 0 0) u := fun u j h => by cases h
  refine ⟨?_, ?_, World.ownsRow_nil _ _ _ _, World.ownsRow_nil _ _ _ _, World.ownsRow_nil _ _ _ _, nn _, nn _, nn _, ((Below.refl _ _).alloc (Nat.le_refl _) _).alloc (by simp) _, Nat.le_refl _⟩
  · rw [((Below.refl _ _).alloc (Nat.le_refl _) _).block _ (by simp)]
    exact heap_alloc_new w _
  · have := heap_alloc_new (w.alloc (.cells #[.slice none 0 0, .slice none 0 0, .slice none 0 0] 26)) (.cells #[.slice none 0 0, .slice none 0 0, .slice none 0 0] 26)
    simpa using this
theorem TrA.gk {v v' : Value} (h : TrA w M tv cv ev t wr) (k8 : Gw wr v v' w8) (hv : ∀ j, v.ownBlock = some j → M + 2 ≤ j) (i : Nat) (x : Value) :
    (w8.heap[M]? = wr.heap[M]? ∧ w8.heap[M + 1]? = wr.heap[M + 1]?) ∧ w8.grownBy (w8.setCell ⟨M + 1, i, none⟩ x) (some (M + 1)) ∧ Below w.heap.size w (w8.setCell ⟨M + 1, i, none⟩ x) := by
  have hl := h.lt
  have hlo := h.lo
  have q : ∀ k, k < M + 2 → w8.heap[k]? = wr.heap[k]? := fun k hk => k8.1.block k (by omega) (fun e => by have := hv k e.symm; omega)
  have s2 : w8.grownBy (w8.setCell ⟨M + 1, i, none⟩ x) (some (M + 1)) := ⟨rfl, rfl, rfl, by simp, fun j _ hn => heap_setCell_other _ _ j _ (by intro e; exact hn (by rw [e]))⟩
  refine ⟨⟨q _ (by omega), q _ (by omega)⟩, s2, h.bl.trans ⟨k8.1.os, k8.1.tape, k8.1.output, by have := k8.1.size; simp; omega, fun k hk => (s2.block k (by have := k8.1.size; have := h.bl.size; omega) (by simp; omega)).trans (q k (by omega))⟩⟩
theorem TrA.grT {n : Nat} {xs : List Value} (h : TrA w M tv cv ev t wr) (o8 : w8.ownsRow (M + 2) 62 4 v8 n xs) (k8 : Gw wr tv v8 w8) {x : Tp.Tk} (hn : n = t.ticks.length + 1) (hx : xs = tkC (t.ticks ++ [x])) : w8.cell? ⟨M + 1, 0, none⟩ = some tv ∧ w8.frozen? ⟨M + 1, 0, none⟩ = false ∧ TrA w M v8 cv ev ⟨t.ticks ++ [x], t.counts, t.events⟩ (w8.setCell ⟨M + 1, 0, none⟩ v8) := by
  have hv : ∀ j, tv.ownBlock = some j → M + 2 ≤ j := fun j hj => (World.ownsRow.lt h.ot j hj).1
  obtain ⟨⟨p1, p2⟩, s2, b2⟩ := h.gk k8 hv 0 v8
  obtain ⟨c1, c2⟩ := (h.dtc.symm).kept (m := 0) (sz := 0) (e' := 0) (ys := []) h.oc k8
  obtain ⟨e1, e2⟩ := (h.dte.symm).kept (m := 0) (sz := 0) (e' := 0) (ys := []) h.oe k8
  rw [h.hr] at p1
  rw [h.hb] at p2
  subst hn hx
  refine ⟨by simp [World.cell?, p2], by simp [World.frozen?, p2], ?_, ?_, ?_, own_gb c1 s2 (by omega), own_gb e1 s2 (by omega), c2.symm, e2.symm, h.dce, b2, h.lo⟩
  · rw [heap_setCell_other _ _ _ _ (by simp)]; exact p1
  · rw [heap_setCell_same _ _ _ _ _ _ p2]; simp
  · have := own_gb o8 s2 (by omega)
    simpa using this
theorem TrA.grC {n : Nat} {xs : List Value} (h : TrA w M tv cv ev t wr) (o8 : w8.ownsRow (M + 2) 3 1 v8 n xs) (k8 : Gw wr cv v8 w8) {x : Int} (hn : n = t.counts.length + 1) (hx : xs = nmC (t.counts ++ [x])) : w8.cell? ⟨M + 1, 1, none⟩ = some cv ∧ w8.frozen? ⟨M + 1, 1, none⟩ = false ∧ TrA w M tv v8 ev ⟨t.ticks, t.counts ++ [x], t.events⟩ (w8.setCell ⟨M + 1, 1, none⟩ v8) := by
  have hv : ∀ j, cv.ownBlock = some j → M + 2 ≤ j := fun j hj => (World.ownsRow.lt h.oc j hj).1
  obtain ⟨⟨p1, p2⟩, s2, b2⟩ := h.gk k8 hv 1 v8
  obtain ⟨c1, c2⟩ := (h.dtc).kept (m := 0) (sz := 0) (e' := 0) (ys := []) h.ot k8
  obtain ⟨e1, e2⟩ := (h.dce.symm).kept (m := 0) (sz := 0) (e' := 0) (ys := []) h.oe k8
  rw [h.hr] at p1
  rw [h.hb] at p2
  subst hn hx
  refine ⟨by simp [World.cell?, p2], by simp [World.frozen?, p2], ?_, ?_, own_gb c1 s2 (by omega), ?_, own_gb e1 s2 (by omega), c2, h.dte, e2.symm, b2, h.lo⟩
  · rw [heap_setCell_other _ _ _ _ (by simp)]; exact p1
  · rw [heap_setCell_same _ _ _ _ _ _ p2]; simp
  · have := own_gb o8 s2 (by omega)
    simpa using this
theorem TrA.grE {n : Nat} {xs : List Value} (h : TrA w M tv cv ev t wr) (o8 : w8.ownsRow (M + 2) 69 2 v8 n xs) (k8 : Gw wr ev v8 w8) {x : Tp.Ev} (hn : n = t.events.length + 1) (hx : xs = evC (t.events ++ [x])) : w8.cell? ⟨M + 1, 2, none⟩ = some ev ∧ w8.frozen? ⟨M + 1, 2, none⟩ = false ∧ TrA w M tv cv v8 ⟨t.ticks, t.counts, t.events ++ [x]⟩ (w8.setCell ⟨M + 1, 2, none⟩ v8) := by
  have hv : ∀ j, ev.ownBlock = some j → M + 2 ≤ j := fun j hj => (World.ownsRow.lt h.oe j hj).1
  obtain ⟨⟨p1, p2⟩, s2, b2⟩ := h.gk k8 hv 2 v8
  obtain ⟨c1, c2⟩ := (h.dte).kept (m := 0) (sz := 0) (e' := 0) (ys := []) h.ot k8
  obtain ⟨e1, e2⟩ := (h.dce).kept (m := 0) (sz := 0) (e' := 0) (ys := []) h.oc k8
  rw [h.hr] at p1
  rw [h.hb] at p2
  subst hn hx
  refine ⟨by simp [World.cell?, p2], by simp [World.frozen?, p2], ?_, ?_, own_gb c1 s2 (by omega), own_gb e1 s2 (by omega), ?_, h.dtc, c2, e2, b2, h.lo⟩
  · rw [heap_setCell_other _ _ _ _ (by simp)]; exact p1
  · rw [heap_setCell_same _ _ _ _ _ _ p2]; simp
  · have := own_gb o8 s2 (by omega)
    simpa using this
theorem TrA.fin (h : TrA w M tv cv ev t wr) : TrE w wr M tv cv ev t (((wr.setCell ⟨M, 0, none⟩ tv).setCell ⟨M, 1, none⟩ cv).setCell ⟨M, 2, none⟩ ev) := by
  have hx1 := heap_setCell_same _ M 0 _ _ tv h.hr
  have hx2 := heap_setCell_same _ M 1 _ _ cv hx1
  have hx3 := heap_setCell_same _ M 2 _ _ ev hx2
  have sg : ∀ (W : World) (i : Nat) (x : Value), W.grownBy (W.setCell ⟨M, i, none⟩ x) (some M) := fun W i x => ⟨rfl, rfl, rfl, by simp, fun j _ hn => heap_setCell_other _ _ j _ (by intro e; exact hn (by rw [e]))⟩
  have gb := gbT (gbT (sg wr 0 tv) (sg _ 1 cv)) (sg _ 2 ev)
  refine ⟨⟨?_, ?_, ?_⟩, (own_gb h.ot gb (by omega)).mono (by omega), (own_gb h.oc gb (by omega)).mono (by omega), (own_gb h.oe gb (by omega)).mono (by omega), h.bl.trans ((gbB gb (by have := h.lt; omega)).mono h.lo)⟩ <;> simp [World.cell?, hx3]
end
end Go.Proofs.Ytneefpblfiedbaa
