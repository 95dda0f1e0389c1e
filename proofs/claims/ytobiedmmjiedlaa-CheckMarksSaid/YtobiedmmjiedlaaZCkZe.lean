/- Layer 4: the program's checker of statements, calls. -/
import Derived.Test.YtobiedmmjiedlaaZCkZ
namespace Go.Proofs.Ytobiedmmjiedlaa
open Go.RowKit

theorem ckArgs_at {vs : List CkVa} {mk : Int} {e : List Sx.Ex} {t : List Sy.Pa} {j : Nat} {x : Sx.Ex} {a : Sy.Pa} (hx : e[j]? = some x) (ha : t[j]? = some a) : ckArgs vs mk (e.drop j) (t.drop j) = match ckTd (ckTy vs mk x) a.type with | some er => some er | none => ckArgs vs mk (e.drop (j + 1)) (t.drop (j + 1)) := by
  obtain ⟨h1, e1⟩ := List.getElem?_eq_some_iff.1 hx
  obtain ⟨h2, e2⟩ := List.getElem?_eq_some_iff.1 ha
  rw [List.drop_eq_getElem_cons h1, List.drop_eq_getElem_cons h2, e1, e2, ckArgs]
  cases ckTd (ckTy vs mk x) a.type <;> rfl
theorem ckArgs_end {vs : List CkVa} {mk : Int} {e : List Sx.Ex} {t : List Sy.Pa} : ckArgs vs mk (e.drop e.length) t = none := by
  rw [List.drop_length]
  cases t <;> rfl
set_option maxRecDepth 100000 in
set_option maxHeartbeats 8000000 in
theorem ckCall_any (A : Nat → Prop) (p : Nat) (va : Option Addr) (vc : Nat) (vs : List CkVa) (mk : Int) (qa : Option Addr) (qc : Nat) (ps : List Sy.Pc) (at_ : Nat) (w : World) (h : Ckr A w p va vc vs mk qa qc ps at_) (e : List Sx.Ex) (hl : e.length ≤ 1000000000000000) (ea : Option Addr) (ec : Nat) (hs : ExS A w (.slice ea e.length ec) e) (n q : List UInt8) (num : Int) (ba : Option Addr) (bn bc : Nat) (la : Option Addr) (ln lc : Nat) (post : Ending) (hpost : post = ckEndU (ckCal vs mk ps n q e)) : Calls Try.prog 87 #[.pointer (some ⟨p, 0, none⟩), smV 6 n q num ea e.length ec ba bn bc la ln lc] w fun en w' => en = post ∧ Below w.heap.size w w' := by
  have ECd : Hid (∀ W, Below w.heap.size w W → Calls Try.prog 96 #[.pointer (some ⟨p, 0, none⟩), .string ⟨q.toArray⟩] W (CdR A W (ckCd ps q))) := fun W hW => ckCalled_any A p va vc vs mk qa qc ps at_ q W (h.later hW)
  have HS : Hid (ExS A w (.slice ea e.length ec) e) := hs
  have HC : Hid (Ckr A w p va vc vs mk qa qc ps at_) := h
  have HL : Hid (e.length ≤ 1000000000000000) := hl
  have HPO : Hid (post = ckEndU (ckCal vs mk ps n q e)) := hpost
  clear hs h hl hpost
  unfold smV
  go_enter Try.func87, Try.ntmps87
  go_wp2_with fail
  refine Calls.mono (ECd.out _ (by go_grown)) ?_
  rintro e1 w1 (⟨hc, rfl, b1⟩ | ⟨x, pa, pc, xa, xc, hc, rfl, hpa, b1⟩)
  · have B1 : Hid (Below w.heap.size w w1) := Below.trans (by go_grown) (b1.mono (by go_size))
    have hpp : post = ckPan 40 := by rw [HPO.out]; unfold ckCal; rw [hc]; rfl
    subst hpp
    clear b1 hc
    unfold ckPan
    go_wp2_with fail
    exact ⟨rfl, rfl, B1.out⟩
  have B1 : Hid (Below w.heap.size w w1) := Below.trans (by go_grown) (b1.mono (by go_size))
  have z1 : w.heap.size < w1.heap.size := Nat.lt_of_lt_of_le (by simp) b1.size
  have d1 : w1.cell? ⟨w.heap.size, 1, none⟩ = some (.string ⟨n.toArray⟩) := (b1.cell (p := ⟨w.heap.size, 1, none⟩) (by simp)).trans (by simp [go_sem])
  have d4 : w1.cell? ⟨w.heap.size, 4, none⟩ = some (.slice ea e.length ec) := (b1.cell (p := ⟨w.heap.size, 4, none⟩) (by simp)).trans (by simp [go_sem])
  have HCD : Hid (ckCd ps q = some x) := hc
  obtain ⟨W2, hW2⟩ : ∃ W2, W2 = w1.alloc (pcB x pa pc xa xc) := ⟨_, rfl⟩
  have b2 : Below w1.heap.size w1 W2 := by rw [hW2]; exact box_below w1 _
  have B2 : Hid (Below w.heap.size w W2) := B1.out.trans (b2.mono B1.out.size)
  have D1 := (b2.cell (p := ⟨w.heap.size, 1, none⟩) z1).trans d1
  have D4 := (b2.cell (p := ⟨w.heap.size, 4, none⟩) z1).trans d4
  have t1 : W2.cell? ⟨w1.heap.size, 1, none⟩ = some (.slice pa x.params.length pc) := by rw [hW2]; simp [go_sem]
  have t2 : W2.cell? ⟨w1.heap.size, 2, none⟩ = some (.int .i64 x.type) := by rw [hW2]; simp [go_sem]
  have z2 : w1.heap.size < W2.heap.size := by rw [hW2]; simp
  have HPA : Hid (PaS A W2 (.slice pa x.params.length pc) x.params) := hpa.later b2 (Nat.le_refl _)
  clear b1 hc hpa b2 ECd
  unfold pcV
  by_cases hln : e.length = x.params.length
  case neg =>
    have hb : ((e.length : Int) == (x.params.length : Int)) = false := beq_eq_false_iff_ne.2 (by omega)
    have hpp : post = ckPan 41 := by rw [HPO.out]; unfold ckCal; rw [HCD.out]; simp only [hln, if_false]; rfl
    subst hpp
    clear HPO hln
    go_wp2_with fail
    refine Calls.mono (ckMust_no _ _) ?_
    rintro e2 w2 ⟨rfl, b2⟩
    rw [← hW2] at b2
    have B3 : Hid (Below w.heap.size w w2) := B2.out.trans (b2.mono B2.out.size)
    clear b2
    unfold ckPan
    go_wp2_with fail
    exact ⟨rfl, rfl, B3.out⟩
  case pos =>
    have hb : ((e.length : Int) == (x.params.length : Int)) = true := beq_iff_eq.2 (by omega)
    have HLN : Hid (e.length = x.params.length) := hln
    have HPQ : Hid (post = ckEndU (match ckArgs vs mk e x.params with | some er => some er | none => if n = [] then none else ckTake vs mk n x.type)) := by
      have := HPO.out
      unfold ckCal at this
      rw [HCD.out] at this
      simp only [hln, if_true] at this
      exact this
    clear HPO hln HCD
    go_wp2_with fail
    refine Calls.mono (ckMust_yes _ _) ?_
    rintro e2 w2 ⟨rfl, rfl⟩
    rw [← hW2]
    clear hW2 d1 d4 hb
    go_wp2_with fail
    go_loopw [22] (fun i wr => ∃ (j : Nat), j ≤ e.length ∧ i = .int .i64 j ∧ Hid (ckArgs vs mk (e.drop j) (x.params.drop j) = ckArgs vs mk e x.params) ∧ Hid (Below W2.heap.size W2 wr)) (fun i _ => e.length - (intOf i).toNat)
    case atStart => exact ⟨0, by omega, rfl, (by simp : ckArgs vs mk (e.drop 0) (x.params.drop 0) = ckArgs vs mk e x.params), Below.refl _ _⟩
    case round =>
      obtain ⟨j, hj, rfl, N, B⟩ := hrel
      have BB : Hid (Below w.heap.size w wr) := B2.out.trans (B.out.mono B2.out.size)
      have zr : w.heap.size < wr.heap.size := Nat.lt_of_lt_of_le (Nat.lt_of_lt_of_le z1 (Nat.le_of_lt z2)) B.out.size
      have z3 : w1.heap.size < wr.heap.size := Nat.lt_of_lt_of_le z2 B.out.size
      have n1z : ¬ w.heap.size = wr.heap.size := by omega
      have n2z : ¬ w1.heap.size = wr.heap.size := by omega
      by_cases hlt : j < e.length
      · obtain ⟨g, o, k1, n1, m1, s1, c1, l1, rfl, el, hx1, hs1⟩ := ckPart (HS.out.later BB.out (Nat.le_refl _)) j hlt
        obtain ⟨a', c', ep, hp'⟩ := HPA.out.later B.out (Nat.le_refl _)
        cases ep
        obtain ⟨gp, op, rfl, -, hgp, hpc⟩ := hp' (by have := HLN.out; omega)
        obtain ⟨pr, epr, -, cpr⟩ := hpc j (by have := HLN.out; omega)
        have AT := ckArgs_at (vs := vs) (mk := mk) el epr
        have r1 := (B.out.cell (p := ⟨w1.heap.size, 1, none⟩) z2).trans t1
        have hji : (j : Int) < (e.length : Int) := by omega
        have hj0 : (0 : Int) ≤ (j : Int) := by omega
        have hjp : (j : Int) < (x.params.length : Int) := by have := HLN.out; omega
        have ngp : ¬ gp = wr.heap.size := by omega
        have hL := HL.out
        have ET : Hid (∀ r, ckTd (ckTy vs mk (.mk k1 n1 m1 l1)) pr.type = r → ∀ W, Below wr.heap.size wr W → Calls Try.prog 44 #[.pointer (some ⟨p, 0, none⟩), .agg #[.int .i64 k1, .string ⟨n1.toArray⟩, .int .i64 m1, .slice s1 l1.length c1], .int .i64 pr.type] W fun e w' => e = ckEndU r ∧ Below W.heap.size W w') := fun r hr => ckTyped_is ((HC.out.later BB.out).s) hs1 hr
        obtain ⟨y0, y1, y2, y3, yz⟩ := hx1
        have HAT : Hid (ckArgs vs mk (e.drop j) (x.params.drop j) = match ckTd (ckTy vs mk (.mk k1 n1 m1 l1)) pr.type with | some er => some er | none => ckArgs vs mk (e.drop (j + 1)) (x.params.drop (j + 1))) := AT
        clear hs1 el epr AT hp' hpc
        cases hr : ckTd (ckTy vs mk (.mk k1 n1 m1 l1)) pr.type with
        | none =>
          have E1 : Hid (∀ W, Below wr.heap.size wr W → Calls Try.prog 44 #[.pointer (some ⟨p, 0, none⟩), .agg #[.int .i64 k1, .string ⟨n1.toArray⟩, .int .i64 m1, .slice s1 l1.length c1], .int .i64 pr.type] W fun e w' => e = .returned (.tuple #[]) ∧ Below W.heap.size W w') := ET.out none hr
          have G : Hid (ckArgs vs mk (e.drop (j + 1)) (x.params.drop (j + 1)) = ckArgs vs mk e x.params) := by rw [← N.out, HAT.out, hr]; rfl
          clear hr HAT ET
          go_wp2_with fail
          go_region_with (first
            | (go_at_call 44; refine Calls.mono (E1.out _ (by go_grown)) ?_; rintro ew5 w5 ⟨rfl, bw5⟩; have cw5 : Below wr.heap.size wr w5 := Below.trans (by go_grown) (bw5.mono (by go_size)); have Cw5 : Hid (Below wr.heap.size wr w5) := cw5; clear bw5 cw5))
          all_goals
            go_wp2_with fail
            go_roundw
            case rel => exact ⟨j + 1, by omega, by go_num, G, B.out.trans (Cw5.out.mono B.out.size)⟩
            case measure => simp [intOf]; omega
        | some er =>
          have E1 : Hid (∀ W, Below wr.heap.size wr W → Calls Try.prog 44 #[.pointer (some ⟨p, 0, none⟩), .agg #[.int .i64 k1, .string ⟨n1.toArray⟩, .int .i64 m1, .slice s1 l1.length c1], .int .i64 pr.type] W fun e w' => e = ckPan er ∧ Below W.heap.size W w') := ET.out (some er) hr
          have hpp : post = ckPan er := by rw [HPQ.out, ← N.out, HAT.out, hr]; rfl
          clear hr HAT ET HPQ N
          subst hpp
          go_wp2_with fail
          go_region_with (first
            | (go_at_call 44; refine shutWay (E1.out _ (by go_grown)) ?_ (.tuple #[]) ?_; (rintro e9 w9 ⟨rfl, b9⟩; exact ⟨rfl, rfl, Below.trans BB.out (Below.mono (Below.trans (by go_grown) (b9.mono (by go_size))) BB.out.size)⟩); intro hF; have hz1 : ∀ (W : World) (q : Addr), W.frozen? q = false := fun _ _ => hF.out _; skip))
          all_goals exact hF.out _
      · obtain rfl : j = e.length := by omega
        have NA : ckArgs vs mk e x.params = none := by rw [← N.out]; exact ckArgs_end
        have HPR : Hid (post = ckEndU (if n = [] then none else ckTake vs mk n x.type)) := by
          have := HPQ.out
          rw [NA] at this
          exact this
        have q1 := (B.out.cell (p := ⟨w.heap.size, 1, none⟩) (Nat.lt_of_lt_of_le z1 (Nat.le_of_lt z2))).trans D1
        have q2 := (B.out.cell (p := ⟨w1.heap.size, 2, none⟩) z2).trans t2
        clear N NA HPQ
        by_cases hn : n = []
        · subst hn
          have hpp : post = .returned (.tuple #[]) := by rw [HPR.out]; rfl
          subst hpp
          clear HPR
          go_wp2_with fail
          go_end0
          exact ⟨rfl, BB.out⟩
        · have en := text_f hn
          have HPS : Hid (post = ckEndU (ckTake vs mk n x.type)) := by have := HPR.out; rw [if_neg hn] at this; exact this
          have ES : Hid (∀ r, ckSi vs n mk = r → ∀ W, Below wr.heap.size wr W → Calls Try.prog 42 #[.pointer (some ⟨p, 0, none⟩), .string ⟨n.toArray⟩] W fun e w' => e = ckEnd r ∧ Below W.heap.size W w') := fun r hr W hW => by have := ckSingle_any p va vc vs mk n W ((HC.out.later BB.out).s.later hW); rw [hr] at this; exact this
          clear HPR hn
          cases hr : ckSi vs n mk with
          | error er =>
            have E1 : Hid (∀ W, Below wr.heap.size wr W → Calls Try.prog 42 #[.pointer (some ⟨p, 0, none⟩), .string ⟨n.toArray⟩] W fun e w' => e = ckPan er ∧ Below W.heap.size W w') := ES.out (.error er) hr
            have hpp : post = ckPan er := by rw [HPS.out]; unfold ckTake; rw [hr]; rfl
            subst hpp
            clear HPS ES hr
            go_wp2_with fail
            go_region_with (first
              | (go_at_call 42; refine shutWay (E1.out _ (by go_grown)) ?_ (.int .i64 0) ?_; (rintro e9 w9 ⟨rfl, b9⟩; exact ⟨rfl, rfl, Below.trans BB.out (Below.mono (Below.trans (by go_grown) (b9.mono (by go_size))) BB.out.size)⟩); intro hF; have hz1 : ∀ (W : World) (q : Addr), W.frozen? q = false := fun _ _ => hF.out _; have hz2 : ∀ (W : World), W.cell? ⟨w1.heap.size, 2, none⟩ = some (.int .i64 x.type) := fun _ => hF.out _)
              | (go_at_call 40; refine Calls.mono (show Calls _ _ _ _ (fun e _ => e = .returned (.tuple #[]) ∧ True) from hF.out _) ?_; rintro e8 w8 ⟨rfl, -⟩))
            all_goals exact hF.out _
          | ok u =>
            have E1 : Hid (∀ W, Below wr.heap.size wr W → Calls Try.prog 42 #[.pointer (some ⟨p, 0, none⟩), .string ⟨n.toArray⟩] W fun e w' => e = .returned (.int .i64 u) ∧ Below W.heap.size W w') := ES.out (.ok u) hr
            by_cases hu : u = x.type
            · have hpp : post = .returned (.tuple #[]) := by rw [HPS.out]; unfold ckTake; rw [hr]; simp only [hu, if_true]; rfl
              subst hpp hu
              clear HPS ES hr
              go_wp2_with fail
              go_region_with (first
                | (go_at_call 42; refine Calls.mono (E1.out _ (by go_grown)) ?_; rintro ew5 w5 ⟨rfl, bw5⟩; have cw5 : Below wr.heap.size wr w5 := Below.trans (by go_grown) (bw5.mono (by go_size)); have Cw5 : Hid (Below wr.heap.size wr w5) := cw5; have q2' : w5.cell? ⟨w1.heap.size, 2, none⟩ = some (.int .i64 x.type) := (cw5.cell (p := ⟨w1.heap.size, 2, none⟩) z3).trans q2; clear bw5 cw5)
                | (go_at_call 40; refine Calls.mono (ckMust_yes _ _) ?_; rintro e6 w6 ⟨rfl, rfl⟩))
              all_goals
                go_wp2_with fail
                go_end0
                exact ⟨rfl, Below.trans BB.out (Below.mono (Below.trans Cw5.out (Below.mono (by go_grown) Cw5.out.size)) BB.out.size)⟩
            · have hpp : post = ckPan 41 := by rw [HPS.out]; unfold ckTake; rw [hr]; simp only [hu, if_false]; rfl
              have hbu : (u == x.type) = false := beq_eq_false_iff_ne.2 hu
              subst hpp
              clear HPS ES hr hu
              go_wp2_with fail
              go_region_with (first
                | (go_at_call 42; refine Calls.mono (E1.out _ (by go_grown)) ?_; rintro ew5 w5 ⟨rfl, bw5⟩; have cw5 : Below wr.heap.size wr w5 := Below.trans (by go_grown) (bw5.mono (by go_size)); have Cw5 : Hid (Below wr.heap.size wr w5) := cw5; have q2' : w5.cell? ⟨w1.heap.size, 2, none⟩ = some (.int .i64 x.type) := (cw5.cell (p := ⟨w1.heap.size, 2, none⟩) z3).trans q2; clear bw5 cw5)
                | (go_at_call 40; refine shutWay (ckMust_no _ _) ?_ (.tuple #[]) ?_; (rintro e9 w9 ⟨rfl, b9⟩; exact ⟨rfl, rfl, Below.trans BB.out (Below.mono (Below.trans Cw5.out (Below.mono (Below.trans (by go_grown) (b9.mono (by go_size))) Cw5.out.size)) BB.out.size)⟩); intro hF))
              all_goals exact hF.out _
end Go.Proofs.Ytobiedmmjiedlaa
