/- Layer 4: the same statements twice (the document's SameStmts). -/
import Derived.Test.YtobiedmmjiedlaaZStC
namespace Go.Proofs.Ytobiedmmjiedlaa
open Go.RowKit
set_option linter.unusedVariables false
set_option linter.unusedSimpArgs false
theorem hidC {p : Prop} (h : p) : Hid p := h
def SmT (l : List Sy.St) : Prop := ∀ (A B : Nat → Prop) (sa tb : Option Addr) (sc tc : Nat) (w : World), SmS A w (.slice sa l.length sc) l → SmS B w (.slice tb l.length tc) l →
  Calls Try.prog 8 #[.slice sa l.length sc, .slice tb l.length tc] w fun e w' => e = .returned (.bool true) ∧ Below w.heap.size w w'
def SmU (x : Sy.St) : Prop := ∃ k n p m e b l, x = .mk k n p m e b l ∧ (∀ y, y ∈ e → SCb y) ∧ e.length ≤ 1000000 ∧ SmT b ∧ SmT l
/-- A box of seven cells. -/
def Bs (w : World) (g : Nat) (c0 c1 c2 c3 c4 c5 c6 : Value) : Prop := w.heap[g]? = some (.cells #[c0, c1, c2, c3, c4, c5, c6] 33 (0, 0))
theorem Bs.later {w w' : World} {g n : Nat} {c0 c1 c2 c3 c4 c5 c6 : Value} (h : Bs w g c0 c1 c2 c3 c4 c5 c6) (b : Below w.heap.size w w') : Bs w' g c0 c1 c2 c3 c4 c5 c6 :=
  (b.block g (Array.getElem?_eq_some_iff.1 h).1).trans h
theorem Bs.cells {w : World} {g : Nat} {c0 c1 c2 c3 c4 c5 c6 : Value} (h : Bs w g c0 c1 c2 c3 c4 c5 c6) : w.cell? ⟨g, 0, none⟩ = some c0 ∧ w.cell? ⟨g, 1, none⟩ = some c1 ∧ w.cell? ⟨g, 2, none⟩ = some c2 ∧ w.cell? ⟨g, 3, none⟩ = some c3 ∧ w.cell? ⟨g, 4, none⟩ = some c4 ∧ w.cell? ⟨g, 5, none⟩ = some c5 ∧ w.cell? ⟨g, 6, none⟩ = some c6 := by
  unfold Bs at h
  refine ⟨?_, ?_, ?_, ?_, ?_, ?_, ?_⟩ <;> simp [World.cell?, h]
theorem bs_two (w : World) (X Y : Obj) : ((w.alloc X).alloc Y).drew.heap[w.heap.size]? = some X ∧ ((w.alloc X).alloc Y).drew.heap[w.heap.size + 1]? = some Y ∧ Below w.heap.size w ((w.alloc X).alloc Y).drew := by
  have b : Below w.heap.size w ((w.alloc X).alloc Y) := ((Below.refl _ _).alloc (Nat.le_refl _) _).alloc (by simp) _
  refine ⟨?_, ?_, ⟨b.os, b.tape, b.output, b.size, b.block⟩⟩
  · show ((w.alloc X).alloc Y).heap[w.heap.size]? = some X
    rw [((Below.refl (w.alloc X).heap.size (w.alloc X)).alloc (Nat.le_refl _) Y).block w.heap.size (by simp)]
    exact heap_alloc_new w X
  · show ((w.alloc X).alloc Y).heap[w.heap.size + 1]? = some Y
    have h := heap_alloc_new (w.alloc X) Y
    simpa using h
set_option maxRecDepth 100000 in
set_option maxHeartbeats 4000000 in
theorem sameSts_loop (l : List Sy.St) (hl : l.length ≤ 1000000000000000) (hP : ∀ x, x ∈ l → SmU x) : SmT l := by
  intro A B sa tb sc tc w hs ht
  have HP := hidC hP
  have HS := hidC hs
  have HT := hidC ht
  obtain ⟨N, hN⟩ : ∃ N, N = l.length := ⟨_, rfl⟩
  have HN := hidC hN
  rw [← hN] at HS HT hl ⊢
  have q0 : ((N : Int) == (N : Int)) = true := beq_self_eq_true _
  clear hP hs ht hN
  go_enter Try.func8, Try.ntmps8
  go_wp2_with fail
  go_loopg [5] N (fun gk i wr => ∃ j : Nat, j + gk = N ∧ i = .int .i64 j ∧ Hid (Below w.heap.size w wr))
  case atStart => exact ⟨0, by omega, rfl, Below.refl _ _⟩
  case round =>
    obtain ⟨j, hj, rfl, KR⟩ := hrel
    rcases gk with _ | gk
    · obtain rfl : j = N := by omega
      have d1 : decide ((j : Int) < (j : Int)) = false := decide_eq_false (by omega)
      go_wp2_with fail
      go_ret
      exact ⟨rfl, KR.out⟩
    · have d1 : decide ((j : Int) < (N : Int)) = true := decide_eq_true (by omega)
      have d1n : decide (j < N) = true := decide_eq_true (by omega)
      have hjN : j < N := by omega
      obtain ⟨g, o, k, n, p, m, ea, ec, ba, bc, la, lc, e, b, ll, rfl, ha, hg, el, h1⟩ := (HS.out.later KR.out (Nat.le_refl _)).part j (by rw [← HN.out]; exact hjN)
      obtain ⟨g', o', k2, n2, p2, m2, ea', ec', ba', bc', la', lc', e2, b2, ll2, rfl, ha', hg', el', h2⟩ := (HT.out.later KR.out (Nat.le_refl _)).part j (by rw [← HN.out]; exact hjN)
      obtain ⟨k3, n3, p3, m3, e3, b3, ll3, hx, he3, hel, hb3, hl3⟩ := HP.out _ (List.mem_of_getElem? el)
      have e12 := Option.some.inj (el.symm.trans el')
      injection e12 with q1 q2 q3 q4 q5 q6 q7
      injection hx with r1 r2 r3 r4 r5 r6 r7
      subst q1 q2 q3 q4 q5 q6 q7 r1 r2 r3 r4 r5 r6 r7
      have EE := hidC (fun (W : World) (q : Below wr.heap.size wr W) => sameExprs_bnd A B e he3 ea ea' e.length ec e.length ec' W (h1.he.later q (Nat.le_refl _)) (h2.he.later q (Nat.le_refl _)) hel)
      have EB := hidC (fun (W : World) (q : Below wr.heap.size wr W) => hb3 A B ba ba' bc bc' W (h1.hb.later q (Nat.le_refl _)) (h2.hb.later q (Nat.le_refl _)))
      have ELs := hidC (fun (W : World) (q : Below wr.heap.size wr W) => hl3 A B la la' lc lc' W (h1.hl.later q (Nat.le_refl _)) (h2.hl.later q (Nat.le_refl _)))
      obtain ⟨c0, c1, c2, c3, c4, c5, c6, -, -, -⟩ := h1
      obtain ⟨d0, d1', d2, d3, d4, d5, d6, -, -, -⟩ := h2
      obtain ⟨en, hen⟩ : ∃ n, n = e.length := ⟨_, rfl⟩
      obtain ⟨bn, hbn⟩ : ∃ n, n = b.length := ⟨_, rfl⟩
      obtain ⟨ln, hln⟩ : ∃ n, n = ll.length := ⟨_, rfl⟩
      rw [← hen] at EE c4 d4
      rw [← hbn] at EB c5 d5
      rw [← hln] at ELs c6 d6
      clear hen hbn hln el el' he3 hel hb3 hl3 ha ha'
      go_upto_region 6 with fail
      go_cut [6, 7] from 19 to 26 (fun u v wx => ∃ x y, u = .pointer (some ⟨x, 0, none⟩) ∧ v = .pointer (some ⟨y, 0, none⟩) ∧ Below wr.heap.size wr wx ∧ Bs wx x (.int .i64 k) (.string ⟨n.toArray⟩) (.string ⟨p.toArray⟩) (.int .i64 m) (.slice ea en ec) (.slice ba bn bc) (.slice la ln lc) ∧ Bs wx y (.int .i64 k) (.string ⟨n.toArray⟩) (.string ⟨p.toArray⟩) (.int .i64 m) (.slice ea' en ec') (.slice ba' bn bc') (.slice la' ln lc'))
      case first =>
        go_region
        all_goals
          go_wp2_with fail
          go_meet
        · obtain ⟨z1, z2, z3⟩ := bs_two wr (.cells #[.int .i64 k, .string ⟨n.toArray⟩, .string ⟨p.toArray⟩, .int .i64 m, .slice ea en ec, .slice ba bn bc, .slice la ln lc] 33) (.cells #[.int .i64 k, .string ⟨n.toArray⟩, .string ⟨p.toArray⟩, .int .i64 m, .slice ea' en ec', .slice ba' bn bc', .slice la' ln lc'] 33)
          exact ⟨_, _, rfl, rfl, z3, z1, z2⟩
        · obtain ⟨z1, z2, z3⟩ := bs_two wr (.cells #[.int .i64 k, .string ⟨n.toArray⟩, .string ⟨p.toArray⟩, .int .i64 m, .slice ea' en ec', .slice ba' bn bc', .slice la' ln lc'] 33) (.cells #[.int .i64 k, .string ⟨n.toArray⟩, .string ⟨p.toArray⟩, .int .i64 m, .slice ea en ec, .slice ba bn bc, .slice la ln lc] 33)
          exact ⟨_, _, rfl, rfl, z3, z2, z1⟩
      case rest =>
        obtain ⟨x, y, rfl, rfl, kx, bx, by_⟩ := hcut
        have KX := hidC kx
        have BX := hidC bx
        have BY := hidC by_
        clear kx bx by_ c0 c1 c2 c3 c4 c5 c6 d0 d1' d2 d3 d4 d5 d6
        obtain ⟨c0, c1, c2, c3, c4, c5, c6⟩ := BX.out.cells
        obtain ⟨d0, d1', d2, d3, d4, d5, d6⟩ := BY.out.cells
        have qk : (k == k) = true := beq_self_eq_true _
        have qm : (m == m) = true := beq_self_eq_true _
        go_wp2_with fail
        refine (EE.out _ KX.out).mono ?_
        rintro e w1 ⟨rfl, k1⟩
        have K1 := hidC (KX.out.trans (k1.mono KX.out.size))
        have BX1 := hidC (BX.out.later k1 (n := 0))
        have BY1 := hidC (BY.out.later k1 (n := 0))
        clear k1 c0 c1 c2 c3 c4 c5 c6 d0 d1' d2 d3 d4 d5 d6 BX BY
        obtain ⟨-, -, -, -, c4, c5, c6⟩ := BX1.out.cells
        obtain ⟨-, -, -, -, d4, d5, d6⟩ := BY1.out.cells
        go_wp2_with fail
        refine (EB.out _ K1.out).mono ?_
        rintro e w2 ⟨rfl, k2⟩
        have K2 := hidC (K1.out.trans (k2.mono K1.out.size))
        have BX2 := hidC (BX1.out.later k2 (n := 0))
        have BY2 := hidC (BY1.out.later k2 (n := 0))
        clear k2 c4 c5 c6 d4 d5 d6 BX1 BY1
        obtain ⟨-, -, -, -, -, c5, c6⟩ := BX2.out.cells
        obtain ⟨-, -, -, -, -, d5, d6⟩ := BY2.out.cells
        go_wp2_with fail
        refine (ELs.out _ K2.out).mono ?_
        rintro e w3 ⟨rfl, k3⟩
        have K3 := hidC (KR.out.trans ((K2.out.trans (k3.mono K2.out.size)).mono KR.out.size))
        clear k3 c5 c6 d5 d6
        go_wp2_with fail
        go_roundg gk
        case measure => omega
        case rel => exact ⟨j + 1, by omega, by go_num, K3⟩
theorem sameSts_st (x : Sy.St) : Sy.Bd x → SmU x := by
  refine Sy.ind (P := fun x => Sy.Bd x → SmU x) (fun k n p m e b l ihb ihl h => ?_) x
  cases h with
  | mk _ _ _ _ _ _ _ hn hp le he lb ll hb hl =>
    exact ⟨k, n, p, m, e, b, l, rfl, fun y hy => sameExpr_bnd (he y hy), by omega, sameSts_loop b (by omega) fun x hx => ihb x hx (hb x hx), sameSts_loop l (by omega) fun x hx => ihl x hx (hl x hx)⟩
theorem sameSts_any (l : List Sy.St) (hl : l.length ≤ 1000000000000000) (h : ∀ s, s ∈ l → Sy.Bd s) : SmT l := sameSts_loop l hl fun x hx => sameSts_st x (h x hx)
end Go.Proofs.Ytobiedmmjiedlaa
