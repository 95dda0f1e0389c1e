/- Layer 8: what an instruction takes and leaves; a code's sizes (the program's moves, hasSizes). -/
/- Layer 8, plain: how the heights of a code are found, place by place. No Go in sight. -/
/- Layer 8: the climber with its heights and the places that wait, in memory; reach. -/
/- An append to a row of one's own: where the row lies behind it is told: where it lay, or in a new block. Rows that lie apart. -/
/- Layer 9: codes and numbers within blocks. -/
/- Words of a text, and joined ones: plain mathematics. -/
import Derived.Test.YtkjkiknpgggadaaDoorSCdC
import Derived.Test.YtkjkiknpgggadaaDoorSCdA
import Derived.OneCell
import Derived.Deep.RegionLaw
import Derived.Lib.Split
import Derived.Lib.IndexBytes
import Derived.Lib.Join
namespace Go.Proofs.YtkjkiknpgggadaaDoor
open Go.RowKit
set_option linter.unusedVariables false

abbrev two2 (a b : Int) : Value := .tuple #[.int .i64 a, .int .i64 b]
set_option maxRecDepth 100000 in
set_option maxHeartbeats 4000000 in
theorem cdMv_20 (n m : Int) (p : Nat) (l : List Cd.Co) (w : World) : Calls Tryd.prog 91 #[.pointer (some ⟨p, 0, none⟩), inV ⟨20, n, m⟩] w fun e w' => e = .returned (two2 (Cd.tk ⟨20, n, m⟩) (Cd.lv l ⟨20, n, m⟩)) ∧ Below w.heap.size w w' := by
  have E : Hid (Cd.tk ⟨20, n, m⟩ = n ∧ Cd.lv l ⟨20, n, m⟩ = 0) := by unfold Hid Cd.tk Cd.lv; simp
  rw [E.out.1, E.out.2]
  go_enter Tryd.func91, Tryd.ntmps91
  go_wp2_with fail
  go_ret2
  exact ⟨rfl, by go_grown⟩
set_option maxRecDepth 100000 in
set_option maxHeartbeats 4000000 in
theorem cdMv_tab (k : Nat) (n m : Int) (B p : Nat) (l : List Cd.Co) (w : World) (hB : B ≤ w.heap.size) (ht : Tm B w) (h1 : 1 ≤ k) (h2 : k ≤ 25) (h3 : ¬ k = 19) (h4 : ¬ k = 20) : Calls Tryd.prog 91 #[.pointer (some ⟨p, 0, none⟩), inV ⟨k, n, m⟩] w fun e w' => e = .returned (two2 (Cd.tk ⟨k, n, m⟩) (Cd.lv l ⟨k, n, m⟩)) ∧ Below w.heap.size w w' := by
  obtain ⟨W, hW⟩ : ∃ W, W = w.alloc (inB ⟨k, n, m⟩) := ⟨_, rfl⟩
  obtain ⟨b, hb⟩ : ∃ b, b = w.heap.size := ⟨_, rfl⟩
  obtain ⟨b0, b1, b2, bw⟩ := in_box w ⟨k, n, m⟩ b W hb hW
  have BW : Hid (Below w.heap.size w W) := bw
  have t := ht.later (bw.mono hB)
  have c0 := t.tk k (by omega)
  have c1 := t.lv k (by omega)
  have E : Hid (Cd.tk ⟨k, n, m⟩ = Cd.takesL.getD k 0 ∧ Cd.lv l ⟨k, n, m⟩ = Cd.leavesL.getD k 0) := by
    unfold Hid Cd.tk Cd.lv
    dsimp only
    rw [if_neg (by omega), if_neg (by omega), if_neg (by omega), if_neg (by omega), Int.toNat_natCast]
    exact ⟨rfl, rfl⟩
  rw [E.out.1, E.out.2]
  dsimp only at b0 b1 b2
  generalize Cd.takesL.getD k 0 = x0 at c0 ⊢
  generalize Cd.leavesL.getD k 0 = x1 at c1 ⊢
  have e3 : ((k : Int) == 19) = false := beq_eq_false_iff_ne.2 (by omega)
  have e4 : ((k : Int) == 20) = false := beq_eq_false_iff_ne.2 (by omega)
  have g3 : (k : Int) < 26 := by omega
  have g4 : (0 : Int) ≤ (k : Int) := by omega
  clear ht t bw E h3 h4
  go_enter Tryd.func91, Tryd.ntmps91
  go_upto_region 1 with fail
  rw [← hW, ← hb]
  clear hW hb
  go_wp2_with fail
  go_quiet (fail)
  have BQ := below_drewN BW.out nq
  clear BW
  generalize W.drewN nq = W5 at BQ ⊢
  go_wp2_with fail
  go_ret2
  exact ⟨rfl, BQ⟩
set_option maxRecDepth 100000 in
set_option maxHeartbeats 4000000 in
theorem cdMv_19 (k : Nat) (d : Cd.Co) (m : Int) (B p : Nat) (la : Option Addr) (lc : Nat) (l : List Cd.Co) (ia : Option Addr) (ic : Nat) (c : Cd.Co) (hv wv : Value) (w : World) (h : ClA B w p la lc l ia ic c hv wv) (ed : l[k]? = some d) : Calls Tryd.prog 91 #[.pointer (some ⟨p, 0, none⟩), inV ⟨19, k, m⟩] w fun e w' => e = .returned (two2 (Cd.tk ⟨19, k, m⟩) (Cd.lv l ⟨19, k, m⟩)) ∧ Below w.heap.size w w' := by
  obtain ⟨W, hW⟩ : ∃ W, W = w.alloc (inB ⟨19, k, m⟩) := ⟨_, rfl⟩
  obtain ⟨b, hb⟩ : ∃ b, b = w.heap.size := ⟨_, rfl⟩
  obtain ⟨b0, b1, b2, bw⟩ := in_box w ⟨19, k, m⟩ b W hb hW
  have BW : Hid (Below w.heap.size w W) := bw
  have H := h.later bw
  obtain ⟨g, o, ja, jc, rfl, hg, at_⟩ := H.co.at ed
  obtain ⟨hk, _⟩ := List.getElem?_eq_some_iff.1 ed
  have p0 := H.cl.cell.1
  have c0 := at_.c0
  have c1 := at_.c1
  have c2 := at_.c2
  have c3 := at_.c3
  have bl : b < W.heap.size := by rw [hb, hW]; simp
  have pl : p < W.heap.size := H.cl.lt
  have gl : g < W.heap.size := Nat.lt_of_lt_of_le hg H.hB
  have E : Hid (Cd.tk ⟨19, k, m⟩ = m ∧ Cd.lv l ⟨19, k, m⟩ = if d.ans then 1 else 0) := by
    unfold Hid Cd.tk Cd.lv Cd.an
    simp [ed]
  rw [E.out.1, E.out.2]
  have HE : Hid (∀ x, Calls Tryd.prog 98 #[.agg #[.slice ja d.ins.length jc, .int .i64 d.cells, .int .i64 d.params, .bool d.ans]] x fun e w' => e = .returned (.int .i64 (if d.ans then 1 else 0)) ∧ Below x.heap.size x w') := fun x => cdAns_any ja d.ins.length jc d.cells d.params d.ans x
  have hki : (k : Int) < (l.length : Int) := by omega
  have hk0 : (0 : Int) ≤ (k : Int) := by omega
  clear h H at_ E ed hg
  dsimp only at b0 b1 b2
  generalize d.ins.length = L at c0 HE
  generalize d.cells = d2 at c1 HE
  generalize d.params = d3 at c2 HE
  generalize d.ans = d4 at c3 HE ⊢
  generalize (if d4 then (1 : Int) else 0) = an at HE ⊢
  go_enter Tryd.func91, Tryd.ntmps91
  go_upto_region 1 with fail
  rw [← hW, ← hb]
  clear hW hb
  go_wp2_with fail
  go_region_held3 (fun w' => w'.cell? ⟨b, 1, none⟩ = some (.int .i64 k) ∧ w'.cell? ⟨b, 2, none⟩ = some (.int .i64 m) ∧ w'.cell? ⟨p, 0, none⟩ = some (.slice (some ⟨g, o, none⟩) l.length lc) ∧ w'.cell? ⟨g, o + k * 4, none⟩ = some (.slice ja L jc) ∧ w'.cell? ⟨g, o + k * 4 + 1, none⟩ = some (.int .i64 d2) ∧ w'.cell? ⟨g, o + k * 4 + 2, none⟩ = some (.int .i64 d3) ∧ w'.cell? ⟨g, o + k * 4 + 3, none⟩ = some (.bool d4)) (first | (exact ⟨q0, q1, q2, q3, q4, q5, q6⟩) | go_keep) (first | (go_at_call 98; refine Calls.mono (HE.out _) ?_; rintro e5 w5 ⟨rfl, y5⟩; have q0 : w5.cell? ⟨b, 1, none⟩ = some (.int .i64 k) := (y5.cell (p := ⟨b, 1, none⟩) (by simpa using bl)).trans (by simpa [go_sem] using b1); have q1 : w5.cell? ⟨b, 2, none⟩ = some (.int .i64 m) := (y5.cell (p := ⟨b, 2, none⟩) (by simpa using bl)).trans (by simpa [go_sem] using b2); have q2 : w5.cell? ⟨p, 0, none⟩ = some (.slice (some ⟨g, o, none⟩) l.length lc) := (y5.cell (p := ⟨p, 0, none⟩) (by simpa using pl)).trans (by simpa [go_sem] using p0); have q3 : w5.cell? ⟨g, o + k * 4, none⟩ = some (.slice ja L jc) := (y5.cell (p := ⟨g, o + k * 4, none⟩) (by simpa using gl)).trans (by simpa [go_sem] using c0); have q4 : w5.cell? ⟨g, o + k * 4 + 1, none⟩ = some (.int .i64 d2) := (y5.cell (p := ⟨g, o + k * 4 + 1, none⟩) (by simpa using gl)).trans (by simpa [go_sem] using c1); have q5 : w5.cell? ⟨g, o + k * 4 + 2, none⟩ = some (.int .i64 d3) := (y5.cell (p := ⟨g, o + k * 4 + 2, none⟩) (by simpa using gl)).trans (by simpa [go_sem] using c2); have q6 : w5.cell? ⟨g, o + k * 4 + 3, none⟩ = some (.bool d4) := (y5.cell (p := ⟨g, o + k * 4 + 3, none⟩) (by simpa using gl)).trans (by simpa [go_sem] using c3); have B5 : Hid (Below w.heap.size w w5) := BW.out.trans (Below.mono (Below.trans (by go_grown) y5) BW.out.size); clear y5))
  all_goals
    go_wp2_with fail
    go_ret2
    exact ⟨rfl, by first | exact B5.out | exact B5.out.trans (by go_grown)⟩
theorem cdMv_any (i : Cd.In) (B p : Nat) (la : Option Addr) (lc : Nat) (l : List Cd.Co) (ia : Option Addr) (ic : Nat) (c : Cd.Co) (hv wv : Value) (w : World) (h : ClA B w p la lc l ia ic c hv wv) (h1 : 1 ≤ i.op) (h2 : i.op ≤ 25) (h3 : i.op = 19 → 0 ≤ i.n ∧ i.n < l.length) : Calls Tryd.prog 91 #[.pointer (some ⟨p, 0, none⟩), inV i] w fun e w' => e = .returned (two2 (Cd.tk i) (Cd.lv l i)) ∧ Below w.heap.size w w' := by
  obtain ⟨op, n, m⟩ := i
  dsimp only at h1 h2 h3
  by_cases q19 : op = 19
  · subst q19
    obtain ⟨a, b⟩ := h3 rfl
    obtain ⟨k, rfl⟩ : ∃ k : Nat, n = k := ⟨n.toNat, by omega⟩
    exact cdMv_19 k _ m B p la lc l ia ic c hv wv w h (List.getElem?_eq_getElem (by omega))
  · by_cases q20 : op = 20
    · subst q20
      exact cdMv_20 n m p l w
    · obtain ⟨k, rfl⟩ : ∃ k : Nat, op = k := ⟨op.toNat, by omega⟩
      exact cdMv_tab k n m B p l w h.hB h.tm (by omega) (by omega) (by omega) (by omega)
end Go.Proofs.YtkjkiknpgggadaaDoor

namespace Go.Proofs.YtkjkiknpgggadaaDoor.Cd
open Go.RowKit

def Dn (l : List Co) (hs : List Int) (p : Int) (h : Int) (i : In) : Prop :=
  tk i ≤ h ∧ (bare i = true → h = tk i) ∧ (i.op ≠ 20 → 0 ≤ h - tk i + lv l i ∧ 0 ≤ n1 i p ∧ 0 ≤ n2 i p ∧ hs[(n1 i p).toNat]? = some (h - tk i + lv l i) ∧ hs[(n2 i p).toNat]? = some (h - tk i + lv l i))
structure CI (l : List Co) (c : Co) (hs : List Int) (ws : List Int) (pe : Int) : Prop where
  len : hs.length = c.ins.length
  ok : ∀ (p : Nat) h, hs[p]? = some h → h = -1 ∨ (0 ≤ h ∧ h ≤ 4096 ∧ Rc l c p h)
  zero : hs[0]? = some 0
  done : ∀ (p : Nat) h i, hs[p]? = some h → h ≠ -1 → c.ins[p]? = some i → (p : Int) ∈ ws ∨ (p : Int) = pe ∨ Dn l hs p h i
  wt : ∀ q, q ∈ ws → ∃ p : Nat, q = p ∧ ∃ h, hs[p]? = some h ∧ h ≠ -1
def rhs (hs : List Int) (q : Nat) (h : Int) : List Int := if hs[q]? = some (-1) then hs.set q h else hs
def rws (hs ws : List Int) (q : Nat) : List Int := if hs[q]? = some (-1) then ws ++ [(q : Int)] else ws
theorem rhs_len (hs : List Int) (q : Nat) (h : Int) : (rhs hs q h).length = hs.length := by unfold rhs; split <;> simp
theorem rhs_keep {hs : List Int} {q : Nat} {h : Int} {p : Nat} {x : Int} (e : hs[p]? = some x) (n : x ≠ -1) : (rhs hs q h)[p]? = some x := by
  unfold rhs
  split
  · rename_i hq
    have : q ≠ p := fun e2 => by subst e2; rw [e] at hq; exact n (Option.some.inj hq)
    rw [List.getElem?_set_ne this]
    exact e
  · exact e
theorem rhs_at {hs : List Int} {q : Nat} {h : Int} {p : Nat} {x : Int} (e : (rhs hs q h)[p]? = some x) : hs[p]? = some x ∨ (p = q ∧ x = h ∧ hs[q]? = some (-1)) := by
  unfold rhs at e
  split at e
  · rename_i hq
    by_cases hp : q = p
    · subst hp
      obtain ⟨hl, _⟩ := List.getElem?_eq_some_iff.1 hq
      rw [List.getElem?_set_self hl] at e
      exact .inr ⟨rfl, (Option.some.inj e).symm, hq⟩
    · rw [List.getElem?_set_ne hp] at e
      exact .inl e
  · exact .inl e
theorem Dn.keep {l : List Co} {hs : List Int} {p h : Int} {i : In} {q : Nat} {x : Int} (d : Dn l hs p h i) : Dn l (rhs hs q x) p h i := by
  obtain ⟨d1, d2, d3⟩ := d
  refine ⟨d1, d2, fun ho => ?_⟩
  obtain ⟨e0, e1, e2, e3, e4⟩ := d3 ho
  exact ⟨e0, e1, e2, rhs_keep e3 (by omega), rhs_keep e4 (by omega)⟩
theorem CI.reach {l : List Co} {c : Co} {hs ws : List Int} {pe : Int} (H : CI l c hs ws pe) {q : Nat} {h : Int} (r : Rc l c q h) (h0 : 0 ≤ h) (h1 : h ≤ 4096) (hv : (rhs hs q h)[q]? = some h) : CI l c (rhs hs q h) (rws hs ws q) pe := by
  refine ⟨by rw [rhs_len]; exact H.len, fun p x e => ?_, rhs_keep H.zero (by omega), fun p x i e n ei => ?_, fun x hx => ?_⟩
  · rcases rhs_at e with e | ⟨rfl, rfl, _⟩
    · exact H.ok p x e
    · exact .inr ⟨h0, h1, r⟩
  · rcases rhs_at e with e | ⟨rfl, rfl, e'⟩
    · rcases H.done p x i e n ei with a | a | a
      · refine .inl ?_
        unfold rws
        split
        · exact List.mem_append.2 (.inl a)
        · exact a
      · exact .inr (.inl a)
      · exact .inr (.inr a.keep)
    · refine .inl ?_
      unfold rws
      rw [if_pos e']
      exact List.mem_append.2 (.inr (List.mem_singleton.2 rfl))
  · unfold rws at hx
    have old : ∀ x, x ∈ ws → ∃ p : Nat, x = p ∧ ∃ y, (rhs hs q h)[p]? = some y ∧ y ≠ -1 := fun x hx => by
      obtain ⟨p, e, y, e1, e2⟩ := H.wt x hx
      exact ⟨p, e, y, rhs_keep e1 e2, e2⟩
    split at hx
    · rcases List.mem_append.1 hx with a | a
      · exact old x a
      · exact ⟨q, List.mem_singleton.1 a, h, hv, by omega⟩
    · exact old x hx
def lft (hs ws : List Int) : Nat := 2 * hs.count (-1) + ws.length
theorem count_set (hs : List Int) (q : Nat) (h : Int) (e : hs[q]? = some (-1)) (n : h ≠ -1) : (hs.set q h).count (-1) + 1 = hs.count (-1) := by
  induction hs generalizing q with
  | nil => cases e
  | cons a r ih =>
    cases q with
    | zero =>
      simp at e
      subst e
      simp [n]
    | succ q =>
      simp at e
      have := ih q e
      simp only [List.set_cons_succ, List.count_cons]
      omega
theorem lft_reach (hs ws : List Int) (q : Nat) (h : Int) (h0 : 0 ≤ h) : lft (rhs hs q h) (rws hs ws q) ≤ lft hs ws := by
  unfold lft rhs rws
  split
  · rename_i e
    have := count_set hs q h e (by omega)
    simp
    omega
  · exact Nat.le_refl _
theorem CI.cl {l : List Co} {c : Co} {hs : List Int} (H : CI l c hs [] (-1)) : Cl l c hs := by
  refine ⟨H.len, H.zero, fun p h e => ?_, fun p h i e n ei => ?_⟩
  · rcases H.ok p h e with a | a
    · exact .inl a
    · exact .inr a.2.2
  · rcases H.done p h i e n ei with a | a | a
    · cases a
    · omega
    · rcases H.ok p h e with b | b
      · exact absurd b n
      · refine ⟨a.1, b.2.1, a.2.1, fun ho => ?_⟩
        obtain ⟨e0, e1, e2, e3, e4⟩ := a.2.2 ho
        exact ⟨e1, e2, e3, e4, e0⟩
theorem CI.take {l : List Co} {c : Co} {hs ws : List Int} {q : Int} (H : CI l c hs (ws ++ [q]) (-1)) : CI l c hs ws q ∧ ∃ (p : Nat) (h : Int) (i : In), q = p ∧ hs[p]? = some h ∧ c.ins[p]? = some i ∧ 0 ≤ h ∧ h ≤ 4096 ∧ Rc l c q h := by
  obtain ⟨p, e, h, e1, e2⟩ := H.wt q (List.mem_append.2 (.inr (List.mem_singleton.2 rfl)))
  refine ⟨⟨H.len, H.ok, H.zero, fun p x i ex n ei => ?_, fun x hx => H.wt x (List.mem_append.2 (.inl hx))⟩, p, h, ?_⟩
  · rcases H.done p x i ex n ei with a | a | a
    · rcases List.mem_append.1 a with a | a
      · exact .inl a
      · exact .inr (.inl (List.mem_singleton.1 a))
    · omega
    · exact .inr (.inr a)
  · obtain ⟨hl, _⟩ := List.getElem?_eq_some_iff.1 e1
    rw [H.len] at hl
    refine ⟨c.ins[p], e, e1, List.getElem?_eq_getElem hl, ?_⟩
    rcases H.ok p h e1 with b | b
    · exact absurd b e2
    · rw [e]; exact b
theorem CI.put {l : List Co} {c : Co} {hs ws : List Int} {q : Int} (H : CI l c hs ws q) {p : Nat} {h : Int} {i : In} (eq : q = p) (e : hs[p]? = some h) (ei : c.ins[p]? = some i) (d : Dn l hs q h i) : CI l c hs ws (-1) := by
  refine ⟨H.len, H.ok, H.zero, fun p' x i' ex n ei' => ?_, H.wt⟩
  rcases H.done p' x i' ex n ei' with a | a | a
  · exact .inl a
  · refine .inr (.inr ?_)
    have : p' = p := by omega
    subst this
    rw [e] at ex
    cases ex
    rw [ei] at ei'
    cases ei'
    rw [← eq]
    exact d
  · exact .inr (.inr a)
theorem bad_here {B : Int} {l : List Co} {c : Co} {p : Nat} {q h : Int} {i : In} (r : Rc l c q h) (eq : q = p) (ei : c.ins[p]? = some i) (n : ¬ (tk i ≤ h ∧ (bare i = true → h = tk i))) : HR B l c none := by
  refine no_lo r fun lo => ?_
  obtain ⟨_, i', e', a, _, b⟩ := lo
  have : q.toNat = p := by omega
  rw [this, ei] at e'
  cases e'
  exact n ⟨a, b⟩
theorem bad_far {B : Int} {l : List Co} {c : Co} {q h : Int} (r : Rc l c q h) (n : (c.ins.length : Int) ≤ q ∨ 4096 < h) : HR B l c none := by
  refine no_lo r fun lo => ?_
  obtain ⟨h0, i', e', a, b, _⟩ := lo
  obtain ⟨hl, _⟩ := List.getElem?_eq_some_iff.1 e'
  omega
theorem bad_two {B : Int} {l : List Co} {c : Co} {hs ws : List Int} {pe : Int} (H : CI l c hs ws pe) {q : Nat} {h x : Int} (r : Rc l c q h) (e : hs[q]? = some x) (n1 : x ≠ -1) (n2 : x ≠ h) : HR B l c none := by
  rcases H.ok q x e with b | b
  · exact absurd b n1
  · exact no_eq b.2.2 r n2
theorem CI.begin {l : List Co} {c : Co} (h : 0 < c.ins.length) : CI l c (rhs (List.replicate c.ins.length (-1)) 0 0) (rws (List.replicate c.ins.length (-1)) [] 0) (-1) := by
  have e0 : (List.replicate c.ins.length (-1 : Int))[0]? = some (-1) := by rw [List.getElem?_replicate, if_pos h]
  have e1 : (rhs (List.replicate c.ins.length (-1)) 0 0)[0]? = some 0 := by
    unfold rhs
    rw [if_pos e0, List.getElem?_set_self (by simpa using h)]
  have hw : rws (List.replicate c.ins.length (-1)) [] 0 = [0] := by unfold rws; rw [if_pos e0]; rfl
  rw [hw]
  refine ⟨by rw [rhs_len]; simp, fun p x e => ?_, e1, fun p x i e n ei => ?_, fun q hq => ?_⟩
  · rcases rhs_at e with e | ⟨rfl, rfl, _⟩
    · rw [List.getElem?_replicate] at e
      split at e
      · exact .inl (Option.some.inj e).symm
      · cases e
    · exact .inr ⟨by omega, by omega, .zero⟩
  · rcases rhs_at e with e | ⟨rfl, rfl, _⟩
    · rw [List.getElem?_replicate] at e
      split at e
      · exact absurd (Option.some.inj e).symm n
      · cases e
    · exact .inl (by simp)
  · simp at hq
    exact ⟨0, hq, 0, e1, by omega⟩
end Go.Proofs.YtkjkiknpgggadaaDoor.Cd

namespace Go.Proofs.YtkjkiknpgggadaaDoor
open Go.RowKit
set_option linter.unusedVariables false

theorem cInt : (Tryd.prog.info? 3).map (fun i => (i.zero, i.size, i.bytes)) = some (some (.int .i64 0), 1, 8) := by kernel_rfl
abbrev nC (l : List Int) : List Value := l.map (Value.int .i64 ·)
theorem own_lat {w w' : World} {base size n : Nat} {e : TypeId} {v : Value} {xs : List Value} (h : w.ownsRow base e size v n xs) (hb : Below w.heap.size w w') : w'.ownsRow base e size v n xs :=
  World.ownsRow.kept h (row := none) ⟨hb.os, hb.tape, hb.output, hb.size, fun k hk _ => hb.block k hk⟩ (by
    rcases h.2 with ⟨rfl, _⟩ | ⟨g, cap, cur, rfl, _⟩
    · exact .inl rfl
    · exact .inr (by simp [Value.ownBlock]))
theorem own_shp {w : World} {base size n : Nat} {e : TypeId} {v : Value} {xs : List Value} (h : w.ownsRow base e size v n xs) : ∃ ao c, v = .slice ao n c := by
  rcases h.2 with ⟨rfl, rfl⟩ | ⟨g, cap, cur, rfl, _⟩
  · exact ⟨_, _, rfl⟩
  · exact ⟨_, _, rfl⟩
structure ClS (B : Nat) (w : World) (p gh : Nat) (la : Option Addr) (lc : Nat) (l : List Cd.Co) (ia : Option Addr) (ic : Nat) (c : Cd.Co) (hs ws : List Int) (wv : Value) : Prop where
  a : ClA B w p la lc l ia ic c (.slice (some ⟨gh, 0, none⟩) c.ins.length c.ins.length) wv
  hh : w.heap[gh]? = some (.cells (nC hs).toArray 3 (0, 0))
  hl : hs.length = c.ins.length
  ww : w.ownsRow (gh + 1) 3 1 wv ws.length (nC ws)
  pg : p < gh
  bp : B ≤ p
theorem ClS.later {B : Nat} {w w' : World} {p gh : Nat} {la : Option Addr} {lc : Nat} {l : List Cd.Co} {ia : Option Addr} {ic : Nat} {c : Cd.Co} {hs ws : List Int} {wv : Value} (h : ClS B w p gh la lc l ia ic c hs ws wv) (b : Below w.heap.size w w') : ClS B w' p gh la lc l ia ic c hs ws wv :=
  ⟨h.a.later b, (b.block gh (Array.getElem?_eq_some_iff.1 h.hh).1).trans h.hh, h.hl, own_lat h.ww b, h.pg, h.bp⟩
theorem ClS.ghl {B : Nat} {w : World} {p gh : Nat} {la : Option Addr} {lc : Nat} {l : List Cd.Co} {ia : Option Addr} {ic : Nat} {c : Cd.Co} {hs ws : List Int} {wv : Value} (h : ClS B w p gh la lc l ia ic c hs ws wv) : gh < w.heap.size := (Array.getElem?_eq_some_iff.1 h.hh).1
theorem ClS.hat {B : Nat} {w : World} {p gh : Nat} {la : Option Addr} {lc : Nat} {l : List Cd.Co} {ia : Option Addr} {ic : Nat} {c : Cd.Co} {hs ws : List Int} {wv : Value} (h : ClS B w p gh la lc l ia ic c hs ws wv) {q : Nat} {x : Int} (e : hs[q]? = some x) : w.cell? ⟨gh, q, none⟩ = some (.int .i64 x) ∧ w.frozen? ⟨gh, q, none⟩ = false := by
  constructor
  · simp [World.cell?, h.hh, e]
  · simp [World.frozen?, h.hh]
theorem nC_set (hs : List Int) (q : Nat) (x : Int) : ((nC hs).toArray.setIfInBounds q (.int .i64 x)) = (nC (hs.set q x)).toArray := by
  rw [List.setIfInBounds_toArray]
  simp [nC, List.map_set]
theorem oneB {base : Nat} {w : World} {o : Obj} (h : base ≤ w.heap.size) : Below base w (w.alloc o) := (Below.refl _ _).alloc h _
theorem ClS.push {B : Nat} {w w2 : World} {o : Obj} {p gh : Nat} {la : Option Addr} {lc : Nat} {l : List Cd.Co} {ia : Option Addr} {ic : Nat} {c : Cd.Co} {hs ws : List Int} {wv v2 : Value} (h : ClS B w p gh la lc l ia ic c hs ws wv) (q : Nat) (x : Int)
    (h2 : w2.ownsRow (gh + 1) 3 1 v2 (ws.length + 1) (nC ws ++ [.int .i64 (q : Int)])) (g2 : ((w.setCell ⟨gh, q, none⟩ (.int .i64 x)).alloc o).grownBy w2 wv.ownBlock) :
    ClS B (w2.setCell ⟨p, 6, none⟩ v2) p gh la lc l ia ic c (hs.set q x) (ws ++ [(q : Int)]) v2 ∧ Below p w (w2.setCell ⟨p, 6, none⟩ v2) ∧ w2.heap[p]? = w.heap[p]? ∧ w2.heap[gh]? = some (.cells (nC (hs.set q x)).toArray 3 (0, 0)) := by
  have pl := h.a.cl.lt
  have gl := h.ghl
  have hpg := h.pg
  have np : ∀ k, k ≤ gh → ¬ some k = wv.ownBlock := fun k hk e => by have := (World.ownsRow.lt h.ww k e.symm).1; omega
  have kb : ∀ k, k < w.heap.size → k ≤ gh → w2.heap[k]? = (w.setCell ⟨gh, q, none⟩ (.int .i64 x)).heap[k]? := fun k hk hg => by
    have e1 := g2.block k (by simp; omega) (np k hg)
    rw [e1]
    exact (oneB (base := (w.setCell ⟨gh, q, none⟩ (.int .i64 x)).heap.size) (Nat.le_refl _)).block k (by simp; omega)
  have kp : w2.heap[p]? = w.heap[p]? := (kb p pl (by omega)).trans (heap_setCell_other w _ p _ (by simp; omega))
  have kg : w2.heap[gh]? = some (.cells (nC (hs.set q x)).toArray 3 (0, 0)) := by
    rw [kb gh gl (Nat.le_refl _), heap_setCell_same _ _ _ _ _ _ h.hh, nC_set]
  have bp : Below p w (w2.setCell ⟨p, 6, none⟩ v2) := ⟨g2.os, g2.tape, g2.output, by have := g2.size; simp at this ⊢; omega, fun k hk => by
    rw [heap_setCell_other w2 _ k _ (by simp; omega), kb k (by omega) (by omega), heap_setCell_other w _ k _ (by simp; omega)]⟩
  have n2 : ¬ v2.ownBlock = some p := fun e => by have := (World.ownsRow.lt h2 _ e).1; omega
  refine ⟨⟨⟨Nat.le_trans h.a.hB bp.size, ?_, h.a.co.later (bp.mono h.bp), h.a.ok, h.a.tn.later (bp.mono h.bp), h.a.tm.later (bp.mono h.bp), h.a.is.later (bp.mono h.bp), h.a.ck⟩, ?_, by simp [h.hl], ?_, hpg, h.bp⟩, bp, kp, kg⟩
  · have := h.a.cl
    unfold Clm at this ⊢
    exact heap_setCell_same _ _ _ _ _ _ (kp.trans this)
  · rw [heap_setCell_other w2 _ gh _ (by simp; omega)]
    exact kg
  · have e : nC (ws ++ [(q : Int)]) = nC ws ++ [.int .i64 (q : Int)] := by simp [nC]
    rw [e, List.length_append]
    exact ownsRow_setCell_other h2 n2 _
def RcP (B : Nat) (p gh : Nat) (la : Option Addr) (lc : Nat) (l : List Cd.Co) (ia : Option Addr) (ic : Nat) (c : Cd.Co) (w : World) (b : Bool) (hs ws : List Int) (e : Ending) (w' : World) : Prop :=
  e = .returned (.bool b) ∧ Below p w w' ∧ ∃ wv, ClS B w' p gh la lc l ia ic c hs ws wv
set_option maxRecDepth 100000 in
set_option maxHeartbeats 4000000 in
theorem cdReach_no (q h : Int) (B p gh : Nat) (la : Option Addr) (lc : Nat) (l : List Cd.Co) (ia : Option Addr) (ic : Nat) (c : Cd.Co) (hs ws : List Int) (wv : Value) (w : World) (H : ClS B w p gh la lc l ia ic c hs ws wv) (hn : (c.ins.length : Int) ≤ q ∨ 4096 < h) :
    Calls Tryd.prog 90 #[.pointer (some ⟨p, 0, none⟩), .int .i64 q, .int .i64 h] w (RcP B p gh la lc l ia ic c w false hs ws) := by
  have p1 := H.a.cl.cell.2.1
  have HH : Hid (ClS B w p gh la lc l ia ic c hs ws wv) := H
  clear H
  by_cases h1 : (c.ins.length : Int) ≤ q
  · clear hn
    generalize c.ins.length = n at p1 h1
    go_enter Tryd.func90, Tryd.ntmps90
    go_wp2_with fail
    go_ret
    exact ⟨rfl, Below.refl _ _, _, HH.out⟩
  · have h2 : 4096 < h := by omega
    clear hn
    generalize c.ins.length = n at p1 h1
    go_enter Tryd.func90, Tryd.ntmps90
    go_wp2_with fail
    go_ret
    exact ⟨rfl, Below.refl _ _, _, HH.out⟩
set_option maxRecDepth 100000 in
set_option maxHeartbeats 4000000 in
theorem cdReach_old (q : Nat) (h x : Int) (B p gh : Nat) (la : Option Addr) (lc : Nat) (l : List Cd.Co) (ia : Option Addr) (ic : Nat) (c : Cd.Co) (hs ws : List Int) (wv : Value) (w : World) (H : ClS B w p gh la lc l ia ic c hs ws wv) (hx : hs[q]? = some x) (h1 : h ≤ 4096) (h2 : x ≠ -1) :
    Calls Tryd.prog 90 #[.pointer (some ⟨p, 0, none⟩), .int .i64 q, .int .i64 h] w (RcP B p gh la lc l ia ic c w (x == h) hs ws) := by
  have p1 := H.a.cl.cell.2.1
  have p5 := H.a.cl.cell.2.2.2.2.2.1
  have c0 := (H.hat hx).1
  have ql : q < c.ins.length := by rw [← H.hl]; exact (List.getElem?_eq_some_iff.1 hx).1
  have HH : Hid (ClS B w p gh la lc l ia ic c hs ws wv) := H
  have e1 : (x == -1) = false := beq_eq_false_iff_ne.2 h2
  clear H hx h2
  generalize c.ins.length = n at p1 p5 ql
  have g1 : (q : Int) < (n : Int) := by omega
  have g0 : (0 : Int) ≤ (q : Int) := by omega
  go_enter Tryd.func90, Tryd.ntmps90
  go_wp2_with fail
  go_ret
  exact ⟨rfl, Below.refl _ _, _, HH.out⟩
set_option maxRecDepth 100000 in
set_option maxHeartbeats 4000000 in
theorem cdReach_new (q : Nat) (h : Int) (B p gh : Nat) (la : Option Addr) (lc : Nat) (l : List Cd.Co) (ia : Option Addr) (ic : Nat) (c : Cd.Co) (hs ws : List Int) (wv : Value) (w : World) (H : ClS B w p gh la lc l ia ic c hs ws wv) (hx : hs[q]? = some (-1)) (h1 : h ≤ 4096) (hw : ws.length ≤ 1000000) :
    Calls Tryd.prog 90 #[.pointer (some ⟨p, 0, none⟩), .int .i64 q, .int .i64 h] w (RcP B p gh la lc l ia ic c w true (hs.set q h) (ws ++ [(q : Int)])) := by
  obtain ⟨i0, hi, hz0, hz1, hz2⟩ := info_parts cInt
  have p1 := H.a.cl.cell.2.1
  have p5 := H.a.cl.cell.2.2.2.2.2.1
  have p6 := H.a.cl.cell.2.2.2.2.2.2
  have fp := H.a.cl.frozen 6
  have c0 := (H.hat hx).1
  have f0 := (H.hat hx).2
  have ql : q < c.ins.length := by rw [← H.hl]; exact (List.getElem?_eq_some_iff.1 hx).1
  have pl := H.a.cl.lt
  have gl := H.ghl
  have hpg : ¬ p = gh := by have := H.pg; omega
  have hgp : ¬ gh = p := by have := H.pg; omega
  have HH : Hid (ClS B w p gh la lc l ia ic c hs ws wv) := H
  have HX : Hid (hs[q]? = some (-1)) := hx
  have HO : Hid (w.ownsRow (gh + 1) 3 1 wv ws.length (nC ws)) := H.ww
  have HW : Hid (ws.length ≤ 1000000) := hw
  clear H hx hw
  generalize hnn : c.ins.length = n at p1 p5 ql
  have HNN : Hid (c.ins.length = n) := hnn
  clear hnn
  have g1 : (q : Int) < (n : Int) := by omega
  have g0 : (0 : Int) ≤ (q : Int) := by omega
  obtain ⟨W1, hW1⟩ : ∃ W1, W1 = w.setCell ⟨gh, q, none⟩ (.int .i64 h) := ⟨_, rfl⟩
  have ho1 : W1.ownsRow (gh + 1) 3 1 wv ws.length (nC ws) := by rw [hW1]; exact ownsRow_setCell_below HO.out (by simp) _
  have y6 : W1.cell? ⟨p, 6, none⟩ = some wv := by rw [hW1, World.cell?_setCell_other _ _ _ _ (by simp)]; exact p6
  have y1 : gh < W1.heap.size := by rw [hW1]; simpa using gl
  have HW1 : Hid (W1 = w.setCell ⟨gh, q, none⟩ (.int .i64 h)) := hW1
  go_enter Tryd.func90, Tryd.ntmps90
  go_upto_region 5 with fail
  rw [← hW1]
  clear hW1
  go_wp2_with (at_builtin; refine wpList_append_own _ rfl _ _ 96 rfl (gh + 1) 3 i0 (.int .i64 0) 1 8 Tryd.underlying96 hi hz0 hz1 hz2 rfl (by decide) _ _ _ rfl (World.ownsRow.alloc ho1 _) ⟨W1.heap.size, 0, none⟩ 1 1 [.int .i64 (q : Int)] rfl (by simp) ?c1 ?c2 ?c3 ?c4 ?c5 ?_)
  case c1 =>
    intro j u hj
    match j, hj with
    | 0, hj => simp at hj; subst hj; simp [Addr.add]
  case c2 => intro u hu; simp at hu; subst hu; rfl
  case c3 => have := HW.out; unfold maxLen; omega
  case c4 => have := HW.out; omega
  case c5 => simp; omega
  intro v' w2 hown' hgrow _
  obtain ⟨ao, cc, rfl⟩ := own_shp hown'
  rw [HW1.out] at hgrow
  obtain ⟨R, RB, kp, kg⟩ := HH.out.push q h hown' hgrow
  have z5 : w2.cell? ⟨p, 5, none⟩ = some (.slice (some ⟨gh, 0, none⟩) n n) := (World.cell?_of_block (w := w) (a := ⟨p, 5, none⟩) kp).trans p5
  have z6 : w2.cell? ⟨p, 6, none⟩ = some wv := (World.cell?_of_block (w := w) (a := ⟨p, 6, none⟩) kp).trans p6
  have zf : w2.frozen? ⟨p, 6, none⟩ = false := (World.frozen?_of_block (w := w) (a := ⟨p, 6, none⟩) kp).trans fp
  have zg : w2.cell? ⟨gh, q, none⟩ = some (.int .i64 h) := by
    have ql2 : q < hs.length := (List.getElem?_eq_some_iff.1 HX.out).1
    simp [World.cell?, kg, ql2]
  have RR : Hid _ := R
  have RRB : Hid _ := RB
  have eh : (h == h) = true := beq_self_eq_true _
  clear R RB kp kg hown' hgrow ho1
  go_wp2_with fail
  go_ret
  exact ⟨rfl, RRB.out, _, RR.out⟩
end Go.Proofs.YtkjkiknpgggadaaDoor

namespace Go.Proofs.YtkjkiknpgggadaaDoor
open Go.RowKit
set_option linter.unusedVariables false

theorem tell_own {P : Program} {w : World} {base : Nat} {t ty e : TypeId} {i : TypeInfo} {z : Value} {size bytes : Nat} (ht : P.underlying t = some (.slice e)) (hi : P.info? e = some i) (hz : i.zero = some z)
    (hsize : i.size = size) (hby : i.bytes = bytes) {v : Value} {n : Nat} {xs : List Value} (hown : w.ownsRow base e size v n xs)
    {a : Addr} {m c : Nat} {news : List Value} (hl : news.length = m * size) (hnews : ∀ j u, news[j]? = some u → w.cell? (a.add j) = some u) (h1 : ∀ u ∈ news, u.oneCell' = true)
    (h63 : n + m ≤ maxLen) (hbytes : (n + m) * bytes ≤ 140737488355328) (hm : 0 < m) {v' : Value} {w' : World} (hr : (Builtin.append_ #[t, t] ty #[v, .slice (some a) m c]).run P w = .ok v' w') :
    v'.ownBlock = v.ownBlock ∨ ∃ g, v'.ownBlock = some g ∧ w.heap.size ≤ g := by
  subst hsize
  subst hby
  have hsmall : n + m ≤ 9223372036854775807 := by simp only [maxLen] at h63; omega
  rcases hown.2 with ⟨rfl, rfl⟩ | ⟨g, cap, cur, rfl, hbg, hg, hnc, hcm, hcs, htake⟩
  · have hx := run_append_nil (P := P) w t ty e i z ht hi hz a m c news hl hnews (by omega) (by omega) (by have hb := hbytes; simp only [Nat.zero_add] at hb; omega)
    rw [hr] at hx
    cases hx
    exact .inr ⟨_, rfl, Nat.le_refl _⟩
  · by_cases hroom : n + m ≤ cap
    · have hfit : n * i.size + news.length ≤ cur.size := by rw [hl, hcs, ← Nat.add_mul]; exact Nat.mul_le_mul_right _ hroom
      have hx := run_append_room (P := P) w t ty e i ht hi g n cap cur hg a m c news hl hnews h1 hroom hfit
      rw [hr] at hx
      cases hx
      exact .inl rfl
    · have holds : ∀ j u, xs[j]? = some u → w.cell? ((⟨g, 0, none⟩ : Addr).add j) = some u := hown.cells (g := g) rfl
      have hx := run_append_grow (P := P) w t ty e i z ht hi hz ⟨g, 0, none⟩ n cap xs hown.1 holds a m c news hl hnews (by omega) (by omega) (growslice_fits (by omega) hbytes)
      rw [hr] at hx
      cases hx
      exact .inr ⟨_, rfl, Nat.le_refl _⟩
theorem wp_app_t {P : Program} {w : World} {o : Oper} {a : Act} {K : Act → World → Prop} {Q : Exit → Act → World → Prop} (s x : Operand) (t : TypeId)
    (ho : o.op = .call { callee := .builtin .append, args := #[s, x], argTypes := #[t, t] })
    (base : Nat) (e : TypeId) (i : TypeInfo) (z : Value) (size bytes : Nat) (ht : P.underlying t = some (.slice e)) (hi : P.info? e = some i) (hz : i.zero = some z)
    (hsize : i.size = size) (hby : i.bytes = bytes) (hzs : z.cells.size = size) (hsz : 0 < size)
    (v : Value) (n : Nat) (xs : List Value) (hs : a.eval s = v) (hown : w.ownsRow base e size v n xs)
    (ad : Addr) (m c : Nat) (news : List Value) (hx : a.eval x = .slice (some ad) m c) (hl : news.length = m * size) (hnews : ∀ j u, news[j]? = some u → w.cell? (ad.add j) = some u) (h1 : ∀ u ∈ news, u.oneCell' = true)
    (h63 : n + m ≤ maxLen) (hbytes : (n + m) * bytes ≤ 140737488355328) (hbase : base ≤ w.heap.size) (hm : 0 < m)
    (h : ∀ v' w', w'.ownsRow base e size v' (n + m) (xs ++ news) → w.grownBy w' v.ownBlock → (v'.ownBlock = v.ownBlock ∨ ∃ g, v'.ownBlock = some g ∧ w.heap.size ≤ g) → K (a.put o.dst v') w') : o.wp P a w K Q := by
  obtain ⟨v', w', hr, h2, h3, _⟩ := run_append_own (P := P) w base t o.type e i z size bytes ht hi hz hsize hby hzs hsz v n xs hown ad m c news hl hnews h1 h63 hbytes hbase
  have h5 := tell_own ht hi hz hsize hby hown hl hnews h1 h63 hbytes hm hr
  unfold Oper.wp execOp
  simp only [ho, resolve, invoke, builtin, Sem.run_bind, Sem.run_pure, Result.andThen_ok, List.map_toArray, List.map_cons, List.map_nil, hs, hx, hr]
  exact h v' w' h2 h3 h5
theorem wpList_app_t {P : Program} {w : World} {ops : Array Oper} {rest : List Oper} {o : Oper} {a : Act} {Q : Exit → Act → World → Prop} (hgd : o.guard = none) (s x : Operand) (t : TypeId)
    (ho : o.op = .call { callee := .builtin .append, args := #[s, x], argTypes := #[t, t] })
    (base : Nat) (e : TypeId) (i : TypeInfo) (z : Value) (size bytes : Nat) (ht : P.underlying t = some (.slice e)) (hi : P.info? e = some i) (hz : i.zero = some z)
    (hsize : i.size = size) (hby : i.bytes = bytes) (hzs : z.cells.size = size) (hsz : 0 < size)
    (v : Value) (n : Nat) (xs : List Value) (hs : a.eval s = v) (hown : w.ownsRow base e size v n xs)
    (ad : Addr) (m c : Nat) (news : List Value) (hx : a.eval x = .slice (some ad) m c) (hl : news.length = m * size) (hnews : ∀ j u, news[j]? = some u → w.cell? (ad.add j) = some u) (h1 : ∀ u ∈ news, u.oneCell' = true)
    (h63 : n + m ≤ maxLen) (hbytes : (n + m) * bytes ≤ 140737488355328) (hbase : base ≤ w.heap.size) (hm : 0 < m)
    (h : ∀ v' w', w'.ownsRow base e size v' (n + m) (xs ++ news) → w.grownBy w' v.ownBlock → (v'.ownBlock = v.ownBlock ∨ ∃ g, v'.ownBlock = some g ∧ w.heap.size ≤ g) → wpList P ops Q rest (a.put o.dst v') w') : wpList P ops Q (o :: rest) a w :=
  wpList_plain hgd fun _ hK => wp_app_t s x t ho base e i z size bytes ht hi hz hsize hby hzs hsz v n xs hs hown ad m c news hx hl hnews h1 h63 hbytes hbase hm fun v' w' h2 h3 h4 => hK _ _ (h v' w' h2 h3 h4)
structure Rw where
  e : TypeId
  sz : Nat
  v : Value
  n : Nat
  xs : List Value
def Rw.Own (r : Rw) (w : World) (base : Nat) : Prop := w.ownsRow base r.e r.sz r.v r.n r.xs
def Apt (r s : Value) : Prop := ∀ g, r.ownBlock = some g → ¬ s.ownBlock = some g
theorem Apt.symm {r s : Value} (h : Apt r s) : Apt s r := fun g a b => h g b a
structure Gh where
  w : World
  b : Nat → Prop
  lo : Nat
def Gn (G : Gh) (v : Value) : Prop := ∀ k, v.ownBlock = some k → G.b k ∨ G.w.heap.size ≤ k
structure Gk (G : Gh) (base : Nat) (w : World) : Prop where
  sz : G.w.heap.size ≤ w.heap.size
  eq : ∀ k, k < G.w.heap.size → k + 1 ≠ base → ¬ G.b k → w.heap[k]? = G.w.heap[k]?
theorem Gk.later {G : Gh} {base : Nat} {w w' : World} (h : Gk G base w) (y : Below w.heap.size w w') : Gk G base w' := ⟨Nat.le_trans h.sz y.size, fun k hk n b => (y.block k (Nat.lt_of_lt_of_le hk h.sz)).trans (h.eq k hk n b)⟩
structure VmR (G : Gh) (w : World) (base : Nat) (a b c d : Rw) : Prop where
  oa : a.Own w base
  ob : b.Own w base
  oc : c.Own w base
  od : d.Own w base
  ab : Apt a.v b.v
  ac : Apt a.v c.v
  ad : Apt a.v d.v
  bc : Apt b.v c.v
  bd : Apt b.v d.v
  cd : Apt c.v d.v
  gk : Gk G base w
  ga : Gn G a.v
  gb : Gn G b.v
  gc : Gn G c.v
  gd : Gn G d.v
theorem VmR.swap1 {G : Gh} {w : World} {base : Nat} {a b c d : Rw} (h : VmR G w base a b c d) : VmR G w base b a c d := ⟨h.ob, h.oa, h.oc, h.od, h.ab.symm, h.bc, h.bd, h.ac, h.ad, h.cd, h.gk, h.gb, h.ga, h.gc, h.gd⟩
theorem VmR.swap2 {G : Gh} {w : World} {base : Nat} {a b c d : Rw} (h : VmR G w base a b c d) : VmR G w base c b a d := ⟨h.oc, h.ob, h.oa, h.od, h.bc.symm, h.ac.symm, h.cd, h.ab.symm, h.bd, h.ad, h.gk, h.gc, h.gb, h.ga, h.gd⟩
theorem VmR.swap3 {G : Gh} {w : World} {base : Nat} {a b c d : Rw} (h : VmR G w base a b c d) : VmR G w base d b c a := ⟨h.od, h.ob, h.oc, h.oa, h.bd.symm, h.cd.symm, h.ad.symm, h.bc, h.ab.symm, h.ac.symm, h.gk, h.gd, h.gb, h.gc, h.ga⟩
theorem Rw.kept {w w' : World} {base : Nat} {r : Rw} (h : r.Own w base) {o : Option Nat} (g : w.grownBy w' o) (hn : ∀ k, r.v.ownBlock = some k → ¬ o = some k) : r.Own w' base := by
  refine World.ownsRow.kept h g ?_
  rcases h.2 with ⟨hv, _⟩ | ⟨k, cap, cur, hv, _⟩
  · exact .inl (by rw [hv]; rfl)
  · have e : r.v.ownBlock = some k := by rw [hv]; rfl
    refine .inr ?_
    rw [e]
    exact fun e2 => hn k e e2.symm
theorem VmR.later {G : Gh} {w w' : World} {base : Nat} {a b c d : Rw} (h : VmR G w base a b c d) (y : Below w.heap.size w w') : VmR G w' base a b c d :=
  ⟨own_lat h.oa y, own_lat h.ob y, own_lat h.oc y, own_lat h.od y, h.ab, h.ac, h.ad, h.bc, h.bd, h.cd, h.gk.later y, h.ga, h.gb, h.gc, h.gd⟩
theorem VmR.grow {G : Gh} {w X w8 : World} {base : Nat} {a b c d : Rw} (h : VmR G w base a b c d) (y : Below w.heap.size w X) {v' : Value} {n' : Nat} {xs' : List Value} (h8 : w8.ownsRow base a.e a.sz v' n' xs') (g8 : X.grownBy w8 a.v.ownBlock) (o8 : v'.ownBlock = a.v.ownBlock ∨ ∃ g, v'.ownBlock = some g ∧ X.heap.size ≤ g) : VmR G w8 base ⟨a.e, a.sz, v', n', xs'⟩ b c d := by
  have h1 := h.later y
  have apt : ∀ r : Rw, r.Own X base → Apt a.v r.v → Apt v' r.v := fun r hr hA g e e2 => by
    rcases o8 with o | ⟨k, o, hk⟩
    · exact hA g (o.symm.trans e) e2
    · rw [o] at e
      cases e
      have := (World.ownsRow.lt hr _ e2).2
      omega
  have gk8 : Gk G base w8 := ⟨Nat.le_trans h1.gk.sz g8.size, fun k hk n nb => (g8.block k (Nat.lt_of_lt_of_le hk h1.gk.sz) (fun e => by
    rcases h1.ga k e.symm with e2 | e2
    · exact nb e2
    · omega)).trans (h1.gk.eq k hk n nb)⟩
  have ga8 : Gn G v' := fun k e => by
    rcases o8 with o | ⟨k', o, hk'⟩
    · exact h1.ga k (o.symm.trans e)
    · rw [o] at e
      cases e
      exact .inr (Nat.le_trans h1.gk.sz hk')
  exact ⟨h8, Rw.kept h1.ob g8 (fun k e e2 => h1.ab k e2 e), Rw.kept h1.oc g8 (fun k e e2 => h1.ac k e2 e), Rw.kept h1.od g8 (fun k e e2 => h1.ad k e2 e), apt b h1.ob h1.ab, apt c h1.oc h1.ac, apt d h1.od h1.ad, h1.bc, h1.bd, h1.cd, gk8, ga8, h1.gb, h1.gc, h1.gd⟩
theorem VmR.below {G : Gh} {w : World} {m k : Nat} {a b c d : Rw} (h : VmR G w (m + 1) a b c d) (u : Value) : VmR G (w.setCell ⟨m, k, none⟩ u) (m + 1) a b c d := by
  have one : ∀ r : Rw, r.Own w (m + 1) → r.Own (w.setCell ⟨m, k, none⟩ u) (m + 1) := fun r hr => ownsRow_setCell_below hr (by simp) _
  exact ⟨one a h.oa, one b h.ob, one c h.oc, one d h.od, h.ab, h.ac, h.ad, h.bc, h.bd, h.cd, ⟨by simpa using h.gk.sz, fun j hj n nb => (heap_setCell_other _ _ j _ (by simp; omega)).trans (h.gk.eq j hj n nb)⟩, h.ga, h.gb, h.gc, h.gd⟩
theorem VmR.cut {G : Gh} {w : World} {base : Nat} {a b c d : Rw} (h : VmR G w base a b c d) {v' : Value} {n' : Nat} {xs' : List Value} (h8 : w.ownsRow base a.e a.sz v' n' xs') (o8 : ∀ g, v'.ownBlock = some g → a.v.ownBlock = some g) : VmR G w base ⟨a.e, a.sz, v', n', xs'⟩ b c d :=
  ⟨h8, h.ob, h.oc, h.od, fun g e => h.ab g (o8 g e), fun g e => h.ac g (o8 g e), fun g e => h.ad g (o8 g e), h.bc, h.bd, h.cd, h.gk, fun k e => h.ga k (o8 k e), h.gb, h.gc, h.gd⟩
end Go.Proofs.YtkjkiknpgggadaaDoor

namespace Go.Proofs.YtkjkiknpgggadaaDoor
open Go.RowKit
set_option linter.unusedVariables false

def NuS (B : Nat) (w : World) (a : Option Addr) (l : List Int) : Prop := 0 < l.length → ∃ g o, a = some ⟨g, o, none⟩ ∧ g < B ∧ ∀ j x, l[j]? = some x → w.cell? ⟨g, o + j, none⟩ = some (.int .i64 x)
theorem NuS.later {B : Nat} {w w' : World} {a : Option Addr} {l : List Int} (h : NuS B w a l) (b : Below B w w') : NuS B w' a l := fun h0 => by
  obtain ⟨g, o, e, hg, hc⟩ := h h0
  exact ⟨g, o, e, hg, fun j x hx => (b.cell (p := ⟨g, _, none⟩) hg).trans (hc j x hx)⟩
def InW (lo hi : Nat) (w : World) (a : Option Addr) (l : List Cd.In) : Prop := l.length ≤ 1000000000000000 ∧ (0 < l.length → ∃ g o, a = some ⟨g, o, none⟩ ∧ lo ≤ g ∧ g < hi ∧ ∀ j i, l[j]? = some i → InAt w g (o + j * 3) i)
structure CoX (lo hi : Nat) (w : World) (g o : Nat) (c : Cd.Co) (ia : Option Addr) (ic : Nat) : Prop where
  c0 : w.cell? ⟨g, o, none⟩ = some (.slice ia c.ins.length ic)
  c1 : w.cell? ⟨g, o + 1, none⟩ = some (.int .i64 c.cells)
  c2 : w.cell? ⟨g, o + 2, none⟩ = some (.int .i64 c.params)
  c3 : w.cell? ⟨g, o + 3, none⟩ = some (.bool c.ans)
  hi : InW lo hi w ia c.ins
  hc : c.ins.length ≤ ic
def CoW (lo hi : Nat) (w : World) (a : Option Addr) (l : List Cd.Co) : Prop := l.length ≤ 1000000000000000 ∧ (0 < l.length → ∃ g o, a = some ⟨g, o, none⟩ ∧ lo ≤ g ∧ g < hi ∧ ∀ j c, l[j]? = some c → ∃ ia ic, CoX lo hi w g (o + j * 4) c ia ic)
def NuW (lo hi : Nat) (w : World) (a : Option Addr) (l : List Int) : Prop := 0 < l.length → ∃ g o, a = some ⟨g, o, none⟩ ∧ lo ≤ g ∧ g < hi ∧ ∀ j x, l[j]? = some x → w.cell? ⟨g, o + j, none⟩ = some (.int .i64 x)
def Kpt (lo hi : Nat) (w w' : World) : Prop := ∀ b, lo ≤ b → b < hi → w'.heap[b]? = w.heap[b]?
theorem Kpt.cell {lo hi : Nat} {w w' : World} (h : Kpt lo hi w w') {g o : Nat} (h1 : lo ≤ g) (h2 : g < hi) : w'.cell? ⟨g, o, none⟩ = w.cell? ⟨g, o, none⟩ := World.cell?_of_block (w := w) (a := ⟨g, o, none⟩) (h g h1 h2)
theorem bl_kpt {lo hi : Nat} {w w' : World} (h : Below hi w w') : Kpt lo hi w w' := fun b _ h2 => h.block b h2
theorem InW.s {lo hi : Nat} {w : World} {a : Option Addr} {l : List Cd.In} (h : InW lo hi w a l) : InS hi w a l := ⟨h.1, fun h0 => by
  obtain ⟨g, o, e, _, h2, h3⟩ := h.2 h0
  exact ⟨g, o, e, h2, h3⟩⟩
theorem InW.keep {lo hi : Nat} {w w' : World} {a : Option Addr} {l : List Cd.In} (h : InW lo hi w a l) (k : Kpt lo hi w w') : InW lo hi w' a l := ⟨h.1, fun h0 => by
  obtain ⟨g, o, e, h1, h2, h3⟩ := h.2 h0
  refine ⟨g, o, e, h1, h2, fun j i hj => ?_⟩
  have q := h3 j i hj
  exact ⟨(k.cell h1 h2).trans q.c0, (k.cell h1 h2).trans q.c1, (k.cell h1 h2).trans q.c2⟩⟩
theorem InW.mono {lo hi lo' hi' : Nat} {w : World} {a : Option Addr} {l : List Cd.In} (h : InW lo hi w a l) (h1 : lo' ≤ lo) (h2 : hi ≤ hi') : InW lo' hi' w a l := ⟨h.1, fun h0 => by
  obtain ⟨g, o, e, a, b, h3⟩ := h.2 h0
  exact ⟨g, o, e, by omega, by omega, h3⟩⟩
theorem CoX.keep {lo hi : Nat} {w w' : World} {g o : Nat} {c : Cd.Co} {ia : Option Addr} {ic : Nat} (h : CoX lo hi w g o c ia ic) (h1 : lo ≤ g) (h2 : g < hi) (k : Kpt lo hi w w') : CoX lo hi w' g o c ia ic :=
  ⟨(k.cell h1 h2).trans h.c0, (k.cell h1 h2).trans h.c1, (k.cell h1 h2).trans h.c2, (k.cell h1 h2).trans h.c3, h.hi.keep k, h.hc⟩
theorem CoW.s {lo hi : Nat} {w : World} {a : Option Addr} {l : List Cd.Co} (h : CoW lo hi w a l) : CoS hi w a l := ⟨h.1, fun h0 => by
  obtain ⟨g, o, e, _, h2, h3⟩ := h.2 h0
  refine ⟨g, o, e, h2, fun j c hj => ?_⟩
  obtain ⟨ia, ic, q⟩ := h3 j c hj
  exact ⟨ia, ic, q.c0, q.c1, q.c2, q.c3, q.hi.s, q.hc⟩⟩
theorem CoW.keep {lo hi : Nat} {w w' : World} {a : Option Addr} {l : List Cd.Co} (h : CoW lo hi w a l) (k : Kpt lo hi w w') : CoW lo hi w' a l := ⟨h.1, fun h0 => by
  obtain ⟨g, o, e, h1, h2, h3⟩ := h.2 h0
  refine ⟨g, o, e, h1, h2, fun j c hj => ?_⟩
  obtain ⟨ia, ic, q⟩ := h3 j c hj
  exact ⟨ia, ic, q.keep h1 h2 k⟩⟩
theorem CoW.mono {lo hi lo' hi' : Nat} {w : World} {a : Option Addr} {l : List Cd.Co} (h : CoW lo hi w a l) (h1 : lo' ≤ lo) (h2 : hi ≤ hi') : CoW lo' hi' w a l := ⟨h.1, fun h0 => by
  obtain ⟨g, o, e, a, b, h3⟩ := h.2 h0
  refine ⟨g, o, e, by omega, by omega, fun j c hj => ?_⟩
  obtain ⟨ia, ic, q⟩ := h3 j c hj
  exact ⟨ia, ic, q.c0, q.c1, q.c2, q.c3, q.hi.mono h1 h2, q.hc⟩⟩
theorem NuW.s {lo hi : Nat} {w : World} {a : Option Addr} {l : List Int} (h : NuW lo hi w a l) : NuS hi w a l := fun h0 => by
  obtain ⟨g, o, e, _, h2, h3⟩ := h h0
  exact ⟨g, o, e, h2, h3⟩
theorem NuW.keep {lo hi : Nat} {w w' : World} {a : Option Addr} {l : List Int} (h : NuW lo hi w a l) (k : Kpt lo hi w w') : NuW lo hi w' a l := fun h0 => by
  obtain ⟨g, o, e, h1, h2, h3⟩ := h h0
  exact ⟨g, o, e, h1, h2, fun j x hj => (k.cell h1 h2).trans (h3 j x hj)⟩
theorem NuW.mono {lo hi lo' hi' : Nat} {w : World} {a : Option Addr} {l : List Int} (h : NuW lo hi w a l) (h1 : lo' ≤ lo) (h2 : hi ≤ hi') : NuW lo' hi' w a l := fun h0 => by
  obtain ⟨g, o, e, a, b, h3⟩ := h h0
  exact ⟨g, o, e, by omega, by omega, h3⟩
theorem CoW.later {lo hi : Nat} {w w' : World} {a : Option Addr} {l : List Cd.Co} (h : CoW lo hi w a l) (b : Below hi w w') : CoW lo hi w' a l := h.keep (bl_kpt b)
theorem NuW.later {lo hi : Nat} {w w' : World} {a : Option Addr} {l : List Int} (h : NuW lo hi w a l) (b : Below hi w w') : NuW lo hi w' a l := h.keep (bl_kpt b)
theorem CoW.at {lo hi : Nat} {w : World} {a : Option Addr} {l : List Cd.Co} (h : CoW lo hi w a l) {j : Nat} {c : Cd.Co} (e : l[j]? = some c) : ∃ g o ia ic, a = some ⟨g, o, none⟩ ∧ g < hi ∧ CoAt hi w g (o + j * 4) c ia ic := h.s.at e
end Go.Proofs.YtkjkiknpgggadaaDoor

namespace Go.Proofs.YtkjkiknpgggadaaDoor.Pl
open Go.RowKit

def onHead (c : UInt8) : List (List UInt8) → List (List UInt8)
  | [] => [[c]]
  | h :: r => (c :: h) :: r
def ws : List UInt8 → List (List UInt8)
  | [] => [[]]
  | c :: t => if c = 32 then [] :: ws t else onHead c (ws t)
theorem join_cons2 (x y : List UInt8) (r : List (List UInt8)) : Lib.join (x :: y :: r) [32] = x ++ 32 :: Lib.join (y :: r) [32] := by
  rw [Lib.join_cons, Lib.join_cons]
  simp [Lib.joinTail]
end Go.Proofs.YtkjkiknpgggadaaDoor.Pl

