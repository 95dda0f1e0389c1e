/- Layer 9: the document's machine: Step. -/
/- Layer 9, plain: both machines, step by step. -/
/- Layer 9: the document's machine with all that belongs to it, beside the program's. -/
import Derived.Test.YtkjkiknpgggadaaDoorSVmOz
import Derived.Deep.LoopGhost
import Derived.Test.YtkjkiknpgggadaaDoorSVmQu
import Derived.Test.YtkjkiknpgggadaaDoorSVmRc
namespace Go.Proofs.YtkjkiknpgggadaaDoor
open Go.RowKit
set_option linter.unusedVariables false
set_option linter.unusedSimpArgs false

theorem ron_ev (R : Vm.Rm) (gs : List Vm.Rf) (g : Vm.Rf) (i : Cd.In) : (Vm.ron R gs g i).1.events.length ≤ R.events.length + 1 := by
  unfold Vm.ron Vm.rend Vm.rbeg
  repeat' split
  all_goals simp
structure RsI (G : Gh) (r : Nat) (w : World) (B : Int) (R : Vm.Rm) (gk j : Nat) (N : Vm.Rm) (U : RmV) (wr : World) : Prop where
  s : RmS G r wr U N
  b : Below r w wr
  go : Vm.rgo gk (j : Int) N = Vm.rgo 1048576 0 R
  wf : N.ended = false → Vm.RW B N ∧ Vm.RB N
  ev : N.events.length + gk + 2 ≤ 1000000000
def RsL (G : Gh) (r : Nat) (w : World) (B : Int) (R : Vm.Rm) (gk : Nat) (i : Value) (wr : World) : Prop := ∃ (j : Nat), i = .int .i64 j ∧ j + gk = 1048576 ∧ ∃ N U, Hid (RsI G r w B R gk j N U wr)
set_option maxRecDepth 100000 in
set_option maxHeartbeats 16000000 in
theorem rStep (G : Gh) (r : Nat) (w : World) (U : RmV) (R : Vm.Rm) (B : Int) (h : RmS G r w U R) (wf : Vm.RW B R) (rb : Vm.RB R) (hr : R.ended = false) (he : R.events.length + 1048580 ≤ 1000000000) :
    Calls Tryd.prog 9 #[.pointer (some ⟨r, 0, none⟩), .int .i64 1048576] w fun e w' => e = .returned (.bool (Vm.rstep R).2) ∧ RmQ G r w w' (Vm.rstep R).1 := by
  have ST : Hid (RsI G r w B R 1048576 0 R U w) := ⟨h, Below.refl _ _, rfl, fun _ => ⟨wf, rb⟩, by omega⟩
  clear h wf rb hr he
  go_enter Tryd.func9, Tryd.ntmps9
  go_wp2_with fail
  go_loopg [5] 1048576 (fun gk i wr => RsL G r w B R gk i wr)
  case atStart => exact ⟨0, rfl, rfl, R, U, ST⟩
  case round =>
    obtain ⟨j, rfl, hj, N, U1, SI⟩ := hrel
    clear ST
    have OUT : Hid (N.ended = true → Vm.rgo gk (j : Int) N = (N, false) → Ending.returned (.bool false) = .returned (.bool (Vm.rstep R).2) ∧ RmQ G r w wr (Vm.rstep R).1) := fun h1 h2 => by
      have e := SI.out.go
      rw [h2] at e
      unfold Vm.rstep
      rw [← e]
      dsimp only
      rw [if_neg (by simp), h1]
      exact ⟨rfl, SI.out.b, U1, SI.out.s⟩
    have c11 := SI.out.s.cell.2.2.2.2.2.2.2.1
    cases hen : N.ended with
    | true =>
      have FIN := hid_of (OUT.out hen (Vm.rgo_ended gk _ _ hen))
      rw [hen] at c11
      clear OUT SI hen
      by_cases hlt : (j : Int) < 1048576
      · have dj : decide ((j : Int) < 1048576) = true := decide_eq_true hlt
        go_wp2_with fail
        refine bodyPost_ret (v := .bool false) (by simp [results, Tryd.results9, go_sem]) rfl ?_
        exact FIN.out
      · have dj : decide ((j : Int) < 1048576) = false := decide_eq_false hlt
        go_wp2_with fail
        refine bodyPost_ret (v := .bool false) (by simp [results, Tryd.results9, go_sem]) rfl ?_
        exact FIN.out
    | false =>
      rw [hen] at c11
      obtain ⟨wf, rb⟩ := SI.out.wf hen
      rcases gk with _ | gO
      · obtain rfl : j = 1048576 := by omega
        have EE : Hid _ := rEnd G r wr U1 N 5 0 SI.out.s (by have := SI.out.ev; omega)
        have FIN : Hid (∀ w', RmQ G r wr w' (Vm.rend N 5 0) → Ending.returned (.bool false) = .returned (.bool (Vm.rstep R).2) ∧ RmQ G r w w' (Vm.rstep R).1) := fun w' q => by
          have e := SI.out.go
          unfold Vm.rstep
          rw [← e]
          show _ = Ending.returned (.bool (if false = true then (N, false) else if N.ended = true then (N, false) else (Vm.rend N 5 0, false)).2) ∧ RmQ G r w w' (if false = true then (N, false) else if N.ended = true then (N, false) else (Vm.rend N 5 0, false)).1
          rw [if_neg (by simp), hen, if_neg (by simp)]
          exact ⟨rfl, SI.out.b.trans q.1, q.2⟩
        clear OUT SI hen wf rb
        go_wp2_with fail
        refine Calls.mono EE.out ?_
        rintro e8 w8 ⟨rfl, q8⟩
        have F8 := hid_of (FIN.out w8 q8)
        clear q8 FIN EE
        go_wp2_with fail
        refine bodyPost_ret (v := .bool false) (by simp [results, Tryd.results9, go_sem]) rfl ?_
        exact F8.out
      · have hji : (j : Int) < 1048576 := by omega
        have dj : decide ((j : Int) < 1048576) = true := decide_eq_true hji
        have hw : IntKind.i64.wrap ((j : Int) + 1) = (j : Int) + 1 := by rw [IntKind.wrap_i64]; omega
        have c12 := SI.out.s.cell.2.2.2.2.2.2.2.2
        have f12 := SI.out.s.frozen 12
        obtain ⟨b1, U2, s1⟩ := SI.out.s.setRn ((j : Int) + 1)
        obtain ⟨W1, hW1⟩ : ∃ W1, W1 = wr.setCell ⟨r, 12, none⟩ (.int .i64 ((j : Int) + 1)) := ⟨_, rfl⟩
        rw [← hW1] at b1 s1
        have w1 := wf.rn ((j : Int) + 1)
        obtain ⟨gs, g, c, i, a⟩ := w1.at
        have EO : Hid _ := rOne G r W1 U2 (N.rn ((j : Int) + 1)) B gs g c i s1 a w1 (rb.rn _) (by have := SI.out.ev; show N.events.length + 2 ≤ _; omega)
        have GO : Hid (Vm.rgo (gO + 1) (j : Int) N = if (Vm.ron (N.rn ((j : Int) + 1)) gs g i).2 then Vm.ron (N.rn ((j : Int) + 1)) gs g i else Vm.rgo gO ((j : Int) + 1) (Vm.ron (N.rn ((j : Int) + 1)) gs g i).1) := by
          unfold Hid
          rw [Vm.rgo, if_neg (by rw [hen]; simp), show Vm.rit N = some (gs, g, i) from Vm.rit_of (R := N) a.hf a.hc a.hi]
        have BW : Hid (Below r w W1) := SI.out.b.trans b1
        have TK : Hid ((Vm.ron (N.rn ((j : Int) + 1)) gs g i).2 = true → ∀ w', RmQ G r W1 w' (Vm.ron (N.rn ((j : Int) + 1)) gs g i).1 → Ending.returned (.bool true) = .returned (.bool (Vm.rstep R).2) ∧ RmQ G r w w' (Vm.rstep R).1) := fun h2 w' q => by
          have e := SI.out.go
          rw [GO.out, h2] at e
          simp only [if_true] at e
          unfold Vm.rstep
          rw [← e, if_pos h2, h2]
          exact ⟨rfl, BW.out.trans q.1, q.2⟩
        have NX : Hid ((Vm.ron (N.rn ((j : Int) + 1)) gs g i).2 = false → ∀ w', RmQ G r W1 w' (Vm.ron (N.rn ((j : Int) + 1)) gs g i).1 → ∃ N' U', Hid (RsI G r w B R gO (j + 1) N' U' w')) := fun h2 w' q => by
          have e := SI.out.go
          rw [GO.out, h2] at e
          simp only [Bool.false_eq_true, if_false] at e
          obtain ⟨q1, U3, q3⟩ := q
          refine ⟨_, U3, q3, BW.out.trans q1, by rw [← e]; rfl, fun he => ?_, by have := SI.out.ev; have := ron_ev (N.rn ((j : Int) + 1)) gs g i; have e5 : (N.rn ((j : Int) + 1)).events = N.events := rfl; rw [e5] at this; omega⟩
          refine ⟨?_, Vm.ron_rb (rb.rn _) a⟩
          by_cases h24 : i.op = 24
          · rcases Vm.ron_mark w1 a h24 ⟨default, fun _ => False, 0⟩ with ⟨_, m2, _⟩ | ⟨_, _, m3, _⟩
            · rw [h2] at m2; cases m2
            · rw [he] at m3; cases m3
          · exact Vm.ron_rw w1 hen a h24 he
        generalize hb : (Vm.ron (N.rn ((j : Int) + 1)) gs g i).2 = bb at EO TK NX
        generalize hN : (Vm.ron (N.rn ((j : Int) + 1)) gs g i).1 = N9 at EO TK NX
        clear OUT SI wf rb hen b1 s1 w1 a GO BW hb hN
        go_upto_region 5 with fail
        rw [← hW1]
        clear hW1 c11 c12 f12
        go_wp2_with fail
        refine Calls.mono EO.out ?_
        rintro e8 w8 ⟨rfl, q8⟩
        cases bb with
        | true =>
          have F8 := hid_of (TK.out rfl w8 q8)
          clear q8 TK NX EO
          go_wp2_with fail
          refine bodyPost_ret (v := .bool true) (by simp [results, Tryd.results9, go_sem]) rfl ?_
          exact F8.out
        | false =>
          obtain ⟨N', U', S'⟩ := NX.out rfl w8 q8
          clear q8 TK NX EO
          go_wp2_with fail
          go_roundg gO
          case measure => omega
          case rel => exact ⟨j + 1, by go_num, by omega, N', U', S'⟩
end Go.Proofs.YtkjkiknpgggadaaDoor

namespace Go.Proofs.YtkjkiknpgggadaaDoor.Vm
open Go.RowKit
set_option linter.unusedVariables false
set_option linter.unusedSimpArgs false

structure Rcl (R : Rm) : Prop where
  fr : ∀ g ∈ R.frames, ∃ c, R.codes[g.proc]? = some c ∧ (g.cells.length : Int) = c.cells
  n50 : R.frames.length ≤ 50
  ce : ∀ c ∈ R.codes, c.cells ≤ 65536
theorem Rcl.rn {R : Rm} (h : Rcl R) (k : Int) : Rcl (R.rn k) := ⟨h.fr, h.n50, h.ce⟩
theorem Rcl.last {R : Rm} (h : Rcl R) {gs : List Rf} {g g' : Rf} (hf : R.frames = gs ++ [g]) (hp : g'.proc = g.proc) (hc : g'.cells.length = g.cells.length) : (∀ f ∈ gs ++ [g'], ∃ c, R.codes[f.proc]? = some c ∧ (f.cells.length : Int) = c.cells) ∧ (gs ++ [g']).length ≤ 50 := by
  have q := h.fr
  have n := h.n50
  rw [hf] at q n
  refine ⟨fun f hm => ?_, by simpa using n⟩
  rcases List.mem_append.1 hm with h1 | h1
  · exact q f (List.mem_append.2 (.inl h1))
  · rw [List.mem_singleton.1 h1, hp, hc]
    exact q g (by simp)
theorem sto_len (f : Rf) (i : Cd.In) (l : List Int) : (sto f i l).cells.length = f.cells.length ∧ (sto f i l).proc = f.proc := by
  unfold sto
  split
  · simp
  · split
    · simp
    · split
      · exact ⟨cl_len _ _ _, rfl⟩
      · split
        · exact ⟨rfl, rfl⟩
        · split
          · split <;> exact ⟨rfl, rfl⟩
          · exact ⟨rfl, rfl⟩
theorem ron_rc {B : Int} {R : Rm} {gs : List Rf} {g : Rf} {c : Cd.Co} {i : Cd.In} (h : Rcl R) (w : RW B R) (a : RA B R gs g c i) : Rcl (ron R gs g i).1 := by
  have lg : ∀ g' : Rf, g'.proc = g.proc → g'.cells.length = g.cells.length → ∀ N : Rm, N.codes = R.codes → N.frames = gs ++ [g'] → Rcl N := fun g' h1 h2 N e1 e2 => by
    obtain ⟨q1, q2⟩ := h.last a.hf h1 h2
    exact ⟨by rw [e1, e2]; exact q1, by rw [e2]; exact q2, by rw [e1]; exact h.ce⟩
  unfold ron
  split
  · split
    · exact lg (rf1 g 0) rfl rfl _ rfl rfl
    · exact lg { rf1 g 0 with mark := i.n } rfl rfl _ rfl rfl
  · split
    · rename_i h19
      split
      · exact lg (rf1 g _) rfl rfl _ rfl rfl
      · rename_i h50
        split
        · rename_i d hd
          obtain ⟨C0, S0, A⟩ := a.at_ ⟨default, fun _ => False, 0⟩
          have al : Cd.al B R.codes c i = true := A.al
          have hpar : i.m = d.params := by
            unfold Cd.al at al
            rw [if_neg (by omega), if_neg (by omega), if_neg (by omega), if_pos h19] at al
            unfold Cd.mc at al
            rw [hd] at al
            simp at al
            exact al.2.1
          have fd := ((w.wf ⟨default, fun _ => False, 0⟩).fit d (List.mem_of_getElem? hd)).sz
          simp [Cd.sz] at fd
          have etk : Cd.tk i = i.m := by unfold Cd.tk; rw [if_pos h19]
          have hl : (rtk g (Cd.tk i).toNat).length = (Cd.tk i).toNat := by
            have := a.tk
            unfold rtk
            rw [List.length_drop]
            omega
          obtain ⟨q1, q2⟩ := h.last (g' := rf1 g (Cd.tk i).toNat) a.hf rfl rfl
          refine ⟨fun f hm => ?_, ?_, h.ce⟩
          · rcases List.mem_append.1 hm with h1 | h1
            · exact q1 f h1
            · rw [List.mem_singleton.1 h1]
              refine ⟨d, hd, ?_⟩
              show ((rtk g (Cd.tk i).toNat ++ List.replicate (d.cells.toNat - (rtk g (Cd.tk i).toNat).length) 0).length : Int) = _
              rw [List.length_append, List.length_replicate, hl]
              omega
          · show ((gs ++ [rf1 g (Cd.tk i).toNat]) ++ [_]).length ≤ 50
            simp at h50 ⊢
            omega
        · exact h
    · split
      · split
        · exact ⟨(fun f hm => by cases hm), by show ([] : List Rf).length ≤ 50; simp, h.ce⟩
        · rename_i b hb
          have q := h.fr
          have n := h.n50
          rw [a.hf] at q n
          have hgs : ∀ f ∈ gs, ∃ c, R.codes[f.proc]? = some c ∧ (f.cells.length : Int) = c.cells := fun f hm => q f (List.mem_append.2 (.inl hm))
          refine ⟨fun f hm => ?_, ?_, h.ce⟩
          · rcases List.mem_append.1 hm with h1 | h1
            · exact hgs f ((List.dropLast_sublist gs).subset h1)
            · rw [List.mem_singleton.1 h1]
              exact hgs b (List.mem_of_getLast? hb)
          · show (gs.dropLast ++ [_]).length ≤ 50
            simp at n ⊢
            omega
      · split
        · exact lg (rf1 g _) rfl rfl _ rfl rfl
        · split
          · split
            · exact lg (rf1 g 0) rfl rfl _ rfl rfl
            · rename_i n hn
              exact lg { rf1 g 0 with stack := (rf1 g 0).stack ++ [n] } rfl rfl _ rfl rfl
          · split
            · exact lg { sto (rf1 g (Cd.tk i).toNat) i (rtk g (Cd.tk i).toNat) with stack := (rf1 g (Cd.tk i).toNat).stack ++ (res (rf1 g (Cd.tk i).toNat) i (rtk g (Cd.tk i).toNat)).1 } (sto_len _ _ _).2 (sto_len _ _ _).1 _ rfl rfl
            · exact lg (rf1 g _) rfl rfl _ rfl rfl
theorem rgo_rc {B : Int} : ∀ (k : Nat) (n : Int) (R : Rm), RW B R → R.ended = false → Rcl R → Rcl (rgo k n R).1
  | 0, n, R, w, hr, hb => hb
  | k + 1, n, R, w, hr, hb => by
    have w1 := w.rn (n + 1)
    obtain ⟨gs, g, c, i, a⟩ := w1.at
    have eR : rgo (k + 1) n R = if (ron (R.rn (n + 1)) gs g i).2 then ron (R.rn (n + 1)) gs g i else rgo k (n + 1) (ron (R.rn (n + 1)) gs g i).1 := by
      rw [rgo, if_neg (by rw [hr]; simp), show rit R = some (gs, g, i) from rit_of (R := R) a.hf a.hc a.hi]
    have b1 := ron_rc (hb.rn (n + 1)) w1 a
    rw [eR]
    cases ht : (ron (R.rn (n + 1)) gs g i).2 with
    | true =>
      simp only [if_true]
      exact b1
    | false =>
      simp only [Bool.false_eq_true, if_false]
      cases he : (ron (R.rn (n + 1)) gs g i).1.ended with
      | true =>
        rw [rgo_ended k _ _ he]
        exact b1
      | false =>
        by_cases h24 : i.op = 24
        · rcases ron_mark w1 a h24 ⟨default, fun _ => False, 0⟩ with ⟨_, m2, _⟩ | ⟨_, _, m3, _⟩
          · rw [ht] at m2; cases m2
          · rw [he] at m3; cases m3
        · exact rgo_rc k (n + 1) _ (ron_rw w1 hr a h24 he) he b1
theorem rstep_rc {B : Int} {R : Rm} (w : RW B R) (hr : R.ended = false) (hb : Rcl R) : Rcl (rstep R).1 := by
  have q := rgo_rc 1048576 0 R w hr hb
  unfold rstep
  generalize rgo 1048576 0 R = z at q ⊢
  split
  · exact q
  · split
    · exact q
    · exact ⟨q.fr, q.n50, q.ce⟩
def Sm (M : Mc) (R : Rm) : Prop := ∃ s G, M = { abs R G with stack := s }
theorem Eqv.sm {M : Mc} {R : Rm} {G : Gh} (h : Eqv M (abs R G)) : Sm M R := by
  rcases h with rfl | ⟨_, _, h⟩
  · exact ⟨_, G, rfl⟩
  · refine ⟨M.stack, G, ?_⟩
    have e : { { M with stack := [] } with stack := M.stack } = { { abs R G with stack := [] } with stack := M.stack } := by rw [h]
    exact e
structure Stp (B : Int) (R : Rm) (G : Gh) : Prop where
  tk : (rstep R).2 = ticked (abs R G)
  sm : Sm (step (abs R G)) (rstep R).1
  rb : RB (rstep R).1
  rc : Rcl (rstep R).1
  co : (rstep R).1.codes = R.codes
  ev : (rstep R).1.events.length ≤ R.events.length + 1048577
  on : (rstep R).1.ended = false → step (abs R G) = abs (rstep R).1 G ∧ RW B (rstep R).1 ∧ (rstep R).1.fuel = R.fuel - 1 ∧ 0 < R.fuel
theorem stp {B : Int} {R : Rm} (w : RW B R) (hr : R.ended = false) (hb : RB R) (hc : Rcl R) (G : Gh) : Stp B R G := by
  obtain ⟨h1, h2, h3⟩ := rstep_abs w hr G
  have hrun : (abs R G).run = true := by show (!R.ended) = true; rw [hr]; rfl
  obtain ⟨gd, g1, g2⟩ := step_gd (w.wf G) hrun
  have sm := h2.sm
  refine ⟨h1, sm, rstep_rb w hr hb, rstep_rc w hr hc, ?_, ?_, fun he => ?_⟩
  · obtain ⟨s, G', e⟩ := sm
    have := gd.co
    rw [e] at this
    exact this
  · obtain ⟨s, G', e⟩ := sm
    obtain ⟨t, e1, e2, _⟩ := gd.ev
    rw [e] at e1
    have e3 : (rstep R).1.events = R.events ++ t := e1
    rw [e3, List.length_append]
    omega
  · have hrun' : (abs (rstep R).1 G).run = true := by show (!(rstep R).1.ended) = true; rw [he]; rfl
    have e := h2.eq hrun'
    have t := g1 (by rw [e]; exact hrun')
    obtain ⟨t1, t2⟩ := g2 t
    refine ⟨e, h3 he, ?_, ?_⟩
    · rcases gd.tk with q | q
      · have := q.1
        omega
      · have := q.2.1
        rw [e] at this
        exact this
    · rcases gd.tk with q | q
      · have := q.1
        omega
      · exact q.2.2.1
def rini (l : List Cd.Co) (p k : Nat) (inp : List Int) (fuel : Int) : Rm := rbeg ⟨l, [], inp, 0, fuel, 0, 0, 0, 0, 0, [], false, 0⟩ p k []
theorem rini_abs (l : List Cd.Co) (p k : Nat) (inp : List Int) (fuel : Int) (G : Gh) : abs (rini l p k inp fuel) G = beg l p k inp fuel G := by
  unfold abs rini rbeg beg en ini
  simp [frs, fce, fst]
theorem rini_rw {B : Int} {l : List Cd.Co} {p : Nat} {c : Cd.Co} {inp : List Int} {fuel : Int} (hs : Cd.Snd B l p) (hc : l[p]? = some c) (hf : 0 ≤ fuel ∧ fuel ≤ 1048576) (hi : inp.length ≤ 1000) : RW B (rini l p c.cells.toNat inp fuel) := by
  refine ⟨fun G => by rw [rini_abs]; exact beg_wf hs hc hf hi, ?_⟩
  obtain ⟨h1, h2, ⟨c', hc', hp, ha⟩, h4⟩ := hs
  rw [Int.toNat_natCast, hc] at hc'
  cases hc'
  have a0 : Cd.an c = 0 := by
    unfold Cd.an
    rw [ha]
    rfl
  have r : Rs l [] (Cd.an c) := by
    rw [a0]
    exact .nil
  have fc := (h4 c (List.mem_of_getElem? hc)).sz
  simp [Cd.sz] at fc
  refine Rs.snoc (l := l) [] ⟨p, 0, -1, [] ++ List.replicate (c.cells.toNat - 0) 0, []⟩ 0 c r hc ?_ .zero
  show ((List.replicate (c.cells.toNat - 0) (0 : Int)).length : Int) = _
  rw [List.length_replicate]
  omega
theorem rini_rb {l : List Cd.Co} {p k : Nat} {inp : List Int} {fuel : Int} (hl : ∀ d ∈ l, d.Ok) (hi : A6 inp) : RB (rini l p k inp fuel) := by
  refine ⟨hl, hi, fun f hm => ?_⟩
  have : f = ⟨p, 0, -1, [] ++ List.replicate (k - 0) 0, []⟩ := by
    rcases List.mem_append.1 hm with h | h
    · cases h
    · exact List.mem_singleton.1 h
  rw [this]
  exact ⟨A6.nil.app (A6.rep _), A6.nil⟩
theorem rini_rc {B : Int} {l : List Cd.Co} {p : Nat} {c : Cd.Co} {inp : List Int} {fuel : Int} (hs : Cd.Snd B l p) (hc : l[p]? = some c) : Rcl (rini l p c.cells.toNat inp fuel) := by
  have sz : ∀ d ∈ l, 0 ≤ d.cells ∧ d.cells ≤ 65536 := fun d hd => by
    have := (hs.2.2.2 d hd).sz
    simp [Cd.sz] at this
    omega
  refine ⟨fun f hm => ?_, by show ([] ++ [_]).length ≤ 50; simp, fun d hd => (sz d hd).2⟩
  have : f = ⟨p, 0, -1, [] ++ List.replicate (c.cells.toNat - 0) 0, []⟩ := by
    rcases List.mem_append.1 hm with h | h
    · cases h
    · exact List.mem_singleton.1 h
  rw [this]
  refine ⟨c, hc, ?_⟩
  have := sz c (List.mem_of_getElem? hc)
  show ((List.replicate (c.cells.toNat - 0) (0 : Int)).length : Int) = _
  rw [List.length_replicate]
  omega
end Go.Proofs.YtkjkiknpgggadaaDoor.Vm

namespace Go.Proofs.YtkjkiknpgggadaaDoor
open Go.RowKit
set_option linter.unusedVariables false
set_option linter.unusedSimpArgs false

def ROwn (U : RmV) (R : Vm.Rm) (k : Nat) : Prop := LOwn (reR U R :: rfR U R :: rmR R.frames U.fc) k
theorem RmS.regh {G : Gh} {r : Nat} {w : World} {U : RmV} {R : Vm.Rm} (h : RmS G r w U R) : RmS ⟨w, ROwn U R, G.lo⟩ r w U R :=
  ⟨h.box, h.fl, h.rows.regh G.lo, h.co, h.inp, h.lo, fun v0 v2 e0 e2 => ⟨Option.some.inj (e0.symm.trans h.cell.1), Option.some.inj (e2.symm.trans h.cell.2.2.1)⟩⟩
structure RmO (B0 lo r : Nat) (w : World) (U : RmV) (R : Vm.Rm) : Prop where
  s : ∃ G, RmS G r w U R ∧ G.lo = lo
  co : CoS B0 w U.ca R.codes
  bl : B0 ≤ lo
theorem RmO.re {B0 lo r : Nat} {w : World} {U : RmV} {R : Vm.Rm} (h : RmO B0 lo r w U R) : RmS ⟨w, ROwn U R, lo⟩ r w U R := by
  obtain ⟨G, h1, h2⟩ := h.s
  have := h1.regh
  rw [h2] at this
  exact this
theorem RmO.lm {B0 lo r : Nat} {w : World} {U : RmV} {R : Vm.Rm} (h : RmO B0 lo r w U R) : lo ≤ r := h.re.lo
theorem RmO.lt {B0 lo r : Nat} {w : World} {U : RmV} {R : Vm.Rm} (h : RmO B0 lo r w U R) : r < w.heap.size := h.re.lt
theorem RmO.later {B0 lo r : Nat} {w w' : World} {U : RmV} {R : Vm.Rm} (h : RmO B0 lo r w U R) (b : Below w.heap.size w w') : RmO B0 lo r w' U R := by
  obtain ⟨G, h1, h2⟩ := h.s
  refine ⟨⟨G, h1.later b, h2⟩, h.co.later (b.mono ?_), h.bl⟩
  have := h.bl
  have := h.lm
  have := h.lt
  omega
theorem RmO.own_lt {B0 lo r : Nat} {w : World} {U : RmV} {R : Vm.Rm} (h : RmO B0 lo r w U R) {k : Nat} (o : ROwn U R k) : r < k ∧ k < w.heap.size := by
  obtain ⟨x, hx, e⟩ := o
  have := World.ownsRow.lt (h.re.rows.own x hx) k e
  omega
structure RFrm (r : Nat) (w w' : World) (U : RmV) (R : Vm.Rm) (U' : RmV) (R' : Vm.Rm) : Prop where
  b : Below r w w'
  eq : ∀ k, k < w.heap.size → k ≠ r → ¬ ROwn U R k → w'.heap[k]? = w.heap[k]?
  ow : ∀ k, ROwn U' R' k → ROwn U R k ∨ w.heap.size ≤ k
theorem RmO.next {B0 lo r : Nat} {w w' : World} {U : RmV} {R R' : Vm.Rm} (h : RmO B0 lo r w U R) (q : RmQ ⟨w, ROwn U R, lo⟩ r w w' R') (hc : R'.codes = R.codes) : ∃ U', RmO B0 lo r w' U' R' ∧ RFrm r w w' U R U' R' := by
  obtain ⟨b, U', s⟩ := q
  have fx := s.fix _ _ h.re.cell.1 h.re.cell.2.2.1
  have e1 : U'.ca = U.ca := ((Value.slice.inj fx.1).1).symm
  refine ⟨U', ⟨⟨_, s, rfl⟩, ?_, h.bl⟩, ⟨b, fun k hk n o => s.rows.gk.eq k hk (by omega) o, fun k ⟨x, hx, e⟩ => s.rows.gn x hx k e⟩⟩
  rw [e1, hc]
  exact h.co.later (b.mono (Nat.le_trans h.bl h.lm))
def RSup (lo r : Nat) (U : RmV) (R : Vm.Rm) (k : Nat) : Prop := (lo ≤ k ∧ k ≤ r) ∨ ROwn U R k
theorem RmO.sup_lt {B0 lo r : Nat} {w : World} {U : RmV} {R : Vm.Rm} (h : RmO B0 lo r w U R) {k : Nat} (s : RSup lo r U R k) : k < w.heap.size := by
  rcases s with s | s
  · have := h.lt; omega
  · exact (h.own_lt s).2
theorem RmO.keep {B0 lo r : Nat} {w w' : World} {U : RmV} {R : Vm.Rm} (h : RmO B0 lo r w U R) (bl : Below B0 w w') (k : ∀ b, RSup lo r U R b → w'.heap[b]? = w.heap[b]?) : RmO B0 lo r w' U R := by
  have s := h.re
  have kp : Kpt lo r w w' := fun b h1 h2 => k b (.inl ⟨h1, by omega⟩)
  have co' : CoS B0 w' U.ca R.codes := h.co.later bl
  have box' : w'.heap[r]? = some (rmB U R) := (k r (.inl ⟨h.lm, Nat.le_refl _⟩)).trans s.box
  have s' : RmS ⟨w', ROwn U R, lo⟩ r w' U R := by
    refine ⟨box', s.fl, s.rows.keep (fun b o => k b (.inr o)), co'.mono h.bl, s.inp.keep kp, s.lo, fun v0 v2 e0 e2 => ?_⟩
    have a0 : w'.cell? ⟨r, 0, none⟩ = some (.slice U.ca R.codes.length U.cc) := by simp [World.cell?, box']
    have a2 : w'.cell? ⟨r, 2, none⟩ = some (.slice U.ia R.input.length U.ic) := by simp [World.cell?, box']
    exact ⟨Option.some.inj (e0.symm.trans a0), Option.some.inj (e2.symm.trans a2)⟩
  exact ⟨⟨_, s', rfl⟩, co', h.bl⟩
structure Two (B0 m lo r : Nat) (w : World) (V : VmV) (M : Vm.Mc) (U : RmV) (R : Vm.Rm) : Prop where
  v : VmO B0 m w V M
  u : RmO B0 lo r w U R
  d : ∀ k, Sup B0 m V k → k ≤ m ∨ VOwn V k → RSup lo r U R k → False
theorem Two.later {B0 m lo r : Nat} {w w' : World} {V : VmV} {M : Vm.Mc} {U : RmV} {R : Vm.Rm} (h : Two B0 m lo r w V M U R) (b : Below w.heap.size w w') : Two B0 m lo r w' V M U R := ⟨h.v.later b, h.u.later b, h.d⟩
theorem Two.left {B0 m lo r : Nat} {w w' : World} {V V' : VmV} {M M' : Vm.Mc} {U : RmV} {R : Vm.Rm} (h : Two B0 m lo r w V M U R) (v' : VmO B0 m w' V' M') (f : Frm m w w' V V') : Two B0 m lo r w' V' M' U R := by
  have bm : B0 ≤ m := h.v.lm
  refine ⟨v', h.u.keep (f.b.mono bm) fun b s => f.eq b (h.u.sup_lt s) (fun e => h.d b (.inl ⟨by omega, by omega⟩) (.inl (by omega)) s) (fun o => h.d b (.inr o) (.inr o) s), fun k a b s => ?_⟩
  rcases a with a | a
  · exact h.d k (.inl a) (.inl a.2) s
  · rcases f.ow k a with o | o
    · exact h.d k (.inr o) (.inr o) s
    · have := h.u.sup_lt s
      omega
theorem Two.right {B0 m lo r : Nat} {w w' : World} {V : VmV} {M : Vm.Mc} {U U' : RmV} {R R' : Vm.Rm} (h : Two B0 m lo r w V M U R) (u' : RmO B0 lo r w' U' R') (f : RFrm r w w' U R U' R') : Two B0 m lo r w' V M U' R' := by
  have lr := h.u.lm
  refine ⟨h.v.keep fun b s => f.eq b (h.v.sup_lt s) (fun e => ?_) (fun o => ?_), u', fun k a b s => ?_⟩
  · subst e
    refine h.d b s ?_ (.inl ⟨lr, Nat.le_refl _⟩)
    rcases s with s | s
    · exact .inl s.2
    · exact .inr s
  · refine h.d b s ?_ (.inr o)
    rcases s with s | s
    · exact .inl s.2
    · exact .inr s
  · rcases s with s | s
    · exact h.d k a b (.inl s)
    · rcases f.ow k s with o | o
      · exact h.d k a b (.inr o)
      · have := h.v.sup_lt a
        omega
theorem orStep (B0 lo r : Nat) (w : World) (U : RmV) (R : Vm.Rm) (B : Int) (h : RmO B0 lo r w U R) (wf : Vm.RW B R) (rb : Vm.RB R) (rc : Vm.Rcl R) (hr : R.ended = false) (he : R.events.length + 1048580 ≤ 1000000000) :
    Calls Tryd.prog 9 #[.pointer (some ⟨r, 0, none⟩), .int .i64 1048576] w fun e w' => e = .returned (.bool (Vm.rstep R).2) ∧ ∃ U', RmO B0 lo r w' U' (Vm.rstep R).1 ∧ RFrm r w w' U R U' (Vm.rstep R).1 := by
  refine (rStep _ r w U R B h.re wf rb hr he).mono fun e w' ⟨h1, h2⟩ => ⟨h1, h.next h2 ?_⟩
  exact (Vm.stp wf hr rb rc ⟨default, fun _ => False, 0⟩).co
end Go.Proofs.YtkjkiknpgggadaaDoor

