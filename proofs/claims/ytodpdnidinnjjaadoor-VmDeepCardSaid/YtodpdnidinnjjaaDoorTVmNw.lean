/- Layer 9: New: a machine that begins. -/
import Derived.Test.YtodpdnidinnjjaaDoorTVmGh
import Derived.Test.YtodpdnidinnjjaaDoorTCdL
namespace Go.Proofs.YtodpdnidinnjjaaDoor
open Go.RowKit
set_option linter.unusedVariables false
set_option linter.unusedSimpArgs false

namespace Vm
def ini (l : List Cd.Co) (inp : List Int) (fuel : Int) (G : Gh) : Mc := ⟨l, inp, 0, fuel, 0, 0, 0, 0, 0, [], [], [], [], true, G⟩
/-- A machine that has begun the procedure p of k cells. -/
def beg (l : List Cd.Co) (p k : Nat) (inp : List Int) (fuel : Int) (G : Gh) : Mc := en (ini l inp fuel G) p k 0
theorem beg_gh (l : List Cd.Co) (p k : Nat) (inp : List Int) (fuel : Int) (G G' : Gh) : (beg l p k inp fuel G).gh G' = beg l p k inp fuel G' := rfl
theorem beg_wf {B : Int} {l : List Cd.Co} {p : Nat} {c : Cd.Co} {inp : List Int} {fuel : Int} {G : Gh} (hs : Cd.Snd B l p) (hc : l[p]? = some c) (hf : 0 ≤ fuel ∧ fuel ≤ 1048576) (hi : inp.length ≤ 1000) : WF B (beg l p c.cells.toNat inp fuel G) := by
  obtain ⟨h1, h2, ⟨c', hc', hp, ha⟩, h4⟩ := hs
  rw [Int.toNat_natCast, hc] at hc'
  cases hc'
  have a0 : Cd.an c = 0 := by
    unfold Cd.an
    rw [ha]
    rfl
  refine ⟨h1, h4, ?_, Nat.le_refl _, by show 1 ≤ 50; omega, Nat.zero_le _, by show inp.length ≤ _; omega, hf.1, Int.le_refl _, by show 0 + fuel ≤ _; omega⟩
  have r : Fs l [] 0 0 (Cd.an c) := by
    rw [a0]
    exact .nil
  have x := Fs.snoc (l := l) [] ⟨p, 0, -1, 0⟩ 0 0 0 0 c r hc rfl .zero
  show Fs l [⟨p, 0, -1, 0⟩] ([] ++ ([] ++ List.replicate (c.cells.toNat - 0) (0 : Int))).length 0 0
  simpa using x
end Vm
/-- What belongs to a machine that begins. -/
theorem ini_s {lo : Nat} {w0 w w' : World} {ca ia : Option Addr} {cc ic : Nat} {l : List Cd.Co} {inp : List Int} {fuel : Int} (hlo : lo = w0.heap.size) (b : Below lo w0 w) (hc : CoW lo w.heap.size w ca l) (hi : NuW lo w.heap.size w ia inp) (hw : w' = w.alloc (vmB ⟨ca, cc, ia, ic, .slice none 0 0, .slice none 0 0, .slice none 0 0, .slice none 0 0⟩ (Vm.ini l inp fuel ⟨w0, fun _ => False, lo⟩))) : VmS w.heap.size w' ⟨ca, cc, ia, ic, .slice none 0 0, .slice none 0 0, .slice none 0 0, .slice none 0 0⟩ (Vm.ini l inp fuel ⟨w0, fun _ => False, lo⟩) := by
  subst hw
  have y : Below w.heap.size w (w.alloc (vmB ⟨ca, cc, ia, ic, .slice none 0 0, .slice none 0 0, .slice none 0 0, .slice none 0 0⟩ (Vm.ini l inp fuel ⟨w0, fun _ => False, lo⟩))) := (Below.refl _ _).alloc (Nat.le_refl _) _
  have n : ∀ v : Value, v = .slice none 0 0 → Gn ⟨w0, fun _ => False, lo⟩ v := fun v e k h => by subst e; cases h
  have a : ∀ v u : Value, v = .slice none 0 0 → Apt v u := fun v u e g h => by subst e; cases h
  refine ⟨alloc_at w _, ⟨World.ownsRow_nil _ _ _ _, World.ownsRow_nil _ _ _ _, World.ownsRow_nil _ _ _ _, World.ownsRow_nil _ _ _ _, a _ _ rfl, a _ _ rfl, a _ _ rfl, a _ _ rfl, a _ _ rfl, a _ _ rfl, ⟨?_, fun k hk _ _ => ?_⟩, n _ rfl, n _ rfl, n _ rfl, n _ rfl⟩, hc.keep (bl_kpt y), hi.keep (bl_kpt y)⟩
  · show w0.heap.size ≤ _
    rw [← hlo]
    exact Nat.le_trans (hlo ▸ b.size) y.size
  · have hk' : k < lo := by rw [hlo]; exact hk
    exact (y.block k (Nat.lt_of_lt_of_le hk' (hlo ▸ b.size))).trans (b.block k hk')
set_option maxRecDepth 100000 in
set_option maxHeartbeats 8000000 in
theorem vmNewC (B : Nat) (w : World) (la ia : Option Addr) (lc ic : Nat) (l : List Cd.Co) (inp : List Int) (main fuel : Int) (h : CdH B w la l) (hs : ¬ Cd.Snd Cd.top l main) :
    Calls Tryd.prog 20 #[.slice la l.length lc, .int .i64 main, .slice ia inp.length ic, .int .i64 fuel] w fun e w' => e = .returned (.tuple #[.pointer none, .int .i64 60]) ∧ Below w.heap.size w w' := by
  have ES : Hid (Calls Tryd.prog 46 #[.slice la l.length lc, .int .i64 main] w fun e w' => e = .returned (.bool false) ∧ Below w.heap.size w w') := (cdSnd_any main B la lc l w h).mono fun e w' ⟨b, h1, h2, h3⟩ => ⟨by
    cases b with
    | false => exact h1
    | true => exact absurd (h2.1 rfl) hs, h3⟩
  generalize inp.length = nI
  generalize l.length = L at ES ⊢
  clear h hs
  go_enter Tryd.func20, Tryd.ntmps20
  go_wp2_with fail
  refine Calls.mono ES.out ?_
  rintro e1 w1 ⟨rfl, b1⟩
  have FIN : Hid (Below w.heap.size w w1) := b1
  clear b1 ES
  go_wp2_with fail
  first
    | (go_ret2; exact ⟨rfl, FIN.out⟩)
    | (refine bodyPost_ret (v := .tuple #[.pointer none, .int .i64 60]) (by simp [results, Tryd.results20, go_sem]) rfl ?_; exact ⟨rfl, FIN.out⟩)
def VmArg (fuel : Int) (n : Nat) : Prop := 0 ≤ fuel ∧ fuel ≤ 1048576 ∧ n ≤ 1000
set_option maxRecDepth 100000 in
set_option maxHeartbeats 8000000 in
theorem vmNewA (B : Nat) (w : World) (la ia : Option Addr) (lc ic : Nat) (l : List Cd.Co) (inp : List Int) (main fuel : Int) (h : CdH B w la l) (hs : Cd.Snd Cd.top l main) (ha : ¬ VmArg fuel inp.length) :
    Calls Tryd.prog 20 #[.slice la l.length lc, .int .i64 main, .slice ia inp.length ic, .int .i64 fuel] w fun e w' => e = .returned (.tuple #[.pointer none, .int .i64 1]) ∧ Below w.heap.size w w' := by
  have ES : Hid (Calls Tryd.prog 46 #[.slice la l.length lc, .int .i64 main] w fun e w' => e = .returned (.bool true) ∧ Below w.heap.size w w') := (cdSnd_any main B la lc l w h).mono fun e w' ⟨b, h1, h2, h3⟩ => ⟨by rw [h1, h2.2 hs], h3⟩
  unfold VmArg at ha
  generalize inp.length = nI at ha ⊢
  generalize l.length = L at ES ⊢
  clear h hs
  go_enter Tryd.func20, Tryd.ntmps20
  go_wp2_with fail
  refine Calls.mono ES.out ?_
  rintro e1 w1 ⟨rfl, b1⟩
  have FIN : Hid (Below w.heap.size w w1) := b1
  clear b1 ES
  by_cases h1 : fuel < 0
  · have d1 : decide (fuel < 0) = true := decide_eq_true h1
    go_wp2_with fail
    first
      | (go_ret2; exact ⟨rfl, FIN.out⟩)
      | (refine bodyPost_ret (v := .tuple #[.pointer none, .int .i64 1]) (by simp [results, Tryd.results20, go_sem]) rfl ?_; exact ⟨rfl, FIN.out⟩)
  · have d1 : decide (fuel < 0) = false := decide_eq_false h1
    by_cases h2 : fuel > 1048576
    · have d2 : decide (fuel > 1048576) = true := decide_eq_true h2
      go_wp2_with fail
      first
        | (go_ret2; exact ⟨rfl, FIN.out⟩)
        | (refine bodyPost_ret (v := .tuple #[.pointer none, .int .i64 1]) (by simp [results, Tryd.results20, go_sem]) rfl ?_; exact ⟨rfl, FIN.out⟩)
    · have d2 : decide (fuel > 1048576) = false := decide_eq_false h2
      have h3 : (nI : Int) > 1000 := by omega
      have h4 : nI > 1000 := by omega
      go_wp2_with fail
      first
        | (go_ret2; exact ⟨rfl, FIN.out⟩)
        | (refine bodyPost_ret (v := .tuple #[.pointer none, .int .i64 1]) (by simp [results, Tryd.results20, go_sem]) rfl ?_; exact ⟨rfl, FIN.out⟩)
set_option maxRecDepth 100000 in
set_option maxHeartbeats 8000000 in
theorem vmNewO (B : Nat) (w : World) (la ia : Option Addr) (lc ic : Nat) (l : List Cd.Co) (inp : List Int) (p : Nat) (c : Cd.Co) (fuel : Int) (h : CdH B w la l) (hi : NuS w.heap.size w ia inp) (hs : Cd.Snd Cd.top l p) (hc : l[p]? = some c) (ha : VmArg fuel inp.length) :
    Calls Tryd.prog 20 #[.slice la l.length lc, .int .i64 p, .slice ia inp.length ic, .int .i64 fuel] w fun e w' => ∃ m V, e = .returned (.tuple #[.pointer (some ⟨m, 0, none⟩), .int .i64 0]) ∧ VmO w.heap.size m w' V (Vm.beg l p c.cells.toNat inp fuel ⟨w, fun _ => False, w.heap.size⟩) ∧ Below w.heap.size w w' := by
  have ES : Hid (Calls Tryd.prog 46 #[.slice la l.length lc, .int .i64 p] w fun e w' => e = .returned (.bool true) ∧ Below w.heap.size w w') := (cdSnd_any p B la lc l w h).mono fun e w' ⟨b, h1, h2, h3⟩ => ⟨by rw [h1, h2.2 hs], h3⟩
  have hl40 := hs.1
  have hpl : p < l.length := (List.getElem?_eq_some_iff.1 hc).1
  have fit : ∀ d ∈ l, d.ins.length ≤ 1000000 ∧ 0 ≤ d.cells ∧ d.cells ≤ 65536 := fun d hd => by
    have := (hs.2.2.2 d hd).sz
    unfold Cd.sz at this
    simp at this
    omega
  have fc := fit c (List.mem_of_getElem? hc)
  obtain ⟨k, hk⟩ : ∃ k : Nat, c.cells = k := ⟨c.cells.toNat, by omega⟩
  rw [hk, Int.toNat_natCast]
  obtain ⟨ha1, ha2, ha3⟩ := ha
  have ECp : Hid (∀ X, Below w.heap.size w X → Calls Tryd.prog 47 #[.slice la l.length lc] X fun e w' => ∃ a' c', e = .returned (.slice a' l.length c') ∧ CoW X.heap.size w'.heap.size w' a' l ∧ Below X.heap.size X w') := fun X hX => vmCopied X la lc l ((h.co.later (hX.mono h.hB)).mono (Nat.le_trans h.hB hX.size)) (by omega) (by omega) (fun d hd => (fit d hd).1)
  have ECn : Hid (∀ X, Below w.heap.size w X → Calls Tryd.prog 48 #[.slice ia inp.length ic] X fun e w' => ∃ a' c', e = .returned (.slice a' inp.length c') ∧ inp.length ≤ c' ∧ NuW X.heap.size w'.heap.size w' a' inp ∧ Below X.heap.size X w') := fun X hX => cloneNums X ia ic inp ((fun h0 => by
    obtain ⟨g, o, e, hg, hc⟩ := (hi.later hX) h0
    exact ⟨g, o, e, Nat.lt_of_lt_of_le hg hX.size, hc⟩) : NuS X.heap.size X ia inp) (by omega)
  have HC : Hid (l[p]? = some c ∧ c.cells = k ∧ k ≤ 65536) := ⟨hc, hk, by omega⟩
  obtain ⟨nI, hn⟩ : ∃ nI, nI = inp.length := ⟨_, rfl⟩
  obtain ⟨L, hL⟩ : ∃ L, L = l.length := ⟨_, rfl⟩
  have HN : Hid (nI = inp.length ∧ L = l.length) := ⟨hn, hL⟩
  rw [← hn] at ECn ha3 ⊢
  rw [← hL] at ES ECp ⊢
  have d1 : ¬ fuel < 0 := by omega
  have d2 : ¬ fuel > 1048576 := by omega
  have d3 : ¬ (nI : Int) > 1000 := by omega
  have d4 : ¬ nI > 1000 := by omega
  clear h hi hs hc hl40 hpl fit fc hk hn hL ha3
  go_enter Tryd.func20, Tryd.ntmps20
  go_wp2_with fail
  refine Calls.mono ES.out ?_
  rintro e1 w1 ⟨rfl, b1⟩
  have B1 : Hid (Below w.heap.size w w1) := b1
  clear b1 ES
  go_wp2_with fail
  refine Calls.mono (ECp.out _ B1.out) ?_
  rintro e2 w2 ⟨a2, c2, rfl, co2, b2⟩
  have B2 : Hid (Below w.heap.size w w2) := B1.out.trans (b2.mono B1.out.size)
  have C2 : Hid (CoW w.heap.size w2.heap.size w2 a2 l) := co2.mono B1.out.size (Nat.le_refl _)
  clear b2 co2 ECp B1
  go_wp2_with fail
  refine Calls.mono (ECn.out _ B2.out) ?_
  rintro e3 w3 ⟨a3, c3, rfl, hc3, in3, b3⟩
  have B3 : Hid (Below w.heap.size w w3) := B2.out.trans (b3.mono B2.out.size)
  have C3 : Hid (CoW w.heap.size w3.heap.size w3 a2 l) := (C2.out.keep (bl_kpt b3)).mono (Nat.le_refl _) b3.size
  have I3 : Hid (NuW w.heap.size w3.heap.size w3 a3 inp) := in3.mono B2.out.size (Nat.le_refl _)
  clear b3 in3 hc3 C2 B2 ECn
  obtain ⟨W4, hW4⟩ : ∃ W4, W4 = w3.alloc (vmB ⟨a2, c2, a3, c3, .slice none 0 0, .slice none 0 0, .slice none 0 0, .slice none 0 0⟩ (Vm.ini l inp fuel ⟨w, fun _ => False, w.heap.size⟩)) := ⟨_, rfl⟩
  obtain ⟨m, hm⟩ : ∃ m, m = w3.heap.size := ⟨_, rfl⟩
  have S4 := ini_s rfl B3.out C3.out I3.out hW4
  rw [← hm] at S4
  have B4 : Hid (Below w.heap.size w W4) := B3.out.trans (by rw [hW4]; exact ((Below.refl w3.heap.size w3).alloc (Nat.le_refl _) _).mono B3.out.size)
  have HM : Hid (w.heap.size ≤ m) := by unfold Hid; rw [hm]; exact B3.out.size
  have EE : Hid _ := vmEnter m W4 _ _ c p k 0 S4 HC.out.1 HC.out.2.1 (by show 0 + k ≤ _; have := HC.out.2.2; omega) (by show 0 ≤ 1000000; omega) (by show 0 ≤ 1000000; omega) (Nat.zero_le _) (Nat.zero_le _)
  unfold vmB at hW4
  unfold Vm.ini at hW4
  dsimp only at hW4
  rw [← HN.out.1, ← HN.out.2] at hW4
  clear S4 C3 I3 B3
  go_upto_region 6 with fail
  rw [← hm]
  rw [show ((0 : Nat) : Int) = 0 from rfl] at hW4
  rw [← hW4]
  clear hW4 hm
  go_wp2_with fail
  refine Calls.mono EE.out ?_
  rintro e5 w5 ⟨rfl, b5, V5, s5⟩
  have FIN : Hid (∃ V, VmO w.heap.size m w5 V (Vm.beg l p k inp fuel ⟨w, fun _ => False, w.heap.size⟩) ∧ Below w.heap.size w w5) := ⟨V5, ⟨⟨_, s5, rfl⟩, HM.out⟩, B4.out.trans (b5.mono HM.out)⟩
  clear b5 s5 EE B4
  go_wp2_with fail
  refine bodyPost_ret (v := .tuple #[.pointer (some ⟨m, 0, none⟩), .int .i64 0]) (by simp [results, Tryd.results20, go_sem]) rfl ?_
  obtain ⟨V, q1, q2⟩ := FIN.out
  exact ⟨m, V, rfl, q1, q2⟩
end Go.Proofs.YtodpdnidinnjjaaDoor
