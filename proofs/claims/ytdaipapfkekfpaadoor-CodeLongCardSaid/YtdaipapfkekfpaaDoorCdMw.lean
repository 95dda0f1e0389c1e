/- CodeMore: the walk, where there are codes. -/
import Derived.Test.YtdaipapfkekfpaaDoorCdMm
import Derived.OneCell
import Derived.Deep.RegionLaw
import Derived.Test.YtdaipapfkekfpaaDoorStrs
namespace Go.Proofs.YtdaipapfkekfpaaDoor
open Go.RowKit
set_option linter.unusedVariables false
set_option linter.unusedSimpArgs false

theorem four4 (w : World) (c0 c1 c2 c3 : Value) (t : TypeId) : ∀ (j : Nat) u, [c0, c1, c2, c3][j]? = some u → (w.alloc (.cells #[c0, c1, c2, c3] t)).cell? ((⟨w.heap.size, 0, none⟩ : Addr).add j) = some u := by
  intro j u hj
  match j, hj with
  | 0, hj => simp at hj; subst hj; simp [Addr.add]
  | 1, hj => simp at hj; subst hj; simp [Addr.add]
  | 2, hj => simp at hj; subst hj; simp [Addr.add]
  | 3, hj => simp at hj; subst hj; simp [Addr.add]
  | n + 4, hj => simp at hj
theorem ownLt {w w' : World} {base size n : Nat} {e : TypeId} {v : Value} {xs : List Value} (h : w.ownsRow base e size v n xs) (hb : Below w.heap.size w w') : w'.ownsRow base e size v n xs :=
  World.ownsRow.kept h (row := none) ⟨hb.os, hb.tape, hb.output, hb.size, fun k hk _ => hb.block k hk⟩ (by
    rcases h.2 with ⟨rfl, _⟩ | ⟨g, cap, cur, rfl, _⟩
    · exact .inl rfl
    · exact .inr (by simp [Value.ownBlock]))
theorem ownSh {w : World} {base size n : Nat} {e : TypeId} {v : Value} {xs : List Value} (h : w.ownsRow base e size v n xs) : ∃ ao c, v = .slice ao n c := by
  rcases h.2 with ⟨rfl, h0⟩ | ⟨g, c, cur, rfl, _⟩
  · exact ⟨none, 0, by rw [h0]⟩
  · exact ⟨_, c, rfl⟩
theorem ownZ {w : World} {base size n cap : Nat} {e : TypeId} {a : Option Addr} {xs : List Value} (h : w.ownsRow base e size (.slice a (0 + n) cap) (0 + n) ([] ++ xs)) : w.ownsRow base e size (.slice a n cap) n xs := by
  rw [Nat.zero_add, List.nil_append] at h
  exact h
theorem infoCo : (Tryd.prog.info? 33).map (fun i => (i.zero, i.size, i.bytes)) = some (some (.agg #[.slice none 0 0, .int .i64 0, .int .i64 0, .bool false]), 4, 48) := by kernel_rfl
theorem grown_none {X Y : World} {v : Value} (g : X.grownBy Y v.ownBlock) (h : v.ownBlock = none) : Below X.heap.size X Y := by
  rw [h] at g
  exact ⟨g.os, g.tape, g.output, g.size, fun k hk => g.block k hk (by simp)⟩
theorem grown_own {w X Y : World} {e : TypeId} {sz n : Nat} {v : Value} {xs : List Value} (h : X.ownsRow w.heap.size e sz v n xs) (g : X.grownBy Y v.ownBlock) (hb : Below w.heap.size w X) : Below w.heap.size w Y :=
  hb.trans ⟨g.os, g.tape, g.output, g.size, fun k hk => g.block k (Nat.lt_of_lt_of_le hk hb.size) (fun e => by have := (World.ownsRow.lt h _ e.symm).1; omega)⟩
theorem co_one (ia : Option Addr) (ic : Nat) (c : Cd.Co) : ∀ u ∈ Lc.cs ⟨ia, ic, c⟩, u.oneCell' = true := by
  intro u hp
  unfold Lc.cs at hp
  simp only [List.mem_cons, List.not_mem_nil, or_false] at hp
  rcases hp with rfl | rfl | rfl | rfl <;> rfl
theorem co_oneN (ia : Option Addr) (N ic : Nat) (c : Cd.Co) : ∀ u ∈ [Value.slice ia N ic, .int .i64 c.cells, .int .i64 c.params, .bool c.ans], u.oneCell' = true := by
  intro u hp
  simp only [List.mem_cons, List.not_mem_nil, or_false] at hp
  rcases hp with rfl | rfl | rfl | rfl <;> rfl
theorem cells4_of {Y : World} {n : Nat} {c0 c1 c2 c3 : Value} (e0 : Y.cell? ⟨n, 0, none⟩ = some c0) (e1 : Y.cell? ⟨n, 1, none⟩ = some c1) (e2 : Y.cell? ⟨n, 2, none⟩ = some c2) (e3 : Y.cell? ⟨n, 3, none⟩ = some c3) : ∀ (j : Nat) u, [c0, c1, c2, c3][j]? = some u → Y.cell? ((⟨n, 0, none⟩ : Addr).add j) = some u := by
  intro j u hj
  rw [adM, Nat.zero_add]
  match j, hj with
  | 0, hj => simp at hj; subst hj; exact e0
  | 1, hj => simp at hj; subst hj; exact e1
  | 2, hj => simp at hj; subst hj; exact e2
  | 3, hj => simp at hj; subst hj; exact e3
  | n + 4, hj => simp at hj
/-- What lies behind the appends. -/
theorem more_mem {B g o lc L N ic cap : Nat} {l : List Cd.Co} {ps : List Lc} {ia va : Option Addr} {c : Cd.Co} {w w9 : World} {T : TypeId} (hl : L = l.length ∧ N = c.ins.length)
    (h : Tt B w ∧ CdH B w (some ⟨g, o, none⟩) l ∧ LcM B w ⟨g, o, none⟩ l ps ∧ InS B w ia c.ins ∧ N ≤ ic ∧ c.Ok ∧ l.length * 48 ≤ 140737488351232)
    (R9 : w9.ownsRow w.heap.size T 4 (.slice va (L + 1) cap) (L + 1) (LcS ps ++ [.slice ia N ic, .int .i64 c.cells, .int .i64 c.params, .bool c.ans])) (B9 : Below w.heap.size w w9) : CdH w9.heap.size w9 va (l ++ [c]) := by
  obtain ⟨rfl, rfl⟩ := hl
  obtain ⟨ht, hc, hm, hi, hn, ok, hb⟩ := h
  have b := B9.mono hc.hB
  have hs : B ≤ w9.heap.size := Nat.le_trans hc.hB B9.size
  have e : LcS ps ++ [.slice ia c.ins.length ic, .int .i64 c.cells, .int .i64 c.params, .bool c.ans] = LcS (ps ++ [⟨ia, ic, c⟩]) := by rw [LcS_app]; rfl
  rw [e] at R9
  have hp : ps.length = l.length := by rw [← hm.eq, List.length_map]
  obtain ⟨a, cp, hv, co⟩ := own_cos R9 (by simp [hp]) (by omega) (by omega) (fun p hp => by
    rcases List.mem_append.1 hp with h1 | h1
    · have := hm.hi p h1
      exact ⟨(this.1.later b).mono hs, this.2⟩
    · simp at h1
      subst h1
      exact ⟨(hi.later b).mono hs, hn⟩)
  cases hv
  rw [List.map_append, hm.eq] at co
  exact ⟨Nat.le_refl _, co, fun d hd => by
    rcases List.mem_append.1 hd with h1 | h1
    · exact hc.ok d h1
    · simp at h1
      subst h1
      exact ok, (hc.tn.later b).mono hs, (hc.tm.later b).mono hs⟩
set_option maxRecDepth 100000 in
set_option maxHeartbeats 8000000 in
theorem more8_some (g o lc : Nat) (l : List Cd.Co) (ps : List Lc) (main : Int) (ia : Option Addr) (ic : Nat) (c : Cd.Co) (B : Nat) (w : World) (ht : Tt B w) (h : CdH B w (some ⟨g, o, none⟩) l) (hm : LcM B w ⟨g, o, none⟩ l ps) (hg : g < B) (h0 : 0 < l.length) (hlb : l.length * 48 ≤ 140737488351232) (hci : InS B w ia c.ins) (hcc : c.ins.length ≤ ic) (ok : c.Ok) : Calls Tryd.prog 7 #[.slice (some ⟨g, o, none⟩) l.length lc, .int .i64 main, coV ia ic c] w fun e w' => e = .returned (.bool true) ∧ Below w.heap.size w w' := by
  obtain ⟨i0, hi, hz0, hz1, hz2⟩ := info_parts infoCo
  have hpl : ps.length = l.length := by rw [← hm.eq, List.length_map]
  obtain ⟨L, hL⟩ : ∃ L, L = l.length := ⟨_, rfl⟩
  obtain ⟨N, hN⟩ : ∃ N, N = c.ins.length := ⟨_, rfl⟩
  have HN : Hid (∀ X, Below w.heap.size w X → ∀ j u, (LcS ps)[j]? = some u → X.cell? ((⟨g, o, none⟩ : Addr).add j) = some u) := fun X hX j u hu => by
    have := hm.get j u hu
    rw [adM] at this ⊢
    exact (hX.cell (p := ⟨g, _, none⟩) (Nat.lt_of_lt_of_le hg h.hB)).trans this
  have HPL : Hid ((LcS ps).length = L * 4) := by unfold Hid; rw [LcS_len, hpl, hL]
  have HL0 : Hid (0 < L) := by unfold Hid; rw [hL]; exact h0
  have H63 : Hid (0 + L ≤ maxLen ∧ L + 1 ≤ maxLen) := by unfold Hid maxLen; omega
  have HBY : Hid (((0 + L) + (0 + L) / 4 + 192) * 48 ≤ 281474976710656 ∧ ((L + 1) + (L + 1) / 4 + 192) * 48 ≤ 281474976710656) := by unfold Hid; omega
  obtain ⟨W, hW⟩ : ∃ W, W = w.alloc (coB ia N ic c) := ⟨_, rfl⟩
  obtain ⟨bx, hbx⟩ : ∃ bx, bx = w.heap.size := ⟨_, rfl⟩
  have BW : Hid (Below w.heap.size w W) := by unfold Hid; rw [hW]; exact (Below.refl _ _).alloc (Nat.le_refl _) _
  have bl : bx < W.heap.size := by rw [hbx, hW]; simp
  have hb : W.heap[bx]? = some (coB ia N ic c) := by rw [hbx, hW]; exact Array.getElem?_push_size
  have t0 : W.cell? ⟨bx, 0, none⟩ = some (.slice ia N ic) := by simp [World.cell?, hb]
  have t1 : W.cell? ⟨bx, 1, none⟩ = some (.int .i64 c.cells) := by simp [World.cell?, hb]
  have t2 : W.cell? ⟨bx, 2, none⟩ = some (.int .i64 c.params) := by simp [World.cell?, hb]
  have t3 : W.cell? ⟨bx, 3, none⟩ = some (.bool c.ans) := by simp [World.cell?, hb]
  have HB : Hid (W.heap[bx]? = some (coB ia N ic c)) := hb
  have bln : ¬ bx = W.heap.size := Nat.ne_of_lt bl
  rw [← hL]
  show Calls _ _ #[_, _, .agg #[.slice ia c.ins.length ic, .int .i64 c.cells, .int .i64 c.params, .bool c.ans]] _ _
  rw [← hN]
  have HLL : Hid (L = l.length ∧ N = c.ins.length) := ⟨hL, hN⟩
  have HALL : Hid (Tt B w ∧ CdH B w (some ⟨g, o, none⟩) l ∧ LcM B w ⟨g, o, none⟩ l ps ∧ InS B w ia c.ins ∧ N ≤ ic ∧ c.Ok ∧ l.length * 48 ≤ 140737488351232) := ⟨ht, h, hm, hci, by rw [hN]; exact hcc, ok, hlb⟩
  clear ht h hm hci hcc ok hL hN hpl hlb h0 hb hg
  go_enter Tryd.func7, Tryd.ntmps7
  go_upto_region 1 with fail
  rw [← hW, ← hbx]
  clear hW hbx
  go_upto_region 2 with fail
  go_region_law (first
      | (have qq := R8.out; rw [if_pos (by rfl)]; refine wp_append_own_wide _ _ _ 36 rfl w.heap.size 33 i0 (.agg #[.slice none 0 0, .int .i64 0, .int .i64 0, .bool false]) 4 48 Tryd.underlying36 hi hz0 hz1 hz2 rfl (by decide) _ _ _ rfl (ownLt R8.out (by go_grown)) ⟨w8.heap.size, 0, none⟩ 1 1 [.slice ia N ic, .int .i64 c.cells, .int .i64 c.params, .bool c.ans] rfl rfl (four4 _ _ _ _ _ _) (co_oneN ia N ic c) H63.out.2 HBY.out.2 (by have := B8.out.size; simp; omega) ?_; intro v9 w9 h9 g9 o9; have B9 : Hid (Below w.heap.size w w9) := grown_own (ownLt R8.out (by go_grown)) g9 (B8.out.trans ((by go_grown : Below w8.heap.size w8 _).mono B8.out.size)); obtain ⟨va9, cap9, hv9⟩ := ownSh h9; subst hv9; have C9 : Hid (CdH w9.heap.size w9 va9 (l ++ [c])) := more_mem (lc := lc) HLL.out HALL.out h9 B9.out; clear g9 o9 h9)
      | (have qq := R8.out; rw [if_pos (by rfl)]; refine wp_append_own_wide _ _ _ 36 rfl w.heap.size 33 i0 (.agg #[.slice none 0 0, .int .i64 0, .int .i64 0, .bool false]) 4 48 Tryd.underlying36 hi hz0 hz1 hz2 rfl (by decide) _ _ _ rfl R8.out ⟨W.heap.size, 0, none⟩ 1 1 [.slice ia N ic, .int .i64 c.cells, .int .i64 c.params, .bool c.ans] rfl rfl A8.out (co_oneN ia N ic c) H63.out.2 HBY.out.2 (by have := B8.out.size; simp; omega) ?_; intro v9 w9 h9 g9 o9; have B9 : Hid (Below w.heap.size w w9) := grown_own R8.out g9 B8.out; obtain ⟨va9, cap9, hv9⟩ := ownSh h9; subst hv9; have C9 : Hid (CdH w9.heap.size w9 va9 (l ++ [c])) := more_mem (lc := lc) HLL.out HALL.out h9 B9.out; clear g9 o9 h9)
      | (rw [if_pos (by rfl)]; refine wp_append_own_wide _ _ _ 36 rfl w.heap.size 33 i0 (.agg #[.slice none 0 0, .int .i64 0, .int .i64 0, .bool false]) 4 48 Tryd.underlying36 hi hz0 hz1 hz2 rfl (by decide) (.slice none 0 0) 0 [] rfl (World.ownsRow_nil _ _ _ _) ⟨g, o, none⟩ L lc (LcS ps) rfl HPL.out (HN.out _ (BW.out.trans (Below.mono (by go_grown : Below W.heap.size W _) BW.out.size))) (LcS_one ps) H63.out.1 HBY.out.1 (by have := BW.out.size; simp; omega) ?_; intro v8 w8 h8 g8 o8; have b8 := grown_none g8 rfl; have B8 : Hid (Below w.heap.size w w8) := BW.out.trans ((Below.trans (by go_grown : Below W.heap.size W _) (b8.mono (by go_size))).mono BW.out.size); have kk := (Below.trans (by go_grown : Below W.heap.size W _) (b8.mono (by go_size))); have s0 := (kk.cell (p := ⟨bx, 0, none⟩) bl).trans t0; have s1 := (kk.cell (p := ⟨bx, 1, none⟩) bl).trans t1; have s2 := (kk.cell (p := ⟨bx, 2, none⟩) bl).trans t2; have s3 := (kk.cell (p := ⟨bx, 3, none⟩) bl).trans t3; (first | (have A8 : Hid (∀ (j : Nat) u, [Value.slice ia N ic, .int .i64 c.cells, .int .i64 c.params, .bool c.ans][j]? = some u → w8.cell? ((⟨W.heap.size, 0, none⟩ : Addr).add j) = some u) := cells4_of ((b8.cell (p := ⟨W.heap.size, 0, none⟩) (by first | (simp; done) | (simp [go_sem]; done) | fail)).trans (by first | (simp; done) | (simp [go_sem]; done) | fail)) ((b8.cell (p := ⟨W.heap.size, 1, none⟩) (by first | (simp; done) | (simp [go_sem]; done) | fail)).trans (by first | (simp; done) | (simp [go_sem]; done) | fail)) ((b8.cell (p := ⟨W.heap.size, 2, none⟩) (by first | (simp; done) | (simp [go_sem]; done) | fail)).trans (by first | (simp; done) | (simp [go_sem]; done) | fail)) ((b8.cell (p := ⟨W.heap.size, 3, none⟩) (by first | (simp; done) | (simp [go_sem]; done) | fail)).trans (by first | (simp; done) | (simp [go_sem]; done) | fail))) | skip); obtain ⟨va8, cap8, hv8⟩ := ownSh h8; subst hv8; have R8 : Hid (w8.ownsRow w.heap.size 33 4 (.slice va8 L cap8) L (LcS ps)) := ownZ h8; clear g8 o8 h8 b8 kk))
  all_goals
    obtain ⟨M, hM⟩ : ∃ M, M = L + 1 := ⟨_, rfl⟩
    rw [← hM]
    have HM : Hid ((l ++ [c]).length = M ∧ L = l.length ∧ M = L + 1) := ⟨by rw [hM, HLL.out.1]; simp, HLL.out.1, hM⟩
    have EG : Hid (∀ X, Below w9.heap.size w9 X → Calls Tryd.prog 16 #[.slice va9 M cap9] X fun e w' => ∃ b : Bool, e = .returned (.bool b) ∧ Below w9.heap.size w9 w') := fun X hX => by
      have := great8_any w9.heap.size va9 cap9 (l ++ [c]) X (C9.out.later hX)
      rw [HM.out.1] at this
      exact this.mono fun e w' ⟨v, a, ⟨b, hb⟩, d⟩ => ⟨b, by rw [a, hb], hX.trans (d.mono hX.size)⟩
    have EZ : Hid (∀ X, Below w9.heap.size w9 X → Calls Tryd.prog 17 #[.slice va9 M cap9, .int .i64 70000] X fun e w' => ∃ n : Int, e = .returned (.int .i64 n) ∧ Below w9.heap.size w9 w') := fun X hX => by
      have := rSize_any w9.heap.size va9 cap9 (l ++ [c]) 70000 X (C9.out.later hX)
      rw [HM.out.1] at this
      exact this.mono fun e w' ⟨v, a, ⟨b, hb⟩, d⟩ => ⟨b, by rw [a, hb], hX.trans (d.mono hX.size)⟩
    have EM : Hid (∀ X, Below w9.heap.size w9 X → Calls Tryd.prog 18 #[.slice va9 M cap9, .int .i64 main] X fun e w' => ∃ b : Bool, e = .returned (.bool b) ∧ (b = true ↔ Cd.Snd Cd.top (l ++ [c]) main) ∧ Below w9.heap.size w9 w') := fun X hX => by
      have := cdSnd_any main w9.heap.size va9 cap9 (l ++ [c]) X (C9.out.later hX)
      rw [HM.out.1] at this
      exact this.mono fun e w' ⟨b, a, d, f⟩ => ⟨b, a, d, hX.trans (f.mono hX.size)⟩
    have EL : Hid (∀ X, Below w9.heap.size w9 X → Calls Tryd.prog 18 #[.slice (some ⟨g, o, none⟩) L lc, .int .i64 main] X fun e w' => ∃ b : Bool, e = .returned (.bool b) ∧ (b = true ↔ Cd.Snd Cd.top l main) ∧ Below w9.heap.size w9 w') := fun X hX => by
      have hc := HALL.out.2.1
      have := cdSnd_any main B (some ⟨g, o, none⟩) lc l X ((hc.later (B9.out.mono hc.hB)).later (hX.mono (Nat.le_trans hc.hB B9.out.size)))
      rw [← HM.out.2.1] at this
      exact this.mono fun e w' ⟨b, a, d, f⟩ => ⟨b, a, d, hX.trans (f.mono hX.size)⟩
    have EH : Hid (∀ X, Below w9.heap.size w9 X → Calls Tryd.prog 20 #[.slice va9 M cap9, .int .i64 (L : Int)] X fun e w' => ∃ (v : Value) (b : Bool), e = .returned (.tuple #[v, .bool b]) ∧ (b = true ↔ Cd.Fit Cd.top (l ++ [c]) c) ∧ Below w9.heap.size w9 w') := fun X hX => by
      have := cdHts_any (L : Int) w9.heap.size va9 cap9 (l ++ [c]) X (C9.out.later hX)
      rw [HM.out.1] at this
      refine this.mono fun e w' ⟨r, hk, b, hr⟩ => ?_
      rw [HM.out.2.1] at hk
      have iff := Cd.hk_more hk
      cases r with
      | none => exact ⟨_, false, hr, by rw [← iff]; simp, hX.trans (b.mono hX.size)⟩
      | some H =>
        obtain ⟨gh, e1, _⟩ := hr
        exact ⟨_, true, e1, by rw [← iff]; simp, hX.trans (b.mono hX.size)⟩
    have EK : Hid (∀ X, Below w9.heap.size w9 X → Calls Tryd.prog 9 #[] X fun e w' => e = .returned (.bool true) ∧ Below w.heap.size w w') := fun X hX => by
      have b := B9.out.trans (hX.mono B9.out.size)
      have hc := HALL.out.2.1
      exact (known8 B X (HALL.out.1.later b) (hc.tm.later (b.mono hc.hB))).mono fun e w' ⟨a, d⟩ => ⟨a, b.trans (d.mono b.size)⟩
    have B0 : Hid (Below w9.heap.size w9 w9) := Below.refl _ _
    have SM : Hid (Cd.Snd Cd.top l main → M ≤ 40 → (Cd.Snd Cd.top (l ++ [c]) main ↔ Cd.Fit Cd.top (l ++ [c]) c)) := fun h1 h2 => Cd.snd_more h1 (by have := HM.out; omega)
    clear hM C9 HLL HALL HN HPL H63 HBY R8 B8 t0 t1 t2 t3 s0 s1 s2 s3 HB
    go_wp2_with fail
    refine Calls.mono (EG.out _ B0.out) ?_
    rintro e10 w10 ⟨bg, rfl, b10⟩
    have B10 : Hid (Below w9.heap.size w9 w10) := b10
    clear b10
    cases bg with
    | true =>
      go_wp2_with fail
      refine Calls.mono (EK.out _ B10.out) ?_
      rintro e20 w20 ⟨rfl, b20⟩
      have B20 : Hid (Below w.heap.size w w20) := b20
      clear b20
      go_wp2_with fail
      go_ret
      exact ⟨rfl, B20.out⟩
    | false =>
      go_wp2_with fail
      refine Calls.mono (EZ.out _ B10.out) ?_
      rintro e11 w11 ⟨n, rfl, b11⟩
      have B11 : Hid (Below w9.heap.size w9 w11) := b11
      clear b11 B10
      by_cases hn : (70000 : Int) < n
      · have dn : decide ((70000 : Int) < n) = true := decide_eq_true hn
        go_wp2_with fail
        refine Calls.mono (EK.out _ B11.out) ?_
        rintro e20 w20 ⟨rfl, b20⟩
        have B20 : Hid (Below w.heap.size w w20) := b20
        clear b20
        go_wp2_with fail
        go_ret
        exact ⟨rfl, B20.out⟩
      · have dn : decide ((70000 : Int) < n) = false := decide_eq_false hn
        by_cases hq : 40 < M
        · have hqi : (40 : Int) < (M : Int) := by omega
          have d1 : decide ((40 : Int) < (M : Int)) = true := decide_eq_true hqi
          have d2 : decide (40 < M) = true := decide_eq_true hq
          go_wp2_with fail
          refine Calls.mono (EK.out _ B11.out) ?_
          rintro e20 w20 ⟨rfl, b20⟩
          have B20 : Hid (Below w.heap.size w w20) := b20
          clear b20
          go_wp2_with fail
          go_ret
          exact ⟨rfl, B20.out⟩
        · have hqi : ¬ (40 : Int) < (M : Int) := by omega
          have d1 : decide ((40 : Int) < (M : Int)) = false := decide_eq_false hqi
          have d2 : decide (40 < M) = false := decide_eq_false hq
          have SN : Hid (M ≤ 40) := Nat.le_of_not_lt hq
          go_wp2_with fail
          refine Calls.mono (EL.out _ B11.out) ?_
          rintro e12 w12 ⟨bs, rfl, hs, b12⟩
          have B12 : Hid (Below w9.heap.size w9 w12) := b12
          have HS : Hid (bs = true ↔ Cd.Snd Cd.top l main) := hs
          clear b12 B11 hs
          cases bs with
          | false =>
            go_wp2_with fail
            refine Calls.mono (EK.out _ B12.out) ?_
            rintro e20 w20 ⟨rfl, b20⟩
            have B20 : Hid (Below w.heap.size w w20) := b20
            clear b20
            go_wp2_with fail
            go_ret
            exact ⟨rfl, B20.out⟩
          | true =>
            have SQ : Hid (Cd.Snd Cd.top (l ++ [c]) main ↔ Cd.Fit Cd.top (l ++ [c]) c) := SM.out (HS.out.1 rfl) SN.out
            go_wp2_with fail
            refine Calls.mono (EH.out _ B12.out) ?_
            rintro e13 w13 ⟨vh, bh, rfl, hh, b13⟩
            have B13 : Hid (Below w9.heap.size w9 w13) := b13
            have HH : Hid (bh = true ↔ Cd.Fit Cd.top (l ++ [c]) c) := hh
            clear b13 B12 hh
            go_wp2_with fail
            refine Calls.mono (EM.out _ B13.out) ?_
            rintro e14 w14 ⟨bm, rfl, hm, b14⟩
            have B14 : Hid (Below w9.heap.size w9 w14) := b14
            obtain rfl : bm = bh := Bool.eq_iff_iff.2 (hm.trans (SQ.out.trans HH.out.symm))
            have qb : (bm == bm) = true := beq_self_eq_true _
            clear b14 B13 hm HH
            go_wp2_with fail
            refine Calls.mono (EK.out _ B14.out) ?_
            rintro e20 w20 ⟨rfl, b20⟩
            have B20 : Hid (Below w.heap.size w w20) := b20
            clear b20
            go_wp2_with fail
            go_ret
            exact ⟨rfl, B20.out⟩
end Go.Proofs.YtdaipapfkekfpaaDoor
