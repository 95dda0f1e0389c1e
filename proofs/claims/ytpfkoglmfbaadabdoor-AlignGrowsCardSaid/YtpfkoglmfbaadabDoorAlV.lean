/- AlignGrows. -/
import Derived.Test.YtpfkoglmfbaadabDoorAlU
namespace Go.Proofs.YtpfkoglmfbaadabDoor
open Go.RowKit
set_option linter.unusedVariables false
set_option linter.unusedSimpArgs false
set_option maxRecDepth 100000
theorem addAA {b o n : Nat} : (⟨b, o, none⟩ : Addr).add n = ⟨b, o + n, none⟩ := by unfold Addr.add; split <;> simp_all
theorem prC_all : ∀ (l : List Al.Ev), ∀ u ∈ prC l, u.oneCell' = true
  | [], u, h => by cases h
  | e :: l, u, h => by
    rw [prC_cons] at h
    simp only [List.mem_cons] at h
    rcases h with rfl | rfl | h
    · rfl
    · rfl
    · exact prC_all l u h
theorem prC_at {V : World} {g : Nat} : ∀ {l : List Al.Ev} {o : Nat} (cs : ∀ j e, l[j]? = some e → EvC V g (o + j * 2) e) {j : Nat} {u : Value}, (prC l)[j]? = some u → V.cell? ((⟨g, o, none⟩ : Addr).add j) = some u
  | [], o, cs, j, u, h => by cases h
  | e :: l, o, cs, 0, u, h => by
    have := (cs 0 e rfl).1
    simp [prC_cons] at h
    subst h
    simpa [Addr.add] using this
  | e :: l, o, cs, 1, u, h => by
    have := (cs 0 e rfl).2
    simp [prC_cons] at h
    subst h
    simpa [Addr.add] using this
  | e :: l, o, cs, j + 2, u, h => by
    rw [prC_cons] at h
    have := prC_at (V := V) (g := g) (o := o + 2) (l := l) (fun i x hx => by have := cs (i + 1) x (by simpa using hx); rw [show o + (i + 1) * 2 = o + 2 + i * 2 from by omega] at this; exact this) (j := j) (u := u) (by simpa using h)
    rw [addAA] at this ⊢
    rw [show o + (j + 2) = o + 2 + j from by omega]
    exact this
/-- A whole row behind nothing. -/
theorem wp_app_row {P : Program} {V : World} {o : Oper} {a : Act} {K : Act → World → Prop} {Q : Exit → Act → World → Prop} (s x : Operand) (t : TypeId)
    (ho : o.op = .call { callee := .builtin .append, args := #[s, x], argTypes := #[t, t] })
    (base : Nat) (e : TypeId) (i : TypeInfo) (z : Value) (bytes : Nat) (ht : P.underlying t = some (.slice e)) (hi : P.info? e = some i) (hz : i.zero = some z)
    (hsize : i.size = 2) (hby : i.bytes = bytes) (hzs : z.cells.size = 2) (hs : a.eval s = .slice none 0 0)
    (ad : Option Addr) (n c : Nat) (l : List Al.Ev) (hx : a.eval x = .slice ad n c) (hl : n = l.length) {B : Nat} (he : EvR B V ad l)
    (h63 : n ≤ maxLen) (hbytes : n * bytes ≤ 140737488355328) (hbase : base ≤ V.heap.size)
    (h : ∀ v' w', w'.ownsRow base e 2 v' n (prC l) → Below V.heap.size V w' → K (a.put o.dst v') w') : o.wp P a V K Q := by
  by_cases h0 : n = 0
  · subst h0
    have hl0 : l = [] := List.eq_nil_of_length_eq_zero hl.symm
    subst hl0
    have hr : (Builtin.append_ #[t, t] o.type #[.slice none 0 0, .slice ad 0 c]).run P V = .ok (.slice none 0 0) V := by
      cases ad <;> simp [Builtin.append_, run_underlying ht, sizeOf, run_typeInfo V hi, storeCells, go_sem]
    unfold Oper.wp execOp
    simp only [ho, resolve, invoke, builtin, Sem.run_bind, Sem.run_pure, Result.andThen_ok, List.map_toArray, List.map_cons, List.map_nil, hs, hx, hr]
    exact h _ _ (World.ownsRow_nil _ _ _ _) (Below.refl _ _)
  · obtain ⟨g, of, rfl, hg, cs⟩ := he (by omega)
    refine wp_append_tolA s x t ho base e i z 2 bytes ht hi hz hsize hby hzs (by decide) (.slice none 0 0) 0 [] hs (World.ownsRow_nil _ _ _ _) ⟨g, of, none⟩ n c (prC l) hx (by rw [prC_len, hl]) (fun j u hu => ?_) (prC_all l) (by omega) (by rw [Nat.zero_add]; exact hbytes) hbase (by omega) ?_
    · exact prC_at cs hu
    · intro v' w' h1 h2 h3
      refine h v' w' ?_ ⟨h2.os, h2.tape, h2.output, h2.size, fun k hk => h2.block k hk (by simp [Value.ownBlock])⟩
      simpa using h1
theorem lowA {w w' : World} {base : Nat} {e : TypeId} {size n : Nat} {v : Value} {xs : List Value} {V : World} (h : w.ownsRow base e size v n xs) (g : V.grownBy w' v.ownBlock) (hb : Below w.heap.size w V) (hs : base ≤ w.heap.size) : Below base w w' :=
  (hb.mono hs).trans ⟨g.os, g.tape, g.output, g.size, fun k hk => g.block k (Nat.lt_of_lt_of_le hk (Nat.le_trans hs hb.size)) (fun e => by have := (World.ownsRow.lt h _ e.symm).1; omega)⟩
theorem cells2_of {w : World} {g : Nat} {a b : Value} (h0 : w.cell? ⟨g, 0, none⟩ = some a) (h1 : w.cell? ⟨g, 1, none⟩ = some b) : ∀ (j : Nat) (u : Value), [a, b][j]? = some u → w.cell? ((⟨g, 0, none⟩ : Addr).add j) = some u
  | 0, u, h => by simp at h; subst h; simpa [Addr.add] using h0
  | 1, u, h => by simp at h; subst h; simpa [Addr.add] using h1
  | j + 2, u, h => by simp at h
def GfQ (W0 : World) (n : Nat) (l : List Al.Ev) (x1 x2 : Int) (x : Al.Ev) : Prop := ∀ (w8 : World) (v9 : Value) (w9 : World), w9.ownsRow W0.heap.size 30 2 v9 (n + 1) (prC l ++ [.int .i64 x1, .int .i64 x2]) → Below W0.heap.size W0 w8 → Below W0.heap.size w8 w9 → ∃ a8 c8, v9 = .slice a8 (n + 1) c8 ∧ n + 1 ≤ c8 ∧ EvR w9.heap.size w9 a8 (l ++ [x]) ∧ Below W0.heap.size W0 w9
theorem grown_fin (W0 : World) {n : Nat} {l : List Al.Ev} {x1 x2 : Int} {x : Al.Ev} (hn : n = l.length) (hx : x = (x1, x2)) : GfQ W0 n l x1 x2 x := fun w8 v9 w9 h9 b8 b9 => by
  have o : OwP w9 W0.heap.size 30 v9 (l ++ [x]) := by
    unfold OwP
    rw [prC_app, List.length_append, ← hn, hx]
    exact h9
  obtain ⟨a8, c8, e, ev, hc⟩ := o.ev
  rw [List.length_append, ← hn] at e hc
  exact ⟨a8, c8, e, hc, ev, b8.trans b9⟩
theorem cut_small {l m : List Al.Ev} (hl : l.length ≤ 24) (hm : m.length ≤ 24) : Al.cut l m 1000 = false := by
  unfold Al.cut
  refine decide_eq_false ?_
  have : (l.length - Al.tog l m) * (m.length - Al.tog l m) ≤ 24 * 24 := Nat.mul_le_mul (by omega) (by omega)
  have e : (((l.length - Al.tog l m : Nat) : Int)) * ((m.length - Al.tog l m : Nat) : Int) = (((l.length - Al.tog l m) * (m.length - Al.tog l m) : Nat) : Int) := (Int.natCast_mul _ _).symm
  rw [e]
  omega
theorem mat_small {l m : List Al.Ev} (hl : l.length ≤ 24) (hm : m.length ≤ 24) : (Al.prs (Al.mat l m 1000)).length = Al.lcs l m := by
  rw [Al.prs_len, Al.mat_len, cut_small hl hm]
  rfl
set_option maxHeartbeats 8000000 in
theorem grows_walk (w : World) (ht : Tab w) (a : Option Addr) (l : List Al.Ev) (ca : Nat) (ha : EvR w.heap.size w a l) (hca : l.length ≤ ca) (_ : l.length ≤ 1000000000000000) (_ : ∀ x ∈ l, Al.R64 x.1 ∧ Al.R64 x.2) (b : Option Addr) (m : List Al.Ev) (cb : Nat) (hb : EvR w.heap.size w b m) (hcb : m.length ≤ cb) (_ : m.length ≤ 1000000000000000) (_ : ∀ x ∈ m, Al.R64 x.1 ∧ Al.R64 x.2) (x : Al.Ev) (hx : Al.R64 x.1 ∧ Al.R64 x.2) :
    Calls Tryd.prog 4 #[.slice a l.length ca, .slice b m.length cb, .agg #[.int .i64 x.1, .int .i64 x.2]] w fun e w' => e = .returned (.bool true) ∧ Below w.heap.size w w' := by
  obtain ⟨W0, hW0⟩ : ∃ W0, W0 = w.alloc (.cells #[.int .i64 x.1, .int .i64 x.2] 30) := ⟨_, rfl⟩
  obtain ⟨p, hp⟩ : ∃ p, p = w.heap.size := ⟨_, rfl⟩
  have B0 : Hid (Below p w W0 ∧ p = w.heap.size ∧ W0.heap.size = p + 1) := ⟨by rw [hW0, hp]; exact (Below.refl _ _).alloc (Nat.le_refl _) _, hp, by rw [hW0, hp]; simp⟩
  have CP : Hid (W0.cell? ⟨p, 0, none⟩ = some (.int .i64 x.1) ∧ W0.cell? ⟨p, 1, none⟩ = some (.int .i64 x.2) ∧ p < W0.heap.size) := by
    have h := box2A w (.int .i64 x.1) (.int .i64 x.2) 30
    rw [← hW0, ← hp] at h
    exact ⟨h.1, h.2, by have := B0.out.2.2; omega⟩
  have HA : Hid (∀ wz, Below p w wz → EvR p wz a l) := fun wz hz => by rw [hp]; rw [hp] at hz; exact ha.later hz (Nat.le_refl _)
  have HB : Hid (∀ wz, Below p w wz → EvR p wz b m) := fun wz hz => by rw [hp]; rw [hp] at hz; exact hb.later hz (Nat.le_refl _)
  have KN : Hid (∀ wz, Below p w wz → Calls Tryd.prog 7 #[] wz fun e w' => e = .returned (.bool true) ∧ Below p w w') := fun wz hz => by
    rw [hp] at hz ⊢
    exact (known15 wz (ht.later hz (Nat.le_refl _))).mono fun e w' h => ⟨h.1, hz.trans (h.2.mono hz.size)⟩
  rw [show Below w.heap.size = Below p from by rw [hp]]
  have HLM : Hid (l.length ≤ ca ∧ m.length ≤ cb) := ⟨hca, hcb⟩
  obtain ⟨n, hn⟩ : ∃ n, n = l.length := ⟨_, rfl⟩
  obtain ⟨k, hk⟩ : ∃ k, k = m.length := ⟨_, rfl⟩
  have HN := hidA hn
  have HK := hidA hk
  rw [← hn, ← hk]
  obtain ⟨x1, hx1⟩ : ∃ x1, x1 = x.1 := ⟨_, rfl⟩
  obtain ⟨x2, hx2⟩ : ∃ x2, x2 = x.2 := ⟨_, rfl⟩
  have HX : Hid (x = (x1, x2)) := by rw [hx1, hx2]; exact hidA rfl
  rw [← hx1, ← hx2] at CP hW0 ⊢
  clear ht ha hb hca hcb hx hn hk hx1 hx2
  by_cases c1 : 23 < n
  · have d1 : decide ((23 : Int) < (n : Int)) = true := decide_eq_true (by omega)
    have BW := hidA B0.out.1
    clear c1
    go_enter Tryd.func4, Tryd.ntmps4
    go_upto_region 1 with fail
    rw [← hp, ← hW0]
    clear hp hW0
    go_wp2_with fail
    refine (KN.out W0 BW.out).mono ?_
    rintro e w4 ⟨rfl, b4⟩
    have B4 := hidA b4
    clear b4
    go_wp2_with fail
    go_ret
    exact ⟨rfl, B4.out⟩
  have d1 : decide ((23 : Int) < (n : Int)) = false := decide_eq_false (by omega)
  by_cases c2 : 23 < k
  · have d2 : decide ((23 : Int) < (k : Int)) = true := decide_eq_true (by omega)
    have BW := hidA B0.out.1
    clear c1 c2
    go_enter Tryd.func4, Tryd.ntmps4
    go_upto_region 1 with fail
    rw [← hp, ← hW0]
    clear hp hW0
    go_wp2_with fail
    refine (KN.out W0 BW.out).mono ?_
    rintro e w4 ⟨rfl, b4⟩
    have B4 := hidA b4
    clear b4
    go_wp2_with fail
    go_ret
    exact ⟨rfl, B4.out⟩
  have d2 : decide ((23 : Int) < (k : Int)) = false := decide_eq_false (by omega)
  obtain ⟨i0, hi, zi0, zi1, zi2⟩ := infoEv
  have H23 : Hid (n ≤ maxLen ∧ n * 16 ≤ 140737488355328) := by unfold Hid maxLen; omega
  have H24 : Hid (k ≤ maxLen ∧ k * 16 ≤ 140737488355328) := by unfold Hid maxLen; omega
  have H63 : Hid (n + 1 ≤ maxLen ∧ (n + 1) * 16 ≤ 140737488355328) := by unfold Hid maxLen; omega
  have H64 : Hid (k + 1 ≤ maxLen ∧ (k + 1) * 16 ≤ 140737488355328) := by unfold Hid maxLen; omega
  have HSM : Hid (n ≤ 23 ∧ k ≤ 23) := ⟨by omega, by omega⟩
  have ONE := hidA (prC_one (x1, x2))
  have EA0 : Hid (∀ wz, Below W0.heap.size W0 wz → EvR p wz a l) := fun wz hz => HA.out wz (B0.out.1.trans (hz.mono (by have := B0.out.2.2; omega)))
  have EB0 : Hid (∀ wz, Below W0.heap.size W0 wz → EvR p wz b m) := fun wz hz => HB.out wz (B0.out.1.trans (hz.mono (by have := B0.out.2.2; omega)))
  have BR0 : Hid (Below W0.heap.size W0 W0) := Below.refl _ _
  have FIN := hidA (grown_fin W0 HN.out HX.out)
  clear c1 c2
  go_enter Tryd.func4, Tryd.ntmps4
  go_upto_region 1 with fail
  rw [← hp, ← hW0]
  clear hp hW0
  go_upto_region 4 with fail
  go_cut [7] from 22 to 28 (fun s7 wx => ∃ a8 c8, s7 = .slice a8 (n + 1) c8 ∧ n + 1 ≤ c8 ∧ Hid (EvR wx.heap.size wx a8 (l ++ [x]) ∧ Below W0.heap.size W0 wx))
  case first =>
    have c0 := (BR0.out.cell (p := ⟨p, 0, none⟩) CP.out.2.2).trans CP.out.1
    have c1 := (BR0.out.cell (p := ⟨p, 1, none⟩) CP.out.2.2).trans CP.out.2.1
    have hpW : p < W0.heap.size := Nat.lt_of_lt_of_le CP.out.2.2 BR0.out.size
    go_region_law (first
      | (have qq := R8.out; rw [if_pos (by rfl)]; refine wp_append_tolA _ _ 22 rfl W0.heap.size 30 i0 (.agg #[.int .i64 0, .int .i64 0]) 2 16 Tryd.underlying22 hi zi0 zi1 zi2 rfl (by decide) _ _ _ rfl (ownA R8.out (by go_grown)) ⟨w8.heap.size, 0, none⟩ 1 1 [.int .i64 x1, .int .i64 x2] rfl rfl (two2 _ _ _ _) ONE.out H63.out.1 H63.out.2 (by have := B8.out.size; simp; omega) (by decide) ?_; intro v9 w9 h9 g9 o9; have F := hidA (FIN.out w8 v9 w9 h9 B8.out (lowA R8.out g9 (by go_grown) B8.out.size)); clear g9 o9 h9)
      | (have qq := R8.out; rw [if_pos (by rfl)]; refine wp_append_tolA _ _ 22 rfl W0.heap.size 30 i0 (.agg #[.int .i64 0, .int .i64 0]) 2 16 Tryd.underlying22 hi zi0 zi1 zi2 rfl (by decide) _ _ _ rfl (ownA R8.out (by go_grown)) ⟨W0.heap.size, 0, none⟩ 1 1 [.int .i64 x1, .int .i64 x2] rfl rfl A8.out ONE.out H63.out.1 H63.out.2 (by have := B8.out.size; simp; omega) (by decide) ?_; intro v9 w9 h9 g9 o9; have F := hidA (FIN.out w8 v9 w9 h9 B8.out (lowA R8.out g9 (by go_grown) B8.out.size)); clear g9 o9 h9)
      | (rw [if_pos (by rfl)]; refine wp_app_row _ _ 22 rfl W0.heap.size 30 i0 (.agg #[.int .i64 0, .int .i64 0]) 16 Tryd.underlying22 hi zi0 zi1 zi2 rfl rfl a n ca l rfl HN.out (EA0.out _ (by go_grown)) H23.out.1 H23.out.2 (by simp) ?_; intro v8 w8 h8 b8; have kk := Below.trans (by go_grown : Below W0.heap.size W0 _) (b8.mono (by go_size)); have B8 := hidA kk; have s0 := (kk.cell (p := ⟨p, 0, none⟩) hpW).trans c0; have s1 := (kk.cell (p := ⟨p, 1, none⟩) hpW).trans c1; (first | (have A8 : Hid (∀ (j : Nat) u, [Value.int .i64 x1, .int .i64 x2][j]? = some u → w8.cell? ((⟨W0.heap.size, 0, none⟩ : Addr).add j) = some u) := cells2_of ((b8.cell (p := ⟨W0.heap.size, 0, none⟩) (by first | (simp; done) | (simp [go_sem]; done) | fail)).trans (by first | (simp; done) | (simp [go_sem]; done) | fail)) ((b8.cell (p := ⟨W0.heap.size, 1, none⟩) (by first | (simp; done) | (simp [go_sem]; done) | fail)).trans (by first | (simp; done) | (simp [go_sem]; done) | fail))) | skip); obtain ⟨va8, vc8, rfl⟩ := ownShA h8; have R8 := hidA h8; clear h8 b8 kk))
    all_goals
      go_wp2_with fail
      go_meet
      obtain ⟨a8, c8, e8, h8, e9, b9⟩ := F.out
      exact ⟨a8, c8, e8, h8, hidA ⟨e9, b9⟩⟩
  case rest =>
    obtain ⟨xa, xc, rfl, hxc, EX⟩ := hcut
    obtain ⟨W5, hW5⟩ : ∃ W5, W5 = wc := ⟨_, rfl⟩
    subst hW5
    have EB5 : Hid (∀ wz, Below W5.heap.size W5 wz → EvR p wz b m) := fun wz hz => EB0.out wz (EX.out.2.trans (hz.mono EX.out.2.size))
    have BR5 : Hid (Below W0.heap.size W0 W5) := EX.out.2
    have FIN5 := hidA (grown_fin W5 HK.out HX.out)
    go_upto_region 5 with fail
    go_cut [8] from 28 to 34 (fun s7 wx => ∃ a8 c8, s7 = .slice a8 (k + 1) c8 ∧ k + 1 ≤ c8 ∧ Hid (EvR wx.heap.size wx a8 (m ++ [x]) ∧ Below W5.heap.size W5 wx))
    case first =>
      have c0 := (BR5.out.cell (p := ⟨p, 0, none⟩) CP.out.2.2).trans CP.out.1
      have c1 := (BR5.out.cell (p := ⟨p, 1, none⟩) CP.out.2.2).trans CP.out.2.1
      have hpW : p < W5.heap.size := Nat.lt_of_lt_of_le CP.out.2.2 BR5.out.size
      go_region_law (first
        | (have qq := R8.out; rw [if_pos (by rfl)]; refine wp_append_tolA _ _ 22 rfl W5.heap.size 30 i0 (.agg #[.int .i64 0, .int .i64 0]) 2 16 Tryd.underlying22 hi zi0 zi1 zi2 rfl (by decide) _ _ _ rfl (ownA R8.out (by go_grown)) ⟨w8.heap.size, 0, none⟩ 1 1 [.int .i64 x1, .int .i64 x2] rfl rfl (two2 _ _ _ _) ONE.out H64.out.1 H64.out.2 (by have := B8.out.size; simp; omega) (by decide) ?_; intro v9 w9 h9 g9 o9; have F := hidA (FIN5.out w8 v9 w9 h9 B8.out (lowA R8.out g9 (by go_grown) B8.out.size)); clear g9 o9 h9)
        | (have qq := R8.out; rw [if_pos (by rfl)]; refine wp_append_tolA _ _ 22 rfl W5.heap.size 30 i0 (.agg #[.int .i64 0, .int .i64 0]) 2 16 Tryd.underlying22 hi zi0 zi1 zi2 rfl (by decide) _ _ _ rfl (ownA R8.out (by go_grown)) ⟨W5.heap.size, 0, none⟩ 1 1 [.int .i64 x1, .int .i64 x2] rfl rfl A8.out ONE.out H64.out.1 H64.out.2 (by have := B8.out.size; simp; omega) (by decide) ?_; intro v9 w9 h9 g9 o9; have F := hidA (FIN5.out w8 v9 w9 h9 B8.out (lowA R8.out g9 (by go_grown) B8.out.size)); clear g9 o9 h9)
        | (rw [if_pos (by rfl)]; refine wp_app_row _ _ 22 rfl W5.heap.size 30 i0 (.agg #[.int .i64 0, .int .i64 0]) 16 Tryd.underlying22 hi zi0 zi1 zi2 rfl rfl b k cb m rfl HK.out (EB5.out _ (by go_grown)) H24.out.1 H24.out.2 (by simp) ?_; intro v8 w8 h8 b8; have kk := Below.trans (by go_grown : Below W5.heap.size W5 _) (b8.mono (by go_size)); have B8 := hidA kk; have s0 := (kk.cell (p := ⟨p, 0, none⟩) hpW).trans c0; have s1 := (kk.cell (p := ⟨p, 1, none⟩) hpW).trans c1; (first | (have A8 : Hid (∀ (j : Nat) u, [Value.int .i64 x1, .int .i64 x2][j]? = some u → w8.cell? ((⟨W5.heap.size, 0, none⟩ : Addr).add j) = some u) := cells2_of ((b8.cell (p := ⟨W5.heap.size, 0, none⟩) (by first | (simp; done) | (simp [go_sem]; done) | fail)).trans (by first | (simp; done) | (simp [go_sem]; done) | fail)) ((b8.cell (p := ⟨W5.heap.size, 1, none⟩) (by first | (simp; done) | (simp [go_sem]; done) | fail)).trans (by first | (simp; done) | (simp [go_sem]; done) | fail))) | skip); obtain ⟨va8, vc8, rfl⟩ := ownShA h8; have R8 := hidA h8; clear h8 b8 kk))
      all_goals
        go_wp2_with fail
        go_meet
        obtain ⟨a8, c8, e8, h8, e9, b9⟩ := F.out
        exact ⟨a8, c8, e8, h8, hidA ⟨e9, b9⟩⟩
    case rest =>
      obtain ⟨ya, yc, rfl, hyc, EY⟩ := hcut
      obtain ⟨W6, hW6⟩ : ∃ W6, W6 = wc := ⟨_, rfl⟩
      subst hW6
      have B06 : Hid (Below p w W6 ∧ p ≤ W6.heap.size ∧ p = w.heap.size) := by
        have h1 : Below W0.heap.size W0 W6 := BR5.out.trans (EY.out.2.mono BR5.out.size)
        have h2 := B0.out.1.trans (h1.mono (by have := B0.out.2.2; omega))
        exact ⟨h2, by have := h1.size; have := B0.out.2.2; omega, B0.out.2.1⟩
      have M1 : Hid (Calls Tryd.prog 8 #[.slice a n ca, .slice b k cb, .int .i64 1000] W6 fun e w' => ∃ c1, ∃ a1, e = .returned (.tuple #[.slice a1 (Al.lcs l m) c1, .bool false]) ∧ Below W6.heap.size W6 w') := by
        have h := match_any W6 a b ca cb l m 1000 (HA.out W6 B06.out.1) (HB.out W6 B06.out.1) B06.out.2.1 (by rw [← HN.out]; exact Nat.le_trans HSM.out.1 (by decide)) (by rw [← HK.out]; exact Nat.le_trans HSM.out.2 (by decide)) HLM.out.1 HLM.out.2 (by decide) (by decide)
        rw [← HN.out, ← HK.out] at h
        refine h.mono fun e w' h => ?_
        obtain ⟨v, e1, o, bb⟩ := h
        obtain ⟨a1, c1, e2, -, -⟩ := o.ev
        rw [mat_small (by rw [← HN.out]; exact Nat.le_trans HSM.out.1 (by decide)) (by rw [← HK.out]; exact Nat.le_trans HSM.out.2 (by decide))] at e2
        rw [cut_small (by rw [← HN.out]; exact Nat.le_trans HSM.out.1 (by decide)) (by rw [← HK.out]; exact Nat.le_trans HSM.out.2 (by decide)), e2] at e1
        exact ⟨c1, a1, e1, bb⟩
      have M2 : Hid (∀ wz, Below W6.heap.size W6 wz → Calls Tryd.prog 8 #[.slice xa (n + 1) xc, .slice ya (k + 1) yc, .int .i64 1000] wz fun e w' => ∃ c1, ∃ a1, e = .returned (.tuple #[.slice a1 (Al.lcs l m + 1) c1, .bool false]) ∧ Below W6.heap.size W6 w') := fun wz hz => by
        have hln : (l ++ [x]).length = n + 1 := by rw [List.length_append, ← HN.out]; rfl
        have hkn : (m ++ [x]).length = k + 1 := by rw [List.length_append, ← HK.out]; rfl
        have l1 : (l ++ [x]).length ≤ 24 := by rw [hln]; exact Nat.succ_le_succ HSM.out.1
        have l2 : (m ++ [x]).length ≤ 24 := by rw [hkn]; exact Nat.succ_le_succ HSM.out.2
        have h := match_any wz xa ya xc yc (l ++ [x]) (m ++ [x]) 1000 (B := W6.heap.size) ((EX.out.1.later EY.out.2 (Nat.le_refl _)).later hz EY.out.2.size |>.mono EY.out.2.size) (EY.out.1.later hz (Nat.le_refl _)) hz.size (Nat.le_trans l1 (by decide)) (Nat.le_trans l2 (by decide)) (by rw [hln]; exact hxc) (by rw [hkn]; exact hyc) (by decide) (by decide)
        rw [hln, hkn] at h
        refine h.mono fun e w' h => ?_
        obtain ⟨v, e1, o, bb⟩ := h
        obtain ⟨a1, c1, e2, -, -⟩ := o.ev
        rw [mat_small l1 l2, Al.lcs_snoc] at e2
        rw [cut_small l1 l2, e2] at e1
        exact ⟨c1, a1, e1, hz.trans (bb.mono hz.size)⟩
      have LB : Al.lcs l m ≤ 100 := Nat.le_trans (Al.lcs_bd l m).1 (by rw [← HN.out]; exact Nat.le_trans HSM.out.1 (by decide))
      generalize Al.lcs l m = N at *
      have e1 : wrap64 ((N : Int) + 1) = ((N + 1 : Nat) : Int) := wrK N (Nat.le_trans LB (by decide))
      obtain ⟨N1, hN1⟩ : ∃ N1, N1 = N + 1 := ⟨_, rfl⟩
      rw [← hN1] at e1 M2
      have q1 : ((N1 : Int) == (N1 : Int)) = true := beq_self_eq_true _
      clear hN1 LB hxc hyc EX EY EB0 EA0 EB5 FIN FIN5
      go_wp2_with fail
      refine M1.out.mono ?_
      rintro e w7 ⟨c1, a1, rfl, b7⟩
      have B7 := hidA b7
      clear b7
      go_wp2_with fail
      refine (M2.out w7 B7.out).mono ?_
      rintro e w8 ⟨c2, a2, rfl, b8⟩
      have B8 : Hid (Below p w w8) := B06.out.1.trans (b8.mono B06.out.2.1)
      clear b8
      go_wp2_with fail
      refine (KN.out w8 B8.out).mono ?_
      rintro e w9 ⟨rfl, b9⟩
      have B9 := hidA b9
      clear b9
      go_wp2_with fail
      go_ret
      exact ⟨rfl, B9.out⟩
end Go.Proofs.YtpfkoglmfbaadabDoor
