/- Layer 15: the statements' own regions; SameRegions. -/
import Derived.Test.YthglhcabdadlpaaDoorZAlGf
import Derived.Test.YthglhcabdadlpaaDoorZAlP
namespace Go.Proofs.YthglhcabdadlpaaDoor
open Go.RowKit
set_option linter.unusedVariables false
set_option linter.unusedSimpArgs false
set_option maxRecDepth 100000
/-- Regions below the block B. -/
def RgB (B : Nat) (w : World) (a : Option Addr) (l : List Al.Rg) : Prop := 0 < l.length → ∃ g, a = some ⟨g, 0, none⟩ ∧ g < B ∧ ∀ k r, l[k]? = some r → w.cell? ⟨g, k * 4, none⟩ = some (.int .i64 r.fa) ∧ w.cell? ⟨g, k * 4 + 1, none⟩ = some (.int .i64 r.ta) ∧ w.cell? ⟨g, k * 4 + 2, none⟩ = some (.int .i64 r.fb) ∧ w.cell? ⟨g, k * 4 + 3, none⟩ = some (.int .i64 r.tb)
theorem RgB.later {B B' : Nat} {w w' : World} {a : Option Addr} {l : List Al.Rg} (h : RgB B w a l) (b : Below B' w w') (hb : B ≤ B') : RgB B' w' a l := fun h0 => by
  obtain ⟨g, e, hg, hc⟩ := h h0
  refine ⟨g, e, Nat.lt_of_lt_of_le hg hb, fun k r hr => ?_⟩
  obtain ⟨h1, h2, h3, h4⟩ := hc k r hr
  exact ⟨(b.cell (p := ⟨g, _, none⟩) (Nat.lt_of_lt_of_le hg hb)).trans h1, (b.cell (p := ⟨g, _, none⟩) (Nat.lt_of_lt_of_le hg hb)).trans h2, (b.cell (p := ⟨g, _, none⟩) (Nat.lt_of_lt_of_le hg hb)).trans h3, (b.cell (p := ⟨g, _, none⟩) (Nat.lt_of_lt_of_le hg hb)).trans h4⟩
theorem OwG.rb {w : World} {base : Nat} {ty : TypeId} {v : Value} {l : List Al.Rg} (h : OwG w base ty v l) : ∃ a c, v = .slice a l.length c ∧ RgB w.heap.size w a l := OwG.at h
/-- One more behind a row of four numbers each. -/
theorem wp_app4 {P : Program} {V : World} {o : Oper} {a : Act} {K : Act → World → Prop} {Q : Exit → Act → World → Prop} (W7 : World) (s x : Operand) (t : TypeId)
    (ho : o.op = .call { callee := .builtin .append, args := #[s, x], argTypes := #[t, t] })
    (base : Nat) (e : TypeId) (i : TypeInfo) (z : Value) (bytes : Nat) (ht : P.underlying t = some (.slice e)) (hi : P.info? e = some i) (hz : i.zero = some z)
    (hsize : i.size = 4) (hby : i.bytes = bytes) (hzs : z.cells.size = 4)
    (v : Value) (n : Nat) (xs : List Value) (hs : a.eval s = v) (hown : W7.ownsRow base e 4 v n xs) (u1 u2 u3 u4 : Value)
    (hV : V.os = W7.os ∧ V.tape = W7.tape ∧ V.output = W7.output ∧ V.heap = (W7.alloc (.cells #[u1, u2, u3, u4] e)).heap)
    (hx : a.eval x = .slice (some ⟨W7.heap.size, 0, none⟩) 1 1) (h1 : ∀ u ∈ [u1, u2, u3, u4], u.oneCell' = true)
    (h63 : n + 1 ≤ maxLen) (hbytes : (n + 1) * bytes ≤ 140737488355328) (hbase : base ≤ W7.heap.size)
    (h : ∀ v' w', w'.ownsRow base e 4 v' (n + 1) (xs ++ [u1, u2, u3, u4]) → Below base W7 w' → K (a.put o.dst v') w') : o.wp P a V K Q := by
  obtain ⟨V1, V2, V3, V4⟩ := hV
  have hb : Below W7.heap.size W7 V := ⟨V1, V2, V3, by rw [V4]; simp, fun k hk => by rw [V4]; exact ((Below.refl W7.heap.size W7).alloc (Nat.le_refl _) _).block k hk⟩
  have hsz : V.heap.size = W7.heap.size + 1 := by rw [V4]; simp
  refine wp_append_tolA s x t ho base e i z 4 bytes ht hi hz hsize hby hzs (by decide) v n xs hs (ownA hown hb) ⟨W7.heap.size, 0, none⟩ 1 1 [u1, u2, u3, u4] hx rfl (fun j y hj => ?_) h1 h63 hbytes (by omega) (by decide) ?_
  · have := four4A W7 u1 u2 u3 u4 e j y hj
    simp only [World.cell?] at this ⊢
    rw [V4]
    exact this
  · intro v8 w8 h8 g8 o8
    refine h v8 w8 h8 ((hb.mono hbase).trans ⟨g8.os, g8.tape, g8.output, g8.size, fun k hk => g8.block k (by omega) (fun e => by have := (World.ownsRow.lt hown _ e.symm).1; omega)⟩)
theorem infoRr : ∃ i, Tryd.prog.info? 55 = some i ∧ i.zero = some (.agg #[.int .i64 0, .int .i64 0, .int .i64 0, .int .i64 0]) ∧ i.size = 4 ∧ i.bytes = 32 := infoP _ _ _ _ _ (by kernel_rfl)
theorem rg_one (a b c d : Int) : ∀ u ∈ [Value.int .i64 a, .int .i64 b, .int .i64 c, .int .i64 d], u.oneCell' = true := fun u h => by
  simp at h
  rcases h with rfl | rfl | rfl | rfl <;> rfl
set_option maxHeartbeats 16000000 in
theorem regs_any (w : World) (a : Option Addr) (ca : Nat) (l : List Al.Rg) {B : Nat} (ha : RgB B w a l) (hB : B ≤ w.heap.size) (hl : l.length ≤ 1000) : Calls Tryd.prog 27 #[.slice a l.length ca] w fun e w' => ∃ v, e = .returned v ∧ OwG w' w.heap.size 55 v l ∧ Below w.heap.size w w' := by
  obtain ⟨i0, hi, zi0, zi1, zi2⟩ := infoRr
  have HA := hidA ha
  have HBB := hidA hB
  obtain ⟨p, hp⟩ : ∃ p, p = w.heap.size := ⟨_, rfl⟩
  have HP := hidA hp
  rw [← hp]
  obtain ⟨N, hN⟩ : ∃ N, N = l.length := ⟨_, rfl⟩
  have HN := hidA hN
  rw [← hN] at hl ⊢
  have HL := hidA hl
  clear ha hB hp hN hl
  go_enter Tryd.func27, Tryd.ntmps27
  go_wp2_with fail
  go_loopg [3, 4] N (fun gk y3 y4 wr => ∃ k : Nat, k + gk = N ∧ y4 = .int .i64 k ∧ Hid (OwG wr p 55 y3 (l.take k) ∧ Below p w wr))
  case atStart => exact ⟨0, by omega, rfl, OwG.nil _ _ _, Below.refl _ _⟩
  case round =>
    obtain ⟨k, hk, rfl, RR⟩ := hrel
    rcases gk with _ | gk
    · obtain rfl : N = k := by omega
      have dk : decide ((N : Int) < (N : Int)) = false := decide_eq_false (Int.lt_irrefl _)
      have FIN : Hid (OwG wr p 55 u3 l ∧ Below p w wr) := by
        have h := RR.out
        rw [List.take_of_length_le (by rw [HN.out]; exact Nat.le_refl _)] at h
        exact h
      go_wp2_with fail
      go_ret
      exact ⟨_, rfl, FIN.out⟩
    · obtain ⟨k6, dk, dk2, hkN, hk3⟩ := mch_k hk
      obtain ⟨x, hx⟩ : ∃ x, l[k]? = some x := ⟨_, List.getElem?_eq_getElem (by rw [← HN.out]; exact hkN)⟩
      obtain ⟨ga, rfl, hga, cs⟩ := (HA.out.later RR.out.2 (by rw [HP.out]; exact HBB.out)) (by rw [← HN.out]; exact Nat.lt_of_le_of_lt (Nat.zero_le k) hkN)
      obtain ⟨a0, a1, a2, a3⟩ := cs k x hx
      have htk : l.take (k + 1) = l.take k ++ [x] := by rw [List.take_add_one, hx]; rfl
      have hlk : (l.take k).length = k := by rw [List.length_take]; exact Nat.min_eq_left (by rw [← HN.out]; exact Nat.le_of_lt hkN)
      have OR : Hid (wr.ownsRow p 55 4 u3 k (rgC (l.take k))) := by
        have h : wr.ownsRow p 55 4 u3 (l.take k).length (rgC (l.take k)) := RR.out.1
        rw [hlk] at h
        exact h
      have HS : Hid (p ≤ wr.heap.size) := by rw [HP.out]; exact RR.out.2.size
      have H63 := hidA (own63g (k := k) (Nat.le_trans (Nat.le_of_lt hkN) HL.out))
      have ONE := hidA (rg_one x.fa x.ta x.fb x.tb)
      have FIN : Hid (∀ v8 w8, w8.ownsRow p 55 4 v8 (k + 1) (rgC (l.take k) ++ [.int .i64 x.fa, .int .i64 x.ta, .int .i64 x.fb, .int .i64 x.tb]) → Below p wr w8 → OwG w8 p 55 v8 (l.take (k + 1)) ∧ Below p w w8) := fun v8 w8 h8 g8 => by
        refine ⟨?_, RR.out.2.trans g8⟩
        unfold OwG
        rw [htk, rgC_app, List.length_append, hlk]
        exact h8
      have WK := hidA (wrK k (Nat.le_trans (Nat.le_of_lt hkN) (Nat.le_trans HL.out (by decide))))
      generalize x.fa = x1 at *
      generalize x.ta = x2 at *
      generalize x.fb = x3 at *
      generalize x.tb = x4 at *
      clear cs hx htk hlk
      go_upto_region 5 with fail
      go_region_law (first
        | (rw [if_pos (by rfl)]; refine wp_app4 wr _ _ 46 rfl p 55 i0 (.agg #[.int .i64 0, .int .i64 0, .int .i64 0, .int .i64 0]) 32 Tryd.underlying46 hi zi0 zi1 zi2 rfl _ _ _ rfl OR.out (.int .i64 x1) (.int .i64 x2) (.int .i64 x3) (.int .i64 x4) ⟨rfl, rfl, rfl, rfl⟩ rfl ONE.out H63.out.1 H63.out.2 HS.out ?_; intro v8 w8 h8 g8; have F := hidA (FIN.out v8 w8 h8 g8); clear h8 g8))
      all_goals
        go_wp2_with fail
        go_roundg gk
        case measure => omega
        case rel => exact ⟨k + 1, hk3, congrArg _ WK.out, ⟨F.out.1, F.out.2⟩⟩
theorem rg_ne {x y : Al.Rg} (h : x ≠ y) : (x.fa == y.fa) = false ∨ ((x.fa == y.fa) = true ∧ (x.ta == y.ta) = false) ∨ ((x.fa == y.fa) = true ∧ (x.ta == y.ta) = true ∧ (x.fb == y.fb) = false) ∨ ((x.fa == y.fa) = true ∧ (x.ta == y.ta) = true ∧ (x.fb == y.fb) = true ∧ (x.tb == y.tb) = false) := by
  by_cases c1 : x.fa = y.fa
  · by_cases c2 : x.ta = y.ta
    · by_cases c3 : x.fb = y.fb
      · have c4 : x.tb ≠ y.tb := fun c4 => h (by cases x; cases y; simp_all)
        exact .inr (.inr (.inr ⟨by simp [c1], by simp [c2], by simp [c3], by simpa using c4⟩))
      · exact .inr (.inr (.inl ⟨by simp [c1], by simp [c2], by simpa using c3⟩))
    · exact .inr (.inl ⟨by simp [c1], by simpa using c2⟩)
  · exact .inl (by simpa using c1)
set_option maxHeartbeats 8000000 in
theorem sameR_any (w : World) (a b : Option Addr) (ca cb : Nat) (l : List Al.Rg) {B : Nat} (ha : RgB B w a l) (hb : RgB B w b l) (hB : B ≤ w.heap.size) (hl : l.length ≤ 1000) : Calls Tryd.prog 26 #[.slice a l.length ca, .slice b l.length cb] w fun e w' => e = .returned (.bool true) ∧ Below w.heap.size w w' := by
  have HA := hidA ha
  have HB := hidA hb
  have HBB := hidA hB
  obtain ⟨N, hN⟩ : ∃ N, N = l.length := ⟨_, rfl⟩
  have HN := hidA hN
  rw [← hN] at hl ⊢
  have HL := hidA hl
  clear ha hb hB hN hl
  have q0 : ((N : Int) == (N : Int)) = true := beq_self_eq_true _
  go_enter Tryd.func26, Tryd.ntmps26
  go_wp2_with fail
  go_loopg [5] N (fun gk y wr => ∃ k : Nat, k + gk = N ∧ y = .int .i64 k ∧ Hid (Below w.heap.size w wr))
  case atStart => exact ⟨0, by omega, rfl, Below.refl _ _⟩
  case round =>
    obtain ⟨k, hk, rfl, RR⟩ := hrel
    rcases gk with _ | gk
    · obtain rfl : N = k := by omega
      have dk : decide ((N : Int) < (N : Int)) = false := decide_eq_false (Int.lt_irrefl _)
      go_wp2_with fail
      go_ret
      exact ⟨rfl, RR.out⟩
    · obtain ⟨k6, dk, dk2, hkN, hk3⟩ := mch_k hk
      obtain ⟨x, hx⟩ : ∃ x, l[k]? = some x := ⟨_, List.getElem?_eq_getElem (by rw [← HN.out]; exact hkN)⟩
      obtain ⟨ga, rfl, hga, cs⟩ := (HA.out.later RR.out HBB.out) (by rw [← HN.out]; exact Nat.lt_of_le_of_lt (Nat.zero_le k) hkN)
      obtain ⟨gb, rfl, hgb, cs2⟩ := (HB.out.later RR.out HBB.out) (by rw [← HN.out]; exact Nat.lt_of_le_of_lt (Nat.zero_le k) hkN)
      obtain ⟨a0, a1, a2, a3⟩ := cs k x hx
      obtain ⟨b0, b1, b2, b3⟩ := cs2 k x hx
      have WK := hidA (wrK k (Nat.le_trans (Nat.le_of_lt hkN) (Nat.le_trans HL.out (by decide))))
      have BDR : Hid (∀ j, Below w.heap.size w (wr.drewN j)) := fun j => below_drA RR.out j
      clear cs cs2 hx RR
      generalize x.fa = x1 at *
      generalize x.ta = x2 at *
      generalize x.fb = x3 at *
      generalize x.tb = x4 at *
      have q1 : (x1 == x1) = true := beq_self_eq_true x1
      have q2 : (x2 == x2) = true := beq_self_eq_true x2
      have q3 : (x3 == x3) = true := beq_self_eq_true x3
      have q4 : (x4 == x4) = true := beq_self_eq_true x4
      go_upto_region 6 with fail
      go_quiet (fail)
      have BQ := hidA (BDR.out nq)
      generalize wr.drewN nq = W5 at BQ ⊢
      clear a0 a1 a2 a3 b0 b1 b2 b3
      go_wp2_with fail
      go_roundg gk
      case measure => omega
      case rel => exact ⟨k + 1, hk3, congrArg _ WK.out, BQ.out⟩
end Go.Proofs.YthglhcabdadlpaaDoor
