/- Scan, for every text. -/
import Derived.Test.YtlhklpnkelcnbaaGreatDoorLexD
import Derived.Test.YtlhklpnkelcnbaaGreatDoorScanPl
import Derived.Lib.IndexBytes
namespace Go.Proofs.YtlhklpnkelcnbaaGreatDoor
open Go.RowKit

theorem infoTok : (Tryz.prog.info? 50).map (fun i => (i.zero, i.size, i.bytes)) = some (some (.agg #[.int .i64 0, .string ⟨#[]⟩, .int .i64 0, .int .i64 0]), 4, 40) := by kernel_rfl
/-- The cells of a token at place a. -/
def cellsT (x : Lx.Tk × Nat) : List Value := [.int .i64 x.1.kind, .string ⟨x.1.text.toArray⟩, .int .i64 x.1.num, .int .i64 (x.2 : Int)]
/-- The slice v is a row of the tokens ts, among the blocks from base on. -/
def OwnT (w : World) (base : Nat) (v : Value) (ts : List (Lx.Tk × Nat)) : Prop := w.ownsRow base 50 4 v ts.length (ts.flatMap cellsT)

theorem OwnT.nil (w : World) (base : Nat) : OwnT w base (.slice none 0 0) [] := World.ownsRow_nil _ _ _ _
theorem OwnT.shape {w : World} {base : Nat} {v : Value} {ts : List (Lx.Tk × Nat)} (h : OwnT w base v ts) : ∃ ao cap, v = .slice ao ts.length cap := by
  rcases h.2 with ⟨rfl, h0⟩ | ⟨g, cap, cur, rfl, _⟩
  · exact ⟨none, 0, by rw [h0]⟩
  · exact ⟨_, cap, rfl⟩
theorem OwnT.later {w w' : World} {base : Nat} {v : Value} {ts : List (Lx.Tk × Nat)} (h : OwnT w base v ts) (hb : Below w.heap.size w w') : OwnT w' base v ts :=
  World.ownsRow.kept h (row := none) ⟨hb.os, hb.tape, hb.output, hb.size, fun k hk _ => hb.block k hk⟩ (by
    rcases h.2 with ⟨rfl, _⟩ | ⟨g, cap, cur, rfl, _⟩
    · exact .inl rfl
    · exact .inr (by simp [Value.ownBlock]))
theorem ext_end (s : ByteArray) (a : Nat) : (s.extract a s.size).data.toList = s.data.toList.drop a := Lib.extract_to_end s a
theorem four_cells (w : World) (c0 c1 c2 c3 : Value) (t : TypeId) : ∀ (j : Nat) u, [c0, c1, c2, c3][j]? = some u → (w.alloc (.cells #[c0, c1, c2, c3] t)).cell? ((⟨w.heap.size, 0, none⟩ : Addr).add j) = some u := by
  intro j u hj
  match j, hj with
  | 0, hj => simp at hj; subst hj; simp [Addr.add]
  | 1, hj => simp at hj; subst hj; simp [Addr.add]
  | 2, hj => simp at hj; subst hj; simp [Addr.add]
  | 3, hj => simp at hj; subst hj; simp [Addr.add]
  | n + 4, hj => simp at hj
theorem four_one (x : Lx.Tk × Nat) : ∀ u ∈ cellsT x, u.oneCell' = true := by
  intro u hu
  simp [cellsT] at hu
  rcases hu with rfl | rfl | rfl | rfl <;> rfl
theorem ret3 {v : Value} {a b c d : Int} (h1 : a = c) (h2 : b = d) : Ending.returned (.tuple #[v, .int .i64 a, .int .i64 b]) = .returned (.tuple #[v, .int .i64 c, .int .i64 d]) := by rw [h1, h2]

theorem tok_snoc {w w1 w2 : World} {B : Nat} {v v' : Value} {ts : List (Lx.Tk × Nat)} {x : Lx.Tk × Nat} {c1 c2 c3 : Value} {k : Int} {T : TypeId} (O1 : OwnT w1 B v ts) (hb : Below B w w1) (hB : B ≤ w1.heap.size)
    (h' : w2.ownsRow B 50 4 v' (ts.length + 1) (ts.flatMap cellsT ++ cellsT x)) (hg : ((w1.alloc (.cells #[.int .i64 k, c1, c2, c3] T)).alloc (.cells #[.int .i64 k, c1, c2, c3] T)).grownBy w2 v.ownBlock) :
    OwnT w2 B v' (ts ++ [x]) ∧ Below B w w2 ∧ w2.cell? ⟨w1.heap.size, 0, none⟩ = some (.int .i64 k) := by
  have hl := World.ownsRow.lt O1
  refine ⟨?_, ((hb.alloc hB _).alloc (by simp; omega) _).grown hg (by simp; omega) (fun g hg => (hl g hg).1), ?_⟩
  · unfold OwnT
    rw [List.length_append, List.flatMap_append]
    simpa using h'
  · refine hg.cell (a := ⟨w1.heap.size, 0, none⟩) ?_ ?_
    · rw [World.cell?_alloc_past _ _ _ (by simp), World.cell?_alloc_at _ _ _ _ rfl]; rfl
    · intro e
      have := (hl _ e.symm).2
      simp at this

/-- What Scan answers of a text, as a slice in new memory. -/
def ScanIs (l : List UInt8) (w : World) (e : Ending) (w' : World) : Prop :=
  ∃ v, e = .returned (.tuple #[v, .int .i64 ((Lx.scan l).2.1 : Int), .int .i64 (Lx.scan l).2.2]) ∧ OwnT w' w.heap.size v (Lx.scan l).1 ∧ Below w.heap.size w w'

set_option maxRecDepth 100000 in
set_option maxHeartbeats 2000000 in
theorem scan_short (s : ByteArray) (w : World) (hs : s.size ≤ 16384) (hk : Kw w) : Calls Tryz.prog 16 #[.string s] w fun e w' => ScanIs s.data.toList w e w' := by
  have HK : Hid (Kw w) := hk
  clear hk
  obtain ⟨i0, hi, hz0, hz1', hz2⟩ := info_parts infoTok
  have S0 : Hid (Lx.scan s.data.toList = Lx.scanF s.data.toList (s.size + 1) 0 []) := by
    unfold Hid Lx.scan
    rw [if_neg (by rw [size_len']; omega), size_len']
  go_enter Tryz.func16, Tryz.ntmps16
  go_wp2
  go_loopw [5, 6] (fun v i wr => ∃ (at' f cap : Nat) (ao : Option Addr) (ts : List (Lx.Tk × Nat)), at' ≤ s.size ∧ ts.length ≤ 4000 ∧ i = .int .i64 at' ∧ v = .slice ao ts.length cap ∧ OwnT wr w.heap.size (.slice ao ts.length cap) ts ∧ Below w.heap.size w wr ∧ s.size < f + at' ∧ Hid (Lx.scan s.data.toList = Lx.scanF s.data.toList f at' ts)) (fun _ i _ => s.size - (intOf i).toNat)
  case atStart => exact ⟨0, s.size + 1, 0, none, [], by omega, by simp, rfl, rfl, OwnT.nil _ _, Below.refl _ _, by omega, S0.out⟩
  case round =>
    obtain ⟨at', f, cap, ao, ts, hat, hts, rfl, rfl, hown, hnx, hf, SC⟩ := hrel
    obtain ⟨f, rfl⟩ : ∃ g, f = g + 1 := ⟨f - 1, by omega⟩
    have hz1 : (s.extract at' s.size).size ≤ maxLen := by rw [ByteArray.size_extract]; unfold maxLen; omega
    obtain ⟨bl, hbl2⟩ : ∃ bl, bl = Lx.blank false (s.extract at' s.size).data.toList := ⟨_, rfl⟩
    have HA : Hid (at' + bl = Lx.skip s.data.toList at') := by unfold Hid Lx.skip; rw [hbl2, ext_end]
    have hbl : bl ≤ s.size - at' := by
      have := Lx.skip_le s.data.toList at' (by rw [size_len']; exact hat)
      rw [size_len', ← HA.out] at this
      omega
    have HBL : Hid (bl = Lx.blank false (s.extract at' s.size).data.toList) := hbl2
    clear hbl2
    have hz2a : (s.extract (at' + bl) s.size).size ≤ maxLen := by rw [ByteArray.size_extract]; unfold maxLen; omega
    have KW : Hid (Kw wr) := HK.out.later hnx
    cases hF : Lx.first (s.extract (at' + bl) s.size).data.toList with
    | none =>
      have HF : Hid (Lx.first (s.extract (at' + bl) s.size).data.toList = none) := hF
      clear hF
      have R : Hid (Lx.scan s.data.toList = ([], at' + bl, 20)) := by
        unfold Hid
        rw [SC.out, Lx.scanF, ← HA.out, ← ext_end, HF.out]
      go_wp2_with fail
      refine (blankSize_any (s.extract at' s.size) _ hz1).mono ?_
      rintro e w' ⟨rfl, rfl⟩
      rw [← HBL.out]
      go_wp2_with fail
      refine (first_any (s.extract (at' + bl) s.size) _ hz2a KW.out).mono ?_
      rintro e w1 ⟨rfl, b1⟩
      rw [HF.out]
      unfold tokR
      have hb1 := hnx.trans (b1.mono hnx.size)
      have hzz := Nat.le_trans hnx.size b1.size
      clear b1 hnx hown
      go_wp2_with fail
      go_ret3
      refine ⟨_, ret3 (by rw [R.out]; simp) (by rw [R.out]), ?_, ?_⟩
      · rw [R.out]; exact OwnT.nil _ _
      · exact hb1.alloc hzz _
    | some x =>
      obtain ⟨t, n⟩ := x
      have FL : Hid _ := Lx.first_len hF
      have HF : Hid (Lx.first (s.extract (at' + bl) s.size).data.toList = some (t, n)) := hF
      clear hF
      have RS : Hid (Lx.scan s.data.toList = if ts.length = 4000 then ([], at' + bl, 2) else if t.kind = 0 then (ts ++ [(t, at' + bl)], 0, 0) else Lx.scanF s.data.toList f (at' + bl + n) (ts ++ [(t, at' + bl)])) := by
        unfold Hid
        rw [SC.out, Lx.scanF, ← HA.out, ← ext_end, HF.out]
      by_cases h4 : ts.length = 4000
      · have R : Hid (Lx.scan s.data.toList = ([], at' + bl, 2)) := by unfold Hid; rw [RS.out, if_pos h4]
        have h4b : ((ts.length : Int) == 4000) = true := beq_iff_eq.2 (by omega)
        clear h4 hts
        go_wp2_with fail
        refine (blankSize_any (s.extract at' s.size) _ hz1).mono ?_
        rintro e w' ⟨rfl, rfl⟩
        rw [← HBL.out]
        go_wp2_with fail
        refine (first_any (s.extract (at' + bl) s.size) _ hz2a KW.out).mono ?_
        rintro e w1 ⟨rfl, b1⟩
        rw [HF.out]
        unfold tokR tokV
        have hb1 := hnx.trans (b1.mono hnx.size)
        have hzz := Nat.le_trans hnx.size b1.size
        have O1 := hown.later b1
        clear b1 hnx hown
        go_wp2_with fail
        go_ret3
        refine ⟨_, ret3 (by rw [R.out]; simp) (by rw [R.out]), ?_, ?_⟩
        · rw [R.out]; exact OwnT.nil _ _
        · exact hb1.alloc hzz _
      · have h4b : ((ts.length : Int) == 4000) = false := beq_eq_false_iff_ne.2 (by omega)
        by_cases hk0 : t.kind = 0
        · have R : Hid (Lx.scan s.data.toList = (ts ++ [(t, at' + bl)], 0, 0)) := by unfold Hid; rw [RS.out, if_neg h4, if_pos hk0]
          have hkb : (t.kind == 0) = true := beq_iff_eq.2 hk0
          have HK0 : Hid (t.kind = 0) := hk0
          clear hk0
          go_wp2_with fail
          refine (blankSize_any (s.extract at' s.size) _ hz1).mono ?_
          rintro e w' ⟨rfl, rfl⟩
          rw [← HBL.out]
          go_wp2_with fail
          refine (first_any (s.extract (at' + bl) s.size) _ hz2a KW.out).mono ?_
          rintro e w1 ⟨rfl, b1⟩
          rw [HF.out]
          unfold tokR tokV
          have hb1 := hnx.trans (b1.mono hnx.size)
          have hzz := Nat.le_trans hnx.size b1.size
          have O1 := hown.later b1
          clear b1 hnx hown
          go_wp2_with (at_builtin; refine wpList_append_own _ rfl _ _ 36 rfl w.heap.size 50 i0 (.agg #[.int .i64 0, .string ⟨#[]⟩, .int .i64 0, .int .i64 0]) 4 40 Tryz.underlying36 hi hz0 hz1' hz2 rfl (by decide) _ _ _ rfl (World.ownsRow.alloc (World.ownsRow.alloc O1 _) _) ⟨w1.heap.size + 1, 0, none⟩ 1 1 (cellsT (t, at' + bl)) rfl rfl ?c1 (four_one _) ?c3 ?c4 ?c5 ?_)
          case c1 => have := four_cells (w1.alloc (.cells (cellsT (t, at' + bl)).toArray 50)) (.int .i64 t.kind) (.string ⟨t.text.toArray⟩) (.int .i64 t.num) (.int .i64 ((at' + bl : Nat) : Int)) 50; rw [World.size_alloc] at this; exact this
          case c3 => unfold maxLen; omega
          case c4 => omega
          case c5 => simp; omega
          intro v' w2 hown' hgrow _
          obtain ⟨O2, hb2, hc2⟩ := tok_snoc O1 hb1 hzz hown' hgrow
          clear hown' hgrow O1
          go_wp2_with fail
          go_ret3
          refine ⟨_, ret3 (by rw [R.out]; rfl) (by rw [R.out]), ?_, hb2⟩
          rw [R.out]; exact O2
        · have R : Hid (Lx.scan s.data.toList = Lx.scanF s.data.toList f (at' + bl + n) (ts ++ [(t, at' + bl)])) := by unfold Hid; rw [RS.out, if_neg h4, if_neg hk0]
          have hkb : (t.kind == 0) = false := beq_eq_false_iff_ne.2 hk0
          have hn : 1 ≤ n ∧ n ≤ s.size - (at' + bl) := by
            rcases FL.out with ⟨_, h2, _⟩ | ⟨_, h2, h3⟩
            · exact absurd (by rw [h2]) hk0
            · rw [size_len', ByteArray.size_extract] at h3
              omega
          obtain ⟨hn1, hn2⟩ := hn
          have HK0 : Hid (¬ t.kind = 0) := hk0
          clear hk0
          go_wp2_with fail
          refine (blankSize_any (s.extract at' s.size) _ hz1).mono ?_
          rintro e w' ⟨rfl, rfl⟩
          rw [← HBL.out]
          go_wp2_with fail
          refine (first_any (s.extract (at' + bl) s.size) _ hz2a KW.out).mono ?_
          rintro e w1 ⟨rfl, b1⟩
          rw [HF.out]
          unfold tokR tokV
          have hb1 := hnx.trans (b1.mono hnx.size)
          have hzz := Nat.le_trans hnx.size b1.size
          have O1 := hown.later b1
          clear b1 hnx hown
          go_wp2_with (at_builtin; refine wpList_append_own _ rfl _ _ 36 rfl w.heap.size 50 i0 (.agg #[.int .i64 0, .string ⟨#[]⟩, .int .i64 0, .int .i64 0]) 4 40 Tryz.underlying36 hi hz0 hz1' hz2 rfl (by decide) _ _ _ rfl (World.ownsRow.alloc (World.ownsRow.alloc O1 _) _) ⟨w1.heap.size + 1, 0, none⟩ 1 1 (cellsT (t, at' + bl)) rfl rfl ?c1 (four_one _) ?c3 ?c4 ?c5 ?_)
          case c1 => have := four_cells (w1.alloc (.cells (cellsT (t, at' + bl)).toArray 50)) (.int .i64 t.kind) (.string ⟨t.text.toArray⟩) (.int .i64 t.num) (.int .i64 ((at' + bl : Nat) : Int)) 50; rw [World.size_alloc] at this; exact this
          case c3 => unfold maxLen; omega
          case c4 => omega
          case c5 => simp; omega
          intro v' w2 hown' hgrow _
          obtain ⟨O2, hb2, hc2⟩ := tok_snoc O1 hb1 hzz hown' hgrow
          clear hown' hgrow O1
          obtain ⟨ao2, cap2, hv2⟩ := O2.shape
          have hlen : (ts ++ [(t, at' + bl)]).length = ts.length + 1 := by simp
          go_wp2_with fail
          go_roundw
          case rel => exact ⟨at' + bl + n, f, cap2, ao2, ts ++ [(t, at' + bl)], by omega, by omega, by go_num, hv2, by rw [← hv2]; exact O2, hb2, by omega, R⟩
          case measure => simp [intOf]; omega
end Go.Proofs.YtlhklpnkelcnbaaGreatDoor
