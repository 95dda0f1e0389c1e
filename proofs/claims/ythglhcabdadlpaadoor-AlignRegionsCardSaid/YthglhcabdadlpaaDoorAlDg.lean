/- Layer 15: Hunks, walked. -/
import Derived.Test.YthglhcabdadlpaaDoorAlDf
import Derived.Test.YthglhcabdadlpaaDoorAlO
namespace Go.Proofs.YthglhcabdadlpaaDoor
open Go.RowKit
set_option linter.unusedVariables false
set_option linter.unusedSimpArgs false
set_option maxRecDepth 100000
theorem gaps_lenB {n m : Int} : ∀ (a b : Int) (l : List Al.Ev), (Al.gaps n m a b l).length ≤ l.length + 1
  | a, b, [] => by
    simp only [Al.gaps, Al.one]
    split <;> simp
  | a, b, x :: l => by
    have := gaps_lenB (n := n) (m := m) (x.1 + 1) (x.2 + 1) l
    have h : (Al.one a x.1 b x.2).length ≤ 1 := by
      simp only [Al.one]
      split <;> simp
    simp only [Al.gaps, List.length_append, List.length_cons]
    omega
def HnQ (w : World) (n m : Int) (l : List Al.Ev) (c : Int) (e : Ending) (w' : World) : Prop := ∃ v, e = .returned (.tuple #[v, .int .i64 (Al.hunks n m l c).2]) ∧ OwG w' w.heap.size 59 v (Al.hunks n m l c).1 ∧ Below w.heap.size w w'
set_option maxHeartbeats 2000000 in
theorem hunkss_any (w : World) (a : Option Addr) (ca : Nat) (l : List Al.Ev) (n m c : Int) {B : Nat} (ha : EvR B w a l) (hB : B ≤ w.heap.size) (hl : l.length ≤ 800) (hc2 : c ≤ 9223372036854775807) (hn : n ≤ 9223372036854775807) (hm : m ≤ 9223372036854775807) :
    Calls Tryd.prog 24 #[.int .i64 n, .int .i64 m, .slice a l.length ca, .int .i64 c] w (HnQ w n m l c) := by
  have HRI := hidA (rise_any w a ca l n m ha hB (Nat.le_trans hl (by decide)))
  have HGS : Hid (Al.rise n m (-1, -1) l = true → ∀ wz, Below w.heap.size w wz → Calls Tryd.prog 41 #[.int .i64 n, .int .i64 m, .slice a l.length ca] wz (GsQ wz n m l)) := fun hr wz hz => gaps_any wz a ca l n m (ha.later hz hB) (Nat.le_trans hB hz.size) (Nat.le_trans hl (by decide)) hr hn hm
  have HHK : Hid (¬ (n < 0 ∨ m < 0 ∨ c < 0) → Al.rise n m (-1, -1) l = true → ∀ v wz, OwG wz w.heap.size 59 v (Al.gaps n m 0 0 l) → Calls Tryd.prog 42 #[.int .i64 n, v, .int .i64 c] wz (HuQ wz n c (Al.gaps n m 0 0 l))) := fun h hr v wz ho => by
    obtain ⟨av, cv, rfl, hg⟩ := ho.rb
    exact hunks_any wz av cv _ n m c hg (Nat.le_refl _) (Nat.le_trans (gaps_lenB 0 0 l) (Nat.le_trans (Nat.succ_le_succ hl) (by decide))) (Al.ch_gaps 0 0 (-1, -1) l hr (by decide) (by decide) (by decide) (by decide) (by omega) (by omega)) (by omega) hc2 hn hm
  obtain ⟨Q, hQ⟩ : ∃ Q, Q = HnQ w n m l c := ⟨_, rfl⟩
  have Q1 : Hid ((n < 0 ∨ m < 0 ∨ c < 0) → ∀ w', Below w.heap.size w w' → Q (.returned (.tuple #[.slice none 0 0, .int .i64 1])) w') := fun h w' hb => by
    rw [hQ]
    refine ⟨.slice none 0 0, ?_⟩
    unfold Al.hunks
    rw [if_pos h]
    exact ⟨rfl, OwG.nil _ _ _, hb⟩
  have Q2 : Hid (¬ (n < 0 ∨ m < 0 ∨ c < 0) → Al.rise n m (-1, -1) l = false → ∀ w', Below w.heap.size w w' → Q (.returned (.tuple #[.slice none 0 0, .int .i64 90])) w') := fun h hr w' hb => by
    rw [hQ]
    refine ⟨.slice none 0 0, ?_⟩
    unfold Al.hunks
    rw [if_neg h, hr]
    exact ⟨rfl, OwG.nil _ _ _, hb⟩
  have Q3 : Hid (¬ (n < 0 ∨ m < 0 ∨ c < 0) → Al.rise n m (-1, -1) l = true → ∀ v w1 w', Below w.heap.size w w1 → OwG w' w1.heap.size 59 v (Al.hk n c 0 [] (Al.gaps n m 0 0 l)) → Below w1.heap.size w1 w' → Q (.returned (.tuple #[v, .int .i64 0])) w') := fun h hr v w1 w' hb ho h2 => by
    rw [hQ]
    refine ⟨v, ?_⟩
    unfold Al.hunks
    rw [if_neg h, if_pos hr]
    exact ⟨rfl, ho.base hb.size, hb.trans (h2.mono hb.size)⟩
  rw [← hQ]
  clear hQ
  generalize l.length = N at *
  clear ha hB hl hn hm hc2
  by_cases c1 : n < 0
  · have d1 : decide (n < 0) = true := decide_eq_true c1
    have F := hidA (Q1.out (.inl c1) w (Below.refl _ _))
    clear Q1 Q2 Q3 HRI HGS HHK
    go_enter Tryd.func24, Tryd.ntmps24
    go_wp2_with fail
    exact F.out
  · have d1 : decide (n < 0) = false := decide_eq_false c1
    by_cases c2 : m < 0
    · have d2 : decide (m < 0) = true := decide_eq_true c2
      have F := hidA (Q1.out (.inr (.inl c2)) w (Below.refl _ _))
      clear Q1 Q2 Q3 HRI HGS
      go_enter Tryd.func24, Tryd.ntmps24
      go_wp2_with fail
      exact F.out
    · have d2 : decide (m < 0) = false := decide_eq_false c2
      by_cases c4 : c < 0
      · have d4 : decide (c < 0) = true := decide_eq_true c4
        have F := hidA (Q1.out (.inr (.inr c4)) w (Below.refl _ _))
        clear Q1 Q2 Q3 HRI HGS HHK
        go_enter Tryd.func24, Tryd.ntmps24
        go_wp2_with fail
        exact F.out
      have d4 : decide (c < 0) = false := decide_eq_false c4
      have c3 : ¬ (n < 0 ∨ m < 0 ∨ c < 0) := fun h => h.elim c1 (fun h => h.elim c2 c4)
      have Q2' := hidA (Q2.out c3)
      have Q3' := hidA (Q3.out c3)
      have HK1 := hidA (HHK.out c3)
      clear Q1 Q2 Q3 HHK c1 c2 c3 c4
      obtain ⟨R, hR⟩ : ∃ R, R = Al.rise n m (-1, -1) l := ⟨_, rfl⟩
      rw [← hR] at HRI HGS Q2' Q3' HK1
      clear hR
      cases R
      · have Q2'' := hidA (Q2'.out rfl)
        clear Q2' Q3' HGS HK1
        go_enter Tryd.func24, Tryd.ntmps24
        go_wp2_with fail
        refine HRI.out.mono ?_
        rintro e w1 ⟨rfl, b1⟩
        have F := hidA (Q2''.out w1 b1)
        clear b1
        go_wp2_with fail
        exact F.out
      · have Q3'' := hidA (Q3'.out rfl)
        have HG2 := hidA (HGS.out rfl)
        have HK2 := hidA (HK1.out rfl)
        have zb := hidA (Nat.le_refl w.heap.size)
        clear Q2' Q3' HGS
        go_enter Tryd.func24, Tryd.ntmps24
        go_wp2_with fail
        refine HRI.out.mono ?_
        rintro e w1 ⟨rfl, b1⟩
        have B1 := hidA b1
        clear b1
        go_wp2_with fail
        refine (HG2.out w1 B1.out).mono ?_
        rintro e w2 ⟨v, rfl, ho, b2⟩
        have B2 := hidA b2
        have HK3 := hidA (HK2.out v w2 (ho.base B1.out.size))
        have OV := hidA ho
        obtain ⟨av, cv, rfl⟩ := ownShA (show w2.ownsRow _ _ 4 v _ (rgC _) from ho)
        clear ho b2 HK2
        go_wp2_with fail
        refine HK3.out.mono ?_
        rintro e w3 ⟨v3, rfl, ho, b3⟩
        have F := hidA (Q3''.out v3 w1 w3 B1.out (ho.base B2.out.size) (B2.out.trans (b3.mono B2.out.size)))
        clear ho b3 HK3 OV
        go_wp2_with fail
        exact F.out
end Go.Proofs.YthglhcabdadlpaaDoor
