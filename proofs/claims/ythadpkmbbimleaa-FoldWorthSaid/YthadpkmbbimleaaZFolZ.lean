/- Layer 5: what the rules make of an expression whose parts are folded (the program's smaller). -/
/- Layer 5: an expression, folded (the program's Expr), for every expression of bounded lists and numbers of 64 bits. -/
/- Layer 5: an expression folded twice is one folded once (plain). -/
/- Layer 5: the fixed calls (known). -/
import Derived.Test.YthadpkmbbimleaaZFolO
import Derived.Test.YthadpkmbbimleaaZFolO6
import Derived.Test.YthadpkmbbimleaaZFolT
namespace Go.Proofs.Ythadpkmbbimleaa
open Go.RowKit


def Fo.sm (x : Sx.Ex) : Sx.Ex := if Fo.kd x = 5 ∨ Fo.kd x = 6 then (match Fo.kn x with | some y => y | none => if Fo.kd x = 5 then Fo.su x else Fo.st x) else x
theorem Fo.sm_other {k : Int} {n : List UInt8} {m : Int} {l : List Sx.Ex} (h5 : k ≠ 5) (h6 : k ≠ 6) : Fo.sm (.mk k n m l) = .mk k n m l := if_neg (fun h => h.elim h5 h6)
theorem Fo.sm_un (n : List UInt8) (m : Int) (l : List Sx.Ex) : Fo.sm (.mk 5 n m l) = (match Fo.kn (.mk 5 n m l) with | some y => y | none => Fo.su (.mk 5 n m l)) := rfl
theorem Fo.sm_bin (n : List UInt8) (m : Int) (l : List Sx.Ex) : Fo.sm (.mk 6 n m l) = (match Fo.kn (.mk 6 n m l) with | some y => y | none => Fo.st (.mk 6 n m l)) := rfl
set_option maxRecDepth 100000 in
set_option maxHeartbeats 2000000 in
theorem sm_other (A : Nat → Prop) (k : Int) (n : List UInt8) (m : Int) (l : List Sx.Ex) (sa : Option Addr) (sc : Nat) (w : World) (h5 : k ≠ 5) (h6 : k ≠ 6) (hs : ExS A w (.slice sa l.length sc) l) :
    Calls Try.prog 32 #[.agg #[.int .i64 k, .string ⟨n.toArray⟩, .int .i64 m, .slice sa l.length sc]] w (RE (fun g => A g ∨ w.heap.size ≤ g) w (.mk k n m l)) := by
  have e5 : (k != 5) = true := bne_iff_ne.2 h5
  have e6 : (k != 6) = true := bne_iff_ne.2 h6
  obtain ⟨W0, hW0⟩ : ∃ W0, W0 = (w.alloc (.cells #[.int .i64 k, .string ⟨n.toArray⟩, .int .i64 m, .slice sa l.length sc] 24)).alloc zE := ⟨_, rfl⟩
  have bW : Below w.heap.size w W0 := by rw [hW0]; go_grown
  have sW : W0.heap.size = w.heap.size + 2 := by rw [hW0]; simp
  have BX0 : Bx W0 w.heap.size (.int .i64 k) (.string ⟨n.toArray⟩) (.int .i64 m) (.slice sa l.length sc) := by rw [hW0]; exact (Bx.new w _ _ _ _ _).later (box_below _ _) (by simp)
  have RX0 : Bx W0 (w.heap.size + 1) (.int .i64 0) (.string ⟨#[]⟩) (.int .i64 0) (.slice none 0 0) := by
    have B := Bx.new (w.alloc (.cells #[.int .i64 k, .string ⟨n.toArray⟩, .int .i64 m, .slice sa l.length sc] 24)) 24 (.int .i64 0) (.string ⟨#[]⟩) (.int .i64 0) (.slice none 0 0)
    have es : (w.alloc (.cells #[.int .i64 k, .string ⟨n.toArray⟩, .int .i64 m, .slice sa l.length sc] 24)).heap.size = w.heap.size + 1 := by simp
    rw [es] at B
    rw [hW0]; exact B
  have BX : Hid _ := BX0
  have RX : Hid _ := RX0
  have BW : Hid _ := bW
  have SW : Hid _ := sW
  have HS : Hid _ := hs.old
  obtain ⟨d0, d1, d2, d3, f0, f1, f2, f3, zt⟩ := BX0
  obtain ⟨g0, g1, g2, g3, i0, i1, i2, i3, zr⟩ := RX0
  clear hs h5 h6 bW sW
  go_enter Try.func32, Try.ntmps32
  go_upto_region 1 with fail
  rw [← hW0]
  clear hW0
  go_wp2_with fail
  refine bodyPost_ret (v := .agg #[.int .i64 k, .string ⟨n.toArray⟩, .int .i64 m, .slice sa l.length sc]) (by simp [results, Try.results32, go_sem, g0, g1, g2, g3]) rfl ?_
  refine ⟨k, n, m, sa, sc, l, rfl, rfl, ?_, (((BW.out.setCell (by simp) _).setCell (by simp) _).setCell (by simp) _).setCell (by simp) _⟩
  exact ((HS.out.later BW.out (Nat.le_refl _)).fill (g := w.heap.size + 1) (fun h => by have := h.2; omega) _ _ _ _).mono fun _ _ h => .inl h.1
set_option maxRecDepth 100000 in
set_option maxHeartbeats 4000000 in
theorem sm_un (A : Nat → Prop) (n : List UInt8) (m : Int) (l : List Sx.Ex) (sa : Option Addr) (sc : Nat) (w : World) (hs : ExS A w (.slice sa l.length sc) l) (hl : l.length ≤ 1000000) (hrg : Fo.Rg (.mk 5 n m l))
    (hsu : ∀ W, Below w.heap.size w W → Calls Try.prog 56 #[.agg #[.int .i64 5, .string ⟨n.toArray⟩, .int .i64 m, .slice sa l.length sc]] W (RE (fun g => (A g ∧ g < w.heap.size) ∨ W.heap.size ≤ g) W (Fo.su (.mk 5 n m l)))) :
    Calls Try.prog 32 #[.agg #[.int .i64 5, .string ⟨n.toArray⟩, .int .i64 m, .slice sa l.length sc]] w (RE (fun g => A g ∨ w.heap.size ≤ g) w (Fo.sm (.mk 5 n m l))) := by
  have HU : Hid _ := hsu
  have EK : Hid (∀ W, Below w.heap.size w W → _) := fun W hW => known_ex A 5 n m l sa sc W (hs.later hW (Nat.le_refl _)) hl hrg
  have SM : Hid (Fo.sm (.mk 5 n m l) = (match Fo.kn (.mk 5 n m l) with | some y => y | none => Fo.su (.mk 5 n m l))) := rfl
  obtain ⟨W0, hW0⟩ : ∃ W0, W0 = (w.alloc (.cells #[.int .i64 5, .string ⟨n.toArray⟩, .int .i64 m, .slice sa l.length sc] 24)).alloc zE := ⟨_, rfl⟩
  have bW : Below w.heap.size w W0 := by rw [hW0]; go_grown
  have sW : W0.heap.size = w.heap.size + 2 := by rw [hW0]; simp
  have BX0 : Bx W0 w.heap.size (.int .i64 5) (.string ⟨n.toArray⟩) (.int .i64 m) (.slice sa l.length sc) := by rw [hW0]; exact (Bx.new w _ _ _ _ _).later (box_below _ _) (by simp)
  have RX0 : Bx W0 (w.heap.size + 1) (.int .i64 0) (.string ⟨#[]⟩) (.int .i64 0) (.slice none 0 0) := by
    have B := Bx.new (w.alloc (.cells #[.int .i64 5, .string ⟨n.toArray⟩, .int .i64 m, .slice sa l.length sc] 24)) 24 (.int .i64 0) (.string ⟨#[]⟩) (.int .i64 0) (.slice none 0 0)
    have es : (w.alloc (.cells #[.int .i64 5, .string ⟨n.toArray⟩, .int .i64 m, .slice sa l.length sc] 24)).heap.size = w.heap.size + 1 := by simp
    rw [es] at B
    rw [hW0]; exact B
  have BX : Hid _ := BX0
  have RX : Hid _ := RX0
  have BW : Hid _ := bW
  have SW : Hid _ := sW
  have HS : Hid _ := hs.old
  obtain ⟨d0, d1, d2, d3, f0, f1, f2, f3, zt⟩ := BX0
  clear hs hsu hl hrg bW sW RX0
  go_enter Try.func32, Try.ntmps32
  go_upto_region 1 with fail
  rw [← hW0]
  clear hW0
  go_wp2_with fail
  refine Calls.mono (EK.out _ BW.out) ?_
  cases hk : Fo.kn (.mk 5 n m l) with
  | some y =>
    rintro e w1 ⟨kk, nn, mm, sb, sd, l1, hy, rfl, X, b1⟩
    have R : Hid (Fo.sm (.mk 5 n m l) = .mk kk nn mm l1) := by unfold Hid; rw [SM.out, hk]; exact hy
    have B1 : Hid (Below w.heap.size w w1) := BW.out.trans (b1.mono BW.out.size)
    have X1 : Hid (ExS (fun g => w.heap.size + 1 < g ∧ g < w1.heap.size) w1 (.slice sb l1.length sd) l1) := X.mono fun g hg h => ⟨by have := SW.out; omega, hg⟩
    obtain ⟨W2, hW2⟩ : ∃ W2, W2 = w1.alloc (.cells #[.int .i64 kk, .string ⟨nn.toArray⟩, .int .i64 mm, .slice sb l1.length sd] 24) := ⟨_, rfl⟩
    have b2 : Below w1.heap.size w1 W2 := by rw [hW2]; exact box_below _ _
    have YX : Hid (Bx W2 w1.heap.size (.int .i64 kk) (.string ⟨nn.toArray⟩) (.int .i64 mm) (.slice sb l1.length sd)) := by rw [hW2]; exact Bx.new _ _ _ _ _ _
    have RX1 : Hid (Bx w1 (w.heap.size + 1) (.int .i64 0) (.string ⟨#[]⟩) (.int .i64 0) (.slice none 0 0)) := RX.out.later b1 RX.out.lt
    have RX2 : Hid _ := RX1.out.later b2 RX1.out.lt
    have B2 : Hid (Below w.heap.size w W2) := B1.out.trans (b2.mono B1.out.size)
    have X2 : Hid _ := X1.out.later b2 (Nat.le_refl _)
    clear hk b1 b2 X hy d0 d1 d2 d3 f0 f1 f2 f3 zt
    go_upto_region 4 with fail
    rw [← hW2]
    clear hW2
    obtain ⟨y0, y1, y2, y3, yf0, yf1, yf2, yf3, zy⟩ := YX.out
    obtain ⟨g0, g1, g2, g3, i0, i1, i2, i3, zr⟩ := RX2.out
    go_wp2_with fail
    refine bodyPost_ret (v := .agg #[.int .i64 kk, .string ⟨nn.toArray⟩, .int .i64 mm, .slice sb l1.length sd]) (by simp [results, Try.results32, go_sem, g0, g1, g2, g3]) rfl ?_
    rw [R.out]
    refine ⟨kk, nn, mm, sb, sd, l1, rfl, rfl, ?_, (((B2.out.setCell (by simp) _).setCell (by simp) _).setCell (by simp) _).setCell (by simp) _⟩
    exact (X2.out.fill (g := w.heap.size + 1) (fun h => by have := h.1; omega) _ _ _ _).mono fun g _ h => .inr (by have := h.1; omega)
  | none =>
    rintro e w1 ⟨rfl, b1⟩
    have R : Hid (Fo.sm (.mk 5 n m l) = Fo.su (.mk 5 n m l)) := by unfold Hid; rw [SM.out, hk]
    have B1 : Hid (Below w.heap.size w w1) := BW.out.trans (b1.mono BW.out.size)
    have BX1 : Hid (Bx w1 w.heap.size (.int .i64 5) (.string ⟨n.toArray⟩) (.int .i64 m) (.slice sa l.length sc)) := BX.out.later b1 BX.out.lt
    have RX1 : Hid (Bx w1 (w.heap.size + 1) (.int .i64 0) (.string ⟨#[]⟩) (.int .i64 0) (.slice none 0 0)) := RX.out.later b1 RX.out.lt
    obtain ⟨W2, hW2⟩ : ∃ W2, W2 = w1.alloc (.cells #[.int .i64 0, .string ⟨#[]⟩, .int .i64 0, .slice none 0 0] 24) := ⟨_, rfl⟩
    have b2 : Below w1.heap.size w1 W2 := by rw [hW2]; exact box_below _ _
    have BX2 : Hid _ := BX1.out.later b2 BX1.out.lt
    have RX2 : Hid _ := RX1.out.later b2 RX1.out.lt
    have B2 : Hid (Below w.heap.size w W2) := B1.out.trans (b2.mono B1.out.size)
    clear hk b1 b2 d0 d1 d2 d3 f0 f1 f2 f3 zt
    go_upto_region 4 with fail
    rw [← hW2]
    clear hW2
    obtain ⟨d0, d1, d2, d3, f0, f1, f2, f3, zt⟩ := BX2.out
    go_wp2_with fail
    refine Calls.mono (HU.out _ B2.out) ?_
    rintro e w3 ⟨kk, nn, mm, sb, sd, l1, hy, rfl, X, b3⟩
    have B3 : Hid (Below w.heap.size w w3) := B2.out.trans (b3.mono B2.out.size)
    have X1 : Hid (ExS (fun g => A g ∧ g < w.heap.size ∨ w.heap.size + 1 < g) w3 (.slice sb l1.length sd) l1) := X.mono fun g _ h => h.imp id fun h => Nat.lt_of_lt_of_le RX2.out.lt h
    have HY : Hid _ := hy
    obtain ⟨g0, g1, g2, g3, i0, i1, i2, i3, zr⟩ := RX2.out.later b3 RX2.out.lt
    clear b3 X hy d0 d1 d2 d3 f0 f1 f2 f3 zt
    go_wp2_with fail
    refine bodyPost_ret (v := .agg #[.int .i64 kk, .string ⟨nn.toArray⟩, .int .i64 mm, .slice sb l1.length sd]) (by simp [results, Try.results32, go_sem, g0, g1, g2, g3]) rfl ?_
    rw [R.out]
    refine ⟨kk, nn, mm, sb, sd, l1, HY.out, rfl, ?_, (((B3.out.setCell (by simp) _).setCell (by simp) _).setCell (by simp) _).setCell (by simp) _⟩
    exact (X1.out.fill (g := w.heap.size + 1) (fun h => by omega) _ _ _ _).mono fun g _ h => h.elim (fun h => .inl h.1) fun h => .inr (Nat.le_of_lt (Nat.lt_of_le_of_lt (Nat.le_succ _) h))
set_option maxRecDepth 100000 in
set_option maxHeartbeats 4000000 in
theorem sm_bin (A : Nat → Prop) (n : List UInt8) (m : Int) (l : List Sx.Ex) (sa : Option Addr) (sc : Nat) (w : World) (hs : ExS A w (.slice sa l.length sc) l) (hl : l.length ≤ 1000000) (hrg : Fo.Rg (.mk 6 n m l))
    (hsu : ∀ W, Below w.heap.size w W → Calls Try.prog 57 #[.agg #[.int .i64 6, .string ⟨n.toArray⟩, .int .i64 m, .slice sa l.length sc]] W (RE (fun g => (A g ∧ g < w.heap.size) ∨ W.heap.size ≤ g) W (Fo.st (.mk 6 n m l)))) :
    Calls Try.prog 32 #[.agg #[.int .i64 6, .string ⟨n.toArray⟩, .int .i64 m, .slice sa l.length sc]] w (RE (fun g => A g ∨ w.heap.size ≤ g) w (Fo.sm (.mk 6 n m l))) := by
  have HU : Hid _ := hsu
  have EK : Hid (∀ W, Below w.heap.size w W → _) := fun W hW => known_ex A 6 n m l sa sc W (hs.later hW (Nat.le_refl _)) hl hrg
  have SM : Hid (Fo.sm (.mk 6 n m l) = (match Fo.kn (.mk 6 n m l) with | some y => y | none => Fo.st (.mk 6 n m l))) := rfl
  obtain ⟨W0, hW0⟩ : ∃ W0, W0 = (w.alloc (.cells #[.int .i64 6, .string ⟨n.toArray⟩, .int .i64 m, .slice sa l.length sc] 24)).alloc zE := ⟨_, rfl⟩
  have bW : Below w.heap.size w W0 := by rw [hW0]; go_grown
  have sW : W0.heap.size = w.heap.size + 2 := by rw [hW0]; simp
  have BX0 : Bx W0 w.heap.size (.int .i64 6) (.string ⟨n.toArray⟩) (.int .i64 m) (.slice sa l.length sc) := by rw [hW0]; exact (Bx.new w _ _ _ _ _).later (box_below _ _) (by simp)
  have RX0 : Bx W0 (w.heap.size + 1) (.int .i64 0) (.string ⟨#[]⟩) (.int .i64 0) (.slice none 0 0) := by
    have B := Bx.new (w.alloc (.cells #[.int .i64 6, .string ⟨n.toArray⟩, .int .i64 m, .slice sa l.length sc] 24)) 24 (.int .i64 0) (.string ⟨#[]⟩) (.int .i64 0) (.slice none 0 0)
    have es : (w.alloc (.cells #[.int .i64 6, .string ⟨n.toArray⟩, .int .i64 m, .slice sa l.length sc] 24)).heap.size = w.heap.size + 1 := by simp
    rw [es] at B
    rw [hW0]; exact B
  have BX : Hid _ := BX0
  have RX : Hid _ := RX0
  have BW : Hid _ := bW
  have SW : Hid _ := sW
  have HS : Hid _ := hs.old
  obtain ⟨d0, d1, d2, d3, f0, f1, f2, f3, zt⟩ := BX0
  clear hs hsu hl hrg bW sW RX0
  go_enter Try.func32, Try.ntmps32
  go_upto_region 1 with fail
  rw [← hW0]
  clear hW0
  go_wp2_with fail
  refine Calls.mono (EK.out _ BW.out) ?_
  cases hk : Fo.kn (.mk 6 n m l) with
  | some y =>
    rintro e w1 ⟨kk, nn, mm, sb, sd, l1, hy, rfl, X, b1⟩
    have R : Hid (Fo.sm (.mk 6 n m l) = .mk kk nn mm l1) := by unfold Hid; rw [SM.out, hk]; exact hy
    have B1 : Hid (Below w.heap.size w w1) := BW.out.trans (b1.mono BW.out.size)
    have X1 : Hid (ExS (fun g => w.heap.size + 1 < g ∧ g < w1.heap.size) w1 (.slice sb l1.length sd) l1) := X.mono fun g hg h => ⟨by have := SW.out; omega, hg⟩
    obtain ⟨W2, hW2⟩ : ∃ W2, W2 = w1.alloc (.cells #[.int .i64 kk, .string ⟨nn.toArray⟩, .int .i64 mm, .slice sb l1.length sd] 24) := ⟨_, rfl⟩
    have b2 : Below w1.heap.size w1 W2 := by rw [hW2]; exact box_below _ _
    have YX : Hid (Bx W2 w1.heap.size (.int .i64 kk) (.string ⟨nn.toArray⟩) (.int .i64 mm) (.slice sb l1.length sd)) := by rw [hW2]; exact Bx.new _ _ _ _ _ _
    have RX1 : Hid (Bx w1 (w.heap.size + 1) (.int .i64 0) (.string ⟨#[]⟩) (.int .i64 0) (.slice none 0 0)) := RX.out.later b1 RX.out.lt
    have RX2 : Hid _ := RX1.out.later b2 RX1.out.lt
    have B2 : Hid (Below w.heap.size w W2) := B1.out.trans (b2.mono B1.out.size)
    have X2 : Hid _ := X1.out.later b2 (Nat.le_refl _)
    clear hk b1 b2 X hy d0 d1 d2 d3 f0 f1 f2 f3 zt
    go_upto_region 4 with fail
    rw [← hW2]
    clear hW2
    obtain ⟨y0, y1, y2, y3, yf0, yf1, yf2, yf3, zy⟩ := YX.out
    obtain ⟨g0, g1, g2, g3, i0, i1, i2, i3, zr⟩ := RX2.out
    go_wp2_with fail
    refine bodyPost_ret (v := .agg #[.int .i64 kk, .string ⟨nn.toArray⟩, .int .i64 mm, .slice sb l1.length sd]) (by simp [results, Try.results32, go_sem, g0, g1, g2, g3]) rfl ?_
    rw [R.out]
    refine ⟨kk, nn, mm, sb, sd, l1, rfl, rfl, ?_, (((B2.out.setCell (by simp) _).setCell (by simp) _).setCell (by simp) _).setCell (by simp) _⟩
    exact (X2.out.fill (g := w.heap.size + 1) (fun h => by have := h.1; omega) _ _ _ _).mono fun g _ h => .inr (by have := h.1; omega)
  | none =>
    rintro e w1 ⟨rfl, b1⟩
    have R : Hid (Fo.sm (.mk 6 n m l) = Fo.st (.mk 6 n m l)) := by unfold Hid; rw [SM.out, hk]
    have B1 : Hid (Below w.heap.size w w1) := BW.out.trans (b1.mono BW.out.size)
    have BX1 : Hid (Bx w1 w.heap.size (.int .i64 6) (.string ⟨n.toArray⟩) (.int .i64 m) (.slice sa l.length sc)) := BX.out.later b1 BX.out.lt
    have RX1 : Hid (Bx w1 (w.heap.size + 1) (.int .i64 0) (.string ⟨#[]⟩) (.int .i64 0) (.slice none 0 0)) := RX.out.later b1 RX.out.lt
    obtain ⟨W2, hW2⟩ : ∃ W2, W2 = w1.alloc (.cells #[.int .i64 0, .string ⟨#[]⟩, .int .i64 0, .slice none 0 0] 24) := ⟨_, rfl⟩
    have b2 : Below w1.heap.size w1 W2 := by rw [hW2]; exact box_below _ _
    have BX2 : Hid _ := BX1.out.later b2 BX1.out.lt
    have RX2 : Hid _ := RX1.out.later b2 RX1.out.lt
    have B2 : Hid (Below w.heap.size w W2) := B1.out.trans (b2.mono B1.out.size)
    clear hk b1 b2 d0 d1 d2 d3 f0 f1 f2 f3 zt
    go_upto_region 4 with fail
    rw [← hW2]
    clear hW2
    obtain ⟨d0, d1, d2, d3, f0, f1, f2, f3, zt⟩ := BX2.out
    go_wp2_with fail
    refine Calls.mono (HU.out _ B2.out) ?_
    rintro e w3 ⟨kk, nn, mm, sb, sd, l1, hy, rfl, X, b3⟩
    have B3 : Hid (Below w.heap.size w w3) := B2.out.trans (b3.mono B2.out.size)
    have X1 : Hid (ExS (fun g => A g ∧ g < w.heap.size ∨ w.heap.size + 1 < g) w3 (.slice sb l1.length sd) l1) := X.mono fun g _ h => h.imp id fun h => Nat.lt_of_lt_of_le RX2.out.lt h
    have HY : Hid _ := hy
    obtain ⟨g0, g1, g2, g3, i0, i1, i2, i3, zr⟩ := RX2.out.later b3 RX2.out.lt
    clear b3 X hy d0 d1 d2 d3 f0 f1 f2 f3 zt
    go_wp2_with fail
    refine bodyPost_ret (v := .agg #[.int .i64 kk, .string ⟨nn.toArray⟩, .int .i64 mm, .slice sb l1.length sd]) (by simp [results, Try.results32, go_sem, g0, g1, g2, g3]) rfl ?_
    rw [R.out]
    refine ⟨kk, nn, mm, sb, sd, l1, HY.out, rfl, ?_, (((B3.out.setCell (by simp) _).setCell (by simp) _).setCell (by simp) _).setCell (by simp) _⟩
    exact (X1.out.fill (g := w.heap.size + 1) (fun h => by omega) _ _ _ _).mono fun g _ h => h.elim (fun h => .inl h.1) fun h => .inr (Nat.le_of_lt (Nat.lt_of_le_of_lt (Nat.le_succ _) h))
end Go.Proofs.Ythadpkmbbimleaa

namespace Go.Proofs.Ythadpkmbbimleaa
open Go.RowKit

namespace Fo
open Sx
mutual
/-- An expression, folded. -/
def fo : Ex → Ex
  | .mk k n m l => if built k n l.length then sm (.mk k n m (fos l)) else .mk k n m l
def fos : List Ex → List Ex
  | [] => []
  | a :: r => fo a :: fos r
end
theorem fos_map : ∀ l : List Ex, fos l = l.map fo
  | [] => by rw [fos]; rfl
  | a :: r => by rw [fos, fos_map r]; rfl
theorem bI_top (b : Bool) : bI b ≤ 9223372036854775807 := by cases b <;> decide
theorem rest_top (a b : Int) (h : a ≤ 9223372036854775807) : Pl.rest a b ≤ 9223372036854775807 := by
  unfold Pl.rest
  by_cases c : 0 ≤ a
  · have h1 := Int.natAbs_tmod a b
    have h2 := Nat.mod_le a.natAbs b.natAbs
    omega
  · have h1 : 0 ≤ (-a).tmod b := Int.tmod_nonneg b (by omega)
    rw [Int.neg_tmod] at h1
    omega
theorem re_top (a : Int) (s : List UInt8) (b : Int) (ha : a ≤ 9223372036854775807) : (re a s b).1 ≤ 9223372036854775807 := by
  unfold re
  repeat' split
  all_goals first | exact (Pl.w_bd _).2 | exact bI_top _ | exact rest_top _ _ ha | decide
theorem wo_top {x : Ex} (h : Rg x) : (wo T0 x).1 ≤ 9223372036854775807 := by
  induction h with
  | mk k n m l h0 h1 _ ih =>
    match l, ih with
    | [], ih =>
      rw [wo]
      repeat' split
      all_goals first | exact h1 | exact bI_top _ | exact (by decide : (0 : Int) ≤ 9223372036854775807)
    | [a], ih =>
      rw [wo]
      repeat' split
      all_goals first | exact h1 | exact bI_top _ | exact (Pl.w_bd _).2 | exact (by decide : (0 : Int) ≤ 9223372036854775807)
    | a :: b :: r, ih =>
      have ia := ih a (by simp)
      rw [wo]
      repeat' split
      all_goals first | exact h1 | exact bI_top _ | exact re_top _ _ _ ia | exact (by decide : (0 : Int) ≤ 9223372036854775807)
theorem Rg.leaf (k : Int) (n : List UInt8) (m : Int) (h0 : -9223372036854775808 ≤ m) (h1 : m ≤ 9223372036854775807) : Rg (.mk k n m []) := .mk k n m [] h0 h1 fun _ h => absurd h List.not_mem_nil
theorem lit_rg (n : Int) (h0 : -9223372036854775808 ≤ n) (h1 : n ≤ 9223372036854775807) : Rg (lit n) := by
  unfold lit
  repeat' split
  · refine .mk _ _ _ _ (by decide) (by decide) fun x hx => ?_
    rcases List.mem_cons.1 hx with rfl | hx
    · exact .mk _ _ _ _ (by decide) (by decide) fun x hx => by rw [List.mem_singleton.1 hx]; exact Rg.leaf _ _ _ (by decide) (by decide)
    · rw [List.mem_singleton.1 hx]; exact Rg.leaf _ _ _ (by decide) (by decide)
  · exact .mk _ _ _ _ (by decide) (by decide) fun x hx => by rw [List.mem_singleton.1 hx]; exact Rg.leaf _ _ _ (by omega) (by omega)
  · exact Rg.leaf _ _ _ h0 h1
theorem Rg.part {x : Ex} (h : Rg x) (j : Nat) : Rg ((pa x).getD j e0) := by
  cases h with
  | mk k n m l h0 h1 h =>
    show Rg (l.getD j e0)
    rw [List.getD_eq_getElem?_getD]
    cases e : l[j]? with
    | none => exact Rg.leaf _ _ _ (by decide) (by decide)
    | some y => exact h y (List.mem_of_getElem? e)
theorem Rg.num {x : Ex} (h : Rg x) : -9223372036854775808 ≤ nu x ∧ nu x ≤ 9223372036854775807 := by
  cases h with
  | mk k n m l h0 h1 h => exact ⟨h0, h1⟩
theorem kn_rg {x y : Ex} (h : Rg x) (e : kn x = some y) : Rg y := by
  unfold kn at e
  split at e
  · injection e with e
    rw [← e]
    split
    · exact Rg.leaf _ _ _ (wo_rg h) (wo_top h)
    · exact lit_rg _ (wo_rg h) (wo_top h)
  · cases e
theorem su_rg {x : Ex} (h : Rg x) : Rg (su x) := by
  unfold su
  split
  · exact (h.part 0).part 0
  · exact h
theorem st_rg {x : Ex} (h : Rg x) : Rg (st x) := by
  unfold st
  repeat' split
  all_goals first | exact h | exact h.part 0 | exact h.part 1 | exact Rg.leaf _ _ _ (h.part 0).num.1 (h.part 0).num.2
theorem sm_rg {x : Ex} (h : Rg x) : Rg (sm x) := by
  unfold sm
  split
  · split
    · rename_i y e; exact kn_rg h e
    · split
      · exact su_rg h
      · exact st_rg h
  · exact h
theorem fo_rg {x : Ex} (h : Rg x) : Rg (fo x) := by
  induction h with
  | mk k n m l h0 h1 h ih =>
    rw [fo]
    split
    · refine sm_rg (.mk _ _ _ _ h0 h1 fun y hy => ?_)
      rw [fos_map] at hy
      obtain ⟨z, hz, rfl⟩ := List.mem_map.1 hy
      exact ih z hz
    · exact .mk _ _ _ _ h0 h1 h
theorem built_un {n : List UInt8} {c : Nat} (h : built 5 n c = true) : c = 1 := by
  simp [built] at h; exact h.1
theorem built_bin {n : List UInt8} {c : Nat} (h : built 6 n c = true) : c = 2 := by
  simp [built] at h; exact h.1
end Fo
theorem smaller_any (A : Nat → Prop) (k : Int) (n : List UInt8) (m : Int) (l : List Sx.Ex) (sa : Option Addr) (sc : Nat) (w : World) (hb : Fo.built k n l.length = true) (hs : ExS A w (.slice sa l.length sc) l) (hl : l.length ≤ 1000000) (hrg : Fo.Rg (.mk k n m l)) :
    Calls Try.prog 32 #[.agg #[.int .i64 k, .string ⟨n.toArray⟩, .int .i64 m, .slice sa l.length sc]] w (RE (fun g => A g ∨ w.heap.size ≤ g) w (Fo.sm (.mk k n m l))) := by
  by_cases h5 : k = 5
  · subst h5
    have h1 := Fo.built_un hb
    match l, h1 with
    | [a], _ => exact sm_un A n m [a] sa sc w hs hl hrg fun W hW => smallerUnary_any (fun g => A g ∧ g < w.heap.size) a n m sa sc W (hs.old.later hW (Nat.le_refl _))
  · by_cases h6 : k = 6
    · subst h6
      have h2 := Fo.built_bin hb
      match l, h2 with
      | [a, b], _ => exact sm_bin A n m [a, b] sa sc w hs hl hrg fun W hW => smallerTwo_any (fun g => A g ∧ g < w.heap.size) a b n m sa sc W (hs.old.later hW (Nat.le_refl _))
    · rw [Fo.sm_other h5 h6]
      exact sm_other A k n m l sa sc w h5 h6 hs
theorem Bx.last {w : World} {g : Nat} {a0 a1 a2 a3 : Value} (h : Bx w g a0 a1 a2 a3) (v : Value) : Bx (w.setCell ⟨g, 3, none⟩ v) g a0 a1 a2 v := by
  refine ⟨?_, ?_, ?_, ?_, ?_, ?_, ?_, ?_, ?_⟩
  all_goals simp [h.c0, h.c1, h.c2, h.c3, h.f0, h.f1, h.f2, h.f3, h.lt, go_sem]
theorem enter_expr (c : Array Value) (w : World) : (callFunc 13 c).run Try.prog w = .ok (.enter 13 c) w := by kernel_rfl
set_option maxRecDepth 100000 in
set_option maxHeartbeats 2000000 in
theorem foldExpr_any {x : Sx.Ex} (h : Fo.Bnd x) : Fo.Rg x → FC 13 Fo.fo x := by
  induction h with
  | mk k n m l hl hbn ih =>
    intro hrg A k0 n0 m0 l0 sa sc w hx hs
    injection hx with q1 q2 q3 q4
    subst q1 q2 q3 q4
    have hrl : ∀ y, y ∈ l → Fo.Rg y := by cases hrg with | mk _ _ _ _ _ _ h => exact h
    have EB : Hid (∀ W, Below w.heap.size w W → _) := fun W (_ : Below w.heap.size w W) => built_any k n m sa l.length sc W
    have hmf : ∀ (fn : Fn) (first cap : Array Value) (w : World), (Instr.makeFunc fn first cap).run Try.prog w = .ok (.func fn first cap) w := fun _ _ _ _ => rfl
    cases hb : Fo.built k n l.length with
    | false =>
      have HF : Fo.fo (.mk k n m l) = .mk k n m l := by rw [Fo.fo, hb]; rfl
      rw [HF]
      have EKo : Hid (∀ W, Below w.heap.size w W → _) := fun W hW => copyOf_any (.mk k n m l hl hbn) A k n m l sa sc W rfl (hs.later hW (Nat.le_refl _))
      rw [hb] at EB
      clear ih hs hl hbn hrg hrl hb HF
      go_enter Try.func13, Try.ntmps13
      go_wp2_with fail
      refine Calls.mono (EB.out _ (by go_grown)) ?_
      rintro e w1 ⟨rfl, b1⟩
      have B1 := (Bx.new w 24 (.int .i64 k) (.string ⟨n.toArray⟩) (.int .i64 m) (.slice sa l.length sc)).later ((box_below (w.alloc (.cells #[.int .i64 k, .string ⟨n.toArray⟩, .int .i64 m, .slice sa l.length sc] 24)) zE).trans (b1.mono (by simp))) (by simp)
      have R1 := (Bx.new (w.alloc (.cells #[.int .i64 k, .string ⟨n.toArray⟩, .int .i64 m, .slice sa l.length sc] 24)) 24 (.int .i64 0) (.string ⟨#[]⟩) (.int .i64 0) (.slice none 0 0)).later b1 (by simp)
      have es : (w.alloc (.cells #[.int .i64 k, .string ⟨n.toArray⟩, .int .i64 m, .slice sa l.length sc] 24)).heap.size = w.heap.size + 1 := by simp
      rw [es] at R1
      have RX : Hid _ := R1
      have BW : Hid (Below w.heap.size w w1) := Below.trans (by go_grown) (b1.mono (by go_size))
      obtain ⟨d0, d1, d2, d3, h0, h1, h2, h3, zt⟩ := B1
      clear b1 R1 es
      go_wp2_with fail
      refine Calls.mono (EKo.out _ BW.out) ?_
      rintro e w2 ⟨kk, nn, mm, sb, sd, l1, hy, rfl, X, b2⟩
      have B2 : Hid (Below w.heap.size w w2) := BW.out.trans (b2.mono BW.out.size)
      have X1 : Hid (ExS (fun g => w.heap.size + 1 < g) w2 (.slice sb l1.length sd) l1) := X.mono fun g _ h => Nat.lt_of_lt_of_le RX.out.lt h
      have HY : Hid _ := hy
      obtain ⟨g0, g1, g2, g3, i0, i1, i2, i3, zr⟩ := RX.out.later b2 RX.out.lt
      clear b2 X hy d0 d1 d2 d3 h0 h1 h2 h3 zt
      go_wp2_with fail
      refine bodyPost_ret (v := .agg #[.int .i64 kk, .string ⟨nn.toArray⟩, .int .i64 mm, .slice sb l1.length sd]) (by simp [results, Try.results13, go_sem, g0, g1, g2, g3]) rfl ?_
      refine ⟨kk, nn, mm, sb, sd, l1, HY.out, rfl, ?_, (((B2.out.setCell (by simp) _).setCell (by simp) _).setCell (by simp) _).setCell (by simp) _⟩
      exact (X1.out.fill (g := w.heap.size + 1) (Nat.lt_irrefl _) _ _ _ _).mono fun g _ h => Nat.le_of_lt (Nat.lt_of_le_of_lt (Nat.le_succ _) h)
    | true =>
      have HF : Fo.fo (.mk k n m l) = Fo.sm (.mk k n m (l.map Fo.fo)) := by rw [Fo.fo, hb, Fo.fos_map]; rfl
      rw [HF]
      have hlm : (l.map Fo.fo).length = l.length := List.length_map _
      have hrm : Fo.Rg (.mk k n m (l.map Fo.fo)) := by
        cases hrg with
        | mk _ _ _ _ a0 a1 _ => exact .mk _ _ _ _ a0 a1 fun y hy => by obtain ⟨z, hz, rfl⟩ := List.mem_map.1 hy; exact Fo.fo_rg (hrl z hz)
      have E1 : Hid (∀ W, Below w.heap.size w W → _) := fun W hW => each_any 13 enter_expr Fo.fo A l hl sa sc W (hs.later hW (Nat.le_refl _)) (fun y hy => (ih y hy (hrl y hy)).mc A W)
      have E2 : Hid (∀ (B : Nat → Prop) (sb : Option Addr) (sd : Nat) (W : World), ExS B W (.slice sb l.length sd) (l.map Fo.fo) → Calls Try.prog 32 #[.agg #[.int .i64 k, .string ⟨n.toArray⟩, .int .i64 m, .slice sb l.length sd]] W (RE (fun g => B g ∨ W.heap.size ≤ g) W (Fo.sm (.mk k n m (l.map Fo.fo))))) := by
        intro B sb sd W hW
        have := smaller_any B k n m (l.map Fo.fo) sb sd W (by rw [hlm]; exact hb) (by rw [hlm]; exact hW) (by rw [hlm]; exact hl) hrm
        rw [hlm] at this
        exact this
      rw [hb] at EB
      clear ih hs hl hbn hrg hrl hb HF hlm hrm
      go_enter Try.func13, Try.ntmps13
      go_wp2_with fail
      refine Calls.mono (EB.out _ (by go_grown)) ?_
      rintro e w1 ⟨rfl, b1⟩
      have B1 := (Bx.new w 24 (.int .i64 k) (.string ⟨n.toArray⟩) (.int .i64 m) (.slice sa l.length sc)).later ((box_below (w.alloc (.cells #[.int .i64 k, .string ⟨n.toArray⟩, .int .i64 m, .slice sa l.length sc] 24)) zE).trans (b1.mono (by simp))) (by simp)
      have R1 := (Bx.new (w.alloc (.cells #[.int .i64 k, .string ⟨n.toArray⟩, .int .i64 m, .slice sa l.length sc] 24)) 24 (.int .i64 0) (.string ⟨#[]⟩) (.int .i64 0) (.slice none 0 0)).later b1 (by simp)
      have es : (w.alloc (.cells #[.int .i64 k, .string ⟨n.toArray⟩, .int .i64 m, .slice sa l.length sc] 24)).heap.size = w.heap.size + 1 := by simp
      rw [es] at R1
      have RX : Hid _ := R1
      have BX : Hid _ := B1
      have BW : Hid (Below w.heap.size w w1) := Below.trans (by go_grown) (b1.mono (by go_size))
      obtain ⟨d0, d1, d2, d3, h0, h1, h2, h3, zt⟩ := B1
      clear b1 R1 es
      go_wp2_with fail
      refine Calls.mono (E1.out _ BW.out) ?_
      rintro e w2 ⟨sb, sd, rfl, X, b2⟩
      have B2 : Hid (Below w.heap.size w w2) := BW.out.trans (b2.mono BW.out.size)
      have X1 : Hid (ExS (fun g => w.heap.size + 1 < g) w2 (.slice sb l.length sd) (l.map Fo.fo)) := X.mono fun g _ h => Nat.lt_of_lt_of_le RX.out.lt h
      have BX2 : Hid (Bx w2 w.heap.size _ _ _ _) := BX.out.later b2 BX.out.lt
      have RX2 : Hid (Bx w2 (w.heap.size + 1) _ _ _ _) := RX.out.later b2 RX.out.lt
      obtain ⟨W3, hW3⟩ : ∃ W3, W3 = w2.setCell ⟨w.heap.size, 3, none⟩ (.slice sb l.length sd) := ⟨_, rfl⟩
      have B3 : Hid (Below w.heap.size w W3) := by unfold Hid; rw [hW3]; exact B2.out.setCell (Nat.le_refl _) _
      have X3 : Hid (ExS (fun g => w.heap.size + 1 < g) W3 (.slice sb l.length sd) (l.map Fo.fo)) := by unfold Hid; rw [hW3]; exact X1.out.set (by simp) _
      have RX3 : Hid (Bx W3 (w.heap.size + 1) (.int .i64 0) (.string ⟨#[]⟩) (.int .i64 0) (.slice none 0 0)) := by unfold Hid; rw [hW3]; exact RX2.out.set (by simp) _
      clear d0 d1 d2 d3 h0 h1 h2 h3 zt
      obtain ⟨d0, d1, d2, d3, h0, h1, h2, h3, zt⟩ := BX2.out
      have BX3 : Hid (Bx W3 w.heap.size (.int .i64 k) (.string ⟨n.toArray⟩) (.int .i64 m) (.slice sb l.length sd)) := by
        unfold Hid
        rw [hW3]
        exact BX2.out.last _
      clear b2 X
      go_upto_region 4 with fail
      rw [← hW3]
      clear hW3 d0 d1 d2 d3 h0 h1 h2 h3 zt
      obtain ⟨d0, d1, d2, d3, h0, h1, h2, h3, zt⟩ := BX3.out
      go_wp2_with fail
      refine Calls.mono (E2.out _ sb sd _ X3.out) ?_
      rintro e w4 ⟨kk, nn, mm, se, sf, l1, hy, rfl, X, b4⟩
      have B4 : Hid (Below w.heap.size w w4) := B3.out.trans (b4.mono B3.out.size)
      have X4 : Hid (ExS (fun g => w.heap.size + 1 < g) w4 (.slice se l1.length sf) l1) := X.mono fun g _ h => h.elim id fun h => Nat.lt_of_lt_of_le RX3.out.lt h
      have HY : Hid _ := hy
      obtain ⟨g0, g1, g2, g3, i0, i1, i2, i3, zr⟩ := RX3.out.later b4 RX3.out.lt
      clear b4 X hy d0 d1 d2 d3 h0 h1 h2 h3 zt
      go_wp2_with fail
      refine bodyPost_ret (v := .agg #[.int .i64 kk, .string ⟨nn.toArray⟩, .int .i64 mm, .slice se l1.length sf]) (by simp [results, Try.results13, go_sem, g0, g1, g2, g3]) rfl ?_
      refine ⟨kk, nn, mm, se, sf, l1, HY.out, rfl, ?_, (((B4.out.setCell (by simp) _).setCell (by simp) _).setCell (by simp) _).setCell (by simp) _⟩
      exact (X4.out.fill (g := w.heap.size + 1) (Nat.lt_irrefl _) _ _ _ _).mono fun g _ h => Nat.le_of_lt (Nat.lt_of_le_of_lt (Nat.le_succ _) h)
end Go.Proofs.Ythadpkmbbimleaa

namespace Go.Proofs.Ythadpkmbbimleaa
open Go.RowKit

namespace Fo
open Sx
/-- Folded: built otherwise, or no rule makes it another, nor its parts. -/
inductive Fd : Ex → Prop
  | odd (k : Int) (n : List UInt8) (m : Int) (l : List Ex) (h : built k n l.length = false) : Fd (.mk k n m l)
  | mk (k : Int) (n : List UInt8) (m : Int) (l : List Ex) (h : built k n l.length = true) (hs : sm (.mk k n m l) = .mk k n m l) (hp : ∀ x, x ∈ l → Fd x) : Fd (.mk k n m l)
theorem map_same {f : Ex → Ex} : ∀ {l : List Ex}, (∀ x, x ∈ l → f x = x) → l.map f = l
  | [], _ => rfl
  | a :: r, h => by rw [List.map_cons, h a (by simp), map_same fun x hx => h x (by simp [hx])]
theorem Fd.same {x : Ex} (h : Fd x) : fo x = x := by
  induction h with
  | odd k n m l h => rw [fo, h]; rfl
  | mk k n m l h hs hp ih => rw [fo, h, fos_map, map_same ih]; exact hs
theorem Fd.num (k : Int) (n : List UInt8) (m : Int) (hk : k = 1 ∨ k = 2) : Fd (.mk k n m []) := by
  refine .mk k n m [] ?_ ?_ fun _ h => absurd h List.not_mem_nil
  · rcases hk with rfl | rfl <;> rfl
  · refine sm_other (fun e => ?_) fun e => ?_ <;> subst e <;> rcases hk with h | h <;> exact absurd h (by decide)
theorem Fd.part {k : Int} {n : List UInt8} {m : Int} {l : List Ex} (h : Fd (.mk k n m l)) (hb : built k n l.length = true) : ∀ x, x ∈ l → Fd x := by
  cases h with
  | odd _ _ _ _ h => rw [h] at hb; cases hb
  | mk _ _ _ _ _ _ hp => exact hp
theorem lit_neg {n : Int} (h0 : ¬ n = -9223372036854775808) (h1 : n < 0) : lit n = .mk 5 [45] 0 [.mk 1 [] (-n) []] := by rw [lit, if_neg h0, if_pos h1]
theorem Fd.neg (n : Int) (h0 : -9223372036854775808 < n) (h1 : n < 0) : Fd (.mk 5 [45] 0 [.mk 1 [] (-n) []]) := by
  refine .mk 5 [45] 0 _ rfl ?_ fun x hx => ?_
  · have e : kn (.mk 5 [45] 0 [.mk 1 [] (-n) []]) = some (lit (wrap64 (-(-n)))) := rfl
    rw [sm_un, e]
    show lit (wrap64 (-(-n))) = _
    have w : wrap64 (-(-n)) = n := by rw [Int.neg_neg]; unfold wrap64; omega
    rw [w, lit_neg (by omega) h1]
  · rw [List.mem_singleton.1 hx]; exact Fd.num 1 [] _ (.inl rfl)
theorem Fd.lit (n : Int) (h0 : -9223372036854775808 ≤ n) : Fd (lit n) := by
  by_cases c : n = -9223372036854775808
  · subst c
    have e : kn (.mk 6 [45] 0 [.mk 5 [45] 0 [.mk 1 [] 9223372036854775807 []], .mk 1 [] 1 []]) = some (Fo.lit (wrap64 (wrap64 (-9223372036854775807) - 1))) := rfl
    have w : wrap64 (wrap64 (-9223372036854775807) - 1) = -9223372036854775808 := by kernel_rfl
    have e2 : Fo.sm (.mk 6 [45] 0 [.mk 5 [45] 0 [.mk 1 [] 9223372036854775807 []], .mk 1 [] 1 []]) = .mk 6 [45] 0 [.mk 5 [45] 0 [.mk 1 [] 9223372036854775807 []], .mk 1 [] 1 []] := by
      rw [sm_bin, e]
      show Fo.lit (wrap64 (wrap64 (-9223372036854775807) - 1)) = _
      rw [w]
      rfl
    refine .mk 6 [45] 0 [.mk 5 [45] 0 [.mk 1 [] 9223372036854775807 []], .mk 1 [] 1 []] rfl e2 fun x hx => ?_
    rcases List.mem_cons.1 hx with rfl | hx
    · exact Fd.neg (-9223372036854775807) (by decide) (by decide)
    · rw [List.mem_singleton.1 hx]; exact Fd.num 1 [] _ (.inl rfl)
  · by_cases d : n < 0
    · rw [lit_neg c d]; exact Fd.neg n (by omega) d
    · rw [Fo.lit, if_neg c, if_neg d]; exact Fd.num 1 [] _ (.inl rfl)
theorem Fd.e0 : Fd e0 := .odd 0 [] 0 [] rfl
theorem Fd.get {l : List Ex} (h : ∀ x, x ∈ l → Fd x) (j : Nat) : Fd (l.getD j Fo.e0) := by
  rw [List.getD_eq_getElem?_getD]
  cases e : l[j]? with
  | none => exact Fd.e0
  | some y => exact h y (List.mem_of_getElem? e)
theorem st_ways (n : List UInt8) (m : Int) (l : List Ex) : st (.mk 6 n m l) = .mk 6 n m l ∨ st (.mk 6 n m l) = l.getD 0 Fo.e0 ∨ st (.mk 6 n m l) = l.getD 1 Fo.e0 ∨ st (.mk 6 n m l) = .mk 2 [] (nu (l.getD 0 Fo.e0)) [] := by
  unfold st
  repeat' split
  all_goals first | exact .inl rfl | exact .inr (.inl rfl) | exact .inr (.inr (.inl rfl)) | exact .inr (.inr (.inr rfl))
theorem Fd.sm {k : Int} {n : List UInt8} {m : Int} {l : List Ex} (hr : Rg (.mk k n m l)) (hb : built k n l.length = true) (hp : ∀ x, x ∈ l → Fd x) : Fd (sm (.mk k n m l)) := by
  by_cases h56 : k = 5 ∨ k = 6
  · cases e : kn (.mk k n m l) with
    | some y =>
      have e2 : Fo.sm (.mk k n m l) = y := by
        refine (if_pos h56).trans ?_
        rw [e]
      rw [e2]
      unfold kn at e
      split at e
      · injection e with e
        rw [← e]
        split
        · exact Fd.num 2 [] _ (.inr rfl)
        · exact Fd.lit _ (wo_rg hr)
      · cases e
    | none =>
      rcases h56 with rfl | rfl
      · have e2 : Fo.sm (.mk 5 n m l) = su (.mk 5 n m l) := by rw [sm_un, e]
        by_cases c : ((Fo.isU [45] (.mk 5 n m l) && Fo.isU [45] (l.getD 0 Fo.e0)) || (Fo.isU [33] (.mk 5 n m l) && Fo.isU [33] (l.getD 0 Fo.e0) && Fo.tof ((Fo.pa (l.getD 0 Fo.e0)).getD 0 Fo.e0))) = true
        · have e3 : su (.mk 5 n m l) = (pa (l.getD 0 Fo.e0)).getD 0 Fo.e0 := if_pos c
          rw [e2, e3]
          have hi := Fd.get hp 0
          have hbi : bu (l.getD 0 Fo.e0) = true := by
            rcases Bool.or_eq_true _ _ ▸ c with c | c
            · have := (Bool.and_eq_true _ _ ▸ c).2
              unfold isU at this
              simp only [Bool.and_eq_true] at this
              exact this.1.1
            · have := (Bool.and_eq_true _ _ ▸ (Bool.and_eq_true _ _ ▸ c).1).2
              unfold isU at this
              simp only [Bool.and_eq_true] at this
              exact this.1.1
          generalize l.getD 0 Fo.e0 = y at hi hbi
          cases y with
          | mk k n m l => exact Fd.get (hi.part hbi) 0
        · have e3 : su (.mk 5 n m l) = .mk 5 n m l := if_neg c
          rw [e2, e3]
          exact .mk 5 n m l hb (e2.trans e3) hp
      · have e2 : Fo.sm (.mk 6 n m l) = st (.mk 6 n m l) := by rw [sm_bin, e]
        rcases st_ways n m l with e3 | e3 | e3 | e3
        · rw [e2, e3]; exact .mk 6 n m l hb (e2.trans e3) hp
        · rw [e2, e3]; exact Fd.get hp 0
        · rw [e2, e3]; exact Fd.get hp 1
        · rw [e2, e3]; exact Fd.num 2 [] _ (.inr rfl)
  · have e := Fo.sm_other (n := n) (m := m) (l := l) (fun h => h56 (.inl h)) (fun h => h56 (.inr h))
    rw [e]
    exact .mk k n m l hb e hp
theorem fo_fd {x : Ex} (h : Rg x) : Fd (fo x) := by
  induction h with
  | mk k n m l h0 h1 h ih =>
    rw [fo]
    split
    · rename_i hb
      have hlm : (l.map fo).length = l.length := List.length_map _
      rw [fos_map]
      refine Fd.sm (.mk _ _ _ _ h0 h1 fun y hy => ?_) (by rw [hlm]; exact hb) fun y hy => ?_
      · obtain ⟨z, hz, rfl⟩ := List.mem_map.1 hy
        exact fo_rg (h z hz)
      · obtain ⟨z, hz, rfl⟩ := List.mem_map.1 hy
        exact ih z hz
    · rename_i hb
      exact .odd _ _ _ _ (by simpa using hb)
/-- An expression folded twice is one folded once. -/
theorem fo_twice {x : Ex} (h : Rg x) : fo (fo x) = fo x := (fo_fd h).same
end Fo
end Go.Proofs.Ythadpkmbbimleaa

namespace Go.Proofs.Ythadpkmbbimleaa
open Go.RowKit

theorem kwo1 : Fo.wo T0 kT1 = (7, 0) := by kernel_rfl
theorem kwo2 : Fo.wo T0 kT2 = (0, 1) := by kernel_rfl
theorem kcst : Fo.cst (Fo.lit (-9223372036854775808)) = -9223372036854775808 := by kernel_rfl
theorem kcn : Fo.cn (Fo.lit (-9223372036854775808)) = true := by kernel_rfl
theorem kfo3 : Fo.fo kT3 = kX := by kernel_rfl
theorem kfo2 : Fo.fo kT2 = kT2 := by kernel_rfl
theorem ktr5 : Fo.tr kT5 = true := by kernel_rfl
theorem ktr6 : Fo.tr kT6 = false := by kernel_rfl
theorem bnd0 (k : Int) (n : List UInt8) (m : Int) : Fo.Bnd (.mk k n m []) := .mk _ _ _ _ (by simp) fun _ h => absurd h List.not_mem_nil
theorem bnd1 (k : Int) (n : List UInt8) (m : Int) {a : Sx.Ex} (ha : Fo.Bnd a) : Fo.Bnd (.mk k n m [a]) := .mk _ _ _ _ (by simp) fun x h => by rw [List.mem_singleton.1 h]; exact ha
theorem bnd2 (k : Int) (n : List UInt8) (m : Int) {a b : Sx.Ex} (ha : Fo.Bnd a) (hb : Fo.Bnd b) : Fo.Bnd (.mk k n m [a, b]) := .mk _ _ _ _ (by simp) fun x h => by
  rcases List.mem_cons.1 h with rfl | h
  · exact ha
  · rw [List.mem_singleton.1 h]; exact hb
theorem rg2 (k : Int) (n : List UInt8) {a b : Sx.Ex} (ha : Fo.Rg a) (hb : Fo.Rg b) : Fo.Rg (.mk k n 0 [a, b]) := .mk _ _ _ _ (by decide) (by decide) fun x h => by
  rcases List.mem_cons.1 h with rfl | h
  · exact ha
  · rw [List.mem_singleton.1 h]; exact hb
theorem kb2 : Fo.Bnd kT2 := bnd2 _ _ _ (bnd0 _ _ _) (bnd0 _ _ _)
theorem kbX : Fo.Bnd kX := bnd0 _ _ _
theorem kb3 : Fo.Bnd kT3 := bnd2 _ _ _ (bnd2 _ _ _ (bnd0 _ _ _) (bnd0 _ _ _)) (bnd2 _ _ _ (bnd0 _ _ _) (bnd0 _ _ _))
theorem kb5 : Fo.Bnd kT5 := bnd1 _ _ _ (bnd0 _ _ _)
theorem kb6 : Fo.Bnd kT6 := bnd2 _ _ _ (bnd0 _ _ _) (bnd0 _ _ _)
theorem krI (n : Int) (h0 : -9223372036854775808 ≤ n) (h1 : n ≤ 9223372036854775807) : Fo.Rg (kI n) := Fo.Rg.leaf _ _ _ h0 h1
theorem kr2 : Fo.Rg kT2 := rg2 _ _ (krI 1 (by decide) (by decide)) (krI 0 (by decide) (by decide))
theorem kr3 : Fo.Rg kT3 := rg2 _ _ (rg2 _ _ (Fo.Rg.leaf _ _ _ (by decide) (by decide)) (krI 1 (by decide) (by decide))) (rg2 _ _ (krI 2 (by decide) (by decide)) (krI 2 (by decide) (by decide)))
set_option maxRecDepth 100000 in
set_option maxHeartbeats 4000000 in
theorem known5 (w : World) : Calls Try.prog 9 #[] w fun e w' => e = .returned (.bool true) ∧ Below w.heap.size w w' := by
  go_enter Try.func9, Try.ntmps9
  have B0 : Hid (Below w.heap.size w w) := Below.refl _ _
  go_wp2_with fail
  refine Calls.mono (kread1 _) ?_
  rintro e w1 ⟨ka, na, ma, sa, ca, la, ya, rfl, xa, b1⟩
  have B1 : Hid (Below w.heap.size w w1) := B0.out.trans (b1.mono B0.out.size)
  have Ya : Hid _ := ya
  have Xa : Hid _ := xa
  clear ya xa
  clear b1 B0
  go_wp2_with fail
  refine Calls.mono (Eval_any T0 _ ka na ma la sa la.length ca _ _ _ _ Xa.out (value_none _)) ?_
  rintro e w2 ⟨rfl, b2⟩
  have B2 : Hid (Below w.heap.size w w2) := B1.out.trans (b2.mono B1.out.size)
  rw [← Ya.out, kwo1]
  clear Xa Ya
  clear b2 B1
  go_wp2_with fail
  refine Calls.mono (kread2 _) ?_
  rintro e w3 ⟨kb, nb, mb, sb, cb, lb, yb, rfl, xb, b3⟩
  have B3 : Hid (Below w.heap.size w w3) := B2.out.trans (b3.mono B2.out.size)
  have Yb : Hid _ := yb
  have Xb : Hid _ := xb
  clear yb xb
  clear b3 B2
  go_wp2_with fail
  refine Calls.mono (Eval_any T0 _ kb nb mb lb sb lb.length cb _ _ _ _ Xb.out (value_none _)) ?_
  rintro e w4 ⟨rfl, b4⟩
  have B4 : Hid (Below w.heap.size w w4) := B3.out.trans (b4.mono B3.out.size)
  rw [← Yb.out, kwo2]
  clear Xb Yb
  clear b4 B3
  go_wp2_with fail
  refine Calls.mono (Lit_any (-9223372036854775808) _ (by decide)) ?_
  rintro e w5 ⟨kc, nc, mc, sc, cc, lc, yc, rfl, xc, b5⟩
  have B5 : Hid (Below w.heap.size w w5) := B4.out.trans (b5.mono B4.out.size)
  have Yc : Hid _ := yc
  have Xc : Hid _ := xc
  clear yc xc
  clear b5 B4
  go_wp2_with fail
  refine Calls.mono (Const_any _ kc nc mc lc sc cc _ Xc.out) ?_
  rintro e w6 ⟨rfl, b6⟩
  have B6 : Hid (Below w.heap.size w w6) := B5.out.trans (b6.mono B5.out.size)
  rw [← Yc.out, kcst, kcn]
  clear Xc Yc
  clear b6 B5
  go_wp2_with fail
  refine Calls.mono (kread3 _) ?_
  rintro e w7 ⟨kd, nd, md, sd, cd, ld, yd, rfl, xd, b7⟩
  have B7 : Hid (Below w.heap.size w w7) := B6.out.trans (b7.mono B6.out.size)
  have Yd : Hid _ := yd
  have Xd : Hid _ := xd
  clear yd xd
  clear b7 B6
  go_wp2_with fail
  refine Calls.mono (foldExpr_any kb3 kr3 _ kd nd md ld sd cd _ Yd.out Xd.out) ?_
  rintro e w8 ⟨ke, ne, me, se, ce, le, ye, rfl, xe, b8⟩
  have B8 : Hid (Below w.heap.size w w8) := B7.out.trans (b8.mono B7.out.size)
  have Ye : Hid _ := kfo3.symm.trans ye
  have Xe : Hid _ := xe
  clear ye xe Xd Yd
  clear b8 B7
  go_wp2_with fail
  refine Calls.mono (kread4 _) ?_
  rintro e w9 ⟨kf, nf, mf, sf, cf, lf, yf, rfl, xf, b9⟩
  have B9 : Hid (Below w.heap.size w w9) := B8.out.trans (b9.mono B8.out.size)
  replace Xe : Hid _ := Xe.out.later b9 (Nat.le_refl _)
  have Xf : Hid _ := xf
  have yef := Ye.out.symm.trans yf
  injection yef with q1 q2 q3 q4
  subst q1 q2 q3 q4
  clear yf xf
  clear b9 B8
  go_wp2_with fail
  refine Calls.mono (sameExpr_bnd kbX _ _ ke ne me le se sf le.length ce le.length cf _ Ye.out Xe.out Xf.out) ?_
  rintro e w10 ⟨rfl, b10⟩
  have B10 : Hid (Below w.heap.size w w10) := B9.out.trans (b10.mono B9.out.size)
  clear Xe Xf Ye
  clear b10 B9
  go_wp2_with fail
  refine Calls.mono (kread2 _) ?_
  rintro e w11 ⟨kg, ng, mg, sg, cg, lg, yg, rfl, xg, b11⟩
  have B11 : Hid (Below w.heap.size w w11) := B10.out.trans (b11.mono B10.out.size)
  have Yg : Hid _ := yg
  have Xg : Hid _ := xg
  clear yg xg
  clear b11 B10
  go_wp2_with fail
  refine Calls.mono (foldExpr_any kb2 kr2 _ kg ng mg lg sg cg _ Yg.out Xg.out) ?_
  rintro e w12 ⟨kh, nh, mh, sh, ch, lh, yh, rfl, xh, b12⟩
  have B12 : Hid (Below w.heap.size w w12) := B11.out.trans (b12.mono B11.out.size)
  have Yh : Hid _ := kfo2.symm.trans yh
  have Xh : Hid _ := xh
  clear yh xh Xg Yg
  clear b12 B11
  go_wp2_with fail
  refine Calls.mono (kread2 _) ?_
  rintro e w13 ⟨ki, ni, mi, si, ci, li, yi, rfl, xi, b13⟩
  have B13 : Hid (Below w.heap.size w w13) := B12.out.trans (b13.mono B12.out.size)
  replace Xh : Hid _ := Xh.out.later b13 (Nat.le_refl _)
  have Xi : Hid _ := xi
  have yhi := Yh.out.symm.trans yi
  injection yhi with q1 q2 q3 q4
  subst q1 q2 q3 q4
  clear yi xi
  clear b13 B12
  go_wp2_with fail
  refine Calls.mono (sameExpr_bnd kb2 _ _ kh nh mh lh sh si lh.length ch lh.length ci _ Yh.out Xh.out Xi.out) ?_
  rintro e w14 ⟨rfl, b14⟩
  have B14 : Hid (Below w.heap.size w w14) := B13.out.trans (b14.mono B13.out.size)
  clear Xh Xi Yh
  clear b14 B13
  go_wp2_with fail
  refine Calls.mono (kread5 _) ?_
  rintro e w15 ⟨kj, nj, mj, sj, cj, lj, yj, rfl, xj, b15⟩
  have B15 : Hid (Below w.heap.size w w15) := B14.out.trans (b15.mono B14.out.size)
  have Yj : Hid _ := yj
  have Xj : Hid _ := xj
  clear yj xj
  clear b15 B14
  go_wp2_with fail
  refine Calls.mono (traps_any kb5 _ kj nj mj lj sj lj.length cj _ Yj.out Xj.out) ?_
  rintro e w16 ⟨rfl, b16⟩
  have B16 : Hid (Below w.heap.size w w16) := B15.out.trans (b16.mono B15.out.size)
  rw [ktr5]
  clear Xj Yj
  clear b16 B15
  go_wp2_with fail
  refine Calls.mono (kread6 _) ?_
  rintro e w17 ⟨kk, nk, mk, sk, ck, lk, yk, rfl, xk, b17⟩
  have B17 : Hid (Below w.heap.size w w17) := B16.out.trans (b17.mono B16.out.size)
  have Yk : Hid _ := yk
  have Xk : Hid _ := xk
  clear yk xk
  clear b17 B16
  go_wp2_with fail
  refine Calls.mono (traps_any kb6 _ kk nk mk lk sk lk.length ck _ Yk.out Xk.out) ?_
  rintro e w18 ⟨rfl, b18⟩
  have B18 : Hid (Below w.heap.size w w18) := B17.out.trans (b18.mono B17.out.size)
  rw [ktr6]
  clear Xk Yk
  clear b18 B17
  go_wp2_with fail
  go_ret
  exact ⟨rfl, B18.out⟩
end Go.Proofs.Ythadpkmbbimleaa
