/- Layer 3: readExpr, and Expr. -/
import Derived.Test.YtlhklpnkelcnbaaGreatDoorSynI
namespace Go.Proofs.YtlhklpnkelcnbaaGreatDoor
open Go.RowKit

/-- The world behind the boxes that readExpr makes. -/
def rworld (w : World) (sl : Value) (k : Nat) : World := ((w.alloc zE).alloc (.cells #[.int .i64 0] 3)).alloc (.cells #[sl, .int .i64 (k : Int)] 71)
theorem rworld_below (w : World) (sl : Value) (k : Nat) : Below w.heap.size w (rworld w sl k) := by unfold rworld; go_grown
theorem rworld_size (w : World) (sl : Value) (k : Nat) : (rworld w sl k).heap.size = w.heap.size + 3 := by simp [rworld]
theorem w2box_below (w : World) : Below w.heap.size w (w2box w) := by unfold w2box; go_grown
theorem w2box_size (w : World) : (w2box w).heap.size = w.heap.size + 2 := by simp [w2box]
theorem rworld_rd {w : World} {b o cap : Nat} {ts : List Tok} (ta : Ta w b o ts) (k : Nat) : Rd (rworld w (.slice (some ⟨b, o, none⟩) ts.length cap) k) (w.heap.size + 2) b o cap ts k :=
  ⟨by simp [rworld, go_sem], by simp [rworld, go_sem], by simp [rworld, go_sem], ta.later (rworld_below _ _ _), by have := ta.lt; omega, by rw [rworld_size]; omega⟩
theorem rworld_bx (w : World) (sl : Value) (k : Nat) : Bx (rworld w sl k) w.heap.size (.int .i64 0) (.string ⟨#[]⟩) (.int .i64 0) (.slice none 0 0) := by
  have h := Bx.new w 25 (.int .i64 0) (.string ⟨#[]⟩) (.int .i64 0) (.slice none 0 0)
  exact h.later (n := w.heap.size + 1) (by unfold rworld; go_grown) (by omega)
theorem rworld_n (w : World) (sl : Value) (k : Nat) : (rworld w sl k).cell? ⟨w.heap.size + 1, 0, none⟩ = some (.int .i64 0) := by simp [rworld, go_sem]
theorem rworld_nf (w : World) (sl : Value) (k : Nat) : (rworld w sl k).frozen? ⟨w.heap.size + 1, 0, none⟩ = false := by simp [rworld, go_sem]
theorem Keep.below' {D : Nat → Prop} {n : Nat} {w w' : World} (h : Keep D w w') (hn : n ≤ w.heap.size) (hD : ∀ g, D g → n ≤ g) : Below n w w' := ⟨h.os, h.tape, h.output, h.size, fun k hk => h.block k (Nat.lt_of_lt_of_le hk hn) fun e => absurd (hD k e) (by omega)⟩

theorem ExS.drew {A : Nat → Prop} {w : World} {sl : Value} {l : List Sx.Ex} (h : ExS A w sl l) : ExS A w.drew sl l := ExS.keep (w := w) (w' := w.drew) (fun _ _ a => a) (fun _ _ _ => rfl) (Nat.le_refl _) h
/-- What readExpr answers where an expression was read. -/
def RXok (w : World) (y : Sx.Ex) (k' : Nat) (e : Ending) (w' : World) : Prop :=
  ∃ kk nn mm sa sn sc ll, y = .mk kk nn mm ll ∧ e = .returned (.tuple #[.agg #[.int .i64 kk, .string ⟨(nn : List UInt8).toArray⟩, .int .i64 mm, .slice sa sn sc], .int .i64 (k' : Int), .int .i64 0, .int .i64 0]) ∧
    ExS (fun g => w.heap.size ≤ g) w' (.slice sa sn sc) ll ∧ Below w.heap.size w w'
set_option maxRecDepth 100000 in
set_option maxHeartbeats 1000000 in
theorem readExpr_ok (b o cap : Nat) (ts : List Tok) (gd : Good ts) (f k : Nat) (y : Sx.Ex) (k' : Nat) (w : World) (ta : Ta w b o ts) (hk : k < ts.length) (hr : Sx.bd ts f 1 1 k = some (.ok y k')) :
    Calls Tryz.prog 17 #[.slice (some ⟨b, o, none⟩) ts.length cap, .int .i64 (k : Int)] w (RXok w y k') := by
  have hmf : ∀ (fn : Fn) (first cap : Array Value) (w : World), (Instr.makeFunc fn first cap).run Tryz.prog w = .ok (.func fn first cap) w := fun _ _ _ _ => rfl
  let W1 := rworld w (.slice (some ⟨b, o, none⟩) ts.length cap) k
  have s1 : W1.heap.size = w.heap.size + 3 := rworld_size _ _ _
  have bV : Below W1.heap.size W1 (w2box W1) := w2box_below W1
  have sV : (w2box W1).heap.size = w.heap.size + 5 := by rw [w2box_size, s1]
  have hc := readExpr1_ok (w.heap.size + 2) b o cap w.heap.size (w.heap.size + 1) ts gd f k y k' (w2box W1) ((rworld_rd ta k).later bV) hk _ _ _ _ _ ((rworld_bx _ _ _).later bV (by omega)) ((bV.cell (by simp only; omega)).trans (rworld_n _ _ _)) ((bV.frozen (by simp only; omega)).trans (rworld_nf _ _ _)) (by omega) (by omega) (by omega) (by omega) (by have := ta.lt; omega) hr
  have hA : Hid _ := attempt_ok 31 _ W1 (fun g => g = w.heap.size + 2 ∨ g = w.heap.size ∨ g = w.heap.size + 1) (by intro g hg; omega) (XRel (w2box W1) w.heap.size (w.heap.size + 1) y k') (fun w => enter_rx _ w) hc
  have S1 : Hid _ := s1
  have SV : Hid _ := sV
  have BV : Hid (Below w.heap.size w (w2box W1)) := (rworld_below _ _ _).trans (bV.mono (by omega))
  clear hc bV sV s1 ta gd hr hk
  go_enter Tryz.func17, Tryz.ntmps17
  go_wp2_with fail
  refine Calls.mono hA.out ?_
  rintro e w' ⟨rfl, w1, k1, ⟨kk, nn, mm, sa, sn, sc, ll, rfl, B, X, cn, fn⟩, hw⟩
  have z1 := SV.out
  have z2 := S1.out
  have z3 := k1.size
  have B' : Bx w' w.heap.size (.int .i64 kk) (.string ⟨nn.toArray⟩) (.int .i64 mm) (.slice sa sn sc) := by rw [hw]; exact (B.set (by simp only; omega) _).set (by simp only; omega) _
  have X' : ExS (fun g => w.heap.size + 5 ≤ g) w' (.slice sa sn sc) ll := by
    rw [hw]; exact ((X.mono (A' := fun g => w.heap.size + 5 ≤ g) fun g _ hg => by omega).set (by simp only; omega) _).set (by simp only; omega) _
  have cn' : w'.cell? ⟨w.heap.size + 1, 0, none⟩ = some (.int .i64 (k' : Int)) := by rw [hw, World.cell?_setCell_other _ _ _ _ (fun e => by have := congrArg Addr.block e; simp only at this; omega), World.cell?_setCell_other _ _ _ _ (fun e => by have := congrArg Addr.block e; simp only at this; omega)]; exact cn
  have fn' : w'.frozen? ⟨w.heap.size + 1, 0, none⟩ = false := by rw [hw]; simpa using fn
  have bw : Below w.heap.size w w' := by rw [hw]; exact ((BV.out.trans (k1.below' (by omega) (fun g hg => by omega))).setCell (by simp only; omega) _).setCell (by simp only; omega) _
  clear hw B X cn fn k1 z1 z2 z3 BV SV S1 hA w1
  have BW : Hid _ := bw
  have XW : Hid _ := X'
  have BB : Hid _ := B'
  obtain ⟨c0, c1, c2, c3, f0, f1, f2, f3, zt⟩ := B'
  clear X' bw
  go_wp2_with fail
  go_region
  go_wp2_with fail
  refine bodyPost_ret (v := .tuple #[.agg #[.int .i64 kk, .string ⟨nn.toArray⟩, .int .i64 mm, .slice sa sn sc], .int .i64 (k' : Int), .int .i64 0, .int .i64 0]) (by simp [results, Tryz.results17, go_sem, c0, c1, c2, c3, cn']) rfl ?_
  refine ⟨kk, nn, mm, sa, sn, sc, ll, rfl, rfl, ?_, ?_⟩
  · exact (((XW.out.fill (g := w.heap.size) (by omega) _ _ _ _).set (a := ⟨w.heap.size + 1, 0, none⟩) (by simp only; omega) _).drew).mono (fun g _ hg => by omega)
  · exact (((((BW.out.setCell (by simp) _).setCell (by simp) _).setCell (by simp) _).setCell (by simp) _).setCell (by simp) _).drew
/-- What readExpr answers where none was. -/
def RXbad (w : World) (a er : Int) (e : Ending) (w' : World) : Prop :=
  e = .returned (.tuple #[.agg #[.int .i64 0, .string ⟨#[]⟩, .int .i64 0, .slice none 0 0], .int .i64 0, .int .i64 a, .int .i64 er]) ∧ Below w.heap.size w w'
set_option maxRecDepth 100000 in
set_option maxHeartbeats 1000000 in
theorem readExpr_bad (b o cap : Nat) (ts : List Tok) (gd : Good ts) (f k : Nat) (a er : Int) (w : World) (ta : Ta w b o ts) (hk : k < ts.length) (hr : Sx.bd ts f 1 1 k = some (.bad a er)) :
    Calls Tryz.prog 17 #[.slice (some ⟨b, o, none⟩) ts.length cap, .int .i64 (k : Int)] w (RXbad w a er) := by
  have hmf : ∀ (fn : Fn) (first cap : Array Value) (w : World), (Instr.makeFunc fn first cap).run Tryz.prog w = .ok (.func fn first cap) w := fun _ _ _ _ => rfl
  let W1 := rworld w (.slice (some ⟨b, o, none⟩) ts.length cap) k
  have s1 : W1.heap.size = w.heap.size + 3 := rworld_size _ _ _
  have bV : Below W1.heap.size W1 (w2box W1) := w2box_below W1
  have sV : (w2box W1).heap.size = w.heap.size + 5 := by rw [w2box_size, s1]
  have hc := readExpr1_bad (w.heap.size + 2) b o cap w.heap.size (w.heap.size + 1) ts gd f k a er (w2box W1) ((rworld_rd ta k).later bV) hk hr
  have hA : Hid _ := attempt_bad a er 31 #[.pointer (some ⟨w.heap.size + 2, 0, none⟩), .pointer (some ⟨w.heap.size, 0, none⟩), .pointer (some ⟨w.heap.size + 1, 0, none⟩)] W1 (fun g => g = w.heap.size + 2) (by intro g hg; omega) (fun _ => True) (fun w => enter_rx _ w) (hc.mono fun _ _ h => ⟨h.1, h.2, trivial⟩)
  have S1 : Hid _ := s1
  have SV : Hid _ := sV
  have BW1 : Hid _ := bV
  have BV : Hid (Below w.heap.size w (w2box W1)) := (rworld_below _ _ _).trans (bV.mono (by omega))
  clear hc bV sV s1 ta gd hr hk
  go_enter Tryz.func17, Tryz.ntmps17
  go_wp2_with fail
  refine Calls.mono hA.out ?_
  rintro e w' ⟨rfl, w1, k1, -, k2⟩
  have z1 := SV.out
  have z2 := S1.out
  have z3 := k1.size
  have bV := BW1.out
  have bw : Below w.heap.size w w' := (BV.out.trans (k1.below' (by omega) (fun g hg => by omega))).trans (k2.below' (by omega) (fun g hg => by omega))
  have B0 : Bx (w2box W1) w.heap.size (.int .i64 0) (.string ⟨#[]⟩) (.int .i64 0) (.slice none 0 0) := (rworld_bx _ _ _).later bV (by omega)
  have b2 : Below (w.heap.size + 2) (w2box W1) w' := (k1.below' (by omega) (fun g hg => by omega)).trans (k2.below' (by omega) (fun g hg => by omega))
  have cn' : w'.cell? ⟨w.heap.size + 1, 0, none⟩ = some (.int .i64 0) := (b2.cell (by simp only; omega)).trans ((bV.cell (by simp only; omega)).trans (rworld_n _ _ _))
  have fn' : w'.frozen? ⟨w.heap.size + 1, 0, none⟩ = false := (b2.frozen (by simp only; omega)).trans ((bV.frozen (by simp only; omega)).trans (rworld_nf _ _ _))
  obtain ⟨c0, c1, c2, c3, f0, f1, f2, f3, zt⟩ := B0.later b2 (by omega)
  clear k1 k2 z1 z2 z3 BV SV S1 hA w1 BW1 bV b2 B0
  have BW : Hid _ := bw
  clear bw
  go_wp2_with fail
  go_region
  go_wp2_with fail
  refine bodyPost_ret (v := .tuple #[.agg #[.int .i64 0, .string ⟨#[]⟩, .int .i64 0, .slice none 0 0], .int .i64 0, .int .i64 a, .int .i64 er]) (by simp [results, Tryz.results17, go_sem, c0, c1, c2, c3, cn']) rfl ?_
  exact ⟨rfl, (((((BW.out.setCell (by simp) _).setCell (by simp) _).setCell (by simp) _).setCell (by simp) _).setCell (by simp) _).drew⟩
end Go.Proofs.YtlhklpnkelcnbaaGreatDoor
