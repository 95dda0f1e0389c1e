/- Layer 9: the document's machine: an instruction, whatever it is. -/
import Derived.Test.YtkjkiknpgggadaaDoorSVmOy
import Derived.Test.YtkjkiknpgggadaaDoorSVmOm
import Derived.Test.YtkjkiknpgggadaaDoorSVmOc1
import Derived.Test.YtkjkiknpgggadaaDoorSVmOl
import Derived.Test.YtkjkiknpgggadaaDoorSVmOp
import Derived.Test.YtkjkiknpgggadaaDoorSVmOr
import Derived.Test.YtkjkiknpgggadaaDoorSVmOt
import Derived.Test.YtkjkiknpgggadaaDoorSVmOn
import Derived.Test.YtkjkiknpgggadaaDoorSVmOv
namespace Go.Proofs.YtkjkiknpgggadaaDoor
open Go.RowKit
set_option linter.unusedVariables false
set_option linter.unusedSimpArgs false

set_option maxHeartbeats 4000000 in
theorem rOd1 (G : Gh) (r : Nat) (w : World) (U : RmV) (R : Vm.Rm) (B : Int) (gs : List Vm.Rf) (g : Vm.Rf) (c : Cd.Co) (n z : Int) (h : RmS G r w U R) (a : Vm.RA B R gs g c ⟨1, n, z⟩) (wf : Vm.RW B R) (rb : Vm.RB R) (hev : R.events.length + 2 ≤ 1000000000) : Calls Tryd.prog 35 #[.pointer (some ⟨r, 0, none⟩)] w fun e w' => e = .returned (.bool (Vm.ron R gs g ⟨1, n, z⟩).2) ∧ RmQ G r w w' (Vm.ron R gs g ⟨1, n, z⟩).1 := by
  have e : (Cd.tk ⟨1, n, z⟩).toNat = 0 := rfl
  have hx := rtk0 a
  refine rOv G r w U R B gs g c 1 n z h a wf rb hev (by decide) [n] 0 (by rw [e, hx]; rfl) (fun X U' fs cv sv gf cap ib la lc S N => ?_) (n) ⟨rfl, rfl⟩ (by rw [e, hx]; rfl) (fun X gf fo l hg => rSto1 X gf fo n z hg l)
  · rw [e, hx] at N ⊢
    rw [e] at S
    have q := rRes_zero X (Vm.rf1 g 0) 1 n z cv sv la lc (by decide) (ra_rg a wf 0) S.cel
    have q2 : Vm.res (Vm.rf1 g 0) ⟨1, n, z⟩ [] = ([n], 0) := by exact rfl
    rw [q2] at q
    exact q
set_option maxHeartbeats 4000000 in
theorem rOd2 (G : Gh) (r : Nat) (w : World) (U : RmV) (R : Vm.Rm) (B : Int) (gs : List Vm.Rf) (g : Vm.Rf) (c : Cd.Co) (n z : Int) (h : RmS G r w U R) (a : Vm.RA B R gs g c ⟨2, n, z⟩) (wf : Vm.RW B R) (rb : Vm.RB R) (hev : R.events.length + 2 ≤ 1000000000) : Calls Tryd.prog 35 #[.pointer (some ⟨r, 0, none⟩)] w fun e w' => e = .returned (.bool (Vm.ron R gs g ⟨2, n, z⟩).2) ∧ RmQ G r w w' (Vm.ron R gs g ⟨2, n, z⟩).1 := by
  have e : (Cd.tk ⟨2, n, z⟩).toNat = 0 := rfl
  have hx := rtk0 a
  refine rOv G r w U R B gs g c 2 n z h a wf rb hev (by decide) [g.cells.getD n.toNat 0] 0 (by rw [e, hx]; rfl) (fun X U' fs cv sv gf cap ib la lc S N => ?_) (g.cells.getD n.toNat 0) ⟨rfl, rfl⟩ (by rw [e, hx]; rfl) (fun X gf fo l hg => rSto2 X gf fo n z hg l)
  · rw [e, hx] at N ⊢
    rw [e] at S
    have q := rRes_zero X (Vm.rf1 g 0) 2 n z cv sv la lc (by decide) (ra_rg a wf 0) S.cel
    have q2 : Vm.res (Vm.rf1 g 0) ⟨2, n, z⟩ [] = ([g.cells.getD n.toNat 0], 0) := by exact rfl
    rw [q2] at q
    exact q
set_option maxHeartbeats 4000000 in
theorem rOd3 (G : Gh) (r : Nat) (w : World) (U : RmV) (R : Vm.Rm) (B : Int) (gs : List Vm.Rf) (g : Vm.Rf) (c : Cd.Co) (n z : Int) (h : RmS G r w U R) (a : Vm.RA B R gs g c ⟨3, n, z⟩) (wf : Vm.RW B R) (rb : Vm.RB R) (hev : R.events.length + 2 ≤ 1000000000) : Calls Tryd.prog 35 #[.pointer (some ⟨r, 0, none⟩)] w fun e w' => e = .returned (.bool (Vm.ron R gs g ⟨3, n, z⟩).2) ∧ RmQ G r w w' (Vm.ron R gs g ⟨3, n, z⟩).1 := by
  have e : (Cd.tk ⟨3, n, z⟩).toNat = 1 := rfl
  obtain ⟨x, hx⟩ := rtk1 a (rfl : Cd.tk ⟨3, n, z⟩ = ((1 : Nat) : Int))
  refine rOn G r w U R B gs g c 3 n z h a wf rb hev (by decide) [] 0 (by rw [e, hx]; rfl) (fun X U' fs cv sv gf cap ib la lc S N => ?_) ⟨rfl, rfl⟩ (fun X U' fs cv sv gf cap ib la lc S N => ?_)
  · rw [e, hx] at N ⊢
    rw [e] at S
    have q := rRes_one X (Vm.rf1 g 1) 3 n z x cv sv la lc (by decide) N
    have q2 : Vm.res (Vm.rf1 g 1) ⟨3, n, z⟩ [x] = ([], 0) := by exact rfl
    rw [q2] at q
    exact q
  · rw [e, hx] at N ⊢
    rw [e] at S
    exact rSto_store S.s S.hf S.l n z x (ra_rg a wf 1) la lc N
set_option maxHeartbeats 4000000 in
theorem rOd4v (G : Gh) (r : Nat) (w : World) (U : RmV) (R : Vm.Rm) (B : Int) (gs : List Vm.Rf) (g : Vm.Rf) (c : Cd.Co) (n z : Int) (h : RmS G r w U R) (a : Vm.RA B R gs g c ⟨4, n, z⟩) (wf : Vm.RW B R) (rb : Vm.RB R) (hev : R.events.length + 2 ≤ 1000000000) (hp : ∀ x, Vm.rtk g 1 = [x] → Vm.ip x z.toNat = true) : Calls Tryd.prog 35 #[.pointer (some ⟨r, 0, none⟩)] w fun e w' => e = .returned (.bool (Vm.ron R gs g ⟨4, n, z⟩).2) ∧ RmQ G r w w' (Vm.ron R gs g ⟨4, n, z⟩).1 := by
  have e : (Cd.tk ⟨4, n, z⟩).toNat = 1 := rfl
  obtain ⟨x, hx⟩ := rtk1 a (rfl : Cd.tk ⟨4, n, z⟩ = ((1 : Nat) : Int))
  refine rOv G r w U R B gs g c 4 n z h a wf rb hev (by decide) [g.cells.getD (n.toNat + x.toNat) 0] 0 (by rw [e, hx]; simp [Vm.res, hp x hx]; rfl) (fun X U' fs cv sv gf cap ib la lc S N => ?_) (g.cells.getD (n.toNat + x.toNat) 0) ⟨rfl, rfl⟩ (by rw [e, hx]; rfl) (fun X gf fo l hg => rSto4 X gf fo n z hg l)
  · rw [e, hx] at N ⊢
    rw [e] at S
    have q := rRes_index X (Vm.rf1 g 1) n z x cv sv la lc N (ra_rg a wf 1) (ra_m a (by decide)) S.cel
    have q2 : Vm.res (Vm.rf1 g 1) ⟨4, n, z⟩ [x] = ([g.cells.getD (n.toNat + x.toNat) 0], 0) := by simp [Vm.res, hp x hx]; rfl
    rw [q2] at q
    exact q
set_option maxHeartbeats 4000000 in
theorem rOd4t (G : Gh) (r : Nat) (w : World) (U : RmV) (R : Vm.Rm) (B : Int) (gs : List Vm.Rf) (g : Vm.Rf) (c : Cd.Co) (n z : Int) (h : RmS G r w U R) (a : Vm.RA B R gs g c ⟨4, n, z⟩) (wf : Vm.RW B R) (rb : Vm.RB R) (hev : R.events.length + 2 ≤ 1000000000) (hp : ∀ x, Vm.rtk g 1 = [x] → Vm.ip x z.toNat = false) : Calls Tryd.prog 35 #[.pointer (some ⟨r, 0, none⟩)] w fun e w' => e = .returned (.bool (Vm.ron R gs g ⟨4, n, z⟩).2) ∧ RmQ G r w w' (Vm.ron R gs g ⟨4, n, z⟩).1 := by
  have e : (Cd.tk ⟨4, n, z⟩).toNat = 1 := rfl
  obtain ⟨x, hx⟩ := rtk1 a (rfl : Cd.tk ⟨4, n, z⟩ = ((1 : Nat) : Int))
  refine rOt G r w U R B gs g c 4 n z h a wf rb hev (by decide) [] 2 (by rw [e, hx]; simp [Vm.res, hp x hx]) (fun X U' fs cv sv gf cap ib la lc S N => ?_) (by decide)
  · rw [e, hx] at N ⊢
    rw [e] at S
    have q := rRes_index X (Vm.rf1 g 1) n z x cv sv la lc N (ra_rg a wf 1) (ra_m a (by decide)) S.cel
    have q2 : Vm.res (Vm.rf1 g 1) ⟨4, n, z⟩ [x] = ([], 2) := by simp [Vm.res, hp x hx]
    rw [q2] at q
    exact q
set_option maxHeartbeats 4000000 in
theorem rOd5n (G : Gh) (r : Nat) (w : World) (U : RmV) (R : Vm.Rm) (B : Int) (gs : List Vm.Rf) (g : Vm.Rf) (c : Cd.Co) (n z : Int) (h : RmS G r w U R) (a : Vm.RA B R gs g c ⟨5, n, z⟩) (wf : Vm.RW B R) (rb : Vm.RB R) (hev : R.events.length + 2 ≤ 1000000000) (hp : ∀ x y, Vm.rtk g 2 = [x, y] → Vm.ip x z.toNat = true) : Calls Tryd.prog 35 #[.pointer (some ⟨r, 0, none⟩)] w fun e w' => e = .returned (.bool (Vm.ron R gs g ⟨5, n, z⟩).2) ∧ RmQ G r w w' (Vm.ron R gs g ⟨5, n, z⟩).1 := by
  have e : (Cd.tk ⟨5, n, z⟩).toNat = 2 := rfl
  obtain ⟨x, y, hx⟩ := rtk2 a (rfl : Cd.tk ⟨5, n, z⟩ = ((2 : Nat) : Int))
  refine rOn G r w U R B gs g c 5 n z h a wf rb hev (by decide) [] 0 (by rw [e, hx]; simp [Vm.res, hp x y hx]) (fun X U' fs cv sv gf cap ib la lc S N => ?_) ⟨rfl, rfl⟩ (fun X U' fs cv sv gf cap ib la lc S N => ?_)
  · rw [e, hx] at N ⊢
    rw [e] at S
    have q := rRes_put X (Vm.rf1 g 2) n z x y cv sv la lc N (ra_rg a wf 2) (ra_m a (by decide)) S.cel
    have q2 : Vm.res (Vm.rf1 g 2) ⟨5, n, z⟩ [x, y] = ([], 0) := by simp [Vm.res, hp x y hx]
    rw [q2] at q
    exact q
  · rw [e, hx] at N ⊢
    rw [e] at S
    have hi := hp x y hx
    unfold Vm.ip at hi
    simp at hi
    exact rSto_put S.s S.hf S.l n z x y (ra_rg a wf 2) (by omega) (by have := ra_m a (by decide); omega) la lc N
set_option maxHeartbeats 4000000 in
theorem rOd5t (G : Gh) (r : Nat) (w : World) (U : RmV) (R : Vm.Rm) (B : Int) (gs : List Vm.Rf) (g : Vm.Rf) (c : Cd.Co) (n z : Int) (h : RmS G r w U R) (a : Vm.RA B R gs g c ⟨5, n, z⟩) (wf : Vm.RW B R) (rb : Vm.RB R) (hev : R.events.length + 2 ≤ 1000000000) (hp : ∀ x y, Vm.rtk g 2 = [x, y] → Vm.ip x z.toNat = false) : Calls Tryd.prog 35 #[.pointer (some ⟨r, 0, none⟩)] w fun e w' => e = .returned (.bool (Vm.ron R gs g ⟨5, n, z⟩).2) ∧ RmQ G r w w' (Vm.ron R gs g ⟨5, n, z⟩).1 := by
  have e : (Cd.tk ⟨5, n, z⟩).toNat = 2 := rfl
  obtain ⟨x, y, hx⟩ := rtk2 a (rfl : Cd.tk ⟨5, n, z⟩ = ((2 : Nat) : Int))
  refine rOt G r w U R B gs g c 5 n z h a wf rb hev (by decide) [] 2 (by rw [e, hx]; simp [Vm.res, hp x y hx]) (fun X U' fs cv sv gf cap ib la lc S N => ?_) (by decide)
  · rw [e, hx] at N ⊢
    rw [e] at S
    have q := rRes_put X (Vm.rf1 g 2) n z x y cv sv la lc N (ra_rg a wf 2) (ra_m a (by decide)) S.cel
    have q2 : Vm.res (Vm.rf1 g 2) ⟨5, n, z⟩ [x, y] = ([], 2) := by simp [Vm.res, hp x y hx]
    rw [q2] at q
    exact q
set_option maxHeartbeats 4000000 in
theorem rOd6 (G : Gh) (r : Nat) (w : World) (U : RmV) (R : Vm.Rm) (B : Int) (gs : List Vm.Rf) (g : Vm.Rf) (c : Cd.Co) (n z : Int) (h : RmS G r w U R) (a : Vm.RA B R gs g c ⟨6, n, z⟩) (wf : Vm.RW B R) (rb : Vm.RB R) (hev : R.events.length + 2 ≤ 1000000000) : Calls Tryd.prog 35 #[.pointer (some ⟨r, 0, none⟩)] w fun e w' => e = .returned (.bool (Vm.ron R gs g ⟨6, n, z⟩).2) ∧ RmQ G r w w' (Vm.ron R gs g ⟨6, n, z⟩).1 := by
  have e : (Cd.tk ⟨6, n, z⟩).toNat = 0 := rfl
  have hx := rtk0 a
  refine rOn G r w U R B gs g c 6 n z h a wf rb hev (by decide) [] 0 (by rw [e, hx]; rfl) (fun X U' fs cv sv gf cap ib la lc S N => ?_) ⟨rfl, rfl⟩ (fun X U' fs cv sv gf cap ib la lc S N => ?_)
  · rw [e, hx] at N ⊢
    rw [e] at S
    have q := rRes_zero X (Vm.rf1 g 0) 6 n z cv sv la lc (by decide) (ra_rg a wf 0) S.cel
    have q2 : Vm.res (Vm.rf1 g 0) ⟨6, n, z⟩ [] = ([], 0) := by exact rfl
    rw [q2] at q
    exact q
  · rw [e, hx] at N ⊢
    rw [e] at S
    exact rSto_clear S.s S.hf S.l n z (ra_rg a wf 0) (ra_m a (by decide)) la lc
set_option maxHeartbeats 4000000 in
theorem rOd7 (G : Gh) (r : Nat) (w : World) (U : RmV) (R : Vm.Rm) (B : Int) (gs : List Vm.Rf) (g : Vm.Rf) (c : Cd.Co) (n z : Int) (h : RmS G r w U R) (a : Vm.RA B R gs g c ⟨7, n, z⟩) (wf : Vm.RW B R) (rb : Vm.RB R) (hev : R.events.length + 2 ≤ 1000000000) : Calls Tryd.prog 35 #[.pointer (some ⟨r, 0, none⟩)] w fun e w' => e = .returned (.bool (Vm.ron R gs g ⟨7, n, z⟩).2) ∧ RmQ G r w w' (Vm.ron R gs g ⟨7, n, z⟩).1 := by
  have e : (Cd.tk ⟨7, n, z⟩).toNat = 2 := rfl
  obtain ⟨x, y, hx⟩ := rtk2 a (rfl : Cd.tk ⟨7, n, z⟩ = ((2 : Nat) : Int))
  refine rOv G r w U R B gs g c 7 n z h a wf rb hev (by decide) [wrap64 (x + y)] 0 (by rw [e, hx]; rfl) (fun X U' fs cv sv gf cap ib la lc S N => ?_) (wrap64 (x + y)) ⟨rfl, rfl⟩ (by rw [e, hx]; rfl) (fun X gf fo l hg => rSto7 X gf fo n z hg l)
  · rw [e, hx] at N ⊢
    rw [e] at S
    have q := rRes_two X (Vm.rf1 g 2) 7 n z x y cv sv la lc N (by decide) (by decide) (by have := rb_tk rb a.hf 2; rw [hx] at this; exact this)
    have q2 : Vm.res (Vm.rf1 g 2) ⟨7, n, z⟩ [x, y] = ([wrap64 (x + y)], 0) := by exact rfl
    rw [q2] at q
    exact q
set_option maxHeartbeats 4000000 in
theorem rOd8 (G : Gh) (r : Nat) (w : World) (U : RmV) (R : Vm.Rm) (B : Int) (gs : List Vm.Rf) (g : Vm.Rf) (c : Cd.Co) (n z : Int) (h : RmS G r w U R) (a : Vm.RA B R gs g c ⟨8, n, z⟩) (wf : Vm.RW B R) (rb : Vm.RB R) (hev : R.events.length + 2 ≤ 1000000000) : Calls Tryd.prog 35 #[.pointer (some ⟨r, 0, none⟩)] w fun e w' => e = .returned (.bool (Vm.ron R gs g ⟨8, n, z⟩).2) ∧ RmQ G r w w' (Vm.ron R gs g ⟨8, n, z⟩).1 := by
  have e : (Cd.tk ⟨8, n, z⟩).toNat = 2 := rfl
  obtain ⟨x, y, hx⟩ := rtk2 a (rfl : Cd.tk ⟨8, n, z⟩ = ((2 : Nat) : Int))
  refine rOv G r w U R B gs g c 8 n z h a wf rb hev (by decide) [wrap64 (x - y)] 0 (by rw [e, hx]; rfl) (fun X U' fs cv sv gf cap ib la lc S N => ?_) (wrap64 (x - y)) ⟨rfl, rfl⟩ (by rw [e, hx]; rfl) (fun X gf fo l hg => rSto8 X gf fo n z hg l)
  · rw [e, hx] at N ⊢
    rw [e] at S
    have q := rRes_two X (Vm.rf1 g 2) 8 n z x y cv sv la lc N (by decide) (by decide) (by have := rb_tk rb a.hf 2; rw [hx] at this; exact this)
    have q2 : Vm.res (Vm.rf1 g 2) ⟨8, n, z⟩ [x, y] = ([wrap64 (x - y)], 0) := by exact rfl
    rw [q2] at q
    exact q
set_option maxHeartbeats 4000000 in
theorem rOd9 (G : Gh) (r : Nat) (w : World) (U : RmV) (R : Vm.Rm) (B : Int) (gs : List Vm.Rf) (g : Vm.Rf) (c : Cd.Co) (n z : Int) (h : RmS G r w U R) (a : Vm.RA B R gs g c ⟨9, n, z⟩) (wf : Vm.RW B R) (rb : Vm.RB R) (hev : R.events.length + 2 ≤ 1000000000) : Calls Tryd.prog 35 #[.pointer (some ⟨r, 0, none⟩)] w fun e w' => e = .returned (.bool (Vm.ron R gs g ⟨9, n, z⟩).2) ∧ RmQ G r w w' (Vm.ron R gs g ⟨9, n, z⟩).1 := by
  have e : (Cd.tk ⟨9, n, z⟩).toNat = 2 := rfl
  obtain ⟨x, y, hx⟩ := rtk2 a (rfl : Cd.tk ⟨9, n, z⟩ = ((2 : Nat) : Int))
  refine rOv G r w U R B gs g c 9 n z h a wf rb hev (by decide) [wrap64 (x * y)] 0 (by rw [e, hx]; rfl) (fun X U' fs cv sv gf cap ib la lc S N => ?_) (wrap64 (x * y)) ⟨rfl, rfl⟩ (by rw [e, hx]; rfl) (fun X gf fo l hg => rSto9 X gf fo n z hg l)
  · rw [e, hx] at N ⊢
    rw [e] at S
    have q := rRes_two X (Vm.rf1 g 2) 9 n z x y cv sv la lc N (by decide) (by decide) (by have := rb_tk rb a.hf 2; rw [hx] at this; exact this)
    have q2 : Vm.res (Vm.rf1 g 2) ⟨9, n, z⟩ [x, y] = ([wrap64 (x * y)], 0) := by exact rfl
    rw [q2] at q
    exact q
set_option maxHeartbeats 4000000 in
theorem rOd12 (G : Gh) (r : Nat) (w : World) (U : RmV) (R : Vm.Rm) (B : Int) (gs : List Vm.Rf) (g : Vm.Rf) (c : Cd.Co) (n z : Int) (h : RmS G r w U R) (a : Vm.RA B R gs g c ⟨12, n, z⟩) (wf : Vm.RW B R) (rb : Vm.RB R) (hev : R.events.length + 2 ≤ 1000000000) : Calls Tryd.prog 35 #[.pointer (some ⟨r, 0, none⟩)] w fun e w' => e = .returned (.bool (Vm.ron R gs g ⟨12, n, z⟩).2) ∧ RmQ G r w w' (Vm.ron R gs g ⟨12, n, z⟩).1 := by
  have e : (Cd.tk ⟨12, n, z⟩).toNat = 2 := rfl
  obtain ⟨x, y, hx⟩ := rtk2 a (rfl : Cd.tk ⟨12, n, z⟩ = ((2 : Nat) : Int))
  refine rOv G r w U R B gs g c 12 n z h a wf rb hev (by decide) [Vm.tr (decide (x < y))] 0 (by rw [e, hx]; rfl) (fun X U' fs cv sv gf cap ib la lc S N => ?_) (Vm.tr (decide (x < y))) ⟨rfl, rfl⟩ (by rw [e, hx]; rfl) (fun X gf fo l hg => rSto12 X gf fo n z hg l)
  · rw [e, hx] at N ⊢
    rw [e] at S
    have q := rRes_two X (Vm.rf1 g 2) 12 n z x y cv sv la lc N (by decide) (by decide) (by have := rb_tk rb a.hf 2; rw [hx] at this; exact this)
    have q2 : Vm.res (Vm.rf1 g 2) ⟨12, n, z⟩ [x, y] = ([Vm.tr (decide (x < y))], 0) := by exact rfl
    rw [q2] at q
    exact q
set_option maxHeartbeats 4000000 in
theorem rOd13 (G : Gh) (r : Nat) (w : World) (U : RmV) (R : Vm.Rm) (B : Int) (gs : List Vm.Rf) (g : Vm.Rf) (c : Cd.Co) (n z : Int) (h : RmS G r w U R) (a : Vm.RA B R gs g c ⟨13, n, z⟩) (wf : Vm.RW B R) (rb : Vm.RB R) (hev : R.events.length + 2 ≤ 1000000000) : Calls Tryd.prog 35 #[.pointer (some ⟨r, 0, none⟩)] w fun e w' => e = .returned (.bool (Vm.ron R gs g ⟨13, n, z⟩).2) ∧ RmQ G r w w' (Vm.ron R gs g ⟨13, n, z⟩).1 := by
  have e : (Cd.tk ⟨13, n, z⟩).toNat = 2 := rfl
  obtain ⟨x, y, hx⟩ := rtk2 a (rfl : Cd.tk ⟨13, n, z⟩ = ((2 : Nat) : Int))
  refine rOv G r w U R B gs g c 13 n z h a wf rb hev (by decide) [Vm.tr (decide (x ≤ y))] 0 (by rw [e, hx]; rfl) (fun X U' fs cv sv gf cap ib la lc S N => ?_) (Vm.tr (decide (x ≤ y))) ⟨rfl, rfl⟩ (by rw [e, hx]; rfl) (fun X gf fo l hg => rSto13 X gf fo n z hg l)
  · rw [e, hx] at N ⊢
    rw [e] at S
    have q := rRes_two X (Vm.rf1 g 2) 13 n z x y cv sv la lc N (by decide) (by decide) (by have := rb_tk rb a.hf 2; rw [hx] at this; exact this)
    have q2 : Vm.res (Vm.rf1 g 2) ⟨13, n, z⟩ [x, y] = ([Vm.tr (decide (x ≤ y))], 0) := by exact rfl
    rw [q2] at q
    exact q
set_option maxHeartbeats 4000000 in
theorem rOd14 (G : Gh) (r : Nat) (w : World) (U : RmV) (R : Vm.Rm) (B : Int) (gs : List Vm.Rf) (g : Vm.Rf) (c : Cd.Co) (n z : Int) (h : RmS G r w U R) (a : Vm.RA B R gs g c ⟨14, n, z⟩) (wf : Vm.RW B R) (rb : Vm.RB R) (hev : R.events.length + 2 ≤ 1000000000) : Calls Tryd.prog 35 #[.pointer (some ⟨r, 0, none⟩)] w fun e w' => e = .returned (.bool (Vm.ron R gs g ⟨14, n, z⟩).2) ∧ RmQ G r w w' (Vm.ron R gs g ⟨14, n, z⟩).1 := by
  have e : (Cd.tk ⟨14, n, z⟩).toNat = 2 := rfl
  obtain ⟨x, y, hx⟩ := rtk2 a (rfl : Cd.tk ⟨14, n, z⟩ = ((2 : Nat) : Int))
  refine rOv G r w U R B gs g c 14 n z h a wf rb hev (by decide) [Vm.tr (x == y)] 0 (by rw [e, hx]; rfl) (fun X U' fs cv sv gf cap ib la lc S N => ?_) (Vm.tr (x == y)) ⟨rfl, rfl⟩ (by rw [e, hx]; rfl) (fun X gf fo l hg => rSto14 X gf fo n z hg l)
  · rw [e, hx] at N ⊢
    rw [e] at S
    have q := rRes_two X (Vm.rf1 g 2) 14 n z x y cv sv la lc N (by decide) (by decide) (by have := rb_tk rb a.hf 2; rw [hx] at this; exact this)
    have q2 : Vm.res (Vm.rf1 g 2) ⟨14, n, z⟩ [x, y] = ([Vm.tr (x == y)], 0) := by exact rfl
    rw [q2] at q
    exact q
set_option maxHeartbeats 4000000 in
theorem rOd10v (G : Gh) (r : Nat) (w : World) (U : RmV) (R : Vm.Rm) (B : Int) (gs : List Vm.Rf) (g : Vm.Rf) (c : Cd.Co) (n z : Int) (h : RmS G r w U R) (a : Vm.RA B R gs g c ⟨10, n, z⟩) (wf : Vm.RW B R) (rb : Vm.RB R) (hev : R.events.length + 2 ≤ 1000000000) (hp : ∀ x y, Vm.rtk g 2 = [x, y] → ¬ y = 0) : Calls Tryd.prog 35 #[.pointer (some ⟨r, 0, none⟩)] w fun e w' => e = .returned (.bool (Vm.ron R gs g ⟨10, n, z⟩).2) ∧ RmQ G r w w' (Vm.ron R gs g ⟨10, n, z⟩).1 := by
  have e : (Cd.tk ⟨10, n, z⟩).toNat = 2 := rfl
  obtain ⟨x, y, hx⟩ := rtk2 a (rfl : Cd.tk ⟨10, n, z⟩ = ((2 : Nat) : Int))
  refine rOv G r w U R B gs g c 10 n z h a wf rb hev (by decide) [Pl.quot x y] 0 (by rw [e, hx]; simp [Vm.res, Vm.bt, hp x y hx]) (fun X U' fs cv sv gf cap ib la lc S N => ?_) (Pl.quot x y) ⟨rfl, rfl⟩ (by rw [e, hx]; rfl) (fun X gf fo l hg => rSto10 X gf fo n z hg l)
  · rw [e, hx] at N ⊢
    rw [e] at S
    have q := rRes_two X (Vm.rf1 g 2) 10 n z x y cv sv la lc N (by decide) (by decide) (by have := rb_tk rb a.hf 2; rw [hx] at this; exact this)
    have q2 : Vm.res (Vm.rf1 g 2) ⟨10, n, z⟩ [x, y] = ([Pl.quot x y], 0) := by simp [Vm.res, Vm.bt, hp x y hx]
    rw [q2] at q
    exact q
set_option maxHeartbeats 4000000 in
theorem rOd10t (G : Gh) (r : Nat) (w : World) (U : RmV) (R : Vm.Rm) (B : Int) (gs : List Vm.Rf) (g : Vm.Rf) (c : Cd.Co) (n z : Int) (h : RmS G r w U R) (a : Vm.RA B R gs g c ⟨10, n, z⟩) (wf : Vm.RW B R) (rb : Vm.RB R) (hev : R.events.length + 2 ≤ 1000000000) (hp : ∀ x y, Vm.rtk g 2 = [x, y] → y = 0) : Calls Tryd.prog 35 #[.pointer (some ⟨r, 0, none⟩)] w fun e w' => e = .returned (.bool (Vm.ron R gs g ⟨10, n, z⟩).2) ∧ RmQ G r w w' (Vm.ron R gs g ⟨10, n, z⟩).1 := by
  have e : (Cd.tk ⟨10, n, z⟩).toNat = 2 := rfl
  obtain ⟨x, y, hx⟩ := rtk2 a (rfl : Cd.tk ⟨10, n, z⟩ = ((2 : Nat) : Int))
  refine rOt G r w U R B gs g c 10 n z h a wf rb hev (by decide) [] 1 (by rw [e, hx]; simp [Vm.res, Vm.bt, hp x y hx]) (fun X U' fs cv sv gf cap ib la lc S N => ?_) (by decide)
  · rw [e, hx] at N ⊢
    rw [e] at S
    have q := rRes_two X (Vm.rf1 g 2) 10 n z x y cv sv la lc N (by decide) (by decide) (by have := rb_tk rb a.hf 2; rw [hx] at this; exact this)
    have q2 : Vm.res (Vm.rf1 g 2) ⟨10, n, z⟩ [x, y] = ([], 1) := by simp [Vm.res, Vm.bt, hp x y hx]
    rw [q2] at q
    exact q
set_option maxHeartbeats 4000000 in
theorem rOd11v (G : Gh) (r : Nat) (w : World) (U : RmV) (R : Vm.Rm) (B : Int) (gs : List Vm.Rf) (g : Vm.Rf) (c : Cd.Co) (n z : Int) (h : RmS G r w U R) (a : Vm.RA B R gs g c ⟨11, n, z⟩) (wf : Vm.RW B R) (rb : Vm.RB R) (hev : R.events.length + 2 ≤ 1000000000) (hp : ∀ x y, Vm.rtk g 2 = [x, y] → ¬ y = 0) : Calls Tryd.prog 35 #[.pointer (some ⟨r, 0, none⟩)] w fun e w' => e = .returned (.bool (Vm.ron R gs g ⟨11, n, z⟩).2) ∧ RmQ G r w w' (Vm.ron R gs g ⟨11, n, z⟩).1 := by
  have e : (Cd.tk ⟨11, n, z⟩).toNat = 2 := rfl
  obtain ⟨x, y, hx⟩ := rtk2 a (rfl : Cd.tk ⟨11, n, z⟩ = ((2 : Nat) : Int))
  refine rOv G r w U R B gs g c 11 n z h a wf rb hev (by decide) [Pl.rest x y] 0 (by rw [e, hx]; simp [Vm.res, Vm.bt, hp x y hx]) (fun X U' fs cv sv gf cap ib la lc S N => ?_) (Pl.rest x y) ⟨rfl, rfl⟩ (by rw [e, hx]; rfl) (fun X gf fo l hg => rSto11 X gf fo n z hg l)
  · rw [e, hx] at N ⊢
    rw [e] at S
    have q := rRes_two X (Vm.rf1 g 2) 11 n z x y cv sv la lc N (by decide) (by decide) (by have := rb_tk rb a.hf 2; rw [hx] at this; exact this)
    have q2 : Vm.res (Vm.rf1 g 2) ⟨11, n, z⟩ [x, y] = ([Pl.rest x y], 0) := by simp [Vm.res, Vm.bt, hp x y hx]
    rw [q2] at q
    exact q
set_option maxHeartbeats 4000000 in
theorem rOd11t (G : Gh) (r : Nat) (w : World) (U : RmV) (R : Vm.Rm) (B : Int) (gs : List Vm.Rf) (g : Vm.Rf) (c : Cd.Co) (n z : Int) (h : RmS G r w U R) (a : Vm.RA B R gs g c ⟨11, n, z⟩) (wf : Vm.RW B R) (rb : Vm.RB R) (hev : R.events.length + 2 ≤ 1000000000) (hp : ∀ x y, Vm.rtk g 2 = [x, y] → y = 0) : Calls Tryd.prog 35 #[.pointer (some ⟨r, 0, none⟩)] w fun e w' => e = .returned (.bool (Vm.ron R gs g ⟨11, n, z⟩).2) ∧ RmQ G r w w' (Vm.ron R gs g ⟨11, n, z⟩).1 := by
  have e : (Cd.tk ⟨11, n, z⟩).toNat = 2 := rfl
  obtain ⟨x, y, hx⟩ := rtk2 a (rfl : Cd.tk ⟨11, n, z⟩ = ((2 : Nat) : Int))
  refine rOt G r w U R B gs g c 11 n z h a wf rb hev (by decide) [] 1 (by rw [e, hx]; simp [Vm.res, Vm.bt, hp x y hx]) (fun X U' fs cv sv gf cap ib la lc S N => ?_) (by decide)
  · rw [e, hx] at N ⊢
    rw [e] at S
    have q := rRes_two X (Vm.rf1 g 2) 11 n z x y cv sv la lc N (by decide) (by decide) (by have := rb_tk rb a.hf 2; rw [hx] at this; exact this)
    have q2 : Vm.res (Vm.rf1 g 2) ⟨11, n, z⟩ [x, y] = ([], 1) := by simp [Vm.res, Vm.bt, hp x y hx]
    rw [q2] at q
    exact q
set_option maxHeartbeats 4000000 in
theorem rOd15 (G : Gh) (r : Nat) (w : World) (U : RmV) (R : Vm.Rm) (B : Int) (gs : List Vm.Rf) (g : Vm.Rf) (c : Cd.Co) (n z : Int) (h : RmS G r w U R) (a : Vm.RA B R gs g c ⟨15, n, z⟩) (wf : Vm.RW B R) (rb : Vm.RB R) (hev : R.events.length + 2 ≤ 1000000000) : Calls Tryd.prog 35 #[.pointer (some ⟨r, 0, none⟩)] w fun e w' => e = .returned (.bool (Vm.ron R gs g ⟨15, n, z⟩).2) ∧ RmQ G r w w' (Vm.ron R gs g ⟨15, n, z⟩).1 := by
  have e : (Cd.tk ⟨15, n, z⟩).toNat = 1 := rfl
  obtain ⟨x, hx⟩ := rtk1 a (rfl : Cd.tk ⟨15, n, z⟩ = ((1 : Nat) : Int))
  refine rOv G r w U R B gs g c 15 n z h a wf rb hev (by decide) [Vm.tr (x == 0)] 0 (by rw [e, hx]; rfl) (fun X U' fs cv sv gf cap ib la lc S N => ?_) (Vm.tr (x == 0)) ⟨rfl, rfl⟩ (by rw [e, hx]; rfl) (fun X gf fo l hg => rSto15 X gf fo n z hg l)
  · rw [e, hx] at N ⊢
    rw [e] at S
    have q := rRes_one X (Vm.rf1 g 1) 15 n z x cv sv la lc (by decide) N
    have q2 : Vm.res (Vm.rf1 g 1) ⟨15, n, z⟩ [x] = ([Vm.tr (x == 0)], 0) := by exact rfl
    rw [q2] at q
    exact q
set_option maxHeartbeats 4000000 in
theorem rOd16 (G : Gh) (r : Nat) (w : World) (U : RmV) (R : Vm.Rm) (B : Int) (gs : List Vm.Rf) (g : Vm.Rf) (c : Cd.Co) (n z : Int) (h : RmS G r w U R) (a : Vm.RA B R gs g c ⟨16, n, z⟩) (wf : Vm.RW B R) (rb : Vm.RB R) (hev : R.events.length + 2 ≤ 1000000000) : Calls Tryd.prog 35 #[.pointer (some ⟨r, 0, none⟩)] w fun e w' => e = .returned (.bool (Vm.ron R gs g ⟨16, n, z⟩).2) ∧ RmQ G r w w' (Vm.ron R gs g ⟨16, n, z⟩).1 := by
  have e : (Cd.tk ⟨16, n, z⟩).toNat = 1 := rfl
  obtain ⟨x, hx⟩ := rtk1 a (rfl : Cd.tk ⟨16, n, z⟩ = ((1 : Nat) : Int))
  refine rOv G r w U R B gs g c 16 n z h a wf rb hev (by decide) [wrap64 (-x)] 0 (by rw [e, hx]; rfl) (fun X U' fs cv sv gf cap ib la lc S N => ?_) (wrap64 (-x)) ⟨rfl, rfl⟩ (by rw [e, hx]; rfl) (fun X gf fo l hg => rSto16 X gf fo n z hg l)
  · rw [e, hx] at N ⊢
    rw [e] at S
    have q := rRes_one X (Vm.rf1 g 1) 16 n z x cv sv la lc (by decide) N
    have q2 : Vm.res (Vm.rf1 g 1) ⟨16, n, z⟩ [x] = ([wrap64 (-x)], 0) := by exact rfl
    rw [q2] at q
    exact q
set_option maxHeartbeats 4000000 in
theorem rOd17 (G : Gh) (r : Nat) (w : World) (U : RmV) (R : Vm.Rm) (B : Int) (gs : List Vm.Rf) (g : Vm.Rf) (c : Cd.Co) (n z : Int) (h : RmS G r w U R) (a : Vm.RA B R gs g c ⟨17, n, z⟩) (wf : Vm.RW B R) (rb : Vm.RB R) (hev : R.events.length + 2 ≤ 1000000000) : Calls Tryd.prog 35 #[.pointer (some ⟨r, 0, none⟩)] w fun e w' => e = .returned (.bool (Vm.ron R gs g ⟨17, n, z⟩).2) ∧ RmQ G r w w' (Vm.ron R gs g ⟨17, n, z⟩).1 := by
  have e : (Cd.tk ⟨17, n, z⟩).toNat = 0 := rfl
  have hx := rtk0 a
  refine rOn G r w U R B gs g c 17 n z h a wf rb hev (by decide) [] 0 (by rw [e, hx]; rfl) (fun X U' fs cv sv gf cap ib la lc S N => ?_) ⟨rfl, rfl⟩ (fun X U' fs cv sv gf cap ib la lc S N => ?_)
  · rw [e, hx] at N ⊢
    rw [e] at S
    have q := rRes_zero X (Vm.rf1 g 0) 17 n z cv sv la lc (by decide) (ra_rg a wf 0) S.cel
    have q2 : Vm.res (Vm.rf1 g 0) ⟨17, n, z⟩ [] = ([], 0) := by exact rfl
    rw [q2] at q
    exact q
  · rw [e, hx] at N ⊢
    rw [e] at S
    exact rSto_jump S.s S.hf S.l n z (ra_n a (by decide)) la lc
set_option maxHeartbeats 4000000 in
theorem rOd18 (G : Gh) (r : Nat) (w : World) (U : RmV) (R : Vm.Rm) (B : Int) (gs : List Vm.Rf) (g : Vm.Rf) (c : Cd.Co) (n z : Int) (h : RmS G r w U R) (a : Vm.RA B R gs g c ⟨18, n, z⟩) (wf : Vm.RW B R) (rb : Vm.RB R) (hev : R.events.length + 2 ≤ 1000000000) : Calls Tryd.prog 35 #[.pointer (some ⟨r, 0, none⟩)] w fun e w' => e = .returned (.bool (Vm.ron R gs g ⟨18, n, z⟩).2) ∧ RmQ G r w w' (Vm.ron R gs g ⟨18, n, z⟩).1 := by
  have e : (Cd.tk ⟨18, n, z⟩).toNat = 1 := rfl
  obtain ⟨x, hx⟩ := rtk1 a (rfl : Cd.tk ⟨18, n, z⟩ = ((1 : Nat) : Int))
  refine rOn G r w U R B gs g c 18 n z h a wf rb hev (by decide) [] 0 (by rw [e, hx]; rfl) (fun X U' fs cv sv gf cap ib la lc S N => ?_) ⟨rfl, rfl⟩ (fun X U' fs cv sv gf cap ib la lc S N => ?_)
  · rw [e, hx] at N ⊢
    rw [e] at S
    have q := rRes_one X (Vm.rf1 g 1) 18 n z x cv sv la lc (by decide) N
    have q2 : Vm.res (Vm.rf1 g 1) ⟨18, n, z⟩ [x] = ([], 0) := by exact rfl
    rw [q2] at q
    exact q
  · rw [e, hx] at N ⊢
    rw [e] at S
    exact rSto_zero S.s S.hf S.l n z x (ra_n a (by decide)) la lc N
set_option maxHeartbeats 4000000 in
theorem rOd23n (G : Gh) (r : Nat) (w : World) (U : RmV) (R : Vm.Rm) (B : Int) (gs : List Vm.Rf) (g : Vm.Rf) (c : Cd.Co) (n z : Int) (h : RmS G r w U R) (a : Vm.RA B R gs g c ⟨23, n, z⟩) (wf : Vm.RW B R) (rb : Vm.RB R) (hev : R.events.length + 2 ≤ 1000000000) (hp : ∀ x, Vm.rtk g 1 = [x] → ¬ x = 0) : Calls Tryd.prog 35 #[.pointer (some ⟨r, 0, none⟩)] w fun e w' => e = .returned (.bool (Vm.ron R gs g ⟨23, n, z⟩).2) ∧ RmQ G r w w' (Vm.ron R gs g ⟨23, n, z⟩).1 := by
  have e : (Cd.tk ⟨23, n, z⟩).toNat = 1 := rfl
  obtain ⟨x, hx⟩ := rtk1 a (rfl : Cd.tk ⟨23, n, z⟩ = ((1 : Nat) : Int))
  refine rOn G r w U R B gs g c 23 n z h a wf rb hev (by decide) [] 0 (by rw [e, hx]; simp [Vm.res, hp x hx]) (fun X U' fs cv sv gf cap ib la lc S N => ?_) ⟨rfl, rfl⟩ (fun X U' fs cv sv gf cap ib la lc S N => ?_)
  · rw [e, hx] at N ⊢
    rw [e] at S
    have q := rRes_one X (Vm.rf1 g 1) 23 n z x cv sv la lc (by decide) N
    have q2 : Vm.res (Vm.rf1 g 1) ⟨23, n, z⟩ [x] = ([], 0) := by simp [Vm.res, hp x hx]
    rw [q2] at q
    exact q
  · rw [e, hx] at N ⊢
    rw [e] at S
    exact (rSto23 X gf (gs.length * 5) n z S.l.hi _).mono fun e w' q => ronS S q
set_option maxHeartbeats 4000000 in
theorem rOd23t (G : Gh) (r : Nat) (w : World) (U : RmV) (R : Vm.Rm) (B : Int) (gs : List Vm.Rf) (g : Vm.Rf) (c : Cd.Co) (n z : Int) (h : RmS G r w U R) (a : Vm.RA B R gs g c ⟨23, n, z⟩) (wf : Vm.RW B R) (rb : Vm.RB R) (hev : R.events.length + 2 ≤ 1000000000) (hp : ∀ x, Vm.rtk g 1 = [x] → x = 0) : Calls Tryd.prog 35 #[.pointer (some ⟨r, 0, none⟩)] w fun e w' => e = .returned (.bool (Vm.ron R gs g ⟨23, n, z⟩).2) ∧ RmQ G r w w' (Vm.ron R gs g ⟨23, n, z⟩).1 := by
  have e : (Cd.tk ⟨23, n, z⟩).toNat = 1 := rfl
  obtain ⟨x, hx⟩ := rtk1 a (rfl : Cd.tk ⟨23, n, z⟩ = ((1 : Nat) : Int))
  refine rOt G r w U R B gs g c 23 n z h a wf rb hev (by decide) [] 3 (by rw [e, hx]; simp [Vm.res, hp x hx]) (fun X U' fs cv sv gf cap ib la lc S N => ?_) (by decide)
  · rw [e, hx] at N ⊢
    rw [e] at S
    have q := rRes_one X (Vm.rf1 g 1) 23 n z x cv sv la lc (by decide) N
    have q2 : Vm.res (Vm.rf1 g 1) ⟨23, n, z⟩ [x] = ([], 3) := by simp [Vm.res, hp x hx]
    rw [q2] at q
    exact q
set_option maxHeartbeats 4000000 in
theorem rOd25 (G : Gh) (r : Nat) (w : World) (U : RmV) (R : Vm.Rm) (B : Int) (gs : List Vm.Rf) (g : Vm.Rf) (c : Cd.Co) (n z : Int) (h : RmS G r w U R) (a : Vm.RA B R gs g c ⟨25, n, z⟩) (wf : Vm.RW B R) (rb : Vm.RB R) (hev : R.events.length + 2 ≤ 1000000000) : Calls Tryd.prog 35 #[.pointer (some ⟨r, 0, none⟩)] w fun e w' => e = .returned (.bool (Vm.ron R gs g ⟨25, n, z⟩).2) ∧ RmQ G r w w' (Vm.ron R gs g ⟨25, n, z⟩).1 := by
  have e : (Cd.tk ⟨25, n, z⟩).toNat = 1 := rfl
  obtain ⟨x, hx⟩ := rtk1 a (rfl : Cd.tk ⟨25, n, z⟩ = ((1 : Nat) : Int))
  refine rOn G r w U R B gs g c 25 n z h a wf rb hev (by decide) [] 0 (by rw [e, hx]; rfl) (fun X U' fs cv sv gf cap ib la lc S N => ?_) ⟨rfl, rfl⟩ (fun X U' fs cv sv gf cap ib la lc S N => ?_)
  · rw [e, hx] at N ⊢
    rw [e] at S
    obtain ⟨gl, ol, rfl, hgl, c0⟩ := nu1 N
    exact rRes25 X _ _ _ n z x cv sv gl ol lc hgl c0
  · rw [e, hx] at N ⊢
    rw [e] at S
    exact (rSto25 X gf (gs.length * 5) n z S.l.hi _).mono fun e w' q => ronS S q
theorem rOne (G : Gh) (r : Nat) (w : World) (U : RmV) (R : Vm.Rm) (B : Int) (gs : List Vm.Rf) (g : Vm.Rf) (c : Cd.Co) (i : Cd.In) (h : RmS G r w U R) (a : Vm.RA B R gs g c i) (wf : Vm.RW B R) (rb : Vm.RB R) (hev : R.events.length + 2 ≤ 1000000000) : Calls Tryd.prog 35 #[.pointer (some ⟨r, 0, none⟩)] w fun e w' => e = .returned (.bool (Vm.ron R gs g i).2) ∧ RmQ G r w w' (Vm.ron R gs g i).1 := by
  obtain ⟨op, n, z⟩ := i
  have ops : 1 ≤ op ∧ op ≤ 25 := by
    obtain ⟨C0, S0, A⟩ := a.at_ ⟨default, fun _ => False, 0⟩
    exact A.ops
  obtain rfl | rfl | rfl | rfl | rfl | rfl | rfl | rfl | rfl | rfl | rfl | rfl | rfl | rfl | rfl | rfl | rfl | rfl | rfl | rfl | rfl | rfl | rfl | rfl | rfl : op = 1 ∨ op = 2 ∨ op = 3 ∨ op = 4 ∨ op = 5 ∨ op = 6 ∨ op = 7 ∨ op = 8 ∨ op = 9 ∨ op = 10 ∨ op = 11 ∨ op = 12 ∨ op = 13 ∨ op = 14 ∨ op = 15 ∨ op = 16 ∨ op = 17 ∨ op = 18 ∨ op = 19 ∨ op = 20 ∨ op = 21 ∨ op = 22 ∨ op = 23 ∨ op = 24 ∨ op = 25 := by omega
  · exact rOd1 G r w U R B gs g c n z h a wf rb hev
  · exact rOd2 G r w U R B gs g c n z h a wf rb hev
  · exact rOd3 G r w U R B gs g c n z h a wf rb hev
  · by_cases hp : Vm.ip (((Vm.rtk g 1).getD 0 0)) z.toNat = true
    · exact rOd4v G r w U R B gs g c n z h a wf rb hev (fun x hx => by rw [hx] at hp; simpa using hp)
    · exact rOd4t G r w U R B gs g c n z h a wf rb hev (fun x hx => by rw [hx] at hp; simpa using hp)
  · by_cases hp : Vm.ip (((Vm.rtk g 2).getD 0 0)) z.toNat = true
    · exact rOd5n G r w U R B gs g c n z h a wf rb hev (fun x y hx => by rw [hx] at hp; simpa using hp)
    · exact rOd5t G r w U R B gs g c n z h a wf rb hev (fun x y hx => by rw [hx] at hp; simpa using hp)
  · exact rOd6 G r w U R B gs g c n z h a wf rb hev
  · exact rOd7 G r w U R B gs g c n z h a wf rb hev
  · exact rOd8 G r w U R B gs g c n z h a wf rb hev
  · exact rOd9 G r w U R B gs g c n z h a wf rb hev
  · by_cases hp : (Vm.rtk g 2).getD 1 0 = 0
    · exact rOd10t G r w U R B gs g c n z h a wf rb hev (fun x y hx => by rw [hx] at hp; simpa using hp)
    · exact rOd10v G r w U R B gs g c n z h a wf rb hev (fun x y hx => by rw [hx] at hp; simpa using hp)
  · by_cases hp : (Vm.rtk g 2).getD 1 0 = 0
    · exact rOd11t G r w U R B gs g c n z h a wf rb hev (fun x y hx => by rw [hx] at hp; simpa using hp)
    · exact rOd11v G r w U R B gs g c n z h a wf rb hev (fun x y hx => by rw [hx] at hp; simpa using hp)
  · exact rOd12 G r w U R B gs g c n z h a wf rb hev
  · exact rOd13 G r w U R B gs g c n z h a wf rb hev
  · exact rOd14 G r w U R B gs g c n z h a wf rb hev
  · exact rOd15 G r w U R B gs g c n z h a wf rb hev
  · exact rOd16 G r w U R B gs g c n z h a wf rb hev
  · exact rOd17 G r w U R B gs g c n z h a wf rb hev
  · exact rOd18 G r w U R B gs g c n z h a wf rb hev
  · exact rOc1 G r w U R B gs g c 19 n z h a wf rb hev rfl
  · exact rOl G r w U R B gs g c 20 n z h a wf rb hev rfl
  · exact rOp G r w U R B gs g c 21 n z h a wf rb hev rfl
  · exact rOr G r w U R B gs g c 22 n z h a wf rb hev rfl
  · by_cases hp : (Vm.rtk g 1).getD 0 0 = 0
    · exact rOd23t G r w U R B gs g c n z h a wf rb hev (fun x hx => by rw [hx] at hp; simpa using hp)
    · exact rOd23n G r w U R B gs g c n z h a wf rb hev (fun x hx => by rw [hx] at hp; simpa using hp)
  · exact rOm G r w U R B gs g c 24 n z h a wf rb hev rfl
  · exact rOd25 G r w U R B gs g c n z h a wf rb hev
end Go.Proofs.YtkjkiknpgggadaaDoor

