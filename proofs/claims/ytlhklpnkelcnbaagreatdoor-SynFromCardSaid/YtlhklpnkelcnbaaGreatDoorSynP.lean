/- Layer 3: PrintExpr. -/
import Derived.Test.YtlhklpnkelcnbaaGreatDoorSynO
namespace Go.Proofs.YtlhklpnkelcnbaaGreatDoor
open Go.RowKit

theorem tb_lists (ws : List (List UInt8)) : (ws.map tb).map (fun x : ByteArray => x.data.toList) = ws := by
  rw [List.map_map]
  conv => rhs; rw [← List.map_id ws]
  apply List.map_congr_left
  intro a _
  simp [tb]
set_option maxRecDepth 100000 in
set_option maxHeartbeats 1000000 in
theorem text_ok (q dp : Nat) (v : Value) (ws : List (List UInt8)) (w : World) (h : Wr w q v (ws.map tb) dp) (hd : dp ≤ 60) (hJ : (Lib.join ws [32]).length ≤ 100000000) (hl : ws.length ≤ 1000000) :
    Calls Tryz.prog 21 #[.pointer (some ⟨q, 0, none⟩)] w fun e w' => e = .returned (.tuple #[.string ⟨(Lib.join ws [32]).toArray⟩, .int .i64 0]) ∧ Below w.heap.size w w' := by
  have HJ : Hid _ := join_own h.own (by rw [tb_lists]; exact hJ) (by simp; omega)
  rw [tb_lists] at HJ
  have c0 := h.c0
  have c1 := h.c1
  have hi : ¬ ((60 : Int) < (dp : Int)) := by omega
  obtain ⟨ao, cap, hv⟩ := h.own.shape
  rw [List.length_map] at hv
  subst hv
  clear h hd hJ hl
  go_enter Tryz.func21, Tryz.ntmps21
  go_wp2_with fail
  refine Calls.mono HJ.out ?_
  rintro e w1 ⟨rfl, b1⟩
  go_wp2_with fail
  go_ret2
  exact ⟨rfl, b1⟩
set_option maxRecDepth 100000 in
set_option maxHeartbeats 1000000 in
theorem text_deep (q dp : Nat) (v : Value) (xs : List ByteArray) (w : World) (h : Wr w q v xs dp) (hd : 60 < dp) :
    Calls Tryz.prog 21 #[.pointer (some ⟨q, 0, none⟩)] w fun e w' => e = .returned (.tuple #[.string ⟨#[]⟩, .int .i64 31]) ∧ w' = w := by
  have c0 := h.c0
  have c1 := h.c1
  have hi : (60 : Int) < (dp : Int) := by omega
  clear h hd
  go_enter Tryz.func21, Tryz.ntmps21
  go_wp2_with fail
  go_ret2
  exact ⟨rfl, rfl⟩
theorem Wr.new (w : World) (t : TypeId) : Wr (w.alloc (.cells #[.slice none 0 0, .int .i64 0] t)) w.heap.size (.slice none 0 0) [] 0 :=
  ⟨by simp [go_sem], by simp [go_sem], World.frozen?_alloc_at _ _ _ _ rfl, World.frozen?_alloc_at _ _ _ _ rfl, OwnS.nil _ _, by simp⟩
set_option maxRecDepth 100000 in
set_option maxHeartbeats 1000000 in
theorem PrintExpr_ok (A : Nat → Prop) (f : Nat) (k : Int) (n : List UInt8) (m : Int) (sa : Option Addr) (sn sc : Nat) (l : List Sx.Ex) (ws : List (List UInt8)) (dp : Nat) (w : World) (hk : Kw w) (ht : Tab w) (hx : ExS A w (.slice sa sn sc) l) (hr : Sx.rx f (.mk k n m l) = true) (hw : Sx.wx f (.mk k n m l) 1 = some (ws, dp))
    (hf : f ≤ 400000) (hd : dp ≤ 60) (hl : ws.length ≤ 1000000) (hJ : (Lib.join ws [32]).length ≤ 100000000) :
    Calls Tryz.prog 10 #[.agg #[.int .i64 k, .string ⟨n.toArray⟩, .int .i64 m, .slice sa sn sc]] w fun e w' => e = .returned (.tuple #[.string ⟨(Lib.join ws [32]).toArray⟩, .int .i64 0]) ∧ Below w.heap.size w w' := by
  have HR : Hid _ := right_any A f k n m sa sn sc l (w.alloc (.cells #[.int .i64 k, .string ⟨n.toArray⟩, .int .i64 m, .slice sa sn sc] 25)) (hk.later (box_below _ _)) (hx.later (box_below _ _) (Nat.le_refl _)) hr
  have HX : Hid _ := hx
  have HT : Hid (Tab w) := ht
  have HW : Hid (Sx.wx f (.mk k n m l) 1 = some (ws, dp)) := hw
  have HF : Hid (f ≤ 400000 ∧ dp ≤ 60 ∧ ws.length ≤ 1000000 ∧ (Lib.join ws [32]).length ≤ 100000000) := ⟨hf, hd, hl, hJ⟩
  clear hk ht hx hr hw hf hd hl hJ
  go_enter Tryz.func10, Tryz.ntmps10
  go_wp2_with fail
  refine Calls.mono HR.out ?_
  rintro e w1 ⟨rfl, b1⟩
  have BW : Hid (Below w.heap.size w w1) := (box_below w _).trans (b1.mono (by simp))
  have B1 : Hid _ := Bx.box w _ _ _ _ _ b1
  obtain ⟨c0, c1, c2, c3, -, -, -, -, zt⟩ := B1.out
  clear b1
  have z1 : w.heap.size < w1.heap.size := zt
  have X2 : Hid (ExS (fun g => g < w1.heap.size) (w1.alloc (.cells #[.slice none 0 0, .int .i64 0] 54)) (.slice sa sn sc) l) := ((HX.out.later BW.out (Nat.le_refl _)).mono fun g hg _ => hg).later (box_below _ _) (Nat.le_refl _)
  have T2 : Hid (Tab (w1.alloc (.cells #[.slice none 0 0, .int .i64 0] 54))) := (HT.out.later BW.out (Nat.le_refl _)).later (box_below _ _) (Nat.le_refl _)
  have hgq : 2 < w1.heap.size := Nat.lt_of_lt_of_le HT.out.2 BW.out.size
  have E2 : Hid _ := expr_w w1.heap.size hgq f k n m sa sn sc l 1 ws dp (.slice none 0 0) [] 0 _ T2.out (Wr.new w1 54) X2.out (by have := HF.out.1; omega) HW.out (by have := HF.out.2.2.1; simp; omega)
  clear hgq
  go_wp2_with fail
  refine Calls.mono E2.out ?_
  rintro e w2 ⟨rfl, v2, W2, S2⟩
  have W2' : Hid (Wr w2 w1.heap.size v2 (ws.map tb) dp) := by have e := W2; simp at e; exact e
  have BW2 : Hid (Below w.heap.size w w2) := (BW.out.trans ((box_below w1 _).mono BW.out.size)).trans (S2.below.mono BW.out.size)
  clear W2 S2
  go_wp2_with fail
  refine (text_ok w1.heap.size dp v2 ws w2 W2'.out HF.out.2.1 HF.out.2.2.2 HF.out.2.2.1).mono ?_
  rintro e w3 ⟨rfl, b3⟩
  go_wp2_with fail
  go_ret2
  exact ⟨rfl, BW2.out.trans (b3.mono BW2.out.size)⟩
end Go.Proofs.YtlhklpnkelcnbaaGreatDoor
