/- Layer 5: the forms that the rules ask for (the program's). -/
import Derived.Test.YthadpkmbbimleaaZFolG
namespace Go.Proofs.Ythadpkmbbimleaa
open Go.RowKit

namespace Fo
open Sx
def bu : Ex → Bool | .mk k n _ l => built k n l.length
def kd : Ex → Int | .mk k _ _ _ => k
def nm : Ex → List UInt8 | .mk _ n _ _ => n
def nu : Ex → Int | .mk _ _ m _ => m
def pa : Ex → List Ex | .mk _ _ _ l => l
def e0 : Ex := .mk 0 [] 0 []
def isU (s : List UInt8) (x : Ex) : Bool := bu x && (kd x == 5) && (nm x == s)
def isT (s : List UInt8) (x : Ex) : Bool := bu x && (kd x == 6) && (nm x == s)
def isW (v : Int) (x : Ex) : Bool := bu x && (kd x == 1) && (nu x == v)
def isB (v : Int) (x : Ex) : Bool := bu x && (kd x == 2) && (nu x == v)
def isP (x : Ex) : Bool := bu x && ((kd x == 1) || (kd x == 2))
def isBel (x : Ex) : Bool := isU [45] x && above ((pa x).getD 0 e0)
def isLe (x : Ex) : Bool := isT [45] x && (isBel ((pa x).getD 0 e0) && isW 9223372036854775807 ((pa ((pa x).getD 0 e0)).getD 0 e0) && isW 1 ((pa x).getD 1 e0))
def tof (x : Ex) : Bool := bu x && ((kd x == 2) || isU [33] x || ((kd x == 6) && isTe (nm x)))
def cn (x : Ex) : Bool := isP x || isBel x || isLe x
end Fo
set_option maxRecDepth 100000 in
set_option maxHeartbeats 1000000 in
theorem fUnary_any (s : List UInt8) (k : Int) (n : List UInt8) (m : Int) (l : List Sx.Ex) (sa : Option Addr) (sc : Nat) (w : World) : Calls Try.prog 62 #[.agg #[.int .i64 k, .string ⟨n.toArray⟩, .int .i64 m, .slice sa l.length sc], .string ⟨s.toArray⟩] w fun e w' => e = .returned (.bool (Fo.isU s (.mk k n m l))) ∧ Below w.heap.size w w' := by
  have EB : Hid (∀ W, Below w.heap.size w W → _) := fun W (_ : Below w.heap.size w W) => built_any k n m sa l.length sc W
  show Calls _ _ _ _ fun e w' => e = .returned (.bool (Fo.built k n l.length && (k == 5) && (n == s))) ∧ Below w.heap.size w w'
  cases hb : Fo.built k n l.length with
  | false =>
    rw [hb] at EB
    clear hb
    go_enter Try.func62, Try.ntmps62
    go_wp2_with fail
    refine Calls.mono (EB.out _ (box_below w _)) ?_
    rintro e w1 ⟨rfl, b1⟩
    obtain ⟨d0, d1, d2, d3, h0, h1, h2, h3, zt⟩ := (Bx.new w 24 (.int .i64 k) (.string ⟨n.toArray⟩) (.int .i64 m) (.slice sa l.length sc)).later b1 (by simp)
    have BW : Hid (Below w.heap.size w w1) := (box_below w _).trans (b1.mono (by simp))
    clear b1
    go_wp2_with fail
    go_ret
    exact ⟨rfl, BW.out⟩
  | true =>
    rw [hb] at EB
    clear hb
    by_cases hk : k = 5
    · subst hk
      go_enter Try.func62, Try.ntmps62
      go_wp2_with fail
      refine Calls.mono (EB.out _ (box_below w _)) ?_
      rintro e w1 ⟨rfl, b1⟩
      obtain ⟨d0, d1, d2, d3, h0, h1, h2, h3, zt⟩ := (Bx.new w 24 (.int .i64 5) (.string ⟨n.toArray⟩) (.int .i64 m) (.slice sa l.length sc)).later b1 (by simp)
      have BW : Hid (Below w.heap.size w w1) := (box_below w _).trans (b1.mono (by simp))
      clear b1
      go_wp2_with fail
      go_ret
      exact ⟨ret_bool (by simp), BW.out⟩
    · have ek : (k == 5) = false := beq_eq_false_iff_ne.2 hk
      rw [ek]
      clear hk
      go_enter Try.func62, Try.ntmps62
      go_wp2_with fail
      refine Calls.mono (EB.out _ (box_below w _)) ?_
      rintro e w1 ⟨rfl, b1⟩
      obtain ⟨d0, d1, d2, d3, h0, h1, h2, h3, zt⟩ := (Bx.new w 24 (.int .i64 k) (.string ⟨n.toArray⟩) (.int .i64 m) (.slice sa l.length sc)).later b1 (by simp)
      have BW : Hid (Below w.heap.size w w1) := (box_below w _).trans (b1.mono (by simp))
      clear b1
      go_wp2_with fail
      go_ret
      exact ⟨rfl, BW.out⟩
set_option maxRecDepth 100000 in
set_option maxHeartbeats 1000000 in
theorem isTwo_any (s : List UInt8) (k : Int) (n : List UInt8) (m : Int) (l : List Sx.Ex) (sa : Option Addr) (sc : Nat) (w : World) : Calls Try.prog 63 #[.agg #[.int .i64 k, .string ⟨n.toArray⟩, .int .i64 m, .slice sa l.length sc], .string ⟨s.toArray⟩] w fun e w' => e = .returned (.bool (Fo.isT s (.mk k n m l))) ∧ Below w.heap.size w w' := by
  have EB : Hid (∀ W, Below w.heap.size w W → _) := fun W (_ : Below w.heap.size w W) => built_any k n m sa l.length sc W
  show Calls _ _ _ _ fun e w' => e = .returned (.bool (Fo.built k n l.length && (k == 6) && (n == s))) ∧ Below w.heap.size w w'
  cases hb : Fo.built k n l.length with
  | false =>
    rw [hb] at EB
    clear hb
    go_enter Try.func63, Try.ntmps63
    go_wp2_with fail
    refine Calls.mono (EB.out _ (box_below w _)) ?_
    rintro e w1 ⟨rfl, b1⟩
    obtain ⟨d0, d1, d2, d3, h0, h1, h2, h3, zt⟩ := (Bx.new w 24 (.int .i64 k) (.string ⟨n.toArray⟩) (.int .i64 m) (.slice sa l.length sc)).later b1 (by simp)
    have BW : Hid (Below w.heap.size w w1) := (box_below w _).trans (b1.mono (by simp))
    clear b1
    go_wp2_with fail
    go_ret
    exact ⟨rfl, BW.out⟩
  | true =>
    rw [hb] at EB
    clear hb
    by_cases hk : k = 6
    · subst hk
      go_enter Try.func63, Try.ntmps63
      go_wp2_with fail
      refine Calls.mono (EB.out _ (box_below w _)) ?_
      rintro e w1 ⟨rfl, b1⟩
      obtain ⟨d0, d1, d2, d3, h0, h1, h2, h3, zt⟩ := (Bx.new w 24 (.int .i64 6) (.string ⟨n.toArray⟩) (.int .i64 m) (.slice sa l.length sc)).later b1 (by simp)
      have BW : Hid (Below w.heap.size w w1) := (box_below w _).trans (b1.mono (by simp))
      clear b1
      go_wp2_with fail
      go_ret
      exact ⟨ret_bool (by simp), BW.out⟩
    · have ek : (k == 6) = false := beq_eq_false_iff_ne.2 hk
      rw [ek]
      clear hk
      go_enter Try.func63, Try.ntmps63
      go_wp2_with fail
      refine Calls.mono (EB.out _ (box_below w _)) ?_
      rintro e w1 ⟨rfl, b1⟩
      obtain ⟨d0, d1, d2, d3, h0, h1, h2, h3, zt⟩ := (Bx.new w 24 (.int .i64 k) (.string ⟨n.toArray⟩) (.int .i64 m) (.slice sa l.length sc)).later b1 (by simp)
      have BW : Hid (Below w.heap.size w w1) := (box_below w _).trans (b1.mono (by simp))
      clear b1
      go_wp2_with fail
      go_ret
      exact ⟨rfl, BW.out⟩
set_option maxRecDepth 100000 in
set_option maxHeartbeats 1000000 in
theorem isWhole_any (v : Int) (k : Int) (n : List UInt8) (m : Int) (l : List Sx.Ex) (sa : Option Addr) (sc : Nat) (w : World) : Calls Try.prog 64 #[.agg #[.int .i64 k, .string ⟨n.toArray⟩, .int .i64 m, .slice sa l.length sc], .int .i64 v] w fun e w' => e = .returned (.bool (Fo.isW v (.mk k n m l))) ∧ Below w.heap.size w w' := by
  have EB : Hid (∀ W, Below w.heap.size w W → _) := fun W (_ : Below w.heap.size w W) => built_any k n m sa l.length sc W
  show Calls _ _ _ _ fun e w' => e = .returned (.bool (Fo.built k n l.length && (k == 1) && (m == v))) ∧ Below w.heap.size w w'
  cases hb : Fo.built k n l.length with
  | false =>
    rw [hb] at EB
    clear hb
    go_enter Try.func64, Try.ntmps64
    go_wp2_with fail
    refine Calls.mono (EB.out _ (box_below w _)) ?_
    rintro e w1 ⟨rfl, b1⟩
    obtain ⟨d0, d1, d2, d3, h0, h1, h2, h3, zt⟩ := (Bx.new w 24 (.int .i64 k) (.string ⟨n.toArray⟩) (.int .i64 m) (.slice sa l.length sc)).later b1 (by simp)
    have BW : Hid (Below w.heap.size w w1) := (box_below w _).trans (b1.mono (by simp))
    clear b1
    go_wp2_with fail
    go_ret
    exact ⟨rfl, BW.out⟩
  | true =>
    rw [hb] at EB
    clear hb
    by_cases hk : k = 1
    · subst hk
      go_enter Try.func64, Try.ntmps64
      go_wp2_with fail
      refine Calls.mono (EB.out _ (box_below w _)) ?_
      rintro e w1 ⟨rfl, b1⟩
      obtain ⟨d0, d1, d2, d3, h0, h1, h2, h3, zt⟩ := (Bx.new w 24 (.int .i64 1) (.string ⟨n.toArray⟩) (.int .i64 m) (.slice sa l.length sc)).later b1 (by simp)
      have BW : Hid (Below w.heap.size w w1) := (box_below w _).trans (b1.mono (by simp))
      clear b1
      go_wp2_with fail
      go_ret
      exact ⟨ret_bool (by simp), BW.out⟩
    · have ek : (k == 1) = false := beq_eq_false_iff_ne.2 hk
      rw [ek]
      clear hk
      go_enter Try.func64, Try.ntmps64
      go_wp2_with fail
      refine Calls.mono (EB.out _ (box_below w _)) ?_
      rintro e w1 ⟨rfl, b1⟩
      obtain ⟨d0, d1, d2, d3, h0, h1, h2, h3, zt⟩ := (Bx.new w 24 (.int .i64 k) (.string ⟨n.toArray⟩) (.int .i64 m) (.slice sa l.length sc)).later b1 (by simp)
      have BW : Hid (Below w.heap.size w w1) := (box_below w _).trans (b1.mono (by simp))
      clear b1
      go_wp2_with fail
      go_ret
      exact ⟨rfl, BW.out⟩
set_option maxRecDepth 100000 in
set_option maxHeartbeats 1000000 in
theorem isTruth_any (v : Int) (k : Int) (n : List UInt8) (m : Int) (l : List Sx.Ex) (sa : Option Addr) (sc : Nat) (w : World) : Calls Try.prog 76 #[.agg #[.int .i64 k, .string ⟨n.toArray⟩, .int .i64 m, .slice sa l.length sc], .int .i64 v] w fun e w' => e = .returned (.bool (Fo.isB v (.mk k n m l))) ∧ Below w.heap.size w w' := by
  have EB : Hid (∀ W, Below w.heap.size w W → _) := fun W (_ : Below w.heap.size w W) => built_any k n m sa l.length sc W
  show Calls _ _ _ _ fun e w' => e = .returned (.bool (Fo.built k n l.length && (k == 2) && (m == v))) ∧ Below w.heap.size w w'
  cases hb : Fo.built k n l.length with
  | false =>
    rw [hb] at EB
    clear hb
    go_enter Try.func76, Try.ntmps76
    go_wp2_with fail
    refine Calls.mono (EB.out _ (box_below w _)) ?_
    rintro e w1 ⟨rfl, b1⟩
    obtain ⟨d0, d1, d2, d3, h0, h1, h2, h3, zt⟩ := (Bx.new w 24 (.int .i64 k) (.string ⟨n.toArray⟩) (.int .i64 m) (.slice sa l.length sc)).later b1 (by simp)
    have BW : Hid (Below w.heap.size w w1) := (box_below w _).trans (b1.mono (by simp))
    clear b1
    go_wp2_with fail
    go_ret
    exact ⟨rfl, BW.out⟩
  | true =>
    rw [hb] at EB
    clear hb
    by_cases hk : k = 2
    · subst hk
      go_enter Try.func76, Try.ntmps76
      go_wp2_with fail
      refine Calls.mono (EB.out _ (box_below w _)) ?_
      rintro e w1 ⟨rfl, b1⟩
      obtain ⟨d0, d1, d2, d3, h0, h1, h2, h3, zt⟩ := (Bx.new w 24 (.int .i64 2) (.string ⟨n.toArray⟩) (.int .i64 m) (.slice sa l.length sc)).later b1 (by simp)
      have BW : Hid (Below w.heap.size w w1) := (box_below w _).trans (b1.mono (by simp))
      clear b1
      go_wp2_with fail
      go_ret
      exact ⟨ret_bool (by simp), BW.out⟩
    · have ek : (k == 2) = false := beq_eq_false_iff_ne.2 hk
      rw [ek]
      clear hk
      go_enter Try.func76, Try.ntmps76
      go_wp2_with fail
      refine Calls.mono (EB.out _ (box_below w _)) ?_
      rintro e w1 ⟨rfl, b1⟩
      obtain ⟨d0, d1, d2, d3, h0, h1, h2, h3, zt⟩ := (Bx.new w 24 (.int .i64 k) (.string ⟨n.toArray⟩) (.int .i64 m) (.slice sa l.length sc)).later b1 (by simp)
      have BW : Hid (Below w.heap.size w w1) := (box_below w _).trans (b1.mono (by simp))
      clear b1
      go_wp2_with fail
      go_ret
      exact ⟨rfl, BW.out⟩
set_option maxRecDepth 100000 in
set_option maxHeartbeats 1000000 in
theorem isPlain_any (k : Int) (n : List UInt8) (m : Int) (l : List Sx.Ex) (sa : Option Addr) (sc : Nat) (w : World) : Calls Try.prog 37 #[.agg #[.int .i64 k, .string ⟨n.toArray⟩, .int .i64 m, .slice sa l.length sc]] w fun e w' => e = .returned (.bool (Fo.isP (.mk k n m l))) ∧ Below w.heap.size w w' := by
  have EB : Hid (∀ W, Below w.heap.size w W → _) := fun W (_ : Below w.heap.size w W) => built_any k n m sa l.length sc W
  show Calls _ _ _ _ fun e w' => e = .returned (.bool (Fo.built k n l.length && ((k == 1) || (k == 2)))) ∧ Below w.heap.size w w'
  cases hb : Fo.built k n l.length with
  | false =>
    rw [hb] at EB
    clear hb
    go_enter Try.func37, Try.ntmps37
    go_wp2_with fail
    refine Calls.mono (EB.out _ (box_below w _)) ?_
    rintro e w1 ⟨rfl, b1⟩
    obtain ⟨d0, d1, d2, d3, h0, h1, h2, h3, zt⟩ := (Bx.new w 24 (.int .i64 k) (.string ⟨n.toArray⟩) (.int .i64 m) (.slice sa l.length sc)).later b1 (by simp)
    have BW : Hid (Below w.heap.size w w1) := (box_below w _).trans (b1.mono (by simp))
    clear b1
    go_wp2_with fail
    go_ret
    exact ⟨rfl, BW.out⟩
  | true =>
    rw [hb] at EB
    clear hb
    by_cases hk : k = 1
    · subst hk
      go_enter Try.func37, Try.ntmps37
      go_wp2_with fail
      refine Calls.mono (EB.out _ (box_below w _)) ?_
      rintro e w1 ⟨rfl, b1⟩
      obtain ⟨d0, d1, d2, d3, h0, h1, h2, h3, zt⟩ := (Bx.new w 24 (.int .i64 1) (.string ⟨n.toArray⟩) (.int .i64 m) (.slice sa l.length sc)).later b1 (by simp)
      have BW : Hid (Below w.heap.size w w1) := (box_below w _).trans (b1.mono (by simp))
      clear b1
      go_wp2_with fail
      go_ret
      exact ⟨rfl, BW.out⟩
    · have ek : (k == 1) = false := beq_eq_false_iff_ne.2 hk
      rw [ek]
      clear hk
      go_enter Try.func37, Try.ntmps37
      go_wp2_with fail
      refine Calls.mono (EB.out _ (box_below w _)) ?_
      rintro e w1 ⟨rfl, b1⟩
      obtain ⟨d0, d1, d2, d3, h0, h1, h2, h3, zt⟩ := (Bx.new w 24 (.int .i64 k) (.string ⟨n.toArray⟩) (.int .i64 m) (.slice sa l.length sc)).later b1 (by simp)
      have BW : Hid (Below w.heap.size w w1) := (box_below w _).trans (b1.mono (by simp))
      clear b1
      go_wp2_with fail
      go_ret
      exact ⟨ret_bool (by simp), BW.out⟩
end Go.Proofs.Ythadpkmbbimleaa
