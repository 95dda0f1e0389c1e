/- VmDeep, plain: how deep the procedures go. -/
import Derived.Test.YtodpdnidinnjjaaDoorTVmKn
namespace Go.Proofs.YtodpdnidinnjjaaDoor.Vm
open Go.RowKit
set_option linter.unusedVariables false
set_option linter.unusedSimpArgs false

def dm (n : Int) : Cd.Co := ⟨[⟨1, n, 0⟩, ⟨19, 1, 1⟩, ⟨24, 1, 3⟩, ⟨20, 0, 0⟩], 0, 0, false⟩
def df : Cd.Co := ⟨[⟨24, 0, 1⟩, ⟨2, 0, 0⟩, ⟨18, 7, 0⟩, ⟨2, 0, 0⟩, ⟨1, 1, 0⟩, ⟨8, 0, 0⟩, ⟨19, 1, 1⟩, ⟨20, 0, 0⟩], 1, 1, false⟩
def dk (n : Nat) (G : Gh) : Mc := beg [dm n, df] 0 0 [] 1000 G
/-- So many ticks, and then the end. -/
def tkd : Nat → Mc → Bool × Mc
  | 0, M => (!ticked M, step M)
  | k + 1, M => (ticked M && (tkd k (step M)).1, (tkd k (step M)).2)
theorem tkd_end : ∀ (k : Nat) (M : Mc), (tkd k M).1 = true → EndP M k
  | 0, M, h => ⟨fun j hj => by omega, by simpa [tkd, nth] using h⟩
  | k + 1, M, h => by
    simp only [tkd, Bool.and_eq_true] at h
    have ih := tkd_end k _ h.2
    refine ⟨fun j hj => ?_, ih.no⟩
    match j with
    | 0 => exact h.1
    | j + 1 => exact ih.tk j (by omega)
theorem tkd_nth : ∀ (k : Nat) (M : Mc), (tkd k M).2 = nth (k + 1) M
  | 0, M => rfl
  | k + 1, M => tkd_nth k (step M)
def dt (n : Nat) : Nat := if n + 2 > 50 then 49 else n + 2
def tst (n : Nat) (G : Gh) : Bool := (tkd (dt n) (dk n G)).1 && ((tkd (dt n) (dk n G)).2.ticks == dt n) && (if n + 2 > 50 then ((tkd (dt n) (dk n G)).2.events == [(4, 4)]) && ((tkd (dt n) (dk n G)).2.frames.length == 50) else ((tkd (dt n) (dk n G)).2.events == [(3, 0)]))
end Go.Proofs.YtodpdnidinnjjaaDoor.Vm
