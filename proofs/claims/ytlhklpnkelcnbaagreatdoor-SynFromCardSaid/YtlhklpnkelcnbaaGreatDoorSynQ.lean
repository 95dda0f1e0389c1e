/- Layer 3: right expressions, and what they are written as: plain functions (with fuel). -/
import Derived.Test.YtlhklpnkelcnbaaGreatDoorSynPl
import Derived.Test.YtlhklpnkelcnbaaGreatDoorKnown
namespace Go.Proofs.YtlhklpnkelcnbaaGreatDoor.Sx
open Go.RowKit

def exK : Ex → Int | .mk k _ _ _ => k
def rx : Nat → Ex → Bool
  | 0, _ => false
  | f + 1, .mk k n m l => l.all (rx f) &&
    (if k = 1 then decide (n = []) && decide (0 ≤ m) && decide (l.length = 0)
    else if k = 2 then decide (n = []) && (decide (m = 0) || decide (m = 1)) && decide (l.length = 0)
    else if k = 3 then Lx.isName n && decide (m = 0) && decide (l.length = 0)
    else if k = 4 then Lx.isName n && decide (m = 0) && decide (l.length = 1)
    else if k = 5 then isUn n && decide (m = 0) && decide (l.length = 1)
    else if k = 6 then decide (¬ bindsB n = 0) && decide (m = 0) && decide (l.length = 2)
    else false)
/-- The words of an expression, and how deep its deepest part is. -/
def wx : Nat → Ex → Nat → Option (List (List UInt8) × Nat)
  | 0, _, _ => none
  | f + 1, .mk k n m l, d =>
    if k = 1 then (if 0 ≤ m ∧ m ≤ 9223372036854775807 then some ([Lib.itoa m], d) else none)
    else if k = 2 then some ([if m = 1 then [116, 114, 117, 101] else [102, 97, 108, 115, 101]], d)
    else if k = 3 then some ([n], d)
    else if k = 4 then
      match l with
      | [a] => (match wx f a (d + 1) with
        | some (t, e) => some ([n, [91]] ++ t ++ [[93]], max d e)
        | none => none)
      | _ => none
    else if k = 5 then
      match l with
      | [a] => (match (if exK a = 6 then (match wx f a (d + 2) with
          | some (t, e) => some ([[40]] ++ t ++ [[41]], e)
          | none => none) else wx f a (d + 1)) with
        | some (t, e) => some ([n] ++ t, max d e)
        | none => none)
      | _ => none
    else if k = 6 then
      match l with
      | [a, b] => (match (if exK a = 6 then (match wx f a (d + 1) with
          | some (t, e) => some ([[40]] ++ t ++ [[41]], e)
          | none => none) else wx f a d) with
        | some (t, e) => (match (if exK b = 6 then (match wx f b (d + 1) with
            | some (u, e') => some ([[40]] ++ u ++ [[41]], e')
            | none => none) else wx f b d) with
          | some (u, e') => some (t ++ [n] ++ u, max (max d e) e')
          | none => none)
        | none => none)
      | _ => none
    else none
end Go.Proofs.YtlhklpnkelcnbaaGreatDoor.Sx
