/- Layer 3: reading an expression from tokens, as a plain function (with fuel). -/
import Derived.Test.YtlhklpnkelcnbaaGreatDoorLexS
namespace Go.Proofs.YtlhklpnkelcnbaaGreatDoor.Sx
open Go.RowKit

/-- An expression. -/
inductive Ex
  | mk (kind : Int) (name : List UInt8) (num : Int) (l : List Ex)
def bindsB (s : List UInt8) : Nat :=
  if s = [124, 124] then 1 else if s = [38, 38] then 2
  else if s = [61, 61] then 3 else if s = [33, 61] then 3 else if s = [60] then 3 else if s = [60, 61] then 3
  else if s = [43] then 4 else if s = [45] then 4
  else if s = [42] then 5 else if s = [47] then 5 else if s = [37] then 5 else 0
def isUn (s : List UInt8) : Bool := decide (s = [45]) || decide (s = [33])
def begE (t : Tok) : Bool := decide (t.1.kind = 2) || decide (t.1.kind = 1) || decide (t.1.text = [116, 114, 117, 101]) || decide (t.1.text = [102, 97, 108, 115, 101]) || decide (t.1.text = [40]) || isUn t.1.text
/-- What came of reading: an expression and the token behind it; or a place and an error. -/
inductive Rs
  | ok (x : Ex) (k : Nat)
  | bad (a e : Int)
def tx (ts : List Tok) (k : Nat) : List UInt8 := (ts.getD k tok0).1.text
def pl (ts : List Tok) (k : Nat) : Int := (ts.getD k tok0).2
/-- Behind what was read the text s must stand. -/
def shut (ts : List Tok) (s : List UInt8) (g : Ex → Ex) : Option Rs → Option Rs
  | some (.ok x k) => if tx ts k = s then some (.ok (g x) (k + 1)) else some (.bad (pl ts k) 30)
  | r => r
mutual
def un (ts : List Tok) : Nat → Nat → Nat → Option Rs
  | 0, _, _ => none
  | f + 1, d, k =>
    if begE (ts.getD k tok0) = false then some (.bad (pl ts k) 30)
    else if 60 < d then some (.bad (pl ts k) 31)
    else if (ts.getD k tok0).1.kind = 2 then some (.ok (.mk 1 [] (ts.getD k tok0).1.num []) (k + 1))
    else if (ts.getD k tok0).1.kind = 1 then
      (if tx ts (k + 1) = [91] then shut ts [93] (fun x => .mk 4 (tx ts k) 0 [x]) (bd ts f 1 (d + 1) (k + 2)) else some (.ok (.mk 3 (tx ts k) 0 []) (k + 1)))
    else if tx ts k = [116, 114, 117, 101] then some (.ok (.mk 2 [] 1 []) (k + 1))
    else if tx ts k = [102, 97, 108, 115, 101] then some (.ok (.mk 2 [] 0 []) (k + 1))
    else if tx ts k = [40] then shut ts [41] (fun x => x) (bd ts f 1 (d + 1) (k + 1))
    else match un ts f (d + 1) (k + 1) with
      | some (.ok x k') => some (.ok (.mk 5 (tx ts k) 0 [x]) k')
      | r => r
def bd (ts : List Tok) : Nat → Nat → Nat → Nat → Option Rs
  | 0, _, _, _ => none
  | f + 1, q, d, k =>
    if 5 < q then un ts f d k
    else match bd ts f (q + 1) d k with
      | some (.ok x k') => lp ts f q d x k'
      | r => r
def lp (ts : List Tok) : Nat → Nat → Nat → Ex → Nat → Option Rs
  | 0, _, _, _, _ => none
  | f + 1, q, d, x, k =>
    if bindsB (tx ts k) = q then
      match bd ts f (q + 1) d (k + 1) with
      | some (.ok y k') => if q = 3 then some (.ok (.mk 6 (tx ts k) 0 [x, y]) k') else lp ts f q d (.mk 6 (tx ts k) 0 [x, y]) k'
      | r => r
    else some (.ok x k)
end
end Go.Proofs.YtlhklpnkelcnbaaGreatDoor.Sx
